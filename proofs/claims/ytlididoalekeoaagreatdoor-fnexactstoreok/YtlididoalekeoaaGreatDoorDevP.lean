/- Plain facts on devices: what is read of a sector, what is written, flushed, what is there when the power is gone. -/
import Derived.Test.YtlididoalekeoaaGreatDoorPutA
namespace Go.Proofs.YtlididoalekeoaaGreatDoor
set_option maxRecDepth 4000
open Go.RowKit

/-- A write that waits: for which sector, which bytes. -/
structure WrD where
  n : Int
  b : List UInt8
/-- A device. -/
structure DevD where
  secs : List (List UInt8)
  cache : List WrD
  fuse : Int
  down : Bool
def zeroDev : DevD := ⟨[], [], 0, false⟩
def wrOk (k : Nat) (x : WrD) : Bool := decide (0 ≤ x.n ∧ x.n ≤ (k : Int) - 1) && decide (x.b.length ≤ 120)
def devOk (d : DevD) : Bool :=
  d.secs.all (fun s => decide (s.length ≤ 120)) && d.cache.all (wrOk d.secs.length) && decide (1 ≤ d.secs.length ∧ d.secs.length ≤ 64) && decide (d.cache.length ≤ 40) && decide (-1 ≤ d.fuse ∧ d.fuse ≤ 1000)
/-- One write, as it is read of sector n; all that wait, in order. -/
def readStep (n : Int) (s : List UInt8) (x : WrD) : List UInt8 := if x.n = n then x.b else s
def readL (n : Int) (s : List UInt8) (c : List WrD) : List UInt8 := c.foldl (readStep n) s
def secAt (d : DevD) (n : Int) : List UInt8 := d.secs.getD n.toNat []
def inSecs (d : DevD) (n : Int) : Bool := decide (0 ≤ n ∧ n ≤ (d.secs.length : Int) - 1)
def readD (d : DevD) (n : Int) : List UInt8 := if (devOk d && inSecs d n) = true then readL n (secAt d n) d.cache else []
/-- One write, and all of them, into the sectors. -/
def putStep (s : List (List UInt8)) (x : WrD) : List (List UInt8) := s.set x.n.toNat x.b
def putL (s : List (List UInt8)) (c : List WrD) : List (List UInt8) := c.foldl putStep s
def fuseDown (f : Int) : Int := if 0 < f then f - 1 else f
def writeOn (d : DevD) (n : Int) (b : List UInt8) : Bool := devOk d && !d.down && inSecs d n && decide (b.length ≤ 120) && decide (d.cache.length < 40)
def writeD (d : DevD) (n : Int) (b : List UInt8) : DevD :=
  if writeOn d n b = false then d else if d.fuse = 0 then { d with down := true, fuse := -1 } else { d with fuse := fuseDown d.fuse, cache := d.cache ++ [⟨n, b⟩] }
def flushD (d : DevD) : DevD :=
  if (devOk d && !d.down) = false then d else if d.fuse = 0 then { d with down := true, fuse := -1 } else { d with fuse := fuseDown d.fuse, secs := putL d.secs d.cache, cache := [] }
/-- So far as the bit of its place is set. -/
def keepBit (keep : Int) (i : Nat) : Bool := decide (keep / 2 ^ i % 2 = 1)
def keepL (keep : Int) (i : Nat) (s : List (List UInt8)) : List WrD → List (List UInt8)
  | [] => s
  | x :: r => keepL keep (i + 1) (if i < 30 ∧ keepBit keep i = true then putStep s x else s) r
def keepOf (keep : Int) : Int := if 0 ≤ keep ∧ keep ≤ 1073741823 then keep else 0
def fallD (d : DevD) (keep : Int) : DevD :=
  if devOk d = false then d else { secs := keepL (keepOf keep) 0 d.secs d.cache, cache := [], fuse := -1, down := false }

theorem putStep_len (s : List (List UInt8)) (x : WrD) : (putStep s x).length = s.length := by simp [putStep]
theorem putL_len : ∀ (c : List WrD) (s : List (List UInt8)), (putL s c).length = s.length
  | [], _ => rfl
  | x :: r, s => by
    show (putL (putStep s x) r).length = _
    rw [putL_len r, putStep_len]
/-- What was put in order is what is read. -/
theorem put_read (n : Nat) : ∀ (c : List WrD) (s : List (List UInt8)), n < s.length → (∀ x ∈ c, 0 ≤ x.n) → (putL s c).getD n [] = readL (n : Int) (s.getD n []) c
  | [], _, _, _ => rfl
  | x :: r, s, hn, h => by
    show (putL (putStep s x) r).getD n [] = readL (n : Int) (readStep (n : Int) (s.getD n []) x) r
    rw [put_read n r (putStep s x) (by rw [putStep_len]; exact hn) (fun y hy => h y (by simp [hy]))]
    have h0 := h x (by simp)
    have e : (putStep s x).getD n [] = readStep (n : Int) (s.getD n []) x := by
      unfold putStep readStep
      by_cases hx : x.n = (n : Int)
      · rw [if_pos hx, hx, Int.toNat_natCast]
        simp [List.getD, hn]
      · rw [if_neg hx]
        have hne : x.n.toNat ≠ n := by omega
        simp [List.getD, List.getElem?_set_ne hne]
    rw [e]
theorem read_snoc (n m : Int) (s b : List UInt8) (c : List WrD) : readL n s (c ++ [⟨m, b⟩]) = if m = n then b else readL n s c := by
  simp [readL, readStep, List.foldl_append]
theorem keepL_len (keep : Int) : ∀ (c : List WrD) (i : Nat) (s : List (List UInt8)), (keepL keep i s c).length = s.length
  | [], _, _ => rfl
  | x :: r, i, s => by
    unfold keepL
    rw [keepL_len keep r]
    split
    · exact putStep_len s x
    · rfl
/-- When the power is gone a sector has what it had, or what was written to it. -/
theorem keep_may (keep : Int) (n : Nat) : ∀ (c : List WrD) (i : Nat) (s : List (List UInt8)), n < s.length → (∀ x ∈ c, 0 ≤ x.n) →
    (keepL keep i s c).getD n [] = s.getD n [] ∨ ∃ x ∈ c, x.n = (n : Int) ∧ x.b = (keepL keep i s c).getD n []
  | [], _, _, _, _ => .inl rfl
  | x :: r, i, s, hn, h => by
    have h0 := h x (by simp)
    have hr : ∀ y ∈ r, 0 ≤ y.n := fun y hy => h y (by simp [hy])
    unfold keepL
    by_cases hk : i < 30 ∧ keepBit keep i = true
    · rw [if_pos hk]
      rcases keep_may keep n r (i + 1) (putStep s x) (by rw [putStep_len]; exact hn) hr with h1 | ⟨y, hy, h2, h3⟩
      · by_cases hx : x.n = (n : Int)
        · refine .inr ⟨x, by simp, hx, ?_⟩
          rw [h1]
          unfold putStep
          rw [hx, Int.toNat_natCast]
          simp [List.getD, hn]
        · refine .inl (h1.trans ?_)
          have hne : x.n.toNat ≠ n := by omega
          unfold putStep
          simp [List.getD, List.getElem?_set_ne hne]
      · exact .inr ⟨y, by simp [hy], h2, h3⟩
    · rw [if_neg hk]
      rcases keep_may keep n r (i + 1) s hn hr with h1 | ⟨y, hy, h2, h3⟩
      · exact .inl h1
      · exact .inr ⟨y, by simp [hy], h2, h3⟩

end Go.Proofs.YtlididoalekeoaaGreatDoor
