/- Parts of the proof, one behind the other. -/
import Derived.Test.YtlididoalekeoaaGreatDoorMxStoreOk12
import Derived.Test.YtlididoalekeoaaGreatDoorMxStoreOk13
import Derived.Test.YtlididoalekeoaaGreatDoorMxStoreOk14
import Derived.Test.YtlididoalekeoaaGreatDoorMxStoreOk1
import Derived.Test.YtlididoalekeoaaGreatDoorMxStoreOk11
import Derived.Deep.RegionHeld3
/- Parts of the proof, one behind the other. -/
/- From the reading of a law's argument to the words of Deep: Cell, Row, RowS, Mark, MarkS, Tab. -/
namespace Go.Proofs.YtlididoalekeoaaGreatDoor
set_option maxRecDepth 4000
open Go.RowKit Go.ChangeShapes Go.WideShapes Go.ChangeAt

theorem rdB_trod' : RdT 60 RdB := rdB_trod Tryz.underlying60 Tryz.underlying5 (by kernel_rfl)

theorem rdCell_trod : RdT 94 RdCell := by
  intro H enc W base sp held fuel cs x h
  obtain ⟨xs, m, _, _, hcl, hxl, hf⟩ := DataW.trod_struct Tryz.underlying94 h
  rw [show Tryz.prog.cellsOf 94 = 2 from by kernel_rfl] at hcl
  rcases cs with _ | ⟨c0, cs⟩
  · simp at hcl
  rcases cs with _ | ⟨c1, cs⟩
  · simp at hcl
  rcases cs with _ | ⟨c2, cs⟩
  rotate_left
  · simp at hcl
  obtain ⟨y0, hy0⟩ := get_some (l := xs) (j := 0) (by rw [hxl]; decide)
  have h0 := hf 0 _ rfl
  rw [hy0] at h0
  replace h0 : DataW.trod enc Tryz.prog W base sp held m 3 (List.take (Tryz.prog.cellsOf 3) (List.drop 0 _)) = some y0 := h0
  rw [show Tryz.prog.cellsOf 3 = 1 from by kernel_rfl] at h0
  replace h0 : DataW.trod enc Tryz.prog W base sp held m 3 [c0] = some y0 := h0
  obtain ⟨a0, e0, _⟩ := DataW.trod_int Tryz.underlying3 h0
  simp only [List.cons.injEq, and_true] at e0
  subst e0
  obtain ⟨y1, hy1⟩ := get_some (l := xs) (j := 1) (by rw [hxl]; decide)
  have h1 := hf 1 _ rfl
  rw [hy1] at h1
  replace h1 : DataW.trod enc Tryz.prog W base sp held m 60 (List.take (Tryz.prog.cellsOf 60) (List.drop 1 _)) = some y1 := h1
  rw [show Tryz.prog.cellsOf 60 = 1 from by kernel_rfl] at h1
  replace h1 : DataW.trod enc Tryz.prog W base sp held m 60 [c1] = some y1 := h1
  obtain ⟨a1, hr1⟩ := rdB_trod' enc W base sp held m _ y1 h1
  obtain ⟨x1, m1, d1, e1⟩ : ∃ x m d, c1 = .slice x m d := by obtain ⟨x, m, d, e, _⟩ := id hr1; simp only [List.cons.injEq, and_true] at e; exact ⟨x, m, d, e⟩
  subst e1
  exact ⟨(⟨a0, a1⟩ : CellD), x1, m1, d1, rfl, hr1⟩

theorem rdRow_trod : RdT 96 RdRow := by
  intro H enc W base sp held fuel cs x h
  obtain ⟨xs, m, _, _, hcl, hxl, hf⟩ := DataW.trod_struct Tryz.underlying96 h
  rw [show Tryz.prog.cellsOf 96 = 7 from by kernel_rfl] at hcl
  rcases cs with _ | ⟨c0, cs⟩
  · simp at hcl
  rcases cs with _ | ⟨c1, cs⟩
  · simp at hcl
  rcases cs with _ | ⟨c2, cs⟩
  · simp at hcl
  rcases cs with _ | ⟨c3, cs⟩
  · simp at hcl
  rcases cs with _ | ⟨c4, cs⟩
  · simp at hcl
  rcases cs with _ | ⟨c5, cs⟩
  · simp at hcl
  rcases cs with _ | ⟨c6, cs⟩
  · simp at hcl
  rcases cs with _ | ⟨c7, cs⟩
  rotate_left
  · simp at hcl
  obtain ⟨y0, hy0⟩ := get_some (l := xs) (j := 0) (by rw [hxl]; decide)
  have h0 := hf 0 _ rfl
  rw [hy0] at h0
  replace h0 : DataW.trod enc Tryz.prog W base sp held m 9 (List.take (Tryz.prog.cellsOf 9) (List.drop 0 _)) = some y0 := h0
  rw [show Tryz.prog.cellsOf 9 = 1 from by kernel_rfl] at h0
  replace h0 : DataW.trod enc Tryz.prog W base sp held m 9 [c0] = some y0 := h0
  obtain ⟨a0, e0, _, hz0⟩ := DataW.trod_string Tryz.underlying9 h0
  simp only [List.cons.injEq, and_true] at e0
  subst e0
  obtain ⟨y1, hy1⟩ := get_some (l := xs) (j := 1) (by rw [hxl]; decide)
  have h1 := hf 1 _ rfl
  rw [hy1] at h1
  replace h1 : DataW.trod enc Tryz.prog W base sp held m 94 (List.take (Tryz.prog.cellsOf 94) (List.drop 1 _)) = some y1 := h1
  rw [show Tryz.prog.cellsOf 94 = 2 from by kernel_rfl] at h1
  replace h1 : DataW.trod enc Tryz.prog W base sp held m 94 [c1, c2] = some y1 := h1
  obtain ⟨⟨a1, a2⟩, hr1⟩ := rdCell_trod enc W base sp held m _ y1 h1
  have hq1 := hr1
  simp only [RdCell] at hq1
  obtain ⟨x2, m2, d2, e1, _⟩ := hq1
  simp only [List.cons.injEq, and_true] at e1
  obtain ⟨rfl, rfl⟩ := e1
  obtain ⟨y2, hy2⟩ := get_some (l := xs) (j := 2) (by rw [hxl]; decide)
  have h2 := hf 2 _ rfl
  rw [hy2] at h2
  replace h2 : DataW.trod enc Tryz.prog W base sp held m 94 (List.take (Tryz.prog.cellsOf 94) (List.drop 3 _)) = some y2 := h2
  rw [show Tryz.prog.cellsOf 94 = 2 from by kernel_rfl] at h2
  replace h2 : DataW.trod enc Tryz.prog W base sp held m 94 [c3, c4] = some y2 := h2
  obtain ⟨⟨a3, a4⟩, hr3⟩ := rdCell_trod enc W base sp held m _ y2 h2
  have hq3 := hr3
  simp only [RdCell] at hq3
  obtain ⟨x4, m4, d4, e2, _⟩ := hq3
  simp only [List.cons.injEq, and_true] at e2
  obtain ⟨rfl, rfl⟩ := e2
  obtain ⟨y3, hy3⟩ := get_some (l := xs) (j := 3) (by rw [hxl]; decide)
  have h3 := hf 3 _ rfl
  rw [hy3] at h3
  replace h3 : DataW.trod enc Tryz.prog W base sp held m 3 (List.take (Tryz.prog.cellsOf 3) (List.drop 5 _)) = some y3 := h3
  rw [show Tryz.prog.cellsOf 3 = 1 from by kernel_rfl] at h3
  replace h3 : DataW.trod enc Tryz.prog W base sp held m 3 [c5] = some y3 := h3
  obtain ⟨a5, e3, _⟩ := DataW.trod_int Tryz.underlying3 h3
  simp only [List.cons.injEq, and_true] at e3
  subst e3
  obtain ⟨y4, hy4⟩ := get_some (l := xs) (j := 4) (by rw [hxl]; decide)
  have h4 := hf 4 _ rfl
  rw [hy4] at h4
  replace h4 : DataW.trod enc Tryz.prog W base sp held m 4 (List.take (Tryz.prog.cellsOf 4) (List.drop 6 _)) = some y4 := h4
  rw [show Tryz.prog.cellsOf 4 = 1 from by kernel_rfl] at h4
  replace h4 : DataW.trod enc Tryz.prog W base sp held m 4 [c6] = some y4 := h4
  obtain ⟨a6, e4, _⟩ := DataW.trod_bool Tryz.underlying4 h4
  simp only [List.cons.injEq, and_true] at e4
  subst e4
  exact ⟨(⟨a0, a1, a2, a3, a4, a5, a6⟩ : RowD), x2, m2, d2, x4, m4, d4, rfl, hz0, hr1, hr3⟩

theorem rdRowS_trod : RdT 26 RdRowS := rdS_trod Tryz.underlying26 (by kernel_rfl) (by omega) rdRow_trod rdRow_ok

theorem rdMark_trod : RdT 106 RdMark := by
  intro H enc W base sp held fuel cs x h
  obtain ⟨xs, m, _, _, hcl, hxl, hf⟩ := DataW.trod_struct Tryz.underlying106 h
  rw [show Tryz.prog.cellsOf 106 = 3 from by kernel_rfl] at hcl
  rcases cs with _ | ⟨c0, cs⟩
  · simp at hcl
  rcases cs with _ | ⟨c1, cs⟩
  · simp at hcl
  rcases cs with _ | ⟨c2, cs⟩
  · simp at hcl
  rcases cs with _ | ⟨c3, cs⟩
  rotate_left
  · simp at hcl
  obtain ⟨y0, hy0⟩ := get_some (l := xs) (j := 0) (by rw [hxl]; decide)
  have h0 := hf 0 _ rfl
  rw [hy0] at h0
  replace h0 : DataW.trod enc Tryz.prog W base sp held m 3 (List.take (Tryz.prog.cellsOf 3) (List.drop 0 _)) = some y0 := h0
  rw [show Tryz.prog.cellsOf 3 = 1 from by kernel_rfl] at h0
  replace h0 : DataW.trod enc Tryz.prog W base sp held m 3 [c0] = some y0 := h0
  obtain ⟨a0, e0, _⟩ := DataW.trod_int Tryz.underlying3 h0
  simp only [List.cons.injEq, and_true] at e0
  subst e0
  obtain ⟨y1, hy1⟩ := get_some (l := xs) (j := 1) (by rw [hxl]; decide)
  have h1 := hf 1 _ rfl
  rw [hy1] at h1
  replace h1 : DataW.trod enc Tryz.prog W base sp held m 3 (List.take (Tryz.prog.cellsOf 3) (List.drop 1 _)) = some y1 := h1
  rw [show Tryz.prog.cellsOf 3 = 1 from by kernel_rfl] at h1
  replace h1 : DataW.trod enc Tryz.prog W base sp held m 3 [c1] = some y1 := h1
  obtain ⟨a1, e1, _⟩ := DataW.trod_int Tryz.underlying3 h1
  simp only [List.cons.injEq, and_true] at e1
  subst e1
  obtain ⟨y2, hy2⟩ := get_some (l := xs) (j := 2) (by rw [hxl]; decide)
  have h2 := hf 2 _ rfl
  rw [hy2] at h2
  replace h2 : DataW.trod enc Tryz.prog W base sp held m 3 (List.take (Tryz.prog.cellsOf 3) (List.drop 2 _)) = some y2 := h2
  rw [show Tryz.prog.cellsOf 3 = 1 from by kernel_rfl] at h2
  replace h2 : DataW.trod enc Tryz.prog W base sp held m 3 [c2] = some y2 := h2
  obtain ⟨a2, e2, _⟩ := DataW.trod_int Tryz.underlying3 h2
  simp only [List.cons.injEq, and_true] at e2
  subst e2
  exact ⟨(⟨a0, a1, a2⟩ : MarkD), rfl⟩

theorem rdMarkS_trod : RdT 27 RdMarkS := rdS_trod Tryz.underlying27 (by kernel_rfl) (by omega) rdMark_trod rdMark_ok

theorem rdTab_trod : RdT 29 RdTab := by
  intro H enc W base sp held fuel cs x h
  obtain ⟨xs, m, _, _, hcl, hxl, hf⟩ := DataW.trod_struct Tryz.underlying29 h
  rw [show Tryz.prog.cellsOf 29 = 3 from by kernel_rfl] at hcl
  rcases cs with _ | ⟨c0, cs⟩
  · simp at hcl
  rcases cs with _ | ⟨c1, cs⟩
  · simp at hcl
  rcases cs with _ | ⟨c2, cs⟩
  · simp at hcl
  rcases cs with _ | ⟨c3, cs⟩
  rotate_left
  · simp at hcl
  obtain ⟨y0, hy0⟩ := get_some (l := xs) (j := 0) (by rw [hxl]; decide)
  have h0 := hf 0 _ rfl
  rw [hy0] at h0
  replace h0 : DataW.trod enc Tryz.prog W base sp held m 26 (List.take (Tryz.prog.cellsOf 26) (List.drop 0 _)) = some y0 := h0
  rw [show Tryz.prog.cellsOf 26 = 1 from by kernel_rfl] at h0
  replace h0 : DataW.trod enc Tryz.prog W base sp held m 26 [c0] = some y0 := h0
  obtain ⟨a0, hr0⟩ := rdRowS_trod enc W base sp held m _ y0 h0
  obtain ⟨x0, m0, d0, e0⟩ : ∃ x m d, c0 = .slice x m d := by obtain ⟨x, m, d, e, _⟩ := id hr0; simp only [List.cons.injEq, and_true] at e; exact ⟨x, m, d, e⟩
  subst e0
  obtain ⟨y1, hy1⟩ := get_some (l := xs) (j := 1) (by rw [hxl]; decide)
  have h1 := hf 1 _ rfl
  rw [hy1] at h1
  replace h1 : DataW.trod enc Tryz.prog W base sp held m 3 (List.take (Tryz.prog.cellsOf 3) (List.drop 1 _)) = some y1 := h1
  rw [show Tryz.prog.cellsOf 3 = 1 from by kernel_rfl] at h1
  replace h1 : DataW.trod enc Tryz.prog W base sp held m 3 [c1] = some y1 := h1
  obtain ⟨a1, e1, _⟩ := DataW.trod_int Tryz.underlying3 h1
  simp only [List.cons.injEq, and_true] at e1
  subst e1
  obtain ⟨y2, hy2⟩ := get_some (l := xs) (j := 2) (by rw [hxl]; decide)
  have h2 := hf 2 _ rfl
  rw [hy2] at h2
  replace h2 : DataW.trod enc Tryz.prog W base sp held m 27 (List.take (Tryz.prog.cellsOf 27) (List.drop 2 _)) = some y2 := h2
  rw [show Tryz.prog.cellsOf 27 = 1 from by kernel_rfl] at h2
  replace h2 : DataW.trod enc Tryz.prog W base sp held m 27 [c2] = some y2 := h2
  obtain ⟨a2, hr2⟩ := rdMarkS_trod enc W base sp held m _ y2 h2
  obtain ⟨x2, m2, d2, e2⟩ : ∃ x m d, c2 = .slice x m d := by obtain ⟨x, m, d, e, _⟩ := id hr2; simp only [List.cons.injEq, and_true] at e; exact ⟨x, m, d, e⟩
  subst e2
  exact ⟨(⟨a0, a1, a2⟩ : TabD), x0, m0, d0, x2, m2, d2, rfl, hr0, hr2⟩

end Go.Proofs.YtlididoalekeoaaGreatDoor
/- Plain facts on devices: what is read of a sector, what is written, flushed, what is there when the power is gone. -/
namespace Go.Proofs.YtlididoalekeoaaGreatDoor
set_option maxRecDepth 4000
open Go.RowKit

/-- A write that waits: for which sector, which bytes. -/
structure WrD where
  n : Int
  b : List UInt8
/-- A device. -/
structure DevD where
  secs : List (List UInt8)
  cache : List WrD
  fuse : Int
  down : Bool
def zeroDev : DevD := ⟨[], [], 0, false⟩
def wrOk (k : Nat) (x : WrD) : Bool := decide (0 ≤ x.n ∧ x.n ≤ (k : Int) - 1) && decide (x.b.length ≤ 120)
def devOk (d : DevD) : Bool :=
  d.secs.all (fun s => decide (s.length ≤ 120)) && d.cache.all (wrOk d.secs.length) && decide (1 ≤ d.secs.length ∧ d.secs.length ≤ 64) && decide (d.cache.length ≤ 40) && decide (-1 ≤ d.fuse ∧ d.fuse ≤ 1000)
/-- One write, as it is read of sector n; all that wait, in order. -/
def readStep (n : Int) (s : List UInt8) (x : WrD) : List UInt8 := if x.n = n then x.b else s
def readL (n : Int) (s : List UInt8) (c : List WrD) : List UInt8 := c.foldl (readStep n) s
def secAt (d : DevD) (n : Int) : List UInt8 := d.secs.getD n.toNat []
def inSecs (d : DevD) (n : Int) : Bool := decide (0 ≤ n ∧ n ≤ (d.secs.length : Int) - 1)
def readD (d : DevD) (n : Int) : List UInt8 := if (devOk d && inSecs d n) = true then readL n (secAt d n) d.cache else []
/-- One write, and all of them, into the sectors. -/
def putStep (s : List (List UInt8)) (x : WrD) : List (List UInt8) := s.set x.n.toNat x.b
def putL (s : List (List UInt8)) (c : List WrD) : List (List UInt8) := c.foldl putStep s
def fuseDown (f : Int) : Int := if 0 < f then f - 1 else f
def writeOn (d : DevD) (n : Int) (b : List UInt8) : Bool := devOk d && !d.down && inSecs d n && decide (b.length ≤ 120) && decide (d.cache.length < 40)
def writeD (d : DevD) (n : Int) (b : List UInt8) : DevD :=
  if writeOn d n b = false then d else if d.fuse = 0 then { d with down := true, fuse := -1 } else { d with fuse := fuseDown d.fuse, cache := d.cache ++ [⟨n, b⟩] }
def flushD (d : DevD) : DevD :=
  if (devOk d && !d.down) = false then d else if d.fuse = 0 then { d with down := true, fuse := -1 } else { d with fuse := fuseDown d.fuse, secs := putL d.secs d.cache, cache := [] }
/-- So far as the bit of its place is set. -/
def keepBit (keep : Int) (i : Nat) : Bool := decide (keep / 2 ^ i % 2 = 1)
def keepL (keep : Int) (i : Nat) (s : List (List UInt8)) : List WrD → List (List UInt8)
  | [] => s
  | x :: r => keepL keep (i + 1) (if i < 30 ∧ keepBit keep i = true then putStep s x else s) r
def keepOf (keep : Int) : Int := if 0 ≤ keep ∧ keep ≤ 1073741823 then keep else 0
def fallD (d : DevD) (keep : Int) : DevD :=
  if devOk d = false then d else { secs := keepL (keepOf keep) 0 d.secs d.cache, cache := [], fuse := -1, down := false }

theorem putStep_len (s : List (List UInt8)) (x : WrD) : (putStep s x).length = s.length := by simp [putStep]
theorem putL_len : ∀ (c : List WrD) (s : List (List UInt8)), (putL s c).length = s.length
  | [], _ => rfl
  | x :: r, s => by
    show (putL (putStep s x) r).length = _
    rw [putL_len r, putStep_len]
/-- What was put in order is what is read. -/
theorem put_read (n : Nat) : ∀ (c : List WrD) (s : List (List UInt8)), n < s.length → (∀ x ∈ c, 0 ≤ x.n) → (putL s c).getD n [] = readL (n : Int) (s.getD n []) c
  | [], _, _, _ => rfl
  | x :: r, s, hn, h => by
    show (putL (putStep s x) r).getD n [] = readL (n : Int) (readStep (n : Int) (s.getD n []) x) r
    rw [put_read n r (putStep s x) (by rw [putStep_len]; exact hn) (fun y hy => h y (by simp [hy]))]
    have h0 := h x (by simp)
    have e : (putStep s x).getD n [] = readStep (n : Int) (s.getD n []) x := by
      unfold putStep readStep
      by_cases hx : x.n = (n : Int)
      · rw [if_pos hx, hx, Int.toNat_natCast]
        simp [List.getD, hn]
      · rw [if_neg hx]
        have hne : x.n.toNat ≠ n := by omega
        simp [List.getD, List.getElem?_set_ne hne]
    rw [e]
theorem read_snoc (n m : Int) (s b : List UInt8) (c : List WrD) : readL n s (c ++ [⟨m, b⟩]) = if m = n then b else readL n s c := by
  simp [readL, readStep, List.foldl_append]
theorem keepL_len (keep : Int) : ∀ (c : List WrD) (i : Nat) (s : List (List UInt8)), (keepL keep i s c).length = s.length
  | [], _, _ => rfl
  | x :: r, i, s => by
    unfold keepL
    rw [keepL_len keep r]
    split
    · exact putStep_len s x
    · rfl
/-- When the power is gone a sector has what it had, or what was written to it. -/
theorem keep_may (keep : Int) (n : Nat) : ∀ (c : List WrD) (i : Nat) (s : List (List UInt8)), n < s.length → (∀ x ∈ c, 0 ≤ x.n) →
    (keepL keep i s c).getD n [] = s.getD n [] ∨ ∃ x ∈ c, x.n = (n : Int) ∧ x.b = (keepL keep i s c).getD n []
  | [], _, _, _, _ => .inl rfl
  | x :: r, i, s, hn, h => by
    have h0 := h x (by simp)
    have hr : ∀ y ∈ r, 0 ≤ y.n := fun y hy => h y (by simp [hy])
    unfold keepL
    by_cases hk : i < 30 ∧ keepBit keep i = true
    · rw [if_pos hk]
      rcases keep_may keep n r (i + 1) (putStep s x) (by rw [putStep_len]; exact hn) hr with h1 | ⟨y, hy, h2, h3⟩
      · by_cases hx : x.n = (n : Int)
        · refine .inr ⟨x, by simp, hx, ?_⟩
          rw [h1]
          unfold putStep
          rw [hx, Int.toNat_natCast]
          simp [List.getD, hn]
        · refine .inl (h1.trans ?_)
          have hne : x.n.toNat ≠ n := by omega
          unfold putStep
          simp [List.getD, List.getElem?_set_ne hne]
      · exact .inr ⟨y, by simp [hy], h2, h3⟩
    · rw [if_neg hk]
      rcases keep_may keep n r (i + 1) s hn hr with h1 | ⟨y, hy, h2, h3⟩
      · exact .inl h1
      · exact .inr ⟨y, by simp [hy], h2, h3⟩

end Go.Proofs.YtlididoalekeoaaGreatDoor
/- What the laws do with a list of ByteS. -/
namespace Go.Proofs.YtlididoalekeoaaGreatDoor
set_option maxRecDepth 4000
open Go.RowKit

abbrev RdByteSS : Rd (List (List UInt8)) := RdS 1 RdB
abbrev OwByteSS : Ow (List (List UInt8)) := OwS 1 60 OwB
theorem rdByteSS_ok : RdOk 1 RdByteSS := rdS_ok rdB_ok
theorem owByteSS_ok : OwOk 1 OwByteSS RdByteSS := owS_ok owB_ok
abbrev wtByteSS : List (List UInt8) → Nat := wtS wtB
abbrev ctByteSS : List (List UInt8) → Nat := ctS ctB
abbrev mkByteSS (m : Nat) : List (List UInt8) → List (List UInt8) := mkS mkB ctB m

theorem rdByteSS_parts {w : World} {ao : Option Addr} {len cap : Nat} {ls : List (List UInt8)} (h : RdByteSS w [.slice ao len cap] ls) : len ≤ maxLen ∧ ls.length = len ∧ (ls = [] ∨ ∃ b off, ao = some ⟨b, off, none⟩ ∧ ∀ j a, ls[j]? = some a → ∃ c, c.length = 1 ∧ RdB w c a ∧ ∀ i v, c[i]? = some v → w.cell? ⟨b, off + j * 1 + i, none⟩ = some v) := by
  obtain ⟨_, _, _, e, hm, hl, h⟩ := h
  simp only [List.cons.injEq, Value.slice.injEq, and_true] at e
  obtain ⟨rfl, rfl, rfl⟩ := e
  exact ⟨hm, hl, h⟩

set_option maxHeartbeats 4000000 in
theorem szByteSS_rd (ao : Option Addr) (len cap : Nat) (ls : List (List UInt8)) (n : Int) (w : World) (h : RdByteSS w [.slice ao len cap] ls) (hn : 0 ≤ n ∧ n ≤ 1048576) :
    Calls Tryz.prog 22 #[.slice ao len cap, .int .i64 n] w (SzOut n (wtByteSS ls) w) := by
  replace h := rdByteSS_parts h
  obtain ⟨hm, hl, h⟩ := h
  have hw : wrap64 (n - (len : Int)) = n - (len : Int) := by unfold maxLen at *; exact wrap64_in (by omega) (by omega)
  have hw0 := wtS_len wtB ls
  by_cases hc : n < (len : Int)
  · have h2 : n - (len : Int) < 0 := by omega
    have HE : Hd (n < ((wtByteSS ls : Nat) : Int) ∧ 0 ≤ n) := ⟨by show n < ((wtS wtB ls : Nat) : Int); omega, by omega⟩
    clear hm hl h hn hw0
    go_enter Tryz.func22, Tryz.ntmps22
    go_wp2
    go_ret
    exact ⟨⟨-1, rfl, by omega, by have := HE.out; omega, fun h => by omega⟩, Below.refl _ w⟩
  have h2 : ¬ n - (len : Int) < 0 := by omega
  have HN : Hd (ls.length = len ∧ 0 ≤ n ∧ n ≤ 1048576 ∧ (len : Int) ≤ n) := ⟨hl, hn.1, hn.2, by omega⟩
  have hlen : len ≤ 1048576 := by omega
  by_cases hz : len = 0
  · subst hz
    obtain rfl : ls = [] := List.eq_nil_of_length_eq_zero hl
    have hw1 : wrap64 n = n := by simpa using hw
    have h3 : ¬ n < 0 := by omega
    have hc1 : ((0 : Nat) : Int) = 0 := rfl
    clear hm hl h hn hw0 hc hlen hw h2
    go_enter Tryz.func22, Tryz.ntmps22
    go_wp2_with fail
    refine wp_loop_rounds 1 ?_
    rewrite [rounds_succ]
    go_wp2_with fail
    go_ret
    exact ⟨⟨_, rfl, by have := HN.out; omega, by omega, fun h => by show ((0 : Nat) : Int) + _ ≤ _; omega⟩, Below.refl _ w⟩
  rcases h with h | ⟨b, o, rfl, g⟩
  · exact absurd (by rw [← hl, h, List.length_nil]) hz
  have G : Hd (∀ j a, ls[j]? = some a → ∃ c, c.length = 1 ∧ RdB w c a ∧ ∀ i v, c[i]? = some v → w.cell? ⟨b, o + j * 1 + i, none⟩ = some v) := ⟨g⟩
  have HR : Hd (0 ≤ n - (len : Int) ∧ n - (len : Int) ≤ n ∧ ((len + ((ls.take 0).map wtB).sum : Nat) : Int) + (n - (len : Int)) ≤ n) := ⟨by omega, by omega, by have h7 : ((ls.take 0).map wtB).sum = 0 := rfl; omega⟩
  clear hm hl h2 hn hw0 g hz hc
  have h2 : ¬ n - (len : Int) < 0 := by have := HN.out; omega
  go_enter Tryz.func22, Tryz.ntmps22
  go_wp2
  go_loopw [1, 5] (fun q i wr => ∃ k : Nat, k ≤ len ∧ i = .int .i64 k ∧ ∃ l : Int, q = .int .i64 l ∧ Hd (Below w.heap.size w wr) ∧ Hd (0 ≤ l ∧ l ≤ n ∧ ((len + ((ls.take k).map wtB).sum : Nat) : Int) + l ≤ n)) (fun _ i _ => len - (intOf i).toNat)
  case atStart => exact ⟨0, Nat.zero_le _, rfl, _, rfl, ⟨Below.refl _ w⟩, HR⟩
  case round =>
    obtain ⟨k, hk, rfl, l, rfl, HB, HL⟩ := hrel
    clear HR h2
    by_cases hlt : k < len
    · have hlt' : (k : Int) < (len : Int) := by omega
      have h0 : (0 : Int) ≤ (k : Int) := by omega
      obtain ⟨a, ha⟩ := get_some (l := ls) (j := k) (by rw [HN.out.1]; exact hlt)
      obtain ⟨c, hcn, hR, hcell⟩ := G.out k a ha
      have HS : Hd (((ls.take (k + 1)).map wtB).sum = ((ls.take k).map wtB).sum + wtB a) := ⟨wt_take_succ wtB ha⟩
      replace hR := rdB_ok.below hR HB.out
      generalize a = l0 at *
      obtain ⟨x0, m0, d0, rfl, _, _⟩ := id hR
      have t0 := cell_below (hcell 0 _ rfl) HB.out
      simp only [Nat.mul_one, Nat.add_zero] at t0
      have HRd : Hd (RdB wr [.slice x0 m0 d0] l0) := ⟨hR⟩
      clear hR hcell hcn ha
      go_wp2_with fail
      refine (szByteS_rd x0 m0 d0 l0 l _ HRd.out ⟨HL.out.1, by have := HL.out.2.1; have := HN.out; omega⟩).mono ?_
      rintro e w1 ⟨⟨s, rfl, hs1, hs2, hs3⟩, hb⟩
      have HB1 : Hd (Below w.heap.size w w1) := ⟨Below.next HB.out hb⟩
      have HS1 : Hd (-1 ≤ s ∧ s ≤ n ∧ (0 ≤ s → ((len + ((ls.take (k + 1)).map wtB).sum : Nat) : Int) + s ≤ n)) := ⟨hs1, by have := HL.out; omega, fun hh => by have := hs3 hh; have := HL.out; rw [HS.out]; omega⟩
      clear hb HB HRd HL HS hs1 hs2 hs3 t0
      by_cases hz : s < 0
      · go_wp2_with fail
        go_ret
        exact ⟨⟨-1, rfl, by omega, by have := HN.out; omega, fun h => by omega⟩, HB1.out⟩
      · have HL1 : Hd (0 ≤ s ∧ s ≤ n ∧ ((len + ((ls.take (k + 1)).map wtB).sum : Nat) : Int) + s ≤ n) := ⟨by omega, HS1.out.2.1, HS1.out.2.2 (by omega)⟩
        clear HS1
        go_wp2_with fail
        go_roundw
        case rel => exact ⟨k + 1, by omega, by go_num, s, rfl, HB1, HL1⟩
        case measure => simp [intOf]; omega
    · have HF : Hd (0 ≤ l ∧ l ≤ n ∧ ((wtByteSS ls : Nat) : Int) + l ≤ n) := ⟨HL.out.1, HL.out.2.1, by
        have h1 := HL.out.2.2
        have h2 := HN.out.1
        rw [List.take_of_length_le (by omega)] at h1
        show ((ls.length + (ls.map wtB).sum : Nat) : Int) + l ≤ n
        omega⟩
      clear HL
      go_wp2
      go_ret
      exact ⟨⟨l, rfl, by have := HF.out; omega, HF.out.2.1, fun _ => HF.out.2.2⟩, HB.out⟩

set_option maxHeartbeats 4000000 in
theorem eqByteSS_rd (a1 : Option Addr) (n1 c1 : Nat) (a2 : Option Addr) (n2 c2 : Nat) (ls : List (List UInt8)) (w : World) (h1 : RdByteSS w [.slice a1 n1 c1] ls) (h2 : RdByteSS w [.slice a2 n2 c2] ls) (hw : wtByteSS ls ≤ 1073741824) :
    Calls Tryz.prog 41 #[.slice a1 n1 c1, .slice a2 n2 c2] w fun e w' => e = .returned (.bool true) ∧ Below w.heap.size w w' := by
  replace h1 := rdByteSS_parts h1
  replace h2 := rdByteSS_parts h2
  obtain ⟨_, hl1, h1⟩ := h1
  obtain ⟨_, hl2, h2⟩ := h2
  obtain rfl : n1 = n2 := hl1.symm.trans hl2
  have hw7 : wtS wtB ls ≤ 1073741824 := hw
  have hlen : n1 ≤ 1073741824 := by have := wtS_len wtB ls; omega
  have heq : ((n1 : Int) != (n1 : Int)) = false := by simp
  by_cases hz : n1 = 0
  · subst hz
    clear h1 h2 hl1 hl2 hw hw7
    go_enter Tryz.func41, Tryz.ntmps41
    go_wp2_with fail
    refine wp_loop_rounds 1 ?_
    rewrite [rounds_succ]
    go_wp2_with fail
    go_ret
    exact ⟨rfl, Below.refl _ w⟩
  rcases h1 with h | ⟨b1, o1, rfl, g1⟩
  · exact absurd (by rw [← hl1, h, List.length_nil]) hz
  rcases h2 with h | ⟨b2, o2, rfl, g2⟩
  · exact absurd (by rw [← hl1, h, List.length_nil]) hz
  have G1 : Hd (∀ j a, ls[j]? = some a → ∃ c, c.length = 1 ∧ RdB w c a ∧ ∀ i v, c[i]? = some v → w.cell? ⟨b1, o1 + j * 1 + i, none⟩ = some v) := ⟨g1⟩
  have G2 : Hd (∀ j a, ls[j]? = some a → ∃ c, c.length = 1 ∧ RdB w c a ∧ ∀ i v, c[i]? = some v → w.cell? ⟨b2, o2 + j * 1 + i, none⟩ = some v) := ⟨g2⟩
  have HN : Hd (ls.length = n1 ∧ wtByteSS ls ≤ 1073741824) := ⟨hl1, hw⟩
  clear g1 g2 hl1 hl2 hw hw7 hz
  go_enter Tryz.func41, Tryz.ntmps41
  go_wp2_with fail
  go_loopw [5] (fun i wr => ∃ k : Nat, k ≤ n1 ∧ i = .int .i64 k ∧ Hd (Below w.heap.size w wr)) (fun i _ => n1 - (intOf i).toNat)
  case atStart => exact ⟨0, Nat.zero_le _, rfl, ⟨Below.refl _ _⟩⟩
  case round =>
    obtain ⟨k, hk, rfl, HB⟩ := hrel
    by_cases hlt : k < n1
    · have hlt' : (k : Int) < (n1 : Int) := by omega
      have h0 : (0 : Int) ≤ (k : Int) := by omega
      obtain ⟨a, ha⟩ := get_some (l := ls) (j := k) (by rw [HN.out.1]; exact hlt)
      obtain ⟨c, hcn, hR, hcell⟩ := G1.out k a ha
      obtain ⟨c', hcn', hR', hcell'⟩ := G2.out k a ha
      have HW : Hd (wtB a ≤ 1073741824) := ⟨by have h7 := wtS_le wtB ha; have h8 : wtS wtB ls ≤ 1073741824 := HN.out.2; omega⟩
      replace hR := rdB_ok.below hR HB.out
      replace hR' := rdB_ok.below hR' HB.out
      generalize a = l0 at *
      obtain ⟨x0, m0, d0, rfl, _, _⟩ := id hR
      have t0 := cell_below (hcell 0 _ rfl) HB.out
      simp only [Nat.mul_one, Nat.add_zero] at t0
      obtain ⟨y0, n0, e0, rfl, _, _⟩ := id hR'
      have u0 := cell_below (hcell' 0 _ rfl) HB.out
      simp only [Nat.mul_one, Nat.add_zero] at u0
      have Q : Hd (RdB wr [.slice x0 m0 d0] l0 ∧ RdB wr [.slice y0 n0 e0] l0 ∧ wtB l0 ≤ 1073741824) := ⟨hR, hR', HW.out⟩
      clear hR hR' hcell hcell' hcn hcn' ha HW
      go_wp2_with fail
      have KK : Hd (∀ w', Below wr.heap.size wr w' → (w'.cell? ⟨b1, o1 + k, none⟩ = some (.slice x0 m0 d0) ∧ w'.cell? ⟨b2, o2 + k, none⟩ = some (.slice y0 n0 e0))) := ⟨fun w' hb => ⟨cell_below t0 hb, cell_below u0 hb⟩⟩
      have D0 : Hd (Below wr.heap.size wr wr.drew) := ⟨(Below.refl _ wr).drew⟩
      go_region_held (fun w' => w'.cell? ⟨b1, o1 + k, none⟩ = some (.slice x0 m0 d0) ∧ w'.cell? ⟨b2, o2 + k, none⟩ = some (.slice y0 n0 e0)) (first | (with_reducible exact KK.out _ D1.out) | (with_reducible exact KK.out _ D0.out))
        (first | (go_at_call 66; refine (eqByteS_rd x0 m0 d0 y0 n0 e0 l0 _ (rdB_ok.below Q.out.1 D0.out) (rdB_ok.below Q.out.2.1 D0.out) Q.out.2.2).mono ?_; rintro e wv ⟨rfl, hB⟩; have D1 : Hd (Below wr.heap.size wr wv) := ⟨Below.next D0.out hB⟩; clear hB))
      have HZ : Hd (Below w.heap.size w wv) := ⟨Below.next HB.out D1.out⟩
      clear KK D0 D1 Q HB t0 u0
      go_wp2_with fail
      go_roundw
      case rel => exact ⟨k + 1, by omega, by go_num, HZ⟩
      case measure => simp [intOf]; omega
    · go_wp2
      go_ret
      exact ⟨rfl, HB.out⟩

theorem infoByteSS : (Tryz.prog.info? 60).map (fun i => (i.zero, i.size, i.bytes)) = some (some (.slice none 0 0), 1, 24) := by kernel_rfl

set_option maxHeartbeats 4000000 in
theorem toByteSS_rd (ao : Option Addr) (len cap : Nat) (ls : List (List UInt8)) (w : World) (h : RdByteSS w [.slice ao len cap] ls) (hw : wtByteSS ls ≤ 1073741824) :
    Calls Tryz.prog 28 #[.slice ao len cap] w (AnsSl OwByteSS ls w) := by
  replace h := rdByteSS_parts h
  obtain ⟨_, hl, h⟩ := h
  have hw7 : wtS wtB ls ≤ 1073741824 := hw
  have hlen : len ≤ 1073741824 := by have := wtS_len wtB ls; omega
  obtain ⟨i0, hi, hz0, hz1, hz2⟩ := info_parts infoByteSS
  by_cases hz : len = 0
  · subst hz
    obtain rfl : ls = [] := List.eq_nil_of_length_eq_zero hl
    clear h hl hw hw7
    go_enter Tryz.func28, Tryz.ntmps28
    go_wp2_with (at_make; refine wpList_make_full _ rfl _ _ 22 rfl w.heap.size 60 i0 (.slice none 0 0) 1 Tryz.underlying22 hi hz0 hz1 _ _ _ _ 0 rfl rfl rfl rfl ?b1 ?b2 ?b3 ?_)
    case b1 => rw [hz2]; omega
    case b2 => unfold maxLen; omega
    case b3 => exact Nat.le_refl _
    intro w1 hown hgrow
    have HW : Hd (OwByteSS w1 [.slice (some ⟨w.heap.size, 0, none⟩) 0 0] (fun x => x = w.heap.size) [] ∧ Below w.heap.size w w1) := ⟨by
      refine ⟨⟨_, [], fun _ _ => False, rfl, ?_⟩, (Below.refl _ w).grown hgrow (Nat.le_refl _) (fun _ h => by cases h)⟩
      have hlt := (hown.lt w.heap.size rfl).2
      have h7 : w1.ownsRow 0 60 1 (.slice (some ⟨w.heap.size, 0, none⟩) 0 0) 0 (List.replicate 0 ([.slice none 0 0] : List Value)).flatten := by
        have h8 := ownsRow_base hown (Nat.zero_le _)
        exact ⟨by simp, h8.2.imp id (fun ⟨g, c, cur, e1, e2, e3, e4, e5, e6, _⟩ => ⟨g, c, cur, e1, e2, e3, e4, e5, e6, by simp⟩)⟩
      exact owP_made (z := ([] : List UInt8)) h7 rfl hlt (owB_nil _)⟩
    clear hown hgrow
    go_wp2_with fail
    refine wp_loop_rounds 1 ?_
    rewrite [rounds_succ]
    go_wp2_with fail
    go_ret
    exact ⟨⟨_, _, _, rfl, _, HW.out.1, fun x hx => by rw [hx]; exact Nat.le_refl _⟩, HW.out.2⟩
  rcases h with h | ⟨b, o, rfl, g⟩
  · exact absurd (by rw [← hl, h, List.length_nil]) hz
  have G : Hd (∀ j a, ls[j]? = some a → ∃ c, c.length = 1 ∧ RdB w c a ∧ ∀ i v, c[i]? = some v → w.cell? ⟨b, o + j * 1 + i, none⟩ = some v) := ⟨g⟩
  have HN : Hd (ls.length = len ∧ wtByteSS ls ≤ 1073741824) := ⟨hl, hw⟩
  clear g hl hw hw7 hz
  go_enter Tryz.func28, Tryz.ntmps28
  go_wp2_with (at_make; refine wpList_make_full _ rfl _ _ 22 rfl w.heap.size 60 i0 (.slice none 0 0) 1 Tryz.underlying22 hi hz0 hz1 _ _ _ _ len rfl rfl rfl rfl ?b1 ?b2 ?b3 ?_)
  case b1 => rw [hz2]; omega
  case b2 => unfold maxLen; omega
  case b3 => exact Nat.le_refl _
  intro w1 hown hgrow
  have HW : Hd (∃ css Fs F, OwP 1 60 OwB w1 (.slice (some ⟨w.heap.size, 0, none⟩) len len) css Fs F (fillS ls ([] : List UInt8) (0)) ∧ (∀ x, F x → w.heap.size ≤ x) ∧ Below w.heap.size w w1) := ⟨by
    have hlt := (hown.lt w.heap.size rfl).2
    have e7 := made_flat ([.slice none 0 0] : List Value) (n := 1) rfl (by omega) len
    try simp only [Nat.mul_one] at e7
    have h7 : w1.ownsRow 0 60 1 (.slice (some ⟨w.heap.size, 0, none⟩) len len) len (List.replicate len ([.slice none 0 0] : List Value)).flatten := by
      rw [← e7]; exact ownsRow_base hown (Nat.zero_le _)
    rw [fillS_zero, HN.out.1]
    exact ⟨_, _, _, owP_made h7 rfl hlt (owB_nil _), fun x hx => by rw [hx]; exact Nat.le_refl _, (Below.refl _ w).grown hgrow (Nat.le_refl _) (fun _ h => by cases h)⟩⟩
  clear hown hgrow
  go_wp2_with fail
  go_loopw [4] (fun i wr => ∃ k : Nat, k ≤ len ∧ i = .int .i64 k ∧ Hd (∃ css Fs F, OwP 1 60 OwB wr (.slice (some ⟨w.heap.size, 0, none⟩) len len) css Fs F (fillS ls ([] : List UInt8) (k)) ∧ (∀ x, F x → w.heap.size ≤ x) ∧ Below w.heap.size w wr)) (fun i _ => len - (intOf i).toNat)
  case atStart => exact ⟨0, Nat.zero_le _, rfl, HW⟩
  case round =>
    obtain ⟨k, hk, rfl, HK⟩ := hrel
    clear HW
    by_cases hlt : k < len
    · have hlt' : (k : Int) < (len : Int) := by omega
      have h0 : (0 : Int) ≤ (k : Int) := by omega
      obtain ⟨css, Fs, F, P, hFb, hB⟩ := HK.out
      obtain ⟨a, ha⟩ := get_some (l := ls) (j := k) (by rw [HN.out.1]; exact hlt)
      obtain ⟨c, hcn, hR, hcell⟩ := G.out k a ha
      replace hR := rdB_ok.below hR hB
      have HW9 : Hd (wtB a ≤ 1073741824) := ⟨by have h7 := wtS_le wtB ha; have h8 : wtS wtB ls ≤ 1073741824 := HN.out.2; omega⟩
      have hkl : k < ls.length := by rw [HN.out.1]; exact hlt
      have hml : (fillS ls ([] : List UInt8) k).length = len := by rw [fillS_len ls _ (by omega), HN.out.1]
      obtain ⟨co, hco, hcon, hEo⟩ := P.cellsAt (fillS_get ls ([] : List UInt8) hkl)
      have hset : (fillS ls ([] : List UInt8) k).set k a = fillS ls ([] : List UInt8) (k + 1) := fillS_set ls _ ha
      have HQ : Hd (OwP 1 60 OwB wr (.slice (some ⟨w.heap.size, 0, none⟩) len len) css Fs F (fillS ls ([] : List UInt8) k) ∧ (∀ x, F x → w.heap.size ≤ x) ∧ Below w.heap.size w wr ∧ (fillS ls ([] : List UInt8) k).length = len ∧ (fillS ls ([] : List UInt8) k).set k a = fillS ls ([] : List UInt8) (k + 1) ∧ css[k]? = some co ∧ co.length = 1 ∧ css.length = len) := ⟨P, hFb, hB, hml, hset, hco, hcon, by rw [P.size, hml]⟩
      generalize a = l0 at *
      obtain ⟨x0, m0, d0, rfl, _, _⟩ := id hR
      have t0 := cell_below (hcell 0 _ rfl) hB
      simp only [Nat.mul_one, Nat.add_zero] at t0
      have QR : Hd (RdB wr [.slice x0 m0 d0] l0) := ⟨hR⟩
      clear hR hcell hcn ha P hFb hB hkl hml hco hcon hEo hset HK
      go_wp2_with fail
      refine (toByteS_rd x0 m0 d0 l0 _ QR.out HW9.out).mono ?_
      rintro e w1 ⟨⟨y0, n0, e0, rfl, G1, hE, hG⟩, hb⟩
      have hql := HQ.out.2.2.2.2.2.2.1
      have O0 : Hd (w1.ownsRow 0 60 1 (.slice (some ⟨w.heap.size, 0, none⟩) len len) len (css.set k co).flatten) := ⟨by rw [set_self HQ.out.2.2.2.2.2.1]; have h7 := HQ.out.1.own; rw [HQ.out.2.2.2.1] at h7; exact ownsRow_keep h7 (fun b hb2 => hb.block b (h7.lt b hb2).2)⟩
      rcases co with _ | ⟨v0, co⟩
      · simp at hql
      rcases co with _ | ⟨v9, co⟩
      rotate_left
      · simp at hql
      clear hql
      have t0 := ownsRow_cell O0.out rfl (by rw [HQ.out.2.2.2.2.2.2.2]; exact hlt) HQ.out.2.2.2.2.2.2.2 HQ.out.1.lens rfl (i := 0) rfl
      have f0 := ownsRow_free O0.out rfl (k)
      simp only [Nat.mul_one, Nat.add_zero] at t0
      have O1 : Hd ((w1.setCell ⟨w.heap.size, k, none⟩ (.slice y0 n0 e0)).ownsRow 0 60 1 (.slice (some ⟨w.heap.size, 0, none⟩) len len) len (css.set k [.slice y0 n0 e0]).flatten) := ⟨by have h7 := ownsRow_put (u := (.slice y0 n0 e0 : Value)) O0.out rfl (by rw [HQ.out.2.2.2.2.2.2.2]; exact hlt) HQ.out.1.lens rfl (i := 0) (by omega) rfl; simp only [Nat.mul_one, Nat.add_zero] at h7; exact h7⟩
      have HX : Hd (∃ css Fs F, OwP 1 60 OwB (w1.setCell ⟨w.heap.size, k, none⟩ (.slice y0 n0 e0)) (.slice (some ⟨w.heap.size, 0, none⟩) len len) css Fs F (fillS ls ([] : List UInt8) (k + 1)) ∧ (∀ x, F x → w.heap.size ≤ x) ∧ Below w.heap.size w (w1.setCell ⟨w.heap.size, k, none⟩ (.slice y0 n0 e0))) := ⟨by
        have hgk : w.heap.size < wr.heap.size := (HQ.out.1.own.lt w.heap.size rfl).2
        have hE2 : OwB (w1.setCell ⟨w.heap.size, k, none⟩ (.slice y0 n0 e0)) [.slice y0 n0 e0] G1 l0 := owB_ok.keep hE (fun b hb2 => block_set (rfl) (by have := hG b hb2; omega))
        have hP := HQ.out.1.put owB_ok (by rw [HQ.out.2.2.2.1]; exact hlt) (by rw [HQ.out.2.2.2.1]; exact O1.out) rfl hE2 (fun x hx => .inr (hG x hx)) (fun x hx h1 h2 => (block_set (rfl) (fun e => h1 (by rw [e]; rfl))).trans (hb.block x (HQ.out.1.lt x hx))) (by simp only [World.size_setCell]; exact hb.size)
        rw [HQ.out.2.2.2.2.1] at hP
        exact ⟨_, _, _, hP, fun x hx => hx.elim (HQ.out.2.1 x) (fun h => by have := hG x h; omega), bset (Below.trans HQ.out.2.2.1 (hb.mono HQ.out.2.2.1.size)) _ (Nat.le_refl _)⟩⟩
      clear HQ QR HW9 hE hG hb O0 O1
      go_wp2_with fail
      go_roundw
      case rel => exact ⟨k + 1, by omega, by go_num, HX⟩
      case measure => simp [intOf]; omega
    · have e : k = ls.length := by have := HN.out.1; omega
      have HF : Hd (AnsSl OwByteSS ls w (.returned (.slice (some ⟨w.heap.size, 0, none⟩) len len)) wr) := ⟨by
        obtain ⟨css, Fs, F, P, hFb, hB⟩ := HK.out
        rw [e, fillS_all] at P
        exact ⟨⟨_, _, _, rfl, F, ⟨_, css, Fs, rfl, P⟩, hFb⟩, hB⟩⟩
      clear e HK
      go_wp2
      go_ret
      exact HF.out

end Go.Proofs.YtlididoalekeoaaGreatDoor
/- What the laws do with a Wr. -/
namespace Go.Proofs.YtlididoalekeoaaGreatDoor
set_option maxRecDepth 4000
open Go.RowKit

def RdWr : Rd WrD := fun w cs a => ∃ (x1 : Option Addr) (m1 d1 : Nat), cs = [.int .i64 a.n, .slice x1 m1 d1] ∧ RdB w [.slice x1 m1 d1] a.b
def OwWr : Ow WrD := fun w cs F a => ∃ (x1 : Option Addr) (m1 d1 : Nat) (F1 : Fp), cs = [.int .i64 a.n, .slice x1 m1 d1] ∧ OwB w [.slice x1 m1 d1] F1 a.b ∧ (∀ x, F x ↔ F1 x)
theorem rdWr_ok : RdOk 2 RdWr := ⟨fun ⟨_, _, _, e, _⟩ => by rw [e]; rfl, fun ⟨x1, m1, d1, e, r1⟩ hs => ⟨x1, m1, d1, e, rdB_ok.keep r1 hs⟩⟩
theorem owWr_ok : OwOk 2 OwWr RdWr where
  len := fun ⟨_, _, _, _, e, _⟩ => by rw [e]; rfl
  lt := fun {w _ F _} ⟨x1, m1, d1, F1, e, r1, hF⟩ x hx => by
    exact owB_ok.lt r1 x ((hF x).1 hx)
  keep := fun ⟨x1, m1, d1, F1, e, r1, hF⟩ hs => ⟨x1, m1, d1, F1, e, owB_ok.keep r1 (fun b hb => hs b ((hF b).2 (hb))), hF⟩
  rd := fun ⟨x1, m1, d1, F1, e, r1, _⟩ => ⟨x1, m1, d1, e, owB_ok.rd r1⟩
def wtWr (a : WrD) : Nat := wtB a.b
def ctWr (a : WrD) : Nat := 1 + ctB a.b
def mkWr (m : Nat) (a : WrD) : WrD := (⟨((m : Nat) : Int), mkB (m + 1) a.b⟩ : WrD)
def cuWr (a : WrD) : Nat := ctB a.b
def mtWr (m : Nat) (a : WrD) : WrD := (⟨a.n, mkB (m) a.b⟩ : WrD)

set_option maxHeartbeats 4000000 in
theorem szWr_rd (cs : List Value) (a : WrD) (n : Int) (w : World) (h : RdWr w cs a) (hn : 0 ≤ n ∧ n ≤ 1048576) :
    Calls Tryz.prog 46 #[.agg cs.toArray, .int .i64 n] w (SzOut n (wtWr a) w) := by
  obtain ⟨l0, l1⟩ := a
  simp only [RdWr] at h
  obtain ⟨x1, m1, d1, rfl, r1⟩ := h
  unfold wtWr
  dsimp only
  have R1 : Hd (RdB w [.slice x1 m1 d1] l1) := ⟨r1⟩
  have N0 : Hd (0 ≤ n ∧ n ≤ 1048576) := ⟨hn⟩
  clear hn r1
  go_enter Tryz.func46, Tryz.ntmps46
  go_wp2_with fail
  refine (szByteS_rd x1 m1 d1 l1 n _ (rdB_ok.below R1.out (below_lit w _)) N0.out).mono ?_
  rintro e w1 ⟨⟨s1, rfl, hs1, hs2, hs3⟩, hb⟩
  have K1 : Hd (w1.heap[w.heap.size]? = some (.cells #[.int .i64 l0, .slice x1 m1 d1] 92 (0, 0))) := ⟨(hb.block _ (by simp)).trans (heap_alloc_new w _)⟩
  have B1 : Hd (Below w.heap.size w w1) := ⟨Below.next (below_lit w _) hb⟩
  have N1 : Hd (-1 ≤ s1 ∧ s1 ≤ n ∧ n ≤ 1048576 ∧ (0 ≤ s1 → ((wtB l1 : Nat) : Int) + s1 ≤ n)) := ⟨by have := N0.out; refine ⟨hs1, by omega, by omega, fun hh => ?_⟩; have := hs3 hh; omega⟩
  clear hs1 hs2 hs3 hb
  by_cases hz : s1 < 0
  · go_wp2_with fail
    go_ret
    exact ⟨⟨-1, rfl, by omega, by have := N0.out; omega, fun h => by omega⟩, B1.out⟩
  go_wp2_with fail
  go_ret
  exact ⟨⟨s1, rfl, N1.out.1, N1.out.2.1, N1.out.2.2.2⟩, B1.out⟩

set_option maxHeartbeats 4000000 in
theorem eqWr_rd (c1 c2 : List Value) (a : WrD) (w : World) (h1 : RdWr w c1 a) (h2 : RdWr w c2 a) (hw : wtWr a ≤ 1073741824) :
    Calls Tryz.prog 67 #[.agg c1.toArray, .agg c2.toArray] w fun e w' => e = .returned (.bool true) ∧ Below w.heap.size w w' := by
  obtain ⟨l0, l1⟩ := a
  simp only [RdWr] at h1 h2
  obtain ⟨x1, m1, d1, rfl, r1⟩ := h1
  obtain ⟨y1, n1, b1, rfl, t1⟩ := h2
  unfold wtWr at hw
  dsimp only at hw
  have R1 : Hd (RdB w [.slice x1 m1 d1] l1 ∧ RdB w [.slice y1 n1 b1] l1 ∧ wtB l1 ≤ 1073741824) := ⟨r1, t1, by omega⟩
  have f0 : (l0 != l0) = false := by simp
  clear hw r1 t1
  go_enter Tryz.func67, Tryz.ntmps67
  go_wp2_with fail
  generalize hA : Obj.cells #[Value.int .i64 l0, .slice x1 m1 d1] 62 = A
  generalize hB : Obj.cells #[Value.int .i64 l0, .slice y1 n1 b1] 62 = B
  have h0 : Below w.heap.size w ((w.alloc A).alloc B) := below_lit2 w A B
  refine (eqByteS_rd x1 m1 d1 y1 n1 b1 l1 _ (rdB_ok.below R1.out.1 h0) (rdB_ok.below R1.out.2.1 h0) R1.out.2.2).mono ?_
  rintro e w1 ⟨rfl, hb⟩
  obtain ⟨k1, k2⟩ := laid2 w A B
  subst hA hB
  have K1 : Hd (w1.heap[w.heap.size]? = some (.cells #[Value.int .i64 l0, .slice x1 m1 d1] 62 (0, 0))) := ⟨(hb.block _ (by simp; omega)).trans k1⟩
  have G1 : Hd (w1.heap[w.heap.size + 1]? = some (.cells #[Value.int .i64 l0, .slice y1 n1 b1] 62 (0, 0))) := ⟨(hb.block _ (by simp)).trans k2⟩
  have B1 : Hd (Below w.heap.size w w1) := ⟨Below.next h0 hb⟩
  clear hb h0 k1 k2
  go_wp2_with fail
  go_ret
  exact ⟨rfl, B1.out⟩

set_option maxHeartbeats 4000000 in
theorem toWr_rd (cs : List Value) (a : WrD) (w : World) (h : RdWr w cs a) (hw : wtWr a ≤ 1073741824) :
    Calls Tryz.prog 57 #[.agg cs.toArray] w (AnsAgg OwWr a w) := by
  obtain ⟨l0, l1⟩ := a
  simp only [RdWr] at h
  obtain ⟨x1, m1, d1, rfl, r1⟩ := h
  unfold wtWr at hw
  dsimp only at hw
  have R1 : Hd (RdB w [.slice x1 m1 d1] l1 ∧ wtB l1 ≤ 1073741824) := ⟨r1, by omega⟩
  clear hw r1
  go_enter Tryz.func57, Tryz.ntmps57
  go_wp2_with fail
  generalize hA : Obj.cells #[Value.int .i64 l0, .slice x1 m1 d1] 92 = A
  generalize hB : Obj.cells #[Value.int .i64 0, .slice none 0 0] 62 = B
  generalize hC : Obj.cells #[Value.int .i64 l0, .slice none 0 0] 62 = C
  have h3 : Below w.heap.size w (((w.alloc A).alloc B).alloc C) := below_lit3 w A B C
  refine (toByteS_rd x1 m1 d1 l1 _ (rdB_ok.below R1.out.1 h3) R1.out.2).mono ?_
  rintro e w1 ⟨⟨y1, n1, b1, rfl, F1, hE, hF⟩, hb⟩
  obtain ⟨k0, k1, k2⟩ := laid3 w A B C
  subst hA hB hC
  have A1 : Hd (w1.heap[w.heap.size]? = some (.cells #[Value.int .i64 l0, .slice x1 m1 d1] 92 (0, 0))) := ⟨(hb.block _ (by simp; omega)).trans k0⟩
  have Z1 : Hd (w1.heap[w.heap.size + 1]? = some (.cells #[Value.int .i64 0, .slice none 0 0] 62 (0, 0))) := ⟨(hb.block _ (by simp)).trans k1⟩
  have C1 : Hd (w1.heap[w.heap.size + 1 + 1]? = some (.cells #[Value.int .i64 l0, .slice none 0 0] 62 (0, 0))) := ⟨(hb.block _ (by simp)).trans k2⟩
  simp only [World.size_alloc] at hF
  have B1 : Hd (Below w.heap.size w w1) := ⟨Below.next h3 hb⟩
  have O1_1 : Hd (OwB w1 [.slice y1 n1 b1] F1 l1 ∧ ∀ x, F1 x → w.heap.size + 3 ≤ x ∧ x < w1.heap.size) := ⟨hE, fun x hx => ⟨by have := hF x hx; omega, owB_ok.lt hE x hx⟩⟩
  clear hE hF hb h3 k0 k1 k2
  have z1 := cellsA C1.out 1 rfl
  have g1 := freeA C1.out 1
  have z0 := cellsA C1.out 0 rfl
  have p0 := cellsA Z1.out 0 rfl
  have s0 := freeA Z1.out 0
  have p1 := cellsA Z1.out 1 rfl
  have s1 := freeA Z1.out 1
  go_wp2_with fail
  refine bodyPost_ret (results_cell_row rfl _ _ (w.heap.size + 1) _ _ (0, 0) _ rfl (setA (setA (block_set (Z1.out) (by omega)) 0 _ rfl) 1 _ rfl) Tryz.underlying62 rfl (by kernel_rfl)) rfl ?_
  refine ⟨⟨[.int .i64 l0, .slice y1 n1 b1], rfl, fun x => F1 x, ⟨y1, n1, b1, F1, rfl, owB_ok.keep O1_1.out.1 (fun b hb => block_set (block_set (block_set (rfl) (by have := (O1_1.out.2 b hb).1; omega)) (by have := (O1_1.out.2 b hb).1; omega)) (by have := (O1_1.out.2 b hb).1; omega)), fun x => Iff.rfl⟩, fun x hx => ?_⟩, bset (bset (bset (B1.out) _ (by omega)) _ (by omega)) _ (by omega)⟩
  have := (O1_1.out.2 x hx).1
  omega

end Go.Proofs.YtlididoalekeoaaGreatDoor
