/- Contracts of GetSign, in the specification and in the program. -/
import Derived.Test.YtcddjfdmodpnjabDoorSign
import Derived.Laws.IdiomStrings
import Derived.Deep.RegionHeld3
import Derived.Deep.RegionWith
namespace Go.Proofs.YtcddjfdmodpnjabDoor
open Go.RowKit

/-- What is read of the first i + 1 bytes. -/
def acc (t : List UInt8) : Nat → Nat
  | 0 => headBits (gv t 0)
  | i + 1 => acc t i * 64 + gv t (i + 1) % 64
theorem headBits_lt (c : Nat) (h : c < 256) : headBits c < 256 := by unfold headBits; repeat' split
                                                                     all_goals omega
theorem acc_lt (t : List UInt8) (i : Nat) (hi : i ≤ 3) : acc t i < 67108864 := by
  have h0 := headBits_lt _ (gv_lt t 0)
  match i, hi with
  | 0, _ => simp only [acc]; omega
  | 1, _ => simp only [acc]; omega
  | 2, _ => simp only [acc]; omega
  | 3, _ => simp only [acc]; omega
theorem headSize_in (c : Nat) : 1 ≤ headSize c ∧ headSize c ≤ 4 := by unfold headSize; repeat' split
                                                                      all_goals omega
theorem acc_cand (t : List UInt8) : acc t (headSize (gv t 0) - 1) = cand t := by
  have e1 : acc t 1 = headBits (gv t 0) * 64 + gv t 1 % 64 := rfl
  have e2 : acc t 2 = acc t 1 * 64 + gv t 2 % 64 := rfl
  have e3 : acc t 3 = acc t 2 * 64 + gv t 3 % 64 := rfl
  by_cases h4 : 240 ≤ gv t 0
  · have a1 : headSize (gv t 0) - 1 = 3 := by unfold headSize; rw [if_pos h4]
    have a2 : headBits (gv t 0) = gv t 0 - 240 := by unfold headBits; rw [if_pos h4]
    rw [a1, e3, e2, e1, a2]
    simp only [cand, h4, if_true]; omega
  by_cases h3 : 224 ≤ gv t 0
  · have a1 : headSize (gv t 0) - 1 = 2 := by unfold headSize; rw [if_neg h4, if_pos h3]
    have a2 : headBits (gv t 0) = gv t 0 - 224 := by unfold headBits; rw [if_neg h4, if_pos h3]
    rw [a1, e2, e1, a2]
    simp only [cand, h4, h3, if_true, if_false]; omega
  by_cases h2 : 192 ≤ gv t 0
  · have a1 : headSize (gv t 0) - 1 = 1 := by unfold headSize; rw [if_neg h4, if_neg h3, if_pos h2]
    have a2 : headBits (gv t 0) = gv t 0 - 192 := by unfold headBits; rw [if_neg h4, if_neg h3, if_pos h2]
    rw [a1, e1, a2]
    simp only [cand, h4, h3, h2, if_true, if_false]
  · have a1 : headSize (gv t 0) - 1 = 0 := by unfold headSize; rw [if_neg h4, if_neg h3, if_neg h2]
    rw [a1, acc, headBits, if_neg h4, if_neg h3, if_neg h2]
    simp only [cand, h4, h3, h2, if_false]
theorem acc_step (t : List UInt8) (i : Nat) (hi : i ≤ 3) (x : Nat) (hx : gv t (i + 1) = x) : bits .or .i64 ((acc t i : Int) * 64) ((x % 64 : Nat) : Int) = (acc t (i + 1) : Int) := by
  have h := acc_lt t i hi
  have e : (acc t i : Int) * 64 = ((2 ^ 6 * acc t i : Nat) : Int) := by omega
  rw [e, i64_or _ _ (by omega) (by omega), ← Nat.two_pow_add_eq_or_of_lt (by omega) (acc t i)]
  simp only [acc]; subst hx; omega

/-- What stands there is the sign that was read, or there is none. -/
theorem read_yes {t : List UInt8} (h : signB (cand t : Int) = t.take (headSize (gv t 0))) (ht : headSize (gv t 0) ≤ t.length) : Got t (cand t : Int) ∧ (signB (cand t : Int)).length = headSize (gv t 0) := by
  have hs : isSign (cand t : Int) := by
    by_cases hs : isSign (cand t : Int)
    · exact hs
    · rw [signB_not hs] at h
      have := congrArg List.length h
      have h1 := (headSize_in (gv t 0)).1
      simp at this; omega
  exact ⟨⟨hs, by rw [h]; exact List.take_prefix _ _⟩, by rw [h, List.length_take]; omega⟩
theorem read_no {t : List UInt8} (h : signB (cand t : Int) ≠ t.take (headSize (gv t 0))) : ¬ ∃ n, Got t n := by
  rintro ⟨n, hg⟩
  obtain ⟨h1, h2⟩ := got_cand hg
  rw [← h1, h2] at h
  exact h (List.prefix_iff_eq_take.1 hg.2)
theorem read_short {t : List UInt8} (h : t.length < headSize (gv t 0)) : ¬ ∃ n, Got t n := by
  rintro ⟨n, hg⟩
  have h2 := (got_cand hg).2
  have := hg.2.length_le
  omega

/-- What GetSign answers. -/
structure GetSigned (w : World) (bs : List UInt8) (at_ : Int) (e : Ending) (w' : World) : Prop where
  out : ∃ r : Int × Int × Bool, e = .returned (.tuple #[.int .i64 r.1, .int .i64 r.2.1, .bool r.2.2]) ∧ GotAt bs at_ r ∧ Below w.heap.size w w'

theorem conv_owned {w : World} {B n : Nat} {v : Value} {bs : List UInt8} (h : w.ownsRow B 5 1 v n (bs.map cb)) : (convert 22 9 v).run Tryd.prog w = .ok (.string ⟨bs.toArray⟩) w := by
  by_cases hv : v = .slice none 0 0
  · have hn : bs.length = n := by simpa using h.1
    have := nil_len h hn hv
    subst hv this
    exact run_convert_bytes_nil w 22 5 Tryd.underlying22 Tryd.underlying5 0 0 9 Tryd.underlying9
  · obtain ⟨g, c, rfl, _, hO⟩ := own_row h hv
    have hn : bs.length = n := by simpa using h.1
    subst hn
    refine run_convert_bytes_back (P := Tryd.prog) w 22 9 5 ⟨g, 0, none⟩ c bs Tryd.underlying22 Tryd.underlying5 Tryd.underlying9 (fun j hj => ?_)
    rw [Addr.add_lit, Nat.zero_add, hO.row.cell j hj]
    simp [List.getD, List.getElem?_eq_getElem hj]

/-- A slice of bytes, from k on, as the walk is to see it. -/
structure From (w : World) (b off len k : Nat) (t : List UInt8) : Prop where
  size : t.length = len - k
  cell : ∀ j, k + j < len → w.cell? ⟨b, off + (k + j), none⟩ = some (.int .u8 (gv t j : Int))
theorem from_of {w : World} {b off len k : Nat} {bs : List UInt8} (hn : bs.length = len) (hc : ∀ j, j < len → w.cell? ⟨b, off + j, none⟩ = some (.int .u8 ((bs.getD j 0).toNat : Int))) : From w b off len k (bs.drop k) :=
  ⟨by rw [List.length_drop, hn], fun j hj => by rw [hc (k + j) hj]; simp [gv, List.getD]⟩
theorem gotAt_yes {bs : List UInt8} {k : Nat} (hk : k < bs.length) (h : Got (bs.drop k) (cand (bs.drop k) : Int)) {sz : Nat} (hs : (signB (cand (bs.drop k) : Int)).length = sz) : GotAt bs (k : Int) ((cand (bs.drop k) : Int), (k : Int) + (sz : Int), true) :=
  .inl ⟨rfl, by omega, by omega, by simpa using h, by rw [← hs]⟩
theorem gotAt_no {bs : List UInt8} {k : Nat} (h : ¬ ∃ n, Got (bs.drop k) n) : GotAt bs (k : Int) (0, 0, false) :=
  .inr ⟨rfl, fun ⟨_, _, hg⟩ => h (by simpa using hg)⟩

theorem conv_from {w : World} {b off len k sz c : Nat} {t : List UInt8} (h : From w b off len k t) (hs : k + sz ≤ len) :
    (convert 22 9 (.slice (some ⟨b, off + k, none⟩) sz c)).run Tryd.prog w = .ok (.string ⟨(t.take sz).toArray⟩) w := by
  have hlen : (t.take sz).length = sz := by rw [List.length_take, h.size]; omega
  have := run_convert_bytes_back (P := Tryd.prog) w 22 9 5 ⟨b, off + k, none⟩ c (t.take sz) Tryd.underlying22 Tryd.underlying5 Tryd.underlying9 (fun j hj => by
    rw [Addr.add_lit, Nat.add_assoc, h.cell j (by omega)]
    have hj' : j < sz := by omega
    have hj2 : j < t.length := by rw [h.size]; omega
    simp [gv, List.getD, List.getElem?_eq_getElem hj2])
  rw [hlen] at this; exact this

theorem from_below {w w' : World} {b off len k : Nat} {t : List UInt8} (h : From w b off len k t) (hb : Below w.heap.size w w') : From w' b off len k t :=
  ⟨h.size, fun j hj => (hb.cell (p := ⟨b, off + (k + j), none⟩) (World.block_lt_of_cell? w _ (h.cell j hj))).trans (h.cell j hj)⟩
theorem below_nil {w w' : World} (h : w.grownBy w' (Value.slice none 0 0).ownBlock) : Below w.heap.size w w' := (Below.refl _ w).grown h (Nat.le_refl _) (fun _ h => by cases h)

/-- PutSign of nil, seen from an earlier world. -/
structure NilPut (w0 : World) (n : Int) (e : Ending) (w' : World) : Prop where
  out : ∃ v', e = .returned v' ∧ Hd ((convert 22 9 v').run Tryd.prog w' = .ok (.string ⟨(signB n).toArray⟩) w') ∧ Hd (Below w0.heap.size w0 w')
theorem implPutSign_at (w0 : World) (n : Int) (w : World) (hb : Below w0.heap.size w0 w) : Calls Tryd.prog 32 #[.slice none 0 0, .int .i64 n] w (NilPut w0 n) := by
  refine (implPutSign_nil n w).mono ?_
  rintro e w2 ⟨v2, rfl, hown2, hgr2, _⟩
  exact ⟨v2, rfl, ⟨conv_owned hown2⟩, ⟨Below.next hb (below_nil hgr2)⟩⟩

end Go.Proofs.YtcddjfdmodpnjabDoor
