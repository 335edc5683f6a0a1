/- Parts of the proof, one behind the other. -/
import Derived.Test.YtlididoalekeoaaGreatDoorMxStoreOk3
import Derived.Laws.IdiomStrings
import Derived.Deep.RegionHeld3
import Derived.Deep.RegionWith
/- Parts of the proof, one behind the other. -/
/- Contracts of GetSign, in the specification and in the program. -/
namespace Go.Proofs.YtlididoalekeoaaGreatDoor
set_option maxRecDepth 4000
open Go.RowKit

/-- What is read of the first i + 1 bytes. -/
def acc (t : List UInt8) : Nat → Nat
  | 0 => headBits (gv t 0)
  | i + 1 => acc t i * 64 + gv t (i + 1) % 64
theorem headBits_lt (c : Nat) (h : c < 256) : headBits c < 256 := by unfold headBits; repeat' split
                                                                     all_goals omega
theorem acc_lt (t : List UInt8) (i : Nat) (hi : i ≤ 3) : acc t i < 67108864 := by
  have h0 := headBits_lt _ (gv_lt t 0)
  match i, hi with
  | 0, _ => simp only [acc]; omega
  | 1, _ => simp only [acc]; omega
  | 2, _ => simp only [acc]; omega
  | 3, _ => simp only [acc]; omega
theorem headSize_in (c : Nat) : 1 ≤ headSize c ∧ headSize c ≤ 4 := by unfold headSize; repeat' split
                                                                      all_goals omega
theorem acc_cand (t : List UInt8) : acc t (headSize (gv t 0) - 1) = cand t := by
  have e1 : acc t 1 = headBits (gv t 0) * 64 + gv t 1 % 64 := rfl
  have e2 : acc t 2 = acc t 1 * 64 + gv t 2 % 64 := rfl
  have e3 : acc t 3 = acc t 2 * 64 + gv t 3 % 64 := rfl
  by_cases h4 : 240 ≤ gv t 0
  · have a1 : headSize (gv t 0) - 1 = 3 := by unfold headSize; rw [if_pos h4]
    have a2 : headBits (gv t 0) = gv t 0 - 240 := by unfold headBits; rw [if_pos h4]
    rw [a1, e3, e2, e1, a2]
    simp only [cand, h4, if_true]; omega
  by_cases h3 : 224 ≤ gv t 0
  · have a1 : headSize (gv t 0) - 1 = 2 := by unfold headSize; rw [if_neg h4, if_pos h3]
    have a2 : headBits (gv t 0) = gv t 0 - 224 := by unfold headBits; rw [if_neg h4, if_pos h3]
    rw [a1, e2, e1, a2]
    simp only [cand, h4, h3, if_true, if_false]; omega
  by_cases h2 : 192 ≤ gv t 0
  · have a1 : headSize (gv t 0) - 1 = 1 := by unfold headSize; rw [if_neg h4, if_neg h3, if_pos h2]
    have a2 : headBits (gv t 0) = gv t 0 - 192 := by unfold headBits; rw [if_neg h4, if_neg h3, if_pos h2]
    rw [a1, e1, a2]
    simp only [cand, h4, h3, h2, if_true, if_false]
  · have a1 : headSize (gv t 0) - 1 = 0 := by unfold headSize; rw [if_neg h4, if_neg h3, if_neg h2]
    rw [a1, acc, headBits, if_neg h4, if_neg h3, if_neg h2]
    simp only [cand, h4, h3, h2, if_false]
theorem acc_step (t : List UInt8) (i : Nat) (hi : i ≤ 3) (x : Nat) (hx : gv t (i + 1) = x) : bits .or .i64 ((acc t i : Int) * 64) ((x % 64 : Nat) : Int) = (acc t (i + 1) : Int) := by
  have h := acc_lt t i hi
  have e : (acc t i : Int) * 64 = ((2 ^ 6 * acc t i : Nat) : Int) := by omega
  rw [e, i64_or _ _ (by omega) (by omega), ← Nat.two_pow_add_eq_or_of_lt (by omega) (acc t i)]
  simp only [acc]; subst hx; omega

/-- What stands there is the sign that was read, or there is none. -/
theorem read_yes {t : List UInt8} (h : signB (cand t : Int) = t.take (headSize (gv t 0))) (ht : headSize (gv t 0) ≤ t.length) : Got t (cand t : Int) ∧ (signB (cand t : Int)).length = headSize (gv t 0) := by
  have hs : isSign (cand t : Int) := by
    by_cases hs : isSign (cand t : Int)
    · exact hs
    · rw [signB_not hs] at h
      have := congrArg List.length h
      have h1 := (headSize_in (gv t 0)).1
      simp at this; omega
  exact ⟨⟨hs, by rw [h]; exact List.take_prefix _ _⟩, by rw [h, List.length_take]; omega⟩
theorem read_no {t : List UInt8} (h : signB (cand t : Int) ≠ t.take (headSize (gv t 0))) : ¬ ∃ n, Got t n := by
  rintro ⟨n, hg⟩
  obtain ⟨h1, h2⟩ := got_cand hg
  rw [← h1, h2] at h
  exact h (List.prefix_iff_eq_take.1 hg.2)
theorem read_short {t : List UInt8} (h : t.length < headSize (gv t 0)) : ¬ ∃ n, Got t n := by
  rintro ⟨n, hg⟩
  have h2 := (got_cand hg).2
  have := hg.2.length_le
  omega

/-- What GetSign answers. -/
structure GetSigned (w : World) (bs : List UInt8) (at_ : Int) (e : Ending) (w' : World) : Prop where
  out : ∃ r : Int × Int × Bool, e = .returned (.tuple #[.int .i64 r.1, .int .i64 r.2.1, .bool r.2.2]) ∧ GotAt bs at_ r ∧ Below w.heap.size w w'

set_option maxHeartbeats 400000 in
set_option maxRecDepth 100000 in
theorem headOf_four (c : Nat) (w : World) (h : 240 ≤ c) (hc : c < 256) : Calls Tryz.prog 108 #[.int .i64 (c : Int)] w fun e w' => e = .returned (.tuple #[.int .i64 4, .int .i64 ((c : Int) - 240)]) ∧ w = w' := by
  go_enter Tryz.func108, Tryz.ntmps108
  go_wp2_with fail
  go_ret2
  exact ⟨rfl, rfl⟩
set_option maxHeartbeats 400000 in
set_option maxRecDepth 100000 in
theorem headOf_three (c : Nat) (w : World) (h : 224 ≤ c) (hc : c < 240) : Calls Tryz.prog 108 #[.int .i64 (c : Int)] w fun e w' => e = .returned (.tuple #[.int .i64 3, .int .i64 ((c : Int) - 224)]) ∧ w = w' := by
  go_enter Tryz.func108, Tryz.ntmps108
  go_wp2_with fail
  go_ret2
  exact ⟨rfl, rfl⟩
set_option maxHeartbeats 400000 in
set_option maxRecDepth 100000 in
theorem headOf_two (c : Nat) (w : World) (h : 192 ≤ c) (hc : c < 224) : Calls Tryz.prog 108 #[.int .i64 (c : Int)] w fun e w' => e = .returned (.tuple #[.int .i64 2, .int .i64 ((c : Int) - 192)]) ∧ w = w' := by
  go_enter Tryz.func108, Tryz.ntmps108
  go_wp2_with fail
  go_ret2
  exact ⟨rfl, rfl⟩
set_option maxHeartbeats 400000 in
set_option maxRecDepth 100000 in
theorem headOf_one (c : Nat) (w : World) (hc : c < 192) : Calls Tryz.prog 108 #[.int .i64 (c : Int)] w fun e w' => e = .returned (.tuple #[.int .i64 1, .int .i64 (c : Int)]) ∧ w = w' := by
  go_enter Tryz.func108, Tryz.ntmps108
  go_wp2_with fail
  go_ret2
  exact ⟨rfl, rfl⟩
theorem tuple_two {a b c d : Int} (h : a = c) (k : b = d) : Ending.returned (.tuple #[.int .i64 a, .int .i64 b]) = .returned (.tuple #[.int .i64 c, .int .i64 d]) := by rw [h, k]
theorem headOf_any (c : Nat) (w : World) (hc : c < 256) : Calls Tryz.prog 108 #[.int .i64 (c : Int)] w fun e w' => e = .returned (.tuple #[.int .i64 (headSize c : Int), .int .i64 (headBits c : Int)]) ∧ w = w' := by
  by_cases h4 : 240 ≤ c
  · refine (headOf_four c w h4 hc).mono ?_
    rintro e w' ⟨rfl, h⟩
    exact ⟨tuple_two (by unfold headSize; rw [if_pos h4]; rfl) (by unfold headBits; rw [if_pos h4]; omega), h⟩
  by_cases h3 : 224 ≤ c
  · refine (headOf_three c w h3 (by omega)).mono ?_
    rintro e w' ⟨rfl, h⟩
    exact ⟨tuple_two (by unfold headSize; rw [if_neg h4, if_pos h3]; rfl) (by unfold headBits; rw [if_neg h4, if_pos h3]; omega), h⟩
  by_cases h2 : 192 ≤ c
  · refine (headOf_two c w h2 (by omega)).mono ?_
    rintro e w' ⟨rfl, h⟩
    exact ⟨tuple_two (by unfold headSize; rw [if_neg h4, if_neg h3, if_pos h2]; rfl) (by unfold headBits; rw [if_neg h4, if_neg h3, if_pos h2]; omega), h⟩
  · refine (headOf_one c w (by omega)).mono ?_
    rintro e w' ⟨rfl, h⟩
    exact ⟨tuple_two (by unfold headSize; rw [if_neg h4, if_neg h3, if_neg h2]; rfl) (by unfold headBits; rw [if_neg h4, if_neg h3, if_neg h2]), h⟩

set_option maxHeartbeats 400000 in
theorem equal_is (v1 v2 : Value) (l1 l2 : List UInt8) (b : Bool) (w : World) (hb : Hd ((l1 == l2) = b)) (h1 : (convert 60 9 v1).run Tryz.prog w = .ok (.string ⟨l1.toArray⟩) w) (h2 : (convert 60 9 v2).run Tryz.prog w = .ok (.string ⟨l2.toArray⟩) w) :
    Calls Tryz.prog 109 #[v1, v2] w fun e w' => e = .returned (.bool b) ∧ w = w' := by
  go_enter Tryz.func109, Tryz.ntmps109
  go_wp2_with fail
  go_ret
  exact ⟨ret_bool (by rw [← hb.out]), rfl⟩

theorem conv_owned {w : World} {B n : Nat} {v : Value} {bs : List UInt8} (h : w.ownsRow B 5 1 v n (bs.map cb)) : (convert 60 9 v).run Tryz.prog w = .ok (.string ⟨bs.toArray⟩) w := by
  by_cases hv : v = .slice none 0 0
  · have hn : bs.length = n := by simpa using h.1
    have := nil_len h hn hv
    subst hv this
    exact run_convert_bytes_nil w 60 5 Tryz.underlying60 Tryz.underlying5 0 0 9 Tryz.underlying9
  · obtain ⟨g, c, rfl, _, hO⟩ := own_row h hv
    have hn : bs.length = n := by simpa using h.1
    subst hn
    refine run_convert_bytes_back (P := Tryz.prog) w 60 9 5 ⟨g, 0, none⟩ c bs Tryz.underlying60 Tryz.underlying5 Tryz.underlying9 (fun j hj => ?_)
    rw [Addr.add_lit, Nat.zero_add, hO.row.cell j hj]
    simp [List.getD, List.getElem?_eq_getElem hj]

set_option maxHeartbeats 400000 in
theorem implGetSign_out (ao : Option Addr) (len cap : Nat) (bs : List UInt8) (at_ : Int) (w : World) (hn : bs.length = len) (h : at_ < 0 ∨ (len : Int) ≤ at_) :
    Calls Tryz.prog 103 #[.slice ao len cap, .int .i64 at_] w (GetSigned w bs at_) := by
  have hG : Hd (GotAt bs at_ (0, 0, false)) := ⟨.inr ⟨rfl, by rw [hn]; omega⟩⟩
  clear hn
  rcases h with h | h
  · go_enter Tryz.func103, Tryz.ntmps103
    go_wp2_with fail
    go_ret3
    exact ⟨(0, 0, false), rfl, hG.out, Below.refl _ _⟩
  · go_enter Tryz.func103, Tryz.ntmps103
    go_wp2_with fail
    go_ret3
    exact ⟨(0, 0, false), rfl, hG.out, Below.refl _ _⟩

/-- A slice of bytes, from k on, as the walk is to see it. -/
structure From (w : World) (b off len k : Nat) (t : List UInt8) : Prop where
  size : t.length = len - k
  cell : ∀ j, k + j < len → w.cell? ⟨b, off + (k + j), none⟩ = some (.int .u8 (gv t j : Int))
theorem from_of {w : World} {b off len k : Nat} {bs : List UInt8} (hn : bs.length = len) (hc : ∀ j, j < len → w.cell? ⟨b, off + j, none⟩ = some (.int .u8 ((bs.getD j 0).toNat : Int))) : From w b off len k (bs.drop k) :=
  ⟨by rw [List.length_drop, hn], fun j hj => by rw [hc (k + j) hj]; simp [gv, List.getD]⟩
theorem gotAt_yes {bs : List UInt8} {k : Nat} (hk : k < bs.length) (h : Got (bs.drop k) (cand (bs.drop k) : Int)) {sz : Nat} (hs : (signB (cand (bs.drop k) : Int)).length = sz) : GotAt bs (k : Int) ((cand (bs.drop k) : Int), (k : Int) + (sz : Int), true) :=
  .inl ⟨rfl, by omega, by omega, by simpa using h, by rw [← hs]⟩
theorem gotAt_no {bs : List UInt8} {k : Nat} (h : ¬ ∃ n, Got (bs.drop k) n) : GotAt bs (k : Int) (0, 0, false) :=
  .inr ⟨rfl, fun ⟨_, _, hg⟩ => h (by simpa using hg)⟩

theorem conv_from {w : World} {b off len k sz c : Nat} {t : List UInt8} (h : From w b off len k t) (hs : k + sz ≤ len) :
    (convert 60 9 (.slice (some ⟨b, off + k, none⟩) sz c)).run Tryz.prog w = .ok (.string ⟨(t.take sz).toArray⟩) w := by
  have hlen : (t.take sz).length = sz := by rw [List.length_take, h.size]; omega
  have := run_convert_bytes_back (P := Tryz.prog) w 60 9 5 ⟨b, off + k, none⟩ c (t.take sz) Tryz.underlying60 Tryz.underlying5 Tryz.underlying9 (fun j hj => by
    rw [Addr.add_lit, Nat.add_assoc, h.cell j (by omega)]
    have hj' : j < sz := by omega
    have hj2 : j < t.length := by rw [h.size]; omega
    simp [gv, List.getD, List.getElem?_eq_getElem hj2])
  rw [hlen] at this; exact this

theorem from_below {w w' : World} {b off len k : Nat} {t : List UInt8} (h : From w b off len k t) (hb : Below w.heap.size w w') : From w' b off len k t :=
  ⟨h.size, fun j hj => (hb.cell (p := ⟨b, off + (k + j), none⟩) (World.block_lt_of_cell? w _ (h.cell j hj))).trans (h.cell j hj)⟩
theorem below_nil {w w' : World} (h : w.grownBy w' (Value.slice none 0 0).ownBlock) : Below w.heap.size w w' := (Below.refl _ w).grown h (Nat.le_refl _) (fun _ h => by cases h)

/-- PutSign of nil, seen from an earlier world. -/
structure NilPut (w0 : World) (n : Int) (e : Ending) (w' : World) : Prop where
  out : ∃ v', e = .returned v' ∧ Hd ((convert 60 9 v').run Tryz.prog w' = .ok (.string ⟨(signB n).toArray⟩) w') ∧ Hd (Below w0.heap.size w0 w')
theorem implPutSign_at (w0 : World) (n : Int) (w : World) (hb : Below w0.heap.size w0 w) : Calls Tryz.prog 110 #[.slice none 0 0, .int .i64 n] w (NilPut w0 n) := by
  refine (implPutSign_nil n w).mono ?_
  rintro e w2 ⟨v2, rfl, hown2, hgr2, _⟩
  exact ⟨v2, rfl, ⟨conv_owned hown2⟩, ⟨Below.next hb (below_nil hgr2)⟩⟩

set_option maxHeartbeats 1000000 in
theorem implGetSign_t (b off len cap k sz x : Nat) (t : List UInt8) (w : World) (HT : Hd (From w b off len k t)) (HX : Hd (gv t 0 = x)) (HS : Hd (headSize x = sz)) (hlc : len ≤ cap) (hl : len ≤ 1073741824) (hk : k < len) (hx : x < 256) (hz1 : 1 ≤ sz) (hz4 : sz ≤ 4) :
    Calls Tryz.prog 103 #[.slice (some ⟨b, off, none⟩) len cap, .int .i64 (k : Int)] w fun e w' =>
      (e = .returned (.tuple #[.int .i64 (cand t : Int), .int .i64 ((k : Int) + (sz : Int)), .bool true]) ∧ Got t (cand t : Int) ∧ (signB (cand t : Int)).length = sz ∧ Below w.heap.size w w') ∨
      (e = .returned (.tuple #[.int .i64 0, .int .i64 0, .bool false]) ∧ (¬ ∃ n, Got t n) ∧ Below w.heap.size w w') := by
  have hc0 : w.cell? ⟨b, off + k, none⟩ = some (.int .u8 (x : Int)) := by have := HT.out.cell 0 (by omega); rw [HX.out] at this; simpa using this
  have hw0 : wrap64 (x : Int) = (x : Int) := wrap64_in (by omega) (by omega)
  have hkI : (k : Int) < (len : Int) := by omega
  have hkI2 : ¬ (len : Int) ≤ (k : Int) := by omega
  by_cases hsz : len - k < sz
  · have hno : Hd (¬ ∃ n, Got t n) := ⟨read_short (by rw [HX.out, HS.out, HT.out.size]; exact hsz)⟩
    go_enter Tryz.func103, Tryz.ntmps103
    go_wp2_with fail
    refine (headOf_any x _ hx).mono ?_
    rintro e w1 ⟨rfl, hw1⟩
    subst hw1
    rewrite [HS.out]
    have hsz' : (len : Int) - (k : Int) < (sz : Int) := by omega
    go_wp2_with fail
    go_ret3
    exact .inr ⟨rfl, hno.out, Below.refl _ _⟩
  · go_enter Tryz.func103, Tryz.ntmps103
    go_wp2_with fail
    refine (headOf_any x _ hx).mono ?_
    rintro e w1 ⟨rfl, hw1⟩
    subst hw1
    rewrite [HS.out]
    have hsz' : ¬ (len : Int) - (k : Int) < (sz : Int) := by omega
    have k1 : (k : Int) + 1 ≤ (k : Int) + (sz : Int) := by omega
    have k2 : (k : Int) + (sz : Int) ≤ (cap : Int) := by omega
    have hA0 : Hd (headBits x = acc t 0) := ⟨by rw [← HX.out]; rfl⟩
    rewrite [hA0.out]
    have HCV : Hd (∀ (w' : World) (m c : Nat), m = sz → Below w.heap.size w w' → (convert 60 9 (.slice (some ⟨b, off + k, none⟩) m c)).run Tryz.prog w' = .ok (.string ⟨(t.take sz).toArray⟩) w') := ⟨fun w' m c hm hb => by subst hm; exact conv_from (from_below HT.out hb) (by omega)⟩
    by_cases h1 : sz = 1
    · subst h1
      have hA1 : Hd (acc t 0 = cand t) := ⟨by have := acc_cand t; rw [HX.out, HS.out] at this; exact this⟩
      rewrite [hA1.out]
      by_cases heq : signB (cand t : Int) = t.take 1
      · have HE : Hd ((signB (cand t : Int) == t.take 1) = true) := ⟨by simpa using heq⟩
        have HY : Hd (Got t (cand t : Int) ∧ (signB (cand t : Int)).length = 1) := ⟨by have := read_yes (t := t) (by rw [HX.out, HS.out]; exact heq) (by rw [HX.out, HS.out, HT.out.size]; omega); rw [HX.out, HS.out] at this; exact this⟩
        clear heq
        have c1 : (k : Int) ≤ (k : Int) + 1 := by omega
        have c2 : (k : Int) + 1 ≤ (cap : Int) := by omega
        have c3 : ¬ cap = k := by omega
        have c4 : (0 : Int) ≤ (k : Int) := by omega
        have c5 : IntKind.i64.wrap ((k : Int) + 1) = (k : Int) + 1 := by rw [IntKind.wrap_i64]; omega
        go_wp2_with fail
        all_goals
          refine wp_loop_rounds 1 ?_
          rewrite [rounds_succ]
          go_wp2_with fail
          go_region_held (fun w' => Hd (Below w.heap.size w w')) (first | assumption | exact ⟨(Below.refl _ w).drew⟩ | exact hB2) (first | (go_at_call 110; refine (implPutSign_at w _ _ ?_).mono ?_; exact (Below.refl _ w).drew; rintro e w2 ⟨v2, rfl, hcv2, hB2⟩) | (go_at_call 109; refine (equal_is _ _ (signB (cand t : Int)) (t.take 1) true _ HE ?_ ?_).mono ?_; exact hcv2.out; exact HCV.out _ _ _ (by omega) hB2.out; rintro e w3 ⟨rfl, hw3⟩; subst hw3))
          all_goals
            go_wp2_with fail
            go_ret3
            exact .inl ⟨rfl, HY.out.1, HY.out.2, hB2.out⟩
      · have HE : Hd ((signB (cand t : Int) == t.take 1) = false) := ⟨by simpa using heq⟩
        have HY : Hd (¬ ∃ n, Got t n) := ⟨read_no (t := t) (by rw [HX.out, HS.out]; exact heq)⟩
        clear heq
        have c1 : (k : Int) ≤ (k : Int) + 1 := by omega
        have c2 : (k : Int) + 1 ≤ (cap : Int) := by omega
        have c3 : ¬ cap = k := by omega
        have c4 : (0 : Int) ≤ (k : Int) := by omega
        have c5 : IntKind.i64.wrap ((k : Int) + 1) = (k : Int) + 1 := by rw [IntKind.wrap_i64]; omega
        go_wp2_with fail
        all_goals
          refine wp_loop_rounds 1 ?_
          rewrite [rounds_succ]
          go_wp2_with fail
          go_region_held (fun w' => Hd (Below w.heap.size w w')) (first | assumption | exact ⟨(Below.refl _ w).drew⟩ | exact hB2) (first | (go_at_call 110; refine (implPutSign_at w _ _ ?_).mono ?_; exact (Below.refl _ w).drew; rintro e w2 ⟨v2, rfl, hcv2, hB2⟩) | (go_at_call 109; refine (equal_is _ _ (signB (cand t : Int)) (t.take 1) false _ HE ?_ ?_).mono ?_; exact hcv2.out; exact HCV.out _ _ _ (by omega) hB2.out; rintro e w3 ⟨rfl, hw3⟩; subst hw3))
          all_goals
            go_wp2_with fail
            go_ret3
            exact .inr ⟨rfl, HY.out, hB2.out⟩
    · have hcap : ¬ cap = k + 1 := by omega
      go_wp2_with fail
      go_loop [8, 10, 42] (fun n c i => ∃ q : Nat, q < sz ∧ i = .int .i64 q ∧ n = .int .i64 (acc t q)) (fun _ _ i => sz - (intOf i).toNat)
      case atStart => exact ⟨0, by omega, rfl, rfl⟩
      case round =>
        obtain ⟨q, hq, rfl, rfl⟩ := hrel
        by_cases hlt : q + 1 < sz
        · obtain ⟨y, hy⟩ : ∃ y, gv t (q + 1) = y := ⟨_, rfl⟩
          have hy2 : y < 256 := by rw [← hy]; exact gv_lt _ _
          have hcell : w.cell? ⟨b, off + (k + 1) + q, none⟩ = some (.int .u8 (y : Int)) := by
            have := HT.out.cell (q + 1) (by omega)
            rw [hy] at this
            rw [show off + (k + 1) + q = off + (k + (q + 1)) from by omega]; exact this
          have hA : acc t q < 67108864 := acc_lt t q (by omega)
          have hst : Hd (bits .or .i64 ((acc t q : Int) * 64) (bits .and .i64 (y : Int) 63) = (acc t (q + 1) : Int)) := ⟨by rw [and63 y rfl (by omega)]; exact acc_step t q (by omega) y hy⟩
          have f1 : (q : Int) < ((k + sz - (k + 1) : Nat) : Int) := by omega
          have hw1 : wrap64 (y : Int) = (y : Int) := wrap64_in (by omega) (by omega)
          clear hy
          generalize acc t q = A at *
          go_wp2_with fail
          go_round
          case rel => exact ⟨q + 1, hlt, by go_num, by rw [hst.out]⟩
          case measure => simp [intOf]; omega
        · have hqs : Hd (q = sz - 1) := ⟨by omega⟩
          have hA1 : Hd (acc t q = cand t) := ⟨by have := acc_cand t; rw [HX.out, HS.out, ← hqs.out] at this; exact this⟩
          have f1 : ¬ (q : Int) < ((k + sz - (k + 1) : Nat) : Int) := by omega
          have c1 : (k : Int) ≤ (k : Int) + (sz : Int) := by omega
          have c3 : ¬ cap = k := by omega
          have c5 : IntKind.i64.wrap ((k : Int) + (sz : Int)) = (k : Int) + (sz : Int) := by rw [IntKind.wrap_i64]; omega
          rewrite [hA1.out]
          by_cases heq : signB (cand t : Int) = t.take sz
          · have HE : Hd ((signB (cand t : Int) == t.take sz) = true) := ⟨by simpa using heq⟩
            have HY : Hd (Got t (cand t : Int) ∧ (signB (cand t : Int)).length = sz) := ⟨by have := read_yes (t := t) (by rw [HX.out, HS.out]; exact heq) (by rw [HX.out, HS.out, HT.out.size]; omega); rw [HX.out, HS.out] at this; exact this⟩
            clear heq
            go_wp2_with fail
            go_region_held (fun w' => Hd (Below w.heap.size w w')) (first | assumption | exact ⟨(Below.refl _ w).drew⟩ | exact hB2) (first | (go_at_call 110; refine (implPutSign_at w _ _ ?_).mono ?_; exact (Below.refl _ w).drew; rintro e w2 ⟨v2, rfl, hcv2, hB2⟩) | (go_at_call 109; refine (equal_is _ _ (signB (cand t : Int)) (t.take sz) true _ HE ?_ ?_).mono ?_; exact hcv2.out; exact HCV.out _ _ _ (by omega) hB2.out; rintro e w3 ⟨rfl, hw3⟩; subst hw3))
            all_goals
              go_wp2_with fail
              go_ret3
              exact .inl ⟨rfl, HY.out.1, HY.out.2, hB2.out⟩
          · have HE : Hd ((signB (cand t : Int) == t.take sz) = false) := ⟨by simpa using heq⟩
            have HY : Hd (¬ ∃ n, Got t n) := ⟨read_no (t := t) (by rw [HX.out, HS.out]; exact heq)⟩
            clear heq
            go_wp2_with fail
            go_region_held (fun w' => Hd (Below w.heap.size w w')) (first | assumption | exact ⟨(Below.refl _ w).drew⟩ | exact hB2) (first | (go_at_call 110; refine (implPutSign_at w _ _ ?_).mono ?_; exact (Below.refl _ w).drew; rintro e w2 ⟨v2, rfl, hcv2, hB2⟩) | (go_at_call 109; refine (equal_is _ _ (signB (cand t : Int)) (t.take sz) false _ HE ?_ ?_).mono ?_; exact hcv2.out; exact HCV.out _ _ _ (by omega) hB2.out; rintro e w3 ⟨rfl, hw3⟩; subst hw3))
            all_goals
              go_wp2_with fail
              go_ret3
              exact .inr ⟨rfl, HY.out, hB2.out⟩

theorem implGetSign_any (b off len cap : Nat) (bs : List UInt8) (at_ : Int) (w : World) (hn : bs.length = len) (hlc : len ≤ cap) (hc : ∀ j, j < len → w.cell? ⟨b, off + j, none⟩ = some (.int .u8 ((bs.getD j 0).toNat : Int))) (hl : len ≤ 1073741824) :
    Calls Tryz.prog 103 #[.slice (some ⟨b, off, none⟩) len cap, .int .i64 at_] w (GetSigned w bs at_) := by
  by_cases h : at_ < 0 ∨ (len : Int) ≤ at_
  · exact implGetSign_out _ len cap bs at_ w hn h
  · obtain ⟨k, rfl⟩ := Int.eq_ofNat_of_zero_le (show 0 ≤ at_ from by omega)
    have hk : k < len := by omega
    obtain ⟨h1, h4⟩ := headSize_in (gv (bs.drop k) 0)
    refine (implGetSign_t b off len cap k (headSize (gv (bs.drop k) 0)) (gv (bs.drop k) 0) (bs.drop k) w ⟨from_of hn hc⟩ ⟨rfl⟩ ⟨rfl⟩ hlc hl hk (gv_lt _ _) h1 h4).mono ?_
    rintro e w' (⟨rfl, hg, hs, hB⟩ | ⟨rfl, hg, hB⟩)
    · exact ⟨((cand (bs.drop k) : Int), (k : Int) + (headSize (gv (bs.drop k) 0) : Int), true), rfl, gotAt_yes (by omega) hg hs, hB⟩
    · exact ⟨(0, 0, false), rfl, gotAt_no hg, hB⟩

end Go.Proofs.YtlididoalekeoaaGreatDoor
