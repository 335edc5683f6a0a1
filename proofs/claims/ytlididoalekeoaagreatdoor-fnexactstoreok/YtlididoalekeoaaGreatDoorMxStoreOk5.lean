/- Parts of the proof, one behind the other. -/
import Derived.Test.YtlididoalekeoaaGreatDoorMxStoreOk4
/- Parts of the proof, one behind the other. -/
/- The contract of GetSign in the specification. The contract of GetSign in the specification, of a first byte that asks for no other. The contract of GetSign in the specification, of a first byte that asks for others. -/
namespace Go.Proofs.YtlididoalekeoaaGreatDoor
set_option maxRecDepth 4000
open Go.RowKit

/-- No sign stands at the head of t. -/
def NoGot (t : List UInt8) : Prop := ¬ ∃ n, Got t n

/-- How many bytes a first byte asks for. -/
def l2len (x : Nat) : Nat := if x < 128 then 1 else if 194 ≤ x ∧ x ≤ 223 then 2 else if 224 ≤ x ∧ x ≤ 239 then 3 else if 240 ≤ x ∧ x ≤ 244 then 4 else 0

set_option maxHeartbeats 400000 in
set_option maxRecDepth 100000 in
theorem l2Len_any (x : Nat) (w : World) (hx : x < 256) : Calls Tryz.prog 95 #[.int .u8 (x : Int)] w fun e w' => e = .returned (.int .i64 (l2len x : Int)) ∧ w = w' := by
  have hw0 : wrap64 (x : Int) = (x : Int) := wrap64_in (by omega) (by omega)
  by_cases h1 : x < 128
  · have e : Hd ((l2len x : Int) = 1) := ⟨by unfold l2len; rw [if_pos h1]; rfl⟩
    rewrite [e.out]
    go_enter Tryz.func95, Tryz.ntmps95
    go_wp2
    go_ret
    exact ⟨rfl, rfl⟩
  by_cases h2 : 194 ≤ x ∧ x ≤ 223
  · have e : Hd ((l2len x : Int) = 2) := ⟨by unfold l2len; rw [if_neg h1, if_pos h2]; rfl⟩
    obtain ⟨h2, h2'⟩ := h2
    rewrite [e.out]
    go_enter Tryz.func95, Tryz.ntmps95
    go_wp2
    go_ret
    exact ⟨rfl, rfl⟩
  by_cases h3 : 224 ≤ x ∧ x ≤ 239
  · have e : Hd ((l2len x : Int) = 3) := ⟨by unfold l2len; rw [if_neg h1, if_neg h2, if_pos h3]; rfl⟩
    obtain ⟨h3, h3'⟩ := h3
    clear h2
    rewrite [e.out]
    go_enter Tryz.func95, Tryz.ntmps95
    go_wp2
    go_ret
    exact ⟨rfl, rfl⟩
  by_cases h4 : 240 ≤ x ∧ x ≤ 244
  · have e : Hd ((l2len x : Int) = 4) := ⟨by unfold l2len; rw [if_neg h1, if_neg h2, if_neg h3, if_pos h4]; rfl⟩
    obtain ⟨h4, h4'⟩ := h4
    clear h2 h3
    rewrite [e.out]
    go_enter Tryz.func95, Tryz.ntmps95
    go_wp2
    go_ret
    exact ⟨rfl, rfl⟩
  · have e : Hd ((l2len x : Int) = 0) := ⟨by unfold l2len; rw [if_neg h1, if_neg h2, if_neg h3, if_neg h4]; rfl⟩
    have h5 : (128 ≤ x ∧ x < 194) ∨ 244 < x := by omega
    clear h1 h2 h3 h4
    rewrite [e.out]
    rcases h5 with ⟨h5, h6⟩ | h5
    · go_enter Tryz.func95, Tryz.ntmps95
      go_wp2
      go_ret
      exact ⟨rfl, rfl⟩
    · go_enter Tryz.func95, Tryz.ntmps95
      go_wp2
      go_ret
      exact ⟨rfl, rfl⟩

theorem l2len_is (x : Nat) (hx : x < 256) : l2len x = 0 ∨ l2len x = headSize x := by
  unfold l2len headSize; repeat' split
  all_goals omega
theorem got_len {t : List UInt8} {n : Int} (h : Got t n) : l2len (gv t 0) = headSize (gv t 0) := by
  have hx := gv_lt t 0
  rcases l2len_is (gv t 0) hx with h0 | h0
  · exfalso
    obtain ⟨h1, h2⟩ := got_cand h
    have hs := h.1
    have hr : (128 ≤ gv t 0 ∧ gv t 0 < 194) ∨ 244 < gv t 0 := by
      unfold l2len at h0
      repeat' split at h0
      all_goals omega
    rcases hr with ⟨r1, r2⟩ | r
    · have hm : cand t < 194 := by unfold cand; simp only []; repeat' split
                                   all_goals omega
      by_cases h3 : gv t 0 < 192
      · have hc : cand t = gv t 0 := by unfold cand; simp only []; repeat' split
                                        all_goals omega
        have hz : headSize (gv t 0) = 1 := by unfold headSize; repeat' split
                                              all_goals omega
        rw [h1, hc, signB_two r1 (by omega), hz] at h2
        simp at h2
      · have hc : cand t < 128 := by unfold cand; simp only []; repeat' split
                                     all_goals omega
        have hz : headSize (gv t 0) = 2 := by unfold headSize; repeat' split
                                              all_goals omega
        rw [h1, signB_one hc, hz] at h2
        simp at h2
    · have hc : 1310720 ≤ cand t := by unfold cand; simp only []; repeat' split
                                       all_goals omega
      rw [h1] at hs
      unfold isSign at hs; omega
  · exact h0
theorem got_cont {t : List UInt8} {n : Int} (h : Got t n) (i : Nat) (hi : 1 ≤ i) (hi2 : i < headSize (gv t 0)) : 128 ≤ gv t i ∧ gv t i < 192 := by
  rw [(got_cand h).2] at hi2
  obtain ⟨hs, r, rfl⟩ := h
  have e : gv (signB n ++ r) i = gv (signB n) i := by simp [gv, List.getD, List.getElem?_append_left hi2]
  rw [e]
  have h0 : 0 ≤ n := by rcases hs with h | h <;> omega
  obtain ⟨m, rfl⟩ := Int.eq_ofNat_of_zero_le h0
  have hm : m < 1114112 := by rcases hs with h | h <;> omega
  by_cases h1 : m < 128
  · rw [signB_one h1] at hi2; simp at hi2; omega
  by_cases h2 : m < 2048
  · rw [signB_two (by omega) h2] at hi2 ⊢
    simp at hi2
    obtain rfl : i = 1 := by omega
    simp only [gv, List.getD_cons_succ, List.getD_cons_zero]; rw [bt_val _ (by omega)]; omega
  by_cases h3 : m < 65536
  · rw [signB_three (by omega) h3 hs] at hi2 ⊢
    simp at hi2
    rcases (show i = 1 ∨ i = 2 by omega) with rfl | rfl
    · simp only [gv, List.getD_cons_succ, List.getD_cons_zero]; rw [bt_val _ (by omega)]; omega
    · simp only [gv, List.getD_cons_succ, List.getD_cons_zero]; rw [bt_val _ (by omega)]; omega
  · rw [signB_four (by omega) hs] at hi2 ⊢
    simp at hi2
    rcases (show i = 1 ∨ i = 2 ∨ i = 3 by omega) with rfl | rfl | rfl
    · simp only [gv, List.getD_cons_succ, List.getD_cons_zero]; rw [bt_val _ (by omega)]; omega
    · simp only [gv, List.getD_cons_succ, List.getD_cons_zero]; rw [bt_val _ (by omega)]; omega
    · simp only [gv, List.getD_cons_succ, List.getD_cons_zero]; rw [bt_val _ (by omega)]; omega

set_option maxHeartbeats 400000 in
theorem specGetSign_out (ao : Option Addr) (len cap : Nat) (bs : List UInt8) (at_ : Int) (w : World) (hn : bs.length = len) (hl : len ≤ 1073741824) (h : at_ < 0 ∨ (len : Int) ≤ at_) :
    Calls Tryz.prog 89 #[.slice ao len cap, .int .i64 at_] w (GetSigned w bs at_) := by
  have hG : Hd (GotAt bs at_ (0, 0, false)) := ⟨.inr ⟨rfl, by rw [hn]; omega⟩⟩
  clear hn
  go_enter Tryz.func89, Tryz.ntmps89
  go_wp2_with fail
  refine (l1In_any at_ 0 ((len : Int) - 1) _).mono ?_
  rintro e w1 ⟨rfl, hw1⟩
  replace hw1 := hw1.symm
  subst hw1
  rewrite [in_f (show ¬ (0 ≤ at_ ∧ at_ ≤ (len : Int) - 1) from by omega)]
  go_wp2_with fail
  go_ret3
  exact ⟨(0, 0, false), rfl, hG.out, Below.refl _ _⟩

theorem u8_and (a b : Nat) (ha : a < 256) (hb : b < 256) : bits .and .u8 (a : Int) (b : Int) = ((a &&& b : Nat) : Int) := by
  have h1 : ∀ c : Nat, c < 256 → (BitVec.ofInt 8 (c : Int)).toNat = c := fun c hc => by simp; omega
  have hx : a &&& b < 2 ^ 8 := Nat.and_lt_two_pow _ (by omega)
  show IntKind.u8.wrap ((BitVec.ofInt 8 (a : Int) &&& BitVec.ofInt 8 (b : Int)).toNat : Int) = _
  rw [BitVec.toNat_and, h1 a ha, h1 b hb, IntKind.wrap_u8]; omega
set_option maxRecDepth 100000 in
theorem and192 : ∀ a : Fin 256, ((a.val &&& 192) = 128) = (128 ≤ a.val ∧ a.val < 192) := by decide
theorem cont_yes (y : Nat) (hy : y < 256) (h : 128 ≤ y ∧ y < 192) : bits .and .u8 (y : Int) 192 = 128 := by
  have e := u8_and y 192 hy (by omega)
  have k : y &&& 192 = 128 := by have := and192 ⟨y, hy⟩; simp only at this; rw [this]; exact h
  rw [k] at e; exact e
theorem cont_no (y : Nat) (hy : y < 256) (h : ¬ (128 ≤ y ∧ y < 192)) : (bits .and .u8 (y : Int) 192 != 128) = true := by
  have e := u8_and y 192 hy (by omega)
  have k : y &&& 192 ≠ 128 := by have := and192 ⟨y, hy⟩; simp only at this; intro q; rw [this] at q; exact h q
  have e2 : bits .and .u8 (y : Int) 192 = ((y &&& 192 : Nat) : Int) := e
  rw [e2, bne_iff_ne]; omega
theorem low6 (y : Nat) (hy : y < 256) : bits .and .u8 (y : Int) 63 = ((y % 64 : Nat) : Int) := by
  have e := u8_and y 63 hy (by omega)
  have h : y &&& 63 = y % 64 := by
    have := Nat.and_two_pow_sub_one_eq_mod y 6
    simpa using this
  rw [h] at e; exact e
theorem mask_head (x sz : Nat) (hx : x < 256) (hl : l2len x = sz) (h1 : ¬ sz = 1) (h0 : 1 ≤ sz) : bits .and .i64 (x : Int) (127 / 2 ^ sz) = (headBits x : Int) := by
  have a1 : ∀ n : Nat, x &&& (2 ^ n - 1) = x % 2 ^ n := fun n => Nat.and_two_pow_sub_one_eq_mod x n
  unfold l2len at hl
  by_cases c1 : x < 128
  · rw [if_pos c1] at hl; omega
  rw [if_neg c1] at hl
  by_cases c2 : 194 ≤ x ∧ x ≤ 223
  · rw [if_pos c2] at hl; subst hl
    have := i64_and x 31 (by omega) (by omega)
    rw [show (127 / 2 ^ 2 : Int) = ((31 : Nat) : Int) from rfl, this, show x &&& 31 = x % 32 from a1 5]
    unfold headBits; rw [if_neg (by omega), if_neg (by omega), if_pos (by omega)]; omega
  rw [if_neg c2] at hl
  by_cases c3 : 224 ≤ x ∧ x ≤ 239
  · rw [if_pos c3] at hl; subst hl
    have := i64_and x 15 (by omega) (by omega)
    rw [show (127 / 2 ^ 3 : Int) = ((15 : Nat) : Int) from rfl, this, show x &&& 15 = x % 16 from a1 4]
    unfold headBits; rw [if_neg (by omega), if_pos (by omega)]; omega
  rw [if_neg c3] at hl
  by_cases c4 : 240 ≤ x ∧ x ≤ 244
  · rw [if_pos c4] at hl; subst hl
    have := i64_and x 7 (by omega) (by omega)
    rw [show (127 / 2 ^ 4 : Int) = ((7 : Nat) : Int) from rfl, this, show x &&& 7 = x % 8 from a1 3]
    unfold headBits; rw [if_pos (by omega)]; omega
  · rw [if_neg c4] at hl; omega
theorem bits_one (x : Nat) (hl : headSize x = 1) : headBits x = x := by
  unfold headSize at hl; unfold headBits
  repeat' split at hl
  all_goals first | omega | (repeat' split; all_goals first | omega | rfl)

/-- PutSign, in the specification, of an empty slice, seen from an earlier world. -/
structure EmptyPut (w0 : World) (n : Int) (e : Ending) (w' : World) : Prop where
  out : ∃ g c, e = .returned (.slice (some ⟨g, 0, none⟩) (signB n).length c) ∧ (convert 60 9 (.slice (some ⟨g, 0, none⟩) (signB n).length c)).run Tryz.prog w' = .ok (.string ⟨(signB n).toArray⟩) w' ∧ Hd (Below w0.heap.size w0 w')
theorem specPutSign_at (w0 : World) (g0 c0 : Nat) (n : Int) (w : World) (hb : Below w0.heap.size w0 w) (hg : g0 < w.heap.size) : Calls Tryz.prog 82 #[.slice (some ⟨g0, 0, none⟩) 0 c0, .int .i64 n] w (EmptyPut w0 n) := by
  refine (specPutSign_some g0 0 0 c0 [] n w rfl (fun j hj => absurd hj (by omega)) hg (by omega)).mono ?_
  rintro e w2 ⟨g, c, rfl, _, hO, hB⟩
  exact ⟨g, c, rfl, conv_owned (hO.owns rfl (Nat.le_refl _)), ⟨Below.next hb hB⟩⟩

set_option maxHeartbeats 1000000 in
theorem specGetSign_none (b off len cap k x : Nat) (t : List UInt8) (w : World) (HT : Hd (From w b off len k t)) (HX : Hd (gv t 0 = x)) (HL : Hd (l2len x = 0)) (hl : len ≤ 1073741824) (hk : k < len) (hx : x < 256) :
    Calls Tryz.prog 89 #[.slice (some ⟨b, off, none⟩) len cap, .int .i64 (k : Int)] w fun e w' => e = .returned (.tuple #[.int .i64 0, .int .i64 0, .bool false]) ∧ Below w.heap.size w w' := by
  have hc0 : w.cell? ⟨b, off + k, none⟩ = some (.int .u8 (x : Int)) := by have := HT.out.cell 0 (by omega); rw [HX.out] at this; simpa using this
  have hkI : (k : Int) < (len : Int) := by omega
  have hin : Hd (inB (k : Int) 0 ((len : Int) - 1) = true) := ⟨in_t (by omega)⟩
  go_enter Tryz.func89, Tryz.ntmps89
  go_wp2_with fail
  refine (l1In_any (k : Int) 0 ((len : Int) - 1) _).mono ?_
  rintro e w1 ⟨rfl, hw1⟩
  replace hw1 := hw1.symm
  subst hw1
  rewrite [hin.out]
  go_wp2_with fail
  refine (l2Len_any x _ hx).mono ?_
  rintro e w1 ⟨rfl, hw1⟩
  subst hw1
  rewrite [HL.out]
  go_wp2_with fail
  go_ret3
  exact ⟨rfl, Below.refl _ _⟩

set_option maxHeartbeats 1000000 in
theorem specGetSign_short (b off len cap k sz x : Nat) (t : List UInt8) (w : World) (HT : Hd (From w b off len k t)) (HX : Hd (gv t 0 = x)) (HS : Hd (headSize x = sz)) (HL : Hd (l2len x = sz)) (_ : len ≤ cap) (hl : len ≤ 1073741824) (hk : k < len) (hx : x < 256) (hz1 : 1 ≤ sz) (_ : sz ≤ 4) (hsz : len - k < sz) :
    Calls Tryz.prog 89 #[.slice (some ⟨b, off, none⟩) len cap, .int .i64 (k : Int)] w fun e w' =>
      (e = .returned (.tuple #[.int .i64 (cand t : Int), .int .i64 ((k : Int) + (sz : Int)), .bool true]) ∧ Got t (cand t : Int) ∧ (signB (cand t : Int)).length = sz ∧ Below w.heap.size w w') ∨
      (e = .returned (.tuple #[.int .i64 0, .int .i64 0, .bool false]) ∧ Hd (NoGot t) ∧ Below w.heap.size w w') := by
  have hc0 : w.cell? ⟨b, off + k, none⟩ = some (.int .u8 (x : Int)) := by have := HT.out.cell 0 (by omega); rw [HX.out] at this; simpa using this
  have hw0 : wrap64 (x : Int) = (x : Int) := wrap64_in (by omega) (by omega)
  have hkI : (k : Int) < (len : Int) := by omega
  have hin : Hd (inB (k : Int) 0 ((len : Int) - 1) = true) := ⟨in_t (by omega)⟩
  have hno : Hd (NoGot t) := ⟨read_short (by rw [HX.out, HS.out, HT.out.size]; exact hsz)⟩
  go_enter Tryz.func89, Tryz.ntmps89
  go_wp2_with fail
  refine (l1In_any (k : Int) 0 ((len : Int) - 1) _).mono ?_
  rintro e w1 ⟨rfl, hw1⟩
  replace hw1 := hw1.symm
  subst hw1
  rewrite [hin.out]
  go_wp2_with fail
  refine (l2Len_any x _ hx).mono ?_
  rintro e w1 ⟨rfl, hw1⟩
  subst hw1
  rewrite [HL.out]
  have hsz' : (len : Int) - (k : Int) < (sz : Int) := by omega
  go_wp2_with fail
  go_ret3
  exact .inr ⟨rfl, hno, Below.refl _ _⟩

set_option maxHeartbeats 4000000 in
set_option maxRecDepth 100000 in
theorem specGetSign_one (b off len cap k x : Nat) (t : List UInt8) (w : World) (HT : Hd (From w b off len k t)) (HX : Hd (gv t 0 = x)) (HS : Hd (headSize x = 1)) (HL : Hd (l2len x = 1)) (hlc : len ≤ cap) (hl : len ≤ 1073741824) (hk : k < len) (hx : x < 256) :
    Calls Tryz.prog 89 #[.slice (some ⟨b, off, none⟩) len cap, .int .i64 (k : Int)] w fun e w' =>
      (e = .returned (.tuple #[.int .i64 (cand t : Int), .int .i64 ((k : Int) + 1), .bool true]) ∧ Got t (cand t : Int) ∧ (signB (cand t : Int)).length = 1 ∧ Below w.heap.size w w') ∨
      (e = .returned (.tuple #[.int .i64 0, .int .i64 0, .bool false]) ∧ Hd (NoGot t) ∧ Below w.heap.size w w') := by
  have hc0 : w.cell? ⟨b, off + k, none⟩ = some (.int .u8 (x : Int)) := by have := HT.out.cell 0 (by omega); rw [HX.out] at this; simpa using this
  have hw0 : wrap64 (x : Int) = (x : Int) := wrap64_in (by omega) (by omega)
  have hkI : (k : Int) < (len : Int) := by omega
  have hin : Hd (inB (k : Int) 0 ((len : Int) - 1) = true) := ⟨in_t (by omega)⟩
  go_enter Tryz.func89, Tryz.ntmps89
  go_wp2_with fail
  refine (l1In_any (k : Int) 0 ((len : Int) - 1) _).mono ?_
  rintro e w1 ⟨rfl, hw1⟩
  replace hw1 := hw1.symm
  subst hw1
  rewrite [hin.out]
  go_wp2_with fail
  refine (l2Len_any x _ hx).mono ?_
  rintro e w1 ⟨rfl, hw1⟩
  subst hw1
  rewrite [HL.out]
  have hsz' : ¬ (len : Int) - (k : Int) < 1 := by omega
  have HCV : Hd (∀ (w' : World) (m c : Nat), m = 1 → Below w.heap.size w w' → (convert 60 9 (.slice (some ⟨b, off + k, none⟩) m c)).run Tryz.prog w' = .ok (.string ⟨(t.take 1).toArray⟩) w') := ⟨fun w' m c hm hb => by subst hm; exact conv_from (from_below HT.out hb) (by omega)⟩
  have hA0 : Hd (headBits x = acc t 0) := ⟨by rw [← HX.out]; rfl⟩
  have hA1 : Hd ((x : Int) = (cand t : Int)) := ⟨by have := acc_cand t; rw [HX.out, HS.out] at this; rw [← this]; show (x : Int) = (acc t 0 : Int); rw [← hA0.out, bits_one x HS.out]⟩
  have c1 : (k : Int) ≤ (k : Int) + 1 := by omega
  have c2 : (k : Int) + 1 ≤ (cap : Int) := by omega
  have c3 : ¬ cap = k := by omega
  have c5 : IntKind.i64.wrap ((k : Int) + 1) = (k : Int) + 1 := by rw [IntKind.wrap_i64]; omega
  go_wp2_with fail
  refine wp_loop_rounds 1 ?_
  rewrite [rounds_succ]
  go_wp2_with fail
  rewrite [hA1.out]
  by_cases hs : isSign (cand t : Int)
  · have Hs : Hd (isSign (cand t : Int)) := ⟨hs⟩
    by_cases heq : signB (cand t : Int) = t.take 1
    · have HE : (signB (cand t : Int) == t.take 1) = true := by simpa using heq
      have HY : Hd (Got t (cand t : Int) ∧ (signB (cand t : Int)).length = 1) := ⟨by have := read_yes (t := t) (by rw [HX.out, HS.out]; exact heq) (by rw [HX.out, HS.out, HT.out.size]; omega); rw [HX.out, HS.out] at this; exact this⟩
      clear heq hs
      go_region_held (fun w' => Hd (Below w.heap.size w w') ∧ (convert 60 9 (.slice (some ⟨b, off + k, none⟩) (1) (cap - k))).run Tryz.prog w' = .ok (.string ⟨(t.take 1).toArray⟩) w') (first | assumption | exact ⟨⟨(Below.refl _ w).drew⟩, HCV.out _ _ _ (by omega) (Below.refl _ w).drew⟩ | exact ⟨⟨(Below.refl _ w).drew.alloc (Nat.le_refl _) _⟩, HCV.out _ _ _ (by omega) ((Below.refl _ w).drew.alloc (Nat.le_refl _) _)⟩ | exact ⟨hB2, HCV.out _ _ _ (by omega) hB2.out⟩) (first | (go_at_call 92; refine (specSignOk_yes Hs _).mono ?_; rintro e w1 ⟨rfl, hw1⟩; subst hw1) | (go_at_call 82; refine (specPutSign_at w _ _ (cand t : Int) _ ?_ ?_).mono ?_; exact (Below.refl _ w).drew.alloc (Nat.le_refl _) _; simp; rintro e w2 ⟨g2, cg2, rfl, hcv2, hB2⟩))
      all_goals
        go_wp2_with fail
        go_ret3
        exact .inl ⟨rfl, HY.out.1, HY.out.2, hB2.out⟩
    · have HE : (signB (cand t : Int) == t.take 1) = false := by simpa using heq
      have HY : Hd (NoGot t) := ⟨read_no (t := t) (by rw [HX.out, HS.out]; exact heq)⟩
      clear heq hs
      go_region_held (fun w' => Hd (Below w.heap.size w w') ∧ (convert 60 9 (.slice (some ⟨b, off + k, none⟩) (1) (cap - k))).run Tryz.prog w' = .ok (.string ⟨(t.take 1).toArray⟩) w') (first | assumption | exact ⟨⟨(Below.refl _ w).drew⟩, HCV.out _ _ _ (by omega) (Below.refl _ w).drew⟩ | exact ⟨⟨(Below.refl _ w).drew.alloc (Nat.le_refl _) _⟩, HCV.out _ _ _ (by omega) ((Below.refl _ w).drew.alloc (Nat.le_refl _) _)⟩ | exact ⟨hB2, HCV.out _ _ _ (by omega) hB2.out⟩) (first | (go_at_call 92; refine (specSignOk_yes Hs _).mono ?_; rintro e w1 ⟨rfl, hw1⟩; subst hw1) | (go_at_call 82; refine (specPutSign_at w _ _ (cand t : Int) _ ?_ ?_).mono ?_; exact (Below.refl _ w).drew.alloc (Nat.le_refl _) _; simp; rintro e w2 ⟨g2, cg2, rfl, hcv2, hB2⟩))
      all_goals
        go_wp2_with fail
        go_ret3
        exact .inr ⟨rfl, HY, hB2.out⟩
  · have Hs : Hd (¬ isSign (cand t : Int)) := ⟨hs⟩
    have HY : Hd (NoGot t) := ⟨fun ⟨n, hg⟩ => hs (by rw [← (got_cand hg).1]; exact hg.1)⟩
    clear hs
    go_quiet (first | (go_at_call 92; exact Calls.quiet_of_same (specSignOk_no Hs _)))
    all_goals
      go_wp2_with fail
      go_ret3
      exact .inr ⟨rfl, HY, below_drewN' _ _ _⟩

set_option maxHeartbeats 8000000 in
set_option maxRecDepth 100000 in
theorem specGetSign_more (b off len cap k sz x : Nat) (t : List UInt8) (w : World) (HT : Hd (From w b off len k t)) (HX : Hd (gv t 0 = x)) (HS : Hd (headSize x = sz)) (HL : Hd (l2len x = sz)) (hlc : len ≤ cap) (hl : len ≤ 1073741824) (hk : k < len) (hx : x < 256) (hz1 : 1 ≤ sz) (hz4 : sz ≤ 4) (h1 : ¬ sz = 1) (hsz : ¬ len - k < sz) :
    Calls Tryz.prog 89 #[.slice (some ⟨b, off, none⟩) len cap, .int .i64 (k : Int)] w fun e w' =>
      (e = .returned (.tuple #[.int .i64 (cand t : Int), .int .i64 ((k : Int) + (sz : Int)), .bool true]) ∧ Got t (cand t : Int) ∧ (signB (cand t : Int)).length = sz ∧ Below w.heap.size w w') ∨
      (e = .returned (.tuple #[.int .i64 0, .int .i64 0, .bool false]) ∧ Hd (NoGot t) ∧ Below w.heap.size w w') := by
  have hc0 : w.cell? ⟨b, off + k, none⟩ = some (.int .u8 (x : Int)) := by have := HT.out.cell 0 (by omega); rw [HX.out] at this; simpa using this
  have hw0 : wrap64 (x : Int) = (x : Int) := wrap64_in (by omega) (by omega)
  have hkI : (k : Int) < (len : Int) := by omega
  have hin : Hd (inB (k : Int) 0 ((len : Int) - 1) = true) := ⟨in_t (by omega)⟩
  go_enter Tryz.func89, Tryz.ntmps89
  go_wp2_with fail
  refine (l1In_any (k : Int) 0 ((len : Int) - 1) _).mono ?_
  rintro e w1 ⟨rfl, hw1⟩
  replace hw1 := hw1.symm
  subst hw1
  rewrite [hin.out]
  go_wp2_with fail
  refine (l2Len_any x _ hx).mono ?_
  rintro e w1 ⟨rfl, hw1⟩
  subst hw1
  rewrite [HL.out]
  have hsz' : ¬ (len : Int) - (k : Int) < (sz : Int) := by omega
  have hz0 : ((sz : Int) == 0) = false := by simp; omega
  have HCV : Hd (∀ (w' : World) (m c : Nat), m = sz → Below w.heap.size w w' → (convert 60 9 (.slice (some ⟨b, off + k, none⟩) m c)).run Tryz.prog w' = .ok (.string ⟨(t.take sz).toArray⟩) w') := ⟨fun w' m c hm hb => by subst hm; exact conv_from (from_below HT.out hb) (by omega)⟩
  have hA0 : Hd (headBits x = acc t 0) := ⟨by rw [← HX.out]; rfl⟩
  have hM : Hd (bits .and .i64 (x : Int) (127 / 2 ^ sz) = (acc t 0 : Int)) := ⟨by rw [mask_head x sz hx HL.out h1 hz1, hA0.out]⟩
  have h2 : (1 : Int) < (sz : Int) := by omega
  go_wp2_with fail
  go_loop [8, 9] (fun n i => ∃ q : Nat, q < sz ∧ i = .int .i64 (q + 1) ∧ n = .int .i64 (acc t q)) (fun _ i => sz + 1 - (intOf i).toNat)
  case atStart => exact ⟨0, by omega, rfl, congrArg (Value.int .i64) hM.out⟩
  case round =>
    obtain ⟨q, hq, rfl, rfl⟩ := hrel
    by_cases hlt : q + 1 < sz
    · obtain ⟨y, hy⟩ : ∃ y, gv t (q + 1) = y := ⟨_, rfl⟩
      have Hy : Hd (gv t (q + 1) = y) := ⟨hy⟩
      have hy2 : y < 256 := by rw [← hy]; exact gv_lt _ _
      have hcell : w.cell? ⟨b, off + (k + (q + 1)), none⟩ = some (.int .u8 (y : Int)) := by
        have := HT.out.cell (q + 1) (by omega)
        rw [hy] at this; exact this
      have f1 : (q : Int) + 1 < (sz : Int) := by omega
      clear hy
      by_cases hcont : 128 ≤ y ∧ y < 192
      · have e1 := cont_yes y hy2 hcont
        have e2 := low6 y hy2
        have hst : Hd (bits .or .i64 ((acc t q : Int) * 64) ((y : Int) % 64) = (acc t (q + 1) : Int)) := ⟨by rw [show (y : Int) % 64 = ((y % 64 : Nat) : Int) from by omega]; exact acc_step t q (by omega) y Hy.out⟩
        have hA : acc t q < 67108864 := acc_lt t q (by omega)
        clear hcont
        generalize acc t q = A at *
        go_wp2_with fail
        go_round
        case rel => exact ⟨q + 1, hlt, by go_num, by rw [hst.out]⟩
        case measure => simp [intOf]; omega
      · have e1 := cont_no y hy2 hcont
        have hno : Hd (NoGot t) := ⟨fun ⟨n, hg⟩ => hcont (by have := got_cont hg (q + 1) (by omega) (by rw [HX.out, HS.out]; exact hlt); rw [Hy.out] at this; exact this)⟩
        clear hcont
        go_wp2_with fail
        go_ret3
        first | exact .inr ⟨rfl, hno, Below.refl _ _⟩ | exact .inr ⟨rfl, Below.refl _ _⟩
    · have hqs : Hd (q = sz - 1) := ⟨by omega⟩
      have hA1 : Hd (acc t q = cand t) := ⟨by have := acc_cand t; rw [HX.out, HS.out, ← hqs.out] at this; exact this⟩
      have f1 : ¬ (q : Int) + 1 < (sz : Int) := by omega
      have c1 : (k : Int) ≤ (k : Int) + (sz : Int) := by omega
      have c2 : (k : Int) + (sz : Int) ≤ (cap : Int) := by omega
      have c3 : ¬ cap = k := by omega
      have c5 : IntKind.i64.wrap ((k : Int) + (sz : Int)) = (k : Int) + (sz : Int) := by rw [IntKind.wrap_i64]; omega
      rewrite [hA1.out]
      go_wp2_with fail
      by_cases hs : isSign (cand t : Int)
      · have Hs : Hd (isSign (cand t : Int)) := ⟨hs⟩
        by_cases heq : signB (cand t : Int) = t.take sz
        · have HE : (signB (cand t : Int) == t.take sz) = true := by simpa using heq
          have HY : Hd (Got t (cand t : Int) ∧ (signB (cand t : Int)).length = sz) := ⟨by have := read_yes (t := t) (by rw [HX.out, HS.out]; exact heq) (by rw [HX.out, HS.out, HT.out.size]; omega); rw [HX.out, HS.out] at this; exact this⟩
          clear heq hs
          go_region_held (fun w' => Hd (Below w.heap.size w w') ∧ (convert 60 9 (.slice (some ⟨b, off + k, none⟩) (((k : Int) + (sz : Int)).toNat - k) (cap - k))).run Tryz.prog w' = .ok (.string ⟨(t.take sz).toArray⟩) w') (first | assumption | exact ⟨⟨(Below.refl _ w).drew⟩, HCV.out _ _ _ (by omega) (Below.refl _ w).drew⟩ | exact ⟨⟨(Below.refl _ w).drew.alloc (Nat.le_refl _) _⟩, HCV.out _ _ _ (by omega) ((Below.refl _ w).drew.alloc (Nat.le_refl _) _)⟩ | exact ⟨hB2, HCV.out _ _ _ (by omega) hB2.out⟩) (first | (go_at_call 92; refine (specSignOk_yes Hs _).mono ?_; rintro e w1 ⟨rfl, hw1⟩; subst hw1) | (go_at_call 82; refine (specPutSign_at w _ _ (cand t : Int) _ ?_ ?_).mono ?_; exact (Below.refl _ w).drew.alloc (Nat.le_refl _) _; simp; rintro e w2 ⟨g2, cg2, rfl, hcv2, hB2⟩))
          all_goals
            go_wp2_with fail
            go_ret3
            exact .inl ⟨rfl, HY.out.1, HY.out.2, hB2.out⟩
        · have HE : (signB (cand t : Int) == t.take sz) = false := by simpa using heq
          have HY : Hd (NoGot t) := ⟨read_no (t := t) (by rw [HX.out, HS.out]; exact heq)⟩
          clear heq hs
          go_region_held (fun w' => Hd (Below w.heap.size w w') ∧ (convert 60 9 (.slice (some ⟨b, off + k, none⟩) (((k : Int) + (sz : Int)).toNat - k) (cap - k))).run Tryz.prog w' = .ok (.string ⟨(t.take sz).toArray⟩) w') (first | assumption | exact ⟨⟨(Below.refl _ w).drew⟩, HCV.out _ _ _ (by omega) (Below.refl _ w).drew⟩ | exact ⟨⟨(Below.refl _ w).drew.alloc (Nat.le_refl _) _⟩, HCV.out _ _ _ (by omega) ((Below.refl _ w).drew.alloc (Nat.le_refl _) _)⟩ | exact ⟨hB2, HCV.out _ _ _ (by omega) hB2.out⟩) (first | (go_at_call 92; refine (specSignOk_yes Hs _).mono ?_; rintro e w1 ⟨rfl, hw1⟩; subst hw1) | (go_at_call 82; refine (specPutSign_at w _ _ (cand t : Int) _ ?_ ?_).mono ?_; exact (Below.refl _ w).drew.alloc (Nat.le_refl _) _; simp; rintro e w2 ⟨g2, cg2, rfl, hcv2, hB2⟩))
          all_goals
            go_wp2_with fail
            go_ret3
            exact .inr ⟨rfl, HY, hB2.out⟩
      · have Hs : Hd (¬ isSign (cand t : Int)) := ⟨hs⟩
        have HY : Hd (NoGot t) := ⟨fun ⟨n, hg⟩ => hs (by rw [← (got_cand hg).1]; exact hg.1)⟩
        clear hs
        go_quiet (first | (go_at_call 92; exact Calls.quiet_of_same (specSignOk_no Hs _)))
        all_goals
          go_wp2_with fail
          go_ret3
          exact .inr ⟨rfl, HY, below_drewN' _ _ _⟩

theorem specGetSign_any (b off len cap : Nat) (bs : List UInt8) (at_ : Int) (w : World) (hn : bs.length = len) (hlc : len ≤ cap) (hc : ∀ j, j < len → w.cell? ⟨b, off + j, none⟩ = some (.int .u8 ((bs.getD j 0).toNat : Int))) (hl : len ≤ 1073741824) :
    Calls Tryz.prog 89 #[.slice (some ⟨b, off, none⟩) len cap, .int .i64 at_] w (GetSigned w bs at_) := by
  by_cases h : at_ < 0 ∨ (len : Int) ≤ at_
  · exact specGetSign_out _ len cap bs at_ w hn hl h
  · obtain ⟨k, rfl⟩ := Int.eq_ofNat_of_zero_le (show 0 ≤ at_ from by omega)
    have hk : k < len := by omega
    have hF : Hd (From w b off len k (bs.drop k)) := ⟨from_of hn hc⟩
    obtain ⟨h1, h4⟩ := headSize_in (gv (bs.drop k) 0)
    have hx := gv_lt (bs.drop k) 0
    have fin : ∀ (sz : Nat) (e : Ending) (w' : World), ((e = .returned (.tuple #[.int .i64 (cand (bs.drop k) : Int), .int .i64 ((k : Int) + (sz : Int)), .bool true]) ∧ Got (bs.drop k) (cand (bs.drop k) : Int) ∧ (signB (cand (bs.drop k) : Int)).length = sz ∧ Below w.heap.size w w') ∨ (e = .returned (.tuple #[.int .i64 0, .int .i64 0, .bool false]) ∧ Hd (NoGot (bs.drop k)) ∧ Below w.heap.size w w')) → GetSigned w bs (k : Int) e w' := by
      rintro sz e w' (⟨rfl, hg, hs, hB⟩ | ⟨rfl, hg, hB⟩)
      · exact ⟨((cand (bs.drop k) : Int), (k : Int) + (sz : Int), true), rfl, gotAt_yes (by omega) hg hs, hB⟩
      · exact ⟨(0, 0, false), rfl, gotAt_no hg.out, hB⟩
    rcases l2len_is (gv (bs.drop k) 0) hx with h0 | h0
    · refine (specGetSign_none b off len cap k _ (bs.drop k) w hF ⟨rfl⟩ ⟨h0⟩ hl hk hx).mono ?_
      rintro e w' ⟨rfl, hB⟩
      refine fin 0 _ _ (.inr ⟨rfl, ⟨?_⟩, hB⟩)
      rintro ⟨n, hg⟩
      have := got_len hg
      omega
    · by_cases hsz : len - k < headSize (gv (bs.drop k) 0)
      · exact (specGetSign_short b off len cap k _ _ (bs.drop k) w hF ⟨rfl⟩ ⟨rfl⟩ ⟨h0⟩ hlc hl hk hx h1 h4 hsz).mono (fin _)
      · by_cases hs1 : headSize (gv (bs.drop k) 0) = 1
        · exact (specGetSign_one b off len cap k _ (bs.drop k) w hF ⟨rfl⟩ ⟨hs1⟩ ⟨by rw [h0, hs1]⟩ hlc hl hk hx).mono (fin 1)
        · exact (specGetSign_more b off len cap k _ _ (bs.drop k) w hF ⟨rfl⟩ ⟨rfl⟩ ⟨h0⟩ hlc hl hk hx h1 h4 hs1 hsz).mono (fin _)

end Go.Proofs.YtlididoalekeoaaGreatDoor
