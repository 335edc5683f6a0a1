/- The contract of GetSign in the specification, of a first byte that asks for no other. -/
import Derived.Test.YtpafjehphajbhaaGreatDoorGetSpec
namespace Go.Proofs.YtpafjehphajbhaaGreatDoor
set_option maxRecDepth 4000
open Go.RowKit

set_option maxHeartbeats 1000000 in
theorem specGetSign_none (b off len cap k x : Nat) (t : List UInt8) (w : World) (HT : Hd (From w b off len k t)) (HX : Hd (gv t 0 = x)) (HL : Hd (l2len x = 0)) (hl : len ≤ 1073741824) (hk : k < len) (hx : x < 256) :
    Calls Tryz.prog 96 #[.slice (some ⟨b, off, none⟩) len cap, .int .i64 (k : Int)] w fun e w' => e = .returned (.tuple #[.int .i64 0, .int .i64 0, .bool false]) ∧ Below w.heap.size w w' := by
  have hc0 : w.cell? ⟨b, off + k, none⟩ = some (.int .u8 (x : Int)) := by have := HT.out.cell 0 (by omega); rw [HX.out] at this; simpa using this
  have hkI : (k : Int) < (len : Int) := by omega
  have hin : Hd (inB (k : Int) 0 ((len : Int) - 1) = true) := ⟨in_t (by omega)⟩
  go_enter Tryz.func96, Tryz.ntmps96
  go_wp2_with fail
  refine (l1In_any (k : Int) 0 ((len : Int) - 1) _).mono ?_
  rintro e w1 ⟨rfl, hw1⟩
  replace hw1 := hw1.symm
  subst hw1
  rewrite [hin.out]
  go_wp2_with fail
  refine (l2Len_any x _ hx).mono ?_
  rintro e w1 ⟨rfl, hw1⟩
  subst hw1
  rewrite [HL.out]
  go_wp2_with fail
  go_ret3
  exact ⟨rfl, Below.refl _ _⟩

set_option maxHeartbeats 1000000 in
theorem specGetSign_short (b off len cap k sz x : Nat) (t : List UInt8) (w : World) (HT : Hd (From w b off len k t)) (HX : Hd (gv t 0 = x)) (HS : Hd (headSize x = sz)) (HL : Hd (l2len x = sz)) (_ : len ≤ cap) (hl : len ≤ 1073741824) (hk : k < len) (hx : x < 256) (hz1 : 1 ≤ sz) (_ : sz ≤ 4) (hsz : len - k < sz) :
    Calls Tryz.prog 96 #[.slice (some ⟨b, off, none⟩) len cap, .int .i64 (k : Int)] w fun e w' =>
      (e = .returned (.tuple #[.int .i64 (cand t : Int), .int .i64 ((k : Int) + (sz : Int)), .bool true]) ∧ Got t (cand t : Int) ∧ (signB (cand t : Int)).length = sz ∧ Below w.heap.size w w') ∨
      (e = .returned (.tuple #[.int .i64 0, .int .i64 0, .bool false]) ∧ Hd (NoGot t) ∧ Below w.heap.size w w') := by
  have hc0 : w.cell? ⟨b, off + k, none⟩ = some (.int .u8 (x : Int)) := by have := HT.out.cell 0 (by omega); rw [HX.out] at this; simpa using this
  have hw0 : wrap64 (x : Int) = (x : Int) := wrap64_in (by omega) (by omega)
  have hkI : (k : Int) < (len : Int) := by omega
  have hin : Hd (inB (k : Int) 0 ((len : Int) - 1) = true) := ⟨in_t (by omega)⟩
  have hno : Hd (NoGot t) := ⟨read_short (by rw [HX.out, HS.out, HT.out.size]; exact hsz)⟩
  go_enter Tryz.func96, Tryz.ntmps96
  go_wp2_with fail
  refine (l1In_any (k : Int) 0 ((len : Int) - 1) _).mono ?_
  rintro e w1 ⟨rfl, hw1⟩
  replace hw1 := hw1.symm
  subst hw1
  rewrite [hin.out]
  go_wp2_with fail
  refine (l2Len_any x _ hx).mono ?_
  rintro e w1 ⟨rfl, hw1⟩
  subst hw1
  rewrite [HL.out]
  have hsz' : (len : Int) - (k : Int) < (sz : Int) := by omega
  go_wp2_with fail
  go_ret3
  exact .inr ⟨rfl, hno, Below.refl _ _⟩

set_option maxHeartbeats 4000000 in
set_option maxRecDepth 100000 in
theorem specGetSign_one (b off len cap k x : Nat) (t : List UInt8) (w : World) (HT : Hd (From w b off len k t)) (HX : Hd (gv t 0 = x)) (HS : Hd (headSize x = 1)) (HL : Hd (l2len x = 1)) (hlc : len ≤ cap) (hl : len ≤ 1073741824) (hk : k < len) (hx : x < 256) :
    Calls Tryz.prog 96 #[.slice (some ⟨b, off, none⟩) len cap, .int .i64 (k : Int)] w fun e w' =>
      (e = .returned (.tuple #[.int .i64 (cand t : Int), .int .i64 ((k : Int) + 1), .bool true]) ∧ Got t (cand t : Int) ∧ (signB (cand t : Int)).length = 1 ∧ Below w.heap.size w w') ∨
      (e = .returned (.tuple #[.int .i64 0, .int .i64 0, .bool false]) ∧ Hd (NoGot t) ∧ Below w.heap.size w w') := by
  have hc0 : w.cell? ⟨b, off + k, none⟩ = some (.int .u8 (x : Int)) := by have := HT.out.cell 0 (by omega); rw [HX.out] at this; simpa using this
  have hw0 : wrap64 (x : Int) = (x : Int) := wrap64_in (by omega) (by omega)
  have hkI : (k : Int) < (len : Int) := by omega
  have hin : Hd (inB (k : Int) 0 ((len : Int) - 1) = true) := ⟨in_t (by omega)⟩
  go_enter Tryz.func96, Tryz.ntmps96
  go_wp2_with fail
  refine (l1In_any (k : Int) 0 ((len : Int) - 1) _).mono ?_
  rintro e w1 ⟨rfl, hw1⟩
  replace hw1 := hw1.symm
  subst hw1
  rewrite [hin.out]
  go_wp2_with fail
  refine (l2Len_any x _ hx).mono ?_
  rintro e w1 ⟨rfl, hw1⟩
  subst hw1
  rewrite [HL.out]
  have hsz' : ¬ (len : Int) - (k : Int) < 1 := by omega
  have HCV : Hd (∀ (w' : World) (m c : Nat), m = 1 → Below w.heap.size w w' → (convert 22 9 (.slice (some ⟨b, off + k, none⟩) m c)).run Tryz.prog w' = .ok (.string ⟨(t.take 1).toArray⟩) w') := ⟨fun w' m c hm hb => by subst hm; exact conv_from (from_below HT.out hb) (by omega)⟩
  have hA0 : Hd (headBits x = acc t 0) := ⟨by rw [← HX.out]; rfl⟩
  have hA1 : Hd ((x : Int) = (cand t : Int)) := ⟨by have := acc_cand t; rw [HX.out, HS.out] at this; rw [← this]; show (x : Int) = (acc t 0 : Int); rw [← hA0.out, bits_one x HS.out]⟩
  have c1 : (k : Int) ≤ (k : Int) + 1 := by omega
  have c2 : (k : Int) + 1 ≤ (cap : Int) := by omega
  have c3 : ¬ cap = k := by omega
  have c5 : IntKind.i64.wrap ((k : Int) + 1) = (k : Int) + 1 := by rw [IntKind.wrap_i64]; omega
  go_wp2_with fail
  refine wp_loop_rounds 1 ?_
  rewrite [rounds_succ]
  go_wp2_with fail
  rewrite [hA1.out]
  by_cases hs : isSign (cand t : Int)
  · have Hs : Hd (isSign (cand t : Int)) := ⟨hs⟩
    by_cases heq : signB (cand t : Int) = t.take 1
    · have HE : (signB (cand t : Int) == t.take 1) = true := by simpa using heq
      have HY : Hd (Got t (cand t : Int) ∧ (signB (cand t : Int)).length = 1) := ⟨by have := read_yes (t := t) (by rw [HX.out, HS.out]; exact heq) (by rw [HX.out, HS.out, HT.out.size]; omega); rw [HX.out, HS.out] at this; exact this⟩
      clear heq hs
      go_region_held (fun w' => Hd (Below w.heap.size w w') ∧ (convert 22 9 (.slice (some ⟨b, off + k, none⟩) (1) (cap - k))).run Tryz.prog w' = .ok (.string ⟨(t.take 1).toArray⟩) w') (first | assumption | exact ⟨⟨(Below.refl _ w).drew⟩, HCV.out _ _ _ (by omega) (Below.refl _ w).drew⟩ | exact ⟨⟨(Below.refl _ w).drew.alloc (Nat.le_refl _) _⟩, HCV.out _ _ _ (by omega) ((Below.refl _ w).drew.alloc (Nat.le_refl _) _)⟩ | exact ⟨hB2, HCV.out _ _ _ (by omega) hB2.out⟩) (first | (go_at_call 78; refine (specSignOk_yes Hs _).mono ?_; rintro e w1 ⟨rfl, hw1⟩; subst hw1) | (go_at_call 60; refine (specPutSign_at w _ _ (cand t : Int) _ ?_ ?_).mono ?_; exact (Below.refl _ w).drew.alloc (Nat.le_refl _) _; simp; rintro e w2 ⟨g2, cg2, rfl, hcv2, hB2⟩))
      all_goals
        go_wp2_with fail
        go_ret3
        exact .inl ⟨rfl, HY.out.1, HY.out.2, hB2.out⟩
    · have HE : (signB (cand t : Int) == t.take 1) = false := by simpa using heq
      have HY : Hd (NoGot t) := ⟨read_no (t := t) (by rw [HX.out, HS.out]; exact heq)⟩
      clear heq hs
      go_region_held (fun w' => Hd (Below w.heap.size w w') ∧ (convert 22 9 (.slice (some ⟨b, off + k, none⟩) (1) (cap - k))).run Tryz.prog w' = .ok (.string ⟨(t.take 1).toArray⟩) w') (first | assumption | exact ⟨⟨(Below.refl _ w).drew⟩, HCV.out _ _ _ (by omega) (Below.refl _ w).drew⟩ | exact ⟨⟨(Below.refl _ w).drew.alloc (Nat.le_refl _) _⟩, HCV.out _ _ _ (by omega) ((Below.refl _ w).drew.alloc (Nat.le_refl _) _)⟩ | exact ⟨hB2, HCV.out _ _ _ (by omega) hB2.out⟩) (first | (go_at_call 78; refine (specSignOk_yes Hs _).mono ?_; rintro e w1 ⟨rfl, hw1⟩; subst hw1) | (go_at_call 60; refine (specPutSign_at w _ _ (cand t : Int) _ ?_ ?_).mono ?_; exact (Below.refl _ w).drew.alloc (Nat.le_refl _) _; simp; rintro e w2 ⟨g2, cg2, rfl, hcv2, hB2⟩))
      all_goals
        go_wp2_with fail
        go_ret3
        exact .inr ⟨rfl, HY, hB2.out⟩
  · have Hs : Hd (¬ isSign (cand t : Int)) := ⟨hs⟩
    have HY : Hd (NoGot t) := ⟨fun ⟨n, hg⟩ => hs (by rw [← (got_cand hg).1]; exact hg.1)⟩
    clear hs
    go_quiet (first | (go_at_call 78; exact Calls.quiet_of_same (specSignOk_no Hs _)))
    all_goals
      go_wp2_with fail
      go_ret3
      exact .inr ⟨rfl, HY, below_drewN' _ _ _⟩

end Go.Proofs.YtpafjehphajbhaaGreatDoor
