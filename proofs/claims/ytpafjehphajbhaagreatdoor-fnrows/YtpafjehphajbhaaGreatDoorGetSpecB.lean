/- The contract of GetSign in the specification, of a first byte that asks for others. -/
import Derived.Test.YtpafjehphajbhaaGreatDoorGetSpecA
namespace Go.Proofs.YtpafjehphajbhaaGreatDoor
set_option maxRecDepth 4000
open Go.RowKit

set_option maxHeartbeats 8000000 in
set_option maxRecDepth 100000 in
theorem specGetSign_more (b off len cap k sz x : Nat) (t : List UInt8) (w : World) (HT : Hd (From w b off len k t)) (HX : Hd (gv t 0 = x)) (HS : Hd (headSize x = sz)) (HL : Hd (l2len x = sz)) (hlc : len ≤ cap) (hl : len ≤ 1073741824) (hk : k < len) (hx : x < 256) (hz1 : 1 ≤ sz) (hz4 : sz ≤ 4) (h1 : ¬ sz = 1) (hsz : ¬ len - k < sz) :
    Calls Tryz.prog 96 #[.slice (some ⟨b, off, none⟩) len cap, .int .i64 (k : Int)] w fun e w' =>
      (e = .returned (.tuple #[.int .i64 (cand t : Int), .int .i64 ((k : Int) + (sz : Int)), .bool true]) ∧ Got t (cand t : Int) ∧ (signB (cand t : Int)).length = sz ∧ Below w.heap.size w w') ∨
      (e = .returned (.tuple #[.int .i64 0, .int .i64 0, .bool false]) ∧ Hd (NoGot t) ∧ Below w.heap.size w w') := by
  have hc0 : w.cell? ⟨b, off + k, none⟩ = some (.int .u8 (x : Int)) := by have := HT.out.cell 0 (by omega); rw [HX.out] at this; simpa using this
  have hw0 : wrap64 (x : Int) = (x : Int) := wrap64_in (by omega) (by omega)
  have hkI : (k : Int) < (len : Int) := by omega
  have hin : Hd (inB (k : Int) 0 ((len : Int) - 1) = true) := ⟨in_t (by omega)⟩
  go_enter Tryz.func96, Tryz.ntmps96
  go_wp2_with fail
  refine (l1In_any (k : Int) 0 ((len : Int) - 1) _).mono ?_
  rintro e w1 ⟨rfl, hw1⟩
  replace hw1 := hw1.symm
  subst hw1
  rewrite [hin.out]
  go_wp2_with fail
  refine (l2Len_any x _ hx).mono ?_
  rintro e w1 ⟨rfl, hw1⟩
  subst hw1
  rewrite [HL.out]
  have hsz' : ¬ (len : Int) - (k : Int) < (sz : Int) := by omega
  have hz0 : ((sz : Int) == 0) = false := by simp; omega
  have HCV : Hd (∀ (w' : World) (m c : Nat), m = sz → Below w.heap.size w w' → (convert 22 9 (.slice (some ⟨b, off + k, none⟩) m c)).run Tryz.prog w' = .ok (.string ⟨(t.take sz).toArray⟩) w') := ⟨fun w' m c hm hb => by subst hm; exact conv_from (from_below HT.out hb) (by omega)⟩
  have hA0 : Hd (headBits x = acc t 0) := ⟨by rw [← HX.out]; rfl⟩
  have hM : Hd (bits .and .i64 (x : Int) (127 / 2 ^ sz) = (acc t 0 : Int)) := ⟨by rw [mask_head x sz hx HL.out h1 hz1, hA0.out]⟩
  have h2 : (1 : Int) < (sz : Int) := by omega
  go_wp2_with fail
  go_loop [8, 9] (fun n i => ∃ q : Nat, q < sz ∧ i = .int .i64 (q + 1) ∧ n = .int .i64 (acc t q)) (fun _ i => sz + 1 - (intOf i).toNat)
  case atStart => exact ⟨0, by omega, rfl, congrArg (Value.int .i64) hM.out⟩
  case round =>
    obtain ⟨q, hq, rfl, rfl⟩ := hrel
    by_cases hlt : q + 1 < sz
    · obtain ⟨y, hy⟩ : ∃ y, gv t (q + 1) = y := ⟨_, rfl⟩
      have Hy : Hd (gv t (q + 1) = y) := ⟨hy⟩
      have hy2 : y < 256 := by rw [← hy]; exact gv_lt _ _
      have hcell : w.cell? ⟨b, off + (k + (q + 1)), none⟩ = some (.int .u8 (y : Int)) := by
        have := HT.out.cell (q + 1) (by omega)
        rw [hy] at this; exact this
      have f1 : (q : Int) + 1 < (sz : Int) := by omega
      clear hy
      by_cases hcont : 128 ≤ y ∧ y < 192
      · have e1 := cont_yes y hy2 hcont
        have e2 := low6 y hy2
        have hst : Hd (bits .or .i64 ((acc t q : Int) * 64) ((y : Int) % 64) = (acc t (q + 1) : Int)) := ⟨by rw [show (y : Int) % 64 = ((y % 64 : Nat) : Int) from by omega]; exact acc_step t q (by omega) y Hy.out⟩
        have hA : acc t q < 67108864 := acc_lt t q (by omega)
        clear hcont
        generalize acc t q = A at *
        go_wp2_with fail
        go_round
        case rel => exact ⟨q + 1, hlt, by go_num, by rw [hst.out]⟩
        case measure => simp [intOf]; omega
      · have e1 := cont_no y hy2 hcont
        have hno : Hd (NoGot t) := ⟨fun ⟨n, hg⟩ => hcont (by have := got_cont hg (q + 1) (by omega) (by rw [HX.out, HS.out]; exact hlt); rw [Hy.out] at this; exact this)⟩
        clear hcont
        go_wp2_with fail
        go_ret3
        first | exact .inr ⟨rfl, hno, Below.refl _ _⟩ | exact .inr ⟨rfl, Below.refl _ _⟩
    · have hqs : Hd (q = sz - 1) := ⟨by omega⟩
      have hA1 : Hd (acc t q = cand t) := ⟨by have := acc_cand t; rw [HX.out, HS.out, ← hqs.out] at this; exact this⟩
      have f1 : ¬ (q : Int) + 1 < (sz : Int) := by omega
      have c1 : (k : Int) ≤ (k : Int) + (sz : Int) := by omega
      have c2 : (k : Int) + (sz : Int) ≤ (cap : Int) := by omega
      have c3 : ¬ cap = k := by omega
      have c5 : IntKind.i64.wrap ((k : Int) + (sz : Int)) = (k : Int) + (sz : Int) := by rw [IntKind.wrap_i64]; omega
      rewrite [hA1.out]
      go_wp2_with fail
      by_cases hs : isSign (cand t : Int)
      · have Hs : Hd (isSign (cand t : Int)) := ⟨hs⟩
        by_cases heq : signB (cand t : Int) = t.take sz
        · have HE : (signB (cand t : Int) == t.take sz) = true := by simpa using heq
          have HY : Hd (Got t (cand t : Int) ∧ (signB (cand t : Int)).length = sz) := ⟨by have := read_yes (t := t) (by rw [HX.out, HS.out]; exact heq) (by rw [HX.out, HS.out, HT.out.size]; omega); rw [HX.out, HS.out] at this; exact this⟩
          clear heq hs
          go_region_held (fun w' => Hd (Below w.heap.size w w') ∧ (convert 22 9 (.slice (some ⟨b, off + k, none⟩) (((k : Int) + (sz : Int)).toNat - k) (cap - k))).run Tryz.prog w' = .ok (.string ⟨(t.take sz).toArray⟩) w') (first | assumption | exact ⟨⟨(Below.refl _ w).drew⟩, HCV.out _ _ _ (by omega) (Below.refl _ w).drew⟩ | exact ⟨⟨(Below.refl _ w).drew.alloc (Nat.le_refl _) _⟩, HCV.out _ _ _ (by omega) ((Below.refl _ w).drew.alloc (Nat.le_refl _) _)⟩ | exact ⟨hB2, HCV.out _ _ _ (by omega) hB2.out⟩) (first | (go_at_call 78; refine (specSignOk_yes Hs _).mono ?_; rintro e w1 ⟨rfl, hw1⟩; subst hw1) | (go_at_call 60; refine (specPutSign_at w _ _ (cand t : Int) _ ?_ ?_).mono ?_; exact (Below.refl _ w).drew.alloc (Nat.le_refl _) _; simp; rintro e w2 ⟨g2, cg2, rfl, hcv2, hB2⟩))
          all_goals
            go_wp2_with fail
            go_ret3
            exact .inl ⟨rfl, HY.out.1, HY.out.2, hB2.out⟩
        · have HE : (signB (cand t : Int) == t.take sz) = false := by simpa using heq
          have HY : Hd (NoGot t) := ⟨read_no (t := t) (by rw [HX.out, HS.out]; exact heq)⟩
          clear heq hs
          go_region_held (fun w' => Hd (Below w.heap.size w w') ∧ (convert 22 9 (.slice (some ⟨b, off + k, none⟩) (((k : Int) + (sz : Int)).toNat - k) (cap - k))).run Tryz.prog w' = .ok (.string ⟨(t.take sz).toArray⟩) w') (first | assumption | exact ⟨⟨(Below.refl _ w).drew⟩, HCV.out _ _ _ (by omega) (Below.refl _ w).drew⟩ | exact ⟨⟨(Below.refl _ w).drew.alloc (Nat.le_refl _) _⟩, HCV.out _ _ _ (by omega) ((Below.refl _ w).drew.alloc (Nat.le_refl _) _)⟩ | exact ⟨hB2, HCV.out _ _ _ (by omega) hB2.out⟩) (first | (go_at_call 78; refine (specSignOk_yes Hs _).mono ?_; rintro e w1 ⟨rfl, hw1⟩; subst hw1) | (go_at_call 60; refine (specPutSign_at w _ _ (cand t : Int) _ ?_ ?_).mono ?_; exact (Below.refl _ w).drew.alloc (Nat.le_refl _) _; simp; rintro e w2 ⟨g2, cg2, rfl, hcv2, hB2⟩))
          all_goals
            go_wp2_with fail
            go_ret3
            exact .inr ⟨rfl, HY, hB2.out⟩
      · have Hs : Hd (¬ isSign (cand t : Int)) := ⟨hs⟩
        have HY : Hd (NoGot t) := ⟨fun ⟨n, hg⟩ => hs (by rw [← (got_cand hg).1]; exact hg.1)⟩
        clear hs
        go_quiet (first | (go_at_call 78; exact Calls.quiet_of_same (specSignOk_no Hs _)))
        all_goals
          go_wp2_with fail
          go_ret3
          exact .inr ⟨rfl, HY, below_drewN' _ _ _⟩

theorem specGetSign_any (b off len cap : Nat) (bs : List UInt8) (at_ : Int) (w : World) (hn : bs.length = len) (hlc : len ≤ cap) (hc : ∀ j, j < len → w.cell? ⟨b, off + j, none⟩ = some (.int .u8 ((bs.getD j 0).toNat : Int))) (hl : len ≤ 1073741824) :
    Calls Tryz.prog 96 #[.slice (some ⟨b, off, none⟩) len cap, .int .i64 at_] w (GetSigned w bs at_) := by
  by_cases h : at_ < 0 ∨ (len : Int) ≤ at_
  · exact specGetSign_out _ len cap bs at_ w hn hl h
  · obtain ⟨k, rfl⟩ := Int.eq_ofNat_of_zero_le (show 0 ≤ at_ from by omega)
    have hk : k < len := by omega
    have hF : Hd (From w b off len k (bs.drop k)) := ⟨from_of hn hc⟩
    obtain ⟨h1, h4⟩ := headSize_in (gv (bs.drop k) 0)
    have hx := gv_lt (bs.drop k) 0
    have fin : ∀ (sz : Nat) (e : Ending) (w' : World), ((e = .returned (.tuple #[.int .i64 (cand (bs.drop k) : Int), .int .i64 ((k : Int) + (sz : Int)), .bool true]) ∧ Got (bs.drop k) (cand (bs.drop k) : Int) ∧ (signB (cand (bs.drop k) : Int)).length = sz ∧ Below w.heap.size w w') ∨ (e = .returned (.tuple #[.int .i64 0, .int .i64 0, .bool false]) ∧ Hd (NoGot (bs.drop k)) ∧ Below w.heap.size w w')) → GetSigned w bs (k : Int) e w' := by
      rintro sz e w' (⟨rfl, hg, hs, hB⟩ | ⟨rfl, hg, hB⟩)
      · exact ⟨((cand (bs.drop k) : Int), (k : Int) + (sz : Int), true), rfl, gotAt_yes (by omega) hg hs, hB⟩
      · exact ⟨(0, 0, false), rfl, gotAt_no hg.out, hB⟩
    rcases l2len_is (gv (bs.drop k) 0) hx with h0 | h0
    · refine (specGetSign_none b off len cap k _ (bs.drop k) w hF ⟨rfl⟩ ⟨h0⟩ hl hk hx).mono ?_
      rintro e w' ⟨rfl, hB⟩
      refine fin 0 _ _ (.inr ⟨rfl, ⟨?_⟩, hB⟩)
      rintro ⟨n, hg⟩
      have := got_len hg
      omega
    · by_cases hsz : len - k < headSize (gv (bs.drop k) 0)
      · exact (specGetSign_short b off len cap k _ _ (bs.drop k) w hF ⟨rfl⟩ ⟨rfl⟩ ⟨h0⟩ hlc hl hk hx h1 h4 hsz).mono (fin _)
      · by_cases hs1 : headSize (gv (bs.drop k) 0) = 1
        · exact (specGetSign_one b off len cap k _ (bs.drop k) w hF ⟨rfl⟩ ⟨hs1⟩ ⟨by rw [h0, hs1]⟩ hlc hl hk hx).mono (fin 1)
        · exact (specGetSign_more b off len cap k _ _ (bs.drop k) w hF ⟨rfl⟩ ⟨rfl⟩ ⟨h0⟩ hlc hl hk hx h1 h4 hs1 hsz).mono (fin _)

end Go.Proofs.YtpafjehphajbhaaGreatDoor
