/- The contract of the specification's Feed, of a state that holds nil. -/
import Derived.Test.YtjbideiifoadkaaDoorFeedS
namespace Go.Proofs.YtjbideiifoadkaaDoor
set_option maxRecDepth 4000
open Go.RowKit

theorem fedBox_nil {w W : World} {cs : Int} {hv : Value} {bad : Bool} {g g6 : Nat}
    (h0 : W.heap[w.heap.size]? = some (.cells #[.int .i64 cs, hv, .bool bad] 30 (0, 0)))
    (h1 : W.heap[w.heap.size + 1]? = some (.cells #[.int .i64 0, .slice none 0 0, .bool false] 30 (0, 0)))
    (h6 : W.heap[g6]? = some (.cells #[.int .i64 cs, .slice (some ⟨g, 0, none⟩) 0 0, .bool bad] 30 (0, 0)))
    (hg : W.heap[g]? = some (.cells #[] 5 (0, 0)))
    (hB : Below w.heap.size w W) (hg6 : w.heap.size + 2 ≤ g6) (hgg : w.heap.size + 2 ≤ g) (hne : g ≠ g6) :
    FedBox w cs hv 0 bad [] g6 g 0 W :=
  ⟨h0, h1, h6, ⟨#[], hg, by simp, Nat.zero_le _, rfl, by simp⟩, hg6, hgg, hne, hB⟩

set_option maxHeartbeats 1000000 in
theorem specFeed_nil (cs : Int) (bad : Bool) (b off len cap : Nat) (bs : List UInt8) (w : World)
    (hl2 : bs.length = len) (hc2 : ∀ j, j < len → w.cell? ⟨b, off + j, none⟩ = some (.int .u8 ((bs.getD j 0).toNat : Int))) (hm2 : len ≤ 1048576) :
    Calls Tryd.prog 20 #[.agg #[.int .i64 cs, .slice none 0 0, .bool bad], .slice (some ⟨b, off, none⟩) len cap] w (FedOut w cs [] bad bs) := by
  have HL2 : Hd (bs.length = len) := ⟨hl2⟩
  have HC2 : Hd (∀ j, j < len → w.cell? ⟨b, off + j, none⟩ = some (.int .u8 ((bs.getD j 0).toNat : Int))) := ⟨hc2⟩
  clear hl2 hc2
  go_enter Tryd.func20, Tryd.ntmps20
  go_wp2_with fail
  go_cut [6] (fun s6 wx => ∃ g6 g c, s6 = .pointer (some ⟨g6, 0, none⟩) ∧ Hd (FedBox w cs (.slice none 0 0) 0 bad [] g6 g c wx))
  case first =>
    go_region_held_law (fun w' => w'.cell? ⟨w.heap.size, 0, none⟩ = some (.int .i64 cs) ∧ w'.cell? ⟨w.heap.size, 1, none⟩ = some (.slice none 0 0) ∧ w'.cell? ⟨w.heap.size, 2, none⟩ = some (.bool bad)) (first | go_keep | exact ⟨cell_set3 k0 (by show w.heap.size ≠ _; omega), cell_set3 k1 (by show w.heap.size ≠ _; omega), cell_set3 k2 (by show w.heap.size ≠ _; omega)⟩)
      (refine step_app_nil rfl (.tmp 15) (.tmp 17) rfl _ 0 0 rfl rfl (Nat.le_refl _) ?_)
    · go_wp2_with fail
      go_meet
      case rel => exact ⟨_, _, 0, rfl, ⟨fedBox_nil (laid4 w _ _ _ _).1 (laid4 w _ _ _ _).2.1 (laid4 w _ _ _ _).2.2.2 (laid4 w _ _ _ _).2.2.1 (below_lit4 w _ _ _ _).drew (by omega) (by omega) (by omega)⟩⟩
    · go_wp2_with fail
      go_meet
      case rel => exact ⟨_, _, 0, rfl, ⟨fedBox_nil (laid4 w _ _ _ _).1 (laid4 w _ _ _ _).2.1 (laid4 w _ _ _ _).2.2.2 (laid4 w _ _ _ _).2.2.1 (below_lit4 w _ _ _ _).drew (by omega) (by omega) (by omega)⟩⟩
    · go_wp2_with fail
      go_meet
      case rel => exact ⟨_, _, 0, rfl, ⟨fedBox_nil (laid4 w _ _ _ _).1 (laid4 w _ _ _ _).2.1 (laid4 w _ _ _ _).2.2.1 (laid4 w _ _ _ _).2.2.2 (below_lit4 w _ _ _ _).drew (by omega) (by omega) (by omega)⟩⟩
  case rest =>
    obtain ⟨g6, g, c, rfl, FB⟩ := hcut
    obtain ⟨a0, a1, a2, _, _, _⟩ := cells3 wc w.heap.size _ _ _ _ FB.out.box
    go_wp2_with fail
    refine (specDecOk_any cs none 0 0 bad [] _ ⟨rfl, .inl rfl⟩ (by omega)).mono ?_
    rintro e w2 ⟨rfl, hB2⟩
    have FB2 : Hd (FedBox w cs (.slice none 0 0) 0 bad [] g6 g c w2) := ⟨FB.out.below hB2⟩
    clear FB hB2 a0 a1 a2
    obtain ⟨a0, a1, a2, _, _, _⟩ := cells3 w2 w.heap.size _ _ _ _ FB2.out.box
    obtain ⟨r0, r1, r2, r3, r4, r5⟩ := cells3 w2 (w.heap.size + 1) _ _ _ _ FB2.out.res
    obtain ⟨o0, o1, o2, o3, o4, o5⟩ := cells3 w2 g6 _ _ _ _ FB2.out.out
    cases hs : sOk cs [] bad with
    | false =>
      have HS : Hd ((sOk cs [] bad && !bad) = false) := ⟨by rw [hs]; rfl⟩
      clear hs
      go_wp2_with fail
      refine bodyPost_ret (results_row_tmp rfl _ _ (w.heap.size + 1) _ _ (0, 0) _ rfl (set3 _ _ _ FB2.out.res) Tryd.underlying30 rfl (by kernel_rfl)) rfl ?_
      exact fedOut_no FB2.out rfl HS.out
    | true =>
      cases bad with
      | true =>
        have HS : Hd ((sOk cs [] true && !true) = false) := ⟨by simp⟩
        clear hs
        go_wp2_with fail
        refine bodyPost_ret (results_row_tmp rfl _ _ (w.heap.size + 1) _ _ (0, 0) _ rfl (set3 _ _ _ FB2.out.res) Tryd.underlying30 rfl (by kernel_rfl)) rfl ?_
        exact fedOut_no FB2.out rfl HS.out
      | false =>
        have HS : Hd (sOk cs [] false = true) := ⟨hs⟩
        clear hs
        have e1 : (w2.alloc (.cells #[] 5)).cell? ⟨w.heap.size, 1, none⟩ = some (.slice none 0 0) := cell_below a1 (below_lit w2 _)
        have hsz : Hd (w.heap.size + 2 ≤ w2.heap.size) := ⟨by have := lt_block FB2.out.out; have := FB2.out.p6; omega⟩
        have FB3 : Hd (FedBox w cs (.slice none 0 0) 0 false [] g6 g c (w2.alloc (.cells #[] 5))) := ⟨FB2.out.below (below_lit w2 _)⟩
        have hne1 : Hd (g6 ≠ w2.heap.size ∧ g ≠ w2.heap.size) := ⟨by have := lt_block FB2.out.out; have := FB2.out.own.lt; omega⟩
        go_wp2_with (at_builtin; first | refine wpList_app_nil rfl (.tmp 30) (.tmp 32) rfl ⟨w2.heap.size, 0, none⟩ 0 0 rfl rfl (Nat.le_refl _) ?_ | refine wpList_app rfl (.tmp 33) (.tmp 34) rfl (w.heap.size + 2) w2.heap.size 0 0 [] bs rfl (own_emp w2) rfl hsz.out (by have := hsz.out; simp; omega) ⟨b, off, none⟩ len cap rfl HL2.out (map_cb_cell HL2.out (fun j hj => cell_below (HC2.out j hj) FB3.out.bel)) (by omega) ?_)
        intro q7 c7 w4 hO4 hG4 hA4 hP4
        have FB4 : Hd (FedBox w cs (.slice none 0 0) 0 false [] g6 g c w4) := ⟨FB3.out.grown2 hG4 hsz.out hne1.out.1 hne1.out.2⟩
        have h76 : Hd (q7 ≠ g6) := ⟨by have := lt_block FB2.out.out; omega⟩
        obtain ⟨all, hall⟩ : ∃ all, ([] : List UInt8) ++ bs = all := ⟨_, rfl⟩
        have HALL : Hd (([] : List UInt8) ++ bs = all) := ⟨hall⟩
        have HO4 : Hd (Own w4 q7 c7 all) := ⟨by rw [← hall]; exact hO4⟩
        obtain ⟨L, hL⟩ : ∃ L, len = L := ⟨_, rfl⟩
        have HLL : Hd (all.length = L) := ⟨by rw [← hall, List.nil_append, HL2.out, hL]⟩
        have hL2 : L ≤ 2097152 := by omega
        clear hO4 hG4 hA4 hP4 FB3 FB2 hsz hne1 hall e1 a0 a1 a2 r0 r1 r2 r3 r4 r5 o0 o1 o2 o3 o4 o5
        obtain ⟨x0, x1, x2, x3, x4, x5⟩ := cells3 (w4.alloc (.cells #[] 5)) g6 _ _ _ _ ((alloc_old w4 _ (lt_block FB4.out.out)).trans FB4.out.out)
        rw [hL]
        clear hL
        go_wp2_with fail
        have S0 : Hd (FdSt w cs all g6 w4.heap.size q7 c7 (((w4.alloc (.cells #[] 5)).setCell ⟨g6, 1, none⟩ (.slice (some ⟨w4.heap.size, 0, none⟩) 0 0)).alloc (.cells #[] 5))) := ⟨fdSt_first FB4.out HO4.out h76.out⟩
        have A0 : Hd (FdAt w cs all g6 w4.heap.size q7 c7 0 (w4.heap.size + 1) 0 0 (((w4.alloc (.cells #[] 5)).setCell ⟨g6, 1, none⟩ (.slice (some ⟨w4.heap.size, 0, none⟩) 0 0)).alloc (.cells #[] 5))) := ⟨S0.out, [], feedAt_zero cs all, rfl, by have := own_emp ((w4.alloc (.cells #[] 5)).setCell ⟨g6, 1, none⟩ (.slice (some ⟨w4.heap.size, 0, none⟩) 0 0)); simpa using this, by have := S0.out.p5; omega, by have := lt_block FB4.out.out; omega⟩
        clear S0 FB4 HO4 h76 x0 x1 x2 x3 x4 x5
        generalize w4.heap.size = g5 at *
        go_loopw [8, 9] (fun v i wr => ∃ (k q8 c8 n8 : Nat), i = .int .i64 k ∧ v = .slice (some ⟨q8, 0, none⟩) n8 c8 ∧ Hd (FdAt w cs all g6 g5 q7 c7 k q8 c8 n8 wr)) (fun _ i _ => L - (intOf i).toNat)
        case atStart => exact ⟨0, g5 + 1, 0, 0, rfl, rfl, A0⟩
        case round =>
          clear A0
          obtain ⟨k, q8, c8, n8, rfl, rfl, R⟩ := hrel
          obtain ⟨f1, f2⟩ := R.out.fits
          rw [HLL.out] at f1
          have s0 := R.out.st.set
          have hLc : L ≤ c7 := by have := R.out.st.all.le; rw [HLL.out] at this; exact this
          by_cases hlt : k < L
          · have hkI : (k : Int) < (L : Int) := by omega
            go_wp2_with fail
            refine (specSignAt_any cs q7 0 L c7 k all _ HLL.out hLc (R.out.st.all.cell HLL.out) (by omega) hlt).mono ?_
            rintro e w5 ⟨z, next, ok, rfl, hS, hB⟩
            have hk2 : k < all.length := by rw [HLL.out]; exact hlt
            obtain ⟨xs, x1, x2, x3, x4, x5⟩ := R.out.out
            have T5 : Hd (FdSt w cs all g6 g5 q7 c7 w5) := ⟨R.out.st.below hB⟩
            have X3 : Hd (Own w5 q8 c8 xs) := ⟨x3.below hB⟩
            have X2 : Hd (xs.length = n8) := ⟨x2⟩
            have X4 : Hd (w.heap.size + 2 ≤ q8 ∧ q8 ≠ g6) := ⟨x4, x5⟩
            cases ho : hdOk cs (all.drop k) with
            | true =>
              obtain ⟨s1, s2⟩ := hS.yes ho
              obtain rfl : ok = true := hS.ok.trans ho
              subst s1 s2
              have hf := hd_fits (drop_ne hk2) ho
              have N1 := feedAt_yes x1 hk2 ho
              have hp := hf.pos
              have hle := N1.le
              rw [HLL.out] at hle
              have NX : Hd (FeedAt cs all (k + hdK cs (all.drop k)) (xs ++ signB (hdN cs (all.drop k)))) := ⟨N1⟩
              clear hS hf N1 x1 x2 x3 x4 x5 ho hB R s0
              generalize hdK cs (all.drop k) = K at *
              generalize hdN cs (all.drop k) = N at *
              go_wp2_with fail
              refine (specPutSign_some q8 0 n8 c8 xs N _ X2.out (X3.out.cell X2.out) X3.out.lt (by omega)).mono ?_
              rintro e w6 ⟨q2, c2, rfl, hq2, hO2, hB2⟩
              have R2 : Hd (FdAt w cs all g6 g5 q7 c7 (k + K) q2 c2 (xs ++ signB N).length w6) := ⟨T5.out.below hB2, _, NX.out, rfl, hO2, by have := T5.out.p6; have := lt_block T5.out.out; omega, by have := lt_block T5.out.out; omega⟩
              generalize (xs ++ signB N).length = n2 at *
              clear hO2 hB2 hq2 X3 T5 NX X2
              go_wp2_with fail
              go_roundw
              case rel => exact ⟨k + K, q2, c2, n2, by go_num, rfl, R2⟩
              case measure => simp [intOf]; omega
            | false =>
              obtain rfl : ok = false := hS.ok.trans ho
              have FA : Hd (FeedAt cs all k xs) := ⟨x1⟩
              have HO : Hd (hdOk cs (all.drop k) = false) := ⟨ho⟩
              clear hS x1 x2 x3 x4 x5 ho hB R s0
              have s5 := T5.out.set
              have hk3 : (k : Int) ≤ (L : Int) := by omega
              have hL3 : (L : Int) ≤ (c7 : Int) := by omega
              have hck : ¬ c7 = k := by omega
              go_wp2_with fail
              go_region_held (fun w' => w'.cell? ⟨w.heap.size, 0, none⟩ = some (.int .i64 cs) ∧ Hd (Below w5.heap.size w5 w')) (first | assumption | exact ⟨s5, ⟨(Below.refl _ w5).drew⟩⟩ | exact ⟨cell_below s5 hB6.out, hB6⟩) (first | (go_at_call 39; refine (l6Begins_any cs (some ⟨q7, k, none⟩) (L - k) (c7 - k) (all.drop k) _ ?_ ?_).mono ?_; exact (T5.out.all.reads_drop HLL.out k (by omega)).below rfl (Below.refl _ w5).drew; omega; rintro e w6 ⟨rfl, hb6⟩; have hB6 : Hd (Below w5.heap.size w5 w6) := ⟨Below.next (Below.refl _ w5).drew hb6⟩))
              have T6 : Hd (FdSt w cs all g6 g5 q7 c7 w6) := ⟨T5.out.below hB6.out⟩
              have X6 : Hd (Own w6 q8 c8 xs) := ⟨X3.out.below hB6.out⟩
              clear hB6 T5 X3 s5
              obtain ⟨o0, o1, o2, o3, o4, o5⟩ := cells3 w6 g6 _ _ _ _ T6.out.out
              cases hbg : beg cs (all.drop k) with
              | true =>
                have HF : Hd (feedT cs all = xs ∧ feedH cs all = all.drop k ∧ feedB cs all = false) := ⟨feedAt_beg FA.out hk2 HO.out hbg⟩
                obtain ⟨hd, hhd⟩ : ∃ hd, all.drop k = hd := ⟨_, rfl⟩
                have HH : Hd (all.drop k = hd) := ⟨hhd⟩
                obtain ⟨nh, hnh⟩ : ∃ nh, L - k = nh := ⟨_, rfl⟩
                have HNH : Hd (L - k = nh) := ⟨hnh⟩
                have HHL : Hd (hd.length = nh) := ⟨by rw [← hhd, List.length_drop, HLL.out, hnh]⟩
                have hnb : nh ≤ 2097152 := by omega
                rewrite [HH.out] at HF
                clear hbg FA HO hhd hnh o0 o1 o2 o3 o4 o5
                go_wp2_with (at_builtin; refine wpList_app rfl (.tmp 63) (.tmp 66) rfl w6.heap.size w6.heap.size 0 0 [] hd rfl (own_emp w6) rfl (Nat.le_refl _) (by simp) ⟨q7, k, none⟩ (L - k) (c7 - k) rfl (HHL.out.trans HNH.out.symm) (by rw [← HH.out]; exact map_cb_cell (by rw [List.length_drop, HLL.out]) (fun j hj => by have := (T6.out.all.below (below_lit w6 (.cells #[] 5))).row.cell (k + j) (by rw [HLL.out]; omega); rw [this]; simp [List.getD])) (by omega) ?_)
                intro gh ch w7 hO7 hG7 hA7 hP7
                have EE : Hd (FdEnd w cs g6 gh (L - k) ch q8 c8 n8 false hd xs (w7.setCell ⟨g6, 1, none⟩ (.slice (some ⟨gh, 0, none⟩) (L - k) ch))) := ⟨fdEnd_beg T6.out X6.out X2.out X4.out.1 X4.out.2 hG7 hO7 (HHL.out.trans HNH.out.symm) hP7⟩
                obtain ⟨o0, o1, o2, o3, o4, o5⟩ := cells3 w7 g6 _ _ _ _ (T6.out.below (below_grows (below_lit w6 _) hG7 (by simp) (Nat.le_refl _))).out
                clear hO7 hG7 hA7 hP7 T6 X6
                go_wp2_with fail
                obtain ⟨y0, y1, y2, _, _, _⟩ := cells3 _ g6 _ _ _ _ EE.out.box
                obtain ⟨r0, r1, r2, r3, r4, r5⟩ := cells3 _ (w.heap.size + 1) _ _ _ _ EE.out.res
                have hg6 : ¬ g6 = w.heap.size + 1 := by have := EE.out.p6; omega
                generalize hwz : w7.setCell ⟨g6, 1, none⟩ (.slice (some ⟨gh, 0, none⟩) (L - k) ch) = wz at *
                clear hwz
                go_wp2_with fail
                go_region_held (fun w' => w'.cell? ⟨g6, 0, none⟩ = some (.int .i64 cs) ∧ w'.cell? ⟨g6, 1, none⟩ = some (.slice (some ⟨gh, 0, none⟩) (L - k) ch) ∧ w'.cell? ⟨g6, 2, none⟩ = some (.bool false) ∧ (convert 22 9 (.slice (some ⟨q8, 0, none⟩) n8 c8)).run Tryd.prog w' = .ok (.string ⟨xs.toArray⟩) w') (first | assumption | exact ⟨y0, y1, y2, conv_own (own_drew EE.out.txt) EE.out.tln⟩ | exact ⟨cell_set3 y0 hg6, cell_set3 y1 hg6, cell_set3 y2 hg6, conv_own (own_drew (own_set3 EE.out.txt (by have := EE.out.p8; omega))) EE.out.tln⟩) (fail)
                all_goals
                  go_wp2_with fail
                  refine bodyPost_ret (results_row_tmp rfl _ _ (w.heap.size + 1) _ _ (0, 0) _ rfl (set3 _ _ _ EE.out.res) Tryd.underlying30 rfl (by kernel_rfl)) rfl ?_
                  obtain ⟨v1, v2, v3⟩ := fed_yes (b := bs) HS.out
                  rw [HALL.out] at v1 v2 v3
                  exact fdEnd_out EE.out (v1.trans HF.out.2.1) (v2.trans HF.out.2.2) (v3.trans HF.out.1)
              | false =>
                have HF : Hd (feedT cs all = xs ∧ feedH cs all = [] ∧ feedB cs all = true) := ⟨feedAt_bad FA.out hk2 HO.out hbg⟩
                have EE : Hd (FdEnd w cs g6 g5 0 0 q8 c8 n8 true [] xs (w6.setCell ⟨g6, 2, none⟩ (.bool true))) := ⟨fdEnd_bad T6.out X6.out X2.out X4.out.1 X4.out.2⟩
                clear hbg FA HO T6 X6
                go_wp2_with fail
                obtain ⟨y0, y1, y2, _, _, _⟩ := cells3 _ g6 _ _ _ _ EE.out.box
                obtain ⟨r0, r1, r2, r3, r4, r5⟩ := cells3 _ (w.heap.size + 1) _ _ _ _ EE.out.res
                have hg6 : ¬ g6 = w.heap.size + 1 := by have := EE.out.p6; omega
                generalize hwz : w6.setCell ⟨g6, 2, none⟩ (.bool true) = wz at *
                clear hwz
                go_wp2_with fail
                go_region_held (fun w' => w'.cell? ⟨g6, 0, none⟩ = some (.int .i64 cs) ∧ w'.cell? ⟨g6, 1, none⟩ = some (.slice (some ⟨g5, 0, none⟩) 0 0) ∧ w'.cell? ⟨g6, 2, none⟩ = some (.bool true) ∧ (convert 22 9 (.slice (some ⟨q8, 0, none⟩) n8 c8)).run Tryd.prog w' = .ok (.string ⟨xs.toArray⟩) w') (first | assumption | exact ⟨y0, y1, y2, conv_own (own_drew EE.out.txt) EE.out.tln⟩ | exact ⟨cell_set3 y0 hg6, cell_set3 y1 hg6, cell_set3 y2 hg6, conv_own (own_drew (own_set3 EE.out.txt (by have := EE.out.p8; omega))) EE.out.tln⟩) (fail)
                all_goals
                  go_wp2_with fail
                  refine bodyPost_ret (results_row_tmp rfl _ _ (w.heap.size + 1) _ _ (0, 0) _ rfl (set3 _ _ _ EE.out.res) Tryd.underlying30 rfl (by kernel_rfl)) rfl ?_
                  obtain ⟨v1, v2, v3⟩ := fed_yes (b := bs) HS.out
                  rw [HALL.out] at v1 v2 v3
                  exact fdEnd_out EE.out (v1.trans HF.out.2.1) (v2.trans HF.out.2.2) (v3.trans HF.out.1)
          · have hkI : ¬ (k : Int) < (L : Int) := by omega
            obtain ⟨xs, x1, x2, x3, x4, x5⟩ := R.out.out
            have HF : Hd (feedT cs all = xs ∧ feedH cs all = [] ∧ feedB cs all = false) := ⟨feedAt_end x1 (by rw [HLL.out]; exact hlt)⟩
            have EE : Hd (FdEnd w cs g6 g5 0 0 q8 c8 n8 false [] xs wr) := ⟨fdEnd_all R.out.st x3 x2 x4⟩
            clear x1 x2 x3 x4 x5 R s0
            go_wp2_with fail
            obtain ⟨y0, y1, y2, _, _, _⟩ := cells3 _ g6 _ _ _ _ EE.out.box
            obtain ⟨r0, r1, r2, r3, r4, r5⟩ := cells3 _ (w.heap.size + 1) _ _ _ _ EE.out.res
            have hg6 : ¬ g6 = w.heap.size + 1 := by have := EE.out.p6; omega
            go_wp2_with fail
            go_region_held (fun w' => w'.cell? ⟨g6, 0, none⟩ = some (.int .i64 cs) ∧ w'.cell? ⟨g6, 1, none⟩ = some (.slice (some ⟨g5, 0, none⟩) 0 0) ∧ w'.cell? ⟨g6, 2, none⟩ = some (.bool false) ∧ (convert 22 9 (.slice (some ⟨q8, 0, none⟩) n8 c8)).run Tryd.prog w' = .ok (.string ⟨xs.toArray⟩) w') (first | assumption | exact ⟨y0, y1, y2, conv_own (own_drew EE.out.txt) EE.out.tln⟩ | exact ⟨cell_set3 y0 hg6, cell_set3 y1 hg6, cell_set3 y2 hg6, conv_own (own_drew (own_set3 EE.out.txt (by have := EE.out.p8; omega))) EE.out.tln⟩) (fail)
            all_goals
              go_wp2_with fail
              refine bodyPost_ret (results_row_tmp rfl _ _ (w.heap.size + 1) _ _ (0, 0) _ rfl (set3 _ _ _ EE.out.res) Tryd.underlying30 rfl (by kernel_rfl)) rfl ?_
              obtain ⟨v1, v2, v3⟩ := fed_yes (b := bs) HS.out
              rw [HALL.out] at v1 v2 v3
              exact fdEnd_out EE.out (v1.trans HF.out.2.1) (v2.trans HF.out.2.2) (v3.trans HF.out.1)

end Go.Proofs.YtjbideiifoadkaaDoor
