/- The contract of the program's Feed. -/
import Derived.Test.YtjbideiifoadkaaDoorPart
import Derived.Deep.RegionHeldLaw
namespace Go.Proofs.YtjbideiifoadkaaDoor
set_option maxRecDepth 4000
open Go.RowKit

/-- What Feed answers, in the program: a state of new memory, or one that holds nil, and a text. -/
structure FedI (w : World) (cs : Int) (held : List UInt8) (bad : Bool) (b : List UInt8) (e : Ending) (w' : World) : Prop where
  out : ∃ ao c, e = .returned (.tuple #[.agg #[.int .i64 cs, .slice ao (fedH cs held bad b).length c, .bool (fedB cs held bad b)], .string ⟨(fedT cs held bad b).toArray⟩]) ∧ OwnO w' w.heap.size ao c (fedH cs held bad b) ∧ Below w.heap.size w w'

/-- The state's box, and that of the result. -/
structure FBox (w : World) (cs : Int) (hv : Value) (bad : Bool) (wx : World) : Prop where
  box : wx.heap[w.heap.size]? = some (.cells #[.int .i64 cs, hv, .bool bad] 30 (0, 0))
  res : wx.heap[w.heap.size + 1]? = some (.cells #[.int .i64 0, .slice none 0 0, .bool false] 30 (0, 0))
  bel : Below w.heap.size w wx
theorem FBox.below {w : World} {cs : Int} {hv : Value} {bad : Bool} {wx wy : World} (h : FBox w cs hv bad wx) (hB : Below wx.heap.size wx wy) : FBox w cs hv bad wy :=
  ⟨(hB.block _ (lt_block h.box)).trans h.box, (hB.block _ (lt_block h.res)).trans h.res, Below.next h.bel hB⟩
theorem FBox.blow {w : World} {cs : Int} {hv : Value} {bad : Bool} {wx wy : World} {B : Nat} (h : FBox w cs hv bad wx) (hB : Below B wx wy) (h2 : w.heap.size + 2 ≤ B) : FBox w cs hv bad wy :=
  ⟨(hB.block _ (by omega)).trans h.box, (hB.block _ (by omega)).trans h.res, h.bel.trans ⟨hB.os, hB.tape, hB.output, hB.size, fun k hk => hB.block k (by omega)⟩⟩
theorem fBox_new (w : World) (cs : Int) (hv : Value) (bad : Bool) : FBox w cs hv bad ((w.alloc (.cells #[.int .i64 cs, hv, .bool bad] 30)).alloc (.cells #[.int .i64 0, .slice none 0 0, .bool false] 30)) :=
  ⟨(laid2 w _ _).1, (laid2 w _ _).2, below_lit2 w _ _⟩

theorem clone_left (ao : Option Addr) (n c : Nat) (bs : List UInt8) (w : World) (h : LeftAt w ao n c bs) (hl : n ≤ 1073741824) :
    Calls Tryd.prog 40 #[.slice ao n c] w (Joined w bs) := by
  have hn := h.1.1
  rcases h.2 with ⟨rfl, rfl⟩ | ⟨q, off, rfl, hq⟩
  · obtain ⟨rfl, rfl⟩ := reads_none h.1
    refine (clone_nil w).mono ?_
    rintro e w1 ⟨rfl, rfl⟩
    exact ⟨none, 0, rfl, .inl ⟨rfl, rfl, rfl⟩, Below.refl _ _⟩
  · refine (clone_some q off n c bs w hn (fun j hj => ?_) hq hl).mono ?_
    · rcases h.1.2 with h0 | ⟨b, o, e, hc⟩
      · omega
      · cases e; exact hc j hj
    · rintro e w1 ⟨g, c1, rfl, hg, hO, hB⟩
      exact ⟨_, c1, rfl, .inr ⟨g, rfl, hg, hO⟩, hB⟩
theorem LeftAt.below {w w' : World} {ao : Option Addr} {n c : Nat} {bs : List UInt8} (h : LeftAt w ao n c bs) (hB : Below w.heap.size w w') : LeftAt w' ao n c bs := by
  refine ⟨h.1.below rfl hB, ?_⟩
  rcases h.2 with h | ⟨q, off, h1, h2⟩
  · exact .inl h
  · exact .inr ⟨q, off, h1, by have := hB.size; omega⟩

set_option maxHeartbeats 400000 in
theorem partReader_any (st : TypeId) (sx : Value) (ao : Option Addr) (n c : Nat) (w : World) :
    Calls Tryd.prog 41 #[.iface st sx, .slice ao n c] w fun e w' => e = .returned (.func (.func 59) #[] #[.pointer (some ⟨w.heap.size + 1, 0, none⟩), .pointer (some ⟨w.heap.size, 0, none⟩)]) ∧ w' = (w.alloc (.cells #[.iface st sx] 53)).alloc (.cells #[.slice ao n c] 22) := by
  go_enter Tryd.func41, Tryd.ntmps41
  go_wp2_with fail
  go_ret
  exact ⟨rfl, rfl⟩

theorem setV_iface (cs : Int) : ∃ t x, setV cs = .iface t x := by
  unfold setV
  split
  · exact ⟨_, _, rfl⟩
  · split <;> exact ⟨_, _, rfl⟩

/-- Where the reading stopped: what was read, what is held, whether something could not be. -/
theorem feed_stop {cs : Int} {all xs : List UInt8} {k : Nat} (h : FeedAt cs all k xs) (hst : k < all.length → hdOk cs (all.drop k) = false) :
    (mayB cs (all.drop k) = true → feedT cs all = xs ∧ feedH cs all = all.drop k ∧ feedB cs all = false) ∧ (mayB cs (all.drop k) = false → feedT cs all = xs ∧ feedH cs all = [] ∧ feedB cs all = true) := by
  by_cases hk : k < all.length
  · have hn := drop_ne hk
    rw [mayB_some hn]
    exact ⟨fun hb => feedAt_beg h hk (hst hk) hb, fun hb => feedAt_bad h hk (hst hk) hb⟩
  · have hd : all.drop k = [] := List.drop_eq_nil_of_le (by omega)
    rw [hd, mayB_nil]
    exact ⟨fun _ => feedAt_end h hk, fun h => by cases h⟩
theorem sOk_in {cs : Int} {held : List UInt8} {bad : Bool} (h : sOk cs held bad = true) : 0 ≤ cs ∧ cs ≤ 5 := by
  by_cases hc : 0 ≤ cs ∧ cs ≤ 5
  · exact hc
  · rw [sOk_out (inB_no hc)] at h; cases h
/-- What is answered where nothing is read. -/
theorem fedI_no {w wx : World} {cs : Int} {held b : List UInt8} {bad : Bool} {ah ao : Option Addr} {lh ch c n : Nat} (h : FBox w cs (.slice ah lh ch) bad wx) (hO : OwnO wx (w.heap.size + 2) ao c held) (hn : held.length = n) (hs : (sOk cs held bad && !bad) = false) {N : Nat} :
    FedI w cs held bad b (.returned (.tuple #[.agg #[.int .i64 cs, .slice ao n c, .bool bad], .string ⟨#[]⟩])) ((((wx.setCell ⟨w.heap.size + 1, 0, none⟩ (.int .i64 cs)).setCell ⟨w.heap.size + 1, 1, none⟩ (.slice ao n c)).setCell ⟨w.heap.size + 1, 2, none⟩ (.bool bad)).drewN N) := by
  obtain ⟨e1, e2, e3⟩ := fed_no (b := b) hs
  refine ⟨ao, c, by rw [e1, e2, e3, hn], ?_, Below.next (bset (bset (bset h.bel _ (by omega)) _ (by omega)) _ (by omega)) (below_drewN' _ _ N)⟩
  rw [e1]
  rcases hO with h | ⟨q, rfl, hq, hO⟩
  · exact .inl h
  · exact .inr ⟨q, rfl, by omega, (own_set3 hO (by omega)).below (below_drewN' _ _ N)⟩

theorem fedI_yes {w wx : World} {cs : Int} {held b hd xs : List UInt8} {bad bd : Bool} {ah ao : Option Addr} {lh ch c n : Nat} {XS : Array UInt8} (h : FBox w cs (.slice ah lh ch) bad wx) (hO : OwnO wx (w.heap.size + 2) ao c hd) (hn : hd.length = n) (h1 : fedH cs held false b = hd) (h2 : fedB cs held false b = bd) (h3 : fedT cs held false b = xs) (hX : xs.toArray = XS) {N : Nat} :
    FedI w cs held false b (.returned (.tuple #[.agg #[.int .i64 cs, .slice ao n c, .bool bd], .string ⟨XS⟩])) ((((wx.setCell ⟨w.heap.size + 1, 0, none⟩ (.int .i64 cs)).setCell ⟨w.heap.size + 1, 1, none⟩ (.slice ao n c)).setCell ⟨w.heap.size + 1, 2, none⟩ (.bool bd)).drewN N) := by
  refine ⟨ao, c, by rw [h1, h2, h3, hn, hX], ?_, Below.next (bset (bset (bset h.bel _ (by omega)) _ (by omega)) _ (by omega)) (below_drewN' _ _ N)⟩
  rw [h1]
  rcases hO with h | ⟨q, rfl, hq, hO⟩
  · exact .inl h
  · exact .inr ⟨q, rfl, by omega, (own_set3 hO (by omega)).below (below_drewN' _ _ N)⟩

set_option maxHeartbeats 2000000 in
theorem implFeed_any (cs : Int) (ah ap : Option Addr) (lh ch lp cp : Nat) (bad : Bool) (held part : List UInt8) (w : World) (h1 : LeftAt w ah lh ch held) (h2 : Reads w ap lp part) (hl1 : lh ≤ 2097152) (hl2 : lp ≤ 2097152) (T : Hd (AllAt w)) :
    Calls Tryd.prog 16 #[.agg #[.int .i64 cs, .slice ah lh ch, .bool bad], .slice ap lp cp] w (FedI w cs held bad part) := by
  have H1 : Hd (LeftAt w ah lh ch held) := ⟨h1⟩
  have H2 : Hd (Reads w ap lp part) := ⟨h2⟩
  have HN : Hd (held.length = lh) := ⟨h1.1.1⟩
  have F0 : Hd (FBox w cs (.slice ah lh ch) bad ((w.alloc (.cells #[.int .i64 cs, .slice ah lh ch, .bool bad] 30)).alloc (.cells #[.int .i64 0, .slice none 0 0, .bool false] 30))) := ⟨fBox_new w cs _ bad⟩
  clear h1 h2
  obtain ⟨p0, p1, p2, _, _, _⟩ := cells3 _ w.heap.size _ _ _ _ F0.out.box
  go_enter Tryd.func16, Tryd.ntmps16
  cases bad with
  | true =>
    have HS : Hd ((sOk cs held true && !true) = false) := ⟨by simp⟩
    go_wp2_with fail
    generalize (w.alloc (.cells #[.int .i64 cs, .slice ah lh ch, .bool true] 30)).alloc (.cells #[.int .i64 0, .slice none 0 0, .bool false] 30) = W at *
    go_region_held (fun w' => w'.cell? ⟨w.heap.size, 0, none⟩ = some (.int .i64 cs) ∧ w'.cell? ⟨w.heap.size, 1, none⟩ = some (.slice ah lh ch) ∧ w'.cell? ⟨w.heap.size, 2, none⟩ = some (.bool true)) (first | assumption | exact ⟨p0, p1, p2⟩ | exact ⟨k0, k1, k2⟩ | exact ⟨cell_set3 k0 (by show w.heap.size ≠ w.heap.size + 1; omega), cell_set3 k1 (by show w.heap.size ≠ w.heap.size + 1; omega), cell_set3 k2 (by show w.heap.size ≠ w.heap.size + 1; omega)⟩)
      (first | (go_at_call 40; refine (clone_left ah lh ch held _ (H1.out.below F0.out.bel.drew) (by omega)).mono ?_; rintro e w3 ⟨ao, c, rfl, hO, hB⟩; have F3 : Hd (FBox w cs (.slice ah lh ch) true w3) := (⟨(F0.out.below (Below.refl _ W).drew).below hB⟩); have HO3 : Hd (OwnO w3 (w.heap.size + 2) ao c held) := (⟨hO.mono (lt_block F0.out.res)⟩); obtain ⟨k0, k1, k2, _, _, _⟩ := cells3 w3 w.heap.size _ _ _ _ F3.out.box; obtain ⟨r0, r1, r2, r3, r4, r5⟩ := cells3 w3 (w.heap.size + 1) _ _ _ _ F3.out.res))
    all_goals
      rewrite [HN.out]
      go_wp2_with fail
      refine bodyPost_ret (results_row_tmp rfl _ _ (w.heap.size + 1) _ _ (0, 0) _ rfl (set3 _ _ _ F3.out.res) Tryd.underlying30 rfl (by kernel_rfl)) rfl ?_
      exact fedI_no (N := 0) F3.out HO3.out HN.out HS.out
  | false =>
    go_wp2_with fail
    refine (implDecOk_any cs ah lh ch false held _ (H1.out.1.below rfl F0.out.bel) ⟨T.out.below F0.out.bel⟩).mono ?_
    rintro e w1 ⟨rfl, hB⟩
    have F1 : Hd (FBox w cs (.slice ah lh ch) false w1) := ⟨F0.out.below hB⟩
    clear hB F0 p0 p1 p2
    obtain ⟨p0, p1, p2, _, _, _⟩ := cells3 w1 w.heap.size _ _ _ _ F1.out.box
    cases hs : sOk cs held false with
    | false =>
      have HS : Hd ((sOk cs held false && !false) = false) := ⟨by rw [hs]; rfl⟩
      clear hs
      go_wp2_with fail
      go_region_held (fun w' => w'.cell? ⟨w.heap.size, 0, none⟩ = some (.int .i64 cs) ∧ w'.cell? ⟨w.heap.size, 1, none⟩ = some (.slice ah lh ch) ∧ w'.cell? ⟨w.heap.size, 2, none⟩ = some (.bool false)) (first | assumption | exact ⟨p0, p1, p2⟩ | exact ⟨k0, k1, k2⟩ | exact ⟨cell_set3 k0 (by show w.heap.size ≠ w.heap.size + 1; omega), cell_set3 k1 (by show w.heap.size ≠ w.heap.size + 1; omega), cell_set3 k2 (by show w.heap.size ≠ w.heap.size + 1; omega)⟩)
        (first | (go_at_call 40; refine (clone_left ah lh ch held _ (H1.out.below F1.out.bel.drew) (by omega)).mono ?_; rintro e w3 ⟨ao, c, rfl, hO, hB⟩; have F3 : Hd (FBox w cs (.slice ah lh ch) false w3) := (⟨(F1.out.below (Below.refl _ w1).drew).below hB⟩); have HO3 : Hd (OwnO w3 (w.heap.size + 2) ao c held) := (⟨hO.mono (lt_block F1.out.res)⟩); obtain ⟨k0, k1, k2, _, _, _⟩ := cells3 w3 w.heap.size _ _ _ _ F3.out.box; obtain ⟨r0, r1, r2, r3, r4, r5⟩ := cells3 w3 (w.heap.size + 1) _ _ _ _ F3.out.res))
      all_goals
        rewrite [HN.out]
        go_wp2_with fail
        refine bodyPost_ret (results_row_tmp rfl _ _ (w.heap.size + 1) _ _ (0, 0) _ rfl (set3 _ _ _ F3.out.res) Tryd.underlying30 rfl (by kernel_rfl)) rfl ?_
        exact fedI_no (N := 0) F3.out HO3.out HN.out HS.out
    | true =>
      have HS : Hd (sOk cs held false = true) := ⟨hs⟩
      have hcs := sOk_in hs
      clear hs
      go_wp2_with fail
      refine (setOf_yes cs _ hcs).mono ?_
      rintro e w2 ⟨rfl, hw⟩
      replace hw := hw.symm
      subst hw
      obtain ⟨st, sx, hsv⟩ := setV_iface cs
      have HSV : Hd (setV cs = .iface st sx) := ⟨hsv⟩
      rewrite [hsv]
      clear hsv hcs
      go_wp2_with fail
      refine (partReader_any st sx ah lh ch _).mono ?_
      rintro e w3 ⟨rfl, hw3⟩
      have G3 : w3.heap[w1.heap.size + 1]? = some (.cells #[.slice ah lh ch] 22 (0, 0)) := by rw [hw3]; exact (laid2 w1 _ _).2
      have S3 : w3.cell? ⟨w1.heap.size, 0, none⟩ = some (setV cs) := by
        rw [HSV.out, cell_of_row w3 w1.heap.size 0 _ _ (0, 0) (by rw [hw3]; exact (laid2 w1 _ _).1)]; rfl
      have B3 : Below w1.heap.size w1 w3 := by rw [hw3]; exact below_lit2 w1 _ _
      have HG3 : Hd (w3.heap[w1.heap.size + 1]? = some (.cells #[.slice ah lh ch] 22 (0, 0)) ∧ w3.cell? ⟨w1.heap.size, 0, none⟩ = some (setV cs) ∧ Below w1.heap.size w1 w3) := ⟨G3, S3, B3⟩
      clear hw3 G3 S3 B3 p0 p1 p2
      go_wp2_with fail
      refine (part_any cs (w1.heap.size + 1) w1.heap.size lh ch lp cp ah ap held part w1 w3 HG3.out.2.2 HG3.out.1 HG3.out.2.1 (by omega) (by omega) (H1.out.1.below rfl F1.out.bel) (H2.out.below rfl F1.out.bel) (by omega) (by omega) ⟨T.out.below F1.out.bel⟩).mono ?_
      rintro e w4 ⟨k, xs, ao, n, c, rfl, hF, hst, hR, hA, hB4⟩
      obtain ⟨all, hall⟩ : ∃ all, held ++ part = all := ⟨_, rfl⟩
      rw [hall] at hF hst hR
      obtain ⟨rest, hrest⟩ : ∃ rest, all.drop k = rest := ⟨_, rfl⟩
      have FS := feed_stop hF hst
      rw [hrest] at hR FS
      have HFS : Hd ((mayB cs rest = true → feedT cs all = xs ∧ feedH cs all = rest ∧ feedB cs all = false) ∧ (mayB cs rest = false → feedT cs all = xs ∧ feedH cs all = [] ∧ feedB cs all = true)) := ⟨FS⟩
      have HFY : Hd (fedH cs held false part = feedH cs all ∧ fedB cs held false part = feedB cs all ∧ fedT cs held false part = feedT cs all) := ⟨by rw [← hall]; exact fed_yes HS.out⟩
      have HLA : Hd (LeftAt w4 ao n c rest) := ⟨hR, hA⟩
      have HRN : Hd (rest.length = n) := ⟨hR.1⟩
      have hnb : n ≤ 4194304 := by rw [← hR.1, ← hrest, List.length_drop, ← hall, List.length_append, HN.out, H2.out.1]; omega
      obtain ⟨XS, hXS⟩ : ∃ XS, xs.toArray = XS := ⟨_, rfl⟩
      have HXS : Hd (xs.toArray = XS) := ⟨hXS⟩
      rewrite [hXS]
      have F4 : Hd (FBox w cs (.slice ah lh ch) false w4) := ⟨F1.out.below hB4⟩
      clear hF hst hR hA hB4 hall hrest FS hXS F1 HG3
      go_wp2_with fail
      rewrite [← HSV.out]
      refine (mayGoOn_any cs ao n c rest _ HLA.out.1 ⟨T.out.below F4.out.bel⟩).mono ?_
      rintro e w5 ⟨rfl, hB5⟩
      rewrite [HSV.out]
      have F5 : Hd (FBox w cs (.slice ah lh ch) false w5) := ⟨F4.out.below hB5⟩
      have HL5 : Hd (LeftAt w5 ao n c rest) := ⟨HLA.out.below hB5⟩
      clear hB5 F4 HLA
      obtain ⟨p0, p1, p2, _, _, _⟩ := cells3 w5 w.heap.size _ _ _ _ F5.out.box
      obtain ⟨r0, r1, r2, r3, r4, r5⟩ := cells3 w5 (w.heap.size + 1) _ _ _ _ F5.out.res
      cases hm : mayB cs rest with
      | false =>
        obtain ⟨e1, e2, e3⟩ := HFS.out.2 hm
        have HE : Hd (fedH cs held false part = [] ∧ fedB cs held false part = true ∧ fedT cs held false part = xs) := ⟨HFY.out.1.trans e2, HFY.out.2.1.trans e3, HFY.out.2.2.trans e1⟩
        clear hm e1 e2 e3 HFS HFY HL5
        go_wp2_with fail
        refine bodyPost_ret (results_row_tmp rfl _ _ (w.heap.size + 1) _ _ (0, 0) _ rfl (set3 _ _ _ F5.out.res) Tryd.underlying30 rfl (by kernel_rfl)) rfl ?_
        exact fedI_yes (N := 0) F5.out (.inl ⟨rfl, rfl, rfl⟩) rfl HE.out.1 HE.out.2.1 HE.out.2.2 HXS.out
      | true =>
        obtain ⟨e1, e2, e3⟩ := HFS.out.1 hm
        have HE : Hd (fedH cs held false part = rest ∧ fedB cs held false part = false ∧ fedT cs held false part = xs) := ⟨HFY.out.1.trans e2, HFY.out.2.1.trans e3, HFY.out.2.2.trans e1⟩
        clear hm e1 e2 e3 HFS HFY r0 r1 r2 r3 r4 r5
        go_wp2_with fail
        go_region_held (fun w' => w'.cell? ⟨w.heap.size, 0, none⟩ = some (.int .i64 cs)) (first | assumption | exact p0 | exact k0 | exact cell_set3 k0 (by show w.heap.size ≠ w.heap.size + 1; omega))
          (first | (go_at_call 40; refine (clone_left ao n c rest _ (HL5.out.below (Below.refl _ w5).drew) (by omega)).mono ?_; rintro e w6 ⟨a6, c6, rfl, hO, hB⟩; have F6 : Hd (FBox w cs (.slice ah lh ch) false w6) := (⟨(F5.out.below (Below.refl _ w5).drew).below hB⟩); have HO6 : Hd (OwnO w6 (w.heap.size + 2) a6 c6 rest) := (⟨hO.mono (lt_block F5.out.res)⟩); obtain ⟨k0, k1, k2, _, _, _⟩ := cells3 w6 w.heap.size _ _ _ _ F6.out.box; obtain ⟨r0, r1, r2, r3, r4, r5⟩ := cells3 w6 (w.heap.size + 1) _ _ _ _ F6.out.res))
        all_goals
          rewrite [HRN.out]
          go_wp2_with fail
          refine bodyPost_ret (results_row_tmp rfl _ _ (w.heap.size + 1) _ _ (0, 0) _ rfl (set3 _ _ _ F6.out.res) Tryd.underlying30 rfl (by kernel_rfl)) rfl ?_
          exact fedI_yes (N := 0) F6.out HO6.out HRN.out HE.out.1 HE.out.2.1 HE.out.2.2 HXS.out

end Go.Proofs.YtjbideiifoadkaaDoor
