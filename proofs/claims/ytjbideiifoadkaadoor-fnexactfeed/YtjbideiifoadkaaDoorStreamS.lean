/- Contracts of the specification's bytes that begin a sign of today. -/
import Derived.Test.YtjbideiifoadkaaDoorStreamU
import Derived.Test.YtjbideiifoadkaaDoorBlocks
import Derived.Test.YtjbideiifoadkaaDoorCodeS
namespace Go.Proofs.YtjbideiifoadkaaDoor
set_option maxRecDepth 4000
open Go.RowKit

/-- Two slices that are filled up side by side. -/
structure LH (w : World) (bs : List UInt8) (m1 m2 q1 c1 q2 c2 : Nat) (wr : World) : Prop where
  a : Own wr q1 c1 (bs ++ List.replicate m1 128)
  b : Own wr q2 c2 (bs ++ List.replicate m2 191)
  p1 : w.heap.size ≤ q1
  p2 : w.heap.size ≤ q2
  ne : q1 ≠ q2
  bel : Below w.heap.size w wr
theorem rep_snoc (bs : List UInt8) (m : Nat) (x : UInt8) : bs ++ List.replicate m x ++ [x] = bs ++ List.replicate (m + 1) x := by
  rw [List.append_assoc, ← List.replicate_succ']
theorem LH.next1 {w : World} {bs : List UInt8} {m1 m2 q1 c1 q2 c2 n : Nat} {wr w1 : World} {v1 : Value} (h : LH w bs m1 m2 q1 c1 q2 c2 wr) (o : Obj)
    {xs : List UInt8} (hxs : bs ++ List.replicate m1 128 = xs) (hown : w1.ownsRow w.heap.size 5 1 v1 (n + 1) (xs.map cb ++ [cb 128])) (hgr : (wr.alloc o).grownBy w1 (Value.slice (some ⟨q1, 0, none⟩) n c1).ownBlock)
    (hnil : ¬ v1 = .slice none 0 0) (hat : v1.ownBlock = (Value.slice (some ⟨q1, 0, none⟩) n c1).ownBlock ∨ v1.ownBlock = some (wr.heap.size + 1)) :
    ∃ q' c', v1 = .slice (some ⟨q', 0, none⟩) (n + 1) c' ∧ LH w bs (m1 + 1) m2 q' c' q2 c2 w1 := by
  obtain ⟨q', c', hv, hq, hO, hw⟩ := own_app (xs := [128]) hown hnil hat
  rw [← hxs, rep_snoc] at hO
  have hg : (wr.alloc o).grownBy w1 (some q1) := hgr
  have l2 := h.b.lt
  refine ⟨q', c', hv, hO, (h.b.below (below_lit wr o)).grown hg h.ne.symm, hq, h.p2, ?_, below_grows (Below.next h.bel (below_lit wr o)) hg (by have := h.bel.size; simp; omega) h.p1⟩
  rcases hw with rfl | rfl
  · exact h.ne
  · omega
theorem LH.next2 {w : World} {bs : List UInt8} {m1 m2 q1 c1 q2 c2 n : Nat} {wr w1 : World} {v1 : Value} (h : LH w bs m1 m2 q1 c1 q2 c2 wr) (o : Obj)
    {xs : List UInt8} (hxs : bs ++ List.replicate m2 191 = xs) (hown : w1.ownsRow w.heap.size 5 1 v1 (n + 1) (xs.map cb ++ [cb 191])) (hgr : (wr.alloc o).grownBy w1 (Value.slice (some ⟨q2, 0, none⟩) n c2).ownBlock)
    (hnil : ¬ v1 = .slice none 0 0) (hat : v1.ownBlock = (Value.slice (some ⟨q2, 0, none⟩) n c2).ownBlock ∨ v1.ownBlock = some (wr.heap.size + 1)) :
    ∃ q' c', v1 = .slice (some ⟨q', 0, none⟩) (n + 1) c' ∧ LH w bs m1 (m2 + 1) q1 c1 q' c' w1 := by
  obtain ⟨q', c', hv, hq, hO, hw⟩ := own_app (xs := [191]) hown hnil hat
  rw [← hxs, rep_snoc] at hO
  have hg : (wr.alloc o).grownBy w1 (some q2) := hgr
  have l2 := h.a.lt
  refine ⟨q', c', hv, (h.a.below (below_lit wr o)).grown hg h.ne, hO, h.p1, hq, ?_, below_grows (Below.next h.bel (below_lit wr o)) hg (by have := h.bel.size; simp; omega) h.p2⟩
  rcases hw with rfl | rfl
  · exact h.ne
  · omega
/-- Both at the beginning: two copies. -/
theorem lh_zero {w w1 w2 : World} {bs : List UInt8} {n : Nat} {v1 v2 : Value} {oa ob : Obj}
    (hown1 : w1.ownsRow w.heap.size 5 1 v1 n (bs.map cb)) (hgr1 : (w.alloc oa).grownBy w1 (Value.slice (some ⟨w.heap.size, 0, none⟩) 0 0).ownBlock) (hnil1 : v1 ≠ .slice none 0 0)
    (hown2 : w2.ownsRow w1.heap.size 5 1 v2 n (bs.map cb)) (hgr2 : (w1.alloc ob).grownBy w2 (Value.slice (some ⟨w1.heap.size, 0, none⟩) 0 0).ownBlock) (hnil2 : v2 ≠ .slice none 0 0) :
    ∃ q1 c1 q2 c2, v1 = .slice (some ⟨q1, 0, none⟩) n c1 ∧ v2 = .slice (some ⟨q2, 0, none⟩) n c2 ∧ LH w bs 0 0 q1 c1 q2 c2 w2 := by
  obtain ⟨q1, c1, hv1, hq1, hO1⟩ := own_row hown1 hnil1
  obtain ⟨q2, c2, hv2, hq2, hO2⟩ := own_row hown2 hnil2
  have hg1 : (w.alloc oa).grownBy w1 (some w.heap.size) := hgr1
  have hg2 : (w1.alloc ob).grownBy w2 (some w1.heap.size) := hgr2
  have hB1 : Below w.heap.size w w1 := below_grows (below_lit w oa) hg1 (by simp) (Nat.le_refl _)
  have l1 := hO1.lt
  have s1 := hB1.size
  refine ⟨q1, c1, q2, c2, hv1, hv2, ?_, ?_, hq1, by omega, by omega, below_grows (Below.next hB1 (below_lit w1 ob)) hg2 (by simp; omega) s1⟩
  · rw [List.replicate_zero, List.append_nil]; exact (hO1.below (below_lit w1 ob)).grown hg2 (by omega)
  · rw [List.replicate_zero, List.append_nil]; exact hO2
theorem gotAt_flag {l : List UInt8} {r : Int × Int × Bool} (h : GotAt l 0 r) (hl : 0 < l.length) : r.2.2 = gotB l := by
  rcases h with ⟨h1, _, _, h4, _⟩ | ⟨rfl, h⟩
  · rw [h1]; exact (gotB_of h4).symm
  · cases hg : gotB l
    · rfl
    · obtain ⟨g, _⟩ := gotB_t hg
      exact absurd ⟨Int.le_refl _, by omega, _, g⟩ h
def sliceN : Value → Nat
  | .slice _ n _ => n
  | _ => 0
theorem cb128 : ([.int .u8 128] : List Value) = ([128] : List UInt8).map cb := rfl
theorem cb191 : ([.int .u8 191] : List Value) = ([191] : List UInt8).map cb := rfl

set_option maxHeartbeats 1000000 in
theorem l6Utf_some (b off len cap : Nat) (bs : List UInt8) (w : World) (hn : bs.length = len) (hc : ∀ j, j < len → w.cell? ⟨b, off + j, none⟩ = some (.int .u8 ((bs.getD j 0).toNat : Int))) (hl : len ≤ 1073741824) (h0 : 0 < len) :
    Calls Tryd.prog 58 #[.slice (some ⟨b, off, none⟩) len cap] w fun e w' => e = .returned (.bool (begU bs)) ∧ Below w.heap.size w w' := by
  obtain ⟨i0, hi, hz0, hz1, hz2⟩ := info_parts info8
  have Hn : Hd (bs.length = len) := ⟨hn⟩
  have Hc : Hd (∀ j, j < len → w.cell? ⟨b, off + j, none⟩ = some (.int .u8 ((bs.getD j 0).toNat : Int))) := ⟨hc⟩
  have hc0 : w.cell? ⟨b, off, none⟩ = some (.int .u8 (gv bs 0 : Int)) := hc 0 h0
  obtain ⟨x, hx⟩ : ∃ x, gv bs 0 = x := ⟨_, rfl⟩
  have Hx : Hd (gv bs 0 = x) := ⟨hx⟩
  have hx2 : Hd (x < 256) := ⟨by rw [← hx]; exact gv_lt bs 0⟩
  rw [hx] at hc0
  have h0I : (0 : Int) < (len : Int) := by omega
  have e0 : ((len : Int) == 0) = false := by simp; omega
  clear hn hc hx
  go_enter Tryd.func58, Tryd.ntmps58
  go_wp2_with fail
  refine (l2Len_any x _ hx2.out).mono ?_
  rintro e w1 ⟨rfl, hw1⟩
  subst hw1
  by_cases hk : l2len x ≤ len
  · have hkI : (l2len x : Int) ≤ (len : Int) := by omega
    have E : Hd (begU bs = false) := ⟨utf_long (by rw [Hx.out, Hn.out]; exact hk)⟩
    go_wp2_with fail
    go_ret
    exact ⟨ret_bool E.out.symm, Below.refl _ _⟩
  · obtain ⟨k, hkk⟩ : ∃ k, l2len x = k := ⟨_, rfl⟩
    have Hk : Hd (l2len x = k) := ⟨hkk⟩
    rw [hkk] at hk ⊢
    have hkI : ¬ (k : Int) ≤ (len : Int) := by omega
    have hk4 : k ≤ 4 := by rw [← hkk]; unfold l2len; repeat' split
                           all_goals omega
    clear hkk
    go_wp2_with (at_builtin; refine wpList_append_own_at _ rfl (.tmp 23) (.tmp 24) 22 rfl w.heap.size 5 i0 (.int .u8 0) 1 1 Tryd.underlying22 hi hz0 hz1 hz2 rfl (by decide) _ 0 [] rfl ?hown ⟨b, off, none⟩ len cap (bs.map cb) rfl ?hl ?hn ?h1 ?h63 ?hby ?hbase ?_)
    case hown => exact World.ownsRow_made w #[] 0 (Nat.le_refl _) (by unfold maxLen; omega) rfl
    case hl => simpa using Hn.out
    case hn => exact map_cb_cell Hn.out (fun j hj => cell_below (Hc.out j hj) (below_lit w _))
    case h1 => exact one_cb bs
    case h63 => unfold maxLen; omega
    case hby => omega
    case hbase => simp
    intro v1 w1 hown1 hgr1 hne1 hat1
    have hB1 : Hd (Below w.heap.size w w1) := ⟨below_grows (below_lit w _) hgr1 (by simp) (Nat.le_refl _)⟩
    have Hs : Hd (w.heap.size ≤ w1.heap.size) := ⟨hB1.out.size⟩
    go_wp2_with (at_builtin; refine wpList_append_own_at _ rfl (.tmp 26) (.tmp 27) 22 rfl w1.heap.size 5 i0 (.int .u8 0) 1 1 Tryd.underlying22 hi hz0 hz1 hz2 rfl (by decide) _ 0 [] rfl ?hown ⟨b, off, none⟩ len cap (bs.map cb) rfl ?hl ?hn ?h1 ?h63 ?hby ?hbase ?_)
    case hown => exact World.ownsRow_made w1 #[] 0 (Nat.le_refl _) (by unfold maxLen; omega) rfl
    case hl => simpa using Hn.out
    case hn => exact map_cb_cell Hn.out (fun j hj => cell_below (Hc.out j hj) (Below.next hB1.out (below_lit w1 _)))
    case h1 => exact one_cb bs
    case h63 => unfold maxLen; omega
    case hby => omega
    case hbase => simp
    intro v2 w2 hown2 hgr2 hne2 hat2
    obtain ⟨q1, c1, q2, c2, hv1, hv2, hLH⟩ := lh_zero hown1 hgr1 hne1 hown2 hgr2 hne2
    have L0 : Hd (LH w bs 0 0 q1 c1 q2 c2 w2) := ⟨hLH⟩
    clear hown1 hgr1 hne1 hat1 hown2 hgr2 hne2 hat2 hB1 Hs hLH
    subst hv1 hv2
    go_wp2_with fail
    go_loopw [4, 5] (fun v u wr => ∃ (m q1 c1 q2 c2 : Nat), len + m ≤ k ∧ v = .slice (some ⟨q1, 0, none⟩) (len + m) c1 ∧ u = .slice (some ⟨q2, 0, none⟩) (len + m) c2 ∧ Hd (LH w bs m m q1 c1 q2 c2 wr)) (fun v _ _ => k - sliceN v)
    case atStart => exact ⟨0, q1, c1, q2, c2, by omega, rfl, rfl, L0⟩
    case round =>
      clear L0
      obtain ⟨m, r1, d1, r2, d2, hm, rfl, rfl, L⟩ := hrel
      by_cases hlt : len + m < k
      · have hkI2 : ((len + m : Nat) : Int) < (k : Int) := by omega
        obtain ⟨xs, hxs⟩ : ∃ xs, bs ++ List.replicate m 128 = xs := ⟨_, rfl⟩
        obtain ⟨ys, hys⟩ : ∃ ys, bs ++ List.replicate m 191 = ys := ⟨_, rfl⟩
        have Hxs : Hd (bs ++ List.replicate m 128 = xs) := ⟨hxs⟩
        have Hys : Hd (bs ++ List.replicate m 191 = ys) := ⟨hys⟩
        have Hlen1 : Hd (xs.length = len + m) := ⟨by rw [← hxs, List.length_append, List.length_replicate, Hn.out]⟩
        have Hlen2 : Hd (ys.length = len + m) := ⟨by rw [← hys, List.length_append, List.length_replicate, Hn.out]⟩
        clear hxs hys
        go_wp2_with (at_builtin; refine wpList_append_own_at _ rfl (.tmp 33) (.tmp 34) 22 rfl w.heap.size 5 i0 (.int .u8 0) 1 1 Tryd.underlying22 hi hz0 hz1 hz2 rfl (by decide) _ (len + m) (xs.map cb) rfl ?hown ⟨wr.heap.size, 0, none⟩ 1 1 ([128].map cb) rfl ?hl ?hn ?h1 ?h63 ?hby ?hbase ?_)
        case hown => exact ((Hxs.out ▸ L.out.a).owns Hlen1.out L.out.p1).alloc _
        case hl => rfl
        case hn => exact built_cells wr _ _ _ rfl
        case h1 => exact one_cb _
        case h63 => unfold maxLen; omega
        case hby => omega
        case hbase => have := L.out.bel.size; simp; omega
        intro v3 w3 hown3 hgr3 hne3 hat3
        obtain ⟨q3, c3, hv3, hL3⟩ := L.out.next1 _ Hxs.out hown3 hgr3 hne3 hat3
        have L3 : Hd (LH w bs (m + 1) m q3 c3 r2 d2 w3) := ⟨hL3⟩
        clear hown3 hgr3 hne3 hat3 hL3 L
        subst hv3
        go_wp2_with (at_builtin; refine wpList_append_own_at _ rfl (.tmp 36) (.tmp 37) 22 rfl w.heap.size 5 i0 (.int .u8 0) 1 1 Tryd.underlying22 hi hz0 hz1 hz2 rfl (by decide) _ (len + m) (ys.map cb) rfl ?hown ⟨w3.heap.size, 0, none⟩ 1 1 ([191].map cb) rfl ?hl ?hn ?h1 ?h63 ?hby ?hbase ?_)
        case hown => exact ((Hys.out ▸ L3.out.b).owns Hlen2.out L3.out.p2).alloc _
        case hl => rfl
        case hn => exact built_cells w3 _ _ _ rfl
        case h1 => exact one_cb _
        case h63 => unfold maxLen; omega
        case hby => omega
        case hbase => have := L3.out.bel.size; simp; omega
        intro v4 w4 hown4 hgr4 hne4 hat4
        obtain ⟨q4, c4, hv4, hL4⟩ := L3.out.next2 _ Hys.out hown4 hgr4 hne4 hat4
        have L4 : Hd (LH w bs (m + 1) (m + 1) q3 c3 q4 c4 w4) := ⟨hL4⟩
        clear hown4 hgr4 hne4 hat4 hL4 L3 Hlen1 Hlen2
        subst hv4
        go_wp2_with fail
        go_roundw
        case rel => exact ⟨m + 1, q3, c3, q4, c4, by omega, rfl, rfl, L4⟩
        case measure => simp [sliceN]; omega
      · have hkI2 : ¬ ((len + m : Nat) : Int) < (k : Int) := by omega
        have hmk : Hd (k - len = m) := ⟨by omega⟩
        have hd1 : len + m ≤ d1 := by have := L.out.a.le; rw [List.length_append, List.length_replicate, Hn.out] at this; exact this
        have hd2 : len + m ≤ d2 := by have := L.out.b.le; rw [List.length_append, List.length_replicate, Hn.out] at this; exact this
        have HL : Hd ((lowF bs).length = len + m) := ⟨by rw [lowF_len (by rw [Hx.out, Hk.out, Hn.out]; omega), Hx.out, Hk.out]; have := hmk.out; omega⟩
        have HH : Hd ((highF bs).length = len + m) := ⟨by rw [highF_len (by rw [Hx.out, Hk.out, Hn.out]; omega), Hx.out, Hk.out]; have := hmk.out; omega⟩
        have UB : Hd ((gotB (lowF bs) && gotB (highF bs)) = begU bs) := ⟨utf_begs (by rw [Hn.out]; omega) (by rw [Hx.out, Hk.out, Hn.out]; omega)⟩
        have FA : Hd (bs ++ List.replicate m 128 = fill bs 128) := ⟨by rw [fill_is (n := k) (m := m) (by rw [Hx.out]; exact Hk.out) (by rw [Hn.out]; exact hmk.out)]⟩
        have FB : Hd (bs ++ List.replicate m 191 = fill bs 191) := ⟨by rw [fill_is (n := k) (m := m) (by rw [Hx.out]; exact Hk.out) (by rw [Hn.out]; exact hmk.out)]⟩
        have RA : Hd (Row wr r1 (fill bs 128)) := ⟨FA.out ▸ L.out.a.row⟩
        have RB : Hd (Row wr r2 (fill bs 191)) := ⟨FB.out ▸ L.out.b.row⟩
        have BW : Hd (Below w.heap.size w wr) := ⟨L.out.bel⟩
        have HP : Hd (r1 ≠ r2 ∧ w.heap.size ≤ r1 ∧ w.heap.size ≤ r2) := ⟨L.out.ne, L.out.p1, L.out.p2⟩
        have HC : Hd (wr.cell? ⟨b, off, none⟩ = some (.int .u8 (x : Int))) := ⟨cell_below hc0 L.out.bel⟩
        clear L FA FB hc0
        by_cases h1 : len = 1
        · have hL1 : ((len : Int) == 1) = true := by simp; omega
          have hwc := HC.out
          have HB1 : Hd (bs.length = 1) := ⟨by rw [Hn.out]; exact h1⟩
          have hm1 : 1 ≤ m := by omega
          have hix : (1 : Int) < ((len + m : Nat) : Int) := by omega
          clear HC h1
          by_cases x224 : x = 224
          · subst x224
            have RL : Hd (Row (wr.setCell ⟨r1, 1, none⟩ (.int .u8 160)) r1 (lowF bs)) := ⟨by
              have e : lowF bs = (fill bs 128).set 1 160 := by unfold lowF; rw [if_pos HB1.out, if_pos Hx.out]
              rw [e]; exact (RA.out.store 1 160).1⟩
            have RH : Hd (Row (wr.setCell ⟨r1, 1, none⟩ (.int .u8 160)) r2 (highF bs)) := ⟨by
              have e : highF bs = fill bs 191 := by unfold highF; rw [if_pos HB1.out, if_neg (by rw [Hx.out]; decide), if_neg (by rw [Hx.out]; decide)]
              rw [e]; exact RB.out.set _ HP.out.1.symm⟩
            have BZ : Hd (Below w.heap.size w (wr.setCell ⟨r1, 1, none⟩ (.int .u8 160))) := ⟨bset BW.out _ HP.out.2.1⟩
            have hfz : wr.frozen? ⟨r1, 1, none⟩ = false := RA.out.free 1
            have hce := RA.out.cell 1 (by rw [fill_len (by rw [Hx.out, Hk.out, Hn.out]; omega), Hx.out, Hk.out]; have := hmk.out; omega)
            generalize (((fill bs 128).getD 1 0).toNat : Int) = y at hce
            clear RA RB BW HP
            go_wp2_with fail
            refine (specGetSign_any r1 0 (len + m) d1 (lowF bs) 0 _ HL.out (by omega) (fun j hj => by rw [Nat.zero_add]; exact RL.out.cell j (by rw [HL.out]; exact hj)) (by omega)).mono ?_
            rintro e w5 ⟨⟨n1, x1, o1⟩, rfl, g1, hB5⟩
            have RH5 : Hd (Row w5 r2 (highF bs)) := ⟨RH.out.below hB5⟩
            have B5 : Hd (Below w.heap.size w w5) := ⟨Below.next BZ.out hB5⟩
            have F1 : Hd (o1 = gotB (lowF bs)) := ⟨gotAt_flag g1 (by rw [HL.out]; omega)⟩
            clear g1 hB5 RL RH BZ
            go_wp2_with fail
            refine (specGetSign_any r2 0 (len + m) d2 (highF bs) 0 _ HH.out (by omega) (fun j hj => by rw [Nat.zero_add]; exact RH5.out.cell j (by rw [HH.out]; exact hj)) (by omega)).mono ?_
            rintro e w6 ⟨⟨n2, x2, o2⟩, rfl, g2, hB6⟩
            have B6 : Hd (Below w.heap.size w w6) := ⟨Below.next B5.out hB6⟩
            have F2 : Hd ((o1 && o2) = begU bs) := ⟨by have F3 : o2 = gotB (highF bs) := gotAt_flag g2 (by rw [HH.out]; omega)
                                                       rw [F1.out, F3]; exact UB.out⟩
            clear g2 hB6 RH5 B5 F1
            cases o1
            · go_wp2_with fail
              go_ret
              exact ⟨ret_bool (by rw [← F2.out]; rfl), B6.out⟩
            · go_wp2_with fail
              go_ret
              exact ⟨ret_bool (by rw [← F2.out]; rfl), B6.out⟩
          have n224 : ((x : Int) == 224) = false := by simp; omega
          by_cases x237 : x = 237
          · subst x237
            have RH : Hd (Row (wr.setCell ⟨r2, 1, none⟩ (.int .u8 159)) r2 (highF bs)) := ⟨by
              have e : highF bs = (fill bs 191).set 1 159 := by unfold highF; rw [if_pos HB1.out, if_pos Hx.out]
              rw [e]; exact (RB.out.store 1 159).1⟩
            have RL : Hd (Row (wr.setCell ⟨r2, 1, none⟩ (.int .u8 159)) r1 (lowF bs)) := ⟨by
              have e : lowF bs = fill bs 128 := by unfold lowF; rw [if_pos HB1.out, if_neg (by rw [Hx.out]; decide), if_neg (by rw [Hx.out]; decide)]
              rw [e]; exact RA.out.set _ HP.out.1⟩
            have BZ : Hd (Below w.heap.size w (wr.setCell ⟨r2, 1, none⟩ (.int .u8 159))) := ⟨bset BW.out _ HP.out.2.2⟩
            have hfz : wr.frozen? ⟨r2, 1, none⟩ = false := RB.out.free 1
            have hce := RB.out.cell 1 (by rw [fill_len (by rw [Hx.out, Hk.out, Hn.out]; omega), Hx.out, Hk.out]; have := hmk.out; omega)
            generalize (((fill bs 191).getD 1 0).toNat : Int) = y at hce
            clear RA RB BW HP
            go_wp2_with fail
            refine (specGetSign_any r1 0 (len + m) d1 (lowF bs) 0 _ HL.out (by omega) (fun j hj => by rw [Nat.zero_add]; exact RL.out.cell j (by rw [HL.out]; exact hj)) (by omega)).mono ?_
            rintro e w5 ⟨⟨n1, x1, o1⟩, rfl, g1, hB5⟩
            have RH5 : Hd (Row w5 r2 (highF bs)) := ⟨RH.out.below hB5⟩
            have B5 : Hd (Below w.heap.size w w5) := ⟨Below.next BZ.out hB5⟩
            have F1 : Hd (o1 = gotB (lowF bs)) := ⟨gotAt_flag g1 (by rw [HL.out]; omega)⟩
            clear g1 hB5 RL RH BZ
            go_wp2_with fail
            refine (specGetSign_any r2 0 (len + m) d2 (highF bs) 0 _ HH.out (by omega) (fun j hj => by rw [Nat.zero_add]; exact RH5.out.cell j (by rw [HH.out]; exact hj)) (by omega)).mono ?_
            rintro e w6 ⟨⟨n2, x2, o2⟩, rfl, g2, hB6⟩
            have B6 : Hd (Below w.heap.size w w6) := ⟨Below.next B5.out hB6⟩
            have F2 : Hd ((o1 && o2) = begU bs) := ⟨by have F3 : o2 = gotB (highF bs) := gotAt_flag g2 (by rw [HH.out]; omega)
                                                       rw [F1.out, F3]; exact UB.out⟩
            clear g2 hB6 RH5 B5 F1
            cases o1
            · go_wp2_with fail
              go_ret
              exact ⟨ret_bool (by rw [← F2.out]; rfl), B6.out⟩
            · go_wp2_with fail
              go_ret
              exact ⟨ret_bool (by rw [← F2.out]; rfl), B6.out⟩
          have n237 : ((x : Int) == 237) = false := by simp; omega
          by_cases x240 : x = 240
          · subst x240
            have RL : Hd (Row (wr.setCell ⟨r1, 1, none⟩ (.int .u8 144)) r1 (lowF bs)) := ⟨by
              have e : lowF bs = (fill bs 128).set 1 144 := by unfold lowF; rw [if_pos HB1.out, if_neg (by rw [Hx.out]; decide), if_pos Hx.out]
              rw [e]; exact (RA.out.store 1 144).1⟩
            have RH : Hd (Row (wr.setCell ⟨r1, 1, none⟩ (.int .u8 144)) r2 (highF bs)) := ⟨by
              have e : highF bs = fill bs 191 := by unfold highF; rw [if_pos HB1.out, if_neg (by rw [Hx.out]; decide), if_neg (by rw [Hx.out]; decide)]
              rw [e]; exact RB.out.set _ HP.out.1.symm⟩
            have BZ : Hd (Below w.heap.size w (wr.setCell ⟨r1, 1, none⟩ (.int .u8 144))) := ⟨bset BW.out _ HP.out.2.1⟩
            have hfz : wr.frozen? ⟨r1, 1, none⟩ = false := RA.out.free 1
            have hce := RA.out.cell 1 (by rw [fill_len (by rw [Hx.out, Hk.out, Hn.out]; omega), Hx.out, Hk.out]; have := hmk.out; omega)
            generalize (((fill bs 128).getD 1 0).toNat : Int) = y at hce
            clear RA RB BW HP
            go_wp2_with fail
            refine (specGetSign_any r1 0 (len + m) d1 (lowF bs) 0 _ HL.out (by omega) (fun j hj => by rw [Nat.zero_add]; exact RL.out.cell j (by rw [HL.out]; exact hj)) (by omega)).mono ?_
            rintro e w5 ⟨⟨n1, x1, o1⟩, rfl, g1, hB5⟩
            have RH5 : Hd (Row w5 r2 (highF bs)) := ⟨RH.out.below hB5⟩
            have B5 : Hd (Below w.heap.size w w5) := ⟨Below.next BZ.out hB5⟩
            have F1 : Hd (o1 = gotB (lowF bs)) := ⟨gotAt_flag g1 (by rw [HL.out]; omega)⟩
            clear g1 hB5 RL RH BZ
            go_wp2_with fail
            refine (specGetSign_any r2 0 (len + m) d2 (highF bs) 0 _ HH.out (by omega) (fun j hj => by rw [Nat.zero_add]; exact RH5.out.cell j (by rw [HH.out]; exact hj)) (by omega)).mono ?_
            rintro e w6 ⟨⟨n2, x2, o2⟩, rfl, g2, hB6⟩
            have B6 : Hd (Below w.heap.size w w6) := ⟨Below.next B5.out hB6⟩
            have F2 : Hd ((o1 && o2) = begU bs) := ⟨by have F3 : o2 = gotB (highF bs) := gotAt_flag g2 (by rw [HH.out]; omega)
                                                       rw [F1.out, F3]; exact UB.out⟩
            clear g2 hB6 RH5 B5 F1
            cases o1
            · go_wp2_with fail
              go_ret
              exact ⟨ret_bool (by rw [← F2.out]; rfl), B6.out⟩
            · go_wp2_with fail
              go_ret
              exact ⟨ret_bool (by rw [← F2.out]; rfl), B6.out⟩
          have n240 : ((x : Int) == 240) = false := by simp; omega
          by_cases x244 : x = 244
          · subst x244
            have RH : Hd (Row (wr.setCell ⟨r2, 1, none⟩ (.int .u8 143)) r2 (highF bs)) := ⟨by
              have e : highF bs = (fill bs 191).set 1 143 := by unfold highF; rw [if_pos HB1.out, if_neg (by rw [Hx.out]; decide), if_pos Hx.out]
              rw [e]; exact (RB.out.store 1 143).1⟩
            have RL : Hd (Row (wr.setCell ⟨r2, 1, none⟩ (.int .u8 143)) r1 (lowF bs)) := ⟨by
              have e : lowF bs = fill bs 128 := by unfold lowF; rw [if_pos HB1.out, if_neg (by rw [Hx.out]; decide), if_neg (by rw [Hx.out]; decide)]
              rw [e]; exact RA.out.set _ HP.out.1⟩
            have BZ : Hd (Below w.heap.size w (wr.setCell ⟨r2, 1, none⟩ (.int .u8 143))) := ⟨bset BW.out _ HP.out.2.2⟩
            have hfz : wr.frozen? ⟨r2, 1, none⟩ = false := RB.out.free 1
            have hce := RB.out.cell 1 (by rw [fill_len (by rw [Hx.out, Hk.out, Hn.out]; omega), Hx.out, Hk.out]; have := hmk.out; omega)
            generalize (((fill bs 191).getD 1 0).toNat : Int) = y at hce
            clear RA RB BW HP
            go_wp2_with fail
            refine (specGetSign_any r1 0 (len + m) d1 (lowF bs) 0 _ HL.out (by omega) (fun j hj => by rw [Nat.zero_add]; exact RL.out.cell j (by rw [HL.out]; exact hj)) (by omega)).mono ?_
            rintro e w5 ⟨⟨n1, x1, o1⟩, rfl, g1, hB5⟩
            have RH5 : Hd (Row w5 r2 (highF bs)) := ⟨RH.out.below hB5⟩
            have B5 : Hd (Below w.heap.size w w5) := ⟨Below.next BZ.out hB5⟩
            have F1 : Hd (o1 = gotB (lowF bs)) := ⟨gotAt_flag g1 (by rw [HL.out]; omega)⟩
            clear g1 hB5 RL RH BZ
            go_wp2_with fail
            refine (specGetSign_any r2 0 (len + m) d2 (highF bs) 0 _ HH.out (by omega) (fun j hj => by rw [Nat.zero_add]; exact RH5.out.cell j (by rw [HH.out]; exact hj)) (by omega)).mono ?_
            rintro e w6 ⟨⟨n2, x2, o2⟩, rfl, g2, hB6⟩
            have B6 : Hd (Below w.heap.size w w6) := ⟨Below.next B5.out hB6⟩
            have F2 : Hd ((o1 && o2) = begU bs) := ⟨by have F3 : o2 = gotB (highF bs) := gotAt_flag g2 (by rw [HH.out]; omega)
                                                       rw [F1.out, F3]; exact UB.out⟩
            clear g2 hB6 RH5 B5 F1
            cases o1
            · go_wp2_with fail
              go_ret
              exact ⟨ret_bool (by rw [← F2.out]; rfl), B6.out⟩
            · go_wp2_with fail
              go_ret
              exact ⟨ret_bool (by rw [← F2.out]; rfl), B6.out⟩
          have n244 : ((x : Int) == 244) = false := by simp; omega
          have RL : Hd (Row wr r1 (lowF bs)) := ⟨by
            have e : lowF bs = fill bs 128 := by unfold lowF; rw [if_pos HB1.out, if_neg (by rw [Hx.out]; exact x224), if_neg (by rw [Hx.out]; exact x240)]
            rw [e]; exact RA.out⟩
          have RH : Hd (Row wr r2 (highF bs)) := ⟨by
            have e : highF bs = fill bs 191 := by unfold highF; rw [if_pos HB1.out, if_neg (by rw [Hx.out]; exact x237), if_neg (by rw [Hx.out]; exact x244)]
            rw [e]; exact RB.out⟩
          have BZ : Hd (Below w.heap.size w wr) := ⟨BW.out⟩
          clear RA RB BW HP x224 x237 x240 x244
          go_wp2_with fail
          refine (specGetSign_any r1 0 (len + m) d1 (lowF bs) 0 _ HL.out (by omega) (fun j hj => by rw [Nat.zero_add]; exact RL.out.cell j (by rw [HL.out]; exact hj)) (by omega)).mono ?_
          rintro e w5 ⟨⟨n1, x1, o1⟩, rfl, g1, hB5⟩
          have RH5 : Hd (Row w5 r2 (highF bs)) := ⟨RH.out.below hB5⟩
          have B5 : Hd (Below w.heap.size w w5) := ⟨Below.next BZ.out hB5⟩
          have F1 : Hd (o1 = gotB (lowF bs)) := ⟨gotAt_flag g1 (by rw [HL.out]; omega)⟩
          clear g1 hB5 RL RH BZ
          go_wp2_with fail
          refine (specGetSign_any r2 0 (len + m) d2 (highF bs) 0 _ HH.out (by omega) (fun j hj => by rw [Nat.zero_add]; exact RH5.out.cell j (by rw [HH.out]; exact hj)) (by omega)).mono ?_
          rintro e w6 ⟨⟨n2, x2, o2⟩, rfl, g2, hB6⟩
          have B6 : Hd (Below w.heap.size w w6) := ⟨Below.next B5.out hB6⟩
          have F2 : Hd ((o1 && o2) = begU bs) := ⟨by have F3 : o2 = gotB (highF bs) := gotAt_flag g2 (by rw [HH.out]; omega)
                                                     rw [F1.out, F3]; exact UB.out⟩
          clear g2 hB6 RH5 B5 F1
          cases o1
          · go_wp2_with fail
            go_ret
            exact ⟨ret_bool (by rw [← F2.out]; rfl), B6.out⟩
          · go_wp2_with fail
            go_ret
            exact ⟨ret_bool (by rw [← F2.out]; rfl), B6.out⟩
        · have hL1 : ((len : Int) == 1) = false := by simp; omega
          have RL : Hd (Row wr r1 (lowF bs)) := ⟨by
            have e : lowF bs = fill bs 128 := by unfold lowF; rw [if_neg (by rw [Hn.out]; exact h1)]
            rw [e]; exact RA.out⟩
          have RH : Hd (Row wr r2 (highF bs)) := ⟨by
            have e : highF bs = fill bs 191 := by unfold highF; rw [if_neg (by rw [Hn.out]; exact h1)]
            rw [e]; exact RB.out⟩
          have BZ : Hd (Below w.heap.size w wr) := ⟨BW.out⟩
          clear RA RB BW HP h1 HC
          go_wp2_with fail
          refine (specGetSign_any r1 0 (len + m) d1 (lowF bs) 0 _ HL.out (by omega) (fun j hj => by rw [Nat.zero_add]; exact RL.out.cell j (by rw [HL.out]; exact hj)) (by omega)).mono ?_
          rintro e w5 ⟨⟨n1, x1, o1⟩, rfl, g1, hB5⟩
          have RH5 : Hd (Row w5 r2 (highF bs)) := ⟨RH.out.below hB5⟩
          have B5 : Hd (Below w.heap.size w w5) := ⟨Below.next BZ.out hB5⟩
          have F1 : Hd (o1 = gotB (lowF bs)) := ⟨gotAt_flag g1 (by rw [HL.out]; omega)⟩
          clear g1 hB5 RL RH BZ
          go_wp2_with fail
          refine (specGetSign_any r2 0 (len + m) d2 (highF bs) 0 _ HH.out (by omega) (fun j hj => by rw [Nat.zero_add]; exact RH5.out.cell j (by rw [HH.out]; exact hj)) (by omega)).mono ?_
          rintro e w6 ⟨⟨n2, x2, o2⟩, rfl, g2, hB6⟩
          have B6 : Hd (Below w.heap.size w w6) := ⟨Below.next B5.out hB6⟩
          have F2 : Hd ((o1 && o2) = begU bs) := ⟨by have F3 : o2 = gotB (highF bs) := gotAt_flag g2 (by rw [HH.out]; omega)
                                                     rw [F1.out, F3]; exact UB.out⟩
          clear g2 hB6 RH5 B5 F1
          cases o1
          · go_wp2_with fail
            go_ret
            exact ⟨ret_bool (by rw [← F2.out]; rfl), B6.out⟩
          · go_wp2_with fail
            go_ret
            exact ⟨ret_bool (by rw [← F2.out]; rfl), B6.out⟩

set_option maxHeartbeats 400000 in
theorem l6Utf_none (ao : Option Addr) (cap : Nat) (w : World) : Calls Tryd.prog 58 #[.slice ao 0 cap] w fun e w' => e = .returned (.bool false) ∧ w = w' := by
  go_enter Tryd.func58, Tryd.ntmps58
  go_wp2_with fail
  go_ret
  exact ⟨rfl, rfl⟩

end Go.Proofs.YtjbideiifoadkaaDoor
