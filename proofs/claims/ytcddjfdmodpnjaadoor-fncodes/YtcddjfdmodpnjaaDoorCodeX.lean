/- Contracts of writeAll, Encode, EncodeLossy and Fits, in the program. -/
import Derived.Test.YtcddjfdmodpnjaaDoorCodeW
import Derived.Test.YtcddjfdmodpnjaaDoorSignsI
namespace Go.Proofs.YtcddjfdmodpnjaaDoor
open Go.RowKit

theorem WAt.fits {w : World} {cs : Int} {l : List Int} {k q c n lost : Nat} {wr : World} (h : WAt w cs l k q c n lost wr) : n ≤ 4 * k ∧ lost ≤ k ∧ k ≤ l.length ∧ q < wr.heap.size := by
  obtain ⟨bs, h1, h2, _, h4, _⟩ := h.out
  have := h2.size
  exact ⟨by omega, by omega, h2.le, h4.lt⟩
theorem WAt.bel {w : World} {cs : Int} {l : List Int} {k q c n lost : Nat} {wr : World} (h : WAt w cs l k q c n lost wr) : Below w.heap.size w wr := by
  obtain ⟨bs, _, _, _, _, h5⟩ := h.out; exact h5
theorem WAt.owns {w : World} {cs : Int} {l : List Int} {k q c n lost : Nat} {wr wx : World} (h : WAt w cs l k q c n lost wr) (hb : Below wr.heap.size wr wx) : wx.ownsRow w.heap.size 5 1 (.slice (some ⟨q, 0, none⟩) n c) n ((writeB cs (l.take k)).map cb) := by
  obtain ⟨bs, h1, h2, h3, h4, _⟩ := h.out
  have e : bs = writeB cs (l.take k) := h2.text
  rw [← e]
  exact (h4.below hb).owns h1 h3

set_option maxHeartbeats 1000000 in
theorem writeAll_any (cs : Int) (lb L lc : Nat) (l : List Int) (w : World) (hL : L ≤ 1048576) (S : Hd (SignsLie w lb L l)) (T : Hd (AllAt w)) :
    Calls Tryd.prog 43 #[setV cs, .slice (some ⟨lb, 0, none⟩) L lc] w (WriteOut w cs l) := by
  obtain ⟨i0, hi, hz0, hz1, hz2⟩ := info_parts info8
  generalize hsv : setV cs = sv
  have HSV : Hd (setV cs = sv) := ⟨hsv⟩
  clear hsv
  go_enter Tryd.func43, Tryd.ntmps43
  go_wp2_with (at_make; refine wpList_make_both _ rfl _ _ 22 rfl 5 i0 (.int .u8 0) Tryd.underlying22 hi hz0 hz1 _ _ _ _ 0 L rfl rfl rfl ?C ?nm ?b2 ?b3 ?_)
  case C => rfl
  case nm => omega
  case b2 => rw [hz2]; omega
  case b3 => unfold maxLen; omega
  have W0 : Hd (WAt w cs l 0 w.heap.size L 0 0 (w.alloc (.cells (madeCells #[.int .u8 0] L) 5))) := ⟨wAt_zero w cs l L (by unfold maxLen; omega)⟩
  go_wp2_with fail
  go_loopw [6, 7, 17] (fun v m i wr => ∃ (k q c n lost : Nat), i = .int .i64 k ∧ v = .slice (some ⟨q, 0, none⟩) n c ∧ m = .int .i64 lost ∧ Hd (WAt w cs l k q c n lost wr)) (fun _ _ i _ => L - (intOf i).toNat)
  case atStart => exact ⟨0, w.heap.size, L, 0, 0, rfl, rfl, rfl, W0⟩
  case round =>
    clear W0
    obtain ⟨k, q, c, n, lost, rfl, rfl, rfl, WA⟩ := hrel
    obtain ⟨f1, f2, f3, f4⟩ := WA.out.fits
    have f5 := S.out.size
    by_cases hlt : k < L
    · have hkI : (k : Int) < (L : Int) := by omega
      have hcr : wr.cell? ⟨lb, k, none⟩ = some (.int .i64 (l.getD k 0)) := by
        have := cell_below (S.out.cell k hlt) WA.out.bel
        rwa [Nat.zero_add] at this
      obtain ⟨z, hz⟩ : ∃ z, l.getD k 0 = z := ⟨_, rfl⟩
      rw [hz] at hcr
      have HZ : Hd (l.getD k 0 = z) := ⟨hz⟩
      have HS : Hd (isSign z) := ⟨S.out.sg z (by rw [← hz, show l.getD k 0 = l[k]'(by omega) from by simp [List.getD, List.getElem?_eq_getElem (show k < l.length by omega)]]; exact List.getElem_mem _)⟩
      have HK : Hd (k < l.length) := ⟨by omega⟩
      have F : Hd (n ≤ 4194304 ∧ lost ≤ 1048576) := ⟨by omega⟩
      have g2 : lost ≤ 1048576 := by omega
      clear hz f1 f2 f3 f4 f5
      go_wp2_with fail
      rewrite [← HSV.out]
      refine (bytesOf_any cs z _ HS.out ⟨T.out.below WA.out.bel⟩).mono ?_
      rintro e w1 ⟨v1, rfl, hv1, hB1⟩
      rewrite [HSV.out]
      have B1 : Hd (Below wr.heap.size wr w1) := ⟨hB1⟩
      cases hp : putOk cs z with
      | true =>
        obtain ⟨g, c1, rfl, hO1⟩ := hv1 hp
        have O1 : Hd (Own w1 g c1 (putB cs z)) := ⟨hO1⟩
        have HW : Hd (putB cs z = oneW cs z) := ⟨by unfold oneW; rw [if_pos hp]⟩
        have HP : Hd ((if putOk cs z = true then 0 else 1) = 0) := ⟨if_pos hp⟩
        obtain ⟨m, hm⟩ : ∃ m, (putB cs z).length = m := ⟨_, rfl⟩
        have HM : Hd ((putB cs z).length = m ∧ m ≤ 4) := ⟨hm, by rw [← hm]; exact put_len cs z⟩
        rw [hm]
        clear hv1 hO1 hp hB1 hm
        go_wp2_with (at_builtin; refine wpList_append_own _ rfl (.tmp 32) (.tmp 33) 22 rfl w.heap.size 5 i0 (.int .u8 0) 1 1 Tryd.underlying22 hi hz0 hz1 hz2 rfl (by decide) _ n ((writeB cs (l.take k)).map cb) rfl ?hown ⟨g, 0, none⟩ m c1 ((putB cs z).map cb) rfl ?hl ?hn ?h1 ?h63 ?hby ?hbase ?_)
        case hown => exact WA.out.owns B1.out
        case hl => rw [List.length_map, HM.out.1, Nat.mul_one]
        case hn => exact map_cb_cell HM.out.1 (O1.out.cell HM.out.1)
        case h1 => exact one_cb _
        case h63 => have := HM.out.2; have := F.out; unfold maxLen; omega
        case hby => have := HM.out.2; have := F.out; omega
        case hbase => have := WA.out.bel.size; have := B1.out.size; omega
        intro v2 w2 hown2 hgr2 hne2
        obtain ⟨q2, c2, hv2, hW2⟩ := wAt_next WA.out HK.out HZ.out HW.out HM.out.1 B1.out (by rw [List.map_append]; exact hown2) hgr2 (by intro h; have := hne2 h; simp at this)
        rw [HP.out, Nat.add_zero] at hW2
        have W2 : Hd (WAt w cs l (k + 1) q2 c2 (n + m) lost w2) := ⟨hW2⟩
        rw [hv2]
        clear hown2 hgr2 hne2 hW2 WA HM O1 hv2
        go_wp2_with fail
        go_roundw
        case rel => exact ⟨k + 1, q2, c2, n + m, lost, by go_num, rfl, rfl, W2⟩
        case measure => simp [intOf]; omega
      | false =>
        have HW : Hd ([63] = oneW cs z) := ⟨by unfold oneW; rw [hp]; rfl⟩
        have HP : Hd ((if putOk cs z = true then 0 else 1) = 1) := ⟨by rw [hp]; rfl⟩
        clear hv1 hp hB1
        go_wp2_with (at_builtin; refine wpList_append_own _ rfl (.tmp 32) (.tmp 33) 22 rfl w.heap.size 5 i0 (.int .u8 0) 1 1 Tryd.underlying22 hi hz0 hz1 hz2 rfl (by decide) _ n ((writeB cs (l.take k)).map cb) rfl ?hown ⟨w1.heap.size, 0, none⟩ 1 1 (([63] : List UInt8).map cb) rfl ?hl ?hn ?h1 ?h63 ?hby ?hbase ?_)
        case hown => exact (WA.out.owns B1.out).alloc _
        case hl => rfl
        case hn => exact built_cells w1 _ _ _ rfl
        case h1 => exact one_cb _
        case h63 => have := F.out; unfold maxLen; omega
        case hby => have := F.out; omega
        case hbase => have := WA.out.bel.size; have := B1.out.size; simp; omega
        intro v2 w2 hown2 hgr2 hne2
        obtain ⟨q2, c2, hv2, hW2⟩ := wAt_next WA.out HK.out HZ.out HW.out rfl (Below.next B1.out (below_lit _ _)) (by rw [List.map_append]; exact hown2) hgr2 (by intro h; have := hne2 h; simp at this)
        rw [HP.out] at hW2
        have W2 : Hd (WAt w cs l (k + 1) q2 c2 (n + 1) (lost + 1) w2) := ⟨hW2⟩
        rw [hv2]
        clear hown2 hgr2 hne2 hW2 WA hv2
        go_wp2_with fail
        go_roundw
        case rel => exact ⟨k + 1, q2, c2, n + 1, lost + 1, by go_num, rfl, by go_num, W2⟩
        case measure => simp [intOf]; omega
    · have hkI : ¬ (k : Int) < (L : Int) := by omega
      obtain ⟨bs, h1, h2, h3, h4, h5⟩ := WA.out.out
      obtain ⟨e1, e2⟩ := writeAt_end h2 (by omega)
      have R : Hd (n = (writeB cs l).length ∧ lost = lostW cs l ∧ w.heap.size ≤ q ∧ Own wr q c (writeB cs l) ∧ Below w.heap.size w wr) := ⟨by rw [← e1]; exact ⟨h1.symm, e2, h3, h4, h5⟩⟩
      clear h1 h2 h3 h4 h5 e1 e2 WA f1 f2 f3 f4 f5
      go_wp2_with fail
      go_ret2
      obtain ⟨r1, r2, r3, r4, r5⟩ := R.out
      exact ⟨q, c, by rw [← r1, ← r2]; rfl, r3, r4, r5⟩

theorem own_none (w : World) : Own (w.alloc (.cells #[] 5)) w.heap.size 0 [] := ⟨#[], heap_alloc_new w _, by simp, Nat.zero_le _, rfl, by simp⟩

/-- Bytes and a flag; bytes and a number; in new memory. -/
structure EncOut (w : World) (bs : List UInt8) (ok : Bool) (e : Ending) (w' : World) : Prop where
  out : ∃ g c, e = .returned (.tuple #[.slice (some ⟨g, 0, none⟩) bs.length c, .bool ok]) ∧ w.heap.size ≤ g ∧ Own w' g c bs ∧ Below w.heap.size w w'
structure EncLOut (w : World) (bs : List UInt8) (n : Nat) (e : Ending) (w' : World) : Prop where
  out : ∃ g c, e = .returned (.tuple #[.slice (some ⟨g, 0, none⟩) bs.length c, .int .i64 (n : Int)]) ∧ w.heap.size ≤ g ∧ Own w' g c bs ∧ Below w.heap.size w w'

theorem enc_out {cs : Int} {t : List UInt8} (h : encIn cs t = false) : encOk cs t = false ∧ encS cs t = [] ∧ encLS cs t = [] ∧ encLN cs t = 0 := by
  have h1 : encOk cs t = false := by unfold encOk; rw [h]; rfl
  exact ⟨h1, by unfold encS; rw [h1]; rfl, by unfold encLS; rw [h]; rfl, by unfold encLN; rw [h]; rfl⟩
theorem enc_no {cs : Int} {t : List UInt8} (hw : lostW cs (signsOf t) ≠ 0) : encOk cs t = false ∧ encS cs t = [] := by
  have h1 : encOk cs t = false := by unfold encOk; rw [decide_eq_false hw]; simp
  exact ⟨h1, by unfold encS; rw [h1]; rfl⟩
theorem enc_yes {cs : Int} {t : List UInt8} (h : encIn cs t = true) (hw : lostW cs (signsOf t) = 0) : encOk cs t = true ∧ encS cs t = writeB cs (signsOf t) := by
  have h1 : encOk cs t = true := by unfold encOk; rw [h, decide_eq_true hw]; rfl
  exact ⟨h1, by unfold encS; rw [if_pos h1]⟩
theorem enc_lin {cs : Int} {t : List UInt8} (h : encIn cs t = true) : encLS cs t = writeB cs (signsOf t) ∧ encLN cs t = lostW cs (signsOf t) :=
  ⟨if_pos h, if_pos h⟩
theorem encIn_t {cs : Int} {t : List UInt8} (hc : inB cs 0 5 = true) (h : lostI (itemsOf 0 t) = 0) : encIn cs t = true := by unfold encIn; rw [hc, decide_eq_true h]; rfl
theorem encIn_f {cs : Int} {t : List UInt8} (h : lostI (itemsOf 0 t) ≠ 0) : encIn cs t = false := by unfold encIn; rw [decide_eq_false h]; simp
theorem encIn_c {cs : Int} {t : List UInt8} (h : inB cs 0 5 = false) : encIn cs t = false := by unfold encIn; rw [h]; rfl
theorem size_list (s : ByteArray) : s.data.toList.length = s.size := by rw [Array.length_toList]; rfl

theorem signsOf_len (t : List UInt8) (h : lostI (itemsOf 0 t) = 0) : (signsOf t).length ≤ t.length := by
  obtain ⟨l, _, sg⟩ := items_signed h
  rw [signsOf_signed sg]
  exact signsAre_len (.inl ⟨rfl, sg⟩)
theorem encLS_len (cs : Int) (s : ByteArray) (hs : s.size ≤ 1048576) : (encLS cs s.data.toList).length ≤ 4194304 := by
  unfold encLS
  split
  · rename_i h
    simp only [encIn, Bool.and_eq_true, decide_eq_true_eq] at h
    have h1 := writeB_len cs (signsOf s.data.toList)
    have h2 := signsOf_len _ h.2
    rw [size_list] at h2
    omega
  · simp
theorem encS_len (cs : Int) (s : ByteArray) (hs : s.size ≤ 1048576) : (encS cs s.data.toList).length ≤ 4194304 := by
  cases h : encOk cs s.data.toList
  · unfold encS; rw [h]; simp
  · rw [← (enc_lossy h).2]; exact encLS_len cs s hs

set_option maxHeartbeats 1000000 in
theorem implEncode_any (cs : Int) (s : ByteArray) (w : World) (hs : s.size ≤ 1048576) (T : Hd (AllAt w)) :
    Calls Tryd.prog 14 #[.int .i64 cs, .string s] w (EncOut w (encS cs s.data.toList) (encOk cs s.data.toList)) := by
  generalize ht : s.data.toList = t
  have Ht : Hd (s.data.toList = t) := ⟨ht⟩
  have Hlt : Hd (t.length = s.size) := ⟨by rw [← ht, size_list]⟩
  clear ht
  cases hc : inB cs 0 5 with
  | false =>
    have hcs : ¬ (0 ≤ cs ∧ cs ≤ 5) := of_decide_eq_false hc
    obtain ⟨e1, e2, _, _⟩ := enc_out (encIn_c (t := t) hc)
    rw [e1, e2]
    clear e1 e2 hc
    go_enter Tryd.func14, Tryd.ntmps14
    go_wp2_with fail
    refine (setOf_no cs _ hcs).mono ?_
    rintro e w1 ⟨rfl, hw1⟩
    replace hw1 := hw1.symm
    subst hw1
    go_wp2_with fail
    refine (implSigns_any s _ (by omega)).mono ?_
    rintro e w2 ⟨g, c, l, ok, rfl, _, _, _, hB⟩
    have HB : Hd (Below w.heap.size w w2) := ⟨hB⟩
    clear hB hcs
    generalize l.length = L at *
    go_wp2_with fail
    go_ret2
    exact ⟨w2.heap.size, 0, rfl, HB.out.size, own_none w2, Below.next HB.out (below_lit _ _)⟩
  | true =>
    have hcs := in_cs hc
    have HC : Hd (inB cs 0 5 = true) := ⟨hc⟩
    clear hc
    go_enter Tryd.func14, Tryd.ntmps14
    go_wp2_with fail
    refine (setOf_yes cs _ hcs).mono ?_
    rintro e w1 ⟨rfl, hw1⟩
    replace hw1 := hw1.symm
    subst hw1
    generalize hsv : setV cs = sv
    have HSV : Hd (setV cs = sv) := ⟨hsv⟩
    clear hsv
    go_wp2_with fail
    refine (implSigns_any s _ (by omega)).mono ?_
    rintro e w2 ⟨g, c, l, ok, rfl, hA, hg, hO, hB⟩
    have HB : Hd (Below w.heap.size w w2) := ⟨hB⟩
    rw [Ht.out] at hA
    rcases signsAre_items hA with ⟨rfl, sg, li, so⟩ | ⟨rfl, rfl, li⟩
    · have hl := signsAre_len hA
      have Hin := encIn_t HC.out li
      obtain ⟨L, hL⟩ : ∃ L, l.length = L := ⟨_, rfl⟩
      have SL : Hd (SignsLie w2 g L l) := ⟨⟨hL, sg.1, hO.cell hL⟩⟩
      have LL : L ≤ 1048576 := by rw [Hlt.out] at hl; omega
      have SO : Hd (signsOf t = l) := ⟨so⟩
      have HI : Hd (encIn cs t = true) := ⟨Hin⟩
      rewrite [hL]
      clear hA sg li so hl Hin hL hO hB hg hcs
      go_wp2_with fail
      rewrite [← HSV.out]
      refine (writeAll_any cs g L c l _ LL SL ⟨T.out.below HB.out⟩).mono ?_
      rintro e w3 ⟨g3, c3, rfl, hg3, hO3, hB3⟩
      have HB3 : Hd (Below w.heap.size w w3) := ⟨Below.next HB.out hB3⟩
      have Hg3 : Hd (w.heap.size ≤ g3) := ⟨by have := HB.out.size; omega⟩
      have HO3 : Hd (Own w3 g3 c3 (writeB cs l)) := ⟨hO3⟩
      generalize hln : (writeB cs l).length = ln at *
      have HL : Hd ((writeB cs l).length = ln) := ⟨hln⟩
      clear hg3 hO3 hB3 hln
      by_cases hz : lostW cs l = 0
      · obtain ⟨y1, y2⟩ := enc_yes HI.out (by rw [SO.out]; exact hz)
        rw [SO.out] at y2
        have Y : Hd (encOk cs t = true ∧ encS cs t = writeB cs l) := ⟨y1, y2⟩
        rewrite [hz]
        clear y1 y2 hz
        go_wp2_with fail
        go_ret2
        exact ⟨g3, c3, by rw [Y.out.1, Y.out.2, HL.out]; rfl, Hg3.out, by rw [Y.out.2]; exact HO3.out, HB3.out⟩
      · obtain ⟨y1, y2⟩ := enc_no (by rw [SO.out]; exact hz)
        have Y : Hd (encOk cs t = false ∧ encS cs t = []) := ⟨y1, y2⟩
        have hz1 : (0 : Int) < (lostW cs l : Int) := by omega
        generalize lostW cs l = lw at *
        clear y1 y2 hz
        go_wp2_with fail
        go_ret2
        exact ⟨w3.heap.size, 0, by rw [Y.out.1, Y.out.2]; rfl, HB3.out.size, by rw [Y.out.2]; exact own_none w3, Below.next HB3.out (below_lit _ _)⟩
    · obtain ⟨y1, y2, _, _⟩ := enc_out (encIn_f (cs := cs) li)
      have Y : Hd (encOk cs t = false ∧ encS cs t = []) := ⟨y1, y2⟩
      clear y1 y2 li hA hO hB hg hcs
      go_wp2_with fail
      go_ret2
      exact ⟨w2.heap.size, 0, by rw [Y.out.1, Y.out.2]; rfl, HB.out.size, by rw [Y.out.2]; exact own_none w2, Below.next HB.out (below_lit _ _)⟩

set_option maxHeartbeats 1000000 in
theorem implEncodeLossy_any (cs : Int) (s : ByteArray) (w : World) (hs : s.size ≤ 1048576) (T : Hd (AllAt w)) :
    Calls Tryd.prog 24 #[.int .i64 cs, .string s] w (EncLOut w (encLS cs s.data.toList) (encLN cs s.data.toList)) := by
  generalize ht : s.data.toList = t
  have Ht : Hd (s.data.toList = t) := ⟨ht⟩
  have Hlt : Hd (t.length = s.size) := ⟨by rw [← ht, size_list]⟩
  clear ht
  cases hc : inB cs 0 5 with
  | false =>
    have hcs : ¬ (0 ≤ cs ∧ cs ≤ 5) := of_decide_eq_false hc
    obtain ⟨_, _, e1, e2⟩ := enc_out (encIn_c (t := t) hc)
    rw [e1, e2]
    clear e1 e2 hc
    go_enter Tryd.func24, Tryd.ntmps24
    go_wp2_with fail
    refine (setOf_no cs _ hcs).mono ?_
    rintro e w1 ⟨rfl, hw1⟩
    replace hw1 := hw1.symm
    subst hw1
    go_wp2_with fail
    refine (implSigns_any s _ (by omega)).mono ?_
    rintro e w2 ⟨g, c, l, ok, rfl, _, _, _, hB⟩
    have HB : Hd (Below w.heap.size w w2) := ⟨hB⟩
    clear hB hcs
    generalize l.length = L at *
    go_wp2_with fail
    go_ret2
    exact ⟨w2.heap.size, 0, rfl, HB.out.size, own_none w2, Below.next HB.out (below_lit _ _)⟩
  | true =>
    have hcs := in_cs hc
    have HC : Hd (inB cs 0 5 = true) := ⟨hc⟩
    clear hc
    go_enter Tryd.func24, Tryd.ntmps24
    go_wp2_with fail
    refine (setOf_yes cs _ hcs).mono ?_
    rintro e w1 ⟨rfl, hw1⟩
    replace hw1 := hw1.symm
    subst hw1
    generalize hsv : setV cs = sv
    have HSV : Hd (setV cs = sv) := ⟨hsv⟩
    clear hsv
    go_wp2_with fail
    refine (implSigns_any s _ (by omega)).mono ?_
    rintro e w2 ⟨g, c, l, ok, rfl, hA, hg, hO, hB⟩
    have HB : Hd (Below w.heap.size w w2) := ⟨hB⟩
    rw [Ht.out] at hA
    rcases signsAre_items hA with ⟨rfl, sg, li, so⟩ | ⟨rfl, rfl, li⟩
    · have hl := signsAre_len hA
      have Hin := enc_lin (encIn_t HC.out li)
      rw [so] at Hin
      obtain ⟨L, hL⟩ : ∃ L, l.length = L := ⟨_, rfl⟩
      have SL : Hd (SignsLie w2 g L l) := ⟨⟨hL, sg.1, hO.cell hL⟩⟩
      have LL : L ≤ 1048576 := by rw [Hlt.out] at hl; omega
      have HI : Hd (encLS cs t = writeB cs l ∧ encLN cs t = lostW cs l) := ⟨Hin⟩
      rewrite [hL]
      clear hA sg li so hl Hin hL hO hB hg hcs
      go_wp2_with fail
      rewrite [← HSV.out]
      refine (writeAll_any cs g L c l _ LL SL ⟨T.out.below HB.out⟩).mono ?_
      rintro e w3 ⟨g3, c3, rfl, hg3, hO3, hB3⟩
      have HB3 : Hd (Below w.heap.size w w3) := ⟨Below.next HB.out hB3⟩
      have Hg3 : Hd (w.heap.size ≤ g3) := ⟨by have := HB.out.size; omega⟩
      have HO3 : Hd (Own w3 g3 c3 (writeB cs l)) := ⟨hO3⟩
      generalize hln : (writeB cs l).length = ln at *
      generalize hlw : lostW cs l = lw at *
      have HL : Hd ((writeB cs l).length = ln) := ⟨hln⟩
      clear hg3 hO3 hB3 hln hlw
      go_wp2_with fail
      go_ret2
      exact ⟨g3, c3, by rw [HI.out.1, HI.out.2, HL.out]; rfl, Hg3.out, by rw [HI.out.1]; exact HO3.out, HB3.out⟩
    · obtain ⟨_, _, y1, y2⟩ := enc_out (encIn_f (cs := cs) li)
      have Y : Hd (encLS cs t = [] ∧ encLN cs t = 0) := ⟨y1, y2⟩
      clear y1 y2 li hA hO hB hg hcs
      go_wp2_with fail
      go_ret2
      exact ⟨w2.heap.size, 0, by rw [Y.out.1, Y.out.2]; rfl, HB.out.size, by rw [Y.out.1]; exact own_none w2, Below.next HB.out (below_lit _ _)⟩

set_option maxHeartbeats 400000 in
theorem implFits_any (cs : Int) (s : ByteArray) (w : World) (hs : s.size ≤ 1048576) (T : Hd (AllAt w)) :
    Calls Tryd.prog 17 #[.int .i64 cs, .string s] w fun e w' => e = .returned (.bool (encOk cs s.data.toList)) ∧ Below w.heap.size w w' := by
  go_enter Tryd.func17, Tryd.ntmps17
  go_wp2_with fail
  refine (implEncode_any cs s _ hs T).mono ?_
  rintro e w1 ⟨g, c, rfl, _, _, hB⟩
  have HB : Hd (Below w.heap.size w w1) := ⟨hB⟩
  obtain ⟨ok, hok⟩ : ∃ ok, encOk cs s.data.toList = ok := ⟨_, rfl⟩
  have HK : Hd (ok = encOk cs s.data.toList) := ⟨hok.symm⟩
  rewrite [hok]
  generalize (encS cs s.data.toList).length = ln at *
  clear hB hok
  go_wp2_with fail
  go_ret
  exact ⟨ret_bool HK.out, HB.out⟩

end Go.Proofs.YtcddjfdmodpnjaaDoor
