/- Contracts of the specification's l5Put, Encode, EncodeLossy and Fits. -/
import Derived.Test.YtcddjfdmodpnjaaDoorCodeS
import Derived.Test.YtcddjfdmodpnjaaDoorSignsS
namespace Go.Proofs.YtcddjfdmodpnjaaDoor
open Go.RowKit

theorem put_euc (n : Int) : putB 5 n = eucB n ∧ putOk 5 n = eucOk n := by
  unfold putB putOk
  rw [if_neg (by omega), if_pos rfl, if_neg (by omega), if_pos rfl]
  exact ⟨rfl, rfl⟩
theorem put_byte {cs n : Int} (h0 : cs ≠ 0) (h5 : cs ≠ 5) : putB cs n = (if sbOk cs n = true then [bt (sbN cs n).toNat] else []) ∧ putOk cs n = sbOk cs n := by
  unfold putB putOk
  rw [if_neg h0, if_neg h5, if_neg h0, if_neg h5]
  exact ⟨rfl, rfl⟩

set_option maxHeartbeats 400000 in
theorem l5Put_0 (b off len cap : Nat) (bs : List UInt8) (n : Int) (w : World) (hn : bs.length = len) (hc : ∀ j, j < len → w.cell? ⟨b, off + j, none⟩ = some (.int .u8 ((bs.getD j 0).toNat : Int))) (hb : b < w.heap.size) (hl : len ≤ 1073741824) :
    Calls Tryd.prog 45 #[.int .i64 0, .slice (some ⟨b, off, none⟩) len cap, .int .i64 n] w (EncOut w (bs ++ putB 0 n) (putOk 0 n)) := by
  have Hn : Hd (bs.length = len) := ⟨hn⟩
  have Hc : Hd (∀ j, j < len → w.cell? ⟨b, off + j, none⟩ = some (.int .u8 ((bs.getD j 0).toNat : Int))) := ⟨hc⟩
  clear hn hc
  rw [put_utf, putOk_utf]
  go_enter Tryd.func45, Tryd.ntmps45
  go_wp2_with fail
  refine (specPutSign_some b off len cap bs n _ Hn.out Hc.out hb hl).mono ?_
  rintro e w1 ⟨g, c, rfl, hg, hO, hB⟩
  have HO : Hd (Own w1 g c (bs ++ signB n)) := ⟨hO⟩
  have HB : Hd (Below w.heap.size w w1) := ⟨hB⟩
  have HG : Hd (w.heap.size ≤ g) := ⟨hg⟩
  obtain ⟨ln, hln⟩ : ∃ ln, (bs ++ signB n).length = ln := ⟨_, rfl⟩
  have HL : Hd ((bs ++ signB n).length = ln) := ⟨hln⟩
  rewrite [hln]
  clear hO hB hg hln Hc
  go_wp2_with fail
  refine (specSignOk_any n _).mono ?_
  rintro e w2 ⟨rfl, hw⟩
  replace hw := hw.symm
  subst hw
  obtain ⟨ok, hok⟩ : ∃ ok, signOkB n = ok := ⟨_, rfl⟩
  have HK : Hd (signOkB n = ok) := ⟨hok⟩
  rewrite [hok]
  clear hok
  go_wp2_with fail
  go_ret2
  exact ⟨g, c, by rw [HL.out, HK.out]; rfl, HG.out, HO.out, HB.out⟩

set_option maxHeartbeats 400000 in
theorem l5Put_5 (b off len cap : Nat) (bs : List UInt8) (n : Int) (w : World) (hn : bs.length = len) (hc : ∀ j, j < len → w.cell? ⟨b, off + j, none⟩ = some (.int .u8 ((bs.getD j 0).toNat : Int))) (hb : b < w.heap.size) (hl : len ≤ 1073741824) :
    Calls Tryd.prog 45 #[.int .i64 5, .slice (some ⟨b, off, none⟩) len cap, .int .i64 n] w (EncOut w (bs ++ putB 5 n) (putOk 5 n)) := by
  have Hn : Hd (bs.length = len) := ⟨hn⟩
  have Hc : Hd (∀ j, j < len → w.cell? ⟨b, off + j, none⟩ = some (.int .u8 ((bs.getD j 0).toNat : Int))) := ⟨hc⟩
  clear hn hc
  rw [(put_euc n).1, (put_euc n).2]
  go_enter Tryd.func45, Tryd.ntmps45
  go_wp2_with fail
  refine (specPutEuc_any b off len cap bs n _ Hn.out Hc.out hb hl).mono ?_
  rintro e w1 ⟨g, c, rfl, hg, hO, hB⟩
  have HO : Hd (Own w1 g c (bs ++ eucB n)) := ⟨hO⟩
  have HB : Hd (Below w.heap.size w w1) := ⟨hB⟩
  have HG : Hd (w.heap.size ≤ g) := ⟨hg⟩
  obtain ⟨ln, hln⟩ : ∃ ln, (bs ++ eucB n).length = ln := ⟨_, rfl⟩
  have HL : Hd ((bs ++ eucB n).length = ln) := ⟨hln⟩
  obtain ⟨ok, hok⟩ : ∃ ok, eucOk n = ok := ⟨_, rfl⟩
  have HK : Hd (eucOk n = ok) := ⟨hok⟩
  rewrite [hln, hok]
  clear hO hB hg hln Hc hok
  go_wp2_with fail
  go_ret2
  exact ⟨g, c, by rw [HL.out, HK.out]; rfl, HG.out, HO.out, HB.out⟩

set_option maxHeartbeats 1000000 in
theorem l5Put_b (cs : Int) (b off len cap : Nat) (bs : List UInt8) (n : Int) (w : World) (h0 : cs ≠ 0) (h5 : cs ≠ 5) (hn : bs.length = len) (hc : ∀ j, j < len → w.cell? ⟨b, off + j, none⟩ = some (.int .u8 ((bs.getD j 0).toNat : Int))) (hb : b < w.heap.size) (hl : len ≤ 1073741824) :
    Calls Tryd.prog 45 #[.int .i64 cs, .slice (some ⟨b, off, none⟩) len cap, .int .i64 n] w (EncOut w (bs ++ putB cs n) (putOk cs n)) := by
  obtain ⟨i0, hi, hz0, hz1, hz2⟩ := info_parts info8
  have Hn : Hd (bs.length = len) := ⟨hn⟩
  have Hc : Hd (∀ j, j < len → w.cell? ⟨b, off + j, none⟩ = some (.int .u8 ((bs.getD j 0).toNat : Int))) := ⟨hc⟩
  rw [(put_byte h0 h5).1, (put_byte h0 h5).2]
  have e0 : (cs == 0) = false := by simpa using h0
  have e5 : (cs == 5) = false := by simpa using h5
  clear hn hc h0 h5
  cases hok : sbOk cs n with
  | false =>
    have HK : Hd (sbOk cs n = false) := ⟨hok⟩
    simp only [Bool.false_eq_true, if_false, List.append_nil]
    clear hok
    go_enter Tryd.func45, Tryd.ntmps45
    go_wp2_with fail
    refine (specSignByte_any cs n _).mono ?_
    rintro e w1 ⟨rfl, hB⟩
    have HB : Hd (Below w.heap.size w w1) := ⟨hB⟩
    have hb1 : b < w1.heap.size := by have := hB.size; omega
    rewrite [HK.out]
    generalize sbN cs n = x
    clear hB
    go_wp2_with (at_builtin; refine wpList_append_own _ rfl (.tmp 33) (.tmp 34) 22 rfl w1.heap.size 5 i0 (.int .u8 0) 1 1 Tryd.underlying22 hi hz0 hz1 hz2 rfl (by decide) _ 0 [] rfl ?hown ⟨b, off, none⟩ len cap (bs.map cb) rfl ?hl ?hn ?h1 ?h63 ?hby ?hbase ?_)
    case hown => exact World.ownsRow_made w1 #[] 0 (Nat.le_refl _) (by unfold maxLen; omega) rfl
    case hl => simpa using Hn.out
    case hn => exact map_cb_cell Hn.out (fun j hj => cell_below (cell_below (Hc.out j hj) HB.out) (below_lit _ _))
    case h1 => exact one_cb bs
    case h63 => unfold maxLen; omega
    case hby => omega
    case hbase => simp
    intro v1 w2 hown1 hgr1 hne1
    obtain ⟨g1, c1, hv1, hg1, hR1⟩ := own_row hown1 hne1
    have hB1 : Hd (Below w.heap.size w w2) := ⟨Below.next HB.out (((Below.refl _ w1).alloc (Nat.le_refl _) _).grown hgr1 (by simp) (fun k h => by simp [Value.ownBlock] at h; omega))⟩
    have HR1 : Hd (Own w2 g1 c1 bs) := ⟨hR1⟩
    have hg1' : Hd (w.heap.size ≤ g1) := ⟨by have := HB.out.size; omega⟩
    rw [hv1]
    clear hown1 hgr1 hne1 hv1 hR1 hg1 Hc
    go_wp2_with fail
    go_ret2
    exact ⟨g1, c1, by rw [Hn.out]; rfl, hg1'.out, HR1.out, hB1.out⟩
  | true =>
    have HK : Hd (sbOk cs n = true) := ⟨hok⟩
    simp only [if_true]
    obtain ⟨_, _, i3, i4⟩ := ok_in (sb_told hok).1
    clear hok
    obtain ⟨x, hx⟩ : ∃ x, sbN cs n = x := ⟨_, rfl⟩
    have HX : Hd (sbN cs n = x) := ⟨hx⟩
    rw [hx] at i3 i4
    rw [hx]
    clear hx
    have hp : Hd ([.int .u8 (x % 256)] = ([bt x.toNat] : List UInt8).map cb) := ⟨by
      simp only [List.map_cons, List.map_nil]
      rw [← cb_int (x := x % 256) (by rw [bt_val _ (by omega)]; omega)]⟩
    go_enter Tryd.func45, Tryd.ntmps45
    go_wp2_with fail
    refine (specSignByte_any cs n _).mono ?_
    rintro e w1 ⟨rfl, hB⟩
    have HB : Hd (Below w.heap.size w w1) := ⟨hB⟩
    have hb1 : b < w1.heap.size := by have := hB.size; omega
    rewrite [HK.out, HX.out]
    clear hB i3 i4
    go_wp2_with (at_builtin; refine wpList_append_own _ rfl (.tmp 36) (.tmp 37) 22 rfl w1.heap.size 5 i0 (.int .u8 0) 1 1 Tryd.underlying22 hi hz0 hz1 hz2 rfl (by decide) _ 0 [] rfl ?hown ⟨b, off, none⟩ len cap (bs.map cb) rfl ?hl ?hn ?h1 ?h63 ?hby ?hbase ?_)
    case hown => exact World.ownsRow_made w1 #[] 0 (Nat.le_refl _) (by unfold maxLen; omega) rfl
    case hl => simpa using Hn.out
    case hn => exact map_cb_cell Hn.out (fun j hj => cell_below (cell_below (Hc.out j hj) HB.out) (below_lit _ _))
    case h1 => exact one_cb bs
    case h63 => unfold maxLen; omega
    case hby => omega
    case hbase => simp
    intro v1 w2 hown1 hgr1 hne1
    obtain ⟨g1, c1, hv1, hg1, hR1⟩ := own_row hown1 hne1
    have hB1 : Hd (Below w.heap.size w w2) := ⟨Below.next HB.out (((Below.refl _ w1).alloc (Nat.le_refl _) _).grown hgr1 (by simp) (fun k h => by simp [Value.ownBlock] at h; omega))⟩
    have HR1 : Hd (Own w2 g1 c1 bs) := ⟨hR1⟩
    have hg1' : Hd (w.heap.size ≤ g1) := ⟨by have := HB.out.size; omega⟩
    rw [hv1]
    clear hown1 hgr1 hne1 hv1 hR1 hg1 Hc
    have hown : Hd (w2.ownsRow g1 5 1 (.slice (some ⟨g1, 0, none⟩) len c1) len (bs.map cb)) := ⟨HR1.out.owns Hn.out (Nat.le_refl _)⟩
    have hlt : Hd (g1 < w2.heap.size) := ⟨HR1.out.lt⟩
    clear HR1
    go_wp2_with (at_builtin; refine wpList_append_own _ rfl (.tmp 38) (.tmp 41) 22 rfl g1 5 i0 (.int .u8 0) 1 1 Tryd.underlying22 hi hz0 hz1 hz2 rfl (by decide) _ len (bs.map cb) rfl ?hown ⟨w2.heap.size, 0, none⟩ 1 1 (([bt x.toNat] : List UInt8).map cb) rfl ?hl ?hn ?h1 ?h63 ?hby ?hbase ?_)
    case hown => exact hown.out.alloc _
    case hl => rfl
    case hn => exact built_cells w2 _ _ _ hp.out
    case h1 => exact one_cb _
    case h63 => unfold maxLen; omega
    case hby => omega
    case hbase => have := hlt.out; simp; omega
    intro v2 w3 hown2 hgr2 hne2
    rw [show bs.map cb ++ [cb (bt x.toNat)] = (bs ++ [bt x.toNat]).map cb from by simp] at hown2
    obtain ⟨g2, c2, hv2, hg2, hO2⟩ := own_row hown2 (by simpa using hne2)
    have HO : Hd (Own w3 g2 c2 (bs ++ [bt x.toNat])) := ⟨hO2⟩
    have HB2 : Hd (Below w.heap.size w w3) := ⟨hB1.out.grown (grown_of_alloc hgr2) hB1.out.size (fun k h => by simp [Value.ownBlock] at h; have := hg1'.out; omega)⟩
    have hg2' : Hd (w.heap.size ≤ g2) := ⟨Nat.le_trans hg1'.out hg2⟩
    have hlen2 : Hd ((bs ++ [bt x.toNat]).length = len + 1) := ⟨by have := Hn.out; simp; omega⟩
    rw [hv2]
    clear hown2 hgr2 hne2 hv2 hg2 hO2 hown hB1
    go_wp2_with fail
    go_ret2
    exact ⟨g2, c2, by rw [hlen2.out]; rfl, hg2'.out, HO.out, HB2.out⟩

theorem l5Put_any (cs : Int) (b off len cap : Nat) (bs : List UInt8) (n : Int) (w : World) (hn : bs.length = len) (hc : ∀ j, j < len → w.cell? ⟨b, off + j, none⟩ = some (.int .u8 ((bs.getD j 0).toNat : Int))) (hb : b < w.heap.size) (hl : len ≤ 1073741824) :
    Calls Tryd.prog 45 #[.int .i64 cs, .slice (some ⟨b, off, none⟩) len cap, .int .i64 n] w (EncOut w (bs ++ putB cs n) (putOk cs n)) := by
  by_cases h0 : cs = 0
  · subst h0; exact l5Put_0 b off len cap bs n w hn hc hb hl
  by_cases h5 : cs = 5
  · subst h5; exact l5Put_5 b off len cap bs n w hn hc hb hl
  · exact l5Put_b cs b off len cap bs n w h0 h5 hn hc hb hl

theorem wAt_one (w : World) (cs : Int) (l : List Int) : WAt w cs l 0 w.heap.size 0 0 0 (w.alloc (.cells #[] 5)) := ⟨[], rfl, writeAt_zero cs l, Nat.le_refl _, own_none w, below_lit _ _⟩
theorem WAt.below {w : World} {cs : Int} {l m : List Int} {q c : Nat} {wr wx : World} (h : WAt w cs l 0 q c 0 0 wr) (hb : Below wr.heap.size wr wx) : WAt w cs m 0 q c 0 0 wx := by
  obtain ⟨bs, h1, h2, h3, h4, h5⟩ := h.out
  exact ⟨bs, h1, ⟨Nat.zero_le _, h2.text, h2.miss⟩, h3, h4.below hb, Below.next h5 hb⟩
theorem wAt_put {w wr w2 : World} {cs : Int} {l : List Int} {k lost : Nat} {z : Int} {bs : List UInt8} {q' c' m : Nat} (hx : WriteAt cs l k bs lost) (h5 : Below w.heap.size w wr) (hk : k < l.length) (hz : l.getD k 0 = z) (ho : putOk cs z = true)
    (hO : Own w2 q' c' (bs ++ putB cs z)) (hm : (bs ++ putB cs z).length = m) (hq : wr.heap.size ≤ q') (hB : Below wr.heap.size wr w2) : WAt w cs l (k + 1) q' c' m lost w2 := by
  have hn := writeAt_next hx hk hz
  unfold oneW at hn
  rw [if_pos ho, if_pos ho, Nat.add_zero] at hn
  exact ⟨_, hm, hn, by have := h5.size; omega, hO, Below.next h5 hB⟩

set_option maxHeartbeats 1000000 in
theorem specEncode_any (cs : Int) (s : ByteArray) (w : World) (hs : s.size ≤ 1048576) :
    Calls Tryd.prog 15 #[.int .i64 cs, .string s] w (EncOut w (encS cs s.data.toList) (encOk cs s.data.toList)) := by
  generalize ht : s.data.toList = t
  have Ht : Hd (s.data.toList = t) := ⟨ht⟩
  have Hlt : Hd (t.length = s.size) := ⟨by rw [← ht, size_list]⟩
  clear ht
  have W0 : Hd (WAt w cs [] 0 w.heap.size 0 0 0 (w.alloc (.cells #[] 5))) := ⟨wAt_one w cs []⟩
  go_enter Tryd.func15, Tryd.ntmps15
  go_wp2_with fail
  refine (specSigns_any s _ hs).mono ?_
  rintro e w2 ⟨g, cl, l, ok, rfl, hA, hg, hO, hB⟩
  rw [Ht.out] at hA
  have W1 : Hd (WAt w cs l 0 w.heap.size 0 0 0 w2) := ⟨W0.out.below hB⟩
  obtain ⟨L, hL⟩ : ∃ L, l.length = L := ⟨_, rfl⟩
  have hll := signsAre_len hA
  have LL : L ≤ 1048576 := by rw [Hlt.out] at hll; omega
  have HOI : Hd (OwnI w2 g cl l) := ⟨hO⟩
  have HLn : Hd (l.length = L) := ⟨hL⟩
  rewrite [hL]
  have HA : Hd (SignsAre t l ok) := ⟨hA⟩
  clear hB hO hg hA hll hL W0
  obtain ⟨ic, hic⟩ : ∃ ic, inB cs 0 5 = ic := ⟨_, rfl⟩
  have HI : Hd (inB cs 0 5 = ic) := ⟨hic⟩
  clear hic
  go_wp2_with fail
  refine (l5Cs_any cs _).mono ?_
  rintro e w3 ⟨rfl, hw⟩
  replace hw := hw.symm
  subst hw
  rewrite [HI.out]
  cases ic with
  | false =>
    obtain ⟨y1, y2, _, _⟩ := enc_out (encIn_c (t := t) HI.out)
    have Y : Hd (encOk cs t = false ∧ encS cs t = []) := ⟨y1, y2⟩
    obtain ⟨xs, x1, x2, x3, x4, x5⟩ := W1.out.out
    obtain rfl : xs = [] := List.eq_nil_of_length_eq_zero x1
    have X3 : Hd (w.heap.size ≤ w.heap.size ∧ Own w2 w.heap.size 0 [] ∧ Below w.heap.size w w2) := ⟨x3, x4, x5⟩
    clear y1 y2 x1 x2 x3 x4 x5 W1
    go_wp2_with fail
    go_ret2
    exact ⟨w.heap.size, 0, by rw [Y.out.1, Y.out.2]; rfl, X3.out.1, by rw [Y.out.2]; exact X3.out.2.1, X3.out.2.2⟩
  | true =>
    rcases signsAre_items HA.out with ⟨rfl, sg, li, so⟩ | ⟨rfl, rfl, li⟩
    · have HE : Hd (encIn cs t = true) := ⟨encIn_t HI.out li⟩
      have SO : Hd (signsOf t = l) := ⟨so⟩
      clear sg li so
      go_wp2_with fail
      go_loopw [6, 9] (fun v i wr => ∃ (k q c n : Nat), i = .int .i64 k ∧ v = .slice (some ⟨q, 0, none⟩) n c ∧ Hd (WAt w cs l k q c n 0 wr) ∧ Hd (Below w2.heap.size w2 wr)) (fun _ i _ => L - (intOf i).toNat)
      case atStart => exact ⟨0, w.heap.size, 0, 0, rfl, rfl, W1, ⟨Below.refl _ _⟩⟩
      case round =>
        clear W1
        obtain ⟨k, q, c, n, rfl, rfl, R, RB⟩ := hrel
        obtain ⟨f1, f2, f3, f4⟩ := R.out.fits
        rw [HLn.out] at f3
        by_cases hlt : k < L
        · have hkI : (k : Int) < (L : Int) := by omega
          have hcr : wr.cell? ⟨g, k, none⟩ = some (.int .i64 (l.getD k 0)) := by
            have := cell_below (HOI.out.cell HLn.out k hlt) RB.out
            rwa [Nat.zero_add] at this
          obtain ⟨z, hz⟩ : ∃ z, l.getD k 0 = z := ⟨_, rfl⟩
          rw [hz] at hcr
          obtain ⟨bs, x1, x2, x3, x4, x5⟩ := R.out.out
          have HK : Hd (k < l.length) := ⟨by rw [HLn.out]; exact hlt⟩
          have HZ : Hd (l.getD k 0 = z) := ⟨hz⟩
          have X1 : Hd (bs.length = n) := ⟨x1⟩
          have X2 : Hd (WriteAt cs l k bs 0) := ⟨x2⟩
          have X4 : Hd (Own wr q c bs) := ⟨x4⟩
          have X5 : Hd (Below w.heap.size w wr) := ⟨x5⟩
          clear x1 x2 x3 x4 x5 R hz
          go_wp2_with fail
          refine (l5Put_any cs q 0 n c bs z _ X1.out (X4.out.cell X1.out) X4.out.lt (by omega)).mono ?_
          rintro e w4 ⟨q4, c4, rfl, hq4, hO4, hB4⟩
          obtain ⟨m, hm⟩ : ∃ m, (bs ++ putB cs z).length = m := ⟨_, rfl⟩
          have RB4 : Hd (Below w2.heap.size w2 w4) := ⟨Below.next RB.out hB4⟩
          rewrite [hm]
          cases ho : putOk cs z with
          | true =>
            have W4 : Hd (WAt w cs l (k + 1) q4 c4 m 0 w4) := ⟨wAt_put X2.out X5.out HK.out HZ.out ho hO4 hm hq4 hB4⟩
            clear hq4 hO4 hB4 hm ho X1 X2 X4 X5 RB
            go_wp2_with fail
            go_roundw
            case rel => exact ⟨k + 1, q4, c4, m, by go_num, rfl, W4, RB4⟩
            case measure => simp [intOf]; omega
          | false =>
            have Y : Hd (encOk cs t = false ∧ encS cs t = []) := ⟨enc_no (by rw [SO.out]; exact writeAt_stuck X2.out HK.out HZ.out ho)⟩
            have B4 : Hd (Below w.heap.size w w4) := ⟨Below.next X5.out hB4⟩
            clear hq4 hO4 hB4 hm ho X1 X2 X4 X5 RB
            go_wp2_with fail
            go_ret2
            exact ⟨w4.heap.size, 0, by rw [Y.out.1, Y.out.2]; rfl, B4.out.size, by rw [Y.out.2]; exact own_none w4, Below.next B4.out (below_lit _ _)⟩
        · have hkI : ¬ (k : Int) < (L : Int) := by omega
          obtain ⟨bs, x1, x2, x3, x4, x5⟩ := R.out.out
          obtain ⟨e1, e2⟩ := writeAt_end x2 (by rw [HLn.out]; exact hlt)
          obtain ⟨y1, y2⟩ := enc_yes HE.out (by rw [SO.out]; exact e2.symm)
          rw [SO.out, ← e1] at y2
          have Y : Hd (encOk cs t = true ∧ encS cs t = bs) := ⟨y1, y2⟩
          have X : Hd (bs.length = n ∧ w.heap.size ≤ q ∧ Own wr q c bs ∧ Below w.heap.size w wr) := ⟨x1, x3, x4, x5⟩
          clear x1 x2 x3 x4 x5 e1 e2 y1 y2 R
          go_wp2_with fail
          go_ret2
          exact ⟨q, c, by rw [Y.out.1, Y.out.2, X.out.1]; rfl, X.out.2.1, by rw [Y.out.2]; exact X.out.2.2.1, X.out.2.2.2⟩
    · obtain ⟨y1, y2, _, _⟩ := enc_out (encIn_f (cs := cs) li)
      have Y : Hd (encOk cs t = false ∧ encS cs t = []) := ⟨y1, y2⟩
      obtain ⟨xs, x1, x2, x3, x4, x5⟩ := W1.out.out
      obtain rfl : xs = [] := List.eq_nil_of_length_eq_zero x1
      have X3 : Hd (w.heap.size ≤ w.heap.size ∧ Own w2 w.heap.size 0 [] ∧ Below w.heap.size w w2) := ⟨x3, x4, x5⟩
      clear y1 y2 x1 x2 x3 x4 x5 W1 li
      go_wp2_with fail
      go_ret2
      exact ⟨w.heap.size, 0, by rw [Y.out.1, Y.out.2]; rfl, X3.out.1, by rw [Y.out.2]; exact X3.out.2.1, X3.out.2.2⟩

set_option maxHeartbeats 1000000 in
theorem specEncodeLossy_any (cs : Int) (s : ByteArray) (w : World) (hs : s.size ≤ 1048576) :
    Calls Tryd.prog 25 #[.int .i64 cs, .string s] w (EncLOut w (encLS cs s.data.toList) (encLN cs s.data.toList)) := by
  obtain ⟨i0, hi, hz0, hz1, hz2⟩ := info_parts info8
  generalize ht : s.data.toList = t
  have Ht : Hd (s.data.toList = t) := ⟨ht⟩
  have Hlt : Hd (t.length = s.size) := ⟨by rw [← ht, size_list]⟩
  clear ht
  have W0 : Hd (WAt w cs [] 0 w.heap.size 0 0 0 (w.alloc (.cells #[] 5))) := ⟨wAt_one w cs []⟩
  go_enter Tryd.func25, Tryd.ntmps25
  go_wp2_with fail
  refine (specSigns_any s _ hs).mono ?_
  rintro e w2 ⟨g, cl, l, ok, rfl, hA, hg, hO, hB⟩
  rw [Ht.out] at hA
  have W1 : Hd (WAt w cs l 0 w.heap.size 0 0 0 w2) := ⟨W0.out.below hB⟩
  obtain ⟨L, hL⟩ : ∃ L, l.length = L := ⟨_, rfl⟩
  have hll := signsAre_len hA
  have LL : L ≤ 1048576 := by rw [Hlt.out] at hll; omega
  have HOI : Hd (OwnI w2 g cl l) := ⟨hO⟩
  have HLn : Hd (l.length = L) := ⟨hL⟩
  rewrite [hL]
  have HA : Hd (SignsAre t l ok) := ⟨hA⟩
  clear hB hO hg hA hll hL W0
  obtain ⟨ic, hic⟩ : ∃ ic, inB cs 0 5 = ic := ⟨_, rfl⟩
  have HI : Hd (inB cs 0 5 = ic) := ⟨hic⟩
  clear hic
  go_wp2_with fail
  refine (l5Cs_any cs _).mono ?_
  rintro e w3 ⟨rfl, hw⟩
  replace hw := hw.symm
  subst hw
  rewrite [HI.out]
  cases ic with
  | false =>
    obtain ⟨_, _, y1, y2⟩ := enc_out (encIn_c (t := t) HI.out)
    have Y : Hd (encLS cs t = [] ∧ encLN cs t = 0) := ⟨y1, y2⟩
    obtain ⟨xs, x1, x2, x3, x4, x5⟩ := W1.out.out
    obtain rfl : xs = [] := List.eq_nil_of_length_eq_zero x1
    have X3 : Hd (w.heap.size ≤ w.heap.size ∧ Own w2 w.heap.size 0 [] ∧ Below w.heap.size w w2) := ⟨x3, x4, x5⟩
    clear y1 y2 x1 x2 x3 x4 x5 W1
    go_wp2_with fail
    go_ret2
    exact ⟨w.heap.size, 0, by rw [Y.out.1, Y.out.2]; rfl, X3.out.1, by rw [Y.out.1]; exact X3.out.2.1, X3.out.2.2⟩
  | true =>
    rcases signsAre_items HA.out with ⟨rfl, sg, li, so⟩ | ⟨rfl, rfl, li⟩
    · have HE : Hd (encLS cs t = writeB cs l ∧ encLN cs t = lostW cs l) := ⟨by have := enc_lin (encIn_t HI.out li); rwa [so] at this⟩
      clear sg li so
      go_wp2_with fail
      go_loopw [6, 7, 10] (fun v d i wr => ∃ (k q c n lost : Nat), i = .int .i64 k ∧ v = .slice (some ⟨q, 0, none⟩) n c ∧ d = .int .i64 lost ∧ Hd (WAt w cs l k q c n lost wr) ∧ Hd (Below w2.heap.size w2 wr)) (fun _ _ i _ => L - (intOf i).toNat)
      case atStart => exact ⟨0, w.heap.size, 0, 0, 0, rfl, rfl, rfl, W1, ⟨Below.refl _ _⟩⟩
      case round =>
        clear W1
        obtain ⟨k, q, c, n, lost, rfl, rfl, rfl, R, RB⟩ := hrel
        obtain ⟨f1, f2, f3, f4⟩ := R.out.fits
        rw [HLn.out] at f3
        by_cases hlt : k < L
        · have hkI : (k : Int) < (L : Int) := by omega
          have hcr : wr.cell? ⟨g, k, none⟩ = some (.int .i64 (l.getD k 0)) := by
            have := cell_below (HOI.out.cell HLn.out k hlt) RB.out
            rwa [Nat.zero_add] at this
          obtain ⟨z, hz⟩ : ∃ z, l.getD k 0 = z := ⟨_, rfl⟩
          rw [hz] at hcr
          obtain ⟨bs, x1, x2, x3, x4, x5⟩ := R.out.out
          have HK : Hd (k < l.length) := ⟨by rw [HLn.out]; exact hlt⟩
          have HZ : Hd (l.getD k 0 = z) := ⟨hz⟩
          have X1 : Hd (bs.length = n) := ⟨x1⟩
          have X2 : Hd (WriteAt cs l k bs lost) := ⟨x2⟩
          have X4 : Hd (Own wr q c bs) := ⟨x4⟩
          have X5 : Hd (Below w.heap.size w wr) := ⟨x5⟩
          clear x1 x2 x3 x4 x5 R hz
          go_wp2_with fail
          refine (l5Put_any cs q 0 n c bs z _ X1.out (X4.out.cell X1.out) X4.out.lt (by omega)).mono ?_
          rintro e w4 ⟨q4, c4, rfl, hq4, hO4, hB4⟩
          obtain ⟨m, hm⟩ : ∃ m, (bs ++ putB cs z).length = m := ⟨_, rfl⟩
          have RB4 : Hd (Below w2.heap.size w2 w4) := ⟨Below.next RB.out hB4⟩
          rewrite [hm]
          cases ho : putOk cs z with
          | true =>
            have W4 : Hd (WAt w cs l (k + 1) q4 c4 m lost w4) := ⟨wAt_put X2.out X5.out HK.out HZ.out ho hO4 hm hq4 hB4⟩
            clear hq4 hO4 hB4 hm ho X1 X2 X4 X5 RB
            go_wp2_with fail
            go_roundw
            case rel => exact ⟨k + 1, q4, c4, m, lost, by go_num, rfl, rfl, W4, RB4⟩
            case measure => simp [intOf]; omega
          | false =>
            have NX : Hd (WriteAt cs l (k + 1) (bs ++ [63]) (lost + 1)) := ⟨by
              have := writeAt_next X2.out HK.out HZ.out
              unfold oneW at this
              rwa [if_neg (by rw [ho]; simp), if_neg (by rw [ho]; simp)] at this⟩
            have B4 : Hd (Below w.heap.size w w4) := ⟨Below.next X5.out hB4⟩
            have O4 : Hd (Own w4 q c bs) := ⟨X4.out.below hB4⟩
            clear hq4 hO4 hB4 hm ho X2 X4 X5 RB
            go_wp2_with (at_builtin; refine wpList_append_own _ rfl (.tmp 45) (.tmp 46) 22 rfl w4.heap.size 5 i0 (.int .u8 0) 1 1 Tryd.underlying22 hi hz0 hz1 hz2 rfl (by decide) _ 0 [] rfl ?hown ⟨q, 0, none⟩ n c (bs.map cb) rfl ?hl ?hn ?h1 ?h63 ?hby ?hbase ?_)
            case hown => exact World.ownsRow_made w4 #[] 0 (Nat.le_refl _) (by unfold maxLen; omega) rfl
            case hl => simpa using X1.out
            case hn => exact map_cb_cell X1.out (fun j hj => cell_below (O4.out.cell X1.out j hj) (below_lit _ _))
            case h1 => exact one_cb bs
            case h63 => unfold maxLen; omega
            case hby => omega
            case hbase => simp
            intro v5 w5 hown5 hgr5 hne5
            obtain ⟨g5, c5, hv5, hg5, hR5⟩ := own_row hown5 hne5
            have B45 : Below w4.heap.size w4 w5 := ((Below.refl _ w4).alloc (Nat.le_refl _) _).grown hgr5 (by simp) (fun k h => by simp [Value.ownBlock] at h; omega)
            have B5 : Hd (Below w.heap.size w w5) := ⟨Below.next B4.out B45⟩
            have RB5 : Hd (Below w2.heap.size w2 w5) := ⟨Below.next RB4.out B45⟩
            have G5 : Hd (w.heap.size ≤ g5 ∧ w2.heap.size ≤ g5) := ⟨by have := B4.out.size; have := RB4.out.size; omega⟩
            have hown6 : Hd (w5.ownsRow g5 5 1 (.slice (some ⟨g5, 0, none⟩) n c5) n (bs.map cb)) := ⟨hR5.owns X1.out (Nat.le_refl _)⟩
            have hlt5 : Hd (g5 < w5.heap.size) := ⟨hR5.lt⟩
            rw [hv5]
            clear hown5 hgr5 hne5 hv5 hg5 hR5 B45 O4 B4 RB4
            go_wp2_with (at_builtin; refine wpList_append_own _ rfl (.tmp 47) (.tmp 48) 22 rfl g5 5 i0 (.int .u8 0) 1 1 Tryd.underlying22 hi hz0 hz1 hz2 rfl (by decide) _ n (bs.map cb) rfl ?hown ⟨w5.heap.size, 0, none⟩ 1 1 (([63] : List UInt8).map cb) rfl ?hl ?hn ?h1 ?h63 ?hby ?hbase ?_)
            case hown => exact hown6.out.alloc _
            case hl => rfl
            case hn => exact built_cells w5 _ _ _ rfl
            case h1 => exact one_cb _
            case h63 => unfold maxLen; omega
            case hby => omega
            case hbase => have := hlt5.out; simp; omega
            intro v6 w6 hown7 hgr7 hne7
            rw [show bs.map cb ++ [cb 63] = (bs ++ [63]).map cb from by simp] at hown7
            obtain ⟨g6, c6, hv6, hg6, hO6⟩ := own_row hown7 (by simpa using hne7)
            have B56 : ∀ B, B ≤ g5 → B ≤ w5.heap.size → Below B w5 w6 := fun B h1 h2 => (Below.refl B w5).grown (grown_of_alloc hgr7) h2 (fun k h => by simp [Value.ownBlock] at h; omega)
            have W6 : Hd (WAt w cs l (k + 1) g6 c6 (n + 1) (lost + 1) w6) := ⟨⟨bs ++ [63], by have := X1.out; simp; omega, NX.out, by have := G5.out; omega, hO6, B5.out.trans (B56 _ G5.out.1 B5.out.size)⟩⟩
            have RB6 : Hd (Below w2.heap.size w2 w6) := ⟨RB5.out.trans (B56 _ G5.out.2 RB5.out.size)⟩
            rw [hv6]
            clear hown7 hgr7 hne7 hv6 hg6 hO6 B56 hown6 B5 RB5 G5 X1 NX
            go_wp2_with fail
            go_roundw
            case rel => exact ⟨k + 1, g6, c6, n + 1, lost + 1, by go_num, rfl, by go_num, W6, RB6⟩
            case measure => simp [intOf]; omega
        · have hkI : ¬ (k : Int) < (L : Int) := by omega
          obtain ⟨bs, x1, x2, x3, x4, x5⟩ := R.out.out
          obtain ⟨e1, e2⟩ := writeAt_end x2 (by rw [HLn.out]; exact hlt)
          have Y : Hd (encLS cs t = bs ∧ encLN cs t = lost) := ⟨HE.out.1.trans e1.symm, HE.out.2.trans e2.symm⟩
          have X : Hd (bs.length = n ∧ w.heap.size ≤ q ∧ Own wr q c bs ∧ Below w.heap.size w wr) := ⟨x1, x3, x4, x5⟩
          clear x1 x2 x3 x4 x5 e1 e2 R
          go_wp2_with fail
          go_ret2
          exact ⟨q, c, by rw [Y.out.1, Y.out.2, X.out.1]; rfl, X.out.2.1, by rw [Y.out.1]; exact X.out.2.2.1, X.out.2.2.2⟩
    · obtain ⟨_, _, y1, y2⟩ := enc_out (encIn_f (cs := cs) li)
      have Y : Hd (encLS cs t = [] ∧ encLN cs t = 0) := ⟨y1, y2⟩
      obtain ⟨xs, x1, x2, x3, x4, x5⟩ := W1.out.out
      obtain rfl : xs = [] := List.eq_nil_of_length_eq_zero x1
      have X3 : Hd (w.heap.size ≤ w.heap.size ∧ Own w2 w.heap.size 0 [] ∧ Below w.heap.size w w2) := ⟨x3, x4, x5⟩
      clear y1 y2 x1 x2 x3 x4 x5 W1 li
      go_wp2_with fail
      go_ret2
      exact ⟨w.heap.size, 0, by rw [Y.out.1, Y.out.2]; rfl, X3.out.1, by rw [Y.out.1]; exact X3.out.2.1, X3.out.2.2⟩

set_option maxHeartbeats 400000 in
theorem specFits_any (cs : Int) (s : ByteArray) (w : World) (hs : s.size ≤ 1048576) :
    Calls Tryd.prog 18 #[.int .i64 cs, .string s] w fun e w' => e = .returned (.bool (encOk cs s.data.toList)) ∧ Below w.heap.size w w' := by
  go_enter Tryd.func18, Tryd.ntmps18
  go_wp2_with fail
  refine (specEncode_any cs s _ hs).mono ?_
  rintro e w1 ⟨g, c, rfl, _, _, hB⟩
  have HB : Hd (Below w.heap.size w w1) := ⟨hB⟩
  obtain ⟨ok, hok⟩ : ∃ ok, encOk cs s.data.toList = ok := ⟨_, rfl⟩
  have HK : Hd (ok = encOk cs s.data.toList) := ⟨hok.symm⟩
  rewrite [hok]
  generalize (encS cs s.data.toList).length = ln at *
  clear hB hok
  go_wp2_with fail
  go_ret
  exact ⟨ret_bool HK.out, HB.out⟩

end Go.Proofs.YtcddjfdmodpnjaaDoor
