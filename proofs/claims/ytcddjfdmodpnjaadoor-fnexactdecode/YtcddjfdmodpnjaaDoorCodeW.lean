/- Contracts of what the program writes of signs: the bytes of a sign, of all signs. -/
import Derived.Test.YtcddjfdmodpnjaaDoorCodeI
import Derived.Test.YtcddjfdmodpnjaaDoorInts
namespace Go.Proofs.YtcddjfdmodpnjaaDoor
open Go.RowKit

/-- The bytes of a sign are answered, if it has some. -/
structure BytesOf (w : World) (cs n : Int) (e : Ending) (w' : World) : Prop where
  out : ∃ (v : Value), e = .returned (.tuple #[v, .bool (putOk cs n)]) ∧ (putOk cs n = true → ∃ g c, v = .slice (some ⟨g, 0, none⟩) (putB cs n).length c ∧ Own w' g c (putB cs n)) ∧ Below w.heap.size w w'

/-- The first bytes laid behind nil. -/
theorem nil_own (w : World) : w.ownsRow w.heap.size 5 1 (.slice none 0 0) 0 (([] : List UInt8).map cb) := ⟨rfl, .inl ⟨rfl, rfl⟩⟩

set_option maxHeartbeats 1000000 in
theorem putEucNil_one (n : Nat) (w : World) (h1 : n < 128) :
    Calls Tryd.prog 76 #[.slice none 0 0, .int .i64 (n : Int)] w (BytesOf w 5 (n : Int)) := by
  obtain ⟨i0, hi, hz0, hz1, hz2⟩ := info_parts info8
  have e5 : putB 5 (n : Int) = eucB (n : Int) := by unfold putB; rw [if_neg (by omega), if_pos rfl]
  have Hok : Hd (putOk 5 (n : Int) = true) := ⟨by unfold putOk; rw [if_neg (by omega), if_pos rfl]; exact (eucB_one h1).2⟩
  have E5 : Hd (putB 5 (n : Int) = eucB (n : Int)) := ⟨e5⟩
  clear e5
  have hp : Hd ([.int .u8 (n : Int)] = (eucB (n : Int)).map cb) := ⟨by
    rw [(eucB_one h1).1]
    simp only [List.map_cons, List.map_nil]
    rw [← cb_int (x := (n : Int)) (by rw [bt_val _ (by omega)])]⟩
  have n1 : (n : Int) ≤ 127 := by omega
  have hlen : Hd (((eucB (n : Int)).map cb).length = 1) := ⟨by rw [← hp.out]; rfl⟩
  go_enter Tryd.func76, Tryd.ntmps76
  go_wp2_with fail
  refine (clone_nil _).mono ?_
  rintro e w1 ⟨rfl, hw1⟩
  subst hw1
  go_wp2_with (at_builtin; refine wpList_append_own _ rfl (.tmp 18) (.tmp 21) 22 rfl w.heap.size 5 i0 (.int .u8 0) 1 1 Tryd.underlying22 hi hz0 hz1 hz2 rfl (by decide) _ 0 [] rfl ?hown ⟨w.heap.size, 0, none⟩ 1 1 ((eucB (n : Int)).map cb) rfl ?hl ?hn ?h1 ?h63 ?hby ?hbase ?_)
  case hown => exact (nil_own w).alloc _
  case hl => rw [hlen.out]
  case hn => exact built_cells w _ _ _ hp.out
  case h1 => exact one_cb _
  case h63 => unfold maxLen; omega
  case hby => omega
  case hbase => simp
  intro v2 w2 hown2 hgr2 hne2
  have hno : v2 ≠ .slice none 0 0 := hne2
  obtain ⟨g2, c2, hv2, hg2, hO2⟩ := own_row (bs := eucB (n : Int)) (by simpa using hown2) hno
  have HO : Hd (Own w2 g2 c2 (eucB (n : Int))) := ⟨hO2⟩
  have HB2 : Hd (Below w.heap.size w w2) := ⟨(Below.refl _ w).grown (grown_of_alloc hgr2) (Nat.le_refl _) (fun k h => by simp [Value.ownBlock] at h)⟩
  have hl1 : Hd ((eucB (n : Int)).length = 1) := ⟨by have := hlen.out; simpa using this⟩
  rw [hv2]
  clear hown2 hgr2 hne2 hv2 hg2 hO2 hno
  go_wp2_with fail
  go_ret2
  exact ⟨.slice (some ⟨g2, 0, none⟩) 1 c2, by rw [Hok.out]; rfl, fun _ => ⟨g2, c2, by rw [E5.out, hl1.out], by rw [E5.out]; exact HO.out⟩, HB2.out⟩

set_option maxHeartbeats 1000000 in
theorem putEucNil_two (n : Int) (x y : Nat) (w : World) (H1 : Hd (spA n = (x : Int))) (H2 : Hd (spB n = (y : Int))) (H3 : Hd (spOk n = true)) (T : Hd (PairsAt w)) :
    Calls Tryd.prog 76 #[.slice none 0 0, .int .i64 n] w (BytesOf w 5 n) := by
  obtain ⟨i0, hi, hz0, hz1, hz2⟩ := info_parts info8
  have X2 : Hd ((x : Int) < 256) := ⟨by have := sp_in n; have := H1.out; omega⟩
  have Y2 : Hd ((y : Int) < 256) := ⟨by have := sp_in n; have := H2.out; omega⟩
  have n1 : 127 < n := (sp_above H3.out).1
  have Nw : Hd (n ≤ 9223372036854775807) := ⟨(sp_above H3.out).2⟩
  have E5 : Hd (putB 5 n = eucB n) := ⟨by unfold putB; rw [if_neg (by omega), if_pos rfl]⟩
  have Hok : Hd (putOk 5 n = true) := ⟨by unfold putOk; rw [if_neg (by omega), if_pos rfl]; exact (eucB_two H3.out H1.out H2.out).2⟩
  have hp : Hd ([.int .u8 (x : Int), .int .u8 (y : Int)] = (eucB n).map cb) := ⟨by
    rw [(eucB_two H3.out H1.out H2.out).1]
    simp only [List.map_cons, List.map_nil]
    rw [← cb_int (x := (x : Int)) (by rw [bt_val _ (by have := X2.out; have := Y2.out; omega)]), ← cb_int (x := (y : Int)) (by rw [bt_val _ (by have := X2.out; have := Y2.out; omega)])]⟩
  have hlen : Hd (((eucB n).map cb).length = 2) := ⟨by rw [← hp.out]; rfl⟩
  go_enter Tryd.func76, Tryd.ntmps76
  go_wp2_with fail
  refine (clone_nil _).mono ?_
  rintro e w1 ⟨rfl, hw1⟩
  subst hw1
  go_wp2_with fail
  refine (implSignPair_is H1 H2 H3 _ T.out Nw.out).mono ?_
  rintro e w3 ⟨rfl, hB3⟩
  have hB4 : Hd (Below w.heap.size w w3) := ⟨hB3⟩
  clear hB3 n1
  have hx2 := X2.out
  have hy2 := Y2.out
  go_wp2_with (at_builtin; refine wpList_append_own _ rfl (.tmp 32) (.tmp 37) 22 rfl w3.heap.size 5 i0 (.int .u8 0) 1 1 Tryd.underlying22 hi hz0 hz1 hz2 rfl (by decide) _ 0 [] rfl ?hown ⟨w3.heap.size, 0, none⟩ 2 2 ((eucB n).map cb) rfl ?hl ?hn ?h1 ?h63 ?hby ?hbase ?_)
  case hown => exact (nil_own w3).alloc _
  case hl => rw [hlen.out]
  case hn => exact built_cells w3 _ _ _ hp.out
  case h1 => exact one_cb _
  case h63 => unfold maxLen; omega
  case hby => omega
  case hbase => simp
  intro v2 w2 hown2 hgr2 hne2
  have hno : v2 ≠ .slice none 0 0 := hne2
  obtain ⟨g2, c2, hv2, hg2, hO2⟩ := own_row (bs := eucB n) (by simpa using hown2) hno
  have HO : Hd (Own w2 g2 c2 (eucB n)) := ⟨hO2⟩
  have HB2 : Hd (Below w.heap.size w w2) := ⟨hB4.out.grown (grown_of_alloc hgr2) hB4.out.size (fun k h => by simp [Value.ownBlock] at h)⟩
  have hl1 : Hd ((eucB n).length = 2) := ⟨by have := hlen.out; simpa using this⟩
  rw [hv2]
  clear hown2 hgr2 hne2 hv2 hg2 hO2 hno
  go_wp2_with fail
  go_ret2
  exact ⟨.slice (some ⟨g2, 0, none⟩) 2 c2, by rw [Hok.out]; rfl, fun _ => ⟨g2, c2, by rw [E5.out, hl1.out], by rw [E5.out]; exact HO.out⟩, HB2.out⟩

set_option maxHeartbeats 1000000 in
theorem putEucNil_no (n x y : Int) (w : World) (h1 : 127 < n) (Nw : Hd (n ≤ 9223372036854775807)) (H1 : Hd (spA n = x)) (H2 : Hd (spB n = y)) (H3 : Hd (spOk n = false)) (T : Hd (PairsAt w)) :
    Calls Tryd.prog 76 #[.slice none 0 0, .int .i64 n] w (BytesOf w 5 n) := by
  have Hok : Hd (putOk 5 n = false) := ⟨by unfold putOk; rw [if_neg (by omega), if_pos rfl]; exact (eucB_no (by omega) H3.out).2⟩
  go_enter Tryd.func76, Tryd.ntmps76
  go_wp2_with fail
  refine (clone_nil _).mono ?_
  rintro e w1 ⟨rfl, hw1⟩
  subst hw1
  go_wp2_with fail
  refine (implSignPair_is H1 H2 H3 _ T.out Nw.out).mono ?_
  rintro e w3 ⟨rfl, hB3⟩
  have hB4 : Hd (Below w.heap.size w w3) := ⟨hB3⟩
  clear hB3
  go_wp2_with fail
  go_ret2
  exact ⟨_, by rw [Hok.out]; rfl, fun h => by (have := Hok.out; rw [h] at this; cases this), hB4.out⟩

theorem putEucNil_any (n : Int) (w : World) (hs : isSign n) (T : Hd (PairsAt w)) :
    Calls Tryd.prog 76 #[.slice none 0 0, .int .i64 n] w (BytesOf w 5 n) := by
  have h0 : 0 ≤ n ∧ n < 1114112 := by rcases hs with h | h <;> omega
  by_cases h1 : n < 128
  · obtain ⟨m, rfl⟩ := Int.eq_ofNat_of_zero_le h0.1
    exact putEucNil_one m w (by omega)
  · cases hp : spOk n
    · exact putEucNil_no n _ _ w (by omega) ⟨by omega⟩ ⟨rfl⟩ ⟨rfl⟩ ⟨hp⟩ T
    · obtain ⟨i1, i2, i3, i4⟩ := sp_in n
      obtain ⟨x, hx⟩ := Int.eq_ofNat_of_zero_le i1
      obtain ⟨y, hy⟩ := Int.eq_ofNat_of_zero_le i3
      exact putEucNil_two n x y w ⟨hx⟩ ⟨hy⟩ ⟨hp⟩ T

set_option maxHeartbeats 400000 in
theorem bytesOf_0 (n : Int) (w : World) (hs : Hd (isSign n)) :
    Calls Tryd.prog 59 #[setV 0, .int .i64 n] w (BytesOf w 0 n) := by
  have a1 := fun w => as_uu w
  have Hok : Hd (putOk 0 n = true) := ⟨by rw [putOk_utf]; exact sign_t hs.out⟩
  have E0 : Hd (putB 0 n = signB n) := ⟨by rw [put_utf]⟩
  have HP : Hd (signB n ≠ []) := ⟨fun e => by have := signB_pos hs.out; rw [e] at this; simp at this⟩
  rewrite [setV_utf]
  go_enter Tryd.func59, Tryd.ntmps59
  go_wp2_with fail
  refine (implPutSign_nil n _).mono ?_
  rintro e w1 ⟨v1, rfl, hO1, hG1, hN1⟩
  obtain ⟨g, c, hv, _, hO⟩ := own_row hO1 (fun h => HP.out (hN1 h).2)
  have HO : Hd (Own w1 g c (signB n)) := ⟨hO⟩
  have HB : Hd (Below w.heap.size w w1) := ⟨Below.next (below_lit _ _) (below_nil hG1)⟩
  rw [hv]
  clear hO1 hG1 hN1 hv hO
  generalize hln : (signB n).length = ln at *
  have HL : Hd ((signB n).length = ln) := ⟨hln⟩
  clear hln
  go_wp2_with fail
  go_ret2
  exact ⟨.slice (some ⟨g, 0, none⟩) ln c, by rw [Hok.out]; rfl, fun _ => ⟨g, c, by rw [E0.out, HL.out], by rw [E0.out]; exact HO.out⟩, HB.out⟩

set_option maxHeartbeats 400000 in
theorem bytesOf_5 (n : Int) (w : World) (hs : Hd (isSign n)) (T : Hd (AllAt w)) :
    Calls Tryd.prog 59 #[setV 5, .int .i64 n] w (BytesOf w 5 n) := by
  have a1 := fun w => as_eu w
  have a2 := fun w => as_eb w
  have a3 := fun w => as_ee w
  rewrite [setV_euc]
  go_enter Tryd.func59, Tryd.ntmps59
  go_wp2_with fail
  refine (putEucNil_any n _ hs.out ⟨T.out.pairs.below (below_lit _ _)⟩).mono ?_
  rintro e w1 ⟨v, rfl, hv, hB⟩
  have HV : Hd (putOk 5 n = true → ∃ g c, v = .slice (some ⟨g, 0, none⟩) (putB 5 n).length c ∧ Own w1 g c (putB 5 n)) := ⟨hv⟩
  have HB : Hd (Below w.heap.size w w1) := ⟨Below.next (below_lit _ _) hB⟩
  clear hv hB
  obtain ⟨ok, hok⟩ : ∃ ok, putOk 5 n = ok := ⟨_, rfl⟩
  have HK : Hd (putOk 5 n = ok) := ⟨hok⟩
  rewrite [hok]
  clear hok
  go_wp2_with fail
  go_ret2
  exact ⟨v, by rw [HK.out]; rfl, HV.out, HB.out⟩

theorem own_lit (w : World) (y : UInt8) : Own (w.alloc (.cells #[cb y] 5)) w.heap.size 1 [y] := ⟨#[cb y], heap_alloc_new w _, by simp, by unfold maxLen; omega, rfl, by simp⟩
theorem size_alloc (w : World) (o : Obj) : (w.alloc o).heap.size = w.heap.size + 1 := by simp

set_option maxHeartbeats 400000 in
theorem bytesOf_b (cs n : Int) (w : World) (h0 : cs ≠ 0) (h5 : cs ≠ 5) (T : Hd (AllAt w)) :
    Calls Tryd.prog 59 #[setV cs, .int .i64 n] w (BytesOf w cs n) := by
  have a1 := fun w c => as_bu w c
  have a2 := fun w c => as_bb w c
  obtain ⟨x, hx⟩ : ∃ x, sbN cs n = x := ⟨_, rfl⟩
  obtain ⟨ok, hok⟩ : ∃ ok, sbOk cs n = ok := ⟨_, rfl⟩
  have HX : Hd (sbN cs n = x) := ⟨hx⟩
  have HK : Hd (putOk cs n = ok) := ⟨by unfold putOk; rw [if_neg h0, if_neg h5, hok]⟩
  have HE : Hd (ok = true → putB cs n = [bt x.toNat] ∧ [cb (bt x.toNat)] = [Value.int .u8 (x % 256)]) := ⟨fun h => by
    have hs : sbOk cs n = true := hok.trans h
    obtain ⟨_, _, i3, i4⟩ := ok_in (sb_told hs).1
    rw [hx] at i3 i4
    refine ⟨by unfold putB; rw [if_neg h0, if_neg h5, if_pos hs, hx], ?_⟩
    unfold cb
    rw [bt_val _ (by omega), show (((x.toNat : Nat) : Int)) = x % 256 from by omega]⟩
  rewrite [setV_byte h0 h5]
  have T1 : Hd (TabsAt (w.alloc (.cells #[.int .i64 cs] 72))) := ⟨T.out.tabs.below (below_lit _ _)⟩
  have HS : Hd (∀ W, Hd (TabsAt W) → Calls Tryd.prog 75 #[.int .i64 cs, .int .i64 n] W fun e w' => e = .returned (.tuple #[.int .i64 x, .bool ok]) ∧ w' = W) := ⟨fun W hW => by
    have := implSignByte_any cs n W hW
    rw [hx, hok] at this; exact this⟩
  clear h0 h5 hx hok
  go_enter Tryd.func59, Tryd.ntmps59
  go_wp2_with fail
  refine (HS.out _ T1).mono ?_
  rintro e w1 ⟨rfl, hw⟩
  replace hw := hw.symm
  subst hw
  go_wp2_with fail
  go_ret2
  refine ⟨.slice (some ⟨w.heap.size + 1, 0, none⟩) 1 1, by rw [HK.out]; rfl, fun h => ?_, below_lit2 _ _ _⟩
  obtain ⟨e1, e2⟩ := HE.out (HK.out.symm.trans h)
  refine ⟨w.heap.size + 1, 1, by rw [e1]; rfl, ?_⟩
  have := own_lit (w.alloc (.cells #[.int .i64 cs] 72)) (bt x.toNat)
  rw [size_alloc, List.cons.inj e2 |>.1] at this
  rw [e1]; exact this

/-- The bytes of a sign, in the program. -/
theorem bytesOf_any (cs n : Int) (w : World) (hs : isSign n) (T : Hd (AllAt w)) : Calls Tryd.prog 59 #[setV cs, .int .i64 n] w (BytesOf w cs n) := by
  by_cases h0 : cs = 0
  · subst h0; exact bytesOf_0 n w ⟨hs⟩
  by_cases h5 : cs = 5
  · subst h5; exact bytesOf_5 n w ⟨hs⟩ T
  · exact bytesOf_b cs n w h0 h5 T

/-- Signs lie in a row of numbers. -/
structure SignsLie (w : World) (lb L : Nat) (l : List Int) : Prop where
  size : l.length = L
  sg : ∀ n ∈ l, isSign n
  cell : ∀ j, j < L → w.cell? ⟨lb, 0 + j, none⟩ = some (.int .i64 (l.getD j 0))

/-- Where the loop of writeAll stands. -/
structure WAt (w : World) (cs : Int) (l : List Int) (k q c n lost : Nat) (wr : World) : Prop where
  out : ∃ bs : List UInt8, bs.length = n ∧ WriteAt cs l k bs lost ∧ w.heap.size ≤ q ∧ Own wr q c bs ∧ Below w.heap.size w wr
structure WriteOut (w : World) (cs : Int) (l : List Int) (e : Ending) (w' : World) : Prop where
  out : ∃ g c, e = .returned (.tuple #[.slice (some ⟨g, 0, none⟩) (writeB cs l).length c, .int .i64 (lostW cs l : Int)]) ∧ w.heap.size ≤ g ∧ Own w' g c (writeB cs l) ∧ Below w.heap.size w w'

theorem wAt_zero (w : World) (cs : Int) (l : List Int) (L : Nat) (hL : L ≤ maxLen) : WAt w cs l 0 w.heap.size L 0 0 (w.alloc (.cells (madeCells #[.int .u8 0] L) 5)) :=
  ⟨[], rfl, writeAt_zero cs l, Nat.le_refl _, ⟨madeCells #[.int .u8 0] L, heap_alloc_new w _, Nat.zero_le _, hL, by rw [← Array.length_toList, zeros_length], by simp⟩, below_lit _ _⟩
/-- A sign's bytes, or the mark, were appended. -/
theorem wAt_next {w wr wx w2 : World} {cs : Int} {l : List Int} {k q c n lost : Nat} {z : Int} {v : Value} {m : Nat} {ys : List UInt8} (h : WAt w cs l k q c n lost wr) (hk : k < l.length) (hz : l.getD k 0 = z)
    (hy : ys = oneW cs z) (hm : ys.length = m) (hx : Below wr.heap.size wr wx) (hown : w2.ownsRow w.heap.size 5 1 v (n + m) (((writeB cs (l.take k)) ++ ys).map cb)) (hgr : wx.grownBy w2 (some q)) (hne : v ≠ .slice none 0 0) :
    ∃ q' c', v = .slice (some ⟨q', 0, none⟩) (n + m) c' ∧ WAt w cs l (k + 1) q' c' (n + m) (lost + if putOk cs z = true then 0 else 1) w2 := by
  obtain ⟨bs, h1, h2, h3, h4, h5⟩ := h.out
  have hb : bs = writeB cs (l.take k) := h2.text
  obtain ⟨q', c', hv, hq, hO⟩ := own_row hown hne
  refine ⟨q', c', hv, _, ?_, writeAt_next h2 hk hz, hq, ?_, ?_⟩
  · rw [List.length_append, h1, ← hy, hm]
  · rw [hb, ← hy]; exact hO
  · exact (Below.next h5 hx).grown hgr (by have := h5.size; have := hx.size; omega) (fun i e => by simp at e; omega)

end Go.Proofs.YtcddjfdmodpnjaaDoor
