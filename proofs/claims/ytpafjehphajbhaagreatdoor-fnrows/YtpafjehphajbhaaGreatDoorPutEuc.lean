/- Contracts of PutEuc, in the program (over its table) and in the specification. -/
import Derived.Test.YtpafjehphajbhaaGreatDoorPairA
import Derived.Test.YtpafjehphajbhaaGreatDoorPutEucP
import Derived.Test.YtpafjehphajbhaaGreatDoorSign
namespace Go.Proofs.YtpafjehphajbhaaGreatDoor
set_option maxRecDepth 4000
open Go.RowKit

/-- What PutEuc answers: bytes in new memory, and a flag. -/
structure PutOut (w : World) (bs : List UInt8) (ok : Bool) (e : Ending) (w' : World) : Prop where
  out : ∃ g c, e = .returned (.tuple #[.slice (some ⟨g, 0, none⟩) bs.length c, .bool ok]) ∧ w.heap.size ≤ g ∧ Own w' g c bs ∧ Below w.heap.size w w'

theorem implSignPair_is {n x y : Int} {ok : Bool} (h1 : Hd (spA n = x)) (h2 : Hd (spB n = y)) (h3 : Hd (spOk n = ok)) (w : World) (T : PairsAt w) (hm : n ≤ 9223372036854775807) :
    Calls Tryz.prog 111 #[.int .i64 n] w fun e w' => e = .returned (.tuple #[.int .i64 x, .int .i64 y, .bool ok]) ∧ Below w.heap.size w w' := by
  rw [← h1.out, ← h2.out, ← h3.out]; exact implSignPair_any n w ⟨T⟩ hm

theorem specSignPair_is {n x y : Int} {ok : Bool} (h1 : Hd (spA n = x)) (h2 : Hd (spB n = y)) (h3 : Hd (spOk n = ok)) (w : World) :
    Calls Tryz.prog 106 #[.int .i64 n] w fun e w' => e = .returned (.tuple #[.int .i64 x, .int .i64 y, .bool ok]) ∧ w' = w := by
  rw [← h1.out, ← h2.out, ← h3.out]; exact specSignPair_any n w

set_option maxHeartbeats 1000000 in
theorem implPutEuc_one (b off len cap : Nat) (bs : List UInt8) (n : Nat) (w : World) (hn : bs.length = len) (hc : ∀ j, j < len → w.cell? ⟨b, off + j, none⟩ = some (.int .u8 ((bs.getD j 0).toNat : Int))) (hb : b < w.heap.size) (hl : len ≤ 1073741824) (h1 : n < 128) :
    Calls Tryz.prog 104 #[.slice (some ⟨b, off, none⟩) len cap, .int .i64 (n : Int)] w (PutOut w (bs ++ eucB (n : Int)) (eucOk (n : Int))) := by
  obtain ⟨i0, hi, hz0, hz1, hz2⟩ := info_parts info8
  have hn' : Hd (bs.length = len) := ⟨hn⟩
  have hc' : Hd (∀ j, j < len → w.cell? ⟨b, off + j, none⟩ = some (.int .u8 ((bs.getD j 0).toNat : Int))) := ⟨hc⟩
  clear hn hc
  go_enter Tryz.func104, Tryz.ntmps104
  go_wp2_with fail
  refine (clone_some b off len cap bs _ hn'.out hc'.out hb hl).mono ?_
  rintro e w1 ⟨g1, c1, rfl, hg, hO, hB⟩
  have hB1 : Hd (Below w.heap.size w w1) := ⟨hB⟩
  have HR1 : Hd (Own w1 g1 c1 bs) := ⟨hO⟩
  have hg1' : Hd (w.heap.size ≤ g1) := ⟨hg⟩
  rw [hn'.out]
  clear hO hB hc' hg
  have Hok : Hd (eucOk (n : Int) = true) := ⟨(eucB_one h1).2⟩
  have hp : Hd ([.int .u8 (n : Int)] = (eucB (n : Int)).map cb) := ⟨by
    rw [(eucB_one h1).1]
    simp only [List.map_cons, List.map_nil]
    rw [← cb_int (x := (n : Int)) (by rw [bt_val _ (by omega)])]⟩
  have n1 : (n : Int) ≤ 127 := by omega
  have hown : Hd (w1.ownsRow g1 5 1 (.slice (some ⟨g1, 0, none⟩) len c1) len (bs.map cb)) := ⟨HR1.out.owns hn'.out (Nat.le_refl _)⟩
  have hlt : Hd (g1 < w1.heap.size) := ⟨HR1.out.lt⟩
  have hlen : Hd (((eucB (n : Int)).map cb).length = 1) := ⟨by rw [← hp.out]; rfl⟩
  have hlen2 : Hd ((bs ++ (eucB (n : Int))).length = len + 1) := ⟨by have := hlen.out; have := hn'.out; simp at *; omega⟩
  clear HR1
  go_wp2_with (at_builtin; refine wpList_append_own _ rfl (.tmp 18) (.tmp 21) 22 rfl g1 5 i0 (.int .u8 0) 1 1 Tryz.underlying22 hi hz0 hz1 hz2 rfl (by decide) _ len (bs.map cb) rfl ?hown ⟨w1.heap.size, 0, none⟩ 1 1 ((eucB (n : Int)).map cb) rfl ?hl ?hn ?h1 ?h63 ?hby ?hbase ?_)
  case hown => exact hown.out.alloc _
  case hl => rw [hlen.out]
  case hn => exact built_cells w1 _ _ _ hp.out
  case h1 => exact one_cb _
  case h63 => unfold maxLen; omega
  case hby => omega
  case hbase => have := hlt.out; simp; omega
  intro v2 w2 hown2 hgr2 hne2
  rw [← List.map_append] at hown2
  obtain ⟨g2, c2, hv2, hg2, hO2⟩ := own_row hown2 (by simpa using hne2)
  have HO : Hd (Own w2 g2 c2 (bs ++ (eucB (n : Int)))) := ⟨hO2⟩
  have HB2 : Hd (Below w.heap.size w w2) := ⟨hB1.out.grown (grown_of_alloc hgr2) hB1.out.size (fun k h => by simp [Value.ownBlock] at h; have := hg1'.out; omega)⟩
  have hg2' : Hd (w.heap.size ≤ g2) := ⟨Nat.le_trans hg1'.out hg2⟩
  rw [hv2]
  clear hown2 hgr2 hne2 hv2 hg2 hO2 hown hB1
  go_wp2_with fail
  go_ret2
  exact ⟨g2, c2, by rw [hlen2.out, Hok.out]; rfl, hg2'.out, HO.out, HB2.out⟩

set_option maxHeartbeats 1000000 in
theorem implPutEuc_two (b off len cap : Nat) (bs : List UInt8) (n : Int) (x y : Nat) (w : World) (hn : bs.length = len) (hc : ∀ j, j < len → w.cell? ⟨b, off + j, none⟩ = some (.int .u8 ((bs.getD j 0).toNat : Int))) (hb : b < w.heap.size) (hl : len ≤ 1073741824) (H1 : Hd (spA n = (x : Int))) (H2 : Hd (spB n = (y : Int))) (H3 : Hd (spOk n = true)) (T : Hd (PairsAt w)) :
    Calls Tryz.prog 104 #[.slice (some ⟨b, off, none⟩) len cap, .int .i64 n] w (PutOut w (bs ++ eucB n) (eucOk n)) := by
  obtain ⟨i0, hi, hz0, hz1, hz2⟩ := info_parts info8
  have hn' : Hd (bs.length = len) := ⟨hn⟩
  have hc' : Hd (∀ j, j < len → w.cell? ⟨b, off + j, none⟩ = some (.int .u8 ((bs.getD j 0).toNat : Int))) := ⟨hc⟩
  clear hn hc
  have X2 : Hd ((x : Int) < 256) := ⟨by have := sp_in n; have := H1.out; omega⟩
  have Y2 : Hd ((y : Int) < 256) := ⟨by have := sp_in n; have := H2.out; omega⟩
  have n1 : 127 < n := (sp_above H3.out).1
  have Nw : Hd (n ≤ 9223372036854775807) := ⟨(sp_above H3.out).2⟩
  have Hok : Hd (eucOk n = true) := ⟨(eucB_two H3.out H1.out H2.out).2⟩
  have hp : Hd ([.int .u8 (x : Int), .int .u8 (y : Int)] = (eucB n).map cb) := ⟨by
    rw [(eucB_two H3.out H1.out H2.out).1]
    simp only [List.map_cons, List.map_nil]
    rw [← cb_int (x := (x : Int)) (by rw [bt_val _ (by have := X2.out; have := Y2.out; omega)]), ← cb_int (x := (y : Int)) (by rw [bt_val _ (by have := X2.out; have := Y2.out; omega)])]⟩
  go_enter Tryz.func104, Tryz.ntmps104
  go_wp2_with fail
  refine (clone_some b off len cap bs _ hn'.out hc'.out hb hl).mono ?_
  rintro e w1 ⟨g1, c1, rfl, hg, hO, hB⟩
  have hB1 : Hd (Below w.heap.size w w1) := ⟨hB⟩
  have HR1 : Hd (Own w1 g1 c1 bs) := ⟨hO⟩
  have hg1' : Hd (w.heap.size ≤ g1) := ⟨hg⟩
  rw [hn'.out]
  clear hO hB hc' hg
  go_wp2_with fail
  refine (implSignPair_is H1 H2 H3 _ (T.out.below hB1.out) Nw.out).mono ?_
  rintro e w3 ⟨rfl, hB3⟩
  have hB4 : Hd (Below w.heap.size w w3) := ⟨Below.next hB1.out hB3⟩
  replace HR1 : Hd (Own w3 g1 c1 bs) := ⟨HR1.out.below hB3⟩
  clear hB3 hB1
  have hx2 := X2.out
  have hy2 := Y2.out
  clear n1
  have hown : Hd (w3.ownsRow g1 5 1 (.slice (some ⟨g1, 0, none⟩) len c1) len (bs.map cb)) := ⟨HR1.out.owns hn'.out (Nat.le_refl _)⟩
  have hlt : Hd (g1 < w3.heap.size) := ⟨HR1.out.lt⟩
  have hlen : Hd (((eucB n).map cb).length = 2) := ⟨by rw [← hp.out]; rfl⟩
  have hlen2 : Hd ((bs ++ (eucB n)).length = len + 2) := ⟨by have := hlen.out; have := hn'.out; simp at *; omega⟩
  clear HR1
  go_wp2_with (at_builtin; refine wpList_append_own _ rfl (.tmp 32) (.tmp 37) 22 rfl g1 5 i0 (.int .u8 0) 1 1 Tryz.underlying22 hi hz0 hz1 hz2 rfl (by decide) _ len (bs.map cb) rfl ?hown ⟨w3.heap.size, 0, none⟩ 2 2 ((eucB n).map cb) rfl ?hl ?hn ?h1 ?h63 ?hby ?hbase ?_)
  case hown => exact hown.out.alloc _
  case hl => rw [hlen.out]
  case hn => exact built_cells w3 _ _ _ hp.out
  case h1 => exact one_cb _
  case h63 => unfold maxLen; omega
  case hby => omega
  case hbase => have := hlt.out; simp; omega
  intro v2 w2 hown2 hgr2 hne2
  rw [← List.map_append] at hown2
  obtain ⟨g2, c2, hv2, hg2, hO2⟩ := own_row hown2 (by simpa using hne2)
  have HO : Hd (Own w2 g2 c2 (bs ++ (eucB n))) := ⟨hO2⟩
  have HB2 : Hd (Below w.heap.size w w2) := ⟨hB4.out.grown (grown_of_alloc hgr2) hB4.out.size (fun k h => by simp [Value.ownBlock] at h; have := hg1'.out; omega)⟩
  have hg2' : Hd (w.heap.size ≤ g2) := ⟨Nat.le_trans hg1'.out hg2⟩
  rw [hv2]
  clear hown2 hgr2 hne2 hv2 hg2 hO2 hown hB4
  go_wp2_with fail
  go_ret2
  exact ⟨g2, c2, by rw [hlen2.out, Hok.out]; rfl, hg2'.out, HO.out, HB2.out⟩

set_option maxHeartbeats 1000000 in
theorem implPutEuc_noa (b off len cap : Nat) (bs : List UInt8) (n x y : Int) (w : World) (hn : bs.length = len) (hc : ∀ j, j < len → w.cell? ⟨b, off + j, none⟩ = some (.int .u8 ((bs.getD j 0).toNat : Int))) (hb : b < w.heap.size) (hl : len ≤ 1073741824) (h1 : n < 0) (Nw : Hd (n ≤ 9223372036854775807)) (H1 : Hd (spA n = x)) (H2 : Hd (spB n = y)) (H3 : Hd (spOk n = false)) (T : Hd (PairsAt w)) :
    Calls Tryz.prog 104 #[.slice (some ⟨b, off, none⟩) len cap, .int .i64 n] w (PutOut w (bs ++ eucB n) (eucOk n)) := by
  obtain ⟨i0, hi, hz0, hz1, hz2⟩ := info_parts info8
  have hn' : Hd (bs.length = len) := ⟨hn⟩
  have hc' : Hd (∀ j, j < len → w.cell? ⟨b, off + j, none⟩ = some (.int .u8 ((bs.getD j 0).toNat : Int))) := ⟨hc⟩
  clear hn hc
  have Hok : Hd (eucOk n = false) := ⟨(eucB_no (by omega) H3.out).2⟩
  have hp : Hd (bs ++ eucB n = bs) := ⟨by rw [(eucB_no (by omega) H3.out).1, List.append_nil]⟩
  go_enter Tryz.func104, Tryz.ntmps104
  go_wp2_with fail
  refine (clone_some b off len cap bs _ hn'.out hc'.out hb hl).mono ?_
  rintro e w1 ⟨g1, c1, rfl, hg, hO, hB⟩
  have hB1 : Hd (Below w.heap.size w w1) := ⟨hB⟩
  have HR1 : Hd (Own w1 g1 c1 bs) := ⟨hO⟩
  have hg1' : Hd (w.heap.size ≤ g1) := ⟨hg⟩
  rw [hn'.out]
  clear hO hB hc' hg
  go_wp2_with fail
  refine (implSignPair_is H1 H2 H3 _ (T.out.below hB1.out) Nw.out).mono ?_
  rintro e w3 ⟨rfl, hB3⟩
  have hB4 : Hd (Below w.heap.size w w3) := ⟨Below.next hB1.out hB3⟩
  replace HR1 : Hd (Own w3 g1 c1 bs) := ⟨HR1.out.below hB3⟩
  clear hB3 hB1
  go_wp2_with fail
  go_ret2
  exact ⟨g1, c1, by rw [hp.out, hn'.out, Hok.out]; rfl, hg1'.out, by rw [hp.out]; exact HR1.out, hB4.out⟩

set_option maxHeartbeats 1000000 in
theorem implPutEuc_nob (b off len cap : Nat) (bs : List UInt8) (n x y : Int) (w : World) (hn : bs.length = len) (hc : ∀ j, j < len → w.cell? ⟨b, off + j, none⟩ = some (.int .u8 ((bs.getD j 0).toNat : Int))) (hb : b < w.heap.size) (hl : len ≤ 1073741824) (h1 : 127 < n) (Nw : Hd (n ≤ 9223372036854775807)) (H1 : Hd (spA n = x)) (H2 : Hd (spB n = y)) (H3 : Hd (spOk n = false)) (T : Hd (PairsAt w)) :
    Calls Tryz.prog 104 #[.slice (some ⟨b, off, none⟩) len cap, .int .i64 n] w (PutOut w (bs ++ eucB n) (eucOk n)) := by
  obtain ⟨i0, hi, hz0, hz1, hz2⟩ := info_parts info8
  have hn' : Hd (bs.length = len) := ⟨hn⟩
  have hc' : Hd (∀ j, j < len → w.cell? ⟨b, off + j, none⟩ = some (.int .u8 ((bs.getD j 0).toNat : Int))) := ⟨hc⟩
  clear hn hc
  have Hok : Hd (eucOk n = false) := ⟨(eucB_no (by omega) H3.out).2⟩
  have hp : Hd (bs ++ eucB n = bs) := ⟨by rw [(eucB_no (by omega) H3.out).1, List.append_nil]⟩
  go_enter Tryz.func104, Tryz.ntmps104
  go_wp2_with fail
  refine (clone_some b off len cap bs _ hn'.out hc'.out hb hl).mono ?_
  rintro e w1 ⟨g1, c1, rfl, hg, hO, hB⟩
  have hB1 : Hd (Below w.heap.size w w1) := ⟨hB⟩
  have HR1 : Hd (Own w1 g1 c1 bs) := ⟨hO⟩
  have hg1' : Hd (w.heap.size ≤ g1) := ⟨hg⟩
  rw [hn'.out]
  clear hO hB hc' hg
  go_wp2_with fail
  refine (implSignPair_is H1 H2 H3 _ (T.out.below hB1.out) Nw.out).mono ?_
  rintro e w3 ⟨rfl, hB3⟩
  have hB4 : Hd (Below w.heap.size w w3) := ⟨Below.next hB1.out hB3⟩
  replace HR1 : Hd (Own w3 g1 c1 bs) := ⟨HR1.out.below hB3⟩
  clear hB3 hB1
  go_wp2_with fail
  go_ret2
  exact ⟨g1, c1, by rw [hp.out, hn'.out, Hok.out]; rfl, hg1'.out, by rw [hp.out]; exact HR1.out, hB4.out⟩

theorem implPutEuc_any (b off len cap : Nat) (bs : List UInt8) (n : Int) (w : World) (hn : bs.length = len) (hc : ∀ j, j < len → w.cell? ⟨b, off + j, none⟩ = some (.int .u8 ((bs.getD j 0).toNat : Int))) (hb : b < w.heap.size) (hl : len ≤ 1073741824) (hm : n ≤ 9223372036854775807) (T : Hd (PairsAt w)) :
    Calls Tryz.prog 104 #[.slice (some ⟨b, off, none⟩) len cap, .int .i64 n] w (PutOut w (bs ++ eucB n) (eucOk n)) := by
  by_cases h : 0 ≤ n ∧ n ≤ 127
  · obtain ⟨k, rfl⟩ : ∃ k : Nat, n = (k : Int) := ⟨n.toNat, by omega⟩
    exact implPutEuc_one b off len cap bs k w hn hc hb hl (by omega)
  · cases ho : spOk n with
    | true =>
      have hi := sp_in n
      exact implPutEuc_two b off len cap bs n (spA n).toNat (spB n).toNat w hn hc hb hl ⟨by omega⟩ ⟨by omega⟩ ⟨ho⟩ T
    | false =>
      rcases (show n < 0 ∨ 127 < n from by omega) with h1 | h1
      · exact implPutEuc_noa b off len cap bs n _ _ w hn hc hb hl h1 ⟨hm⟩ ⟨rfl⟩ ⟨rfl⟩ ⟨ho⟩ T
      · exact implPutEuc_nob b off len cap bs n _ _ w hn hc hb hl h1 ⟨hm⟩ ⟨rfl⟩ ⟨rfl⟩ ⟨ho⟩ T

set_option maxHeartbeats 1000000 in
theorem specPutEuc_one (b off len cap : Nat) (bs : List UInt8) (n : Nat) (w : World) (hn : bs.length = len) (hc : ∀ j, j < len → w.cell? ⟨b, off + j, none⟩ = some (.int .u8 ((bs.getD j 0).toNat : Int))) (hb : b < w.heap.size) (hl : len ≤ 1073741824) (h1 : n < 128) :
    Calls Tryz.prog 97 #[.slice (some ⟨b, off, none⟩) len cap, .int .i64 (n : Int)] w (PutOut w (bs ++ eucB (n : Int)) (eucOk (n : Int))) := by
  obtain ⟨i0, hi, hz0, hz1, hz2⟩ := info_parts info8
  have hn' : Hd (bs.length = len) := ⟨hn⟩
  have hc' : Hd (∀ j, j < len → w.cell? ⟨b, off + j, none⟩ = some (.int .u8 ((bs.getD j 0).toNat : Int))) := ⟨hc⟩
  clear hn hc
  go_enter Tryz.func97, Tryz.ntmps97
  go_wp2_with (at_builtin; refine wpList_append_own _ rfl (.tmp 10) (.tmp 11) 22 rfl w.heap.size 5 i0 (.int .u8 0) 1 1 Tryz.underlying22 hi hz0 hz1 hz2 rfl (by decide) _ 0 [] rfl ?hown ⟨b, off, none⟩ len cap (bs.map cb) rfl ?hl ?hn ?h1 ?h63 ?hby ?hbase ?_)
  case hown => exact World.ownsRow_made w #[] 0 (Nat.le_refl _) (by unfold maxLen; omega) rfl
  case hl => simpa using hn'.out
  case hn => exact map_cb_cell hn'.out (fun j hj => (((Below.refl w.heap.size w).alloc (Nat.le_refl _) _).cell (p := ⟨b, off + j, none⟩) hb).trans (hc'.out j hj))
  case h1 => exact one_cb bs
  case h63 => unfold maxLen; omega
  case hby => omega
  case hbase => simp
  intro v1 w1 hown1 hgr1 hne1
  obtain ⟨g1, c1, hv1, hg1, hR1⟩ := own_row hown1 hne1
  have hB1 : Hd (Below w.heap.size w w1) := ⟨((Below.refl _ w).alloc (Nat.le_refl _) _).grown hgr1 (by simp) (fun k h => by simp [Value.ownBlock] at h; omega)⟩
  have HR1 : Hd (Own w1 g1 c1 bs) := ⟨hR1⟩
  have hg1' : Hd (w.heap.size ≤ g1) := ⟨hg1⟩
  rw [hv1]
  clear hown1 hgr1 hne1 hv1 hR1 hc' hg1
  have Hok : Hd (eucOk (n : Int) = true) := ⟨(eucB_one h1).2⟩
  have hp : Hd ([.int .u8 (n : Int)] = (eucB (n : Int)).map cb) := ⟨by
    rw [(eucB_one h1).1]
    simp only [List.map_cons, List.map_nil]
    rw [← cb_int (x := (n : Int)) (by rw [bt_val _ (by omega)])]⟩
  have n1 : (n : Int) ≤ 127 := by omega
  have hin : inB (n : Int) 0 127 = true := in_t (by omega)
  go_wp2_with fail
  refine (l1In_any _ _ _ _).mono ?_
  rintro e w' ⟨rfl, hw⟩
  replace hw := hw.symm
  subst hw
  have hown : Hd (w1.ownsRow g1 5 1 (.slice (some ⟨g1, 0, none⟩) len c1) len (bs.map cb)) := ⟨HR1.out.owns hn'.out (Nat.le_refl _)⟩
  have hlt : Hd (g1 < w1.heap.size) := ⟨HR1.out.lt⟩
  have hlen : Hd (((eucB (n : Int)).map cb).length = 1) := ⟨by rw [← hp.out]; rfl⟩
  have hlen2 : Hd ((bs ++ (eucB (n : Int))).length = len + 1) := ⟨by have := hlen.out; have := hn'.out; simp at *; omega⟩
  clear HR1
  go_wp2_with (at_builtin; refine wpList_append_own _ rfl (.tmp 15) (.tmp 18) 22 rfl g1 5 i0 (.int .u8 0) 1 1 Tryz.underlying22 hi hz0 hz1 hz2 rfl (by decide) _ len (bs.map cb) rfl ?hown ⟨w1.heap.size, 0, none⟩ 1 1 ((eucB (n : Int)).map cb) rfl ?hl ?hn ?h1 ?h63 ?hby ?hbase ?_)
  case hown => exact hown.out.alloc _
  case hl => rw [hlen.out]
  case hn => exact built_cells w1 _ _ _ hp.out
  case h1 => exact one_cb _
  case h63 => unfold maxLen; omega
  case hby => omega
  case hbase => have := hlt.out; simp; omega
  intro v2 w2 hown2 hgr2 hne2
  rw [← List.map_append] at hown2
  obtain ⟨g2, c2, hv2, hg2, hO2⟩ := own_row hown2 (by simpa using hne2)
  have HO : Hd (Own w2 g2 c2 (bs ++ (eucB (n : Int)))) := ⟨hO2⟩
  have HB2 : Hd (Below w.heap.size w w2) := ⟨hB1.out.grown (grown_of_alloc hgr2) hB1.out.size (fun k h => by simp [Value.ownBlock] at h; have := hg1'.out; omega)⟩
  have hg2' : Hd (w.heap.size ≤ g2) := ⟨Nat.le_trans hg1'.out hg2⟩
  rw [hv2]
  clear hown2 hgr2 hne2 hv2 hg2 hO2 hown hB1
  go_wp2_with fail
  go_ret2
  exact ⟨g2, c2, by rw [hlen2.out, Hok.out]; rfl, hg2'.out, HO.out, HB2.out⟩

set_option maxHeartbeats 1000000 in
theorem specPutEuc_two (b off len cap : Nat) (bs : List UInt8) (n : Int) (x y : Nat) (w : World) (hn : bs.length = len) (hc : ∀ j, j < len → w.cell? ⟨b, off + j, none⟩ = some (.int .u8 ((bs.getD j 0).toNat : Int))) (hb : b < w.heap.size) (hl : len ≤ 1073741824) (H1 : Hd (spA n = (x : Int))) (H2 : Hd (spB n = (y : Int))) (H3 : Hd (spOk n = true)) :
    Calls Tryz.prog 97 #[.slice (some ⟨b, off, none⟩) len cap, .int .i64 n] w (PutOut w (bs ++ eucB n) (eucOk n)) := by
  obtain ⟨i0, hi, hz0, hz1, hz2⟩ := info_parts info8
  have hn' : Hd (bs.length = len) := ⟨hn⟩
  have hc' : Hd (∀ j, j < len → w.cell? ⟨b, off + j, none⟩ = some (.int .u8 ((bs.getD j 0).toNat : Int))) := ⟨hc⟩
  clear hn hc
  have hx2 : (x : Int) < 256 := by have := sp_in n; have := H1.out; omega
  have hy2 : (y : Int) < 256 := by have := sp_in n; have := H2.out; omega
  have n1 : 127 < n := (sp_above H3.out).1
  have Nw : Hd (n ≤ 9223372036854775807) := ⟨(sp_above H3.out).2⟩
  have Hok : Hd (eucOk n = true) := ⟨(eucB_two H3.out H1.out H2.out).2⟩
  have hp : Hd ([.int .u8 (x : Int), .int .u8 (y : Int)] = (eucB n).map cb) := ⟨by
    rw [(eucB_two H3.out H1.out H2.out).1]
    simp only [List.map_cons, List.map_nil]
    rw [← cb_int (x := (x : Int)) (by rw [bt_val _ (by omega)]), ← cb_int (x := (y : Int)) (by rw [bt_val _ (by omega)])]⟩
  go_enter Tryz.func97, Tryz.ntmps97
  go_wp2_with (at_builtin; refine wpList_append_own _ rfl (.tmp 10) (.tmp 11) 22 rfl w.heap.size 5 i0 (.int .u8 0) 1 1 Tryz.underlying22 hi hz0 hz1 hz2 rfl (by decide) _ 0 [] rfl ?hown ⟨b, off, none⟩ len cap (bs.map cb) rfl ?hl ?hn ?h1 ?h63 ?hby ?hbase ?_)
  case hown => exact World.ownsRow_made w #[] 0 (Nat.le_refl _) (by unfold maxLen; omega) rfl
  case hl => simpa using hn'.out
  case hn => exact map_cb_cell hn'.out (fun j hj => (((Below.refl w.heap.size w).alloc (Nat.le_refl _) _).cell (p := ⟨b, off + j, none⟩) hb).trans (hc'.out j hj))
  case h1 => exact one_cb bs
  case h63 => unfold maxLen; omega
  case hby => omega
  case hbase => simp
  intro v1 w1 hown1 hgr1 hne1
  obtain ⟨g1, c1, hv1, hg1, hR1⟩ := own_row hown1 hne1
  have hB1 : Hd (Below w.heap.size w w1) := ⟨((Below.refl _ w).alloc (Nat.le_refl _) _).grown hgr1 (by simp) (fun k h => by simp [Value.ownBlock] at h; omega)⟩
  have HR1 : Hd (Own w1 g1 c1 bs) := ⟨hR1⟩
  have hg1' : Hd (w.heap.size ≤ g1) := ⟨hg1⟩
  rw [hv1]
  clear hown1 hgr1 hne1 hv1 hR1 hc' hg1
  have hin : inB n 0 127 = false := in_f (by omega)
  go_wp2_with fail
  refine (l1In_any _ _ _ _).mono ?_
  rintro e w' ⟨rfl, hw⟩
  replace hw := hw.symm
  subst hw
  go_wp2_with fail
  refine (specSignPair_is H1 H2 H3 _).mono ?_
  rintro e w3 ⟨rfl, hw⟩
  replace hw := hw.symm
  subst hw
  have hown : Hd (w1.ownsRow g1 5 1 (.slice (some ⟨g1, 0, none⟩) len c1) len (bs.map cb)) := ⟨HR1.out.owns hn'.out (Nat.le_refl _)⟩
  have hlt : Hd (g1 < w1.heap.size) := ⟨HR1.out.lt⟩
  have hlen : Hd (((eucB n).map cb).length = 2) := ⟨by rw [← hp.out]; rfl⟩
  have hlen2 : Hd ((bs ++ (eucB n)).length = len + 2) := ⟨by have := hlen.out; have := hn'.out; simp at *; omega⟩
  clear HR1
  go_wp2_with (at_builtin; refine wpList_append_own _ rfl (.tmp 29) (.tmp 34) 22 rfl g1 5 i0 (.int .u8 0) 1 1 Tryz.underlying22 hi hz0 hz1 hz2 rfl (by decide) _ len (bs.map cb) rfl ?hown ⟨w1.heap.size, 0, none⟩ 2 2 ((eucB n).map cb) rfl ?hl ?hn ?h1 ?h63 ?hby ?hbase ?_)
  case hown => exact hown.out.alloc _
  case hl => rw [hlen.out]
  case hn => exact built_cells w1 _ _ _ hp.out
  case h1 => exact one_cb _
  case h63 => unfold maxLen; omega
  case hby => omega
  case hbase => have := hlt.out; simp; omega
  intro v2 w2 hown2 hgr2 hne2
  rw [← List.map_append] at hown2
  obtain ⟨g2, c2, hv2, hg2, hO2⟩ := own_row hown2 (by simpa using hne2)
  have HO : Hd (Own w2 g2 c2 (bs ++ (eucB n))) := ⟨hO2⟩
  have HB2 : Hd (Below w.heap.size w w2) := ⟨hB1.out.grown (grown_of_alloc hgr2) hB1.out.size (fun k h => by simp [Value.ownBlock] at h; have := hg1'.out; omega)⟩
  have hg2' : Hd (w.heap.size ≤ g2) := ⟨Nat.le_trans hg1'.out hg2⟩
  rw [hv2]
  clear hown2 hgr2 hne2 hv2 hg2 hO2 hown hB1
  go_wp2_with fail
  go_ret2
  exact ⟨g2, c2, by rw [hlen2.out, Hok.out]; rfl, hg2'.out, HO.out, HB2.out⟩

set_option maxHeartbeats 1000000 in
theorem specPutEuc_noa (b off len cap : Nat) (bs : List UInt8) (n x y : Int) (w : World) (hn : bs.length = len) (hc : ∀ j, j < len → w.cell? ⟨b, off + j, none⟩ = some (.int .u8 ((bs.getD j 0).toNat : Int))) (hb : b < w.heap.size) (hl : len ≤ 1073741824) (h1 : n < 0) (H1 : Hd (spA n = x)) (H2 : Hd (spB n = y)) (H3 : Hd (spOk n = false)) :
    Calls Tryz.prog 97 #[.slice (some ⟨b, off, none⟩) len cap, .int .i64 n] w (PutOut w (bs ++ eucB n) (eucOk n)) := by
  obtain ⟨i0, hi, hz0, hz1, hz2⟩ := info_parts info8
  have hn' : Hd (bs.length = len) := ⟨hn⟩
  have hc' : Hd (∀ j, j < len → w.cell? ⟨b, off + j, none⟩ = some (.int .u8 ((bs.getD j 0).toNat : Int))) := ⟨hc⟩
  clear hn hc
  have Hok : Hd (eucOk n = false) := ⟨(eucB_no (by omega) H3.out).2⟩
  have hp : Hd (bs ++ eucB n = bs) := ⟨by rw [(eucB_no (by omega) H3.out).1, List.append_nil]⟩
  go_enter Tryz.func97, Tryz.ntmps97
  go_wp2_with (at_builtin; refine wpList_append_own _ rfl (.tmp 10) (.tmp 11) 22 rfl w.heap.size 5 i0 (.int .u8 0) 1 1 Tryz.underlying22 hi hz0 hz1 hz2 rfl (by decide) _ 0 [] rfl ?hown ⟨b, off, none⟩ len cap (bs.map cb) rfl ?hl ?hn ?h1 ?h63 ?hby ?hbase ?_)
  case hown => exact World.ownsRow_made w #[] 0 (Nat.le_refl _) (by unfold maxLen; omega) rfl
  case hl => simpa using hn'.out
  case hn => exact map_cb_cell hn'.out (fun j hj => (((Below.refl w.heap.size w).alloc (Nat.le_refl _) _).cell (p := ⟨b, off + j, none⟩) hb).trans (hc'.out j hj))
  case h1 => exact one_cb bs
  case h63 => unfold maxLen; omega
  case hby => omega
  case hbase => simp
  intro v1 w1 hown1 hgr1 hne1
  obtain ⟨g1, c1, hv1, hg1, hR1⟩ := own_row hown1 hne1
  have hB1 : Hd (Below w.heap.size w w1) := ⟨((Below.refl _ w).alloc (Nat.le_refl _) _).grown hgr1 (by simp) (fun k h => by simp [Value.ownBlock] at h; omega)⟩
  have HR1 : Hd (Own w1 g1 c1 bs) := ⟨hR1⟩
  have hg1' : Hd (w.heap.size ≤ g1) := ⟨hg1⟩
  rw [hv1]
  clear hown1 hgr1 hne1 hv1 hR1 hc' hg1
  have hin : inB n 0 127 = false := in_f (by omega)
  go_wp2_with fail
  refine (l1In_any _ _ _ _).mono ?_
  rintro e w' ⟨rfl, hw⟩
  replace hw := hw.symm
  subst hw
  go_wp2_with fail
  refine (specSignPair_is H1 H2 H3 _).mono ?_
  rintro e w3 ⟨rfl, hw⟩
  replace hw := hw.symm
  subst hw
  go_wp2_with fail
  go_ret2
  exact ⟨g1, c1, by rw [hp.out, hn'.out, Hok.out]; rfl, hg1'.out, by rw [hp.out]; exact HR1.out, hB1.out⟩

set_option maxHeartbeats 1000000 in
theorem specPutEuc_nob (b off len cap : Nat) (bs : List UInt8) (n x y : Int) (w : World) (hn : bs.length = len) (hc : ∀ j, j < len → w.cell? ⟨b, off + j, none⟩ = some (.int .u8 ((bs.getD j 0).toNat : Int))) (hb : b < w.heap.size) (hl : len ≤ 1073741824) (h1 : 127 < n) (H1 : Hd (spA n = x)) (H2 : Hd (spB n = y)) (H3 : Hd (spOk n = false)) :
    Calls Tryz.prog 97 #[.slice (some ⟨b, off, none⟩) len cap, .int .i64 n] w (PutOut w (bs ++ eucB n) (eucOk n)) := by
  obtain ⟨i0, hi, hz0, hz1, hz2⟩ := info_parts info8
  have hn' : Hd (bs.length = len) := ⟨hn⟩
  have hc' : Hd (∀ j, j < len → w.cell? ⟨b, off + j, none⟩ = some (.int .u8 ((bs.getD j 0).toNat : Int))) := ⟨hc⟩
  clear hn hc
  have Hok : Hd (eucOk n = false) := ⟨(eucB_no (by omega) H3.out).2⟩
  have hp : Hd (bs ++ eucB n = bs) := ⟨by rw [(eucB_no (by omega) H3.out).1, List.append_nil]⟩
  go_enter Tryz.func97, Tryz.ntmps97
  go_wp2_with (at_builtin; refine wpList_append_own _ rfl (.tmp 10) (.tmp 11) 22 rfl w.heap.size 5 i0 (.int .u8 0) 1 1 Tryz.underlying22 hi hz0 hz1 hz2 rfl (by decide) _ 0 [] rfl ?hown ⟨b, off, none⟩ len cap (bs.map cb) rfl ?hl ?hn ?h1 ?h63 ?hby ?hbase ?_)
  case hown => exact World.ownsRow_made w #[] 0 (Nat.le_refl _) (by unfold maxLen; omega) rfl
  case hl => simpa using hn'.out
  case hn => exact map_cb_cell hn'.out (fun j hj => (((Below.refl w.heap.size w).alloc (Nat.le_refl _) _).cell (p := ⟨b, off + j, none⟩) hb).trans (hc'.out j hj))
  case h1 => exact one_cb bs
  case h63 => unfold maxLen; omega
  case hby => omega
  case hbase => simp
  intro v1 w1 hown1 hgr1 hne1
  obtain ⟨g1, c1, hv1, hg1, hR1⟩ := own_row hown1 hne1
  have hB1 : Hd (Below w.heap.size w w1) := ⟨((Below.refl _ w).alloc (Nat.le_refl _) _).grown hgr1 (by simp) (fun k h => by simp [Value.ownBlock] at h; omega)⟩
  have HR1 : Hd (Own w1 g1 c1 bs) := ⟨hR1⟩
  have hg1' : Hd (w.heap.size ≤ g1) := ⟨hg1⟩
  rw [hv1]
  clear hown1 hgr1 hne1 hv1 hR1 hc' hg1
  have hin : inB n 0 127 = false := in_f (by omega)
  go_wp2_with fail
  refine (l1In_any _ _ _ _).mono ?_
  rintro e w' ⟨rfl, hw⟩
  replace hw := hw.symm
  subst hw
  go_wp2_with fail
  refine (specSignPair_is H1 H2 H3 _).mono ?_
  rintro e w3 ⟨rfl, hw⟩
  replace hw := hw.symm
  subst hw
  go_wp2_with fail
  go_ret2
  exact ⟨g1, c1, by rw [hp.out, hn'.out, Hok.out]; rfl, hg1'.out, by rw [hp.out]; exact HR1.out, hB1.out⟩

theorem specPutEuc_any (b off len cap : Nat) (bs : List UInt8) (n : Int) (w : World) (hn : bs.length = len) (hc : ∀ j, j < len → w.cell? ⟨b, off + j, none⟩ = some (.int .u8 ((bs.getD j 0).toNat : Int))) (hb : b < w.heap.size) (hl : len ≤ 1073741824) :
    Calls Tryz.prog 97 #[.slice (some ⟨b, off, none⟩) len cap, .int .i64 n] w (PutOut w (bs ++ eucB n) (eucOk n)) := by
  by_cases h : 0 ≤ n ∧ n ≤ 127
  · obtain ⟨k, rfl⟩ : ∃ k : Nat, n = (k : Int) := ⟨n.toNat, by omega⟩
    exact specPutEuc_one b off len cap bs k w hn hc hb hl (by omega)
  · cases ho : spOk n with
    | true =>
      have hi := sp_in n
      exact specPutEuc_two b off len cap bs n (spA n).toNat (spB n).toNat w hn hc hb hl ⟨by omega⟩ ⟨by omega⟩ ⟨ho⟩
    | false =>
      rcases (show n < 0 ∨ 127 < n from by omega) with h1 | h1
      · exact specPutEuc_noa b off len cap bs n _ _ w hn hc hb hl h1 ⟨rfl⟩ ⟨rfl⟩ ⟨ho⟩
      · exact specPutEuc_nob b off len cap bs n _ _ w hn hc hb hl h1 ⟨rfl⟩ ⟨rfl⟩ ⟨ho⟩

end Go.Proofs.YtpafjehphajbhaaGreatDoor
