/- Contracts of Turn and SameText, in the specification. -/
import Derived.Test.YtpafjehphajbhaaGreatDoorCellT
import Derived.Deep.RegionHeldLaw
namespace Go.Proofs.YtpafjehphajbhaaGreatDoor
set_option maxRecDepth 4000
open Go.RowKit

set_option maxHeartbeats 1000000 in
theorem l8Copy_some (tag : Int) (q n c : Nat) (bs : List UInt8) (w : World) (h : Lies w q n bs) (hl : n ≤ 1048576) :
    Calls Tryz.prog 76 #[.agg #[.int .i64 tag, .slice (some ⟨q, 0, none⟩) n c]] w fun e w' => ∃ g c', e = .returned (.agg #[.int .i64 tag, .slice (some ⟨g, 0, none⟩) n c']) ∧ w.heap.size ≤ g ∧ Own w' g c' bs ∧ Below w.heap.size w w' := by
  have HL : Hd (Lies w q n bs) := ⟨h⟩
  clear h
  go_enter Tryz.func76, Tryz.ntmps76
  go_wp2_with fail
  go_region_held_law (fun w' => w'.cell? ⟨w.heap.size, 0, none⟩ = some (.int .i64 tag) ∧ w'.cell? ⟨w.heap.size, 1, none⟩ = some (.slice (some ⟨q, 0, none⟩) n c)) (first | go_keep)
    (first | (refine step_app rfl (.tmp 5) (.tmp 7) rfl (w.heap.size + 2) _ 0 0 [] bs rfl (emp1 ((w.alloc (.cells #[.int .i64 tag, .slice (some ⟨q, 0, none⟩) n c] 27)).alloc (.cells #[.int .i64 0, .slice none 0 0] 27)) _ (by simp)) rfl (by omega) (by simp <;> omega) ⟨q, 0, none⟩ n c rfl HL.out.size (map_cb_cell HL.out.size (fun j hj => cell_below (HL.out.cell j hj) (below_lit3 _ _ _ _).drew)) (by omega) ?_
              intro g cap w1 hO hG hA hP
              have k0 := grown_cell hG (a := ⟨w.heap.size, 0, none⟩) (v := .int .i64 tag) (by go_simp) (by show w.heap.size ≠ _; omega)
              have k1 := grown_cell hG (a := ⟨w.heap.size, 1, none⟩) (v := .slice (some ⟨q, 0, none⟩) n c) (by go_simp) (by show w.heap.size ≠ _; omega)
              have m0 := grown_cell hG (a := ⟨w.heap.size + 1, 0, none⟩) (v := .int .i64 0) (by go_simp) (by show w.heap.size + 1 ≠ _; omega)
              have f0 := grown_free hG (a := ⟨w.heap.size + 1, 0, none⟩) (v := .int .i64 0) (by go_simp) (by go_simp) (by show w.heap.size + 1 ≠ _; omega)
              have m1 := grown_cell hG (a := ⟨w.heap.size + 1, 1, none⟩) (v := .slice none 0 0) (by go_simp) (by show w.heap.size + 1 ≠ _; omega)
              have f1 := grown_free hG (a := ⟨w.heap.size + 1, 1, none⟩) (v := .slice none 0 0) (by go_simp) (by go_simp) (by show w.heap.size + 1 ≠ _; omega)
              replace hO : Hd _ := ⟨hO⟩
              replace hG : Hd _ := ⟨hG⟩
              replace hA : Hd _ := ⟨hA⟩
              replace hP : Hd _ := ⟨hP⟩))
  have HK : Hd (w1.heap[w.heap.size + 1]? = some (.cells #[.int .i64 0, .slice none 0 0] 27 (0, 0))) := ⟨grown_block hG.out (laid3 w _ _ _).2.1 (by omega)⟩
  have HB : Hd (Below w.heap.size w w1) := ⟨below_grows (below_lit3 w _ _ _).drew hG.out (by simp; omega) (by omega)⟩
  have hg := hP.out
  go_wp2_with fail
  refine bodyPost_ret (results_cell_row rfl _ _ (w.heap.size + 1) _ _ (0, 0) _ rfl (set2 _ _ HK.out) Tryz.underlying27 rfl (by kernel_rfl)) rfl ?_
  exact ⟨g, cap, rfl, by omega, (hO.out.of_block (block_set rfl (by omega))).of_block (block_set rfl (by omega)), bset (bset HB.out _ (by omega)) _ (by omega)⟩

set_option maxHeartbeats 1000000 in
theorem l8Copy_nil (tag : Int) (w : World) :
    Calls Tryz.prog 76 #[.agg #[.int .i64 tag, .slice none 0 0]] w fun e w' => ∃ g c', e = .returned (.agg #[.int .i64 tag, .slice (some ⟨g, 0, none⟩) 0 c']) ∧ w.heap.size ≤ g ∧ Own w' g c' [] ∧ Below w.heap.size w w' := by
  go_enter Tryz.func76, Tryz.ntmps76
  go_wp2_with fail
  go_region_held_law (fun w' => w'.cell? ⟨w.heap.size, 0, none⟩ = some (.int .i64 tag) ∧ w'.cell? ⟨w.heap.size, 1, none⟩ = some (.slice none 0 0)) (first | go_keep)
    (refine step_app_nil rfl (.tmp 5) (.tmp 7) rfl _ 0 0 rfl rfl (Nat.le_refl _) ?_)
  go_wp2_with fail
  refine bodyPost_ret (results_cell_row rfl _ _ (w.heap.size + 1) _ _ (0, 0) _ rfl (laid3 w _ _ _).2.1 Tryz.underlying27 rfl (by kernel_rfl)) rfl ?_
  exact ⟨w.heap.size + 1 + 1, 0, rfl, by omega, emp1 ((w.alloc _).alloc _) _ (by simp), (below_lit3 w _ _ _).drew⟩

theorem l8Copy_o (tag : Int) (ao : Option Addr) (n c : Nat) (bs : List UInt8) (w : World) (h : CellAt w ao n c bs) (hl : n ≤ 1048576) :
    Calls Tryz.prog 76 #[.agg #[.int .i64 tag, .slice ao n c]] w fun e w' => ∃ g c', e = .returned (.agg #[.int .i64 tag, .slice (some ⟨g, 0, none⟩) n c']) ∧ w.heap.size ≤ g ∧ Own w' g c' bs ∧ Below w.heap.size w w' := by
  rcases h with ⟨rfl, rfl, rfl, rfl⟩ | ⟨q, rfl, _, h3⟩
  · exact l8Copy_nil tag w
  · exact l8Copy_some tag q n c bs w h3 hl

theorem two_at {w w1 : World} {v : Value} {tag : Int} {B : Obj} (hb : Below ((w.alloc (.cells #[.int .i64 tag, v] 27)).alloc B).heap.size ((w.alloc (.cells #[.int .i64 tag, v] 27)).alloc B) w1) :
    w1.heap[w.heap.size]? = some (.cells #[.int .i64 tag, v] 27 (0, 0)) ∧ w1.heap[w.heap.size + 1]? = some B := by
  obtain ⟨h1, h2⟩ := laid2 w (.cells #[.int .i64 tag, v] 27) B
  exact ⟨(hb.block _ (by simp; omega)).trans h1, (hb.block _ (by simp)).trans h2⟩
theorem OwnO.of_set {w : World} {B q j c : Nat} {v : Value} {ao : Option Addr} {bs : List UInt8} (h : OwnO w B ao c bs) (hq : q < B) : OwnO (w.setCell ⟨q, j, none⟩ v) B ao c bs := by
  rcases h with h | ⟨g, rfl, h1, hO⟩
  · exact .inl h
  · exact .inr ⟨g, rfl, h1, hO.of_block (block_set rfl (by omega))⟩

set_option maxHeartbeats 1000000 in
theorem specTurn_any (tag : Int) (ao : Option Addr) (n c : Nat) (bs : List UInt8) (to : Int) (w : World) (h : CellAt w ao n c bs) (hl : n ≤ 1048576) :
    Calls Tryz.prog 54 #[.agg #[.int .i64 tag, .slice ao n c], .int .i64 to] w (CellOut w (nTag tag bs to) (nB tag bs to) (nOk tag bs to)) := by
  have HC : Hd (CellAt w ao n c bs) := ⟨h⟩
  have Hn : Hd (bs.length = n) := ⟨h.size⟩
  obtain ⟨S, hS⟩ : ∃ S, (tS tag bs).toArray = S := ⟨_, rfl⟩
  have HS : Hd ((tS tag bs).toArray = S) := ⟨hS⟩
  have HL : Hd ((⟨S⟩ : ByteArray).data.toList = tS tag bs) := ⟨by rw [← hS]⟩
  have HZ : Hd ((⟨S⟩ : ByteArray).size ≤ 1048576) := ⟨by rw [← hS, size_of]; have := tS_len tag bs; omega⟩
  obtain ⟨ok1, ho1⟩ : ∃ ok1, tOk tag bs = ok1 := ⟨_, rfl⟩
  have HO1 : Hd (tOk tag bs = ok1) := ⟨ho1⟩
  obtain ⟨ok2, ho2⟩ : ∃ ok2, oOk to (tS tag bs) = ok2 := ⟨_, rfl⟩
  have HO2 : Hd (oOk to (tS tag bs) = ok2) := ⟨ho2⟩
  obtain ⟨ys, hys⟩ : ∃ ys, oB to (tS tag bs) = ys := ⟨_, rfl⟩
  have HY : Hd (oB to (tS tag bs) = ys) := ⟨hys⟩
  obtain ⟨x, hx⟩ : ∃ x, oTag to (tS tag bs) = x := ⟨_, rfl⟩
  have HX : Hd (oTag to (tS tag bs) = x) := ⟨hx⟩
  have E1 : Hd (nOk tag bs to = (ok1 && ok2)) := ⟨by unfold nOk; rw [ho1, ho2]⟩
  have E2 : Hd (ok1 = true → ok2 = true → nTag tag bs to = x ∧ nB tag bs to = ys) := ⟨fun h1 h2 => by
    have hk : nOk tag bs to = true := by unfold nOk; rw [ho1, ho2, h1, h2]; rfl
    have h3 := oOk_t (ho2.trans h2)
    have h4 := nOk_t hk
    exact ⟨by rw [h4.2.2.1, ← hx, h3.2.2.1], by rw [h4.2.2.2, ← hys, h3.2.2.2]⟩⟩
  have E3 : Hd ((ok1 && ok2) = false → nTag tag bs to = tag ∧ nB tag bs to = bs) := ⟨fun h1 => nOk_f (by unfold nOk; rw [ho1, ho2]; exact h1)⟩
  rw [E1.out]
  clear h hS ho1 ho2 hys hx
  go_enter Tryz.func54, Tryz.ntmps54
  go_wp2_with fail
  refine (specCellText_any tag ao n c bs _ (HC.out.below (below_lit2 w _ _)) hl).mono ?_
  rintro e w1 ⟨rfl, hB1⟩
  rewrite [HO1.out, HS.out]
  obtain ⟨l1, l2⟩ := two_at hB1
  have A1 : Hd (w1.heap[w.heap.size]? = some (.cells #[.int .i64 tag, .slice ao n c] 27 (0, 0))) := ⟨l1⟩
  have R1 : Hd (w1.heap[w.heap.size + 1]? = some (.cells #[.int .i64 0, .slice none 0 0] 27 (0, 0))) := ⟨l2⟩
  have B1 : Hd (Below w.heap.size w w1) := ⟨Below.next (below_lit2 w _ _) hB1⟩
  clear hB1 l1 l2
  go_wp2_with fail
  refine (specCellOf_any to ⟨S⟩ _ HZ.out).mono ?_
  rewrite [HL.out, HO2.out, HY.out, HX.out]
  rintro e w2 ⟨ao2, n2, c2, rfl, hn2, hO2, _, hB2⟩
  have A2 : Hd (w2.heap[w.heap.size]? = some (.cells #[.int .i64 tag, .slice ao n c] 27 (0, 0))) := ⟨(hB2.block _ (lt_of_block A1.out)).trans A1.out⟩
  have R2 : Hd (w2.heap[w.heap.size + 1]? = some (.cells #[.int .i64 0, .slice none 0 0] 27 (0, 0))) := ⟨(hB2.block _ (lt_of_block R1.out)).trans R1.out⟩
  have B2 : Hd (Below w.heap.size w w2) := ⟨Below.next B1.out hB2⟩
  have hs2 : w.heap.size + 1 < w1.heap.size := lt_of_block R1.out
  have hs3 : w1.heap.size ≤ w2.heap.size := hB2.size
  have O2 : Hd (OwnO w2 w1.heap.size ao2 c2 ys) := ⟨hO2.mono (by omega)⟩
  have N2 : Hd (ys.length = n2) := ⟨hn2⟩
  have hb3 : Below w2.heap.size w2 (w2.alloc (.cells #[.int .i64 x, .slice ao2 n2 c2] 27)) := below_lit w2 _
  have A3 : Hd ((w2.alloc (.cells #[.int .i64 x, .slice ao2 n2 c2] 27)).heap[w.heap.size]? = some (.cells #[.int .i64 tag, .slice ao n c] 27 (0, 0))) := ⟨(hb3.block _ (lt_of_block A2.out)).trans A2.out⟩
  have R3 : Hd ((w2.alloc (.cells #[.int .i64 x, .slice ao2 n2 c2] 27)).heap[w.heap.size + 1]? = some (.cells #[.int .i64 0, .slice none 0 0] 27 (0, 0))) := ⟨(hb3.block _ (lt_of_block R2.out)).trans R2.out⟩
  have B3 : Hd (Below w.heap.size w (w2.alloc (.cells #[.int .i64 x, .slice ao2 n2 c2] 27))) := ⟨Below.next B2.out hb3⟩
  have O3 : Hd (OwnO (w2.alloc (.cells #[.int .i64 x, .slice ao2 n2 c2] 27)) (w.heap.size + 2) ao2 c2 ys) := ⟨(O2.out.below hb3).mono (by omega)⟩
  obtain ⟨a0, a1, _, _⟩ := cells2 _ w.heap.size _ _ _ A3.out
  obtain ⟨r0, r1, r2, r3⟩ := cells2 _ (w.heap.size + 1) _ _ _ R3.out
  clear hB2 hO2 hn2 A1 R1 B1 A2 R2 B2 O2 hb3
  by_cases hk : (ok1 && ok2) = true
  · obtain ⟨rfl, rfl⟩ : ok1 = true ∧ ok2 = true := by simpa using hk
    obtain ⟨t1, t2⟩ := E2.out rfl rfl
    have T1 : Hd (nTag tag bs to = x) := ⟨t1⟩
    have T2 : Hd (nB tag bs to = ys) := ⟨t2⟩
    clear t1 t2 hk E1 E2 E3
    go_wp2_with fail
    refine bodyPost_ret (results_row_tmp rfl _ _ (w.heap.size + 1) _ _ (0, 0) _ rfl (set2 _ _ R3.out) Tryz.underlying27 rfl (by kernel_rfl)) rfl ?_
    exact ⟨ao2, n2, c2, by rw [T1.out]; rfl, by rw [T2.out]; exact N2.out, by rw [T2.out]; exact ((O3.out.of_set (by omega)).of_set (by omega)).mono (by omega), by have := lt_of_block R3.out; simp at this ⊢; omega, bset (bset B3.out _ (by omega)) _ (by omega)⟩
  · have hkf : (ok1 && ok2) = false := by simpa using hk
    obtain ⟨t1, t2⟩ := E3.out hkf
    have T1 : Hd (nTag tag bs to = tag) := ⟨t1⟩
    have T2 : Hd (nB tag bs to = bs) := ⟨t2⟩
    have T3 : Hd ((ok1 && ok2) = false) := ⟨hkf⟩
    have hd : ok1 = false ∨ (ok1 = true ∧ ok2 = false) := by cases ok1 <;> cases ok2 <;> simp_all
    rw [hkf]
    clear t1 t2 hk hkf E1 E2 E3 r0 r1 r2 r3 O3 N2
    rcases hd with rfl | ⟨rfl, rfl⟩
    · go_wp2_with fail
      refine (l8Copy_o tag ao n c bs _ (HC.out.below B3.out) hl).mono ?_
      rintro e w4 ⟨g4, c4, rfl, hg4, hO4, hB4⟩
      have R4 : Hd (w4.heap[w.heap.size + 1]? = some (.cells #[.int .i64 0, .slice none 0 0] 27 (0, 0))) := ⟨(hB4.block _ (lt_of_block R3.out)).trans R3.out⟩
      obtain ⟨r0, r1, r2, r3⟩ := cells2 _ (w.heap.size + 1) _ _ _ R4.out
      have B4 : Hd (Below w.heap.size w w4) := ⟨Below.next B3.out hB4⟩
      have hg5 : w.heap.size + 1 < g4 := by simp at hg4; omega
      have O4 : Hd (Own w4 g4 c4 bs) := ⟨hO4⟩
      clear hB4 hO4 hg4 R3 B3 A3 a0 a1
      go_wp2_with fail
      refine bodyPost_ret (results_row_tmp rfl _ _ (w.heap.size + 1) _ _ (0, 0) _ rfl (set2 _ _ R4.out) Tryz.underlying27 rfl (by kernel_rfl)) rfl ?_
      exact ⟨some ⟨g4, 0, none⟩, n, c4, by rw [T1.out]; rfl, by rw [T2.out]; exact Hn.out, by rw [T2.out]; exact .inr ⟨g4, rfl, by omega, (O4.out.of_block (block_set rfl (by omega))).of_block (block_set rfl (by omega))⟩, by have := lt_of_block R4.out; simp at this ⊢; omega, bset (bset B4.out _ (by omega)) _ (by omega)⟩
    · go_wp2_with fail
      refine (l8Copy_o tag ao n c bs _ (HC.out.below B3.out) hl).mono ?_
      rintro e w4 ⟨g4, c4, rfl, hg4, hO4, hB4⟩
      have R4 : Hd (w4.heap[w.heap.size + 1]? = some (.cells #[.int .i64 0, .slice none 0 0] 27 (0, 0))) := ⟨(hB4.block _ (lt_of_block R3.out)).trans R3.out⟩
      obtain ⟨r0, r1, r2, r3⟩ := cells2 _ (w.heap.size + 1) _ _ _ R4.out
      have B4 : Hd (Below w.heap.size w w4) := ⟨Below.next B3.out hB4⟩
      have hg5 : w.heap.size + 1 < g4 := by simp at hg4; omega
      have O4 : Hd (Own w4 g4 c4 bs) := ⟨hO4⟩
      clear hB4 hO4 hg4 R3 B3 A3 a0 a1
      go_wp2_with fail
      refine bodyPost_ret (results_row_tmp rfl _ _ (w.heap.size + 1) _ _ (0, 0) _ rfl (set2 _ _ R4.out) Tryz.underlying27 rfl (by kernel_rfl)) rfl ?_
      exact ⟨some ⟨g4, 0, none⟩, n, c4, by rw [T1.out]; rfl, by rw [T2.out]; exact Hn.out, by rw [T2.out]; exact .inr ⟨g4, rfl, by omega, (O4.out.of_block (block_set rfl (by omega))).of_block (block_set rfl (by omega))⟩, by have := lt_of_block R4.out; simp at this ⊢; omega, bset (bset B4.out _ (by omega)) _ (by omega)⟩

set_option maxHeartbeats 400000 in
theorem specSameText_any (t1 : Int) (o1 : Option Addr) (n1 c1 : Nat) (b1 : List UInt8) (t2 : Int) (o2 : Option Addr) (n2 c2 : Nat) (b2 : List UInt8) (w : World) (h1 : CellAt w o1 n1 c1 b1) (hl1 : n1 ≤ 1048576) (h2 : CellAt w o2 n2 c2 b2) (hl2 : n2 ≤ 1048576) :
    Calls Tryz.prog 58 #[.agg #[.int .i64 t1, .slice o1 n1 c1], .agg #[.int .i64 t2, .slice o2 n2 c2]] w fun e w' => e = .returned (.bool (mOk t1 b1 t2 b2)) ∧ Below w.heap.size w w' := by
  have H1 : Hd (CellAt w o1 n1 c1 b1) := ⟨h1⟩
  have H2 : Hd (CellAt w o2 n2 c2 b2) := ⟨h2⟩
  obtain ⟨x, hx⟩ : ∃ x, (tS t1 b1).toArray = x := ⟨_, rfl⟩
  have HX : Hd ((tS t1 b1).toArray = x) := ⟨hx⟩
  obtain ⟨y, hy⟩ : ∃ y, (tS t2 b2).toArray = y := ⟨_, rfl⟩
  have HY : Hd ((tS t2 b2).toArray = y) := ⟨hy⟩
  obtain ⟨k1, hk1⟩ : ∃ k, tOk t1 b1 = k := ⟨_, rfl⟩
  have HK1 : Hd (tOk t1 b1 = k1) := ⟨hk1⟩
  obtain ⟨k2, hk2⟩ : ∃ k, tOk t2 b2 = k := ⟨_, rfl⟩
  have HK2 : Hd (tOk t2 b2 = k2) := ⟨hk2⟩
  have E : Hd (mOk t1 b1 t2 b2 = (k1 && k2 && ((⟨x⟩ : ByteArray).toList == (⟨y⟩ : ByteArray).toList))) := ⟨by
    rw [ByteArray.toList_eq, ByteArray.toList_eq, ← hx, ← hy, ← hk1, ← hk2]
    rfl⟩
  rw [E.out]
  clear h1 h2 hx hy hk1 hk2 E
  go_enter Tryz.func58, Tryz.ntmps58
  go_wp2_with fail
  refine (specCellText_any t1 o1 n1 c1 b1 _ (H1.out.below (below_lit2 w _ _)) hl1).mono ?_
  rintro e w1 ⟨rfl, hB1⟩
  rewrite [HX.out, HK1.out]
  have B1 : Hd (Below w.heap.size w w1) := ⟨Below.next (below_lit2 w _ _) hB1⟩
  obtain ⟨_, l2⟩ := two_at hB1
  obtain ⟨r0, r1, _, _⟩ := cells2 _ (w.heap.size + 1) _ _ _ l2
  clear hB1 l2
  go_wp2_with fail
  refine (specCellText_any t2 o2 n2 c2 b2 _ (H2.out.below B1.out) hl2).mono ?_
  rintro e w2 ⟨rfl, hB2⟩
  rewrite [HY.out, HK2.out]
  have B2 : Hd (Below w.heap.size w w2) := ⟨Below.next B1.out hB2⟩
  clear hB2 B1 r0 r1
  cases k1 with
  | false =>
    go_wp2_with fail
    go_ret
    exact ⟨rfl, B2.out⟩
  | true =>
    cases k2 with
    | false =>
      go_wp2_with fail
      go_ret
      exact ⟨rfl, B2.out⟩
    | true =>
      go_wp2_with fail
      go_ret
      exact ⟨rfl, B2.out⟩

end Go.Proofs.YtpafjehphajbhaaGreatDoor
