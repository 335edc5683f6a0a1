/- Contracts of Turn and of saying.sameAs, in the program. -/
import Derived.Test.YtpafjehphajbhaaGreatDoorCellI
import Derived.Deep.RegionHeld3
namespace Go.Proofs.YtpafjehphajbhaaGreatDoor
set_option maxRecDepth 4000
open Go.RowKit

theorem cell_set2 {w : World} {p : Addr} {v x y : Value} {g : Nat} (h : w.cell? p = some v) (hne : p.block ≠ g) : ((w.setCell ⟨g, 0, none⟩ x).setCell ⟨g, 1, none⟩ y).cell? p = some v := cell_set (cell_set h hne) hne
theorem clone_o (ao : Option Addr) (n c : Nat) (bs : List UInt8) (w : World) (h : CellAt w ao n c bs) (hl : n ≤ 1073741824) :
    Calls Tryz.prog 87 #[.slice ao n c] w fun e w' => ∃ a' c', e = .returned (.slice a' n c') ∧ OwnO w' w.heap.size a' c' bs ∧ Below w.heap.size w w' := by
  rcases h with ⟨rfl, rfl, rfl, rfl⟩ | ⟨q, rfl, _, h3⟩
  · refine (clone_nil w).mono ?_
    rintro e w1 ⟨rfl, rfl⟩
    exact ⟨none, 0, rfl, .inl ⟨rfl, rfl, rfl⟩, Below.refl _ _⟩
  · refine (clone_some q 0 n c bs w h3.size h3.cell h3.lt hl).mono ?_
    rintro e w1 ⟨g, c1, rfl, hg, hO, hB⟩
    exact ⟨_, c1, by rw [h3.size], .inr ⟨g, rfl, hg, hO⟩, hB⟩

/-- A cell's box, and that of the result. -/
structure TBox (w : World) (tag : Int) (v : Value) (wx : World) : Prop where
  box : wx.heap[w.heap.size]? = some (.cells #[.int .i64 tag, v] 27 (0, 0))
  res : wx.heap[w.heap.size + 1]? = some (.cells #[.int .i64 0, .slice none 0 0] 27 (0, 0))
  bel : Below w.heap.size w wx
theorem TBox.below {w : World} {tag : Int} {v : Value} {wx wy : World} (h : TBox w tag v wx) (hB : Below wx.heap.size wx wy) : TBox w tag v wy :=
  ⟨(hB.block _ (lt_of_block h.box)).trans h.box, (hB.block _ (lt_of_block h.res)).trans h.res, Below.next h.bel hB⟩
theorem tBox_new (w : World) (tag : Int) (v : Value) : TBox w tag v ((w.alloc (.cells #[.int .i64 tag, v] 27)).alloc (.cells #[.int .i64 0, .slice none 0 0] 27)) :=
  ⟨(laid2 w _ _).1, (laid2 w _ _).2, below_lit2 w _ _⟩
theorem turn_no {w w3 : World} {tag to : Int} {v : Value} {ao : Option Addr} {n c : Nat} {bs : List UInt8} {ok : Bool} (F : TBox w tag v w3) (hO : OwnO w3 (w.heap.size + 2) ao c bs) (hn : bs.length = n) (e1 : nTag tag bs to = tag) (e2 : nB tag bs to = bs) :
    CellOut w (nTag tag bs to) (nB tag bs to) ok (.returned (.tuple #[.agg #[.int .i64 tag, .slice ao n c], .bool ok])) ((w3.setCell ⟨w.heap.size + 1, 0, none⟩ (.int .i64 tag)).setCell ⟨w.heap.size + 1, 1, none⟩ (.slice ao n c)) := by
  rw [e1, e2]
  exact ⟨ao, n, c, rfl, hn, ((hO.of_set (by omega)).of_set (by omega)).mono (by omega), by have := lt_of_block F.res; simp at this ⊢; omega, bset (bset F.bel _ (by omega)) _ (by omega)⟩

set_option maxHeartbeats 1000000 in
theorem copyCell_o (tag : Int) (ao : Option Addr) (n c : Nat) (bs : List UInt8) (w : World) (h : CellAt w ao n c bs) (hl : n ≤ 1048576) :
    Calls Tryz.prog 73 #[.agg #[.int .i64 tag, .slice ao n c]] w fun e w' => ∃ a' c', e = .returned (.agg #[.int .i64 tag, .slice a' n c']) ∧ OwnO w' (w.heap.size + 2) a' c' bs ∧ w.heap.size + 1 < w'.heap.size ∧ Below w.heap.size w w' := by
  have HC : Hd (CellAt w ao n c bs) := ⟨h⟩
  have F0 : Hd (TBox w tag (.slice ao n c) ((w.alloc (.cells #[.int .i64 tag, .slice ao n c] 27)).alloc (.cells #[.int .i64 0, .slice none 0 0] 27))) := ⟨tBox_new w tag _⟩
  clear h
  go_enter Tryz.func73, Tryz.ntmps73
  go_wp2_with fail
  generalize (w.alloc (.cells #[.int .i64 tag, .slice ao n c] 27)).alloc (.cells #[.int .i64 0, .slice none 0 0] 27) = W at *
  obtain ⟨p0, p1, _, _⟩ := cells2 W w.heap.size _ _ _ F0.out.box
  go_region_held (fun w' => w'.cell? ⟨w.heap.size, 0, none⟩ = some (.int .i64 tag) ∧ w'.cell? ⟨w.heap.size, 1, none⟩ = some (.slice ao n c)) (first | assumption | exact ⟨p0, p1⟩ | exact ⟨k0, k1⟩ | exact ⟨cell_set2 k0 (by show w.heap.size ≠ w.heap.size + 1; omega), cell_set2 k1 (by show w.heap.size ≠ w.heap.size + 1; omega)⟩)
    (first | (go_at_call 87; refine (clone_o ao n c bs _ (HC.out.below F0.out.bel.drew) (by omega)).mono ?_; rintro e w3 ⟨a3, c3, rfl, hO, hB⟩; have F3 : Hd (TBox w tag (.slice ao n c) w3) := (⟨(F0.out.below (Below.refl _ W).drew).below hB⟩); have HO3 : Hd (OwnO w3 (w.heap.size + 2) a3 c3 bs) := (⟨hO.mono (lt_of_block F0.out.res)⟩); obtain ⟨k0, k1, _, _⟩ := cells2 w3 w.heap.size _ _ _ F3.out.box; obtain ⟨r0, r1, r2, r3⟩ := cells2 w3 (w.heap.size + 1) _ _ _ F3.out.res))
  all_goals
    go_wp2_with fail
    refine bodyPost_ret (results_cell_row rfl _ _ (w.heap.size + 1) _ _ (0, 0) _ rfl (set2 _ _ F3.out.res) Tryz.underlying27 rfl (by kernel_rfl)) rfl ?_
    exact ⟨a3, c3, rfl, (HO3.out.of_set (by omega)).of_set (by omega), by have := lt_of_block F3.out.res; simp at this ⊢; omega, bset (bset F3.out.bel _ (by omega)) _ (by omega)⟩

set_option maxHeartbeats 2000000 in
theorem implTurn_any (tag : Int) (ao : Option Addr) (n c : Nat) (bs : List UInt8) (to : Int) (w : World) (h : CellAt w ao n c bs) (hl : n ≤ 1048576) (T : Hd (AllAt w)) :
    Calls Tryz.prog 49 #[.agg #[.int .i64 tag, .slice ao n c], .int .i64 to] w (CellOut w (nTag tag bs to) (nB tag bs to) (nOk tag bs to)) := by
  have HC : Hd (CellAt w ao n c bs) := ⟨h⟩
  have Hn : Hd (bs.length = n) := ⟨h.size⟩
  obtain ⟨S, hS⟩ : ∃ S, (tS tag bs).toArray = S := ⟨_, rfl⟩
  have HS : Hd ((tS tag bs).toArray = S) := ⟨hS⟩
  have HL : Hd ((⟨S⟩ : ByteArray).data.toList = tS tag bs) := ⟨by rw [← hS]⟩
  have HZ : Hd ((⟨S⟩ : ByteArray).size ≤ 1048576) := ⟨by rw [← hS, size_of]; have := tS_len tag bs; omega⟩
  obtain ⟨ok1, ho1⟩ : ∃ ok1, tOk tag bs = ok1 := ⟨_, rfl⟩
  have HO1 : Hd (tOk tag bs = ok1) := ⟨ho1⟩
  obtain ⟨ok2, ho2⟩ : ∃ ok2, oOk to (tS tag bs) = ok2 := ⟨_, rfl⟩
  have HO2 : Hd (oOk to (tS tag bs) = ok2) := ⟨ho2⟩
  obtain ⟨ys, hys⟩ : ∃ ys, oB to (tS tag bs) = ys := ⟨_, rfl⟩
  have HY : Hd (oB to (tS tag bs) = ys) := ⟨hys⟩
  obtain ⟨x, hx⟩ : ∃ x, oTag to (tS tag bs) = x := ⟨_, rfl⟩
  have HX : Hd (oTag to (tS tag bs) = x) := ⟨hx⟩
  have E1 : Hd (nOk tag bs to = (ok1 && ok2)) := ⟨by unfold nOk; rw [ho1, ho2]⟩
  have E2 : Hd (ok1 = true → ok2 = true → nTag tag bs to = x ∧ nB tag bs to = ys) := ⟨fun h1 h2 => by
    have hk : nOk tag bs to = true := by unfold nOk; rw [ho1, ho2, h1, h2]; rfl
    have h3 := oOk_t (ho2.trans h2)
    have h4 := nOk_t hk
    exact ⟨by rw [h4.2.2.1, ← hx, h3.2.2.1], by rw [h4.2.2.2, ← hys, h3.2.2.2]⟩⟩
  have E3 : Hd ((ok1 && ok2) = false → nTag tag bs to = tag ∧ nB tag bs to = bs) := ⟨fun h1 => nOk_f (by unfold nOk; rw [ho1, ho2]; exact h1)⟩
  rw [E1.out]
  have F0 : Hd (TBox w tag (.slice ao n c) ((w.alloc (.cells #[.int .i64 tag, .slice ao n c] 27)).alloc (.cells #[.int .i64 0, .slice none 0 0] 27))) := ⟨tBox_new w tag _⟩
  clear h hS ho1 ho2 hys hx
  go_enter Tryz.func49, Tryz.ntmps49
  go_wp2_with fail
  refine (implSaying_any tag ao n c bs _ (HC.out.below (below_lit2 w _ _)) hl ⟨T.out.below (below_lit2 w _ _)⟩).mono ?_
  rintro e w1 ⟨rfl, hB1⟩
  rewrite [HO1.out, HS.out]
  have F1 : Hd (TBox w tag (.slice ao n c) (w1.alloc (.cells #[.string ⟨S⟩, .bool ok1] 70))) := ⟨(F0.out.below hB1).below (below_lit w1 _)⟩
  clear hB1 F0
  cases ok1 with
  | false =>
    have T1 : Hd (nTag tag bs to = tag) := ⟨(E3.out rfl).1⟩
    have T2 : Hd (nB tag bs to = bs) := ⟨(E3.out rfl).2⟩
    clear E1 E2 E3 HX HY HO2 HL HZ HS
    obtain ⟨p0, p1, _, _⟩ := cells2 _ w.heap.size _ _ _ F1.out.box
    go_wp2_with fail
    refine (copyCell_o tag ao n c bs _ (HC.out.below F1.out.bel) hl).mono ?_
    rintro e w3 ⟨a3, c3, rfl, hO, _, hB⟩
    have F3 : Hd (TBox w tag (.slice ao n c) w3) := ⟨F1.out.below hB⟩
    have HO3 : Hd (OwnO w3 (w.heap.size + 2) a3 c3 bs) := ⟨hO.mono (by have := lt_of_block F1.out.res; omega)⟩
    obtain ⟨r0, r1, r2, r3⟩ := cells2 w3 (w.heap.size + 1) _ _ _ F3.out.res
    clear hO hB p0 p1
    go_wp2_with fail
    refine bodyPost_ret (results_row_tmp rfl _ _ (w.heap.size + 1) _ _ (0, 0) _ rfl (set2 _ _ F3.out.res) Tryz.underlying27 rfl (by kernel_rfl)) rfl ?_
    exact turn_no F3.out HO3.out Hn.out T1.out T2.out
  | true =>
    go_wp2_with fail
    refine (implCellOf_any to ⟨S⟩ _ HZ.out ⟨T.out.below F1.out.bel⟩).mono ?_
    rewrite [HL.out, HO2.out, HY.out, HX.out]
    rintro e w2 ⟨ao2, n2, c2, rfl, hn2, hO2, _, hB2⟩
    have F2 : Hd (TBox w tag (.slice ao n c) (w2.alloc (.cells #[.int .i64 x, .slice ao2 n2 c2] 27))) := ⟨(F1.out.below hB2).below (below_lit w2 _)⟩
    have hs2 : w.heap.size + 1 < (w1.alloc (.cells #[.string ⟨S⟩, .bool true] 70)).heap.size := lt_of_block F1.out.res
    have O2 : Hd (OwnO (w2.alloc (.cells #[.int .i64 x, .slice ao2 n2 c2] 27)) (w.heap.size + 2) ao2 c2 ys) := ⟨(hO2.below (below_lit w2 _)).mono (by omega)⟩
    have N2 : Hd (ys.length = n2) := ⟨hn2⟩
    clear hB2 F1 hs2 hO2 hn2
    cases ok2 with
    | false =>
      have T1 : Hd (nTag tag bs to = tag) := ⟨(E3.out rfl).1⟩
      have T2 : Hd (nB tag bs to = bs) := ⟨(E3.out rfl).2⟩
      clear E1 E2 E3 HX HY HO2 HL HZ HS O2 N2
      obtain ⟨p0, p1, _, _⟩ := cells2 _ w.heap.size _ _ _ F2.out.box
      go_wp2_with fail
      refine (copyCell_o tag ao n c bs _ (HC.out.below F2.out.bel) hl).mono ?_
      rintro e w3 ⟨a3, c3, rfl, hO, _, hB⟩
      have F3 : Hd (TBox w tag (.slice ao n c) w3) := ⟨F2.out.below hB⟩
      have HO3 : Hd (OwnO w3 (w.heap.size + 2) a3 c3 bs) := ⟨hO.mono (by have := lt_of_block F2.out.res; omega)⟩
      obtain ⟨r0, r1, r2, r3⟩ := cells2 w3 (w.heap.size + 1) _ _ _ F3.out.res
      clear hO hB p0 p1
      go_wp2_with fail
      refine bodyPost_ret (results_row_tmp rfl _ _ (w.heap.size + 1) _ _ (0, 0) _ rfl (set2 _ _ F3.out.res) Tryz.underlying27 rfl (by kernel_rfl)) rfl ?_
      exact turn_no F3.out HO3.out Hn.out T1.out T2.out
    | true =>
      have T1 : Hd (nTag tag bs to = x) := ⟨(by simpa using E2.out : nTag tag bs to = x ∧ nB tag bs to = ys).1⟩
      have T2 : Hd (nB tag bs to = ys) := ⟨(by simpa using E2.out : nTag tag bs to = x ∧ nB tag bs to = ys).2⟩
      clear E1 E2 E3 HX HY HO2 HL HZ HS
      obtain ⟨r0, r1, r2, r3⟩ := cells2 _ (w.heap.size + 1) _ _ _ F2.out.res
      go_wp2_with fail
      refine bodyPost_ret (results_row_tmp rfl _ _ (w.heap.size + 1) _ _ (0, 0) _ rfl (set2 _ _ F2.out.res) Tryz.underlying27 rfl (by kernel_rfl)) rfl ?_
      exact ⟨ao2, n2, c2, by rw [T1.out]; rfl, by rw [T2.out]; exact N2.out, by rw [T2.out]; exact ((O2.out.of_set (by omega)).of_set (by omega)).mono (by omega), by have := lt_of_block F2.out.res; simp at this ⊢; omega, bset (bset F2.out.bel _ (by omega)) _ (by omega)⟩

set_option maxHeartbeats 400000 in
theorem sameAs_any (x y : Array UInt8) (k1 k2 : Bool) (w : World) :
    Calls Tryz.prog 71 #[.agg #[.string ⟨x⟩, .bool k1], .agg #[.string ⟨y⟩, .bool k2]] w fun e w' => e = .returned (.bool (k1 && k2 && ((⟨x⟩ : ByteArray).toList == (⟨y⟩ : ByteArray).toList))) ∧ Below w.heap.size w w' := by
  cases k1 with
  | false =>
    go_enter Tryz.func71, Tryz.ntmps71
    go_wp2_with fail
    go_ret
    exact ⟨rfl, below_lit2 w _ _⟩
  | true =>
    cases k2 with
    | false =>
      go_enter Tryz.func71, Tryz.ntmps71
      go_wp2_with fail
      go_ret
      exact ⟨rfl, below_lit2 w _ _⟩
    | true =>
      go_enter Tryz.func71, Tryz.ntmps71
      go_wp2_with fail
      go_ret
      exact ⟨rfl, below_lit2 w _ _⟩

end Go.Proofs.YtpafjehphajbhaaGreatDoor
