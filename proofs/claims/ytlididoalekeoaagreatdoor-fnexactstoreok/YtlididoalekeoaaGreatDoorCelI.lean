/- Contracts of CellOk, CellText and CellOf, in the program. Contracts of Turn and of saying.sameAs, in the program. The contract of SameText, in the program. -/
import Derived.Test.YtlididoalekeoaaGreatDoorCelA
import Derived.Deep.RegionHeld3
namespace Go.Proofs.YtlididoalekeoaaGreatDoor
set_option maxRecDepth 4000
open Go.RowKit

set_option maxHeartbeats 400000 in
theorem implCellOk_any (tag : Int) (ao : Option Addr) (n c : Nat) (w : World) :
    Calls Tryz.prog 85 #[.agg #[.int .i64 tag, .slice ao n c]] w fun e w' => e = .returned (.bool (cOk tag n)) ∧ Below w.heap.size w w' := by
  unfold cOk
  cases hi : inB tag 0 5 with
  | false =>
    have hcs : ¬ (0 ≤ tag ∧ tag ≤ 5) := of_decide_eq_false hi
    clear hi
    go_enter Tryz.func85, Tryz.ntmps85
    go_wp2_with fail
    refine (setOf_no tag _ hcs).mono ?_
    rintro e w1 ⟨rfl, hw1⟩
    replace hw1 := hw1.symm
    subst hw1
    clear hcs
    go_wp2_with fail
    go_ret
    exact ⟨rfl, below_lit _ _⟩
  | true =>
    have hcs := in_cs hi
    clear hi
    go_enter Tryz.func85, Tryz.ntmps85
    go_wp2_with fail
    refine (setOf_yes tag _ hcs).mono ?_
    rintro e w1 ⟨rfl, hw1⟩
    replace hw1 := hw1.symm
    subst hw1
    generalize setV tag = sv
    clear hcs
    go_wp2_with fail
    go_ret
    exact ⟨rfl, below_lit _ _⟩

/-- What a cell says, in the program: a text beside whether there is one. -/
structure SaidOut (w : World) (s : List UInt8) (ok : Bool) (e : Ending) (w' : World) : Prop where
  out : e = .returned (.agg #[.string ⟨s.toArray⟩, .bool ok]) ∧ Below w.heap.size w w'

set_option maxHeartbeats 400000 in
theorem implSaying_any (tag : Int) (ao : Option Addr) (n c : Nat) (bs : List UInt8) (w : World) (h : CellAt w ao n c bs) (hl : n ≤ 1048576) (T : Hd (AllAt w)) :
    Calls Tryz.prog 87 #[.agg #[.int .i64 tag, .slice ao n c]] w (SaidOut w (tS tag bs) (tOk tag bs)) := by
  have HC : Hd (CellAt w ao n c bs) := ⟨h⟩
  have Hn : Hd (bs.length = n) := ⟨h.size⟩
  clear h
  cases hk : cOk tag n with
  | false =>
    obtain ⟨e1, e2⟩ := tS_no (tag := tag) (bs := bs) (by rw [Hn.out]; exact hk)
    rw [e1, e2]
    have HK : Hd (cOk tag n = false) := ⟨hk⟩
    clear hk e1 e2
    go_enter Tryz.func87, Tryz.ntmps87
    go_wp2_with fail
    refine (implCellOk_any tag ao n c _).mono ?_
    rintro e w1 ⟨rfl, hB⟩
    rewrite [HK.out]
    have HB : Hd (Below w.heap.size w w1) := ⟨Below.next (below_lit2 w _ _) hB⟩
    have R1 : Hd (w1.heap[w.heap.size + 1]? = some (.cells #[.string ⟨#[]⟩, .bool false] 125 (0, 0))) := ⟨(two_at hB).2⟩
    obtain ⟨r0, r1, r2, r3⟩ := cells2 _ (w.heap.size + 1) _ _ _ R1.out
    clear hB
    go_wp2_with fail
    refine bodyPost_ret (results_cell_row rfl _ _ (w.heap.size + 1) _ _ (0, 0) _ rfl (set2 _ _ R1.out) Tryz.underlying125 rfl (by kernel_rfl)) rfl ?_
    exact ⟨rfl, bset (bset HB.out _ (by omega)) _ (by omega)⟩
  | true =>
    obtain ⟨e1, e2⟩ := tS_yes (tag := tag) (bs := bs) (by rw [Hn.out]; exact hk)
    rw [e1, e2]
    have HK : Hd (cOk tag n = true) := ⟨hk⟩
    clear hk e1 e2
    obtain ⟨S, hS⟩ : ∃ S, (decS tag bs).toArray = S := ⟨_, rfl⟩
    have HS : Hd ((decS tag bs).toArray = S) := ⟨hS⟩
    obtain ⟨ok, hok⟩ : ∃ ok, decOk tag bs = ok := ⟨_, rfl⟩
    have HO : Hd (decOk tag bs = ok) := ⟨hok⟩
    have HE : Hd (⟨(decS tag bs).toArray⟩ = (⟨S⟩ : ByteArray)) := ⟨by rw [hS]⟩
    clear hS hok
    go_enter Tryz.func87, Tryz.ntmps87
    go_wp2_with fail
    refine (implCellOk_any tag ao n c _).mono ?_
    rintro e w1 ⟨rfl, hB⟩
    rewrite [HK.out]
    have HB : Hd (Below w.heap.size w w1) := ⟨Below.next (below_lit2 w _ _) hB⟩
    have R1 : Hd (w1.heap[w.heap.size + 1]? = some (.cells #[.string ⟨#[]⟩, .bool false] 125 (0, 0))) := ⟨(two_at hB).2⟩
    obtain ⟨b0, b1, _, _⟩ := cells2 w1 w.heap.size _ _ _ (two_at hB).1
    clear hB
    go_wp2_with fail
    refine (implDecode_o tag ao n c bs _ (HC.out.below HB.out) hl ⟨T.out.below HB.out⟩).mono ?_
    rintro e w2 ⟨rfl, hB2⟩
    rewrite [HS.out, HO.out]
    have HB2 : Hd (Below w.heap.size w w2) := ⟨Below.next HB.out hB2⟩
    have R2 : Hd (w2.heap[w.heap.size + 1]? = some (.cells #[.string ⟨#[]⟩, .bool false] 125 (0, 0))) := ⟨(hB2.block _ (lt_of_block R1.out)).trans R1.out⟩
    obtain ⟨r0, r1, r2, r3⟩ := cells2 _ (w.heap.size + 1) _ _ _ R2.out
    clear hB2 HB b0 b1 R1
    go_wp2_with fail
    refine bodyPost_ret (results_cell_row rfl _ _ (w.heap.size + 1) _ _ (0, 0) _ rfl (set2 _ _ R2.out) Tryz.underlying125 rfl (by kernel_rfl)) rfl ?_
    exact ⟨by rw [HE.out, HO.out], bset (bset HB2.out _ (by omega)) _ (by omega)⟩

theorem said_at {w : World} {S : Array UInt8} {ok : Bool} : (w.alloc (.cells #[.string ⟨S⟩, .bool ok] 125)).heap[w.heap.size]? = some (.cells #[.string ⟨S⟩, .bool ok] 125 (0, 0)) := alloc_new w _ rfl

set_option maxHeartbeats 400000 in
theorem implCellText_any (tag : Int) (ao : Option Addr) (n c : Nat) (bs : List UInt8) (w : World) (h : CellAt w ao n c bs) (hl : n ≤ 1048576) (T : Hd (AllAt w)) :
    Calls Tryz.prog 86 #[.agg #[.int .i64 tag, .slice ao n c]] w (TextB w (tS tag bs) (tOk tag bs)) := by
  have HC : Hd (CellAt w ao n c bs) := ⟨h⟩
  obtain ⟨S, hS⟩ : ∃ S, (tS tag bs).toArray = S := ⟨_, rfl⟩
  have HS : Hd ((tS tag bs).toArray = S) := ⟨hS⟩
  obtain ⟨ok, hok⟩ : ∃ ok, tOk tag bs = ok := ⟨_, rfl⟩
  have HO : Hd (tOk tag bs = ok) := ⟨hok⟩
  have HE : Hd (⟨(tS tag bs).toArray⟩ = (⟨S⟩ : ByteArray)) := ⟨by rw [hS]⟩
  clear h hS hok
  go_enter Tryz.func86, Tryz.ntmps86
  go_wp2_with fail
  refine (implSaying_any tag ao n c bs _ (HC.out.below (below_lit w _)) hl ⟨T.out.below (below_lit w _)⟩).mono ?_
  rintro e w1 ⟨rfl, hB⟩
  rewrite [HS.out, HO.out]
  have HB : Hd (Below w.heap.size w w1) := ⟨Below.next (below_lit w _) hB⟩
  clear hB
  go_wp2_with fail
  have B2 : Hd (Below w.heap.size w (w1.alloc (.cells #[.string ⟨S⟩, .bool ok] 125))) := ⟨Below.next HB.out (below_lit w1 _)⟩
  go_quiet (fail)
  go_wp2_with fail
  go_ret2
  exact ⟨by rw [HE.out, HO.out]; rfl, Below.next B2.out (below_drewN' _ _ _)⟩

theorem cell_set2 {w : World} {p : Addr} {v x y : Value} {g : Nat} (h : w.cell? p = some v) (hne : p.block ≠ g) : ((w.setCell ⟨g, 0, none⟩ x).setCell ⟨g, 1, none⟩ y).cell? p = some v := cell_set (cell_set h hne) hne
theorem clone_o (ao : Option Addr) (n c : Nat) (bs : List UInt8) (w : World) (h : CellAt w ao n c bs) (hl : n ≤ 1073741824) :
    Calls Tryz.prog 113 #[.slice ao n c] w fun e w' => ∃ a' c', e = .returned (.slice a' n c') ∧ OwnO w' w.heap.size a' c' bs ∧ Below w.heap.size w w' := by
  rcases h with ⟨rfl, rfl, rfl, rfl⟩ | ⟨q, rfl, _, h3⟩
  · refine (clone_nil w).mono ?_
    rintro e w1 ⟨rfl, rfl⟩
    exact ⟨none, 0, rfl, .inl ⟨rfl, rfl, rfl⟩, Below.refl _ _⟩
  · refine (clone_some q 0 n c bs w h3.size h3.cell h3.lt hl).mono ?_
    rintro e w1 ⟨g, c1, rfl, hg, hO, hB⟩
    exact ⟨_, c1, by rw [h3.size], .inr ⟨g, rfl, hg, hO⟩, hB⟩

/-- A cell's box, and that of the result. -/
structure TBox (w : World) (tag : Int) (v : Value) (wx : World) : Prop where
  box : wx.heap[w.heap.size]? = some (.cells #[.int .i64 tag, v] 65 (0, 0))
  res : wx.heap[w.heap.size + 1]? = some (.cells #[.int .i64 0, .slice none 0 0] 65 (0, 0))
  bel : Below w.heap.size w wx
theorem TBox.below {w : World} {tag : Int} {v : Value} {wx wy : World} (h : TBox w tag v wx) (hB : Below wx.heap.size wx wy) : TBox w tag v wy :=
  ⟨(hB.block _ (lt_of_block h.box)).trans h.box, (hB.block _ (lt_of_block h.res)).trans h.res, Below.next h.bel hB⟩
theorem tBox_new (w : World) (tag : Int) (v : Value) : TBox w tag v ((w.alloc (.cells #[.int .i64 tag, v] 65)).alloc (.cells #[.int .i64 0, .slice none 0 0] 65)) :=
  ⟨(laid2 w _ _).1, (laid2 w _ _).2, below_lit2 w _ _⟩
theorem turn_no {w w3 : World} {tag to : Int} {v : Value} {ao : Option Addr} {n c : Nat} {bs : List UInt8} {ok : Bool} (F : TBox w tag v w3) (hO : OwnO w3 (w.heap.size + 2) ao c bs) (hn : bs.length = n) (e1 : nTag tag bs to = tag) (e2 : nB tag bs to = bs) :
    CellOut w (nTag tag bs to) (nB tag bs to) ok (.returned (.tuple #[.agg #[.int .i64 tag, .slice ao n c], .bool ok])) ((w3.setCell ⟨w.heap.size + 1, 0, none⟩ (.int .i64 tag)).setCell ⟨w.heap.size + 1, 1, none⟩ (.slice ao n c)) := by
  rw [e1, e2]
  exact ⟨ao, n, c, rfl, hn, ((hO.of_set (by omega)).of_set (by omega)).mono (by omega), by have := lt_of_block F.res; simp at this ⊢; omega, bset (bset F.bel _ (by omega)) _ (by omega)⟩

set_option maxHeartbeats 400000 in
theorem sameAs_any (x y : Array UInt8) (k1 k2 : Bool) (w : World) :
    Calls Tryz.prog 88 #[.agg #[.string ⟨x⟩, .bool k1], .agg #[.string ⟨y⟩, .bool k2]] w fun e w' => e = .returned (.bool (k1 && k2 && ((⟨x⟩ : ByteArray).toList == (⟨y⟩ : ByteArray).toList))) ∧ Below w.heap.size w w' := by
  cases k1 with
  | false =>
    go_enter Tryz.func88, Tryz.ntmps88
    go_wp2_with fail
    go_ret
    exact ⟨rfl, below_lit2 w _ _⟩
  | true =>
    cases k2 with
    | false =>
      go_enter Tryz.func88, Tryz.ntmps88
      go_wp2_with fail
      go_ret
      exact ⟨rfl, below_lit2 w _ _⟩
    | true =>
      go_enter Tryz.func88, Tryz.ntmps88
      go_wp2_with fail
      go_ret
      exact ⟨rfl, below_lit2 w _ _⟩

set_option maxHeartbeats 1000000 in
theorem implSameText_any (t1 : Int) (o1 : Option Addr) (n1 c1 : Nat) (b1 : List UInt8) (t2 : Int) (o2 : Option Addr) (n2 c2 : Nat) (b2 : List UInt8) (w : World) (h1 : CellAt w o1 n1 c1 b1) (hl1 : n1 ≤ 1048576) (h2 : CellAt w o2 n2 c2 b2) (hl2 : n2 ≤ 1048576) (T : Hd (AllAt w)) :
    Calls Tryz.prog 78 #[.agg #[.int .i64 t1, .slice o1 n1 c1], .agg #[.int .i64 t2, .slice o2 n2 c2]] w fun e w' => e = .returned (.bool (mOk t1 b1 t2 b2)) ∧ Below w.heap.size w w' := by
  have H1 : Hd (CellAt w o1 n1 c1 b1) := ⟨h1⟩
  have H2 : Hd (CellAt w o2 n2 c2 b2) := ⟨h2⟩
  obtain ⟨x, hx⟩ : ∃ x, (tS t1 b1).toArray = x := ⟨_, rfl⟩
  have HX : Hd ((tS t1 b1).toArray = x) := ⟨hx⟩
  obtain ⟨y, hy⟩ : ∃ y, (tS t2 b2).toArray = y := ⟨_, rfl⟩
  have HY : Hd ((tS t2 b2).toArray = y) := ⟨hy⟩
  obtain ⟨k1, hk1⟩ : ∃ k, tOk t1 b1 = k := ⟨_, rfl⟩
  have HK1 : Hd (tOk t1 b1 = k1) := ⟨hk1⟩
  obtain ⟨k2, hk2⟩ : ∃ k, tOk t2 b2 = k := ⟨_, rfl⟩
  have HK2 : Hd (tOk t2 b2 = k2) := ⟨hk2⟩
  have E : Hd (mOk t1 b1 t2 b2 = (k1 && k2 && ((⟨x⟩ : ByteArray).toList == (⟨y⟩ : ByteArray).toList))) := ⟨by
    rw [ByteArray.toList_eq, ByteArray.toList_eq, ← hx, ← hy, ← hk1, ← hk2]
    rfl⟩
  rewrite [E.out]
  obtain ⟨r, hr⟩ : ∃ r, (k1 && k2 && ((⟨x⟩ : ByteArray).toList == (⟨y⟩ : ByteArray).toList)) = r := ⟨_, rfl⟩
  have HR : Hd ((k1 && k2 && ((⟨x⟩ : ByteArray).toList == (⟨y⟩ : ByteArray).toList)) = r) := ⟨hr⟩
  rewrite [hr]
  clear h1 h2 hx hy hk1 hk2 E hr
  go_enter Tryz.func78, Tryz.ntmps78
  go_wp2_with fail
  have B0 : Hd (Below w.heap.size w ((w.alloc (.cells #[.int .i64 t1, .slice o1 n1 c1] 65)).alloc (.cells #[.int .i64 t2, .slice o2 n2 c2] 65))) := ⟨below_lit2 w _ _⟩
  obtain ⟨l1, l2⟩ := laid2 w (.cells #[.int .i64 t1, .slice o1 n1 c1] 65) (.cells #[.int .i64 t2, .slice o2 n2 c2] 65)
  generalize (w.alloc (.cells #[.int .i64 t1, .slice o1 n1 c1] 65)).alloc (.cells #[.int .i64 t2, .slice o2 n2 c2] 65) = W at *
  obtain ⟨p0, p1, _, _⟩ := cells2 W w.heap.size _ _ _ l1
  obtain ⟨q0, q1, _, _⟩ := cells2 W (w.heap.size + 1) _ _ _ l2
  have K : Hd (∀ w', Below W.heap.size W w' → (fun w' => (w'.cell? ⟨w.heap.size, 0, none⟩ = some (.int .i64 t1) ∧ w'.cell? ⟨w.heap.size, 1, none⟩ = some (.slice o1 n1 c1)) ∧ w'.cell? ⟨w.heap.size + 1, 0, none⟩ = some (.int .i64 t2) ∧ w'.cell? ⟨w.heap.size + 1, 1, none⟩ = some (.slice o2 n2 c2)) w') := ⟨fun w' hb => ⟨⟨cell_below p0 hb, cell_below p1 hb⟩, cell_below q0 hb, cell_below q1 hb⟩⟩
  clear l1 l2
  go_region_held (fun w' => (w'.cell? ⟨w.heap.size, 0, none⟩ = some (.int .i64 t1) ∧ w'.cell? ⟨w.heap.size, 1, none⟩ = some (.slice o1 n1 c1)) ∧ w'.cell? ⟨w.heap.size + 1, 0, none⟩ = some (.int .i64 t2) ∧ w'.cell? ⟨w.heap.size + 1, 1, none⟩ = some (.slice o2 n2 c2)) (first | assumption | exact K.out _ (Below.refl _ W).drew | exact K.out _ D3.out | exact K.out _ D2.out | exact K.out _ D1.out)
    (first | (go_at_call 88; refine (sameAs_any x y k1 k2 _).mono ?_; rintro e w3 ⟨rfl, hb⟩; rewrite [HR.out]; have D3 : Hd (Below W.heap.size W w3) := ⟨Below.next D2.out hb⟩; clear hb) | (have G1 := D1; clear G1; go_at_call 87; refine (implSaying_any t2 o2 n2 c2 b2 _ (H2.out.below (Below.next B0.out D1.out)) hl2 ⟨T.out.below (Below.next B0.out D1.out)⟩).mono ?_; rintro e w2 ⟨rfl, hb⟩; rewrite [HY.out, HK2.out]; have D2 : Hd (Below W.heap.size W w2) := ⟨Below.next D1.out hb⟩; clear hb) | (go_at_call 87; refine (implSaying_any t1 o1 n1 c1 b1 _ (H1.out.below B0.out.drew) hl1 ⟨T.out.below B0.out.drew⟩).mono ?_; rintro e w1 ⟨rfl, hb⟩; rewrite [HX.out, HK1.out]; have D1 : Hd (Below W.heap.size W w1) := ⟨Below.next (Below.refl _ W).drew hb⟩; clear hb))
  go_wp2_with fail
  go_ret
  exact ⟨rfl, Below.next B0.out D3.out⟩

end Go.Proofs.YtlididoalekeoaaGreatDoor
