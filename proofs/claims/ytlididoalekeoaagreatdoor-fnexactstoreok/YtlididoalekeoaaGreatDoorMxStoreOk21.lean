/- Parts of the proof, one behind the other. -/
import Derived.Test.YtlididoalekeoaaGreatDoorMxStoreOk10
import Derived.Deep.RegionHeld3
import Derived.Test.YtlididoalekeoaaGreatDoorMxStoreOk18
/- Parts of the proof, one behind the other. -/
/- Contracts of CellOk, CellText and CellOf, in the program. Contracts of Turn and of saying.sameAs, in the program. The contract of SameText, in the program. -/
namespace Go.Proofs.YtlididoalekeoaaGreatDoor
set_option maxRecDepth 4000
open Go.RowKit

set_option maxHeartbeats 400000 in
theorem implCellOk_any (tag : Int) (ao : Option Addr) (n c : Nat) (w : World) :
    Calls Tryz.prog 85 #[.agg #[.int .i64 tag, .slice ao n c]] w fun e w' => e = .returned (.bool (cOk tag n)) ∧ Below w.heap.size w w' := by
  unfold cOk
  cases hi : inB tag 0 5 with
  | false =>
    have hcs : ¬ (0 ≤ tag ∧ tag ≤ 5) := of_decide_eq_false hi
    clear hi
    go_enter Tryz.func85, Tryz.ntmps85
    go_wp2_with fail
    refine (setOf_no tag _ hcs).mono ?_
    rintro e w1 ⟨rfl, hw1⟩
    replace hw1 := hw1.symm
    subst hw1
    clear hcs
    go_wp2_with fail
    go_ret
    exact ⟨rfl, below_lit _ _⟩
  | true =>
    have hcs := in_cs hi
    clear hi
    go_enter Tryz.func85, Tryz.ntmps85
    go_wp2_with fail
    refine (setOf_yes tag _ hcs).mono ?_
    rintro e w1 ⟨rfl, hw1⟩
    replace hw1 := hw1.symm
    subst hw1
    generalize setV tag = sv
    clear hcs
    go_wp2_with fail
    go_ret
    exact ⟨rfl, below_lit _ _⟩

/-- What a cell says, in the program: a text beside whether there is one. -/
structure SaidOut (w : World) (s : List UInt8) (ok : Bool) (e : Ending) (w' : World) : Prop where
  out : e = .returned (.agg #[.string ⟨s.toArray⟩, .bool ok]) ∧ Below w.heap.size w w'

set_option maxHeartbeats 400000 in
theorem implSaying_any (tag : Int) (ao : Option Addr) (n c : Nat) (bs : List UInt8) (w : World) (h : CellAt w ao n c bs) (hl : n ≤ 1048576) (T : Hd (AllAt w)) :
    Calls Tryz.prog 87 #[.agg #[.int .i64 tag, .slice ao n c]] w (SaidOut w (tS tag bs) (tOk tag bs)) := by
  have HC : Hd (CellAt w ao n c bs) := ⟨h⟩
  have Hn : Hd (bs.length = n) := ⟨h.size⟩
  clear h
  cases hk : cOk tag n with
  | false =>
    obtain ⟨e1, e2⟩ := tS_no (tag := tag) (bs := bs) (by rw [Hn.out]; exact hk)
    rw [e1, e2]
    have HK : Hd (cOk tag n = false) := ⟨hk⟩
    clear hk e1 e2
    go_enter Tryz.func87, Tryz.ntmps87
    go_wp2_with fail
    refine (implCellOk_any tag ao n c _).mono ?_
    rintro e w1 ⟨rfl, hB⟩
    rewrite [HK.out]
    have HB : Hd (Below w.heap.size w w1) := ⟨Below.next (below_lit2 w _ _) hB⟩
    have R1 : Hd (w1.heap[w.heap.size + 1]? = some (.cells #[.string ⟨#[]⟩, .bool false] 125 (0, 0))) := ⟨(two_at hB).2⟩
    obtain ⟨r0, r1, r2, r3⟩ := cells2 _ (w.heap.size + 1) _ _ _ R1.out
    clear hB
    go_wp2_with fail
    refine bodyPost_ret (results_cell_row rfl _ _ (w.heap.size + 1) _ _ (0, 0) _ rfl (set2 _ _ R1.out) Tryz.underlying125 rfl (by kernel_rfl)) rfl ?_
    exact ⟨rfl, bset (bset HB.out _ (by omega)) _ (by omega)⟩
  | true =>
    obtain ⟨e1, e2⟩ := tS_yes (tag := tag) (bs := bs) (by rw [Hn.out]; exact hk)
    rw [e1, e2]
    have HK : Hd (cOk tag n = true) := ⟨hk⟩
    clear hk e1 e2
    obtain ⟨S, hS⟩ : ∃ S, (decS tag bs).toArray = S := ⟨_, rfl⟩
    have HS : Hd ((decS tag bs).toArray = S) := ⟨hS⟩
    obtain ⟨ok, hok⟩ : ∃ ok, decOk tag bs = ok := ⟨_, rfl⟩
    have HO : Hd (decOk tag bs = ok) := ⟨hok⟩
    have HE : Hd (⟨(decS tag bs).toArray⟩ = (⟨S⟩ : ByteArray)) := ⟨by rw [hS]⟩
    clear hS hok
    go_enter Tryz.func87, Tryz.ntmps87
    go_wp2_with fail
    refine (implCellOk_any tag ao n c _).mono ?_
    rintro e w1 ⟨rfl, hB⟩
    rewrite [HK.out]
    have HB : Hd (Below w.heap.size w w1) := ⟨Below.next (below_lit2 w _ _) hB⟩
    have R1 : Hd (w1.heap[w.heap.size + 1]? = some (.cells #[.string ⟨#[]⟩, .bool false] 125 (0, 0))) := ⟨(two_at hB).2⟩
    obtain ⟨b0, b1, _, _⟩ := cells2 w1 w.heap.size _ _ _ (two_at hB).1
    clear hB
    go_wp2_with fail
    refine (implDecode_o tag ao n c bs _ (HC.out.below HB.out) hl ⟨T.out.below HB.out⟩).mono ?_
    rintro e w2 ⟨rfl, hB2⟩
    rewrite [HS.out, HO.out]
    have HB2 : Hd (Below w.heap.size w w2) := ⟨Below.next HB.out hB2⟩
    have R2 : Hd (w2.heap[w.heap.size + 1]? = some (.cells #[.string ⟨#[]⟩, .bool false] 125 (0, 0))) := ⟨(hB2.block _ (lt_of_block R1.out)).trans R1.out⟩
    obtain ⟨r0, r1, r2, r3⟩ := cells2 _ (w.heap.size + 1) _ _ _ R2.out
    clear hB2 HB b0 b1 R1
    go_wp2_with fail
    refine bodyPost_ret (results_cell_row rfl _ _ (w.heap.size + 1) _ _ (0, 0) _ rfl (set2 _ _ R2.out) Tryz.underlying125 rfl (by kernel_rfl)) rfl ?_
    exact ⟨by rw [HE.out, HO.out], bset (bset HB2.out _ (by omega)) _ (by omega)⟩

theorem said_at {w : World} {S : Array UInt8} {ok : Bool} : (w.alloc (.cells #[.string ⟨S⟩, .bool ok] 125)).heap[w.heap.size]? = some (.cells #[.string ⟨S⟩, .bool ok] 125 (0, 0)) := alloc_new w _ rfl

set_option maxHeartbeats 400000 in
theorem implCellText_any (tag : Int) (ao : Option Addr) (n c : Nat) (bs : List UInt8) (w : World) (h : CellAt w ao n c bs) (hl : n ≤ 1048576) (T : Hd (AllAt w)) :
    Calls Tryz.prog 86 #[.agg #[.int .i64 tag, .slice ao n c]] w (TextB w (tS tag bs) (tOk tag bs)) := by
  have HC : Hd (CellAt w ao n c bs) := ⟨h⟩
  obtain ⟨S, hS⟩ : ∃ S, (tS tag bs).toArray = S := ⟨_, rfl⟩
  have HS : Hd ((tS tag bs).toArray = S) := ⟨hS⟩
  obtain ⟨ok, hok⟩ : ∃ ok, tOk tag bs = ok := ⟨_, rfl⟩
  have HO : Hd (tOk tag bs = ok) := ⟨hok⟩
  have HE : Hd (⟨(tS tag bs).toArray⟩ = (⟨S⟩ : ByteArray)) := ⟨by rw [hS]⟩
  clear h hS hok
  go_enter Tryz.func86, Tryz.ntmps86
  go_wp2_with fail
  refine (implSaying_any tag ao n c bs _ (HC.out.below (below_lit w _)) hl ⟨T.out.below (below_lit w _)⟩).mono ?_
  rintro e w1 ⟨rfl, hB⟩
  rewrite [HS.out, HO.out]
  have HB : Hd (Below w.heap.size w w1) := ⟨Below.next (below_lit w _) hB⟩
  clear hB
  go_wp2_with fail
  have B2 : Hd (Below w.heap.size w (w1.alloc (.cells #[.string ⟨S⟩, .bool ok] 125))) := ⟨Below.next HB.out (below_lit w1 _)⟩
  go_quiet (fail)
  go_wp2_with fail
  go_ret2
  exact ⟨by rw [HE.out, HO.out]; rfl, Below.next B2.out (below_drewN' _ _ _)⟩

theorem cell_set2 {w : World} {p : Addr} {v x y : Value} {g : Nat} (h : w.cell? p = some v) (hne : p.block ≠ g) : ((w.setCell ⟨g, 0, none⟩ x).setCell ⟨g, 1, none⟩ y).cell? p = some v := cell_set (cell_set h hne) hne
theorem clone_o (ao : Option Addr) (n c : Nat) (bs : List UInt8) (w : World) (h : CellAt w ao n c bs) (hl : n ≤ 1073741824) :
    Calls Tryz.prog 113 #[.slice ao n c] w fun e w' => ∃ a' c', e = .returned (.slice a' n c') ∧ OwnO w' w.heap.size a' c' bs ∧ Below w.heap.size w w' := by
  rcases h with ⟨rfl, rfl, rfl, rfl⟩ | ⟨q, rfl, _, h3⟩
  · refine (clone_nil w).mono ?_
    rintro e w1 ⟨rfl, rfl⟩
    exact ⟨none, 0, rfl, .inl ⟨rfl, rfl, rfl⟩, Below.refl _ _⟩
  · refine (clone_some q 0 n c bs w h3.size h3.cell h3.lt hl).mono ?_
    rintro e w1 ⟨g, c1, rfl, hg, hO, hB⟩
    exact ⟨_, c1, by rw [h3.size], .inr ⟨g, rfl, hg, hO⟩, hB⟩

/-- A cell's box, and that of the result. -/
structure TBox (w : World) (tag : Int) (v : Value) (wx : World) : Prop where
  box : wx.heap[w.heap.size]? = some (.cells #[.int .i64 tag, v] 65 (0, 0))
  res : wx.heap[w.heap.size + 1]? = some (.cells #[.int .i64 0, .slice none 0 0] 65 (0, 0))
  bel : Below w.heap.size w wx
theorem TBox.below {w : World} {tag : Int} {v : Value} {wx wy : World} (h : TBox w tag v wx) (hB : Below wx.heap.size wx wy) : TBox w tag v wy :=
  ⟨(hB.block _ (lt_of_block h.box)).trans h.box, (hB.block _ (lt_of_block h.res)).trans h.res, Below.next h.bel hB⟩
theorem tBox_new (w : World) (tag : Int) (v : Value) : TBox w tag v ((w.alloc (.cells #[.int .i64 tag, v] 65)).alloc (.cells #[.int .i64 0, .slice none 0 0] 65)) :=
  ⟨(laid2 w _ _).1, (laid2 w _ _).2, below_lit2 w _ _⟩
theorem turn_no {w w3 : World} {tag to : Int} {v : Value} {ao : Option Addr} {n c : Nat} {bs : List UInt8} {ok : Bool} (F : TBox w tag v w3) (hO : OwnO w3 (w.heap.size + 2) ao c bs) (hn : bs.length = n) (e1 : nTag tag bs to = tag) (e2 : nB tag bs to = bs) :
    CellOut w (nTag tag bs to) (nB tag bs to) ok (.returned (.tuple #[.agg #[.int .i64 tag, .slice ao n c], .bool ok])) ((w3.setCell ⟨w.heap.size + 1, 0, none⟩ (.int .i64 tag)).setCell ⟨w.heap.size + 1, 1, none⟩ (.slice ao n c)) := by
  rw [e1, e2]
  exact ⟨ao, n, c, rfl, hn, ((hO.of_set (by omega)).of_set (by omega)).mono (by omega), by have := lt_of_block F.res; simp at this ⊢; omega, bset (bset F.bel _ (by omega)) _ (by omega)⟩

set_option maxHeartbeats 400000 in
theorem sameAs_any (x y : Array UInt8) (k1 k2 : Bool) (w : World) :
    Calls Tryz.prog 88 #[.agg #[.string ⟨x⟩, .bool k1], .agg #[.string ⟨y⟩, .bool k2]] w fun e w' => e = .returned (.bool (k1 && k2 && ((⟨x⟩ : ByteArray).toList == (⟨y⟩ : ByteArray).toList))) ∧ Below w.heap.size w w' := by
  cases k1 with
  | false =>
    go_enter Tryz.func88, Tryz.ntmps88
    go_wp2_with fail
    go_ret
    exact ⟨rfl, below_lit2 w _ _⟩
  | true =>
    cases k2 with
    | false =>
      go_enter Tryz.func88, Tryz.ntmps88
      go_wp2_with fail
      go_ret
      exact ⟨rfl, below_lit2 w _ _⟩
    | true =>
      go_enter Tryz.func88, Tryz.ntmps88
      go_wp2_with fail
      go_ret
      exact ⟨rfl, below_lit2 w _ _⟩

set_option maxHeartbeats 1000000 in
theorem implSameText_any (t1 : Int) (o1 : Option Addr) (n1 c1 : Nat) (b1 : List UInt8) (t2 : Int) (o2 : Option Addr) (n2 c2 : Nat) (b2 : List UInt8) (w : World) (h1 : CellAt w o1 n1 c1 b1) (hl1 : n1 ≤ 1048576) (h2 : CellAt w o2 n2 c2 b2) (hl2 : n2 ≤ 1048576) (T : Hd (AllAt w)) :
    Calls Tryz.prog 78 #[.agg #[.int .i64 t1, .slice o1 n1 c1], .agg #[.int .i64 t2, .slice o2 n2 c2]] w fun e w' => e = .returned (.bool (mOk t1 b1 t2 b2)) ∧ Below w.heap.size w w' := by
  have H1 : Hd (CellAt w o1 n1 c1 b1) := ⟨h1⟩
  have H2 : Hd (CellAt w o2 n2 c2 b2) := ⟨h2⟩
  obtain ⟨x, hx⟩ : ∃ x, (tS t1 b1).toArray = x := ⟨_, rfl⟩
  have HX : Hd ((tS t1 b1).toArray = x) := ⟨hx⟩
  obtain ⟨y, hy⟩ : ∃ y, (tS t2 b2).toArray = y := ⟨_, rfl⟩
  have HY : Hd ((tS t2 b2).toArray = y) := ⟨hy⟩
  obtain ⟨k1, hk1⟩ : ∃ k, tOk t1 b1 = k := ⟨_, rfl⟩
  have HK1 : Hd (tOk t1 b1 = k1) := ⟨hk1⟩
  obtain ⟨k2, hk2⟩ : ∃ k, tOk t2 b2 = k := ⟨_, rfl⟩
  have HK2 : Hd (tOk t2 b2 = k2) := ⟨hk2⟩
  have E : Hd (mOk t1 b1 t2 b2 = (k1 && k2 && ((⟨x⟩ : ByteArray).toList == (⟨y⟩ : ByteArray).toList))) := ⟨by
    rw [ByteArray.toList_eq, ByteArray.toList_eq, ← hx, ← hy, ← hk1, ← hk2]
    rfl⟩
  rewrite [E.out]
  obtain ⟨r, hr⟩ : ∃ r, (k1 && k2 && ((⟨x⟩ : ByteArray).toList == (⟨y⟩ : ByteArray).toList)) = r := ⟨_, rfl⟩
  have HR : Hd ((k1 && k2 && ((⟨x⟩ : ByteArray).toList == (⟨y⟩ : ByteArray).toList)) = r) := ⟨hr⟩
  rewrite [hr]
  clear h1 h2 hx hy hk1 hk2 E hr
  go_enter Tryz.func78, Tryz.ntmps78
  go_wp2_with fail
  have B0 : Hd (Below w.heap.size w ((w.alloc (.cells #[.int .i64 t1, .slice o1 n1 c1] 65)).alloc (.cells #[.int .i64 t2, .slice o2 n2 c2] 65))) := ⟨below_lit2 w _ _⟩
  obtain ⟨l1, l2⟩ := laid2 w (.cells #[.int .i64 t1, .slice o1 n1 c1] 65) (.cells #[.int .i64 t2, .slice o2 n2 c2] 65)
  generalize (w.alloc (.cells #[.int .i64 t1, .slice o1 n1 c1] 65)).alloc (.cells #[.int .i64 t2, .slice o2 n2 c2] 65) = W at *
  obtain ⟨p0, p1, _, _⟩ := cells2 W w.heap.size _ _ _ l1
  obtain ⟨q0, q1, _, _⟩ := cells2 W (w.heap.size + 1) _ _ _ l2
  have K : Hd (∀ w', Below W.heap.size W w' → (fun w' => (w'.cell? ⟨w.heap.size, 0, none⟩ = some (.int .i64 t1) ∧ w'.cell? ⟨w.heap.size, 1, none⟩ = some (.slice o1 n1 c1)) ∧ w'.cell? ⟨w.heap.size + 1, 0, none⟩ = some (.int .i64 t2) ∧ w'.cell? ⟨w.heap.size + 1, 1, none⟩ = some (.slice o2 n2 c2)) w') := ⟨fun w' hb => ⟨⟨cell_below p0 hb, cell_below p1 hb⟩, cell_below q0 hb, cell_below q1 hb⟩⟩
  clear l1 l2
  go_region_held (fun w' => (w'.cell? ⟨w.heap.size, 0, none⟩ = some (.int .i64 t1) ∧ w'.cell? ⟨w.heap.size, 1, none⟩ = some (.slice o1 n1 c1)) ∧ w'.cell? ⟨w.heap.size + 1, 0, none⟩ = some (.int .i64 t2) ∧ w'.cell? ⟨w.heap.size + 1, 1, none⟩ = some (.slice o2 n2 c2)) (first | assumption | exact K.out _ (Below.refl _ W).drew | exact K.out _ D3.out | exact K.out _ D2.out | exact K.out _ D1.out)
    (first | (go_at_call 88; refine (sameAs_any x y k1 k2 _).mono ?_; rintro e w3 ⟨rfl, hb⟩; rewrite [HR.out]; have D3 : Hd (Below W.heap.size W w3) := ⟨Below.next D2.out hb⟩; clear hb) | (have G1 := D1; clear G1; go_at_call 87; refine (implSaying_any t2 o2 n2 c2 b2 _ (H2.out.below (Below.next B0.out D1.out)) hl2 ⟨T.out.below (Below.next B0.out D1.out)⟩).mono ?_; rintro e w2 ⟨rfl, hb⟩; rewrite [HY.out, HK2.out]; have D2 : Hd (Below W.heap.size W w2) := ⟨Below.next D1.out hb⟩; clear hb) | (go_at_call 87; refine (implSaying_any t1 o1 n1 c1 b1 _ (H1.out.below B0.out.drew) hl1 ⟨T.out.below B0.out.drew⟩).mono ?_; rintro e w1 ⟨rfl, hb⟩; rewrite [HX.out, HK1.out]; have D1 : Hd (Below W.heap.size W w1) := ⟨Below.next (Below.refl _ W).drew hb⟩; clear hb))
  go_wp2_with fail
  go_ret
  exact ⟨rfl, Below.next B0.out D3.out⟩

end Go.Proofs.YtlididoalekeoaaGreatDoor
/- Contracts of noCell, oldOk, newOk, RowOk and RowText, in the program. -/
namespace Go.Proofs.YtlididoalekeoaaGreatDoor
set_option maxRecDepth 4000
open Go.RowKit

/-- Whether a cell can be an old one, a new one. -/
def oldK (t : Int) (bs : List UInt8) (a : Bool) : Bool := inB t 1 5 && cOk t bs.length && (tOk t bs || a)
def newK (t : Int) (bs : List UInt8) : Bool := tOk t bs && (t == 0)
theorem rOk_h1 {k : ByteArray} {t1 : Int} {b1 : List UInt8} {t2 : Int} {b2 : List UInt8} {asd nk z2 o1 : Bool} (h1 : nameOkB k = nk) (h2 : noneB t2 b2.length = z2) (h3 : oldK t1 b1 asd = o1) : rOk ⟨k, t1, b1, t2, b2, 1, asd⟩ = (nk && (z2 && o1)) := by
  subst h1 h2 h3
  simp only [rOk, oldK, has_one.1, has_one.2, in_t (x := 1) (lo := 1) (hi := 3) (by omega)]
  cases nameOkB k <;> cases noneB t2 b2.length <;> cases inB t1 1 5 <;> cases cOk t1 b1.length <;> cases tOk t1 b1 <;> cases asd <;> rfl
theorem rOk_h2 {k : ByteArray} {t1 : Int} {b1 : List UInt8} {t2 : Int} {b2 : List UInt8} {asd nk z1 w2 : Bool} (h1 : nameOkB k = nk) (h2 : noneB t1 b1.length = z1) (h3 : newK t2 b2 = w2) : rOk ⟨k, t1, b1, t2, b2, 2, asd⟩ = (nk && (z1 && w2)) := by
  subst h1 h2 h3
  simp only [rOk, newK, has_two.1, has_two.2, in_t (x := 2) (lo := 1) (hi := 3) (by omega)]
  cases nameOkB k <;> cases noneB t1 b1.length <;> cases (t2 == 0) <;> cases tOk t2 b2 <;> rfl
theorem rOk_h3 {k : ByteArray} {t1 : Int} {b1 : List UInt8} {t2 : Int} {b2 : List UInt8} {asd nk o2 w2 m : Bool} (h1 : nameOkB k = nk) (h2 : oldK t1 b1 false = o2) (h3 : newK t2 b2 = w2) (h4 : mOk t1 b1 t2 b2 = m) : rOk ⟨k, t1, b1, t2, b2, 3, asd⟩ = (nk && (o2 && w2 && m)) := by
  subst h1 h2 h3 h4
  simp only [rOk, oldK, newK, has_three.1, has_three.2, in_t (x := 3) (lo := 1) (hi := 3) (by omega)]
  cases nameOkB k <;> cases inB t1 1 5 <;> cases cOk t1 b1.length <;> cases (t2 == 0) <;> cases tOk t2 b2 <;> cases tOk t1 b1 <;> cases asd <;> cases mOk t1 b1 t2 b2 <;> rfl
theorem rOk_hn {r : RowD} (e1 : ¬ r.has = 1) (e2 : ¬ r.has = 2) (e3 : ¬ r.has = 3) : rOk r = false := by
  have h : inB r.has 1 3 = false := by
    cases hh : inB r.has 1 3
    · rfl
    · rcases has_cases hh with h | h | h <;> omega
  unfold rOk
  rw [h]
  cases nameOkB r.key <;> rfl
theorem rOk_name {r : RowD} (h : nameOkB r.key = false) : rOk r = false := by unfold rOk; rw [h]; rfl

set_option maxHeartbeats 400000 in
theorem isOldSet_any (t : Int) (w : World) : Calls Tryz.prog 84 #[.int .i64 t] w fun e w' => e = .returned (.bool (inB t 1 5)) ∧ w' = w := by
  by_cases h1 : (1 : Int) ≤ t
  · by_cases h2 : t ≤ 5
    · rw [in_t ⟨h1, h2⟩]
      have e1 : t ≥ 1 := h1
      go_enter Tryz.func84, Tryz.ntmps84
      go_wp2_with fail
      go_ret
      exact ⟨rfl, rfl⟩
    · rw [show inB t 1 5 = false from decide_eq_false (fun h => h2 h.2)]
      have e1 : t ≥ 1 := h1
      go_enter Tryz.func84, Tryz.ntmps84
      go_wp2_with fail
      go_ret
      exact ⟨rfl, rfl⟩
  · rw [show inB t 1 5 = false from decide_eq_false (fun h => h1 h.1)]
    have e1 : ¬ t ≥ 1 := h1
    go_enter Tryz.func84, Tryz.ntmps84
    go_wp2_with fail
    go_ret
    exact ⟨rfl, rfl⟩

set_option maxHeartbeats 1000000 in
theorem valueOf_any (t : Int) (ao : Option Addr) (n c : Nat) (bs : List UInt8) (w : World) (h : CellAt w ao n c bs) :
    Calls Tryz.prog 83 #[.agg #[.int .i64 t, .slice ao n c]] w fun e w' => e = .returned (.agg #[.int .i64 t, .string ⟨bs.toArray⟩]) ∧ Below w.heap.size w w' := by
  have hcv := (h.below (below_lit2 w (.cells #[.int .i64 t, .slice ao n c] 65) (.cells #[.int .i64 0, .string ⟨#[]⟩] 122))).conv
  generalize bs.toArray = S at *
  clear h
  go_enter Tryz.func83, Tryz.ntmps83
  go_wp2_with fail
  refine bodyPost_ret (results_cell_row rfl _ _ (w.heap.size + 1) _ _ (0, 0) _ rfl (laid2 w _ _).2 Tryz.underlying122 rfl (by kernel_rfl)) rfl ?_
  exact ⟨rfl, below_lit2 w _ _⟩

set_option maxHeartbeats 1000000 in
theorem noCell_any (t : Int) (ao : Option Addr) (n c : Nat) (bs : List UInt8) (w : World) (h : CellAt w ao n c bs) :
    Calls Tryz.prog 75 #[.agg #[.int .i64 t, .slice ao n c]] w fun e w' => e = .returned (.bool (noneB t n)) ∧ Below w.heap.size w w' := by
  have HC : Hd (CellAt w ao n c bs) := ⟨h⟩
  obtain ⟨z, hz⟩ : ∃ x, noneB t n = x := ⟨_, rfl⟩
  have E1 : Hd (t = 0 → bs.toArray = #[] → z = true) := ⟨fun e1 e2 => by
    have e3 : bs = [] := by simpa using e2
    rw [← hz, ← h.size, e1, e3]; rfl⟩
  have E2 : Hd (¬ (t = 0 ∧ bs.toArray = #[]) → z = false) := ⟨fun e => by
    cases z with
    | false => rfl
    | true =>
      rw [← h.size] at hz
      obtain ⟨e1, e2⟩ := none_parts hz
      exact absurd ⟨e1, by rw [e2]⟩ e⟩
  rw [hz]
  obtain ⟨S, hS⟩ : ∃ S, bs.toArray = S := ⟨_, rfl⟩
  have HS : Hd (bs.toArray = S) := ⟨hS⟩
  rw [hS] at E1 E2
  clear h hS hz
  go_enter Tryz.func75, Tryz.ntmps75
  go_wp2_with fail
  refine (valueOf_any t ao n c bs _ (HC.out.below (below_lit w _))).mono ?_
  rintro e w1 ⟨rfl, hB⟩
  rewrite [HS.out]
  have B1 : Hd (Below w.heap.size w w1) := ⟨Below.next (below_lit w _) hB⟩
  clear hB HS HC
  by_cases ht : t = 0
  · subst ht
    by_cases hs : (⟨S⟩ : ByteArray).toList = []
    · have e : S = #[] := by rw [ByteArray.toList_eq] at hs; simpa using hs
      go_wp2_with fail
      go_ret
      exact ⟨by rw [E1.out (by simp) e]; rfl, B1.out⟩
    · have e : ¬ S = #[] := fun h => hs (by rw [ByteArray.toList_eq, h])
      go_wp2_with fail
      go_ret
      exact ⟨by rw [E2.out (by simp [e])]; rfl, B1.out⟩
  · go_wp2_with fail
    go_ret
    exact ⟨by rw [E2.out (by simp [ht])]; rfl, B1.out⟩

set_option maxHeartbeats 1000000 in
theorem oldOk_any (t : Int) (ao : Option Addr) (n c : Nat) (bs : List UInt8) (a : Bool) (w : World) (h : CellAt w ao n c bs) (hl : n ≤ 1048576) (T : Hd (AllAt w)) :
    Calls Tryz.prog 76 #[.agg #[.int .i64 t, .slice ao n c], .bool a] w fun e w' => e = .returned (.bool (oldK t bs a)) ∧ Below w.heap.size w w' := by
  have HC : Hd (CellAt w ao n c bs) := ⟨h⟩
  obtain ⟨i1, hi1⟩ : ∃ x, inB t 1 5 = x := ⟨_, rfl⟩
  have HI : Hd (inB t 1 5 = i1) := ⟨hi1⟩
  obtain ⟨ck, hck⟩ : ∃ x, cOk t n = x := ⟨_, rfl⟩
  have HK : Hd (cOk t n = ck) := ⟨hck⟩
  obtain ⟨tk, htk⟩ : ∃ x, tOk t bs = x := ⟨_, rfl⟩
  have HT : Hd (tOk t bs = tk) := ⟨htk⟩
  obtain ⟨S, hS⟩ : ∃ x, (tS t bs).toArray = x := ⟨_, rfl⟩
  have HS : Hd ((tS t bs).toArray = S) := ⟨hS⟩
  have E : Hd (oldK t bs a = (i1 && ck && (tk || a))) := ⟨by unfold oldK; rw [h.size, hi1, hck, htk]⟩
  rw [E.out]
  clear h hi1 hck htk hS E
  go_enter Tryz.func76, Tryz.ntmps76
  go_wp2_with fail
  refine (isOldSet_any t _).mono ?_
  rintro e w1 ⟨rfl, hw⟩
  rewrite [HI.out]
  have hB : Below (w.alloc (.cells #[.int .i64 t, .slice ao n c] 65)).heap.size (w.alloc (.cells #[.int .i64 t, .slice ao n c] 65)) w1 := same_below hw
  have B1 : Hd (Below w.heap.size w w1) := ⟨Below.next (below_lit w _) hB⟩
  have K1 : Hd (w1.heap[w.heap.size]? = some (.cells #[.int .i64 t, .slice ao n c] 65 (0, 0))) := ⟨box_at hB⟩
  obtain ⟨p0, p1, _, _⟩ := cells2 w1 w.heap.size _ _ _ K1.out
  clear hw hB
  cases i1 with
  | false =>
    go_wp2_with fail
    go_ret
    exact ⟨rfl, B1.out⟩
  | true =>
    go_wp2_with fail
    refine (implCellOk_any t ao n c _).mono ?_
    rintro e w2 ⟨rfl, hB⟩
    rewrite [HK.out]
    have B2 : Hd (Below w.heap.size w w2) := ⟨Below.next B1.out hB⟩
    have K2 : Hd (w2.heap[w.heap.size]? = some (.cells #[.int .i64 t, .slice ao n c] 65 (0, 0))) := ⟨(hB.block _ (lt_of_block K1.out)).trans K1.out⟩
    clear p0 p1 hB B1 K1
    obtain ⟨p0, p1, _, _⟩ := cells2 w2 w.heap.size _ _ _ K2.out
    cases ck with
    | false =>
      go_wp2_with fail
      go_ret
      exact ⟨rfl, B2.out⟩
    | true =>
      go_wp2_with fail
      refine (implCellText_any t ao n c bs _ (HC.out.below B2.out) hl ⟨T.out.below B2.out⟩).mono ?_
      rintro e w3 ⟨rfl, hB⟩
      rewrite [HS.out, HT.out]
      have B3 : Hd (Below w.heap.size w w3) := ⟨Below.next B2.out hB⟩
      clear p0 p1 hB B2 K2
      cases tk with
      | false =>
        go_wp2_with fail
        go_ret
        exact ⟨rfl, B3.out⟩
      | true =>
        go_wp2_with fail
        go_ret
        exact ⟨rfl, B3.out⟩

set_option maxHeartbeats 1000000 in
theorem newOk_any (t : Int) (ao : Option Addr) (n c : Nat) (bs : List UInt8) (w : World) (h : CellAt w ao n c bs) (hl : n ≤ 1048576) (T : Hd (AllAt w)) :
    Calls Tryz.prog 77 #[.agg #[.int .i64 t, .slice ao n c]] w fun e w' => e = .returned (.bool (newK t bs)) ∧ Below w.heap.size w w' := by
  have HC : Hd (CellAt w ao n c bs) := ⟨h⟩
  obtain ⟨tk, htk⟩ : ∃ x, tOk t bs = x := ⟨_, rfl⟩
  have HT : Hd (tOk t bs = tk) := ⟨htk⟩
  obtain ⟨S, hS⟩ : ∃ x, (tS t bs).toArray = x := ⟨_, rfl⟩
  have HS : Hd ((tS t bs).toArray = S) := ⟨hS⟩
  have E : Hd (newK t bs = (tk && (t == 0))) := ⟨by unfold newK; rw [htk]⟩
  rw [E.out]
  clear h htk hS E
  go_enter Tryz.func77, Tryz.ntmps77
  go_wp2_with fail
  refine (implCellText_any t ao n c bs _ (HC.out.below (below_lit w _)) hl ⟨T.out.below (below_lit w _)⟩).mono ?_
  rintro e w1 ⟨rfl, hB⟩
  rewrite [HS.out, HT.out]
  have B1 : Hd (Below w.heap.size w w1) := ⟨Below.next (below_lit w _) hB⟩
  obtain ⟨p0, p1, _, _⟩ := cells2 w1 w.heap.size _ _ _ (box_at hB)
  clear hB
  cases tk with
  | false =>
    go_wp2_with fail
    go_ret
    exact ⟨rfl, B1.out⟩
  | true =>
    go_wp2_with fail
    go_ret
    exact ⟨rfl, B1.out⟩

set_option maxHeartbeats 4000000 in
theorem implRowOk_any (k : ByteArray) (t1 : Int) (a1 : Option Addr) (n1 c1 : Nat) (t2 : Int) (a2 : Option Addr) (n2 c2 : Nat) (has : Int) (asd : Bool) (b1 b2 : List UInt8) (w : World) (hk : k.size ≤ 1048576) (h1 : CellAt w a1 n1 c1 b1) (h2 : CellAt w a2 n2 c2 b2) (hl1 : n1 ≤ 1048576) (hl2 : n2 ≤ 1048576) (T : Hd (AllAt w)) :
    Calls Tryz.prog 63 #[.agg #[.string k, .int .i64 t1, .slice a1 n1 c1, .int .i64 t2, .slice a2 n2 c2, .int .i64 has, .bool asd]] w fun e w' => e = .returned (.bool (rOk ⟨k, t1, b1, t2, b2, has, asd⟩)) ∧ Below w.heap.size w w' := by
  have H1 : Hd (CellAt w a1 n1 c1 b1) := ⟨h1⟩
  have H2 : Hd (CellAt w a2 n2 c2 b2) := ⟨h2⟩
  have F0 : Hd (RBox w w.heap.size k t1 a1 n1 c1 t2 a2 n2 c2 has asd (w.alloc (.cells #[.string k, .int .i64 t1, .slice a1 n1 c1, .int .i64 t2, .slice a2 n2 c2, .int .i64 has, .bool asd] 67))) := ⟨rBox_new w k t1 a1 n1 c1 t2 a2 n2 c2 has asd⟩
  obtain ⟨nk, hnk⟩ : ∃ x, nameOkB k = x := ⟨_, rfl⟩
  have HNK : Hd (nameOkB k = nk) := ⟨hnk⟩
  obtain ⟨z1, hz1⟩ : ∃ x, noneB t1 n1 = x := ⟨_, rfl⟩
  have HZ1 : Hd (noneB t1 n1 = z1) := ⟨hz1⟩
  obtain ⟨z2, hz2⟩ : ∃ x, noneB t2 n2 = x := ⟨_, rfl⟩
  have HZ2 : Hd (noneB t2 n2 = z2) := ⟨hz2⟩
  have HY1 : Hd (noneB t1 b1.length = z1) := ⟨by rw [h1.size]; exact hz1⟩
  have HY2 : Hd (noneB t2 b2.length = z2) := ⟨by rw [h2.size]; exact hz2⟩
  obtain ⟨o1, ho1⟩ : ∃ x, oldK t1 b1 asd = x := ⟨_, rfl⟩
  have HD1 : Hd (oldK t1 b1 asd = o1) := ⟨ho1⟩
  obtain ⟨o2, ho2⟩ : ∃ x, oldK t1 b1 false = x := ⟨_, rfl⟩
  have HD2 : Hd (oldK t1 b1 false = o2) := ⟨ho2⟩
  obtain ⟨w2, hw2⟩ : ∃ x, newK t2 b2 = x := ⟨_, rfl⟩
  have HW2 : Hd (newK t2 b2 = w2) := ⟨hw2⟩
  obtain ⟨m, hm⟩ : ∃ x, mOk t1 b1 t2 b2 = x := ⟨_, rfl⟩
  have HM : Hd (mOk t1 b1 t2 b2 = m) := ⟨hm⟩
  have E0 : Hd (nk = false → rOk ⟨k, t1, b1, t2, b2, has, asd⟩ = false) := ⟨fun e => rOk_name (hnk.trans e)⟩
  clear h1 h2 hnk hz1 hz2 ho1 ho2 hw2 hm
  go_enter Tryz.func63, Tryz.ntmps63
  go_wp2_with fail
  refine (implNameOk_any k _ hk).mono ?_
  rintro e v1 ⟨rfl, hB⟩
  replace hB := same_below hB
  rewrite [HNK.out]
  have F1 : Hd (RBox w w.heap.size k t1 a1 n1 c1 t2 a2 n2 c2 has asd v1) := ⟨F0.out.below hB⟩
  obtain ⟨x0, x1, x2, x3, x4, x5, x6⟩ := cells7 v1 w.heap.size _ _ _ _ _ _ _ _ F1.out.box
  clear hB F0
  cases nk with
  | false =>
    go_wp2_with fail
    go_ret
    exact ⟨by rw [E0.out (by simp)]; rfl, F1.out.bel⟩
  | true =>
    by_cases e1 : has = 1
    · subst e1
      go_wp2_with fail
      clear x0 x1 x2 x3 x4 x5 x6
      refine (noCell_any t2 a2 n2 c2 b2 _ (H2.out.below F1.out.bel)).mono ?_
      rintro e v2 ⟨rfl, hB⟩
      rewrite [HZ2.out]
      have F2 : Hd (RBox w w.heap.size k t1 a1 n1 c1 t2 a2 n2 c2 1 asd v2) := ⟨F1.out.below hB⟩
      obtain ⟨x0, x1, x2, x3, x4, x5, x6⟩ := cells7 v2 w.heap.size _ _ _ _ _ _ _ _ F2.out.box
      clear hB F1
      cases z2 with
      | false =>
        go_wp2_with fail
        go_ret
        exact ⟨by rw [rOk_h1 HNK.out HY2.out HD1.out]; rfl, F2.out.bel⟩
      | true =>
        go_wp2_with fail
        clear x0 x1 x2 x3 x4 x5 x6
        refine (oldOk_any t1 a1 n1 c1 b1 asd _ (H1.out.below F2.out.bel) hl1 ⟨T.out.below F2.out.bel⟩).mono ?_
        rintro e v3 ⟨rfl, hB⟩
        rewrite [HD1.out]
        have F3 : Hd (RBox w w.heap.size k t1 a1 n1 c1 t2 a2 n2 c2 1 asd v3) := ⟨F2.out.below hB⟩
        obtain ⟨x0, x1, x2, x3, x4, x5, x6⟩ := cells7 v3 w.heap.size _ _ _ _ _ _ _ _ F3.out.box
        clear hB F2
        go_wp2_with fail
        go_ret
        exact ⟨by rw [rOk_h1 HNK.out HY2.out HD1.out]; rfl, F3.out.bel⟩
    have d1 : (has == 1) = false := by simpa using e1
    by_cases e2 : has = 2
    · subst e2
      go_wp2_with fail
      clear x0 x1 x2 x3 x4 x5 x6
      refine (noCell_any t1 a1 n1 c1 b1 _ (H1.out.below F1.out.bel)).mono ?_
      rintro e v2 ⟨rfl, hB⟩
      rewrite [HZ1.out]
      have F2 : Hd (RBox w w.heap.size k t1 a1 n1 c1 t2 a2 n2 c2 2 asd v2) := ⟨F1.out.below hB⟩
      obtain ⟨x0, x1, x2, x3, x4, x5, x6⟩ := cells7 v2 w.heap.size _ _ _ _ _ _ _ _ F2.out.box
      clear hB F1
      cases z1 with
      | false =>
        go_wp2_with fail
        go_ret
        exact ⟨by rw [rOk_h2 HNK.out HY1.out HW2.out]; rfl, F2.out.bel⟩
      | true =>
        go_wp2_with fail
        clear x0 x1 x2 x3 x4 x5 x6
        refine (newOk_any t2 a2 n2 c2 b2 _ (H2.out.below F2.out.bel) hl2 ⟨T.out.below F2.out.bel⟩).mono ?_
        rintro e v3 ⟨rfl, hB⟩
        rewrite [HW2.out]
        have F3 : Hd (RBox w w.heap.size k t1 a1 n1 c1 t2 a2 n2 c2 2 asd v3) := ⟨F2.out.below hB⟩
        obtain ⟨x0, x1, x2, x3, x4, x5, x6⟩ := cells7 v3 w.heap.size _ _ _ _ _ _ _ _ F3.out.box
        clear hB F2
        go_wp2_with fail
        go_ret
        exact ⟨by rw [rOk_h2 HNK.out HY1.out HW2.out]; rfl, F3.out.bel⟩
    have d2 : (has == 2) = false := by simpa using e2
    by_cases e3 : has = 3
    · subst e3
      go_wp2_with fail
      clear x0 x1 x2 x3 x4 x5 x6
      refine (oldOk_any t1 a1 n1 c1 b1 false _ (H1.out.below F1.out.bel) hl1 ⟨T.out.below F1.out.bel⟩).mono ?_
      rintro e v2 ⟨rfl, hB⟩
      rewrite [HD2.out]
      have F2 : Hd (RBox w w.heap.size k t1 a1 n1 c1 t2 a2 n2 c2 3 asd v2) := ⟨F1.out.below hB⟩
      obtain ⟨x0, x1, x2, x3, x4, x5, x6⟩ := cells7 v2 w.heap.size _ _ _ _ _ _ _ _ F2.out.box
      clear hB F1
      cases o2 with
      | false =>
        go_wp2_with fail
        go_ret
        exact ⟨by rw [rOk_h3 HNK.out HD2.out HW2.out HM.out]; rfl, F2.out.bel⟩
      | true =>
        go_wp2_with fail
        clear x0 x1 x2 x3 x4 x5 x6
        refine (newOk_any t2 a2 n2 c2 b2 _ (H2.out.below F2.out.bel) hl2 ⟨T.out.below F2.out.bel⟩).mono ?_
        rintro e v3 ⟨rfl, hB⟩
        rewrite [HW2.out]
        have F3 : Hd (RBox w w.heap.size k t1 a1 n1 c1 t2 a2 n2 c2 3 asd v3) := ⟨F2.out.below hB⟩
        obtain ⟨x0, x1, x2, x3, x4, x5, x6⟩ := cells7 v3 w.heap.size _ _ _ _ _ _ _ _ F3.out.box
        clear hB F2
        cases w2 with
        | false =>
          go_wp2_with fail
          go_ret
          exact ⟨by rw [rOk_h3 HNK.out HD2.out HW2.out HM.out]; rfl, F3.out.bel⟩
        | true =>
          go_wp2_with fail
          clear x0 x1 x2 x3 x4 x5 x6
          refine (implSameText_any t1 a1 n1 c1 b1 t2 a2 n2 c2 b2 _ (H1.out.below F3.out.bel) hl1 (H2.out.below F3.out.bel) hl2 ⟨T.out.below F3.out.bel⟩).mono ?_
          rintro e v4 ⟨rfl, hB⟩
          rewrite [HM.out]
          have F4 : Hd (RBox w w.heap.size k t1 a1 n1 c1 t2 a2 n2 c2 3 asd v4) := ⟨F3.out.below hB⟩
          obtain ⟨x0, x1, x2, x3, x4, x5, x6⟩ := cells7 v4 w.heap.size _ _ _ _ _ _ _ _ F4.out.box
          clear hB F3
          go_wp2_with fail
          go_ret
          exact ⟨by rw [rOk_h3 HNK.out HD2.out HW2.out HM.out]; rfl, F4.out.bel⟩
    have d3 : (has == 3) = false := by simpa using e3
    go_wp2_with fail
    go_ret
    exact ⟨by rw [rOk_hn e1 e2 e3]; rfl, F1.out.bel⟩

end Go.Proofs.YtlididoalekeoaaGreatDoor
