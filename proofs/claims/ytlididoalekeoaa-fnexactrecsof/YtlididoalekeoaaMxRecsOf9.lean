/- Parts of the proof, one behind the other. -/
import Derived.Test.YtlididoalekeoaaMxRecsOf4
import Derived.Deep.RegionHeldLaw
import Derived.Test.YtlididoalekeoaaMxRecsOf8
import Derived.Deep.RegionHeld3
import Derived.Test.YtlididoalekeoaaMxRecsOf5
import Derived.Test.YtlididoalekeoaaMxRecsOf2
import Derived.Test.YtlididoalekeoaaMxRecsOf6
import Derived.Test.YtlididoalekeoaaMxRecsOf1
/- The contract of l8Copy. -/
namespace Go.Proofs.Ytlididoalekeoaa
set_option maxRecDepth 4000
open Go.RowKit

set_option maxHeartbeats 1000000 in
theorem l8Copy_some (tag : Int) (q n c : Nat) (bs : List UInt8) (w : World) (h : Lies w q n bs) (hl : n ≤ 1048576) :
    Calls Try.prog 93 #[.agg #[.int .i64 tag, .slice (some ⟨q, 0, none⟩) n c]] w fun e w' => ∃ g c', e = .returned (.agg #[.int .i64 tag, .slice (some ⟨g, 0, none⟩) n c']) ∧ w.heap.size ≤ g ∧ Own w' g c' bs ∧ Below w.heap.size w w' := by
  have HL : Hd (Lies w q n bs) := ⟨h⟩
  clear h
  go_enter Try.func93, Try.ntmps93
  go_wp2_with fail
  go_region_held_law (fun w' => w'.cell? ⟨w.heap.size, 0, none⟩ = some (.int .i64 tag) ∧ w'.cell? ⟨w.heap.size, 1, none⟩ = some (.slice (some ⟨q, 0, none⟩) n c)) (first | go_keep)
    (first | (refine step_app rfl (.tmp 5) (.tmp 7) rfl (w.heap.size + 2) _ 0 0 [] bs rfl (emp1 ((w.alloc (.cells #[.int .i64 tag, .slice (some ⟨q, 0, none⟩) n c] 82)).alloc (.cells #[.int .i64 0, .slice none 0 0] 82)) _ (by simp)) rfl (by omega) (by simp <;> omega) ⟨q, 0, none⟩ n c rfl HL.out.size (map_cb_cell HL.out.size (fun j hj => cell_below (HL.out.cell j hj) (below_lit3 _ _ _ _).drew)) (by omega) ?_
              intro g cap w1 hO hG hA hP
              have k0 := grown_cell hG (a := ⟨w.heap.size, 0, none⟩) (v := .int .i64 tag) (by go_simp) (by show w.heap.size ≠ _; omega)
              have k1 := grown_cell hG (a := ⟨w.heap.size, 1, none⟩) (v := .slice (some ⟨q, 0, none⟩) n c) (by go_simp) (by show w.heap.size ≠ _; omega)
              have m0 := grown_cell hG (a := ⟨w.heap.size + 1, 0, none⟩) (v := .int .i64 0) (by go_simp) (by show w.heap.size + 1 ≠ _; omega)
              have f0 := grown_free hG (a := ⟨w.heap.size + 1, 0, none⟩) (v := .int .i64 0) (by go_simp) (by go_simp) (by show w.heap.size + 1 ≠ _; omega)
              have m1 := grown_cell hG (a := ⟨w.heap.size + 1, 1, none⟩) (v := .slice none 0 0) (by go_simp) (by show w.heap.size + 1 ≠ _; omega)
              have f1 := grown_free hG (a := ⟨w.heap.size + 1, 1, none⟩) (v := .slice none 0 0) (by go_simp) (by go_simp) (by show w.heap.size + 1 ≠ _; omega)
              replace hO : Hd _ := ⟨hO⟩
              replace hG : Hd _ := ⟨hG⟩
              replace hA : Hd _ := ⟨hA⟩
              replace hP : Hd _ := ⟨hP⟩))
  have HK : Hd (w1.heap[w.heap.size + 1]? = some (.cells #[.int .i64 0, .slice none 0 0] 82 (0, 0))) := ⟨grown_block hG.out (laid3 w _ _ _).2.1 (by omega)⟩
  have HB : Hd (Below w.heap.size w w1) := ⟨below_grows (below_lit3 w _ _ _).drew hG.out (by simp; omega) (by omega)⟩
  have hg := hP.out
  go_wp2_with fail
  refine bodyPost_ret (results_cell_row rfl _ _ (w.heap.size + 1) _ _ (0, 0) _ rfl (set2 _ _ HK.out) Try.underlying82 rfl (by kernel_rfl)) rfl ?_
  exact ⟨g, cap, rfl, by omega, (hO.out.of_block (block_set rfl (by omega))).of_block (block_set rfl (by omega)), bset (bset HB.out _ (by omega)) _ (by omega)⟩

set_option maxHeartbeats 1000000 in
theorem l8Copy_nil (tag : Int) (w : World) :
    Calls Try.prog 93 #[.agg #[.int .i64 tag, .slice none 0 0]] w fun e w' => ∃ g c', e = .returned (.agg #[.int .i64 tag, .slice (some ⟨g, 0, none⟩) 0 c']) ∧ w.heap.size ≤ g ∧ Own w' g c' [] ∧ Below w.heap.size w w' := by
  go_enter Try.func93, Try.ntmps93
  go_wp2_with fail
  go_region_held_law (fun w' => w'.cell? ⟨w.heap.size, 0, none⟩ = some (.int .i64 tag) ∧ w'.cell? ⟨w.heap.size, 1, none⟩ = some (.slice none 0 0)) (first | go_keep)
    (refine step_app_nil rfl (.tmp 5) (.tmp 7) rfl _ 0 0 rfl rfl (Nat.le_refl _) ?_)
  go_wp2_with fail
  refine bodyPost_ret (results_cell_row rfl _ _ (w.heap.size + 1) _ _ (0, 0) _ rfl (laid3 w _ _ _).2.1 Try.underlying82 rfl (by kernel_rfl)) rfl ?_
  exact ⟨w.heap.size + 1 + 1, 0, rfl, by omega, emp1 ((w.alloc _).alloc _) _ (by simp), (below_lit3 w _ _ _).drew⟩

theorem l8Copy_o (tag : Int) (ao : Option Addr) (n c : Nat) (bs : List UInt8) (w : World) (h : CellAt w ao n c bs) (hl : n ≤ 1048576) :
    Calls Try.prog 93 #[.agg #[.int .i64 tag, .slice ao n c]] w fun e w' => ∃ g c', e = .returned (.agg #[.int .i64 tag, .slice (some ⟨g, 0, none⟩) n c']) ∧ w.heap.size ≤ g ∧ Own w' g c' bs ∧ Below w.heap.size w w' := by
  rcases h with ⟨rfl, rfl, rfl, rfl⟩ | ⟨q, rfl, _, h3⟩
  · exact l8Copy_nil tag w
  · exact l8Copy_some tag q n c bs w h3 hl

end Go.Proofs.Ytlididoalekeoaa
/- A row's box and the result's; the contract of l9Copy. -/
namespace Go.Proofs.Ytlididoalekeoaa
set_option maxRecDepth 4000
open Go.RowKit

/-- A row's box, and that of the result. -/
structure RTwo (w : World) (k : ByteArray) (t1 : Int) (a1 : Option Addr) (n1 c1 : Nat) (t2 : Int) (a2 : Option Addr) (n2 c2 : Nat) (has : Int) (asd : Bool) (wx : World) : Prop where
  box : wx.heap[w.heap.size]? = some (.cells #[.string k, .int .i64 t1, .slice a1 n1 c1, .int .i64 t2, .slice a2 n2 c2, .int .i64 has, .bool asd] 84 (0, 0))
  res : wx.heap[w.heap.size + 1]? = some (.cells #[.string ⟨#[]⟩, .int .i64 0, .slice none 0 0, .int .i64 0, .slice none 0 0, .int .i64 0, .bool false] 84 (0, 0))
  bel : Below w.heap.size w wx
theorem RTwo.below {w : World} {k : ByteArray} {t1 : Int} {a1 : Option Addr} {n1 c1 : Nat} {t2 : Int} {a2 : Option Addr} {n2 c2 : Nat} {has : Int} {asd : Bool} {wx wy : World} (h : RTwo w k t1 a1 n1 c1 t2 a2 n2 c2 has asd wx) (hB : Below wx.heap.size wx wy) : RTwo w k t1 a1 n1 c1 t2 a2 n2 c2 has asd wy :=
  ⟨(hB.block _ (lt_of_block h.box)).trans h.box, (hB.block _ (lt_of_block h.res)).trans h.res, Below.next h.bel hB⟩
theorem rTwo_new (w : World) (k : ByteArray) (t1 : Int) (a1 : Option Addr) (n1 c1 : Nat) (t2 : Int) (a2 : Option Addr) (n2 c2 : Nat) (has : Int) (asd : Bool) : RTwo w k t1 a1 n1 c1 t2 a2 n2 c2 has asd ((w.alloc (.cells #[.string k, .int .i64 t1, .slice a1 n1 c1, .int .i64 t2, .slice a2 n2 c2, .int .i64 has, .bool asd] 84)).alloc (.cells #[.string ⟨#[]⟩, .int .i64 0, .slice none 0 0, .int .i64 0, .slice none 0 0, .int .i64 0, .bool false] 84)) := ⟨(laid2 w _ _).1, (laid2 w _ _).2, below_lit2 w _ _⟩

/-- A copy of a row that is answered. -/
structure CopyOut (w : World) (k : ByteArray) (t1 : Int) (n1 : Nat) (b1 : List UInt8) (t2 : Int) (n2 : Nat) (b2 : List UInt8) (has : Int) (asd : Bool) (e : Ending) (w' : World) : Prop where
  out : ∃ a1 c1 a2 c2, e = .returned (.agg #[.string k, .int .i64 t1, .slice a1 n1 c1, .int .i64 t2, .slice a2 n2 c2, .int .i64 has, .bool asd]) ∧ Apart w' (w.heap.size + 2) a1 c1 b1 a2 c2 b2 ∧ w.heap.size + 1 < w'.heap.size ∧ Below w.heap.size w w'

/-- The seven cells of a row's box. -/
abbrev Cells7 (d : Nat) (k : ByteArray) (t1 : Int) (a1 : Option Addr) (n1 c1 : Nat) (t2 : Int) (a2 : Option Addr) (n2 c2 : Nat) (has : Int) (asd : Bool) (w' : World) : Prop :=
  w'.cell? ⟨d, 0, none⟩ = some (.string k) ∧ w'.cell? ⟨d, 1, none⟩ = some (.int .i64 t1) ∧ w'.cell? ⟨d, 2, none⟩ = some (.slice a1 n1 c1) ∧ w'.cell? ⟨d, 3, none⟩ = some (.int .i64 t2) ∧ w'.cell? ⟨d, 4, none⟩ = some (.slice a2 n2 c2) ∧ w'.cell? ⟨d, 5, none⟩ = some (.int .i64 has) ∧ w'.cell? ⟨d, 6, none⟩ = some (.bool asd)
theorem Cells7.set7 {d q : Nat} {k : ByteArray} {t1 : Int} {a1 : Option Addr} {n1 c1 : Nat} {t2 : Int} {a2 : Option Addr} {n2 c2 : Nat} {has : Int} {asd : Bool} {w : World} {x0 x1 x2 x3 x4 x5 x6 : Value} (h : Cells7 d k t1 a1 n1 c1 t2 a2 n2 c2 has asd w) (hne : d ≠ q) :
    Cells7 d k t1 a1 n1 c1 t2 a2 n2 c2 has asd (((((((w.setCell ⟨q, 0, none⟩ x0).setCell ⟨q, 1, none⟩ x1).setCell ⟨q, 2, none⟩ x2).setCell ⟨q, 3, none⟩ x3).setCell ⟨q, 4, none⟩ x4).setCell ⟨q, 5, none⟩ x5).setCell ⟨q, 6, none⟩ x6) :=
  ⟨cell_set7 h.1 hne, cell_set7 h.2.1 hne, cell_set7 h.2.2.1 hne, cell_set7 h.2.2.2.1 hne, cell_set7 h.2.2.2.2.1 hne, cell_set7 h.2.2.2.2.2.1 hne, cell_set7 h.2.2.2.2.2.2 hne⟩
theorem cells7_at {d : Nat} {k : ByteArray} {t1 : Int} {a1 : Option Addr} {n1 c1 : Nat} {t2 : Int} {a2 : Option Addr} {n2 c2 : Nat} {has : Int} {asd : Bool} {w : World} {T : TypeId} (h : w.heap[d]? = some (.cells #[.string k, .int .i64 t1, .slice a1 n1 c1, .int .i64 t2, .slice a2 n2 c2, .int .i64 has, .bool asd] T (0, 0))) : Cells7 d k t1 a1 n1 c1 t2 a2 n2 c2 has asd w :=
  cells7 w d _ _ _ _ _ _ _ _ h
theorem apart_of {w : World} {B g1 c1 g2 c2 : Nat} {b1 b2 : List UInt8} (h1 : B ≤ g1) (h2 : g1 < g2) (hO1 : Own w g1 c1 b1) (hO2 : Own w g2 c2 b2) : Apart w B (some ⟨g1, 0, none⟩) c1 b1 (some ⟨g2, 0, none⟩) c2 b2 :=
  ⟨.inr ⟨g1, rfl, h1, hO1⟩, .inr ⟨g2, rfl, by omega, hO2⟩, fun q hq he => by cases hq; cases he; omega⟩
theorem below7 {w v : World} {q : Nat} {x0 x1 x2 x3 x4 x5 x6 : Value} (hB : Below w.heap.size w v) (hq : w.heap.size ≤ q) :
    Below w.heap.size w (((((((v.setCell ⟨q, 0, none⟩ x0).setCell ⟨q, 1, none⟩ x1).setCell ⟨q, 2, none⟩ x2).setCell ⟨q, 3, none⟩ x3).setCell ⟨q, 4, none⟩ x4).setCell ⟨q, 5, none⟩ x5).setCell ⟨q, 6, none⟩ x6) := bset7 hB hq

set_option maxHeartbeats 2000000 in
theorem l9Copy_any (k : ByteArray) (t1 : Int) (a1 : Option Addr) (n1 c1 : Nat) (t2 : Int) (a2 : Option Addr) (n2 c2 : Nat) (has : Int) (asd : Bool) (b1 b2 : List UInt8) (w : World) (h1 : CellAt w a1 n1 c1 b1) (h2 : CellAt w a2 n2 c2 b2) (hl1 : n1 ≤ 1048576) (hl2 : n2 ≤ 1048576) :
    Calls Try.prog 66 #[.agg #[.string k, .int .i64 t1, .slice a1 n1 c1, .int .i64 t2, .slice a2 n2 c2, .int .i64 has, .bool asd]] w (CopyOut w k t1 n1 b1 t2 n2 b2 has asd) := by
  have H1 : Hd (CellAt w a1 n1 c1 b1) := ⟨h1⟩
  have H2 : Hd (CellAt w a2 n2 c2 b2) := ⟨h2⟩
  have F0 : Hd (RTwo w k t1 a1 n1 c1 t2 a2 n2 c2 has asd ((w.alloc (.cells #[.string k, .int .i64 t1, .slice a1 n1 c1, .int .i64 t2, .slice a2 n2 c2, .int .i64 has, .bool asd] 84)).alloc (.cells #[.string ⟨#[]⟩, .int .i64 0, .slice none 0 0, .int .i64 0, .slice none 0 0, .int .i64 0, .bool false] 84))) := ⟨rTwo_new w k t1 a1 n1 c1 t2 a2 n2 c2 has asd⟩
  clear h1 h2
  go_enter Try.func66, Try.ntmps66
  go_wp2_with fail
  generalize (w.alloc (.cells #[.string k, .int .i64 t1, .slice a1 n1 c1, .int .i64 t2, .slice a2 n2 c2, .int .i64 has, .bool asd] 84)).alloc (.cells #[.string ⟨#[]⟩, .int .i64 0, .slice none 0 0, .int .i64 0, .slice none 0 0, .int .i64 0, .bool false] 84) = W at *
  have KK : Hd (∀ w', Below W.heap.size W w' → Cells7 w.heap.size k t1 a1 n1 c1 t2 a2 n2 c2 has asd w') := ⟨fun w' hb => cells7_at (F0.out.below hb).box⟩
  have KD : Hd (Below W.heap.size W W.drew) := ⟨(Below.refl _ W).drew⟩
  have K0 := KK.out _ (Below.refl _ W)
  unfold Cells7 at K0
  obtain ⟨p0, p1, p2, p3, p4, p5, p6⟩ := K0
  go_region_held (fun w' => w'.cell? ⟨w.heap.size, 0, none⟩ = some (.string k) ∧ w'.cell? ⟨w.heap.size, 1, none⟩ = some (.int .i64 t1) ∧ w'.cell? ⟨w.heap.size, 2, none⟩ = some (.slice a1 n1 c1) ∧ w'.cell? ⟨w.heap.size, 3, none⟩ = some (.int .i64 t2) ∧ w'.cell? ⟨w.heap.size, 4, none⟩ = some (.slice a2 n2 c2) ∧ w'.cell? ⟨w.heap.size, 5, none⟩ = some (.int .i64 has) ∧ w'.cell? ⟨w.heap.size, 6, none⟩ = some (.bool asd)) (first | (with_reducible refine Cells7.set7 (KK.out _ D2.out) ?_; omega) | (with_reducible exact KK.out _ D2.out) | (with_reducible exact KK.out _ D1.out) | (with_reducible exact KK.out _ KD.out))
    (first | (have G1 := D1; clear G1; go_at_call 93; refine (l8Copy_o t2 a2 n2 c2 b2 _ (H2.out.below (Below.next F0.out.bel D1.out)) hl2).mono ?_; rintro e v2 ⟨g2, d2, rfl, hg, hO, hB⟩; have D2 : Hd (Below W.heap.size W v2) := ⟨Below.next D1.out hB⟩; have F2 : Hd (RTwo w k t1 a1 n1 c1 t2 a2 n2 c2 has asd v2) := ⟨F0.out.below D2.out⟩; have O2 : Hd (w.heap.size + 2 ≤ g1 ∧ g1 < g2 ∧ Own v2 g1 d1 b1 ∧ Own v2 g2 d2 b2) := ⟨O1.out.1, Nat.lt_of_lt_of_le O1.out.2.lt hg, O1.out.2.below hB, hO⟩; obtain ⟨r0, r1, r2, r3, r4, r5, r6⟩ := cells7 v2 (w.heap.size + 1) _ _ _ _ _ _ _ _ F2.out.res; obtain ⟨s0, s1, s2, s3, s4, s5, s6⟩ := free7 v2 (w.heap.size + 1) _ _ _ _ _ _ _ _ F2.out.res; clear hg hO hB) | (go_at_call 93; refine (l8Copy_o t1 a1 n1 c1 b1 _ (H1.out.below F0.out.bel.drew) hl1).mono ?_; rintro e v1 ⟨g1, d1, rfl, hg, hO, hB⟩; have D1 : Hd (Below W.heap.size W v1) := ⟨Below.next (Below.refl _ W).drew hB⟩; have O1 : Hd (w.heap.size + 2 ≤ g1 ∧ Own v1 g1 d1 b1) := ⟨Nat.le_trans (lt_of_block F0.out.res) hg, hO⟩; clear hg hO hB))
  all_goals
    go_wp2_with fail
    refine bodyPost_ret (results_cell_row rfl _ _ (w.heap.size + 1) _ _ (0, 0) _ rfl (set7 _ _ _ _ _ _ _ F2.out.res) Try.underlying84 rfl (by kernel_rfl)) rfl ?_
    exact ⟨_, d1, _, d2, rfl, (apart_of O2.out.1 O2.out.2.1 O2.out.2.2.1 O2.out.2.2.2).of_set7 (by omega), by have := lt_of_block F2.out.res; simp at this ⊢; omega, bset7 F2.out.bel (by omega)⟩

end Go.Proofs.Ytlididoalekeoaa
/- Three boxes: a row's, the result's, the copy's. -/
namespace Go.Proofs.Ytlididoalekeoaa
set_option maxRecDepth 4000
open Go.RowKit

/-- The row's box, the result's, and the copy's, that holds what the row holds. -/
structure CBoxes (w : World) (k : ByteArray) (t1 : Int) (a1 : Option Addr) (n1 c1 : Nat) (t2 : Int) (a2 : Option Addr) (n2 c2 : Nat) (has : Int) (asd : Bool) (wx : World) : Prop where
  two : RTwo w k t1 a1 n1 c1 t2 a2 n2 c2 has asd wx
  out : wx.heap[w.heap.size + 1 + 1]? = some (.cells #[.string k, .int .i64 t1, .slice a1 n1 c1, .int .i64 t2, .slice a2 n2 c2, .int .i64 has, .bool asd] 84 (0, 0))
theorem CBoxes.below {w : World} {k : ByteArray} {t1 : Int} {a1 : Option Addr} {n1 c1 : Nat} {t2 : Int} {a2 : Option Addr} {n2 c2 : Nat} {has : Int} {asd : Bool} {wx wy : World} (h : CBoxes w k t1 a1 n1 c1 t2 a2 n2 c2 has asd wx) (hB : Below wx.heap.size wx wy) : CBoxes w k t1 a1 n1 c1 t2 a2 n2 c2 has asd wy :=
  ⟨h.two.below hB, (hB.block _ (lt_of_block h.out)).trans h.out⟩
theorem cBoxes_new (w : World) (k : ByteArray) (t1 : Int) (a1 : Option Addr) (n1 c1 : Nat) (t2 : Int) (a2 : Option Addr) (n2 c2 : Nat) (has : Int) (asd : Bool) : CBoxes w k t1 a1 n1 c1 t2 a2 n2 c2 has asd (((w.alloc (.cells #[.string k, .int .i64 t1, .slice a1 n1 c1, .int .i64 t2, .slice a2 n2 c2, .int .i64 has, .bool asd] 84)).alloc (.cells #[.string ⟨#[]⟩, .int .i64 0, .slice none 0 0, .int .i64 0, .slice none 0 0, .int .i64 0, .bool false] 84)).alloc (.cells #[.string k, .int .i64 t1, .slice a1 n1 c1, .int .i64 t2, .slice a2 n2 c2, .int .i64 has, .bool asd] 84)) :=
  ⟨(rTwo_new w k t1 a1 n1 c1 t2 a2 n2 c2 has asd).below (below_lit _ _), (laid3 w _ _ _).2.2⟩
abbrev Cells4 (d : Nat) (t1 : Int) (a1 : Option Addr) (n1 c1 : Nat) (t2 : Int) (a2 : Option Addr) (n2 c2 : Nat) (w' : World) : Prop :=
  w'.cell? ⟨d, 1, none⟩ = some (.int .i64 t1) ∧ w'.cell? ⟨d, 2, none⟩ = some (.slice a1 n1 c1) ∧ w'.cell? ⟨d, 3, none⟩ = some (.int .i64 t2) ∧ w'.cell? ⟨d, 4, none⟩ = some (.slice a2 n2 c2)
theorem Cells4.set2 {d q i j : Nat} {t1 : Int} {a1 : Option Addr} {n1 c1 : Nat} {t2 : Int} {a2 : Option Addr} {n2 c2 : Nat} {w : World} {x y : Value} (h : Cells4 d t1 a1 n1 c1 t2 a2 n2 c2 w) (hne : d ≠ q) : Cells4 d t1 a1 n1 c1 t2 a2 n2 c2 ((w.setCell ⟨q, i, none⟩ x).setCell ⟨q, j, none⟩ y) :=
  ⟨cell_set (cell_set h.1 hne) hne, cell_set (cell_set h.2.1 hne) hne, cell_set (cell_set h.2.2.1 hne) hne, cell_set (cell_set h.2.2.2 hne) hne⟩

end Go.Proofs.Ytlididoalekeoaa
/- bytes.Clone, and append of bytes onto none, in the words of Deep. -/
namespace Go.Proofs.Ytlididoalekeoaa
set_option maxRecDepth 4000
open Go.RowKit

theorem owB_owns {w : World} {base n : Nat} {v : Value} {bs : List UInt8} (h : w.ownsRow base 5 1 v n (bs.map cb)) : ∃ ao c, v = .slice ao n c ∧ bs.length = n ∧ New base OwB w [.slice ao n c] bs := by
  have hn : bs.length = n := by simpa using h.1
  obtain ⟨ao, c, rfl, hO⟩ := ownO_of h
  refine ⟨ao, c, rfl, hn, ?_⟩
  rcases hO with ⟨rfl, rfl, rfl⟩ | ⟨q, rfl, hq, hO⟩
  · simp at hn
    subst hn
    exact ⟨fun _ => False, owB_nil w, fun _ h => False.elim h⟩
  · exact ⟨fun x => x = q, owB_row hO.row hn, fun x hx => by rw [hx]; exact hq⟩

theorem add_spot {w : World} {a : Addr} {m : Nat} {ys : List UInt8} (h : Reads w (some a) m ys) : ∀ j u, (ys.map cb)[j]? = some u → w.cell? (a.add j) = some u := reads_news h
set_option maxHeartbeats 1000000 in
theorem clone_rd (ao : Option Addr) (len cap : Nat) (bs : List UInt8) (w : World) (h : RdB w [.slice ao len cap] bs) (hw : bs.length ≤ 1073741824) :
    Calls Try.prog 82 #[.slice ao len cap] w (AnsSl OwB bs w) := by
  obtain ⟨_, hr⟩ := rdB_parts h
  have hl : len ≤ 1073741824 := by rw [← hr.1]; exact hw
  obtain ⟨i0, hi, hz0, hz1, hz2⟩ := info_parts info8
  have q : ∀ (w : World) (a : Option Addr) (n c n' c' : Nat), (binOp .eql 22 (.slice a n c) (.slice none n' c')).run Try.prog w = .ok (.bool a.isNone) w := fun w a n c n' c' => Lib.run_eql_slice_nil w _ _ a n c n' c' Try.underlying22
  have HR : Hd (Reads w ao len bs) := ⟨hr⟩
  clear h hr hw
  cases ao with
  | none =>
    obtain ⟨rfl, rfl⟩ := reads_none HR.out
    clear HR
    go_enter Try.func82, Try.ntmps82
    go_wp2
    go_ret
    exact ⟨⟨none, 0, 0, rfl, fun _ => False, owB_nil w, fun _ h => False.elim h⟩, Below.refl _ w⟩
  | some a =>
    have HN : Hd (∀ j u, (bs.map cb)[j]? = some u → (w.alloc (.cells #[] 5)).cell? (a.add j) = some u) := ⟨reads_news (HR.out.below rfl (below_lit w _))⟩
    have HL : Hd ((bs.map cb).length = len * 1) := ⟨by simpa using HR.out.1⟩
    clear HR
    go_enter Try.func82, Try.ntmps82
    go_wp2_with (at_builtin; refine wpList_append_own _ rfl (.tmp 5) (.tmp 6) 22 rfl w.heap.size 5 i0 (.int .u8 0) 1 1 Try.underlying22 hi hz0 hz1 hz2 rfl (by decide) _ 0 [] rfl ?hown a len cap (bs.map cb) rfl ?hl ?hn ?h1 ?h63 ?hby ?hbase ?_)
    case hown => exact World.ownsRow_made w #[] 0 (Nat.le_refl _) (by unfold maxLen; omega) rfl
    case hl => exact HL.out
    case hn => exact HN.out
    case h1 => exact one_cb bs
    case h63 => unfold maxLen; omega
    case hby => omega
    case hbase => simp
    intro v1 w1 hown1 hgr1 hne1
    have HA : Hd (∃ ao c, v1 = .slice ao len c ∧ New w.heap.size OwB w1 [.slice ao len c] bs) := ⟨by
      obtain ⟨ao, c, h1, _, h2⟩ := owB_owns hown1
      exact ⟨ao, c, h1, h2⟩⟩
    have HB : Hd (Below w.heap.size w w1) := ⟨((Below.refl _ w).alloc (Nat.le_refl _) _).grown hgr1 (by simp) (fun k h => by simp [Value.ownBlock] at h; omega)⟩
    obtain ⟨ao, c, hv, hO⟩ := HA.out
    have HO : Hd (New w.heap.size OwB w1 [.slice ao len c] bs) := ⟨hO⟩
    rw [hv]
    clear hown1 hgr1 hne1 hv hO HA HN HL
    go_wp2
    go_ret
    exact ⟨⟨ao, len, c, rfl, HO.out⟩, HB.out⟩

/-- append([]byte{}, x...): x's bytes in new memory. -/
theorem run_emp (w : World) (ty : TypeId) (e : Nat) (he : w.heap[e]? = some (.cells #[] 5 (0, 0))) (ao : Option Addr) (m cc : Nat) (ys : List UInt8) (hr : RdB w [.slice ao m cc] ys) (hlim : ys.length ≤ 1073741824) :
    ∃ ao' c w', (Builtin.append_ #[22, 22] ty #[.slice (some ⟨e, 0, none⟩) 0 0, .slice ao m cc]).run Try.prog w = .ok (.slice ao' m c) w' ∧ New e OwB w' [.slice ao' m c] ys ∧ w.grownBy w' (some e) := by
  have hown : w.ownsRow e 5 1 (.slice (some ⟨e, 0, none⟩) 0 0) 0 (([] : List UInt8).map cb) := ⟨by simp, .inr ⟨e, 0, #[], rfl, Nat.le_refl _, he, Nat.le_refl _, by unfold maxLen; omega, by simp, by simp⟩⟩
  have hm := (rdB_parts hr).2
  obtain ⟨v', w', h1, h2, h3⟩ := run_app_o w ty e 0 _ [] ys hown (Nat.le_of_lt (lt_of_block he)) ao m cc hm (by have := hm.1; omega)
  rw [Nat.zero_add, List.nil_append] at h2
  obtain ⟨ao', c, rfl, _, hN⟩ := owB_owns h2
  exact ⟨ao', c, w', h1, hN, h3⟩
theorem wp_emp {w : World} {o : Oper} {a : Act} {K : Act → World → Prop} {Q : Exit → Act → World → Prop} (s x : Operand) (ho : o.op = .call { callee := .builtin .append, args := #[s, x], argTypes := #[22, 22] })
    (e : Nat) (hs : a.eval s = .slice (some ⟨e, 0, none⟩) 0 0) (he : w.heap[e]? = some (.cells #[] 5 (0, 0))) (ao : Option Addr) (m cc : Nat) (ys : List UInt8) (hx : a.eval x = .slice ao m cc) (hr : RdB w [.slice ao m cc] ys) (hlim : ys.length ≤ 1073741824)
    (hK : ∀ ao' c w', New e OwB w' [.slice ao' m c] ys → w.grownBy w' (some e) → K (a.put o.dst (.slice ao' m c)) w') : o.wp Try.prog a w K Q := by
  obtain ⟨ao', c, w', h1, h2, h3⟩ := run_emp w o.type e he ao m cc ys hr hlim
  unfold Oper.wp execOp
  simp only [ho, resolve, invoke, builtin, Sem.run_bind, Sem.run_pure, Result.andThen_ok, List.map_toArray, List.map_cons, List.map_nil, hs, hx, h1]
  exact hK ao' c w' h2 h3
theorem wpList_emp {w : World} {ops : Array Oper} {rest : List Oper} {o : Oper} {a : Act} {Q : Exit → Act → World → Prop} (hgd : o.guard = none) (s x : Operand) (ho : o.op = .call { callee := .builtin .append, args := #[s, x], argTypes := #[22, 22] })
    (e : Nat) (hs : a.eval s = .slice (some ⟨e, 0, none⟩) 0 0) (he : w.heap[e]? = some (.cells #[] 5 (0, 0))) (ao : Option Addr) (m cc : Nat) (ys : List UInt8) (hx : a.eval x = .slice ao m cc) (hr : RdB w [.slice ao m cc] ys) (hlim : ys.length ≤ 1073741824)
    (hK : ∀ ao' c w', New e OwB w' [.slice ao' m c] ys → w.grownBy w' (some e) → wpList Try.prog ops Q rest (a.put o.dst (.slice ao' m c)) w') : wpList Try.prog ops Q (o :: rest) a w :=
  wpList_plain hgd fun _ h => wp_emp s x ho e hs he ao m cc ys hx hr hlim fun ao' c w' h1 h2 => h _ _ (hK ao' c w' h1 h2)
theorem step_emp {w : World} {ops : Array Oper} {o : Oper} {a : Act} {K : Act → World → Prop} {Q : Exit → Act → World → Prop} {Z : Prop} (hgd : o.guard = none) (s x : Operand) (ho : o.op = .call { callee := .builtin .append, args := #[s, x], argTypes := #[22, 22] })
    (e : Nat) (hs : a.eval s = .slice (some ⟨e, 0, none⟩) 0 0) (he : w.heap[e]? = some (.cells #[] 5 (0, 0))) (ao : Option Addr) (m cc : Nat) (ys : List UInt8) (hx : a.eval x = .slice ao m cc) (hr : RdB w [.slice ao m cc] ys) (hlim : ys.length ≤ 1073741824)
    (hK : ∀ ao' c w', New e OwB w' [.slice ao' m c] ys → w.grownBy w' (some e) → K (a.put o.dst (.slice ao' m c)) w') :
    if Region.wanted o (yielded ops a.tmps) = true then Oper.wp Try.prog o a w K Q else Z := by
  have hw : Region.wanted o (yielded ops a.tmps) = true := by simp [Region.wanted, hgd]
  rw [if_pos hw]
  exact wp_emp s x ho e hs he ao m cc ys hx hr hlim hK

end Go.Proofs.Ytlididoalekeoaa
/- bytes.Clone, whose bytes may be written into. -/
namespace Go.Proofs.Ytlididoalekeoaa
set_option maxRecDepth 4000
open Go.RowKit

theorem owC_owns {w : World} {base n : Nat} {v : Value} {bs : List UInt8} (h : w.ownsRow base 5 1 v n (bs.map cb)) : ∃ ao c, v = .slice ao n c ∧ bs.length = n ∧ New base OwC w [.slice ao n c] bs := by
  have hn : bs.length = n := by simpa using h.1
  obtain ⟨ao, c, rfl, hO⟩ := ownO_of h
  exact ⟨ao, c, rfl, hn, owC_own hO hn⟩

set_option maxHeartbeats 1000000 in
theorem clone_oc (ao : Option Addr) (len cap : Nat) (bs : List UInt8) (w : World) (h : RdB w [.slice ao len cap] bs) (hw : bs.length ≤ 1073741824) :
    Calls Try.prog 82 #[.slice ao len cap] w (AnsSl OwC bs w) := by
  obtain ⟨_, hr⟩ := rdB_parts h
  have hl : len ≤ 1073741824 := by rw [← hr.1]; exact hw
  obtain ⟨i0, hi, hz0, hz1, hz2⟩ := info_parts info8
  have q : ∀ (w : World) (a : Option Addr) (n c n' c' : Nat), (binOp .eql 22 (.slice a n c) (.slice none n' c')).run Try.prog w = .ok (.bool a.isNone) w := fun w a n c n' c' => Lib.run_eql_slice_nil w _ _ a n c n' c' Try.underlying22
  have HR : Hd (Reads w ao len bs) := ⟨hr⟩
  clear h hr hw
  cases ao with
  | none =>
    obtain ⟨rfl, rfl⟩ := reads_none HR.out
    clear HR
    go_enter Try.func82, Try.ntmps82
    go_wp2
    go_ret
    exact ⟨⟨none, 0, 0, rfl, fun _ => False, owC_zero w, fun _ h => False.elim h⟩, Below.refl _ w⟩
  | some a =>
    have HN : Hd (∀ j u, (bs.map cb)[j]? = some u → (w.alloc (.cells #[] 5)).cell? (a.add j) = some u) := ⟨reads_news (HR.out.below rfl (below_lit w _))⟩
    have HL : Hd ((bs.map cb).length = len * 1) := ⟨by simpa using HR.out.1⟩
    clear HR
    go_enter Try.func82, Try.ntmps82
    go_wp2_with (at_builtin; refine wpList_append_own _ rfl (.tmp 5) (.tmp 6) 22 rfl w.heap.size 5 i0 (.int .u8 0) 1 1 Try.underlying22 hi hz0 hz1 hz2 rfl (by decide) _ 0 [] rfl ?hown a len cap (bs.map cb) rfl ?hl ?hn ?h1 ?h63 ?hby ?hbase ?_)
    case hown => exact World.ownsRow_made w #[] 0 (Nat.le_refl _) (by unfold maxLen; omega) rfl
    case hl => exact HL.out
    case hn => exact HN.out
    case h1 => exact one_cb bs
    case h63 => unfold maxLen; omega
    case hby => omega
    case hbase => simp
    intro v1 w1 hown1 hgr1 hne1
    have HA : Hd (∃ ao c, v1 = .slice ao len c ∧ New w.heap.size OwC w1 [.slice ao len c] bs) := ⟨by
      obtain ⟨ao, c, h1, _, h2⟩ := owC_owns hown1
      exact ⟨ao, c, h1, h2⟩⟩
    have HB : Hd (Below w.heap.size w w1) := ⟨((Below.refl _ w).alloc (Nat.le_refl _) _).grown hgr1 (by simp) (fun k h => by simp [Value.ownBlock] at h; omega)⟩
    obtain ⟨ao, c, hv, hO⟩ := HA.out
    have HO : Hd (New w.heap.size OwC w1 [.slice ao len c] bs) := ⟨hO⟩
    rw [hv]
    clear hown1 hgr1 hne1 hv hO HA HN HL
    go_wp2
    go_ret
    exact ⟨⟨ao, len, c, rfl, HO.out⟩, HB.out⟩

end Go.Proofs.Ytlididoalekeoaa
/- The program's copy of a cell, in the words of Deep. -/
namespace Go.Proofs.Ytlididoalekeoaa
set_option maxRecDepth 4000
open Go.RowKit

theorem cell_setK {w : World} {p : Addr} {v x y : Value} {g : Nat} (h : w.cell? p = some v) (hne : p.block ≠ g) : ((w.setCell ⟨g, 0, none⟩ x).setCell ⟨g, 1, none⟩ y).cell? p = some v := cell_set (cell_set h hne) hne
/-- A cell's box, and that of the result. -/
structure KBox (w : World) (tag : Int) (v : Value) (wx : World) : Prop where
  box : wx.heap[w.heap.size]? = some (.cells #[.int .i64 tag, v] 82 (0, 0))
  res : wx.heap[w.heap.size + 1]? = some (.cells #[.int .i64 0, .slice none 0 0] 82 (0, 0))
  bel : Below w.heap.size w wx
theorem KBox.below {w : World} {tag : Int} {v : Value} {wx wy : World} (h : KBox w tag v wx) (hB : Below wx.heap.size wx wy) : KBox w tag v wy :=
  ⟨(hB.block _ (lt_of_block h.box)).trans h.box, (hB.block _ (lt_of_block h.res)).trans h.res, Below.next h.bel hB⟩
theorem kBox_new (w : World) (tag : Int) (v : Value) : KBox w tag v ((w.alloc (.cells #[.int .i64 tag, v] 82)).alloc (.cells #[.int .i64 0, .slice none 0 0] 82)) :=
  ⟨(laid2 w _ _).1, (laid2 w _ _).2, below_lit2 w _ _⟩

set_option maxHeartbeats 2000000 in
theorem implCopyCell_rd (cs : List Value) (a : CellD) (w : World) (h : RdCell w cs a) (hw : wtCell a ≤ 1073741824) :
    Calls Try.prog 107 #[.agg cs.toArray] w (AnsAgg OwCell a w) := by
  obtain ⟨tag, bs⟩ := a
  simp only [RdCell] at h
  obtain ⟨ao, n, c, rfl, r1⟩ := h
  have HC : Hd (RdB w [.slice ao n c] bs ∧ bs.length ≤ 1073741824) := ⟨r1, by unfold wtCell wtB at hw; dsimp only at hw; omega⟩
  have F0 : Hd (KBox w tag (.slice ao n c) ((w.alloc (.cells #[.int .i64 tag, .slice ao n c] 82)).alloc (.cells #[.int .i64 0, .slice none 0 0] 82))) := ⟨kBox_new w tag _⟩
  clear r1 hw
  go_enter Try.func107, Try.ntmps107
  go_wp2_with fail
  generalize (w.alloc (.cells #[.int .i64 tag, .slice ao n c] 82)).alloc (.cells #[.int .i64 0, .slice none 0 0] 82) = W at *
  obtain ⟨p0, p1, _, _⟩ := cells2 W w.heap.size _ _ _ F0.out.box
  go_region_held (fun w' => w'.cell? ⟨w.heap.size, 0, none⟩ = some (.int .i64 tag) ∧ w'.cell? ⟨w.heap.size, 1, none⟩ = some (.slice ao n c)) (first | assumption | exact ⟨p0, p1⟩ | exact ⟨k0, k1⟩ | exact ⟨cell_setK k0 (by show w.heap.size ≠ w.heap.size + 1; omega), cell_setK k1 (by show w.heap.size ≠ w.heap.size + 1; omega)⟩)
    (first | (go_at_call 82; refine (clone_oc ao n c bs _ (rdB_ok.below HC.out.1 F0.out.bel.drew) HC.out.2).mono ?_; rintro e w3 ⟨⟨a3, n3, c3, rfl, F1, hE, hF⟩, hB⟩; have F3 : Hd (KBox w tag (.slice ao n c) w3) := (⟨(F0.out.below (Below.refl _ W).drew).below hB⟩); have HO3 : Hd (OwC w3 [.slice a3 n3 c3] F1 bs ∧ ∀ x, F1 x → w.heap.size + 2 ≤ x) := (⟨hE, fun x hx => Nat.le_trans (lt_of_block F0.out.res) (hF x hx)⟩); obtain ⟨k0, k1, _, _⟩ := cells2 w3 w.heap.size _ _ _ F3.out.box; obtain ⟨r0, r1, r2, r3⟩ := cells2 w3 (w.heap.size + 1) _ _ _ F3.out.res))
  all_goals
    go_wp2_with fail
    refine bodyPost_ret (results_cell_row rfl _ _ (w.heap.size + 1) _ _ (0, 0) _ rfl (set2 _ _ F3.out.res) Try.underlying82 rfl (by kernel_rfl)) rfl ?_
    exact ⟨⟨[.int .i64 tag, .slice a3 n3 c3], rfl, F1, ⟨a3, n3, c3, F1, rfl, owC_ok.keep HO3.out.1 (fun b hb => by have := HO3.out.2 b hb; rw [heap_setCell_other _ _ _ _ (by show b ≠ w.heap.size + 1; omega), heap_setCell_other _ _ _ _ (by show b ≠ w.heap.size + 1; omega)]), fun x => Iff.rfl⟩, fun x hx => by have := HO3.out.2 x hx; omega⟩, bset (bset F3.out.bel _ (by omega)) _ (by omega)⟩

end Go.Proofs.Ytlididoalekeoaa
/- copyRow of the program, in the words of Deep. -/
namespace Go.Proofs.Ytlididoalekeoaa
set_option maxRecDepth 4000
open Go.RowKit

theorem owCell_keep4 {w : World} {t : Int} {x : Option Addr} {m d : Nat} {F : Fp} {a : CellD} (h : OwCell w [.int .i64 t, .slice x m d] F a) {q i1 i2 i3 i4 : Nat} {v1 v2 v3 v4 : Value} (hF : ¬ F q) :
    OwCell ((((w.setCell ⟨q, i1, none⟩ v1).setCell ⟨q, i2, none⟩ v2).setCell ⟨q, i3, none⟩ v3).setCell ⟨q, i4, none⟩ v4) [.int .i64 t, .slice x m d] F a :=
  owCell_ok.keep h (fun _ hb => block_set (block_set (block_set (block_set rfl (fun e => hF (e ▸ hb))) (fun e => hF (e ▸ hb))) (fun e => hF (e ▸ hb))) (fun e => hF (e ▸ hb)))
theorem owCell_keep7 {w : World} {t : Int} {x : Option Addr} {m d : Nat} {F : Fp} {a : CellD} (h : OwCell w [.int .i64 t, .slice x m d] F a) {q : Nat} {x0 x1 x2 x3 x4 x5 x6 : Value} (hF : ¬ F q) :
    OwCell (((((((w.setCell ⟨q, 0, none⟩ x0).setCell ⟨q, 1, none⟩ x1).setCell ⟨q, 2, none⟩ x2).setCell ⟨q, 3, none⟩ x3).setCell ⟨q, 4, none⟩ x4).setCell ⟨q, 5, none⟩ x5).setCell ⟨q, 6, none⟩ x6) [.int .i64 t, .slice x m d] F a :=
  owCell_ok.keep h (fun _ hb => block_set7 rfl (fun e => hF (e ▸ hb)))

set_option maxHeartbeats 4000000 in
theorem implCopyRow_rd (cs : List Value) (a : RowD) (w : World) (h : RdRow w cs a) (hw : wtRow a ≤ 1073741824) :
    Calls Try.prog 104 #[.agg cs.toArray] w (AnsAgg OwRow a w) := by
  obtain ⟨k, t1, b1, t2, b2, has, asd⟩ := a
  simp only [RdRow] at h
  obtain ⟨a1, n1, c1, a2, n2, c2, rfl, z0, r1, r2⟩ := h
  unfold wtRow at hw
  dsimp only at hw
  have H1 : Hd (RdCell w [.int .i64 t1, .slice a1 n1 c1] (⟨t1, b1⟩ : CellD) ∧ wtCell (⟨t1, b1⟩ : CellD) ≤ 1073741824) := ⟨r1, by omega⟩
  have H2 : Hd (RdCell w [.int .i64 t2, .slice a2 n2 c2] (⟨t2, b2⟩ : CellD) ∧ wtCell (⟨t2, b2⟩ : CellD) ≤ 1073741824) := ⟨r2, by omega⟩
  have Z0 : Hd (k.size ≤ maxLen) := ⟨z0⟩
  have F0 : Hd (CBoxes w k t1 a1 n1 c1 t2 a2 n2 c2 has asd (((w.alloc (.cells #[.string k, .int .i64 t1, .slice a1 n1 c1, .int .i64 t2, .slice a2 n2 c2, .int .i64 has, .bool asd] 84)).alloc (.cells #[.string ⟨#[]⟩, .int .i64 0, .slice none 0 0, .int .i64 0, .slice none 0 0, .int .i64 0, .bool false] 84)).alloc (.cells #[.string k, .int .i64 t1, .slice a1 n1 c1, .int .i64 t2, .slice a2 n2 c2, .int .i64 has, .bool asd] 84))) := ⟨cBoxes_new w k t1 a1 n1 c1 t2 a2 n2 c2 has asd⟩
  clear r1 r2 hw z0
  go_enter Try.func104, Try.ntmps104
  go_wp2_with fail
  generalize ((w.alloc (.cells #[.string k, .int .i64 t1, .slice a1 n1 c1, .int .i64 t2, .slice a2 n2 c2, .int .i64 has, .bool asd] 84)).alloc (.cells #[.string ⟨#[]⟩, .int .i64 0, .slice none 0 0, .int .i64 0, .slice none 0 0, .int .i64 0, .bool false] 84)).alloc (.cells #[.string k, .int .i64 t1, .slice a1 n1 c1, .int .i64 t2, .slice a2 n2 c2, .int .i64 has, .bool asd] 84) = W at *
  have KK : Hd (∀ w', Below W.heap.size W w' → Cells4 w.heap.size t1 a1 n1 c1 t2 a2 n2 c2 w') := ⟨fun w' hb => by
    have h := cells7_at (F0.out.below hb).two.box
    exact ⟨h.2.1, h.2.2.1, h.2.2.2.1, h.2.2.2.2.1⟩⟩
  have KD : Hd (Below W.heap.size W W.drew) := ⟨(Below.refl _ W).drew⟩
  obtain ⟨p1, p2, p3, p4⟩ := KK.out _ (Below.refl _ W)
  go_region_held (fun w' => w'.cell? ⟨w.heap.size, 1, none⟩ = some (.int .i64 t1) ∧ w'.cell? ⟨w.heap.size, 2, none⟩ = some (.slice a1 n1 c1) ∧ w'.cell? ⟨w.heap.size, 3, none⟩ = some (.int .i64 t2) ∧ w'.cell? ⟨w.heap.size, 4, none⟩ = some (.slice a2 n2 c2)) (first | (with_reducible refine Cells4.set2 (Cells4.set2 (KK.out _ D2.out) ?_) ?_ <;> omega) | (with_reducible refine Cells4.set2 (KK.out _ D2.out) ?_; omega) | (with_reducible exact KK.out _ D2.out) | (with_reducible exact KK.out _ D1.out) | (with_reducible exact KK.out _ KD.out))
    (first | (have G1 := D1; clear G1; go_at_call 107; refine (implCopyCell_rd [.int .i64 t2, .slice a2 n2 c2] ⟨t2, b2⟩ _ (rdCell_ok.below H2.out.1 (Below.next F0.out.two.bel D1.out)) H2.out.2).mono ?_; rintro e v2 ⟨⟨cs2, rfl, G2, hE2, hG2⟩, hB⟩; have hE3 := hE2; simp only [OwCell] at hE3; obtain ⟨o2, m2, d2, _, rfl, _⟩ := hE3; have D2 : Hd (Below W.heap.size W v2) := (⟨Below.next D1.out hB⟩); have F2 : Hd (CBoxes w k t1 a1 n1 c1 t2 a2 n2 c2 has asd v2) := (⟨F0.out.below D2.out⟩); have O2 : Hd ((OwCell v2 [.int .i64 t1, .slice o1 m1 d1] G1 ⟨t1, b1⟩ ∧ ∀ x, G1 x → w.heap.size + 3 ≤ x) ∧ (OwCell v2 [.int .i64 t2, .slice o2 m2 d2] G2 ⟨t2, b2⟩ ∧ ∀ x, G2 x → w.heap.size + 3 ≤ x) ∧ ∀ x, G1 x → ¬ G2 x) := (⟨⟨owCell_ok.below O1.out.1 hB, O1.out.2⟩, ⟨hE2, fun x hx => by have := hG2 x hx; have := lt_of_block F0.out.out; have := D1.out.size; omega⟩, fun x hx hy => by have := owCell_ok.lt O1.out.1 x hx; have := hG2 x hy; omega⟩); obtain ⟨q0, q1, q2, q3, q4, q5, q6⟩ := cells7 v2 (w.heap.size + 1 + 1) _ _ _ _ _ _ _ _ F2.out.out; obtain ⟨u0, u1, u2, u3, u4, u5, u6⟩ := free7 v2 (w.heap.size + 1 + 1) _ _ _ _ _ _ _ _ F2.out.out; clear hE2 hG2 hB) | (go_at_call 107; refine (implCopyCell_rd [.int .i64 t1, .slice a1 n1 c1] ⟨t1, b1⟩ _ (rdCell_ok.below H1.out.1 F0.out.two.bel.drew) H1.out.2).mono ?_; rintro e v1 ⟨⟨cs1, rfl, G1, hE1, hG1⟩, hB⟩; have hE3 := hE1; simp only [OwCell] at hE3; obtain ⟨o1, m1, d1, _, rfl, _⟩ := hE3; have D1 : Hd (Below W.heap.size W v1) := (⟨Below.next KD.out hB⟩); have O1 : Hd (OwCell v1 [.int .i64 t1, .slice o1 m1 d1] G1 ⟨t1, b1⟩ ∧ ∀ x, G1 x → w.heap.size + 3 ≤ x) := (⟨hE1, fun x hx => by have h9 : W.heap.size ≤ x := hG1 x hx; have := lt_of_block F0.out.out; omega⟩); clear hE1 hG1 hB))
  all_goals
    obtain ⟨r0, r1, r2, r3, r4, r5, r6⟩ := cells7 v2 (w.heap.size + 1) _ _ _ _ _ _ _ _ F2.out.two.res
    obtain ⟨s0, s1, s2, s3, s4, s5, s6⟩ := free7 v2 (w.heap.size + 1) _ _ _ _ _ _ _ _ F2.out.two.res
    have n1 : ¬ G1 (w.heap.size + 1) := fun h => by have := O2.out.1.2 _ h; omega
    have n2 : ¬ G2 (w.heap.size + 1) := fun h => by have := O2.out.2.1.2 _ h; omega
    have n3 : ¬ G1 (w.heap.size + 1 + 1) := fun h => by have := O2.out.1.2 _ h; omega
    have n4 : ¬ G2 (w.heap.size + 1 + 1) := fun h => by have := O2.out.2.1.2 _ h; omega
    go_wp2_with fail
    refine bodyPost_ret (results_cell_row rfl _ _ (w.heap.size + 1) _ _ (0, 0) _ rfl (set7 _ _ _ _ _ _ _ (block_set (block_set (block_set (block_set F2.out.two.res (by omega)) (by omega)) (by omega)) (by omega))) Try.underlying84 rfl (by kernel_rfl)) rfl ?_
    refine ⟨⟨[.string k, .int .i64 t1, .slice o1 m1 d1, .int .i64 t2, .slice o2 m2 d2, .int .i64 has, .bool asd], rfl, fun x => G1 x ∨ G2 x, ⟨o1, m1, d1, o2, m2, d2, G1, G2, rfl, Z0.out, owCell_keep7 (owCell_keep4 O2.out.1.1 n3) n1, owCell_keep7 (owCell_keep4 O2.out.2.1.1 n4) n2, O2.out.2.2, fun x => Iff.rfl⟩, fun x hx => ?_⟩, bset7 (bset (bset (bset (bset F2.out.two.bel _ (by omega)) _ (by omega)) _ (by omega)) _ (by omega)) (by omega)⟩
    rcases hx with hx | hx
    · have := O2.out.1.2 x hx; omega
    · have := O2.out.2.1.2 x hx; omega

end Go.Proofs.Ytlididoalekeoaa
/- Plain facts on what a node knows: whose mark, whose row. -/
namespace Go.Proofs.Ytlididoalekeoaa
set_option maxRecDepth 4000
open Go.RowKit

def zeroMark : MarkD := ⟨0, 0, 0⟩
/-- The first mark of somebody, and whether there is one. -/
def markAt : List MarkD → Int → MarkD × Bool
  | [], _ => (zeroMark, false)
  | m :: r, who => if m.who = who then (m, true) else markAt r who
theorem markAt_nil {ls : List MarkD} {k : Nat} (who : Int) (h : ls.length ≤ k) : markAt (ls.drop k) who = (zeroMark, false) := by
  rw [List.drop_of_length_le h]; rfl
theorem markAt_yes {ls : List MarkD} {k : Nat} {m : MarkD} {who : Int} (h : ls[k]? = some m) (e : m.who = who) : markAt (ls.drop k) who = (m, true) := by
  obtain ⟨hk, hm⟩ := List.getElem?_eq_some_iff.1 h
  rw [List.drop_eq_getElem_cons hk, hm]
  exact if_pos e
theorem markAt_no {ls : List MarkD} {k : Nat} {m : MarkD} {who : Int} (h : ls[k]? = some m) (e : ¬ m.who = who) : markAt (ls.drop k) who = markAt (ls.drop (k + 1)) who := by
  obtain ⟨hk, hm⟩ := List.getElem?_eq_some_iff.1 h
  rw [List.drop_eq_getElem_cons hk, hm]
  exact if_neg e
/-- The place of the row of a key; -1 where there is none. -/
def rowAtF : List RowD → ByteArray → Int → Int
  | [], _, _ => -1
  | r :: s, key, i => if (r.key.toList == key.toList) = true then i else rowAtF s key (i + 1)
def rowAt (ls : List RowD) (key : ByteArray) : Int := rowAtF ls key 0
theorem rowAtF_nil {ls : List RowD} {k : Nat} (key : ByteArray) (i : Int) (h : ls.length ≤ k) : rowAtF (ls.drop k) key i = -1 := by
  rw [List.drop_of_length_le h]; rfl
theorem rowAtF_yes {ls : List RowD} {k : Nat} {r : RowD} {key : ByteArray} (i : Int) (h : ls[k]? = some r) (e : (r.key.toList == key.toList) = true) : rowAtF (ls.drop k) key i = i := by
  obtain ⟨hk, hm⟩ := List.getElem?_eq_some_iff.1 h
  rw [List.drop_eq_getElem_cons hk, hm]
  exact if_pos e
theorem rowAtF_no {ls : List RowD} {k : Nat} {r : RowD} {key : ByteArray} (i : Int) (h : ls[k]? = some r) (e : (r.key.toList == key.toList) = false) : rowAtF (ls.drop k) key i = rowAtF (ls.drop (k + 1)) key (i + 1) := by
  obtain ⟨hk, hm⟩ := List.getElem?_eq_some_iff.1 h
  rw [List.drop_eq_getElem_cons hk, hm]
  exact if_neg (by rw [e]; simp)

end Go.Proofs.Ytlididoalekeoaa
/- Bytes as a text. -/
namespace Go.Proofs.Ytlididoalekeoaa
set_option maxRecDepth 4000
open Go.RowKit

def strB (b : List UInt8) : ByteArray := ⟨b.toArray⟩

end Go.Proofs.Ytlididoalekeoaa
/- Plain facts on two of them that are alike; bytes of a cell as a text. -/
namespace Go.Proofs.Ytlididoalekeoaa
set_option maxRecDepth 4000
open Go.RowKit

def sCell (t1 : Int) (b1 : List UInt8) (t2 : Int) (b2 : List UInt8) : Bool := (t1 == t2) && ((strB b1).toList == (strB b2).toList)
def sRow (a b : RowD) : Bool := (a.key.toList == b.key.toList) && sCell a.t1 a.b1 b.t1 b.b1 && sCell a.t2 a.b2 b.t2 b.b2 && (a.has == b.has) && (a.aside == b.aside)
def sMark (a b : MarkD) : Bool := (a.who == b.who) && (a.seq == b.seq) && (a.code == b.code)
def allB {α : Type} (f : α → α → Bool) : List α → List α → Bool
  | a :: l, b :: m => f a b && allB f l m
  | _, _ => true
theorem allB_end {α : Type} {f : α → α → Bool} {l m : List α} {k : Nat} (h : l.length ≤ k) : allB f (l.drop k) (m.drop k) = true := by
  rw [List.drop_of_length_le h]; unfold allB; rfl
theorem allB_at {α : Type} {f : α → α → Bool} {l m : List α} {k : Nat} {a b : α} (ha : l[k]? = some a) (hb : m[k]? = some b) : allB f (l.drop k) (m.drop k) = (f a b && allB f (l.drop (k + 1)) (m.drop (k + 1))) := by
  obtain ⟨hk, rfl⟩ := List.getElem?_eq_some_iff.1 ha
  obtain ⟨hk', rfl⟩ := List.getElem?_eq_some_iff.1 hb
  rw [List.drop_eq_getElem_cons hk, List.drop_eq_getElem_cons hk', allB]
def sameTab (a b : TabD) : Bool := ((a.rows.length == b.rows.length) && allB sRow a.rows b.rows) && (a.phase == b.phase) && ((a.marks.length == b.marks.length) && allB sMark a.marks b.marks)

theorem Lies.conv0 {w : World} {q n : Nat} {es : List UInt8} (h : Lies w q n es) (c : Nat) :
    (convert 22 9 (.slice (some ⟨q, 0, none⟩) n c)).run Try.prog w = .ok (.string (strB es)) w := by
  have := run_convert_bytes_back (P := Try.prog) w 22 9 5 ⟨q, 0, none⟩ c es Try.underlying22 Try.underlying5 Try.underlying9 (fun j hj => by
    rw [Addr.add_lit, h.cell j (by rw [← h.size]; exact hj)]
    simp [List.getD, List.getElem?_eq_getElem hj])
  rw [h.size] at this; exact this
theorem CellAt.convA {w : World} {ao : Option Addr} {n c : Nat} {bs : List UInt8} (h : CellAt w ao n c bs) : (convert 22 9 (.slice ao n c)).run Try.prog w = .ok (.string (strB bs)) w := by
  rcases h with ⟨rfl, rfl, rfl, rfl⟩ | ⟨q, rfl, _, h3⟩
  · exact run_convert_bytes_nil w 22 5 Try.underlying22 Try.underlying5 0 0 9 Try.underlying9
  · exact h3.conv0 c
theorem rdS_parts {α : Type} {n : Nat} {R : Rd α} {w : World} {ao : Option Addr} {len cap : Nat} {ls : List α} (h : RdS n R w [.slice ao len cap] ls) : len ≤ maxLen ∧ ls.length = len ∧ (ls = [] ∨ ∃ b off, ao = some ⟨b, off, none⟩ ∧ ∀ j a, ls[j]? = some a → ∃ c, c.length = n ∧ R w c a ∧ ∀ i v, c[i]? = some v → w.cell? ⟨b, off + j * n + i, none⟩ = some v) := by
  obtain ⟨_, _, _, e, hm, hl, h⟩ := h
  simp only [List.cons.injEq, Value.slice.injEq, and_true] at e
  obtain ⟨rfl, rfl, rfl⟩ := e
  exact ⟨hm, hl, h⟩
theorem rdS_get {α : Type} {n : Nat} {R : Rd α} {w : World} {ao : Option Addr} {len cap : Nat} {ls : List α} (h : RdS n R w [.slice ao len cap] ls) {j : Nat} {a : α} (ha : ls[j]? = some a) :
    ∃ b off c, ao = some ⟨b, off, none⟩ ∧ c.length = n ∧ R w c a ∧ ∀ i v, c[i]? = some v → w.cell? ⟨b, off + j * n + i, none⟩ = some v := by
  obtain ⟨_, _, h⟩ := rdS_parts h
  rcases h with rfl | ⟨b, off, e, g⟩
  · simp at ha
  · obtain ⟨c, h1, h2, h3⟩ := g j a ha
    exact ⟨b, off, c, e, h1, h2, h3⟩
theorem rdS_len {α : Type} {n : Nat} {R : Rd α} {w : World} {ao : Option Addr} {len cap : Nat} {ls : List α} (h : RdS n R w [.slice ao len cap] ls) : ls.length = len ∧ len ≤ maxLen := ⟨(rdS_parts h).2.1, (rdS_parts h).1⟩
theorem rcRow_cells {w : World} {k : ByteArray} {t1 t2 has : Int} {b1 b2 : List UInt8} {asd : Bool} {cs : List Value} (h : RcRow w cs ⟨k, t1, b1, t2, b2, has, asd⟩) :
    ∃ x2 m2 d2 x4 m4 d4, cs = [.string k, .int .i64 t1, .slice x2 m2 d2, .int .i64 t2, .slice x4 m4 d4, .int .i64 has, .bool asd] ∧ CellAt w x2 m2 d2 b1 ∧ CellAt w x4 m4 d4 b2 := by
  obtain ⟨x2, m2, d2, x4, m4, d4, rfl, _, r1, r3⟩ := h
  obtain ⟨_, _, _, e1, c1⟩ := r1
  obtain ⟨_, _, _, e3, c3⟩ := r3
  simp only [List.cons.injEq, Value.slice.injEq, and_true] at e1 e3
  obtain ⟨_, rfl, rfl, rfl⟩ := e1
  obtain ⟨_, rfl, rfl, rfl⟩ := e3
  exact ⟨_, _, _, _, _, _, rfl, (rdC_parts c1).2, (rdC_parts c3).2⟩

end Go.Proofs.Ytlididoalekeoaa
