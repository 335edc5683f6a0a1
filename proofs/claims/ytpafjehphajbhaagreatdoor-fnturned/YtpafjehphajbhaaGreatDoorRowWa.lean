/- What FillRow, CutRow and BackRow carry along: the row's box, the result's, and the copy's; the contract of l9Copy. -/
import Derived.Test.YtpafjehphajbhaaGreatDoorRowV
import Derived.Deep.RegionHeld3
namespace Go.Proofs.YtpafjehphajbhaaGreatDoor
set_option maxRecDepth 4000
open Go.RowKit

/-- A row's box, and that of the result. -/
structure RTwo (w : World) (k : ByteArray) (t1 : Int) (a1 : Option Addr) (n1 c1 : Nat) (t2 : Int) (a2 : Option Addr) (n2 c2 : Nat) (has : Int) (asd : Bool) (wx : World) : Prop where
  box : wx.heap[w.heap.size]? = some (.cells #[.string k, .int .i64 t1, .slice a1 n1 c1, .int .i64 t2, .slice a2 n2 c2, .int .i64 has, .bool asd] 29 (0, 0))
  res : wx.heap[w.heap.size + 1]? = some (.cells #[.string ⟨#[]⟩, .int .i64 0, .slice none 0 0, .int .i64 0, .slice none 0 0, .int .i64 0, .bool false] 29 (0, 0))
  bel : Below w.heap.size w wx
theorem RTwo.below {w : World} {k : ByteArray} {t1 : Int} {a1 : Option Addr} {n1 c1 : Nat} {t2 : Int} {a2 : Option Addr} {n2 c2 : Nat} {has : Int} {asd : Bool} {wx wy : World} (h : RTwo w k t1 a1 n1 c1 t2 a2 n2 c2 has asd wx) (hB : Below wx.heap.size wx wy) : RTwo w k t1 a1 n1 c1 t2 a2 n2 c2 has asd wy :=
  ⟨(hB.block _ (lt_of_block h.box)).trans h.box, (hB.block _ (lt_of_block h.res)).trans h.res, Below.next h.bel hB⟩
theorem rTwo_new (w : World) (k : ByteArray) (t1 : Int) (a1 : Option Addr) (n1 c1 : Nat) (t2 : Int) (a2 : Option Addr) (n2 c2 : Nat) (has : Int) (asd : Bool) : RTwo w k t1 a1 n1 c1 t2 a2 n2 c2 has asd ((w.alloc (.cells #[.string k, .int .i64 t1, .slice a1 n1 c1, .int .i64 t2, .slice a2 n2 c2, .int .i64 has, .bool asd] 29)).alloc (.cells #[.string ⟨#[]⟩, .int .i64 0, .slice none 0 0, .int .i64 0, .slice none 0 0, .int .i64 0, .bool false] 29)) := ⟨(laid2 w _ _).1, (laid2 w _ _).2, below_lit2 w _ _⟩

/-- A copy of a row that is answered. -/
structure CopyOut (w : World) (k : ByteArray) (t1 : Int) (n1 : Nat) (b1 : List UInt8) (t2 : Int) (n2 : Nat) (b2 : List UInt8) (has : Int) (asd : Bool) (e : Ending) (w' : World) : Prop where
  out : ∃ a1 c1 a2 c2, e = .returned (.agg #[.string k, .int .i64 t1, .slice a1 n1 c1, .int .i64 t2, .slice a2 n2 c2, .int .i64 has, .bool asd]) ∧ Apart w' (w.heap.size + 2) a1 c1 b1 a2 c2 b2 ∧ w.heap.size + 1 < w'.heap.size ∧ Below w.heap.size w w'

/-- The seven cells of a row's box. -/
abbrev Cells7 (d : Nat) (k : ByteArray) (t1 : Int) (a1 : Option Addr) (n1 c1 : Nat) (t2 : Int) (a2 : Option Addr) (n2 c2 : Nat) (has : Int) (asd : Bool) (w' : World) : Prop :=
  w'.cell? ⟨d, 0, none⟩ = some (.string k) ∧ w'.cell? ⟨d, 1, none⟩ = some (.int .i64 t1) ∧ w'.cell? ⟨d, 2, none⟩ = some (.slice a1 n1 c1) ∧ w'.cell? ⟨d, 3, none⟩ = some (.int .i64 t2) ∧ w'.cell? ⟨d, 4, none⟩ = some (.slice a2 n2 c2) ∧ w'.cell? ⟨d, 5, none⟩ = some (.int .i64 has) ∧ w'.cell? ⟨d, 6, none⟩ = some (.bool asd)
theorem Cells7.set7 {d q : Nat} {k : ByteArray} {t1 : Int} {a1 : Option Addr} {n1 c1 : Nat} {t2 : Int} {a2 : Option Addr} {n2 c2 : Nat} {has : Int} {asd : Bool} {w : World} {x0 x1 x2 x3 x4 x5 x6 : Value} (h : Cells7 d k t1 a1 n1 c1 t2 a2 n2 c2 has asd w) (hne : d ≠ q) :
    Cells7 d k t1 a1 n1 c1 t2 a2 n2 c2 has asd (((((((w.setCell ⟨q, 0, none⟩ x0).setCell ⟨q, 1, none⟩ x1).setCell ⟨q, 2, none⟩ x2).setCell ⟨q, 3, none⟩ x3).setCell ⟨q, 4, none⟩ x4).setCell ⟨q, 5, none⟩ x5).setCell ⟨q, 6, none⟩ x6) :=
  ⟨cell_set7 h.1 hne, cell_set7 h.2.1 hne, cell_set7 h.2.2.1 hne, cell_set7 h.2.2.2.1 hne, cell_set7 h.2.2.2.2.1 hne, cell_set7 h.2.2.2.2.2.1 hne, cell_set7 h.2.2.2.2.2.2 hne⟩
theorem cells7_at {d : Nat} {k : ByteArray} {t1 : Int} {a1 : Option Addr} {n1 c1 : Nat} {t2 : Int} {a2 : Option Addr} {n2 c2 : Nat} {has : Int} {asd : Bool} {w : World} {T : TypeId} (h : w.heap[d]? = some (.cells #[.string k, .int .i64 t1, .slice a1 n1 c1, .int .i64 t2, .slice a2 n2 c2, .int .i64 has, .bool asd] T (0, 0))) : Cells7 d k t1 a1 n1 c1 t2 a2 n2 c2 has asd w :=
  cells7 w d _ _ _ _ _ _ _ _ h
theorem apart_of {w : World} {B g1 c1 g2 c2 : Nat} {b1 b2 : List UInt8} (h1 : B ≤ g1) (h2 : g1 < g2) (hO1 : Own w g1 c1 b1) (hO2 : Own w g2 c2 b2) : Apart w B (some ⟨g1, 0, none⟩) c1 b1 (some ⟨g2, 0, none⟩) c2 b2 :=
  ⟨.inr ⟨g1, rfl, h1, hO1⟩, .inr ⟨g2, rfl, by omega, hO2⟩, fun q hq he => by cases hq; cases he; omega⟩
theorem below7 {w v : World} {q : Nat} {x0 x1 x2 x3 x4 x5 x6 : Value} (hB : Below w.heap.size w v) (hq : w.heap.size ≤ q) :
    Below w.heap.size w (((((((v.setCell ⟨q, 0, none⟩ x0).setCell ⟨q, 1, none⟩ x1).setCell ⟨q, 2, none⟩ x2).setCell ⟨q, 3, none⟩ x3).setCell ⟨q, 4, none⟩ x4).setCell ⟨q, 5, none⟩ x5).setCell ⟨q, 6, none⟩ x6) := bset7 hB hq

set_option maxHeartbeats 2000000 in
theorem l9Copy_any (k : ByteArray) (t1 : Int) (a1 : Option Addr) (n1 c1 : Nat) (t2 : Int) (a2 : Option Addr) (n2 c2 : Nat) (has : Int) (asd : Bool) (b1 b2 : List UInt8) (w : World) (h1 : CellAt w a1 n1 c1 b1) (h2 : CellAt w a2 n2 c2 b2) (hl1 : n1 ≤ 1048576) (hl2 : n2 ≤ 1048576) :
    Calls Tryz.prog 53 #[.agg #[.string k, .int .i64 t1, .slice a1 n1 c1, .int .i64 t2, .slice a2 n2 c2, .int .i64 has, .bool asd]] w (CopyOut w k t1 n1 b1 t2 n2 b2 has asd) := by
  have H1 : Hd (CellAt w a1 n1 c1 b1) := ⟨h1⟩
  have H2 : Hd (CellAt w a2 n2 c2 b2) := ⟨h2⟩
  have F0 : Hd (RTwo w k t1 a1 n1 c1 t2 a2 n2 c2 has asd ((w.alloc (.cells #[.string k, .int .i64 t1, .slice a1 n1 c1, .int .i64 t2, .slice a2 n2 c2, .int .i64 has, .bool asd] 29)).alloc (.cells #[.string ⟨#[]⟩, .int .i64 0, .slice none 0 0, .int .i64 0, .slice none 0 0, .int .i64 0, .bool false] 29))) := ⟨rTwo_new w k t1 a1 n1 c1 t2 a2 n2 c2 has asd⟩
  clear h1 h2
  go_enter Tryz.func53, Tryz.ntmps53
  go_wp2_with fail
  generalize (w.alloc (.cells #[.string k, .int .i64 t1, .slice a1 n1 c1, .int .i64 t2, .slice a2 n2 c2, .int .i64 has, .bool asd] 29)).alloc (.cells #[.string ⟨#[]⟩, .int .i64 0, .slice none 0 0, .int .i64 0, .slice none 0 0, .int .i64 0, .bool false] 29) = W at *
  have KK : Hd (∀ w', Below W.heap.size W w' → Cells7 w.heap.size k t1 a1 n1 c1 t2 a2 n2 c2 has asd w') := ⟨fun w' hb => cells7_at (F0.out.below hb).box⟩
  have KD : Hd (Below W.heap.size W W.drew) := ⟨(Below.refl _ W).drew⟩
  have K0 := KK.out _ (Below.refl _ W)
  unfold Cells7 at K0
  obtain ⟨p0, p1, p2, p3, p4, p5, p6⟩ := K0
  go_region_held (fun w' => w'.cell? ⟨w.heap.size, 0, none⟩ = some (.string k) ∧ w'.cell? ⟨w.heap.size, 1, none⟩ = some (.int .i64 t1) ∧ w'.cell? ⟨w.heap.size, 2, none⟩ = some (.slice a1 n1 c1) ∧ w'.cell? ⟨w.heap.size, 3, none⟩ = some (.int .i64 t2) ∧ w'.cell? ⟨w.heap.size, 4, none⟩ = some (.slice a2 n2 c2) ∧ w'.cell? ⟨w.heap.size, 5, none⟩ = some (.int .i64 has) ∧ w'.cell? ⟨w.heap.size, 6, none⟩ = some (.bool asd)) (first | (with_reducible refine Cells7.set7 (KK.out _ D2.out) ?_; omega) | (with_reducible exact KK.out _ D2.out) | (with_reducible exact KK.out _ D1.out) | (with_reducible exact KK.out _ KD.out))
    (first | (have G1 := D1; clear G1; go_at_call 76; refine (l8Copy_o t2 a2 n2 c2 b2 _ (H2.out.below (Below.next F0.out.bel D1.out)) hl2).mono ?_; rintro e v2 ⟨g2, d2, rfl, hg, hO, hB⟩; have D2 : Hd (Below W.heap.size W v2) := ⟨Below.next D1.out hB⟩; have F2 : Hd (RTwo w k t1 a1 n1 c1 t2 a2 n2 c2 has asd v2) := ⟨F0.out.below D2.out⟩; have O2 : Hd (w.heap.size + 2 ≤ g1 ∧ g1 < g2 ∧ Own v2 g1 d1 b1 ∧ Own v2 g2 d2 b2) := ⟨O1.out.1, Nat.lt_of_lt_of_le O1.out.2.lt hg, O1.out.2.below hB, hO⟩; obtain ⟨r0, r1, r2, r3, r4, r5, r6⟩ := cells7 v2 (w.heap.size + 1) _ _ _ _ _ _ _ _ F2.out.res; obtain ⟨s0, s1, s2, s3, s4, s5, s6⟩ := free7 v2 (w.heap.size + 1) _ _ _ _ _ _ _ _ F2.out.res; clear hg hO hB) | (go_at_call 76; refine (l8Copy_o t1 a1 n1 c1 b1 _ (H1.out.below F0.out.bel.drew) hl1).mono ?_; rintro e v1 ⟨g1, d1, rfl, hg, hO, hB⟩; have D1 : Hd (Below W.heap.size W v1) := ⟨Below.next (Below.refl _ W).drew hB⟩; have O1 : Hd (w.heap.size + 2 ≤ g1 ∧ Own v1 g1 d1 b1) := ⟨Nat.le_trans (lt_of_block F0.out.res) hg, hO⟩; clear hg hO hB))
  all_goals
    go_wp2_with fail
    refine bodyPost_ret (results_cell_row rfl _ _ (w.heap.size + 1) _ _ (0, 0) _ rfl (set7 _ _ _ _ _ _ _ F2.out.res) Tryz.underlying29 rfl (by kernel_rfl)) rfl ?_
    exact ⟨_, d1, _, d2, rfl, (apart_of O2.out.1 O2.out.2.1 O2.out.2.2.1 O2.out.2.2.2).of_set7 (by omega), by have := lt_of_block F2.out.res; simp at this ⊢; omega, bset7 F2.out.bel (by omega)⟩

/-- What is carried: both boxes, and the copy in a box d of its own. -/
structure KW (w : World) (k : ByteArray) (t1 : Int) (a1 : Option Addr) (n1 c1 : Nat) (t2 : Int) (a2 : Option Addr) (n2 c2 : Nat) (has : Int) (asd : Bool) (d : Nat) (k' : ByteArray) (t1' : Int) (a1' : Option Addr) (n1' c1' : Nat) (b1' : List UInt8) (t2' : Int) (a2' : Option Addr) (n2' c2' : Nat) (b2' : List UInt8) (has' : Int) (asd' : Bool) (wx : World) : Prop where
  two : RTwo w k t1 a1 n1 c1 t2 a2 n2 c2 has asd wx
  out : wx.heap[d]? = some (.cells #[.string k', .int .i64 t1', .slice a1' n1' c1', .int .i64 t2', .slice a2' n2' c2', .int .i64 has', .bool asd'] 29 (0, 0))
  ap : Apart wx (w.heap.size + 2) a1' c1' b1' a2' c2' b2'
  wd : w.heap.size + 1 < d
  f1 : ∀ q, a1' = some ⟨q, 0, none⟩ → q ≠ d
  f2 : ∀ q, a2' = some ⟨q, 0, none⟩ → q ≠ d
  l1 : b1'.length = n1'
  l2 : b2'.length = n2'
section
variable {w : World} {k : ByteArray} {t1 : Int} {a1 : Option Addr} {n1 c1 : Nat} {t2 : Int} {a2 : Option Addr} {n2 c2 : Nat} {has : Int} {asd : Bool} {d : Nat} {k' : ByteArray} {t1' : Int} {a1' : Option Addr} {n1' c1' : Nat} {b1' : List UInt8} {t2' : Int} {a2' : Option Addr} {n2' c2' : Nat} {b2' : List UInt8} {has' : Int} {asd' : Bool} {wx wy : World}
theorem KW.below (h : KW w k t1 a1 n1 c1 t2 a2 n2 c2 has asd d k' t1' a1' n1' c1' b1' t2' a2' n2' c2' b2' has' asd' wx) (hB : Below wx.heap.size wx wy) : KW w k t1 a1 n1 c1 t2 a2 n2 c2 has asd d k' t1' a1' n1' c1' b1' t2' a2' n2' c2' b2' has' asd' wy :=
  ⟨h.two.below hB, (hB.block _ (lt_of_block h.out)).trans h.out, h.ap.below hB, h.wd, h.f1, h.f2, h.l1, h.l2⟩
theorem ownO_lt {v : World} {B c q : Nat} {ao : Option Addr} {bs : List UInt8} (h : OwnO v B ao c bs) (hq : ao = some ⟨q, 0, none⟩) : q < v.heap.size := by
  rcases h with ⟨rfl, _⟩ | ⟨g, rfl, _, hO⟩
  · cases hq
  · cases hq; exact hO.lt
theorem ownO_ge {v : World} {B c q : Nat} {ao : Option Addr} {bs : List UInt8} (h : OwnO v B ao c bs) (hq : ao = some ⟨q, 0, none⟩) : B ≤ q := by
  rcases h with ⟨rfl, _⟩ | ⟨g, rfl, hb, _⟩
  · cases hq
  · cases hq; exact hb
theorem ownO_far {v : World} {B c q j : Nat} {x : Value} {ao : Option Addr} {bs : List UInt8} (h : OwnO v B ao c bs) (hq : ∀ g, ao = some ⟨g, 0, none⟩ → g ≠ q) : OwnO (v.setCell ⟨q, j, none⟩ x) B ao c bs := by
  rcases h with h | ⟨g, rfl, h1, hO⟩
  · exact .inl h
  · exact .inr ⟨g, rfl, h1, hO.of_block (block_set rfl (hq g rfl))⟩
theorem kw_new (h : RTwo w k t1 a1 n1 c1 t2 a2 n2 c2 has asd wx) (hA : Apart wx (w.heap.size + 2) a1' c1' b1' a2' c2' b2') (hl1 : b1'.length = n1') (hl2 : b2'.length = n2') :
    KW w k t1 a1 n1 c1 t2 a2 n2 c2 has asd wx.heap.size k' t1' a1' n1' c1' b1' t2' a2' n2' c2' b2' has' asd' (wx.alloc (.cells #[.string k', .int .i64 t1', .slice a1' n1' c1', .int .i64 t2', .slice a2' n2' c2', .int .i64 has', .bool asd'] 29)) :=
  ⟨h.below (below_lit wx _), alloc_new wx _ rfl, hA.below (below_lit wx _), lt_of_block h.res, fun q hq => by have := ownO_lt hA.one hq; omega, fun q hq => by have := ownO_lt hA.two hq; omega, hl1, hl2⟩
/-- A cell of the copy's box is written. -/
theorem kw_two (h : KW w k t1 a1 n1 c1 t2 a2 n2 c2 has asd d k' t1' a1' n1' c1' b1' t2' a2' n2' c2' b2' has' asd' wx) (j : Nat) (x : Value) : RTwo w k t1 a1 n1 c1 t2 a2 n2 c2 has asd (wx.setCell ⟨d, j, none⟩ x) :=
  ⟨block_set h.two.box (by have := h.wd; omega), block_set h.two.res (by have := h.wd; omega), bset h.two.bel _ (by have := h.wd; omega)⟩
theorem kw_ap (h : KW w k t1 a1 n1 c1 t2 a2 n2 c2 has asd d k' t1' a1' n1' c1' b1' t2' a2' n2' c2' b2' has' asd' wx) (j : Nat) (x : Value) : Apart (wx.setCell ⟨d, j, none⟩ x) (w.heap.size + 2) a1' c1' b1' a2' c2' b2' :=
  ⟨ownO_far h.ap.one h.f1, ownO_far h.ap.two h.f2, h.ap.ne⟩
theorem KW.setAside (h : KW w k t1 a1 n1 c1 t2 a2 n2 c2 has asd d k' t1' a1' n1' c1' b1' t2' a2' n2' c2' b2' has' asd' wx) (b : Bool) : KW w k t1 a1 n1 c1 t2 a2 n2 c2 has asd d k' t1' a1' n1' c1' b1' t2' a2' n2' c2' b2' has' b (wx.setCell ⟨d, 6, none⟩ (.bool b)) :=
  ⟨kw_two h _ _, by rw [set_at _ h.out]; simp, kw_ap h _ _, h.wd, h.f1, h.f2, h.l1, h.l2⟩
theorem KW.setHas (h : KW w k t1 a1 n1 c1 t2 a2 n2 c2 has asd d k' t1' a1' n1' c1' b1' t2' a2' n2' c2' b2' has' asd' wx) (z : Int) : KW w k t1 a1 n1 c1 t2 a2 n2 c2 has asd d k' t1' a1' n1' c1' b1' t2' a2' n2' c2' b2' z asd' (wx.setCell ⟨d, 5, none⟩ (.int .i64 z)) :=
  ⟨kw_two h _ _, by rw [set_at _ h.out]; simp, kw_ap h _ _, h.wd, h.f1, h.f2, h.l1, h.l2⟩
theorem KW.setT1 (h : KW w k t1 a1 n1 c1 t2 a2 n2 c2 has asd d k' t1' a1' n1' c1' b1' t2' a2' n2' c2' b2' has' asd' wx) (z : Int) : KW w k t1 a1 n1 c1 t2 a2 n2 c2 has asd d k' z a1' n1' c1' b1' t2' a2' n2' c2' b2' has' asd' (wx.setCell ⟨d, 1, none⟩ (.int .i64 z)) :=
  ⟨kw_two h _ _, by rw [set_at _ h.out]; simp, kw_ap h _ _, h.wd, h.f1, h.f2, h.l1, h.l2⟩
theorem KW.setT2 (h : KW w k t1 a1 n1 c1 t2 a2 n2 c2 has asd d k' t1' a1' n1' c1' b1' t2' a2' n2' c2' b2' has' asd' wx) (z : Int) : KW w k t1 a1 n1 c1 t2 a2 n2 c2 has asd d k' t1' a1' n1' c1' b1' z a2' n2' c2' b2' has' asd' (wx.setCell ⟨d, 3, none⟩ (.int .i64 z)) :=
  ⟨kw_two h _ _, by rw [set_at _ h.out]; simp, kw_ap h _ _, h.wd, h.f1, h.f2, h.l1, h.l2⟩
theorem KW.setB1 (h : KW w k t1 a1 n1 c1 t2 a2 n2 c2 has asd d k' t1' a1' n1' c1' b1' t2' a2' n2' c2' b2' has' asd' wx) {ao : Option Addr} {n c : Nat} {bs : List UInt8} (hO : OwnO wx (w.heap.size + 2) ao c bs) (hn : bs.length = n) (hf : ∀ q, ao = some ⟨q, 0, none⟩ → q ≠ d) (hne : ∀ q, ao = some ⟨q, 0, none⟩ → a2' ≠ some ⟨q, 0, none⟩) :
    KW w k t1 a1 n1 c1 t2 a2 n2 c2 has asd d k' t1' ao n c bs t2' a2' n2' c2' b2' has' asd' (wx.setCell ⟨d, 2, none⟩ (.slice ao n c)) :=
  ⟨kw_two h _ _, by rw [set_at _ h.out]; simp, ⟨ownO_far hO hf, (kw_ap h _ _).two, hne⟩, h.wd, hf, h.f2, hn, h.l2⟩
theorem KW.setB2 (h : KW w k t1 a1 n1 c1 t2 a2 n2 c2 has asd d k' t1' a1' n1' c1' b1' t2' a2' n2' c2' b2' has' asd' wx) {ao : Option Addr} {n c : Nat} {bs : List UInt8} (hO : OwnO wx (w.heap.size + 2) ao c bs) (hn : bs.length = n) (hf : ∀ q, ao = some ⟨q, 0, none⟩ → q ≠ d) (hne : ∀ q, a1' = some ⟨q, 0, none⟩ → ao ≠ some ⟨q, 0, none⟩) :
    KW w k t1 a1 n1 c1 t2 a2 n2 c2 has asd d k' t1' a1' n1' c1' b1' t2' ao n c bs has' asd' (wx.setCell ⟨d, 4, none⟩ (.slice ao n c)) :=
  ⟨kw_two h _ _, by rw [set_at _ h.out]; simp, ⟨(kw_ap h _ _).one, ownO_far hO hf, hne⟩, h.wd, h.f1, hf, h.l1, hn⟩
theorem KW.noOld (h : KW w k t1 a1 n1 c1 t2 a2 n2 c2 has asd d k' t1' a1' n1' c1' b1' t2' a2' n2' c2' b2' has' asd' wx) : KW w k t1 a1 n1 c1 t2 a2 n2 c2 has asd d k' 0 none 0 0 [] t2' a2' n2' c2' b2' has' asd' ((wx.setCell ⟨d, 1, none⟩ (.int .i64 0)).setCell ⟨d, 2, none⟩ (.slice none 0 0)) :=
  (h.setT1 0).setB1 (.inl ⟨rfl, rfl, rfl⟩) rfl (fun q hq => by cases hq) (fun q hq => by cases hq)
theorem KW.noNew (h : KW w k t1 a1 n1 c1 t2 a2 n2 c2 has asd d k' t1' a1' n1' c1' b1' t2' a2' n2' c2' b2' has' asd' wx) : KW w k t1 a1 n1 c1 t2 a2 n2 c2 has asd d k' t1' a1' n1' c1' b1' 0 none 0 0 [] has' asd' ((wx.setCell ⟨d, 3, none⟩ (.int .i64 0)).setCell ⟨d, 4, none⟩ (.slice none 0 0)) :=
  (h.setT2 0).setB2 (.inl ⟨rfl, rfl, rfl⟩) rfl (fun q hq => by cases hq) (fun q hq h2 => by cases h2)
/-- The result's box is filled: a row is handed back. -/
theorem rowOut_of (h : RTwo w k t1 a1 n1 c1 t2 a2 n2 c2 has asd wx) (hA : Apart wx (w.heap.size + 2) a1' c1' b1' a2' c2' b2') (hl1 : b1'.length = n1') (hl2 : b2'.length = n2') :
    RowOut w ⟨k', t1', b1', t2', b2', has', asd'⟩ (.returned (.agg #[.string k', .int .i64 t1', .slice a1' n1' c1', .int .i64 t2', .slice a2' n2' c2', .int .i64 has', .bool asd']))
      (((((((wx.setCell ⟨w.heap.size + 1, 0, none⟩ (.string k')).setCell ⟨w.heap.size + 1, 1, none⟩ (.int .i64 t1')).setCell ⟨w.heap.size + 1, 2, none⟩ (.slice a1' n1' c1')).setCell ⟨w.heap.size + 1, 3, none⟩ (.int .i64 t2')).setCell ⟨w.heap.size + 1, 4, none⟩ (.slice a2' n2' c2')).setCell ⟨w.heap.size + 1, 5, none⟩ (.int .i64 has')).setCell ⟨w.heap.size + 1, 6, none⟩ (.bool asd')) :=
  ⟨a1', n1', c1', a2', n2', c2', rfl, hl1, hl2, hA.of_set7 (by omega), by have := lt_of_block h.res; simp at this ⊢; omega, bset7 h.bel (by omega)⟩
theorem KW.done (h : KW w k t1 a1 n1 c1 t2 a2 n2 c2 has asd d k' t1' a1' n1' c1' b1' t2' a2' n2' c2' b2' has' asd' wx) :
    RowOut w ⟨k', t1', b1', t2', b2', has', asd'⟩ (.returned (.agg #[.string k', .int .i64 t1', .slice a1' n1' c1', .int .i64 t2', .slice a2' n2' c2', .int .i64 has', .bool asd']))
      (((((((wx.setCell ⟨w.heap.size + 1, 0, none⟩ (.string k')).setCell ⟨w.heap.size + 1, 1, none⟩ (.int .i64 t1')).setCell ⟨w.heap.size + 1, 2, none⟩ (.slice a1' n1' c1')).setCell ⟨w.heap.size + 1, 3, none⟩ (.int .i64 t2')).setCell ⟨w.heap.size + 1, 4, none⟩ (.slice a2' n2' c2')).setCell ⟨w.heap.size + 1, 5, none⟩ (.int .i64 has')).setCell ⟨w.heap.size + 1, 6, none⟩ (.bool asd')) := rowOut_of h.two h.ap h.l1 h.l2
end

end Go.Proofs.YtpafjehphajbhaaGreatDoor
