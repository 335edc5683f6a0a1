/- The contract of the specification's Feed. -/
import Derived.Test.YtjbideiifoadkaaDoorStreamA
import Derived.Deep.CutRange
import Derived.Deep.DeepCutAuto
namespace Go.Proofs.YtjbideiifoadkaaDoor
set_option maxRecDepth 4000
open Go.RowKit

/-- What Feed answers: a state of new memory, and a text. -/
structure FedOut (w : World) (cs : Int) (held : List UInt8) (bad : Bool) (b : List UInt8) (e : Ending) (w' : World) : Prop where
  out : ∃ g c, e = .returned (.tuple #[.agg #[.int .i64 cs, .slice (some ⟨g, 0, none⟩) (fedH cs held bad b).length c, .bool (fedB cs held bad b)], .string ⟨(fedT cs held bad b).toArray⟩]) ∧ w.heap.size ≤ g ∧ Own w' g c (fedH cs held bad b) ∧ Below w.heap.size w w'

/-- Behind the first statement of Feed: the box of the state, that of the result, and the copy. -/
structure FedBox (w : World) (cs : Int) (hv : Value) (hn : Nat) (bad : Bool) (held : List UInt8) (g6 g c : Nat) (wx : World) : Prop where
  box : wx.heap[w.heap.size]? = some (.cells #[.int .i64 cs, hv, .bool bad] 30 (0, 0))
  res : wx.heap[w.heap.size + 1]? = some (.cells #[.int .i64 0, .slice none 0 0, .bool false] 30 (0, 0))
  out : wx.heap[g6]? = some (.cells #[.int .i64 cs, .slice (some ⟨g, 0, none⟩) hn c, .bool bad] 30 (0, 0))
  own : Own wx g c held
  p6 : w.heap.size + 2 ≤ g6
  p : w.heap.size + 2 ≤ g
  ne : g ≠ g6
  bel : Below w.heap.size w wx

theorem fedBox_new {w W w1 : World} {cs : Int} {hv : Value} {hn : Nat} {bad : Bool} {held : List UInt8} {q g c : Nat} (hG : W.grownBy w1 (some q))
    (h0 : W.heap[w.heap.size]? = some (.cells #[.int .i64 cs, hv, .bool bad] 30 (0, 0)))
    (h1 : W.heap[w.heap.size + 1]? = some (.cells #[.int .i64 0, .slice none 0 0, .bool false] 30 (0, 0)))
    (hB : Below w.heap.size w W) (hq : w.heap.size + 2 ≤ q) (hO : Own w1 g c ([] ++ held)) (hP : w.heap.size + 2 ≤ g) (hs : w.heap.size + 2 ≤ W.heap.size) :
    FedBox w cs hv hn bad held w1.heap.size g c (w1.alloc (.cells #[.int .i64 cs, .slice (some ⟨g, 0, none⟩) hn c, .bool bad] 30)) := by
  have hz := hG.size
  have hl := hO.lt
  refine ⟨?_, ?_, alloc_new _ _ rfl, hO.below (below_lit _ _), by omega, hP, by omega, ?_⟩
  · rw [alloc_old _ _ (by omega)]; exact grown_block hG h0 (by omega)
  · rw [alloc_old _ _ (by omega)]; exact grown_block hG h1 (by omega)
  · exact Below.next (below_grows hB hG (by omega) (by omega)) (below_lit _ _)
theorem fedBox_old {w W w1 : World} {cs : Int} {hv : Value} {hn : Nat} {bad : Bool} {held : List UInt8} {q g c g6 : Nat} (hG : W.grownBy w1 (some q))
    (h0 : W.heap[w.heap.size]? = some (.cells #[.int .i64 cs, hv, .bool bad] 30 (0, 0)))
    (h1 : W.heap[w.heap.size + 1]? = some (.cells #[.int .i64 0, .slice none 0 0, .bool false] 30 (0, 0)))
    (h6 : W.heap[g6]? = some (.cells #[.int .i64 0, .slice none 0 0, .bool false] 30 (0, 0)))
    (hB : Below w.heap.size w W) (hq : w.heap.size + 2 ≤ q) (hg6 : w.heap.size + 2 ≤ g6) (hne : g6 ≠ q) (hO : Own w1 g c ([] ++ held)) (hP : w.heap.size + 2 ≤ g) (hA : g = q ∨ g = W.heap.size) (hs : w.heap.size + 2 ≤ W.heap.size) :
    FedBox w cs hv hn bad held g6 g c (((w1.setCell ⟨g6, 0, none⟩ (.int .i64 cs)).setCell ⟨g6, 1, none⟩ (.slice (some ⟨g, 0, none⟩) hn c)).setCell ⟨g6, 2, none⟩ (.bool bad)) := by
  have hz := hG.size
  have hl := hO.lt
  have hl6 := (Array.getElem?_eq_some_iff.1 h6).1
  have hgg : g ≠ g6 := by omega
  have hO2 : Own w1 g c held := hO
  refine ⟨?_, ?_, set3 _ _ _ (grown_block hG h6 hne), ((hO2.of_block (block_set rfl hgg)).of_block (block_set rfl hgg)).of_block (block_set rfl hgg), by omega, hP, hgg, ?_⟩
  · exact block_set (block_set (block_set (grown_block hG h0 (by omega)) (by omega)) (by omega)) (by omega)
  · exact block_set (block_set (block_set (grown_block hG h1 (by omega)) (by omega)) (by omega)) (by omega)
  · exact bset (bset (bset (below_grows hB hG (by omega) (by omega)) _ (by omega)) _ (by omega)) _ (by omega)

theorem fed_no {cs : Int} {held : List UInt8} {bad : Bool} {b : List UInt8} (h : (sOk cs held bad && !bad) = false) : fedH cs held bad b = held ∧ fedB cs held bad b = bad ∧ fedT cs held bad b = [] := by
  unfold fedH fedB fedT; rw [h]; exact ⟨rfl, rfl, rfl⟩
theorem fed_yes {cs : Int} {held : List UInt8} {b : List UInt8} (h : sOk cs held false = true) : fedH cs held false b = feedH cs (held ++ b) ∧ fedB cs held false b = feedB cs (held ++ b) ∧ fedT cs held false b = feedT cs (held ++ b) := by
  unfold fedH fedB fedT; rw [h]; exact ⟨rfl, rfl, rfl⟩
theorem lt_block {w : World} {k : Nat} {o : Obj} (h : w.heap[k]? = some o) : k < w.heap.size := (Array.getElem?_eq_some_iff.1 h).1
theorem FedBox.below {w : World} {cs : Int} {hv : Value} {hn : Nat} {bad : Bool} {held : List UInt8} {g6 g c : Nat} {wx wy : World} (h : FedBox w cs hv hn bad held g6 g c wx) (hB : Below wx.heap.size wx wy) : FedBox w cs hv hn bad held g6 g c wy :=
  ⟨(hB.block _ (lt_block h.box)).trans h.box, (hB.block _ (lt_block h.res)).trans h.res, (hB.block _ (lt_block h.out)).trans h.out, h.own.below hB, h.p6, h.p, h.ne, Below.next h.bel hB⟩
/-- An append onto what was just laid. -/
theorem FedBox.grown {w : World} {cs : Int} {hv : Value} {hn : Nat} {bad : Bool} {held : List UInt8} {g6 g c : Nat} {wx wy : World} {o : Obj} (h : FedBox w cs hv hn bad held g6 g c wx) (hG : (wx.alloc o).grownBy wy (some wx.heap.size)) : FedBox w cs hv hn bad held g6 g c wy := by
  refine h.below ?_
  exact below_grows (below_lit wx o) hG (by simp) (Nat.le_refl _)
theorem FedBox.grown2 {w : World} {cs : Int} {hv : Value} {hn : Nat} {bad : Bool} {held : List UInt8} {g6 g c q : Nat} {wx wy : World} (h : FedBox w cs hv hn bad held g6 g c wx) (hG : wx.grownBy wy (some q)) (hq : w.heap.size + 2 ≤ q) (h6 : g6 ≠ q) (hg : g ≠ q) : FedBox w cs hv hn bad held g6 g c wy :=
  ⟨grown_block hG h.box (by omega), grown_block hG h.res (by omega), grown_block hG h.out h6, h.own.grown hG hg, h.p6, h.p, h.ne, below_grows h.bel hG h.bel.size (by omega)⟩
/-- Ahead of the reading: the state's set, the result's box, what is answered, and all bytes. -/
structure FdSt (w : World) (cs : Int) (all : List UInt8) (g6 g5 q7 c7 : Nat) (wx : World) : Prop where
  set : wx.cell? ⟨w.heap.size, 0, none⟩ = some (.int .i64 cs)
  res : wx.heap[w.heap.size + 1]? = some (.cells #[.int .i64 0, .slice none 0 0, .bool false] 30 (0, 0))
  out : wx.heap[g6]? = some (.cells #[.int .i64 cs, .slice (some ⟨g5, 0, none⟩) 0 0, .bool false] 30 (0, 0))
  own : Own wx g5 0 []
  all : Own wx q7 c7 all
  p6 : w.heap.size + 2 ≤ g6
  p5 : w.heap.size + 2 ≤ g5
  ne : g5 ≠ g6
  bel : Below w.heap.size w wx
theorem FdSt.below {w : World} {cs : Int} {all : List UInt8} {g6 g5 q7 c7 : Nat} {wx wy : World} (h : FdSt w cs all g6 g5 q7 c7 wx) (hB : Below wx.heap.size wx wy) : FdSt w cs all g6 g5 q7 c7 wy :=
  ⟨cell_below h.set hB, (hB.block _ (lt_block h.res)).trans h.res, (hB.block _ (lt_block h.out)).trans h.out, h.own.below hB, h.all.below hB, h.p6, h.p5, h.ne, Below.next h.bel hB⟩
theorem set_mid {w : World} {g : Nat} {a b c : Value} {T : TypeId} (y : Value) (hg : w.heap[g]? = some (.cells #[a, b, c] T (0, 0))) : (w.setCell ⟨g, 1, none⟩ y).heap[g]? = some (.cells #[a, y, c] T (0, 0)) := by
  rw [heap_setCell_same _ g 1 _ _ _ hg]; simp
theorem set_last {w : World} {g : Nat} {a b c : Value} {T : TypeId} (y : Value) (hg : w.heap[g]? = some (.cells #[a, b, c] T (0, 0))) : (w.setCell ⟨g, 2, none⟩ y).heap[g]? = some (.cells #[a, b, y] T (0, 0)) := by
  rw [heap_setCell_same _ g 2 _ _ _ hg]; simp
/-- At the reading's beginning. -/
theorem fdSt_first {w : World} {cs : Int} {hv : Value} {hn : Nat} {held all : List UInt8} {g6 g c q7 c7 : Nat} {wx : World} (h : FedBox w cs hv hn false held g6 g c wx) (hO : Own wx q7 c7 all) (h7 : q7 ≠ g6) :
    FdSt w cs all g6 wx.heap.size q7 c7 (((wx.alloc (.cells #[] 5)).setCell ⟨g6, 1, none⟩ (.slice (some ⟨wx.heap.size, 0, none⟩) 0 0)).alloc (.cells #[] 5)) := by
  have hl := lt_block h.out
  have hp := h.p6
  have h8 := (cells3 wx w.heap.size _ _ _ _ h.box).1
  have hA : FdSt w cs all g6 wx.heap.size q7 c7 ((wx.alloc (.cells #[] 5)).setCell ⟨g6, 1, none⟩ (.slice (some ⟨wx.heap.size, 0, none⟩) 0 0)) := by
    refine ⟨cell_set (cell_below h8 (below_lit wx _)) (by show w.heap.size ≠ g6; omega), block_set ((alloc_old wx _ (lt_block h.res)).trans h.res) (by omega), set_mid _ ((alloc_old wx _ hl).trans h.out), (own_emp wx).of_block (block_set rfl (by omega)), (hO.below (below_lit wx _)).of_block (block_set rfl h7), h.p6, by omega, by omega, ?_⟩
    exact bset (Below.next h.bel (below_lit wx _)) _ (by omega)
  exact hA.below (below_lit _ _)
/-- Where the reading stands. -/
structure FdAt (w : World) (cs : Int) (all : List UInt8) (g6 g5 q7 c7 k q8 c8 n8 : Nat) (wr : World) : Prop where
  st : FdSt w cs all g6 g5 q7 c7 wr
  out : ∃ out, FeedAt cs all k out ∧ out.length = n8 ∧ Own wr q8 c8 out ∧ w.heap.size + 2 ≤ q8 ∧ q8 ≠ g6
theorem FdAt.fits {w : World} {cs : Int} {all : List UInt8} {g6 g5 q7 c7 k q8 c8 n8 : Nat} {wr : World} (h : FdAt w cs all g6 g5 q7 c7 k q8 c8 n8 wr) : k ≤ all.length ∧ n8 ≤ 4 * k := by
  obtain ⟨o, h1, h2, _⟩ := h.out
  exact ⟨h1.le, by have := h1.size; omega⟩
/-- Ahead of the answer. -/
structure FdEnd (w : World) (cs : Int) (g6 gh nh ch q8 c8 n8 : Nat) (bd : Bool) (hd out : List UInt8) (wz : World) : Prop where
  res : wz.heap[w.heap.size + 1]? = some (.cells #[.int .i64 0, .slice none 0 0, .bool false] 30 (0, 0))
  box : wz.heap[g6]? = some (.cells #[.int .i64 cs, .slice (some ⟨gh, 0, none⟩) nh ch, .bool bd] 30 (0, 0))
  own : Own wz gh ch hd
  len : hd.length = nh
  txt : Own wz q8 c8 out
  tln : out.length = n8
  p6 : w.heap.size + 2 ≤ g6
  ph : w.heap.size + 2 ≤ gh
  p8 : w.heap.size + 2 ≤ q8
  bel : Below w.heap.size w wz
theorem conv_own {w : World} {q c n : Nat} {xs : List UInt8} (h : Own w q c xs) (hn : xs.length = n) : (convert 22 9 (.slice (some ⟨q, 0, none⟩) n c)).run Tryd.prog w = .ok (.string ⟨xs.toArray⟩) w := conv_owned (h.owns hn (Nat.le_refl q))
theorem own_set {w : World} {q c g j : Nat} {v : Value} {xs : List UInt8} (h : Own w q c xs) (hne : q ≠ g) : Own (w.setCell ⟨g, j, none⟩ v) q c xs := h.of_block (block_set rfl hne)
theorem own_set3 {w : World} {q c g : Nat} {v0 v1 v2 : Value} {xs : List UInt8} (h : Own w q c xs) (hne : q ≠ g) : Own (((w.setCell ⟨g, 0, none⟩ v0).setCell ⟨g, 1, none⟩ v1).setCell ⟨g, 2, none⟩ v2) q c xs := own_set (own_set (own_set h hne) hne) hne
theorem own_drew {w : World} {q c : Nat} {xs : List UInt8} (h : Own w q c xs) : Own w.drew q c xs := h.of_block rfl
theorem fdEnd_out {w : World} {cs : Int} {g6 gh nh ch q8 c8 n8 : Nat} {bd : Bool} {hd out held b : List UInt8} {wz : World} (h : FdEnd w cs g6 gh nh ch q8 c8 n8 bd hd out wz)
    (h1 : fedH cs held false b = hd) (h2 : fedB cs held false b = bd) (h3 : fedT cs held false b = out) :
    FedOut w cs held false b (.returned (.tuple #[.agg #[.int .i64 cs, .slice (some ⟨gh, 0, none⟩) nh ch, .bool bd], .string ⟨out.toArray⟩])) (((wz.setCell ⟨w.heap.size + 1, 0, none⟩ (.int .i64 cs)).setCell ⟨w.heap.size + 1, 1, none⟩ (.slice (some ⟨gh, 0, none⟩) nh ch)).setCell ⟨w.heap.size + 1, 2, none⟩ (.bool bd)).drew := by
  have hp := h.ph
  refine ⟨gh, ch, by rw [h1, h2, h3, h.len], by omega, ?_, ?_⟩
  · rw [h1]; exact own_drew (own_set3 h.own (by omega))
  · exact (bset (bset (bset h.bel _ (by omega)) _ (by omega)) _ (by omega)).drew
/-- The three ways to end. -/
theorem fdEnd_all {w : World} {cs : Int} {all : List UInt8} {g6 g5 q7 c7 q8 c8 n8 : Nat} {out : List UInt8} {wx : World} (h : FdSt w cs all g6 g5 q7 c7 wx) (hO : Own wx q8 c8 out) (hl : out.length = n8) (h8 : w.heap.size + 2 ≤ q8) : FdEnd w cs g6 g5 0 0 q8 c8 n8 false [] out wx :=
  ⟨h.res, h.out, h.own, rfl, hO, hl, h.p6, h.p5, h8, h.bel⟩
theorem fdEnd_bad {w : World} {cs : Int} {all : List UInt8} {g6 g5 q7 c7 q8 c8 n8 : Nat} {out : List UInt8} {wx : World} (h : FdSt w cs all g6 g5 q7 c7 wx) (hO : Own wx q8 c8 out) (hl : out.length = n8) (h8 : w.heap.size + 2 ≤ q8) (hne : q8 ≠ g6) : FdEnd w cs g6 g5 0 0 q8 c8 n8 true [] out (wx.setCell ⟨g6, 2, none⟩ (.bool true)) :=
  ⟨block_set h.res (by have := h.p6; omega), set_last _ h.out, own_set h.own h.ne, rfl, own_set hO hne, hl, h.p6, h.p5, h8, bset h.bel _ (by have := h.p6; omega)⟩
theorem fdEnd_beg {w : World} {cs : Int} {all : List UInt8} {g6 g5 q7 c7 q8 c8 n8 gh ch nh : Nat} {out hd : List UInt8} {wx wy : World} {o : Obj} (h : FdSt w cs all g6 g5 q7 c7 wx) (hO : Own wx q8 c8 out) (hl : out.length = n8) (h8 : w.heap.size + 2 ≤ q8) (hne : q8 ≠ g6)
    (hG : (wx.alloc o).grownBy wy (some wx.heap.size)) (hh : Own wy gh ch hd) (hn : hd.length = nh) (hg : wx.heap.size ≤ gh) : FdEnd w cs g6 gh nh ch q8 c8 n8 false hd out (wy.setCell ⟨g6, 1, none⟩ (.slice (some ⟨gh, 0, none⟩) nh ch)) := by
  have hB : Below wx.heap.size wx wy := below_grows (below_lit wx o) hG (by simp) (Nat.le_refl _)
  have h' := h.below hB
  have hl6 := lt_block h.out
  have hp := h.p6
  exact ⟨block_set h'.res (by omega), set_mid _ h'.out, own_set hh (by omega), hn, own_set (hO.below hB) hne, hl, h.p6, by omega, h8, bset h'.bel _ (by omega)⟩
/-- What is answered where nothing is read. -/
theorem fedOut_no {w : World} {cs : Int} {hv : Value} {hn : Nat} {bad : Bool} {held b : List UInt8} {g6 g c : Nat} {wx : World} (h : FedBox w cs hv hn bad held g6 g c wx) (hl : held.length = hn) (hs : (sOk cs held bad && !bad) = false) :
    FedOut w cs held bad b (.returned (.tuple #[.agg #[.int .i64 cs, .slice (some ⟨g, 0, none⟩) hn c, .bool bad], .string ⟨#[]⟩])) (((wx.setCell ⟨w.heap.size + 1, 0, none⟩ (.int .i64 cs)).setCell ⟨w.heap.size + 1, 1, none⟩ (.slice (some ⟨g, 0, none⟩) hn c)).setCell ⟨w.heap.size + 1, 2, none⟩ (.bool bad)) := by
  obtain ⟨e1, e2, e3⟩ := fed_no (b := b) hs
  have hp := h.p
  have hgg : g ≠ w.heap.size + 1 := by omega
  refine ⟨g, c, by rw [e1, e2, e3, hl], by omega, ?_, ?_⟩
  · rw [e1]; exact ((h.own.of_block (block_set rfl hgg)).of_block (block_set rfl hgg)).of_block (block_set rfl hgg)
  · exact bset (bset (bset h.bel _ (by omega)) _ (by omega)) _ (by omega)

set_option maxHeartbeats 1000000 in
theorem specFeed_some (cs : Int) (hb ho hn hc : Nat) (bad : Bool) (held : List UInt8) (b off len cap : Nat) (bs : List UInt8) (w : World)
    (hl1 : held.length = hn) (hc1 : ∀ j, j < hn → w.cell? ⟨hb, ho + j, none⟩ = some (.int .u8 ((held.getD j 0).toNat : Int))) (hm1 : hn ≤ 1048576)
    (hl2 : bs.length = len) (hc2 : ∀ j, j < len → w.cell? ⟨b, off + j, none⟩ = some (.int .u8 ((bs.getD j 0).toNat : Int))) (hm2 : len ≤ 1048576) :
    Calls Tryd.prog 20 #[.agg #[.int .i64 cs, .slice (some ⟨hb, ho, none⟩) hn hc, .bool bad], .slice (some ⟨b, off, none⟩) len cap] w (FedOut w cs held bad bs) := by
  have HL1 : Hd (held.length = hn) := ⟨hl1⟩
  have HL2 : Hd (bs.length = len) := ⟨hl2⟩
  have HC1 : Hd (∀ j, j < hn → w.cell? ⟨hb, ho + j, none⟩ = some (.int .u8 ((held.getD j 0).toNat : Int))) := ⟨hc1⟩
  have HC2 : Hd (∀ j, j < len → w.cell? ⟨b, off + j, none⟩ = some (.int .u8 ((bs.getD j 0).toNat : Int))) := ⟨hc2⟩
  clear hl1 hl2 hc1 hc2
  go_enter Tryd.func20, Tryd.ntmps20
  go_wp2_with fail
  go_cut [6] (fun s6 wx => ∃ g6 g c, s6 = .pointer (some ⟨g6, 0, none⟩) ∧ Hd (FedBox w cs (.slice (some ⟨hb, ho, none⟩) hn hc) hn bad held g6 g c wx))
  case first =>
    go_region_held_law (fun w' => w'.cell? ⟨w.heap.size, 0, none⟩ = some (.int .i64 cs) ∧ w'.cell? ⟨w.heap.size, 1, none⟩ = some (.slice (some ⟨hb, ho, none⟩) hn hc) ∧ w'.cell? ⟨w.heap.size, 2, none⟩ = some (.bool bad)) (first | go_keep | exact ⟨cell_set3 k0 (by show w.heap.size ≠ _; omega), cell_set3 k1 (by show w.heap.size ≠ _; omega), cell_set3 k2 (by show w.heap.size ≠ _; omega)⟩)
      (first
        | (refine step_app rfl (.tmp 15) (.tmp 17) rfl (w.heap.size + 2) _ 0 0 [] held rfl (emp1 ((w.alloc (.cells #[.int .i64 cs, .slice (some ⟨hb, ho, none⟩) hn hc, .bool bad] 30)).alloc (.cells #[.int .i64 0, .slice none 0 0, .bool false] 30)) _ (by simp)) rfl (by omega) (by simp <;> omega) ⟨hb, ho, none⟩ hn hc rfl HL1.out (map_cb_cell HL1.out (fun j hj => cell_below (HC1.out j hj) (below_lit3 _ _ _ _).drew)) (by omega) ?_
           intro g cap w1 hO hG hA hP
           have k0 := grown_cell hG (a := ⟨w.heap.size, 0, none⟩) (v := .int .i64 cs) (by go_simp) (by show w.heap.size ≠ _; omega)
           have k1 := grown_cell hG (a := ⟨w.heap.size, 1, none⟩) (v := .slice (some ⟨hb, ho, none⟩) hn hc) (by go_simp) (by show w.heap.size ≠ _; omega)
           have k2 := grown_cell hG (a := ⟨w.heap.size, 2, none⟩) (v := .bool bad) (by go_simp) (by show w.heap.size ≠ _; omega)
           replace hO : Hd _ := ⟨hO⟩
           replace hG : Hd _ := ⟨hG⟩
           replace hA : Hd _ := ⟨hA⟩
           replace hP : Hd _ := ⟨hP⟩)
        | (refine step_app rfl (.tmp 15) (.tmp 17) rfl (w.heap.size + 2) _ 0 0 [] held rfl (emp2 ((w.alloc (.cells #[.int .i64 cs, .slice (some ⟨hb, ho, none⟩) hn hc, .bool bad] 30)).alloc (.cells #[.int .i64 0, .slice none 0 0, .bool false] 30)) (.cells #[.int .i64 0, .slice none 0 0, .bool false] 30) _ (by simp)) rfl (by omega) (by simp <;> omega) ⟨hb, ho, none⟩ hn hc rfl HL1.out (map_cb_cell HL1.out (fun j hj => cell_below (HC1.out j hj) (below_lit4 _ _ _ _ _).drew)) (by omega) ?_
           intro g cap w1 hO hG hA hP
           have k0 := grown_cell hG (a := ⟨w.heap.size, 0, none⟩) (v := .int .i64 cs) (by go_simp) (by show w.heap.size ≠ _; omega)
           have k1 := grown_cell hG (a := ⟨w.heap.size, 1, none⟩) (v := .slice (some ⟨hb, ho, none⟩) hn hc) (by go_simp) (by show w.heap.size ≠ _; omega)
           have k2 := grown_cell hG (a := ⟨w.heap.size, 2, none⟩) (v := .bool bad) (by go_simp) (by show w.heap.size ≠ _; omega)
           have m0 := grown_cell hG (a := ⟨w.heap.size + 1 + 1 + 1, 0, none⟩) (v := .int .i64 0) (by go_simp) (by show w.heap.size + 1 + 1 + 1 ≠ _; omega)
           have f0 := grown_free hG (a := ⟨w.heap.size + 1 + 1 + 1, 0, none⟩) (v := .int .i64 0) (by go_simp) (by go_simp) (by show w.heap.size + 1 + 1 + 1 ≠ _; omega)
           have m1 := grown_cell hG (a := ⟨w.heap.size + 1 + 1 + 1, 1, none⟩) (v := .slice none 0 0) (by go_simp) (by show w.heap.size + 1 + 1 + 1 ≠ _; omega)
           have f1 := grown_free hG (a := ⟨w.heap.size + 1 + 1 + 1, 1, none⟩) (v := .slice none 0 0) (by go_simp) (by go_simp) (by show w.heap.size + 1 + 1 + 1 ≠ _; omega)
           have m2 := grown_cell hG (a := ⟨w.heap.size + 1 + 1 + 1, 2, none⟩) (v := .bool false) (by go_simp) (by show w.heap.size + 1 + 1 + 1 ≠ _; omega)
           have f2 := grown_free hG (a := ⟨w.heap.size + 1 + 1 + 1, 2, none⟩) (v := .bool false) (by go_simp) (by go_simp) (by show w.heap.size + 1 + 1 + 1 ≠ _; omega)
           replace hO : Hd _ := ⟨hO⟩
           replace hG : Hd _ := ⟨hG⟩
           replace hA : Hd _ := ⟨hA⟩
           replace hP : Hd _ := ⟨hP⟩)
        | (refine step_app rfl (.tmp 15) (.tmp 17) rfl (w.heap.size + 2) _ 0 0 [] held rfl (emp1 (((w.alloc (.cells #[.int .i64 cs, .slice (some ⟨hb, ho, none⟩) hn hc, .bool bad] 30)).alloc (.cells #[.int .i64 0, .slice none 0 0, .bool false] 30)).alloc (.cells #[.int .i64 0, .slice none 0 0, .bool false] 30)) _ (by simp)) rfl (by omega) (by simp <;> omega) ⟨hb, ho, none⟩ hn hc rfl HL1.out (map_cb_cell HL1.out (fun j hj => cell_below (HC1.out j hj) (below_lit4 _ _ _ _ _).drew)) (by omega) ?_
           intro g cap w1 hO hG hA hP
           have k0 := grown_cell hG (a := ⟨w.heap.size, 0, none⟩) (v := .int .i64 cs) (by go_simp) (by show w.heap.size ≠ _; omega)
           have k1 := grown_cell hG (a := ⟨w.heap.size, 1, none⟩) (v := .slice (some ⟨hb, ho, none⟩) hn hc) (by go_simp) (by show w.heap.size ≠ _; omega)
           have k2 := grown_cell hG (a := ⟨w.heap.size, 2, none⟩) (v := .bool bad) (by go_simp) (by show w.heap.size ≠ _; omega)
           have m0 := grown_cell hG (a := ⟨w.heap.size + 1 + 1, 0, none⟩) (v := .int .i64 0) (by go_simp) (by show w.heap.size + 1 + 1 ≠ _; omega)
           have f0 := grown_free hG (a := ⟨w.heap.size + 1 + 1, 0, none⟩) (v := .int .i64 0) (by go_simp) (by go_simp) (by show w.heap.size + 1 + 1 ≠ _; omega)
           have m1 := grown_cell hG (a := ⟨w.heap.size + 1 + 1, 1, none⟩) (v := .slice none 0 0) (by go_simp) (by show w.heap.size + 1 + 1 ≠ _; omega)
           have f1 := grown_free hG (a := ⟨w.heap.size + 1 + 1, 1, none⟩) (v := .slice none 0 0) (by go_simp) (by go_simp) (by show w.heap.size + 1 + 1 ≠ _; omega)
           have m2 := grown_cell hG (a := ⟨w.heap.size + 1 + 1, 2, none⟩) (v := .bool false) (by go_simp) (by show w.heap.size + 1 + 1 ≠ _; omega)
           have f2 := grown_free hG (a := ⟨w.heap.size + 1 + 1, 2, none⟩) (v := .bool false) (by go_simp) (by go_simp) (by show w.heap.size + 1 + 1 ≠ _; omega)
           replace hO : Hd _ := ⟨hO⟩
           replace hG : Hd _ := ⟨hG⟩
           replace hA : Hd _ := ⟨hA⟩
           replace hP : Hd _ := ⟨hP⟩))
    · go_wp2_with fail
      go_meet
      case rel => exact ⟨_, g, cap, rfl, ⟨fedBox_new hG.out (laid3 w _ _ _).1 (laid3 w _ _ _).2.1 (below_lit3 w _ _ _).drew (by omega) hO.out hP.out (by simp <;> omega)⟩⟩
    · go_wp2_with fail
      go_meet
      case rel => exact ⟨_, g, cap, rfl, ⟨fedBox_old hG.out (laid4 w _ _ _ _).1 (laid4 w _ _ _ _).2.1 (laid4 w _ _ _ _).2.2.2 (below_lit4 w _ _ _ _).drew (by omega) (by omega) (by omega) hO.out hP.out hA.out (by simp <;> omega)⟩⟩
    · go_wp2_with fail
      go_meet
      case rel => exact ⟨_, g, cap, rfl, ⟨fedBox_old hG.out (laid4 w _ _ _ _).1 (laid4 w _ _ _ _).2.1 (laid4 w _ _ _ _).2.2.1 (below_lit4 w _ _ _ _).drew (by omega) (by omega) (by omega) hO.out hP.out hA.out (by simp <;> omega)⟩⟩
  case rest =>
    obtain ⟨g6, g, c, rfl, FB⟩ := hcut
    obtain ⟨a0, a1, a2, _, _, _⟩ := cells3 wc w.heap.size _ _ _ _ FB.out.box
    go_wp2_with fail
    refine (specDecOk_any cs (some ⟨hb, ho, none⟩) hn hc bad held _ ⟨HL1.out, .inr ⟨hb, ho, rfl, fun j hj => cell_below (HC1.out j hj) FB.out.bel⟩⟩ (by omega)).mono ?_
    rintro e w2 ⟨rfl, hB2⟩
    have FB2 : Hd (FedBox w cs (.slice (some ⟨hb, ho, none⟩) hn hc) hn bad held g6 g c w2) := ⟨FB.out.below hB2⟩
    clear FB hB2 a0 a1 a2
    obtain ⟨a0, a1, a2, _, _, _⟩ := cells3 w2 w.heap.size _ _ _ _ FB2.out.box
    obtain ⟨r0, r1, r2, r3, r4, r5⟩ := cells3 w2 (w.heap.size + 1) _ _ _ _ FB2.out.res
    obtain ⟨o0, o1, o2, o3, o4, o5⟩ := cells3 w2 g6 _ _ _ _ FB2.out.out
    cases hs : sOk cs held bad with
    | false =>
      have HS : Hd ((sOk cs held bad && !bad) = false) := ⟨by rw [hs]; rfl⟩
      clear hs
      go_wp2_with fail
      refine bodyPost_ret (results_row_tmp rfl _ _ (w.heap.size + 1) _ _ (0, 0) _ rfl (set3 _ _ _ FB2.out.res) Tryd.underlying30 rfl (by kernel_rfl)) rfl ?_
      exact fedOut_no FB2.out HL1.out HS.out
    | true =>
      cases bad with
      | true =>
        have HS : Hd ((sOk cs held true && !true) = false) := ⟨by simp⟩
        clear hs
        go_wp2_with fail
        refine bodyPost_ret (results_row_tmp rfl _ _ (w.heap.size + 1) _ _ (0, 0) _ rfl (set3 _ _ _ FB2.out.res) Tryd.underlying30 rfl (by kernel_rfl)) rfl ?_
        exact fedOut_no FB2.out HL1.out HS.out
      | false =>
        have HS : Hd (sOk cs held false = true) := ⟨hs⟩
        clear hs
        have e1 : (w2.alloc (.cells #[] 5)).cell? ⟨w.heap.size, 1, none⟩ = some (.slice (some ⟨hb, ho, none⟩) hn hc) := cell_below a1 (below_lit w2 _)
        have hsz : Hd (w.heap.size + 2 ≤ w2.heap.size) := ⟨by have := lt_block FB2.out.out; have := FB2.out.p6; omega⟩
        go_wp2_with (at_builtin; refine wpList_app rfl (.tmp 30) (.tmp 32) rfl (w.heap.size + 2) w2.heap.size 0 0 [] held rfl (own_emp w2) rfl hsz.out (by have := hsz.out; simp; omega) ⟨hb, ho, none⟩ hn hc rfl HL1.out (map_cb_cell HL1.out (fun j hj => cell_below (HC1.out j hj) (Below.next FB2.out.bel (below_lit w2 _)))) (by omega) ?_)
        intro q1 c1 w3 hO3 hG3 hA3 hP3
        have FB3 : Hd (FedBox w cs (.slice (some ⟨hb, ho, none⟩) hn hc) hn false held g6 g c w3) := ⟨FB2.out.grown hG3⟩
        have hne1 : Hd (g6 ≠ q1 ∧ g ≠ q1) := ⟨by have := lt_block FB2.out.out; have := FB2.out.own.lt; omega⟩
        have HO3 : Hd (Own w3 q1 c1 held) := ⟨hO3⟩
        have HP3 : Hd (w.heap.size + 2 ≤ q1) := ⟨hP3⟩
        clear hO3 hG3 hA3 hP3 FB2 hsz a0 a1 a2 r0 r1 r2 r3 r4 r5 o0 o1 o2 o3 o4 o5 e1
        go_wp2_with (at_builtin; refine wpList_app rfl (.tmp 33) (.tmp 34) rfl (w.heap.size + 2) q1 hn c1 held bs rfl HO3.out HL1.out HP3.out (by have := FB3.out.p6; have := lt_block FB3.out.out; omega) ⟨b, off, none⟩ len cap rfl HL2.out (map_cb_cell HL2.out (fun j hj => cell_below (HC2.out j hj) FB3.out.bel)) (by omega) ?_)
        intro q7 c7 w4 hO4 hG4 hA4 hP4
        have FB4 : Hd (FedBox w cs (.slice (some ⟨hb, ho, none⟩) hn hc) hn false held g6 g c w4) := ⟨FB3.out.grown2 hG4 HP3.out hne1.out.1 hne1.out.2⟩
        have h76 : Hd (q7 ≠ g6) := ⟨by have := lt_block FB3.out.out; have := hne1.out; omega⟩
        obtain ⟨all, hall⟩ : ∃ all, held ++ bs = all := ⟨_, rfl⟩
        have HALL : Hd (held ++ bs = all) := ⟨hall⟩
        have HO4 : Hd (Own w4 q7 c7 all) := ⟨by rw [← hall]; exact hO4⟩
        obtain ⟨L, hL⟩ : ∃ L, hn + len = L := ⟨_, rfl⟩
        have HLL : Hd (all.length = L) := ⟨by rw [← hall, List.length_append, HL1.out, HL2.out, hL]⟩
        have hL2 : L ≤ 2097152 := by omega
        clear hO4 hG4 hA4 hP4 FB3 HO3 HP3 hne1 hall
        obtain ⟨x0, x1, x2, x3, x4, x5⟩ := cells3 (w4.alloc (.cells #[] 5)) g6 _ _ _ _ ((alloc_old w4 _ (lt_block FB4.out.out)).trans FB4.out.out)
        rw [hL]
        clear hL
        go_wp2_with fail
        have S0 : Hd (FdSt w cs all g6 w4.heap.size q7 c7 (((w4.alloc (.cells #[] 5)).setCell ⟨g6, 1, none⟩ (.slice (some ⟨w4.heap.size, 0, none⟩) 0 0)).alloc (.cells #[] 5))) := ⟨fdSt_first FB4.out HO4.out h76.out⟩
        have A0 : Hd (FdAt w cs all g6 w4.heap.size q7 c7 0 (w4.heap.size + 1) 0 0 (((w4.alloc (.cells #[] 5)).setCell ⟨g6, 1, none⟩ (.slice (some ⟨w4.heap.size, 0, none⟩) 0 0)).alloc (.cells #[] 5))) := ⟨S0.out, [], feedAt_zero cs all, rfl, by have := own_emp ((w4.alloc (.cells #[] 5)).setCell ⟨g6, 1, none⟩ (.slice (some ⟨w4.heap.size, 0, none⟩) 0 0)); simpa using this, by have := S0.out.p5; omega, by have := lt_block FB4.out.out; omega⟩
        clear S0 FB4 HO4 h76 x0 x1 x2 x3 x4 x5
        generalize w4.heap.size = g5 at *
        go_loopw [8, 9] (fun v i wr => ∃ (k q8 c8 n8 : Nat), i = .int .i64 k ∧ v = .slice (some ⟨q8, 0, none⟩) n8 c8 ∧ Hd (FdAt w cs all g6 g5 q7 c7 k q8 c8 n8 wr)) (fun _ i _ => L - (intOf i).toNat)
        case atStart => exact ⟨0, g5 + 1, 0, 0, rfl, rfl, A0⟩
        case round =>
          clear A0
          obtain ⟨k, q8, c8, n8, rfl, rfl, R⟩ := hrel
          obtain ⟨f1, f2⟩ := R.out.fits
          rw [HLL.out] at f1
          have s0 := R.out.st.set
          have hLc : L ≤ c7 := by have := R.out.st.all.le; rw [HLL.out] at this; exact this
          by_cases hlt : k < L
          · have hkI : (k : Int) < (L : Int) := by omega
            go_wp2_with fail
            refine (specSignAt_any cs q7 0 L c7 k all _ HLL.out hLc (R.out.st.all.cell HLL.out) (by omega) hlt).mono ?_
            rintro e w5 ⟨z, next, ok, rfl, hS, hB⟩
            have hk2 : k < all.length := by rw [HLL.out]; exact hlt
            obtain ⟨xs, x1, x2, x3, x4, x5⟩ := R.out.out
            have T5 : Hd (FdSt w cs all g6 g5 q7 c7 w5) := ⟨R.out.st.below hB⟩
            have X3 : Hd (Own w5 q8 c8 xs) := ⟨x3.below hB⟩
            have X2 : Hd (xs.length = n8) := ⟨x2⟩
            have X4 : Hd (w.heap.size + 2 ≤ q8 ∧ q8 ≠ g6) := ⟨x4, x5⟩
            cases ho : hdOk cs (all.drop k) with
            | true =>
              obtain ⟨s1, s2⟩ := hS.yes ho
              obtain rfl : ok = true := hS.ok.trans ho
              subst s1 s2
              have hf := hd_fits (drop_ne hk2) ho
              have N1 := feedAt_yes x1 hk2 ho
              have hp := hf.pos
              have hle := N1.le
              rw [HLL.out] at hle
              have NX : Hd (FeedAt cs all (k + hdK cs (all.drop k)) (xs ++ signB (hdN cs (all.drop k)))) := ⟨N1⟩
              clear hS hf N1 x1 x2 x3 x4 x5 ho hB R s0
              generalize hdK cs (all.drop k) = K at *
              generalize hdN cs (all.drop k) = N at *
              go_wp2_with fail
              refine (specPutSign_some q8 0 n8 c8 xs N _ X2.out (X3.out.cell X2.out) X3.out.lt (by omega)).mono ?_
              rintro e w6 ⟨q2, c2, rfl, hq2, hO2, hB2⟩
              have R2 : Hd (FdAt w cs all g6 g5 q7 c7 (k + K) q2 c2 (xs ++ signB N).length w6) := ⟨T5.out.below hB2, _, NX.out, rfl, hO2, by have := T5.out.p6; have := lt_block T5.out.out; omega, by have := lt_block T5.out.out; omega⟩
              generalize (xs ++ signB N).length = n2 at *
              clear hO2 hB2 hq2 X3 T5 NX X2
              go_wp2_with fail
              go_roundw
              case rel => exact ⟨k + K, q2, c2, n2, by go_num, rfl, R2⟩
              case measure => simp [intOf]; omega
            | false =>
              obtain rfl : ok = false := hS.ok.trans ho
              have FA : Hd (FeedAt cs all k xs) := ⟨x1⟩
              have HO : Hd (hdOk cs (all.drop k) = false) := ⟨ho⟩
              clear hS x1 x2 x3 x4 x5 ho hB R s0
              have s5 := T5.out.set
              have hk3 : (k : Int) ≤ (L : Int) := by omega
              have hL3 : (L : Int) ≤ (c7 : Int) := by omega
              have hck : ¬ c7 = k := by omega
              go_wp2_with fail
              go_region_held (fun w' => w'.cell? ⟨w.heap.size, 0, none⟩ = some (.int .i64 cs) ∧ Hd (Below w5.heap.size w5 w')) (first | assumption | exact ⟨s5, ⟨(Below.refl _ w5).drew⟩⟩ | exact ⟨cell_below s5 hB6.out, hB6⟩) (first | (go_at_call 39; refine (l6Begins_any cs (some ⟨q7, k, none⟩) (L - k) (c7 - k) (all.drop k) _ ?_ ?_).mono ?_; exact (T5.out.all.reads_drop HLL.out k (by omega)).below rfl (Below.refl _ w5).drew; omega; rintro e w6 ⟨rfl, hb6⟩; have hB6 : Hd (Below w5.heap.size w5 w6) := ⟨Below.next (Below.refl _ w5).drew hb6⟩))
              have T6 : Hd (FdSt w cs all g6 g5 q7 c7 w6) := ⟨T5.out.below hB6.out⟩
              have X6 : Hd (Own w6 q8 c8 xs) := ⟨X3.out.below hB6.out⟩
              clear hB6 T5 X3 s5
              obtain ⟨o0, o1, o2, o3, o4, o5⟩ := cells3 w6 g6 _ _ _ _ T6.out.out
              cases hbg : beg cs (all.drop k) with
              | true =>
                have HF : Hd (feedT cs all = xs ∧ feedH cs all = all.drop k ∧ feedB cs all = false) := ⟨feedAt_beg FA.out hk2 HO.out hbg⟩
                obtain ⟨hd, hhd⟩ : ∃ hd, all.drop k = hd := ⟨_, rfl⟩
                have HH : Hd (all.drop k = hd) := ⟨hhd⟩
                obtain ⟨nh, hnh⟩ : ∃ nh, L - k = nh := ⟨_, rfl⟩
                have HNH : Hd (L - k = nh) := ⟨hnh⟩
                have HHL : Hd (hd.length = nh) := ⟨by rw [← hhd, List.length_drop, HLL.out, hnh]⟩
                have hnb : nh ≤ 2097152 := by omega
                rewrite [HH.out] at HF
                clear hbg FA HO hhd hnh o0 o1 o2 o3 o4 o5
                go_wp2_with (at_builtin; refine wpList_app rfl (.tmp 63) (.tmp 66) rfl w6.heap.size w6.heap.size 0 0 [] hd rfl (own_emp w6) rfl (Nat.le_refl _) (by simp) ⟨q7, k, none⟩ (L - k) (c7 - k) rfl (HHL.out.trans HNH.out.symm) (by rw [← HH.out]; exact map_cb_cell (by rw [List.length_drop, HLL.out]) (fun j hj => by have := (T6.out.all.below (below_lit w6 (.cells #[] 5))).row.cell (k + j) (by rw [HLL.out]; omega); rw [this]; simp [List.getD])) (by omega) ?_)
                intro gh ch w7 hO7 hG7 hA7 hP7
                have EE : Hd (FdEnd w cs g6 gh (L - k) ch q8 c8 n8 false hd xs (w7.setCell ⟨g6, 1, none⟩ (.slice (some ⟨gh, 0, none⟩) (L - k) ch))) := ⟨fdEnd_beg T6.out X6.out X2.out X4.out.1 X4.out.2 hG7 hO7 (HHL.out.trans HNH.out.symm) hP7⟩
                obtain ⟨o0, o1, o2, o3, o4, o5⟩ := cells3 w7 g6 _ _ _ _ (T6.out.below (below_grows (below_lit w6 _) hG7 (by simp) (Nat.le_refl _))).out
                clear hO7 hG7 hA7 hP7 T6 X6
                go_wp2_with fail
                obtain ⟨y0, y1, y2, _, _, _⟩ := cells3 _ g6 _ _ _ _ EE.out.box
                obtain ⟨r0, r1, r2, r3, r4, r5⟩ := cells3 _ (w.heap.size + 1) _ _ _ _ EE.out.res
                have hg6 : ¬ g6 = w.heap.size + 1 := by have := EE.out.p6; omega
                generalize hwz : w7.setCell ⟨g6, 1, none⟩ (.slice (some ⟨gh, 0, none⟩) (L - k) ch) = wz at *
                clear hwz
                go_wp2_with fail
                go_region_held (fun w' => w'.cell? ⟨g6, 0, none⟩ = some (.int .i64 cs) ∧ w'.cell? ⟨g6, 1, none⟩ = some (.slice (some ⟨gh, 0, none⟩) (L - k) ch) ∧ w'.cell? ⟨g6, 2, none⟩ = some (.bool false) ∧ (convert 22 9 (.slice (some ⟨q8, 0, none⟩) n8 c8)).run Tryd.prog w' = .ok (.string ⟨xs.toArray⟩) w') (first | assumption | exact ⟨y0, y1, y2, conv_own (own_drew EE.out.txt) EE.out.tln⟩ | exact ⟨cell_set3 y0 hg6, cell_set3 y1 hg6, cell_set3 y2 hg6, conv_own (own_drew (own_set3 EE.out.txt (by have := EE.out.p8; omega))) EE.out.tln⟩) (fail)
                all_goals
                  go_wp2_with fail
                  refine bodyPost_ret (results_row_tmp rfl _ _ (w.heap.size + 1) _ _ (0, 0) _ rfl (set3 _ _ _ EE.out.res) Tryd.underlying30 rfl (by kernel_rfl)) rfl ?_
                  obtain ⟨v1, v2, v3⟩ := fed_yes (b := bs) HS.out
                  rw [HALL.out] at v1 v2 v3
                  exact fdEnd_out EE.out (v1.trans HF.out.2.1) (v2.trans HF.out.2.2) (v3.trans HF.out.1)
              | false =>
                have HF : Hd (feedT cs all = xs ∧ feedH cs all = [] ∧ feedB cs all = true) := ⟨feedAt_bad FA.out hk2 HO.out hbg⟩
                have EE : Hd (FdEnd w cs g6 g5 0 0 q8 c8 n8 true [] xs (w6.setCell ⟨g6, 2, none⟩ (.bool true))) := ⟨fdEnd_bad T6.out X6.out X2.out X4.out.1 X4.out.2⟩
                clear hbg FA HO T6 X6
                go_wp2_with fail
                obtain ⟨y0, y1, y2, _, _, _⟩ := cells3 _ g6 _ _ _ _ EE.out.box
                obtain ⟨r0, r1, r2, r3, r4, r5⟩ := cells3 _ (w.heap.size + 1) _ _ _ _ EE.out.res
                have hg6 : ¬ g6 = w.heap.size + 1 := by have := EE.out.p6; omega
                generalize hwz : w6.setCell ⟨g6, 2, none⟩ (.bool true) = wz at *
                clear hwz
                go_wp2_with fail
                go_region_held (fun w' => w'.cell? ⟨g6, 0, none⟩ = some (.int .i64 cs) ∧ w'.cell? ⟨g6, 1, none⟩ = some (.slice (some ⟨g5, 0, none⟩) 0 0) ∧ w'.cell? ⟨g6, 2, none⟩ = some (.bool true) ∧ (convert 22 9 (.slice (some ⟨q8, 0, none⟩) n8 c8)).run Tryd.prog w' = .ok (.string ⟨xs.toArray⟩) w') (first | assumption | exact ⟨y0, y1, y2, conv_own (own_drew EE.out.txt) EE.out.tln⟩ | exact ⟨cell_set3 y0 hg6, cell_set3 y1 hg6, cell_set3 y2 hg6, conv_own (own_drew (own_set3 EE.out.txt (by have := EE.out.p8; omega))) EE.out.tln⟩) (fail)
                all_goals
                  go_wp2_with fail
                  refine bodyPost_ret (results_row_tmp rfl _ _ (w.heap.size + 1) _ _ (0, 0) _ rfl (set3 _ _ _ EE.out.res) Tryd.underlying30 rfl (by kernel_rfl)) rfl ?_
                  obtain ⟨v1, v2, v3⟩ := fed_yes (b := bs) HS.out
                  rw [HALL.out] at v1 v2 v3
                  exact fdEnd_out EE.out (v1.trans HF.out.2.1) (v2.trans HF.out.2.2) (v3.trans HF.out.1)
          · have hkI : ¬ (k : Int) < (L : Int) := by omega
            obtain ⟨xs, x1, x2, x3, x4, x5⟩ := R.out.out
            have HF : Hd (feedT cs all = xs ∧ feedH cs all = [] ∧ feedB cs all = false) := ⟨feedAt_end x1 (by rw [HLL.out]; exact hlt)⟩
            have EE : Hd (FdEnd w cs g6 g5 0 0 q8 c8 n8 false [] xs wr) := ⟨fdEnd_all R.out.st x3 x2 x4⟩
            clear x1 x2 x3 x4 x5 R s0
            go_wp2_with fail
            obtain ⟨y0, y1, y2, _, _, _⟩ := cells3 _ g6 _ _ _ _ EE.out.box
            obtain ⟨r0, r1, r2, r3, r4, r5⟩ := cells3 _ (w.heap.size + 1) _ _ _ _ EE.out.res
            have hg6 : ¬ g6 = w.heap.size + 1 := by have := EE.out.p6; omega
            go_wp2_with fail
            go_region_held (fun w' => w'.cell? ⟨g6, 0, none⟩ = some (.int .i64 cs) ∧ w'.cell? ⟨g6, 1, none⟩ = some (.slice (some ⟨g5, 0, none⟩) 0 0) ∧ w'.cell? ⟨g6, 2, none⟩ = some (.bool false) ∧ (convert 22 9 (.slice (some ⟨q8, 0, none⟩) n8 c8)).run Tryd.prog w' = .ok (.string ⟨xs.toArray⟩) w') (first | assumption | exact ⟨y0, y1, y2, conv_own (own_drew EE.out.txt) EE.out.tln⟩ | exact ⟨cell_set3 y0 hg6, cell_set3 y1 hg6, cell_set3 y2 hg6, conv_own (own_drew (own_set3 EE.out.txt (by have := EE.out.p8; omega))) EE.out.tln⟩) (fail)
            all_goals
              go_wp2_with fail
              refine bodyPost_ret (results_row_tmp rfl _ _ (w.heap.size + 1) _ _ (0, 0) _ rfl (set3 _ _ _ EE.out.res) Tryd.underlying30 rfl (by kernel_rfl)) rfl ?_
              obtain ⟨v1, v2, v3⟩ := fed_yes (b := bs) HS.out
              rw [HALL.out] at v1 v2 v3
              exact fdEnd_out EE.out (v1.trans HF.out.2.1) (v2.trans HF.out.2.2) (v3.trans HF.out.1)

end Go.Proofs.YtjbideiifoadkaaDoor
