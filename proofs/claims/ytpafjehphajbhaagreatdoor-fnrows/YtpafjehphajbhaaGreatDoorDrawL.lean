/- Contracts of what draws cells for the laws of stage 8. -/
import Derived.Test.YtpafjehphajbhaaGreatDoorDrawA
import Derived.Test.YtpafjehphajbhaaGreatDoorCellU
namespace Go.Proofs.YtpafjehphajbhaaGreatDoor
set_option maxRecDepth 4000
open Go.RowKit

theorem OwnO.grown {w w' : World} {B c k : Nat} {ao : Option Addr} {bs : List UInt8} (h : OwnO w B ao c bs) (hG : w.grownBy w' (some k)) (hk : k < B) : OwnO w' B ao c bs := by
  rcases h with h | ⟨q, rfl, h1, hO⟩
  · exact .inl h
  · exact .inr ⟨q, rfl, h1, hO.grown hG (by omega)⟩
theorem OwnO.lt {w : World} {B c q : Nat} {ao : Option Addr} {bs : List UInt8} (h : OwnO w B ao c bs) (hq : ao = some ⟨q, 0, none⟩) : q < w.heap.size := by
  rcases h with ⟨rfl, _⟩ | ⟨g, rfl, _, hO⟩
  · cases hq
  · cases hq; exact hO.lt
theorem OwnO.set_far {w : World} {B c d j : Nat} {v : Value} {ao : Option Addr} {bs : List UInt8} (h : OwnO w B ao c bs) (hq : ∀ q, ao = some ⟨q, 0, none⟩ → q ≠ d) : OwnO (w.setCell ⟨d, j, none⟩ v) B ao c bs := by
  rcases h with h | ⟨g, rfl, h1, hO⟩
  · exact .inl h
  · exact .inr ⟨g, rfl, h1, hO.of_block (block_set rfl (hq g rfl))⟩
theorem own_zeros (w : World) (n : Nat) (h : n ≤ maxLen) : Own (w.alloc (.cells (madeCells #[.int .u8 0] n) 5)) w.heap.size n (List.replicate n 0) :=
  ⟨_, heap_alloc_new w _, by simp, h, by rw [← Array.length_toList, zeros_length], by rw [toList_madeCells_one]; simp [cb]⟩

/-- A cell is drawn, in new memory, and the cursor goes on. -/
structure CellDrawn (w : World) (g : Nat) (ao : Option Addr) (len cap : Nat) (bs : List UInt8) (e : Ending) (w' : World) : Prop where
  out : ∃ (tag : Int) (a : Option Addr) (m c : Nat) (ds : List UInt8), e = .returned (.agg #[.int .i64 tag, .slice a m c]) ∧ m ≤ 81 ∧ ds.length = m ∧ OwnO w' w.heap.size a c ds ∧ Cursor w' g ao len cap bs ∧ w.grownBy w' (some g)

/-- While a cell is drawn: the cursor and the result's box. -/
structure LC (w : World) (g : Nat) (ao : Option Addr) (len cap : Nat) (bs : List UInt8) (wi : World) : Prop where
  cur : Cursor wi g ao len cap bs
  gr : w.grownBy wi (some g)
  lt : g < w.heap.size
  b2 : wi.heap[w.heap.size]? = some (.cells #[.int .i64 0, .slice none 0 0] 27 (0, 0))
theorem LC.below {w : World} {g : Nat} {ao : Option Addr} {len cap : Nat} {bs : List UInt8} {wi wj : World} (h : LC w g ao len cap bs wi) (hB : Below wi.heap.size wi wj) : LC w g ao len cap bs wj :=
  ⟨h.cur.below hB, grown_next h.gr (grown_below hB _), h.lt, (hB.block _ (lt_of_block h.b2)).trans h.b2⟩
theorem LC.grown {w : World} {g : Nat} {ao : Option Addr} {len cap : Nat} {bs : List UInt8} {wi wj : World} (h : LC w g ao len cap bs wi) (hC : Cursor wj g ao len cap bs) (hG : wi.grownBy wj (some g)) : LC w g ao len cap bs wj :=
  ⟨hC, grown_next h.gr hG, h.lt, grown_block hG h.b2 (by have := h.lt; omega)⟩
theorem LC.size {w : World} {g : Nat} {ao : Option Addr} {len cap : Nat} {bs : List UInt8} {wi : World} (h : LC w g ao len cap bs wi) : w.heap.size + 1 ≤ wi.heap.size := lt_of_block h.b2
theorem lc_first {w : World} {g : Nat} {ao : Option Addr} {len cap : Nat} {bs : List UInt8} (h : Cursor w g ao len cap bs) : LC w g ao len cap bs (w.alloc (.cells #[.int .i64 0, .slice none 0 0] 27)) :=
  ⟨h.below (below_lit w _), grown_below (below_lit w _) _, h.lt, alloc_new w _ rfl⟩
theorem LC.set {w : World} {g : Nat} {ao : Option Addr} {len cap : Nat} {bs : List UInt8} {wi : World} (h : LC w g ao len cap bs wi) (d j : Nat) (v : Value) (hd : w.heap.size < d) : LC w g ao len cap bs (wi.setCell ⟨d, j, none⟩ v) := by
  have hl := h.lt
  have hk : ∀ k, k ≤ w.heap.size → (wi.setCell ⟨d, j, none⟩ v).heap[k]? = wi.heap[k]? := fun k hk => block_set rfl (by omega)
  refine ⟨h.cur.kept (fun k hk' => hk k (by omega)), ?_, h.lt, (hk _ (Nat.le_refl _)).trans h.b2⟩
  exact ⟨h.gr.os, h.gr.tape, h.gr.output, by simpa using h.gr.size, fun k hk1 hk2 => (hk k (by omega)).trans (h.gr.block k hk1 hk2)⟩
/-- The result's box is filled: the cell is handed back. -/
theorem LC.done {w : World} {g : Nat} {ao : Option Addr} {len cap : Nat} {bs : List UInt8} {wi : World} (h : LC w g ao len cap bs wi) {tag : Int} {a : Option Addr} {m c : Nat} {ds : List UInt8} (hm : m ≤ 81) (hn : ds.length = m) (hO : OwnO wi (w.heap.size + 1) a c ds) :
    CellDrawn w g ao len cap bs (.returned (.agg #[.int .i64 tag, .slice a m c])) ((wi.setCell ⟨w.heap.size, 0, none⟩ (.int .i64 tag)).setCell ⟨w.heap.size, 1, none⟩ (.slice a m c)) := by
  have hl := h.lt
  have hk : ∀ k, k ≠ w.heap.size → ((wi.setCell ⟨w.heap.size, 0, none⟩ (.int .i64 tag)).setCell ⟨w.heap.size, 1, none⟩ (.slice a m c)).heap[k]? = wi.heap[k]? := fun k hk => block_set (block_set rfl hk) hk
  exact ⟨tag, a, m, c, ds, rfl, hm, hn, ((hO.of_set (by omega)).of_set (by omega)).mono (by omega), h.cur.kept (fun k hk' => hk k (by omega)), ⟨h.gr.os, h.gr.tape, h.gr.output, by simpa using h.gr.size, fun k hk1 hk2 => (hk k (by omega)).trans (h.gr.block k hk1 hk2)⟩⟩

set_option maxHeartbeats 1000000 in
theorem l8Draw_any (g : Nat) (ao : Option Addr) (len cap : Nat) (bs : List UInt8) (w : World) (hl : len ≤ 1073741824) (h : Cursor w g ao len cap bs) :
    Calls Tryz.prog 88 #[.pointer (some ⟨g, 0, none⟩)] w (CellDrawn w g ao len cap bs) := by
  have L0 : Hd (LC w g ao len cap bs (w.alloc (.cells #[.int .i64 0, .slice none 0 0] 27))) := ⟨lc_first h⟩
  clear h
  go_enter Tryz.func88, Tryz.ntmps88
  go_wp2_with fail
  refine (l1Below_any g ao len cap bs 6 _ hl (by omega) (by omega) L0.out.cur).mono ?_
  rintro e w1 ⟨x, hx, rfl, hC1, hG1⟩
  have L1 : Hd (LC w g ao len cap bs w1) := ⟨L0.out.grown hC1 hG1⟩
  clear hC1 hG1 L0 hx
  go_wp2_with fail
  refine (l5Text_any (x : Int) g ao len cap bs 6 _ hl (by omega) L1.out.cur).mono ?_
  rintro e w2 ⟨s, rfl, hs, hC2, hG2⟩
  have L2 : Hd (LC w g ao len cap bs w2) := ⟨L1.out.grown hC2 hG2⟩
  have HS : Hd (s.size ≤ 24) := ⟨hs⟩
  clear hC2 hG2 L1 hs
  go_wp2_with fail
  refine (specCellOf_any (x : Int) s _ (by have := HS.out; omega)).mono ?_
  have H20 := oB_len (x : Int) s.data.toList
  generalize oTag (x : Int) s.data.toList = tag at *
  generalize oB (x : Int) s.data.toList = ds at *
  generalize oOk (x : Int) s.data.toList = ok at *
  rintro e w3 ⟨a, m, c, rfl, hn, hO, _, hB3⟩
  have hm : m ≤ 81 := by omega
  have L3 : Hd (LC w g ao len cap bs (w3.alloc (.cells #[.int .i64 tag, .slice a m c] 27))) := ⟨(L2.out.below hB3).below (below_lit w3 _)⟩
  have O3 : Hd (OwnO (w3.alloc (.cells #[.int .i64 tag, .slice a m c] 27)) (w.heap.size + 1) a c ds) := ⟨(hO.below (below_lit w3 _)).mono (by have := L2.out.size; omega)⟩
  have HN : Hd (ds.length = m) := ⟨hn⟩
  obtain ⟨s0, s1, s2, s3⟩ := cells2 _ w.heap.size _ _ _ L3.out.b2
  clear hn hO hB3 L2 H20
  go_wp2_with fail
  refine bodyPost_ret (results_cell_row rfl _ _ w.heap.size _ _ (0, 0) _ rfl (set2 _ _ L3.out.b2) Tryz.underlying27 rfl (by kernel_rfl)) rfl ?_
  exact L3.out.done hm HN.out O3.out

/-- The drawn cell's own box. -/
structure KC (w : World) (d : Nat) (tag : Int) (a : Option Addr) (m c : Nat) (ds : List UInt8) (wi : World) : Prop where
  box : wi.heap[d]? = some (.cells #[.int .i64 tag, .slice a m c] 27 (0, 0))
  own : OwnO wi (w.heap.size + 1) a c ds
  len : ds.length = m
  m81 : m ≤ 81
  wd : w.heap.size < d
  far : ∀ q, a = some ⟨q, 0, none⟩ → q ≠ d
theorem KC.below {w : World} {d : Nat} {tag : Int} {a : Option Addr} {m c : Nat} {ds : List UInt8} {wi wj : World} (h : KC w d tag a m c ds wi) (hB : Below wi.heap.size wi wj) : KC w d tag a m c ds wj :=
  ⟨(hB.block _ (lt_of_block h.box)).trans h.box, h.own.below hB, h.len, h.m81, h.wd, h.far⟩
theorem KC.grown {w : World} {d : Nat} {tag : Int} {a : Option Addr} {m c g : Nat} {ds : List UInt8} {wi wj : World} (h : KC w d tag a m c ds wi) (hG : wi.grownBy wj (some g)) (hg : g < w.heap.size) : KC w d tag a m c ds wj :=
  ⟨grown_block hG h.box (by have := h.wd; omega), h.own.grown hG (by omega), h.len, h.m81, h.wd, h.far⟩
theorem KC.setTag {w : World} {d : Nat} {tag : Int} {a : Option Addr} {m c : Nat} {ds : List UInt8} {wi : World} (h : KC w d tag a m c ds wi) (z : Int) : KC w d z a m c ds (wi.setCell ⟨d, 0, none⟩ (.int .i64 z)) :=
  ⟨by rw [heap_setCell_same wi d 0 _ _ _ h.box]; simp, h.own.set_far h.far, h.len, h.m81, h.wd, h.far⟩
theorem KC.setB {w : World} {d : Nat} {tag : Int} {a a2 : Option Addr} {m c m2 c2 : Nat} {ds es : List UInt8} {wi : World} (h : KC w d tag a m c ds wi) (hO : OwnO wi (w.heap.size + 1) a2 c2 es) (hn : es.length = m2) (hm : m2 ≤ 81) (hf : ∀ q, a2 = some ⟨q, 0, none⟩ → q ≠ d) : KC w d tag a2 m2 c2 es (wi.setCell ⟨d, 1, none⟩ (.slice a2 m2 c2)) :=
  ⟨by rw [heap_setCell_same wi d 1 _ _ _ h.box]; simp, hO.set_far hf, hn, hm, h.wd, hf⟩
theorem kc_new {w w1 : World} {tag : Int} {a : Option Addr} {m c : Nat} {ds : List UInt8} (hO : OwnO w1 (w.heap.size + 1) a c ds) (hn : ds.length = m) (hm : m ≤ 81) (hw : w.heap.size < w1.heap.size) : KC w w1.heap.size tag a m c ds (w1.alloc (.cells #[.int .i64 tag, .slice a m c] 27)) :=
  ⟨alloc_new w1 _ rfl, hO.below (below_lit w1 _), hn, hm, hw, fun q hq => by have := hO.lt hq; omega⟩

set_option maxHeartbeats 1000000 in
theorem l8Any_any (g : Nat) (ao : Option Addr) (len cap : Nat) (bs : List UInt8) (w : World) (hl : len ≤ 1073741824) (h : Cursor w g ao len cap bs) :
    Calls Tryz.prog 74 #[.pointer (some ⟨g, 0, none⟩)] w (CellDrawn w g ao len cap bs) := by
  obtain ⟨i0, hi, hz0, hz1, hz2⟩ := info_parts info8
  have L0 : Hd (LC w g ao len cap bs (w.alloc (.cells #[.int .i64 0, .slice none 0 0] 27))) := ⟨lc_first h⟩
  clear h
  go_enter Tryz.func74, Tryz.ntmps74
  go_wp2_with fail
  refine (l8Draw_any g ao len cap bs _ hl L0.out.cur).mono ?_
  rintro e w1 ⟨tag, a, m, c, ds, rfl, hm, hn, hO, hC1, hG1⟩
  have L1 : Hd (LC w g ao len cap bs (w1.alloc (.cells #[.int .i64 tag, .slice a m c] 27))) := ⟨(L0.out.grown hC1 hG1).below (below_lit w1 _)⟩
  have K1 : Hd (KC w w1.heap.size tag a m c ds (w1.alloc (.cells #[.int .i64 tag, .slice a m c] 27))) := ⟨kc_new (hO.mono (by simp)) hn hm (L0.out.grown hC1 hG1).size⟩
  generalize hd : w1.heap.size = d at *
  clear hm hn hO hC1 hG1 L0
  go_wp2_with fail
  clear hd
  refine (l1Below_any g ao len cap bs 6 _ hl (by omega) (by omega) L1.out.cur).mono ?_
  rintro e w2 ⟨x, hx, rfl, hC2, hG2⟩
  have L2 : Hd (LC w g ao len cap bs w2) := ⟨L1.out.grown hC2 hG2⟩
  have K2 : Hd (KC w d tag a m c ds w2) := ⟨K1.out.grown hG2 L1.out.lt⟩
  clear hC2 hG2 L1 K1
  by_cases x0 : x = 0
  · subst x0
    go_wp2_with fail
    refine (l3Any_any g ao len cap bs _ hl L2.out.cur).mono ?_
    rintro e w3 ⟨z, rfl, _, hC3, hG3⟩
    have L3 : Hd (LC w g ao len cap bs w3) := ⟨L2.out.grown hC3 hG3⟩
    have K3 : Hd (KC w d tag a m c ds w3) := ⟨K2.out.grown hG3 L2.out.lt⟩
    have L4 : Hd (LC w g ao len cap bs (w3.setCell ⟨d, 0, none⟩ (.int .i64 z))) := ⟨L3.out.set d 0 _ K3.out.wd⟩
    have K4 : Hd (KC w d z a m c ds (w3.setCell ⟨d, 0, none⟩ (.int .i64 z))) := ⟨K3.out.setTag z⟩
    obtain ⟨k0, k1, k2, k3⟩ := cells2 w3 d _ _ _ K3.out.box
    clear hC3 hG3 L2 K2
    obtain ⟨e0, e1, _, _⟩ := cells2 (w3.setCell ⟨d, 0, none⟩ (.int .i64 z)) d _ _ _ K4.out.box
    obtain ⟨s0, s1, s2, s3⟩ := cells2 (w3.setCell ⟨d, 0, none⟩ (.int .i64 z)) w.heap.size _ _ _ L4.out.b2
    go_wp2_with fail
    refine bodyPost_ret (results_cell_row rfl _ _ w.heap.size _ _ (0, 0) _ rfl (set2 _ _ L4.out.b2) Tryz.underlying27 rfl (by kernel_rfl)) rfl ?_
    exact L4.out.done K4.out.m81 K4.out.len K4.out.own
  by_cases x1 : x = 1
  · subst x1
    obtain ⟨k0, k1, _, _⟩ := cells2 w2 d _ _ _ K2.out.box
    go_wp2_with fail
    refine (l5Bytes_any tag g ao len cap bs _ hl L2.out.cur).mono ?_
    rintro e w4 ⟨q4, m4, c4, es, rfl, d1, d2, d3, d4, d5, d6⟩
    have L4 : Hd (LC w g ao len cap bs w4) := ⟨L2.out.grown d5 d6⟩
    have K4 : Hd (KC w d tag a m c ds w4) := ⟨K2.out.grown d6 L2.out.lt⟩
    have K5 : Hd (KC w d tag (some ⟨q4, 0, none⟩) m4 c4 es (w4.setCell ⟨d, 1, none⟩ (.slice (some ⟨q4, 0, none⟩) m4 c4))) := ⟨K4.out.setB (.inr ⟨q4, rfl, by have := L2.out.size; omega, d4⟩) d1 d2 (fun q hq => by cases hq; have := lt_of_block K2.out.box; omega)⟩
    have L5 : Hd (LC w g ao len cap bs (w4.setCell ⟨d, 1, none⟩ (.slice (some ⟨q4, 0, none⟩) m4 c4))) := ⟨L4.out.set d 1 _ K4.out.wd⟩
    clear d1 d2 d3 d4 d5 d6 L2 K2 k0 k1
    obtain ⟨k0, k1, k2, k3⟩ := cells2 w4 d _ _ _ K4.out.box
    obtain ⟨e0, e1, _, _⟩ := cells2 (w4.setCell ⟨d, 1, none⟩ (.slice (some ⟨q4, 0, none⟩) m4 c4)) d _ _ _ K5.out.box
    obtain ⟨s0, s1, s2, s3⟩ := cells2 (w4.setCell ⟨d, 1, none⟩ (.slice (some ⟨q4, 0, none⟩) m4 c4)) w.heap.size _ _ _ L5.out.b2
    go_wp2_with fail
    refine bodyPost_ret (results_cell_row rfl _ _ w.heap.size _ _ (0, 0) _ rfl (set2 _ _ L5.out.b2) Tryz.underlying27 rfl (by kernel_rfl)) rfl ?_
    exact L5.out.done K5.out.m81 K5.out.len K5.out.own
  by_cases x2 : x = 2
  · subst x2
    go_wp2_with fail
    refine (l1Below_any g ao len cap bs 3 _ hl (by omega) (by omega) L2.out.cur).mono ?_
    rintro e w3 ⟨y, hy, rfl, hC3, hG3⟩
    have L3 : Hd (LC w g ao len cap bs w3) := ⟨L2.out.grown hC3 hG3⟩
    have K3 : Hd (KC w d tag a m c ds w3) := ⟨K2.out.grown hG3 L2.out.lt⟩
    have hw : wrap64 (19 + (y : Int)) = ((19 + y : Nat) : Int) := by rw [wrap64_in (by omega) (by omega)]; omega
    have L4 : Hd (LC w g ao len cap bs (w3.alloc (.cells (madeCells #[.int .u8 0] (19 + y)) 5))) := ⟨L3.out.below (below_lit w3 _)⟩
    have K4 : Hd (KC w d tag a m c ds (w3.alloc (.cells (madeCells #[.int .u8 0] (19 + y)) 5))) := ⟨K3.out.below (below_lit w3 _)⟩
    have O4 : Hd (Own (w3.alloc (.cells (madeCells #[.int .u8 0] (19 + y)) 5)) w3.heap.size (19 + y) (List.replicate (19 + y) 0)) := ⟨own_zeros w3 _ (by unfold maxLen; omega)⟩
    have Hq : Hd (w.heap.size + 1 ≤ w3.heap.size ∧ w3.heap.size ≠ d) := ⟨by have := L3.out.size; omega, by have := lt_of_block K3.out.box; omega⟩
    have hy2 : y ≤ 2 := by omega
    have K5 : Hd (KC w d tag (some ⟨w3.heap.size, 0, none⟩) (19 + y) (19 + y) (List.replicate (19 + y) 0) ((w3.alloc (.cells (madeCells #[.int .u8 0] (19 + y)) 5)).setCell ⟨d, 1, none⟩ (.slice (some ⟨w3.heap.size, 0, none⟩) (19 + y) (19 + y)))) := ⟨K4.out.setB (.inr ⟨w3.heap.size, rfl, Hq.out.1, O4.out⟩) (by simp) (by omega) (fun q hq => by cases hq; exact Hq.out.2)⟩
    have L5 : Hd (LC w g ao len cap bs ((w3.alloc (.cells (madeCells #[.int .u8 0] (19 + y)) 5)).setCell ⟨d, 1, none⟩ (.slice (some ⟨w3.heap.size, 0, none⟩) (19 + y) (19 + y)))) := ⟨L4.out.set d 1 _ K4.out.wd⟩
    obtain ⟨k0, k1, k2, k3⟩ := cells2 (w3.alloc (.cells (madeCells #[.int .u8 0] (19 + y)) 5)) d _ _ _ K4.out.box
    obtain ⟨e0, e1, _, _⟩ := cells2 ((w3.alloc (.cells (madeCells #[.int .u8 0] (19 + y)) 5)).setCell ⟨d, 1, none⟩ (.slice (some ⟨w3.heap.size, 0, none⟩) (19 + y) (19 + y))) d _ _ _ K5.out.box
    obtain ⟨s0, s1, s2, s3⟩ := cells2 ((w3.alloc (.cells (madeCells #[.int .u8 0] (19 + y)) 5)).setCell ⟨d, 1, none⟩ (.slice (some ⟨w3.heap.size, 0, none⟩) (19 + y) (19 + y))) w.heap.size _ _ _ L5.out.b2
    clear hC3 hG3 L2 K2 hy L3 K3
    go_wp2_with (at_make; refine wpList_make_both _ rfl _ _ 22 rfl 5 i0 (.int .u8 0) Tryz.underlying22 hi hz0 hz1 _ _ _ _ (19 + y) (19 + y) rfl rfl ?C ?C2 ?nm ?b2 ?b3 ?_)
    case C => first | omega | simp
    case C2 => first | omega | simp
    case nm => omega
    case b2 => rw [hz2]; omega
    case b3 => unfold maxLen; omega
    try go_wp2_with fail
    refine bodyPost_ret (results_cell_row rfl _ _ w.heap.size _ _ (0, 0) _ rfl (set2 _ _ L5.out.b2) Tryz.underlying27 rfl (by kernel_rfl)) rfl ?_
    exact L5.out.done K5.out.m81 K5.out.len K5.out.own
  · have n0 : ((x : Int) == 0) = false := by simp; omega
    have n1 : ((x : Int) == 1) = false := by simp; omega
    have n2 : ((x : Int) == 2) = false := by simp; omega
    clear x0 x1 x2 hx
    obtain ⟨e0, e1, _, _⟩ := cells2 w2 d _ _ _ K2.out.box
    obtain ⟨s0, s1, s2, s3⟩ := cells2 w2 w.heap.size _ _ _ L2.out.b2
    go_wp2_with fail
    refine bodyPost_ret (results_cell_row rfl _ _ w.heap.size _ _ (0, 0) _ rfl (set2 _ _ L2.out.b2) Tryz.underlying27 rfl (by kernel_rfl)) rfl ?_
    exact L2.out.done K2.out.m81 K2.out.len K2.out.own

end Go.Proofs.YtpafjehphajbhaaGreatDoor
