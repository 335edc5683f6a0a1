/- Parts of the proof, one behind the other. -/
import Derived.Test.YtlididoalekeoaaGreatDoorMxStoreOk1
import Derived.Maps.AppendAt
import Derived.Laws.ResultCell
import Derived.Laws.Rows
import Derived.Deep.AppendLies
import Derived.Deep.RegionHeldLaw
/- Parts of the proof, one behind the other. -/
/- Blocks that a call lays one behind the other, and what they hold. append onto a slice of bytes of the call's own: where it lies, in a plain region and at a step of one that draws its order. A slice of bytes of new memory, or nil; append of whatever slice, nil ones too. A slice of bytes that may be nil: what it holds, and the marks of its memory. -/
namespace Go.Proofs.YtlididoalekeoaaGreatDoor
set_option maxRecDepth 4000
open Go.RowKit

theorem lt_of_block {w : World} {k : Nat} {o : Obj} (h : w.heap[k]? = some o) : k < w.heap.size := (Array.getElem?_eq_some_iff.1 h).1
theorem alloc_old (w : World) (o : Obj) {k : Nat} (h : k < w.heap.size) : (w.alloc o).heap[k]? = w.heap[k]? := (below_lit w o).block k h
theorem alloc_new (w : World) (o : Obj) {k : Nat} (h : k = w.heap.size) : (w.alloc o).heap[k]? = some o := by subst h; exact heap_alloc_new w o
theorem below_lit3 (w : World) (A B C : Obj) : Below w.heap.size w (((w.alloc A).alloc B).alloc C) := (below_lit2 w A B).alloc (by simp; omega) C
theorem below_lit4 (w : World) (A B C D : Obj) : Below w.heap.size w ((((w.alloc A).alloc B).alloc C).alloc D) := (below_lit3 w A B C).alloc (by simp; omega) D
/-- Three blocks, one behind the other. -/
theorem laid3 (w : World) (A B C : Obj) : (((w.alloc A).alloc B).alloc C).heap[w.heap.size]? = some A ∧ (((w.alloc A).alloc B).alloc C).heap[w.heap.size + 1]? = some B ∧ (((w.alloc A).alloc B).alloc C).heap[w.heap.size + 1 + 1]? = some C := by
  refine ⟨?_, ?_, alloc_new _ _ (by simp)⟩
  · rw [alloc_old _ _ (by simp; omega), alloc_old _ _ (by simp), alloc_new _ _ rfl]
  · rw [alloc_old _ _ (by simp), alloc_new _ _ (by simp)]
theorem laid4 (w : World) (A B C D : Obj) : ((((w.alloc A).alloc B).alloc C).alloc D).heap[w.heap.size]? = some A ∧ ((((w.alloc A).alloc B).alloc C).alloc D).heap[w.heap.size + 1]? = some B ∧ ((((w.alloc A).alloc B).alloc C).alloc D).heap[w.heap.size + 1 + 1]? = some C ∧ ((((w.alloc A).alloc B).alloc C).alloc D).heap[w.heap.size + 1 + 1 + 1]? = some D := by
  obtain ⟨h1, h2, h3⟩ := laid3 w A B C
  refine ⟨?_, ?_, ?_, alloc_new _ _ (by simp)⟩
  · rw [alloc_old _ _ (by simp <;> omega)]; exact h1
  · rw [alloc_old _ _ (by simp <;> omega)]; exact h2
  · rw [alloc_old _ _ (by simp <;> omega)]; exact h3
theorem laid2 (w : World) (A B : Obj) : ((w.alloc A).alloc B).heap[w.heap.size]? = some A ∧ ((w.alloc A).alloc B).heap[w.heap.size + 1]? = some B := by
  refine ⟨?_, alloc_new _ _ (by simp)⟩
  rw [alloc_old _ _ (by simp), alloc_new _ _ rfl]

/-- A block of three cells that may be written: its cells. -/
theorem cells3 (w : World) (g : Nat) (a b c : Value) (T : TypeId) (hg : w.heap[g]? = some (.cells #[a, b, c] T (0, 0))) :
    w.cell? ⟨g, 0, none⟩ = some a ∧ w.cell? ⟨g, 1, none⟩ = some b ∧ w.cell? ⟨g, 2, none⟩ = some c ∧ w.frozen? ⟨g, 0, none⟩ = false ∧ w.frozen? ⟨g, 1, none⟩ = false ∧ w.frozen? ⟨g, 2, none⟩ = false := by
  refine ⟨?_, ?_, ?_, frozen_of_row w g 0 _ _ hg, frozen_of_row w g 1 _ _ hg, frozen_of_row w g 2 _ _ hg⟩
  · rw [cell_of_row w g 0 _ _ (0, 0) hg]; rfl
  · rw [cell_of_row w g 1 _ _ (0, 0) hg]; rfl
  · rw [cell_of_row w g 2 _ _ (0, 0) hg]; rfl

/-- A block of two cells that may be written: its cells. -/
theorem cells2 (w : World) (g : Nat) (a b : Value) (T : TypeId) (hg : w.heap[g]? = some (.cells #[a, b] T (0, 0))) :
    w.cell? ⟨g, 0, none⟩ = some a ∧ w.cell? ⟨g, 1, none⟩ = some b ∧ w.frozen? ⟨g, 0, none⟩ = false ∧ w.frozen? ⟨g, 1, none⟩ = false := by
  refine ⟨?_, ?_, frozen_of_row w g 0 _ _ hg, frozen_of_row w g 1 _ _ hg⟩
  · rw [cell_of_row w g 0 _ _ (0, 0) hg]; rfl
  · rw [cell_of_row w g 1 _ _ (0, 0) hg]; rfl

theorem Row.set {w : World} {g q j : Nat} {bs : List UInt8} (h : Row w g bs) (v : Value) (hne : g ≠ q) : Row (w.setCell ⟨q, j, none⟩ v) g bs := h.of_block (heap_setCell_other w ⟨q, j, none⟩ g v hne)
theorem bset {B : Nat} {a w : World} {q j : Nat} (h : Below B a w) (v : Value) (hq : B ≤ q) : Below B a (w.setCell ⟨q, j, none⟩ v) := h.setCell (p := ⟨q, j, none⟩) hq v

theorem block_set {w : World} {g q j : Nat} {v : Value} {o : Option Obj} (h : w.heap[g]? = o) (hne : g ≠ q) : (w.setCell ⟨q, j, none⟩ v).heap[g]? = o := (heap_setCell_other w ⟨q, j, none⟩ g v hne).trans h
/-- A block of three cells, all of them written. -/
theorem set3 {w : World} {g : Nat} {a b c : Value} {T : TypeId} (x y z : Value) (hg : w.heap[g]? = some (.cells #[a, b, c] T (0, 0))) :
    (((w.setCell ⟨g, 0, none⟩ x).setCell ⟨g, 1, none⟩ y).setCell ⟨g, 2, none⟩ z).heap[g]? = some (.cells #[x, y, z] T (0, 0)) := by
  rw [heap_setCell_same _ g 2 _ _ _ (heap_setCell_same _ g 1 _ _ _ (heap_setCell_same w g 0 _ _ _ hg))]
  simp
/-- A block of two cells, both of them written. -/
theorem set2 {w : World} {g : Nat} {a b : Value} {T : TypeId} (x y : Value) (hg : w.heap[g]? = some (.cells #[a, b] T (0, 0))) :
    ((w.setCell ⟨g, 0, none⟩ x).setCell ⟨g, 1, none⟩ y).heap[g]? = some (.cells #[x, y] T (0, 0)) := by
  rw [heap_setCell_same _ g 1 _ _ _ (heap_setCell_same w g 0 _ _ _ hg)]
  simp
/-- The results: a variable of several cells, and a number or the like. -/
theorem results_row_tmp {P : Program} {fn : Func} {p u : Tmp} {ty : TypeId} (h : fn.results = #[.cell p ty, .tmp u]) (tmps : Array Value) (w : World) (g : Nat) (t : TypeId) (cs : Array Value) (fr : Nat × Nat) (d : TypeDesc)
    (hp : tmps.getD p undef = .pointer (some ⟨g, 0, none⟩)) (hg : w.heap[g]? = some (.cells cs t fr))
    (hu : P.underlying ty = some d) (hd : (match d with | .struct _ | .array _ _ => true | _ => false) = true) (hi : (P.info? ty).map (·.size) = some cs.size) :
    (results fn tmps).run P w = .ok (.tuple #[.agg cs, tmps.getD u undef]) w := by
  rw [results_cell_tmp h]
  simp only [hp, asAddr, Sem.run_pure, Result.andThen_ok, run_loadVar_row w g t ty cs fr d hg hu hd hi]

theorem Own.reads_drop {w : World} {q c L : Nat} {bs : List UInt8} (h : Own w q c bs) (hn : bs.length = L) (k : Nat) (hk : k ≤ L) : Reads w (some ⟨q, k, none⟩) (L - k) (bs.drop k) := by
  refine ⟨by simp; omega, .inr ⟨q, k, rfl, fun j hj => ?_⟩⟩
  have := h.row.cell (k + j) (by omega)
  rw [this]; simp [List.getD]
/-- What append leaves of a slice of the call's own: where it lies. -/
theorem own_app {w1 : World} {B q n m c N : Nat} {bs xs : List UInt8} {v1 : Value} (hown : w1.ownsRow B 5 1 v1 (n + m) (bs.map cb ++ xs.map cb)) (hnil : ¬ v1 = .slice none 0 0) (hat : v1.ownBlock = (Value.slice (some ⟨q, 0, none⟩) n c).ownBlock ∨ v1.ownBlock = some N) :
    ∃ q' c', v1 = .slice (some ⟨q', 0, none⟩) (n + m) c' ∧ B ≤ q' ∧ Own w1 q' c' (bs ++ xs) ∧ (q' = q ∨ q' = N) := by
  rw [← List.map_append] at hown
  obtain ⟨g, c', hv, hg, hO⟩ := own_row hown hnil
  subst hv
  exact ⟨g, c', rfl, hg, hO, by simpa [Value.ownBlock] using hat⟩

theorem run_app (w : World) (ty : TypeId) (base q n c : Nat) (xs ys : List UInt8) (hown : Own w q c xs) (hxl : xs.length = n) (hbq : base ≤ q) (hbw : base ≤ w.heap.size) (ad : Addr) (m cc : Nat) (hl : ys.length = m) (hnews : ∀ j u, (ys.map cb)[j]? = some u → w.cell? (ad.add j) = some u) (hlim : n + m ≤ 2147483648) :
    ∃ g cap w', (Builtin.append_ #[60, 60] ty #[.slice (some ⟨q, 0, none⟩) n c, .slice (some ad) m cc]).run Tryz.prog w = .ok (.slice (some ⟨g, 0, none⟩) (n + m) cap) w' ∧ Own w' g cap (xs ++ ys) ∧ w.grownBy w' (some q) ∧ (g = q ∨ g = w.heap.size) ∧ base ≤ g := by
  obtain ⟨i0, hi, hz0, hz1, hz2⟩ := info_parts info8
  obtain ⟨v', w', hr, h2, h3, h4, h5⟩ := run_append_own_at (P := Tryz.prog) w base 60 ty 5 i0 (.int .u8 0) 1 1 Tryz.underlying60 hi hz0 hz1 hz2 rfl (by decide) (.slice (some ⟨q, 0, none⟩) n c) n (xs.map cb) (hown.owns hxl hbq) ad m cc (ys.map cb) (by simpa using hl) hnews (one_cb ys) (by unfold maxLen; omega) (by omega) hbw
  obtain ⟨g, c', hv, hg, hO, hw⟩ := own_app h2 (fun h => by simp [h4] at h) h5
  subst hv
  exact ⟨g, c', w', hr, hO, h3, hw, hg⟩

theorem wp_app {w : World} {o : Oper} {a : Act} {K : Act → World → Prop} {Q : Exit → Act → World → Prop} (s x : Operand)
    (ho : o.op = .call { callee := .builtin .append, args := #[s, x], argTypes := #[60, 60] })
    (base q n c : Nat) (xs ys : List UInt8) (hs : a.eval s = .slice (some ⟨q, 0, none⟩) n c) (hown : Own w q c xs) (hxl : xs.length = n) (hbq : base ≤ q) (hbw : base ≤ w.heap.size) (ad : Addr) (m cc : Nat) (hx : a.eval x = .slice (some ad) m cc) (hl : ys.length = m) (hnews : ∀ j u, (ys.map cb)[j]? = some u → w.cell? (ad.add j) = some u) (hlim : n + m ≤ 2147483648)
    (h : ∀ g cap w', Own w' g cap (xs ++ ys) → w.grownBy w' (some q) → (g = q ∨ g = w.heap.size) → base ≤ g → K (a.put o.dst (.slice (some ⟨g, 0, none⟩) (n + m) cap)) w') : o.wp Tryz.prog a w K Q := by
  obtain ⟨g, cap, w', hr, h1, h2, h3, h4⟩ := run_app w o.type base q n c xs ys hown hxl hbq hbw ad m cc hl hnews hlim
  unfold Oper.wp execOp
  simp only [ho, resolve, invoke, builtin, Sem.run_bind, Sem.run_pure, Result.andThen_ok, List.map_toArray, List.map_cons, List.map_nil, hs, hx, hr]
  exact h g cap w' h1 h2 h3 h4
theorem wpList_app {w : World} {ops : Array Oper} {rest : List Oper} {o : Oper} {a : Act} {Q : Exit → Act → World → Prop} (hgd : o.guard = none) (s x : Operand)
    (ho : o.op = .call { callee := .builtin .append, args := #[s, x], argTypes := #[60, 60] })
    (base q n c : Nat) (xs ys : List UInt8) (hs : a.eval s = .slice (some ⟨q, 0, none⟩) n c) (hown : Own w q c xs) (hxl : xs.length = n) (hbq : base ≤ q) (hbw : base ≤ w.heap.size) (ad : Addr) (m cc : Nat) (hx : a.eval x = .slice (some ad) m cc) (hl : ys.length = m) (hnews : ∀ j u, (ys.map cb)[j]? = some u → w.cell? (ad.add j) = some u) (hlim : n + m ≤ 2147483648)
    (h : ∀ g cap w', Own w' g cap (xs ++ ys) → w.grownBy w' (some q) → (g = q ∨ g = w.heap.size) → base ≤ g → wpList Tryz.prog ops Q rest (a.put o.dst (.slice (some ⟨g, 0, none⟩) (n + m) cap)) w') : wpList Tryz.prog ops Q (o :: rest) a w :=
  wpList_plain hgd fun _ hK => wp_app s x ho base q n c xs ys hs hown hxl hbq hbw ad m cc hx hl hnews hlim fun g cap w' h1 h2 h3 h4 => hK _ _ (h g cap w' h1 h2 h3 h4)
theorem step_app {w : World} {ops : Array Oper} {o : Oper} {a : Act} {K : Act → World → Prop} {Q : Exit → Act → World → Prop} {E : Prop} (hgd : o.guard = none) (s x : Operand)
    (ho : o.op = .call { callee := .builtin .append, args := #[s, x], argTypes := #[60, 60] })
    (base q n c : Nat) (xs ys : List UInt8) (hs : a.eval s = .slice (some ⟨q, 0, none⟩) n c) (hown : Own w q c xs) (hxl : xs.length = n) (hbq : base ≤ q) (hbw : base ≤ w.heap.size) (ad : Addr) (m cc : Nat) (hx : a.eval x = .slice (some ad) m cc) (hl : ys.length = m) (hnews : ∀ j u, (ys.map cb)[j]? = some u → w.cell? (ad.add j) = some u) (hlim : n + m ≤ 2147483648)
    (h : ∀ g cap w', Own w' g cap (xs ++ ys) → w.grownBy w' (some q) → (g = q ∨ g = w.heap.size) → base ≤ g → K (a.put o.dst (.slice (some ⟨g, 0, none⟩) (n + m) cap)) w') :
    if Region.wanted o (yielded ops a.tmps) = true then Oper.wp Tryz.prog o a w K Q else E := by
  have hw : Region.wanted o (yielded ops a.tmps) = true := by simp [Region.wanted, hgd]
  rw [if_pos hw]
  exact wp_app s x ho base q n c xs ys hs hown hxl hbq hbw ad m cc hx hl hnews hlim h

/-- append of a nil slice. -/
theorem run_app_nil (w : World) (ty : TypeId) (b : Addr) (n c : Nat) (h : n ≤ c) : (Builtin.append_ #[60, 60] ty #[.slice (some b) n c, .slice none 0 0]).run Tryz.prog w = .ok (.slice (some b) n c) w := by
  obtain ⟨i0, hi, hz0, hz1, hz2⟩ := info_parts info8
  simp [Builtin.append_, run_underlying Tryz.underlying60, sizeOf, typeInfo, hi, Builtin.lenOf, Builtin.firstCells, loadCells, h, storeCells]
theorem wp_app_nil {w : World} {o : Oper} {a : Act} {K : Act → World → Prop} {Q : Exit → Act → World → Prop} (s x : Operand)
    (ho : o.op = .call { callee := .builtin .append, args := #[s, x], argTypes := #[60, 60] })
    (b : Addr) (n c : Nat) (hs : a.eval s = .slice (some b) n c) (hx : a.eval x = .slice none 0 0) (hnc : n ≤ c)
    (h : K (a.put o.dst (.slice (some b) n c)) w) : o.wp Tryz.prog a w K Q := by
  have hr := run_app_nil w o.type b n c hnc
  unfold Oper.wp execOp
  simp only [ho, resolve, invoke, builtin, Sem.run_bind, Sem.run_pure, Result.andThen_ok, List.map_toArray, List.map_cons, List.map_nil, hs, hx, hr]
  exact h
theorem wpList_app_nil {w : World} {ops : Array Oper} {rest : List Oper} {o : Oper} {a : Act} {Q : Exit → Act → World → Prop} (hgd : o.guard = none) (s x : Operand)
    (ho : o.op = .call { callee := .builtin .append, args := #[s, x], argTypes := #[60, 60] })
    (b : Addr) (n c : Nat) (hs : a.eval s = .slice (some b) n c) (hx : a.eval x = .slice none 0 0) (hnc : n ≤ c)
    (h : wpList Tryz.prog ops Q rest (a.put o.dst (.slice (some b) n c)) w) : wpList Tryz.prog ops Q (o :: rest) a w :=
  wpList_plain hgd fun _ hK => wp_app_nil s x ho b n c hs hx hnc (hK _ _ h)
theorem step_app_nil {w : World} {ops : Array Oper} {o : Oper} {a : Act} {K : Act → World → Prop} {Q : Exit → Act → World → Prop} {E : Prop} (hgd : o.guard = none) (s x : Operand)
    (ho : o.op = .call { callee := .builtin .append, args := #[s, x], argTypes := #[60, 60] })
    (b : Addr) (n c : Nat) (hs : a.eval s = .slice (some b) n c) (hx : a.eval x = .slice none 0 0) (hnc : n ≤ c)
    (h : K (a.put o.dst (.slice (some b) n c)) w) :
    if Region.wanted o (yielded ops a.tmps) = true then Oper.wp Tryz.prog o a w K Q else E := by
  have hw : Region.wanted o (yielded ops a.tmps) = true := by simp [Region.wanted, hgd]
  rw [if_pos hw]
  exact wp_app_nil s x ho b n c hs hx hnc h

theorem own_emp (w : World) : Own (w.alloc (.cells #[] 5)) w.heap.size 0 [] := ⟨#[], heap_alloc_new w _, by simp, Nat.zero_le _, rfl, by simp⟩
theorem emp1 (X : World) (q : Nat) (hq : q = X.heap.size) : Own ((X.alloc (.cells #[] 5)).drew) q 0 [] := by subst hq; exact (own_emp X).of_block rfl
theorem emp2 (X : World) (o : Obj) (q : Nat) (hq : q = X.heap.size) : Own (((X.alloc (.cells #[] 5)).alloc o).drew) q 0 [] := by subst hq; exact ((own_emp X).below (below_lit _ o)).of_block rfl
theorem grown_cell {w w' : World} {q : Nat} {a : Addr} {v : Value} (h : w.grownBy w' (some q)) (hc : w.cell? a = some v) (hne : a.block ≠ q) : w'.cell? a = some v := by
  rw [h.cell_far a (World.block_lt_of_cell? w _ hc) (by simpa using hne)]; exact hc
theorem cell_set {w : World} {q j : Nat} {v x : Value} {a : Addr} (h : w.cell? a = some x) (hne : a.block ≠ q) : (w.setCell ⟨q, j, none⟩ v).cell? a = some x := by
  rw [World.cell?_of_block (w := w) (a := a) (heap_setCell_other w ⟨q, j, none⟩ a.block v hne)]; exact h
theorem cell_set3 {w : World} {q : Nat} {v0 v1 v2 x : Value} {a : Addr} (h : w.cell? a = some x) (hne : a.block ≠ q) : (((w.setCell ⟨q, 0, none⟩ v0).setCell ⟨q, 1, none⟩ v1).setCell ⟨q, 2, none⟩ v2).cell? a = some x := cell_set (cell_set (cell_set h hne) hne) hne
theorem grown_free {w w' : World} {q : Nat} {a : Addr} {v : Value} (h : w.grownBy w' (some q)) (hc : w.cell? a = some v) (hf : w.frozen? a = false) (hne : a.block ≠ q) : w'.frozen? a = false := by
  rw [h.frozen_far a (World.block_lt_of_cell? w _ hc) (by simpa using hne)]; exact hf
theorem grown_block {w w' : World} {q k : Nat} {o : Obj} (h : w.grownBy w' (some q)) (hc : w.heap[k]? = some o) (hne : k ≠ q) : w'.heap[k]? = some o := by
  rw [h.block k (Array.getElem?_eq_some_iff.1 hc).1 (by simpa using hne)]; exact hc

/-- A slice of bytes of new memory, or nil where there is none. -/
def OwnO (w : World) (B : Nat) (ao : Option Addr) (c : Nat) (bs : List UInt8) : Prop :=
  (ao = none ∧ c = 0 ∧ bs = []) ∨ ∃ q, ao = some ⟨q, 0, none⟩ ∧ B ≤ q ∧ Own w q c bs
theorem ownO_of {w : World} {B n : Nat} {v : Value} {bs : List UInt8} (h : w.ownsRow B 5 1 v n (bs.map cb)) : ∃ ao c, v = .slice ao n c ∧ OwnO w B ao c bs := by
  by_cases hv : v = .slice none 0 0
  · subst hv
    have hn : n = 0 := by
      rcases h.2 with ⟨_, h0⟩ | ⟨g, cap, cur, h', _⟩
      · exact h0
      · cases h'
    have hl : bs.length = n := by simpa using h.1
    subst hn
    exact ⟨none, 0, rfl, .inl ⟨rfl, rfl, List.eq_nil_of_length_eq_zero hl⟩⟩
  · obtain ⟨g, c, rfl, hb, hO⟩ := own_row h hv
    exact ⟨_, c, rfl, .inr ⟨g, rfl, hb, hO⟩⟩
theorem OwnO.owns {w : World} {B c n : Nat} {ao : Option Addr} {bs : List UInt8} (h : OwnO w B ao c bs) (hn : bs.length = n) : w.ownsRow B 5 1 (.slice ao n c) n (bs.map cb) := by
  rcases h with ⟨rfl, rfl, rfl⟩ | ⟨q, rfl, hb, hO⟩
  · simp at hn; subst hn; exact World.ownsRow_nil w B _ _
  · exact hO.owns hn hb
theorem OwnO.reads {w : World} {B c n : Nat} {ao : Option Addr} {bs : List UInt8} (h : OwnO w B ao c bs) (hn : bs.length = n) : Reads w ao n bs := by
  rcases h with ⟨rfl, rfl, rfl⟩ | ⟨q, rfl, hb, hO⟩
  · exact ⟨hn, .inl (by simpa using hn.symm)⟩
  · exact hO.row.reads hn
theorem OwnO.below {w w' : World} {B c : Nat} {ao : Option Addr} {bs : List UInt8} (h : OwnO w B ao c bs) (hb : Below w.heap.size w w') : OwnO w' B ao c bs := by
  rcases h with h | ⟨q, rfl, h1, hO⟩
  · exact .inl h
  · exact .inr ⟨q, rfl, h1, hO.below hb⟩
theorem OwnO.mono {w : World} {B B' c : Nat} {ao : Option Addr} {bs : List UInt8} (h : OwnO w B ao c bs) (hb : B' ≤ B) : OwnO w B' ao c bs := by
  rcases h with h | ⟨q, rfl, h1, hO⟩
  · exact .inl h
  · exact .inr ⟨q, rfl, by omega, hO⟩

theorem reads_none {w : World} {m : Nat} {ys : List UInt8} (h : Reads w none m ys) : m = 0 ∧ ys = [] := by
  have h0 : m = 0 := by
    rcases h.2 with h0 | ⟨b, off, e, _⟩
    · exact h0
    · cases e
  subst h0
  exact ⟨rfl, List.eq_nil_of_length_eq_zero h.1⟩
theorem reads_news {w : World} {a : Addr} {m : Nat} {ys : List UInt8} (h : Reads w (some a) m ys) : ∀ j u, (ys.map cb)[j]? = some u → w.cell? (a.add j) = some u := by
  rcases h.2 with h0 | ⟨b, off, e, hc⟩
  · intro j u hu
    have : ys = [] := List.eq_nil_of_length_eq_zero (h.1.trans h0)
    subst this; cases hu
  · cases e; exact map_cb_cell h.1 hc

/-- append of whatever slice onto one of the call's own, nil ones too. -/
theorem run_app_o (w : World) (ty : TypeId) (base n : Nat) (v : Value) (xs ys : List UInt8) (hown : w.ownsRow base 5 1 v n (xs.map cb)) (hbw : base ≤ w.heap.size) (ao : Option Addr) (m cc : Nat) (hr : Reads w ao m ys) (hlim : n + m ≤ 2147483648) :
    ∃ v' w', (Builtin.append_ #[60, 60] ty #[v, .slice ao m cc]).run Tryz.prog w = .ok v' w' ∧ w'.ownsRow base 5 1 v' (n + m) ((xs ++ ys).map cb) ∧ w.grownBy w' v.ownBlock := by
  obtain ⟨i0, hi, hz0, hz1, hz2⟩ := info_parts info8
  cases ao with
  | some a =>
    obtain ⟨v', w', h1, h2, h3, _, _⟩ := run_append_own_at (P := Tryz.prog) w base 60 ty 5 i0 (.int .u8 0) 1 1 Tryz.underlying60 hi hz0 hz1 hz2 rfl (by decide) v n (xs.map cb) hown a m cc (ys.map cb) (by simpa using hr.1) (reads_news hr) (one_cb ys) (by unfold maxLen; omega) (by omega) hbw
    exact ⟨v', w', h1, by rw [List.map_append]; exact h2, h3⟩
  | none =>
    obtain ⟨rfl, rfl⟩ := reads_none hr
    refine ⟨v, w, ?_, by simpa using hown, ⟨rfl, rfl, rfl, Nat.le_refl _, fun _ _ _ => rfl⟩⟩
    rcases hown.2 with ⟨rfl, rfl⟩ | ⟨g, cap, cur, rfl, hbg, hg, hnc, hcm, hcs, htake⟩
    · simp [Builtin.append_, run_underlying Tryz.underlying60, sizeOf, typeInfo, hi, Builtin.lenOf, Builtin.firstCells]
    · simp [Builtin.append_, run_underlying Tryz.underlying60, sizeOf, typeInfo, hi, Builtin.lenOf, Builtin.firstCells, loadCells, hnc, storeCells]
theorem wpList_app_o {w : World} {ops : Array Oper} {rest : List Oper} {o : Oper} {a : Act} {Q : Exit → Act → World → Prop} (hgd : o.guard = none) (s x : Operand)
    (ho : o.op = .call { callee := .builtin .append, args := #[s, x], argTypes := #[60, 60] })
    (base n : Nat) (v : Value) (xs ys : List UInt8) (hs : a.eval s = v) (hown : w.ownsRow base 5 1 v n (xs.map cb)) (hbw : base ≤ w.heap.size) (ao : Option Addr) (m cc : Nat) (hx : a.eval x = .slice ao m cc) (hr : Reads w ao m ys) (hlim : n + m ≤ 2147483648)
    (h : ∀ v' w', w'.ownsRow base 5 1 v' (n + m) ((xs ++ ys).map cb) → w.grownBy w' v.ownBlock → wpList Tryz.prog ops Q rest (a.put o.dst v') w') : wpList Tryz.prog ops Q (o :: rest) a w := by
  refine wpList_plain hgd fun _ hK => ?_
  obtain ⟨v', w', hrun, h1, h2⟩ := run_app_o w o.type base n v xs ys hown hbw ao m cc hr hlim
  unfold Oper.wp execOp
  simp only [ho, resolve, invoke, builtin, Sem.run_bind, Sem.run_pure, Result.andThen_ok, List.map_toArray, List.map_cons, List.map_nil, hs, hx, hrun]
  exact hK _ _ (h v' w' h1 h2)

/-- A slice that is nil, or the row of block g. -/
def RowO (w : World) (ao : Option Addr) (g : Nat) (bs : List UInt8) : Prop := (ao = none ∧ bs = []) ∨ (ao = some ⟨g, 0, none⟩ ∧ Row w g bs)
theorem RowO.reads {w : World} {ao : Option Addr} {g n : Nat} {bs : List UInt8} (h : RowO w ao g bs) (hn : bs.length = n) : Reads w ao n bs := by
  rcases h with ⟨rfl, rfl⟩ | ⟨rfl, hR⟩
  · exact ⟨hn, .inl (by simpa using hn.symm)⟩
  · exact hR.reads hn
theorem RowO.below {w w' : World} {ao : Option Addr} {g : Nat} {bs : List UInt8} (h : RowO w ao g bs) (hB : Below w.heap.size w w') : RowO w' ao g bs := by
  rcases h with h | ⟨h, hR⟩
  · exact .inl h
  · exact .inr ⟨h, hR.below hB⟩
theorem RowO.grown {w w' : World} {ao : Option Addr} {g k : Nat} {bs : List UInt8} (h : RowO w ao g bs) (hG : w.grownBy w' (some k)) (hg : g ≠ k) : RowO w' ao g bs := by
  rcases h with h | ⟨h, hR⟩
  · exact .inl h
  · exact .inr ⟨h, hR.grown hG hg⟩

end Go.Proofs.YtlididoalekeoaaGreatDoor
