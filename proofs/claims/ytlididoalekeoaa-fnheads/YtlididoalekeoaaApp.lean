/- append onto a slice of bytes of the call's own: where it lies, in a plain region and at a step of one that draws its order. -/
import Derived.Test.YtlididoalekeoaaBlocks
import Derived.Deep.AppendLies
import Derived.Deep.RegionHeldLaw
namespace Go.Proofs.Ytlididoalekeoaa
set_option maxRecDepth 4000
open Go.RowKit

theorem run_app (w : World) (ty : TypeId) (base q n c : Nat) (xs ys : List UInt8) (hown : Own w q c xs) (hxl : xs.length = n) (hbq : base ≤ q) (hbw : base ≤ w.heap.size) (ad : Addr) (m cc : Nat) (hl : ys.length = m) (hnews : ∀ j u, (ys.map cb)[j]? = some u → w.cell? (ad.add j) = some u) (hlim : n + m ≤ 2147483648) :
    ∃ g cap w', (Builtin.append_ #[22, 22] ty #[.slice (some ⟨q, 0, none⟩) n c, .slice (some ad) m cc]).run Try.prog w = .ok (.slice (some ⟨g, 0, none⟩) (n + m) cap) w' ∧ Own w' g cap (xs ++ ys) ∧ w.grownBy w' (some q) ∧ (g = q ∨ g = w.heap.size) ∧ base ≤ g := by
  obtain ⟨i0, hi, hz0, hz1, hz2⟩ := info_parts info8
  obtain ⟨v', w', hr, h2, h3, h4, h5⟩ := run_append_own_at (P := Try.prog) w base 22 ty 5 i0 (.int .u8 0) 1 1 Try.underlying22 hi hz0 hz1 hz2 rfl (by decide) (.slice (some ⟨q, 0, none⟩) n c) n (xs.map cb) (hown.owns hxl hbq) ad m cc (ys.map cb) (by simpa using hl) hnews (one_cb ys) (by unfold maxLen; omega) (by omega) hbw
  obtain ⟨g, c', hv, hg, hO, hw⟩ := own_app h2 (fun h => by simp [h4] at h) h5
  subst hv
  exact ⟨g, c', w', hr, hO, h3, hw, hg⟩

theorem wp_app {w : World} {o : Oper} {a : Act} {K : Act → World → Prop} {Q : Exit → Act → World → Prop} (s x : Operand)
    (ho : o.op = .call { callee := .builtin .append, args := #[s, x], argTypes := #[22, 22] })
    (base q n c : Nat) (xs ys : List UInt8) (hs : a.eval s = .slice (some ⟨q, 0, none⟩) n c) (hown : Own w q c xs) (hxl : xs.length = n) (hbq : base ≤ q) (hbw : base ≤ w.heap.size) (ad : Addr) (m cc : Nat) (hx : a.eval x = .slice (some ad) m cc) (hl : ys.length = m) (hnews : ∀ j u, (ys.map cb)[j]? = some u → w.cell? (ad.add j) = some u) (hlim : n + m ≤ 2147483648)
    (h : ∀ g cap w', Own w' g cap (xs ++ ys) → w.grownBy w' (some q) → (g = q ∨ g = w.heap.size) → base ≤ g → K (a.put o.dst (.slice (some ⟨g, 0, none⟩) (n + m) cap)) w') : o.wp Try.prog a w K Q := by
  obtain ⟨g, cap, w', hr, h1, h2, h3, h4⟩ := run_app w o.type base q n c xs ys hown hxl hbq hbw ad m cc hl hnews hlim
  unfold Oper.wp execOp
  simp only [ho, resolve, invoke, builtin, Sem.run_bind, Sem.run_pure, Result.andThen_ok, List.map_toArray, List.map_cons, List.map_nil, hs, hx, hr]
  exact h g cap w' h1 h2 h3 h4
theorem wpList_app {w : World} {ops : Array Oper} {rest : List Oper} {o : Oper} {a : Act} {Q : Exit → Act → World → Prop} (hgd : o.guard = none) (s x : Operand)
    (ho : o.op = .call { callee := .builtin .append, args := #[s, x], argTypes := #[22, 22] })
    (base q n c : Nat) (xs ys : List UInt8) (hs : a.eval s = .slice (some ⟨q, 0, none⟩) n c) (hown : Own w q c xs) (hxl : xs.length = n) (hbq : base ≤ q) (hbw : base ≤ w.heap.size) (ad : Addr) (m cc : Nat) (hx : a.eval x = .slice (some ad) m cc) (hl : ys.length = m) (hnews : ∀ j u, (ys.map cb)[j]? = some u → w.cell? (ad.add j) = some u) (hlim : n + m ≤ 2147483648)
    (h : ∀ g cap w', Own w' g cap (xs ++ ys) → w.grownBy w' (some q) → (g = q ∨ g = w.heap.size) → base ≤ g → wpList Try.prog ops Q rest (a.put o.dst (.slice (some ⟨g, 0, none⟩) (n + m) cap)) w') : wpList Try.prog ops Q (o :: rest) a w :=
  wpList_plain hgd fun _ hK => wp_app s x ho base q n c xs ys hs hown hxl hbq hbw ad m cc hx hl hnews hlim fun g cap w' h1 h2 h3 h4 => hK _ _ (h g cap w' h1 h2 h3 h4)
theorem step_app {w : World} {ops : Array Oper} {o : Oper} {a : Act} {K : Act → World → Prop} {Q : Exit → Act → World → Prop} {E : Prop} (hgd : o.guard = none) (s x : Operand)
    (ho : o.op = .call { callee := .builtin .append, args := #[s, x], argTypes := #[22, 22] })
    (base q n c : Nat) (xs ys : List UInt8) (hs : a.eval s = .slice (some ⟨q, 0, none⟩) n c) (hown : Own w q c xs) (hxl : xs.length = n) (hbq : base ≤ q) (hbw : base ≤ w.heap.size) (ad : Addr) (m cc : Nat) (hx : a.eval x = .slice (some ad) m cc) (hl : ys.length = m) (hnews : ∀ j u, (ys.map cb)[j]? = some u → w.cell? (ad.add j) = some u) (hlim : n + m ≤ 2147483648)
    (h : ∀ g cap w', Own w' g cap (xs ++ ys) → w.grownBy w' (some q) → (g = q ∨ g = w.heap.size) → base ≤ g → K (a.put o.dst (.slice (some ⟨g, 0, none⟩) (n + m) cap)) w') :
    if Region.wanted o (yielded ops a.tmps) = true then Oper.wp Try.prog o a w K Q else E := by
  have hw : Region.wanted o (yielded ops a.tmps) = true := by simp [Region.wanted, hgd]
  rw [if_pos hw]
  exact wp_app s x ho base q n c xs ys hs hown hxl hbq hbw ad m cc hx hl hnews hlim h

/-- append of a nil slice. -/
theorem run_app_nil (w : World) (ty : TypeId) (b : Addr) (n c : Nat) (h : n ≤ c) : (Builtin.append_ #[22, 22] ty #[.slice (some b) n c, .slice none 0 0]).run Try.prog w = .ok (.slice (some b) n c) w := by
  obtain ⟨i0, hi, hz0, hz1, hz2⟩ := info_parts info8
  simp [Builtin.append_, run_underlying Try.underlying22, sizeOf, typeInfo, hi, Builtin.lenOf, Builtin.firstCells, loadCells, h, storeCells]
theorem wp_app_nil {w : World} {o : Oper} {a : Act} {K : Act → World → Prop} {Q : Exit → Act → World → Prop} (s x : Operand)
    (ho : o.op = .call { callee := .builtin .append, args := #[s, x], argTypes := #[22, 22] })
    (b : Addr) (n c : Nat) (hs : a.eval s = .slice (some b) n c) (hx : a.eval x = .slice none 0 0) (hnc : n ≤ c)
    (h : K (a.put o.dst (.slice (some b) n c)) w) : o.wp Try.prog a w K Q := by
  have hr := run_app_nil w o.type b n c hnc
  unfold Oper.wp execOp
  simp only [ho, resolve, invoke, builtin, Sem.run_bind, Sem.run_pure, Result.andThen_ok, List.map_toArray, List.map_cons, List.map_nil, hs, hx, hr]
  exact h
theorem wpList_app_nil {w : World} {ops : Array Oper} {rest : List Oper} {o : Oper} {a : Act} {Q : Exit → Act → World → Prop} (hgd : o.guard = none) (s x : Operand)
    (ho : o.op = .call { callee := .builtin .append, args := #[s, x], argTypes := #[22, 22] })
    (b : Addr) (n c : Nat) (hs : a.eval s = .slice (some b) n c) (hx : a.eval x = .slice none 0 0) (hnc : n ≤ c)
    (h : wpList Try.prog ops Q rest (a.put o.dst (.slice (some b) n c)) w) : wpList Try.prog ops Q (o :: rest) a w :=
  wpList_plain hgd fun _ hK => wp_app_nil s x ho b n c hs hx hnc (hK _ _ h)
theorem step_app_nil {w : World} {ops : Array Oper} {o : Oper} {a : Act} {K : Act → World → Prop} {Q : Exit → Act → World → Prop} {E : Prop} (hgd : o.guard = none) (s x : Operand)
    (ho : o.op = .call { callee := .builtin .append, args := #[s, x], argTypes := #[22, 22] })
    (b : Addr) (n c : Nat) (hs : a.eval s = .slice (some b) n c) (hx : a.eval x = .slice none 0 0) (hnc : n ≤ c)
    (h : K (a.put o.dst (.slice (some b) n c)) w) :
    if Region.wanted o (yielded ops a.tmps) = true then Oper.wp Try.prog o a w K Q else E := by
  have hw : Region.wanted o (yielded ops a.tmps) = true := by simp [Region.wanted, hgd]
  rw [if_pos hw]
  exact wp_app_nil s x ho b n c hs hx hnc h

theorem own_emp (w : World) : Own (w.alloc (.cells #[] 5)) w.heap.size 0 [] := ⟨#[], heap_alloc_new w _, by simp, Nat.zero_le _, rfl, by simp⟩
theorem emp1 (X : World) (q : Nat) (hq : q = X.heap.size) : Own ((X.alloc (.cells #[] 5)).drew) q 0 [] := by subst hq; exact (own_emp X).of_block rfl
theorem emp2 (X : World) (o : Obj) (q : Nat) (hq : q = X.heap.size) : Own (((X.alloc (.cells #[] 5)).alloc o).drew) q 0 [] := by subst hq; exact ((own_emp X).below (below_lit _ o)).of_block rfl
theorem grown_cell {w w' : World} {q : Nat} {a : Addr} {v : Value} (h : w.grownBy w' (some q)) (hc : w.cell? a = some v) (hne : a.block ≠ q) : w'.cell? a = some v := by
  rw [h.cell_far a (World.block_lt_of_cell? w _ hc) (by simpa using hne)]; exact hc
theorem cell_set {w : World} {q j : Nat} {v x : Value} {a : Addr} (h : w.cell? a = some x) (hne : a.block ≠ q) : (w.setCell ⟨q, j, none⟩ v).cell? a = some x := by
  rw [World.cell?_of_block (w := w) (a := a) (heap_setCell_other w ⟨q, j, none⟩ a.block v hne)]; exact h
theorem cell_set3 {w : World} {q : Nat} {v0 v1 v2 x : Value} {a : Addr} (h : w.cell? a = some x) (hne : a.block ≠ q) : (((w.setCell ⟨q, 0, none⟩ v0).setCell ⟨q, 1, none⟩ v1).setCell ⟨q, 2, none⟩ v2).cell? a = some x := cell_set (cell_set (cell_set h hne) hne) hne
theorem grown_free {w w' : World} {q : Nat} {a : Addr} {v : Value} (h : w.grownBy w' (some q)) (hc : w.cell? a = some v) (hf : w.frozen? a = false) (hne : a.block ≠ q) : w'.frozen? a = false := by
  rw [h.frozen_far a (World.block_lt_of_cell? w _ hc) (by simpa using hne)]; exact hf
theorem grown_block {w w' : World} {q k : Nat} {o : Obj} (h : w.grownBy w' (some q)) (hc : w.heap[k]? = some o) (hne : k ≠ q) : w'.heap[k]? = some o := by
  rw [h.block k (Array.getElem?_eq_some_iff.1 hc).1 (by simpa using hne)]; exact hc

end Go.Proofs.Ytlididoalekeoaa
