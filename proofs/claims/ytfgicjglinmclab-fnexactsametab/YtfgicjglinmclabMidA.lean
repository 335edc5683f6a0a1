/- A struct as a whole, out of a box and into one: what the walk's laws want, off the box's cells. -/
import Derived.Test.YtfgicjglinmclabDeep
import Derived.Deep.MidRow
namespace Go.Proofs.Ytfgicjglinmclab
set_option maxRecDepth 4000
open Go.RowKit

def putAt (cur : Array Value) : Nat → List Value → Array Value
  | _, [] => cur
  | o, v :: r => putAt (cur.setIfInBounds o v) (o + 1) r
theorem setCells_at {g : Nat} {T : TypeId} : ∀ (vs : List Value) (o : Nat) {w : World} {cur cur' : Array Value}, w.heap[g]? = some (.cells cur T (0, 0)) → putAt cur o vs = cur' → (w.setCells g o vs).heap[g]? = some (.cells cur' T (0, 0))
  | [], _, _, _, _, h, e => by rw [← e]; exact h
  | v :: r, o, w, cur, _, h, e => setCells_at r (o + 1) (w := w.setCell ⟨g, o, none⟩ v) (setA h o v rfl) e
theorem putAt_lay : ∀ (vs : List Value) (o : Nat) (cur : Array Value), o + vs.length ≤ cur.size → putAt cur o vs = (cur.toList.take o ++ (vs ++ cur.toList.drop (o + vs.length))).toArray
  | [], o, cur, _ => by simp [putAt]
  | v :: r, o, cur, h => by
    have h' : o + 1 + r.length ≤ cur.size := by simp at h; omega
    have hi : o < cur.toList.length := by rw [Array.length_toList]; omega
    unfold putAt
    rw [putAt_lay r (o + 1) _ (by simpa using h')]
    congr 1
    rw [Array.toList_setIfInBounds, List.take_add_one, List.getElem?_set_self hi, List.take_set_of_le (Nat.le_refl _), List.drop_set_of_lt (by omega)]
    simp only [List.length_cons, Option.toList_some, List.append_assoc, List.cons_append, List.nil_append]
    rw [show o + 1 + r.length = o + (r.length + 1) by omega]
/-- The same, off the lists: cheap to reckon. -/
theorem setCells_lay {g : Nat} {T : TypeId} {w : World} {cur : Array Value} (h : w.heap[g]? = some (.cells cur T (0, 0))) (vs : List Value) (o : Nat) {l' : List Value} (ho : o + vs.length ≤ cur.size) (e : cur.toList.take o ++ (vs ++ cur.toList.drop (o + vs.length)) = l') : (w.setCells g o vs).heap[g]? = some (.cells l'.toArray T (0, 0)) :=
  setCells_at vs o h ((putAt_lay vs o cur ho).trans (by rw [e]))
theorem setL {w : World} {g : Nat} {cur : Array Value} {T : TypeId} (h : w.heap[g]? = some (.cells cur T (0, 0))) (i : Nat) (v : Value) {l' : List Value} (e : cur.toList.set i v = l') : (w.setCell ⟨g, i, none⟩ v).heap[g]? = some (.cells l'.toArray T (0, 0)) :=
  setA h i v (by rw [← e, ← Array.toList_setIfInBounds])
theorem setCells_other {g k : Nat} (hne : k ≠ g) : ∀ (vs : List Value) (o : Nat) (w : World), (w.setCells g o vs).heap[k]? = w.heap[k]?
  | [], _, _ => rfl
  | v :: r, o, w => (setCells_other hne r (o + 1) (w.setCell ⟨g, o, none⟩ v)).trans (heap_setCell_other w ⟨g, o, none⟩ k v hne)
theorem setCells_size (g : Nat) : ∀ (vs : List Value) (o : Nat) (w : World), (w.setCells g o vs).heap.size = w.heap.size
  | [], _, _ => rfl
  | v :: r, o, w => (setCells_size g r (o + 1) (w.setCell ⟨g, o, none⟩ v)).trans (World.size_setCell _ _ _)
theorem bsetN {B g : Nat} {a : World} (hg : B ≤ g) : ∀ (vs : List Value) (o : Nat) {w : World}, Below B a w → Below B a (w.setCells g o vs)
  | [], _, _, h => h
  | v :: r, o, _, h => bsetN hg r (o + 1) (bset h v hg)
theorem block_setN {w : World} {g k : Nat} {o : Option Obj} (h : w.heap[k]? = o) (vs : List Value) (i : Nat) (hne : k ≠ g) : (w.setCells g i vs).heap[k]? = o := (setCells_other hne vs i w).trans h
theorem thereA {w : World} {g : Nat} {cur : Array Value} {T : TypeId} (h : w.heap[g]? = some (.cells cur T (0, 0))) (o n : Nat) (hn : o + n ≤ cur.size) : w.there g o n := fun j hj => by
  refine ⟨?_, freeA h (o + j)⟩
  have hlt : o + j < cur.size := by omega
  rw [cellsA h (o + j) (Array.getElem?_eq_getElem hlt)]; rfl
theorem rangeA {w : World} {g : Nat} {cs : List Value} {T : TypeId} (h : w.heap[g]? = some (.cells cs.toArray T (0, 0))) : w.rangeAt g 0 cs := fun j v hv => by
  rw [Nat.zero_add]; exact cellsA h j (by simpa using hv)
theorem rangeM {w : World} {g o : Nat} {cur : Array Value} {cs : List Value} {T : TypeId} (h : w.heap[g]? = some (.cells cur T (0, 0))) (hc : ∀ j v, cs[j]? = some v → cur[o + j]? = some v) : w.rangeAt g o cs := fun j v hv => cellsA h (o + j) (hc j v hv)
/-- A struct's store, the world behind it a letter. -/
theorem wpList_store_to {P : Program} {ops : Array Oper} {rest : List Oper} {op : Oper} {a : Act} {w W' : World} {Q : Exit → Act → World → Prop} (ty : TypeId) (x y : Operand) (hgd : op.guard = none) (ho : op.op = .store ty x y)
    (b o : Nat) (cells : Array Value) (hx : a.eval x = .pointer (some ⟨b, o, none⟩)) (hy : a.eval y = .agg cells)
    (ht : w.there b o cells.size) (hi : (P.info? ty).map (·.size) = some cells.size) (h1 : cells.all (·.oneCell') = true) (hW : w.setCells b o cells.toList = W')
    (h : wpList P ops Q rest (a.put op.dst undef) W') : wpList P ops Q (op :: rest) a w := by
  subst hW
  exact wpList_store_mid hgd ty x y ho b o cells hx hy ht hi h1 h
theorem wpList_load_to {P : Program} {ops : Array Oper} {rest : List Oper} {op : Oper} {a : Act} {w : World} {Q : Exit → Act → World → Prop} (ty : TypeId) (x : Operand) (hgd : op.guard = none) (ho : op.op = .load ty x)
    (b o : Nat) (hx : a.eval x = .pointer (some ⟨b, o, none⟩)) (cs : List Value) {d : TypeDesc} (hc : w.rangeAt b o cs)
    (hu : P.underlying ty = some d) (hd : d.isRow = true) (hi : (P.info? ty).map (·.size) = some cs.length)
    (h : wpList P ops Q rest (a.put op.dst (.agg cs.toArray)) w) : wpList P ops Q (op :: rest) a w := wpList_load_mid hgd ty x ho b o hx cs d hc hu hd hi h
theorem chg_setN {g : Nat} {F : Fp} {a : World} (hg : F g) : ∀ (vs : List Value) (o : Nat) {w : World}, Chg a w F → Chg a (w.setCells g o vs) F
  | [], _, _, h => h
  | v :: r, o, _, h => chg_setN hg r (o + 1) (h.setCell hg v)

end Go.Proofs.Ytfgicjglinmclab
