/- Contracts of what the laws of stage 8 draw. -/
import Derived.Test.YtpafjehphajbhaaGreatDoorDrawL
import Derived.Deep.RegionHeld3
namespace Go.Proofs.YtpafjehphajbhaaGreatDoor
set_option maxRecDepth 4000
open Go.RowKit

/-- A cell; a cell and a number; a number and a text; two cells. -/
structure DrawnCell (w : World) (e : Ending) (w' : World) : Prop where
  out : ∃ (tag : Int) (a : Option Addr) (m c : Nat) (ds : List UInt8), e = .returned (.agg #[.int .i64 tag, .slice a m c]) ∧ m ≤ 81 ∧ CellAt w' a m c ds ∧ Below w.heap.size w w'
structure DrawnCellInt (w : World) (e : Ending) (w' : World) : Prop where
  out : ∃ (tag : Int) (a : Option Addr) (m c : Nat) (ds : List UInt8) (z : Int), e = .returned (.tuple #[.agg #[.int .i64 tag, .slice a m c], .int .i64 z]) ∧ m ≤ 81 ∧ CellAt w' a m c ds ∧ Below w.heap.size w w'
structure DrawnIntText48 (w : World) (e : Ending) (w' : World) : Prop where
  out : ∃ (z : Int) (s : ByteArray), e = .returned (.tuple #[.int .i64 z, .string s]) ∧ s.size ≤ 48 ∧ Below w.heap.size w w'
structure DrawnCells (w : World) (e : Ending) (w' : World) : Prop where
  out : ∃ (t1 : Int) (a1 : Option Addr) (m1 c1 : Nat) (d1 : List UInt8) (t2 : Int) (a2 : Option Addr) (m2 c2 : Nat) (d2 : List UInt8), e = .returned (.tuple #[.agg #[.int .i64 t1, .slice a1 m1 c1], .agg #[.int .i64 t2, .slice a2 m2 c2]]) ∧ m1 ≤ 81 ∧ CellAt w' a1 m1 c1 d1 ∧ m2 ≤ 81 ∧ CellAt w' a2 m2 c2 d2 ∧ Below w.heap.size w w'

theorem results_cells {fn : Func} {p q : Tmp} {ty : TypeId} (h : fn.results = #[.cell p ty, .cell q ty]) (tmps : Array Value) (P : Program) (w : World) :
    (results fn tmps).run P w =
      ((asAddr (tmps.getD p undef)).run P w).andThen fun a w₁ => ((loadVar ty a).run P w₁).andThen fun v w₂ => ((asAddr (tmps.getD q undef)).run P w₂).andThen fun a' w₃ => ((loadVar ty a').run P w₃).andThen fun v' w₄ => .ok (.tuple #[v, v']) w₄ := by
  simp only [results, h]
  simp [Sem.run_bind, Result.andThen]
/-- The results: two variables of several cells. -/
theorem results_rows {P : Program} {fn : Func} {p q : Tmp} {ty : TypeId} (h : fn.results = #[.cell p ty, .cell q ty]) (tmps : Array Value) (w : World) (g1 g2 : Nat) (t : TypeId) (cs1 cs2 : Array Value) (fr : Nat × Nat) (d : TypeDesc)
    (hp : tmps.getD p undef = .pointer (some ⟨g1, 0, none⟩)) (hq : tmps.getD q undef = .pointer (some ⟨g2, 0, none⟩)) (hg1 : w.heap[g1]? = some (.cells cs1 t fr)) (hg2 : w.heap[g2]? = some (.cells cs2 t fr))
    (hu : P.underlying ty = some d) (hd : (match d with | .struct _ | .array _ _ => true | _ => false) = true) (hi1 : (P.info? ty).map (·.size) = some cs1.size) (hi2 : (P.info? ty).map (·.size) = some cs2.size) :
    (results fn tmps).run P w = .ok (.tuple #[.agg cs1, .agg cs2]) w := by
  rw [results_cells h]
  simp only [hp, hq, asAddr, Sem.run_pure, Result.andThen_ok, run_loadVar_row w g1 t ty cs1 fr d hg1 hu hd hi1, run_loadVar_row w g2 t ty cs2 fr d hg2 hu hd hi2]

/-- While two cells are drawn: the cursor and both results' boxes. -/
structure LT (w : World) (ao : Option Addr) (len cap : Nat) (bs : List UInt8) (wi : World) : Prop where
  cur : Cursor wi (w.heap.size + 2) ao len cap bs
  bel : Below w.heap.size w wi
  b1 : wi.heap[w.heap.size]? = some (.cells #[.int .i64 0, .slice none 0 0] 27 (0, 0))
  b2 : wi.heap[w.heap.size + 1]? = some (.cells #[.int .i64 0, .slice none 0 0] 27 (0, 0))
theorem LT.below {w : World} {ao : Option Addr} {len cap : Nat} {bs : List UInt8} {wi wj : World} (h : LT w ao len cap bs wi) (hB : Below wi.heap.size wi wj) : LT w ao len cap bs wj :=
  ⟨h.cur.below hB, Below.next h.bel hB, (hB.block _ (lt_of_block h.b1)).trans h.b1, (hB.block _ (lt_of_block h.b2)).trans h.b2⟩
theorem LT.grown {w : World} {ao : Option Addr} {len cap : Nat} {bs : List UInt8} {wi wj : World} (h : LT w ao len cap bs wi) (hC : Cursor wj (w.heap.size + 2) ao len cap bs) (hG : wi.grownBy wj (some (w.heap.size + 2))) : LT w ao len cap bs wj :=
  ⟨hC, below_grows h.bel hG h.bel.size (by omega), grown_block hG h.b1 (by omega), grown_block hG h.b2 (by omega)⟩
/-- A cell in its box beside them. -/
structure KT (w : World) (d : Nat) (tag : Int) (a : Option Addr) (m c : Nat) (ds : List UInt8) (wi : World) : Prop where
  box : wi.heap[d]? = some (.cells #[.int .i64 tag, .slice a m c] 27 (0, 0))
  own : OwnO wi (w.heap.size + 3) a c ds
  len : ds.length = m
  m81 : m ≤ 81
  wd : w.heap.size + 2 < d
theorem KT.below {w : World} {d : Nat} {tag : Int} {a : Option Addr} {m c : Nat} {ds : List UInt8} {wi wj : World} (h : KT w d tag a m c ds wi) (hB : Below wi.heap.size wi wj) : KT w d tag a m c ds wj :=
  ⟨(hB.block _ (lt_of_block h.box)).trans h.box, h.own.below hB, h.len, h.m81, h.wd⟩
theorem KT.grown {w : World} {d : Nat} {tag : Int} {a : Option Addr} {m c : Nat} {ds : List UInt8} {wi wj : World} (h : KT w d tag a m c ds wi) (hG : wi.grownBy wj (some (w.heap.size + 2))) : KT w d tag a m c ds wj :=
  ⟨grown_block hG h.box (by have := h.wd; omega), h.own.grown hG (by omega), h.len, h.m81, h.wd⟩
theorem kt_new {w w1 : World} {tag : Int} {a : Option Addr} {m c : Nat} {ds : List UInt8} (hO : OwnO w1 (w.heap.size + 3) a c ds) (hn : ds.length = m) (hm : m ≤ 81) (hw : w.heap.size + 2 < w1.heap.size) : KT w w1.heap.size tag a m c ds (w1.alloc (.cells #[.int .i64 tag, .slice a m c] 27)) :=
  ⟨alloc_new w1 _ rfl, hO.below (below_lit w1 _), hn, hm, hw⟩

end Go.Proofs.YtpafjehphajbhaaGreatDoor
