/- Contracts of what the laws of stage 8 draw. -/
import Derived.Test.YtpafjehphajbhabDoorDrawL
import Derived.Deep.RegionHeld3
namespace Go.Proofs.YtpafjehphajbhabDoor
set_option maxRecDepth 4000
open Go.RowKit

/-- A cell; a cell and a number; a number and a text; two cells. -/
structure DrawnCell (w : World) (e : Ending) (w' : World) : Prop where
  out : ∃ (tag : Int) (a : Option Addr) (m c : Nat) (ds : List UInt8), e = .returned (.agg #[.int .i64 tag, .slice a m c]) ∧ m ≤ 81 ∧ CellAt w' a m c ds ∧ Below w.heap.size w w'
structure DrawnCellInt (w : World) (e : Ending) (w' : World) : Prop where
  out : ∃ (tag : Int) (a : Option Addr) (m c : Nat) (ds : List UInt8) (z : Int), e = .returned (.tuple #[.agg #[.int .i64 tag, .slice a m c], .int .i64 z]) ∧ m ≤ 81 ∧ CellAt w' a m c ds ∧ Below w.heap.size w w'
structure DrawnIntText48 (w : World) (e : Ending) (w' : World) : Prop where
  out : ∃ (z : Int) (s : ByteArray), e = .returned (.tuple #[.int .i64 z, .string s]) ∧ s.size ≤ 48 ∧ Below w.heap.size w w'
structure DrawnCells (w : World) (e : Ending) (w' : World) : Prop where
  out : ∃ (t1 : Int) (a1 : Option Addr) (m1 c1 : Nat) (d1 : List UInt8) (t2 : Int) (a2 : Option Addr) (m2 c2 : Nat) (d2 : List UInt8), e = .returned (.tuple #[.agg #[.int .i64 t1, .slice a1 m1 c1], .agg #[.int .i64 t2, .slice a2 m2 c2]]) ∧ m1 ≤ 81 ∧ CellAt w' a1 m1 c1 d1 ∧ m2 ≤ 81 ∧ CellAt w' a2 m2 c2 d2 ∧ Below w.heap.size w w'

set_option maxHeartbeats 400000 in
theorem drawCellOk_any (ao : Option Addr) (len cap : Nat) (bs : List UInt8) (w : World) (hl : len ≤ 1073741824) (hr : Reads w ao len bs) :
    Calls Tryd.prog 35 #[.slice ao len cap] w (DrawnCell w) := by
  have H : Hd (Reads w ao len bs) := ⟨hr⟩
  clear hr
  go_enter Tryd.func35, Tryd.ntmps35
  go_wp2_with fail
  refine (l1New_any ao len cap bs _ hl (H.out.below rfl (below_lit w _))).mono ?_
  rintro e w1 ⟨rfl, hC1, hB1⟩
  have C1 : Hd (Cursor w1 (w.heap.size + 1) ao len cap bs) := ⟨by simpa using hC1⟩
  have Z1 : Hd (w1.heap[w.heap.size]? = some (.cells #[.int .i64 0, .slice none 0 0] 28 (0, 0))) := ⟨(hB1.block _ (by simp)).trans (alloc_new w _ rfl)⟩
  have B1 : Hd (Below w.heap.size w w1) := ⟨Below.next (below_lit w _) hB1⟩
  clear hC1 hB1
  simp only [World.size_alloc]
  go_wp2_with fail
  refine (l8Any_any (w.heap.size + 1) ao len cap bs _ hl C1.out).mono ?_
  rintro e w2 ⟨tag, a, m, c, ds, rfl, hm, hn, hO, hC2, hG2⟩
  have B2 : Hd (Below w.heap.size w w2) := ⟨below_grows B1.out hG2 B1.out.size (by omega)⟩
  have Z2 : Hd (w2.heap[w.heap.size]? = some (.cells #[.int .i64 0, .slice none 0 0] 28 (0, 0))) := ⟨grown_block hG2 Z1.out (by omega)⟩
  have R : Hd (m ≤ 81 ∧ ds.length = m ∧ OwnO w2 (w.heap.size + 1) a c ds) := ⟨hm, hn, hO.mono (by have := lt_of_block Z1.out; omega)⟩
  obtain ⟨s0, s1, s2, s3⟩ := cells2 w2 w.heap.size _ _ _ Z2.out
  clear hm hn hO hC2 hG2 C1 Z1 B1
  go_wp2_with fail
  refine bodyPost_ret (results_cell_row rfl _ _ w.heap.size _ _ (0, 0) _ rfl (set2 _ _ Z2.out) Tryd.underlying28 rfl (by kernel_rfl)) rfl ?_
  exact ⟨tag, a, m, c, ds, rfl, R.out.1, ((R.out.2.2.of_set (by omega)).of_set (by omega)).at_ R.out.2.1, bset (bset B2.out _ (Nat.le_refl _)) _ (Nat.le_refl _)⟩

set_option maxHeartbeats 400000 in
theorem drawCellText_any (ao : Option Addr) (len cap : Nat) (bs : List UInt8) (w : World) (hl : len ≤ 1073741824) (hr : Reads w ao len bs) :
    Calls Tryd.prog 36 #[.slice ao len cap] w (DrawnCell w) := by
  have H : Hd (Reads w ao len bs) := ⟨hr⟩
  clear hr
  go_enter Tryd.func36, Tryd.ntmps36
  go_wp2_with fail
  refine (l1New_any ao len cap bs _ hl (H.out.below rfl (below_lit w _))).mono ?_
  rintro e w1 ⟨rfl, hC1, hB1⟩
  have C1 : Hd (Cursor w1 (w.heap.size + 1) ao len cap bs) := ⟨by simpa using hC1⟩
  have Z1 : Hd (w1.heap[w.heap.size]? = some (.cells #[.int .i64 0, .slice none 0 0] 28 (0, 0))) := ⟨(hB1.block _ (by simp)).trans (alloc_new w _ rfl)⟩
  have B1 : Hd (Below w.heap.size w w1) := ⟨Below.next (below_lit w _) hB1⟩
  clear hC1 hB1
  simp only [World.size_alloc]
  go_wp2_with fail
  refine (l8Any_any (w.heap.size + 1) ao len cap bs _ hl C1.out).mono ?_
  rintro e w2 ⟨tag, a, m, c, ds, rfl, hm, hn, hO, hC2, hG2⟩
  have B2 : Hd (Below w.heap.size w w2) := ⟨below_grows B1.out hG2 B1.out.size (by omega)⟩
  have Z2 : Hd (w2.heap[w.heap.size]? = some (.cells #[.int .i64 0, .slice none 0 0] 28 (0, 0))) := ⟨grown_block hG2 Z1.out (by omega)⟩
  have R : Hd (m ≤ 81 ∧ ds.length = m ∧ OwnO w2 (w.heap.size + 1) a c ds) := ⟨hm, hn, hO.mono (by have := lt_of_block Z1.out; omega)⟩
  obtain ⟨s0, s1, s2, s3⟩ := cells2 w2 w.heap.size _ _ _ Z2.out
  clear hm hn hO hC2 hG2 C1 Z1 B1
  go_wp2_with fail
  refine bodyPost_ret (results_cell_row rfl _ _ w.heap.size _ _ (0, 0) _ rfl (set2 _ _ Z2.out) Tryd.underlying28 rfl (by kernel_rfl)) rfl ?_
  exact ⟨tag, a, m, c, ds, rfl, R.out.1, ((R.out.2.2.of_set (by omega)).of_set (by omega)).at_ R.out.2.1, bset (bset B2.out _ (Nat.le_refl _)) _ (Nat.le_refl _)⟩

set_option maxHeartbeats 400000 in
theorem drawCellOf_any (ao : Option Addr) (len cap : Nat) (bs : List UInt8) (w : World) (hl : len ≤ 1073741824) (hr : Reads w ao len bs) :
    Calls Tryd.prog 26 #[.slice ao len cap] w (DrawnIntText48 w) := by
  have H : Hd (Reads w ao len bs) := ⟨hr⟩
  clear hr
  go_enter Tryd.func26, Tryd.ntmps26
  go_wp2_with fail
  refine (l1New_any ao len cap bs _ hl H.out).mono ?_
  rintro e w1 ⟨rfl, hC1, hB1⟩
  have C1 : Hd (Cursor w1 w.heap.size ao len cap bs) := ⟨hC1⟩
  have B1 : Hd (Below w.heap.size w w1) := ⟨hB1⟩
  clear hC1 hB1
  go_wp2_with fail
  refine (l3Any_any w.heap.size ao len cap bs _ hl C1.out).mono ?_
  rintro e w2 ⟨z, rfl, _, hC2, hG2⟩
  have C2 : Hd (Cursor w2 w.heap.size ao len cap bs) := ⟨hC2⟩
  have B2 : Hd (Below w.heap.size w w2) := ⟨below_grows B1.out hG2 B1.out.size (Nat.le_refl _)⟩
  clear hC2 hG2 C1 B1
  go_wp2_with fail
  refine (l1Once_any w.heap.size ao len cap bs 6 _ hl (by omega) (by omega) C2.out).mono ?_
  rintro e w3 ⟨b, rfl, hC3, hG3⟩
  have C3 : Hd (Cursor w3 w.heap.size ao len cap bs) := ⟨hC3⟩
  have B3 : Hd (Below w.heap.size w w3) := ⟨below_grows B2.out hG3 B2.out.size (Nat.le_refl _)⟩
  clear hC3 hG3 C2 B2
  cases b with
  | true =>
    go_wp2_with fail
    refine (l5Text_any z w.heap.size ao len cap bs 12 _ hl (by omega) C3.out).mono ?_
    rintro e w4 ⟨s, rfl, hs, hC4, hG4⟩
    have R : Hd (s.size ≤ 48 ∧ Below w.heap.size w w4) := ⟨hs, below_grows B3.out hG4 B3.out.size (Nat.le_refl _)⟩
    clear hs hC4 hG4 C3 B3
    go_wp2_with fail
    go_ret2
    exact ⟨z, s, rfl, R.out⟩
  | false =>
    go_wp2_with fail
    refine (drawEncode_any ao len cap bs _ hl (H.out.below rfl B3.out)).mono ?_
    rintro e w4 ⟨y, s, rfl, hs, hB4⟩
    have R : Hd (s.size ≤ 48 ∧ Below w.heap.size w w4) := ⟨by omega, Below.next B3.out hB4⟩
    clear hs hB4 C3 B3
    go_wp2_with fail
    go_ret2
    exact ⟨y, s, rfl, R.out⟩

set_option maxHeartbeats 400000 in
theorem drawTurn_any (ao : Option Addr) (len cap : Nat) (bs : List UInt8) (w : World) (hl : len ≤ 1073741824) (hr : Reads w ao len bs) :
    Calls Tryd.prog 25 #[.slice ao len cap] w (DrawnCellInt w) := by
  have H : Hd (Reads w ao len bs) := ⟨hr⟩
  clear hr
  go_enter Tryd.func25, Tryd.ntmps25
  go_wp2_with fail
  refine (l1New_any ao len cap bs _ hl (H.out.below rfl (below_lit w _))).mono ?_
  rintro e w1 ⟨rfl, hC1, hB1⟩
  have C1 : Hd (Cursor w1 (w.heap.size + 1) ao len cap bs) := ⟨by simpa using hC1⟩
  have Z1 : Hd (w1.heap[w.heap.size]? = some (.cells #[.int .i64 0, .slice none 0 0] 28 (0, 0))) := ⟨(hB1.block _ (by simp)).trans (alloc_new w _ rfl)⟩
  have B1 : Hd (Below w.heap.size w w1) := ⟨Below.next (below_lit w _) hB1⟩
  clear hC1 hB1
  simp only [World.size_alloc]
  go_wp2_with fail
  refine (l8Any_any (w.heap.size + 1) ao len cap bs _ hl C1.out).mono ?_
  rintro e w2 ⟨tag, a, m, c, ds, rfl, hm, hn, hO, hC2, hG2⟩
  have B2 : Hd (Below w.heap.size w w2) := ⟨below_grows B1.out hG2 B1.out.size (by omega)⟩
  have Z2 : Hd (w2.heap[w.heap.size]? = some (.cells #[.int .i64 0, .slice none 0 0] 28 (0, 0))) := ⟨grown_block hG2 Z1.out (by omega)⟩
  have R2 : Hd (m ≤ 81 ∧ ds.length = m ∧ OwnO w2 (w.heap.size + 2) a c ds) := ⟨hm, hn, hO.mono (by have := C1.out.lt; omega)⟩
  have C2 : Hd (Cursor w2 (w.heap.size + 1) ao len cap bs) := ⟨hC2⟩
  have hgl : w.heap.size + 1 < w2.heap.size := hC2.lt
  clear hm hn hO hC2 hG2 C1 Z1 B1
  go_wp2_with fail
  refine (l1Int_any (w.heap.size + 1) w2.heap.size 8 8 ao len cap bs [0, 0, 1, 2, 3, 4, 5, 6] _ hl (by omega) (by omega) rfl (by omega) ?cells (C2.out.below (below_lit _ _))).mono ?_
  case cells => exact lit_ints w2 [0, 0, 1, 2, 3, 4, 5, 6] _
  rintro e w3 ⟨z, _, rfl, hC3, hG3⟩
  have G3 := grown_of_alloc hG3
  have B3 : Hd (Below w.heap.size w w3) := ⟨below_grows B2.out G3 B2.out.size (by omega)⟩
  have Z3 : Hd (w3.heap[w.heap.size]? = some (.cells #[.int .i64 0, .slice none 0 0] 28 (0, 0))) := ⟨grown_block G3 Z2.out (by omega)⟩
  have R3 : Hd (m ≤ 81 ∧ ds.length = m ∧ OwnO w3 (w.heap.size + 2) a c ds) := ⟨R2.out.1, R2.out.2.1, R2.out.2.2.grown G3 (by omega)⟩
  obtain ⟨s0, s1, s2, s3⟩ := cells2 w3 w.heap.size _ _ _ Z3.out
  clear hC3 hG3 G3 C2 Z2 B2 R2
  go_wp2_with fail
  refine bodyPost_ret (results_row_tmp rfl _ _ w.heap.size _ _ (0, 0) _ rfl (set2 _ _ Z3.out) Tryd.underlying28 rfl (by kernel_rfl)) rfl ?_
  exact ⟨tag, a, m, c, ds, z, rfl, R3.out.1, ((R3.out.2.2.of_set (by omega)).of_set (by omega)).at_ R3.out.2.1, bset (bset B3.out _ (Nat.le_refl _)) _ (Nat.le_refl _)⟩

theorem results_cells {fn : Func} {p q : Tmp} {ty : TypeId} (h : fn.results = #[.cell p ty, .cell q ty]) (tmps : Array Value) (P : Program) (w : World) :
    (results fn tmps).run P w =
      ((asAddr (tmps.getD p undef)).run P w).andThen fun a w₁ => ((loadVar ty a).run P w₁).andThen fun v w₂ => ((asAddr (tmps.getD q undef)).run P w₂).andThen fun a' w₃ => ((loadVar ty a').run P w₃).andThen fun v' w₄ => .ok (.tuple #[v, v']) w₄ := by
  simp only [results, h]
  simp [Sem.run_bind, Result.andThen]
/-- The results: two variables of several cells. -/
theorem results_rows {P : Program} {fn : Func} {p q : Tmp} {ty : TypeId} (h : fn.results = #[.cell p ty, .cell q ty]) (tmps : Array Value) (w : World) (g1 g2 : Nat) (t : TypeId) (cs1 cs2 : Array Value) (fr : Nat × Nat) (d : TypeDesc)
    (hp : tmps.getD p undef = .pointer (some ⟨g1, 0, none⟩)) (hq : tmps.getD q undef = .pointer (some ⟨g2, 0, none⟩)) (hg1 : w.heap[g1]? = some (.cells cs1 t fr)) (hg2 : w.heap[g2]? = some (.cells cs2 t fr))
    (hu : P.underlying ty = some d) (hd : (match d with | .struct _ | .array _ _ => true | _ => false) = true) (hi1 : (P.info? ty).map (·.size) = some cs1.size) (hi2 : (P.info? ty).map (·.size) = some cs2.size) :
    (results fn tmps).run P w = .ok (.tuple #[.agg cs1, .agg cs2]) w := by
  rw [results_cells h]
  simp only [hp, hq, asAddr, Sem.run_pure, Result.andThen_ok, run_loadVar_row w g1 t ty cs1 fr d hg1 hu hd hi1, run_loadVar_row w g2 t ty cs2 fr d hg2 hu hd hi2]

/-- While two cells are drawn: the cursor and both results' boxes. -/
structure LT (w : World) (ao : Option Addr) (len cap : Nat) (bs : List UInt8) (wi : World) : Prop where
  cur : Cursor wi (w.heap.size + 2) ao len cap bs
  bel : Below w.heap.size w wi
  b1 : wi.heap[w.heap.size]? = some (.cells #[.int .i64 0, .slice none 0 0] 28 (0, 0))
  b2 : wi.heap[w.heap.size + 1]? = some (.cells #[.int .i64 0, .slice none 0 0] 28 (0, 0))
theorem LT.below {w : World} {ao : Option Addr} {len cap : Nat} {bs : List UInt8} {wi wj : World} (h : LT w ao len cap bs wi) (hB : Below wi.heap.size wi wj) : LT w ao len cap bs wj :=
  ⟨h.cur.below hB, Below.next h.bel hB, (hB.block _ (lt_of_block h.b1)).trans h.b1, (hB.block _ (lt_of_block h.b2)).trans h.b2⟩
theorem LT.grown {w : World} {ao : Option Addr} {len cap : Nat} {bs : List UInt8} {wi wj : World} (h : LT w ao len cap bs wi) (hC : Cursor wj (w.heap.size + 2) ao len cap bs) (hG : wi.grownBy wj (some (w.heap.size + 2))) : LT w ao len cap bs wj :=
  ⟨hC, below_grows h.bel hG h.bel.size (by omega), grown_block hG h.b1 (by omega), grown_block hG h.b2 (by omega)⟩
/-- A cell in its box beside them. -/
structure KT (w : World) (d : Nat) (tag : Int) (a : Option Addr) (m c : Nat) (ds : List UInt8) (wi : World) : Prop where
  box : wi.heap[d]? = some (.cells #[.int .i64 tag, .slice a m c] 28 (0, 0))
  own : OwnO wi (w.heap.size + 3) a c ds
  len : ds.length = m
  m81 : m ≤ 81
  wd : w.heap.size + 2 < d
theorem KT.below {w : World} {d : Nat} {tag : Int} {a : Option Addr} {m c : Nat} {ds : List UInt8} {wi wj : World} (h : KT w d tag a m c ds wi) (hB : Below wi.heap.size wi wj) : KT w d tag a m c ds wj :=
  ⟨(hB.block _ (lt_of_block h.box)).trans h.box, h.own.below hB, h.len, h.m81, h.wd⟩
theorem KT.grown {w : World} {d : Nat} {tag : Int} {a : Option Addr} {m c : Nat} {ds : List UInt8} {wi wj : World} (h : KT w d tag a m c ds wi) (hG : wi.grownBy wj (some (w.heap.size + 2))) : KT w d tag a m c ds wj :=
  ⟨grown_block hG h.box (by have := h.wd; omega), h.own.grown hG (by omega), h.len, h.m81, h.wd⟩
theorem kt_new {w w1 : World} {tag : Int} {a : Option Addr} {m c : Nat} {ds : List UInt8} (hO : OwnO w1 (w.heap.size + 3) a c ds) (hn : ds.length = m) (hm : m ≤ 81) (hw : w.heap.size + 2 < w1.heap.size) : KT w w1.heap.size tag a m c ds (w1.alloc (.cells #[.int .i64 tag, .slice a m c] 28)) :=
  ⟨alloc_new w1 _ rfl, hO.below (below_lit w1 _), hn, hm, hw⟩

set_option maxHeartbeats 1000000 in
theorem drawSameText_any (ao : Option Addr) (len cap : Nat) (bs : List UInt8) (w : World) (hl : len ≤ 1073741824) (hr : Reads w ao len bs) :
    Calls Tryd.prog 29 #[.slice ao len cap] w (DrawnCells w) := by
  have H : Hd (Reads w ao len bs) := ⟨hr⟩
  clear hr
  go_enter Tryd.func29, Tryd.ntmps29
  go_wp2_with fail
  refine (l1New_any ao len cap bs _ hl (H.out.below rfl (below_lit2 w _ _))).mono ?_
  rintro e w1 ⟨rfl, hC1, hB1⟩
  have L1 : Hd (LT w ao len cap bs w1) := ⟨⟨by simpa using hC1, Below.next (below_lit2 w _ _) hB1, (hB1.block _ (by simp; omega)).trans (laid2 w _ _).1, (hB1.block _ (by simp)).trans (laid2 w _ _).2⟩⟩
  clear hC1 hB1
  simp only [World.size_alloc]
  go_wp2_with fail
  refine (l8Any_any (w.heap.size + 2) ao len cap bs _ hl L1.out.cur).mono ?_
  rintro e w2 ⟨tag, a, m, c, ds, rfl, hm, hn, hO, hC2, hG2⟩
  have L2 : Hd (LT w ao len cap bs (w2.alloc (.cells #[.int .i64 tag, .slice a m c] 28))) := ⟨(L1.out.grown hC2 hG2).below (below_lit w2 _)⟩
  have K2 : Hd (KT w w2.heap.size tag a m c ds (w2.alloc (.cells #[.int .i64 tag, .slice a m c] 28))) := ⟨kt_new (hO.mono (by have := L1.out.cur.lt; omega)) hn hm hC2.lt⟩
  generalize hd : w2.heap.size = d at *
  clear hm hn hO hC2 hG2 L1
  go_wp2_with fail
  clear hd
  refine (l1Once_any (w.heap.size + 2) ao len cap bs 2 _ hl (by omega) (by omega) L2.out.cur).mono ?_
  rintro e w3 ⟨b, rfl, hC3, hG3⟩
  have L3 : Hd (LT w ao len cap bs w3) := ⟨L2.out.grown hC3 hG3⟩
  have K3 : Hd (KT w d tag a m c ds w3) := ⟨K2.out.grown hG3⟩
  clear hC3 hG3 L2 K2
  cases b with
  | true =>
    obtain ⟨k0, k1, _, _⟩ := cells2 w3 d _ _ _ K3.out.box
    go_wp2_with fail
    refine (specTurn_any tag a m c ds 0 _ (K3.out.own.at_ K3.out.len) (by have := K3.out.m81; omega)).mono ?_
    have H20 := nB_len tag 0 ds
    generalize nTag tag ds 0 = t2 at *
    generalize nB tag ds 0 = es at *
    generalize nOk tag ds 0 = ok at *
    rintro e w4 ⟨a2, m2, c2, rfl, hn2, hO2, _, hB4⟩
    have hm2 : m2 ≤ 81 := by have := K3.out.m81; have := K3.out.len; omega
    have L4 : Hd (LT w ao len cap bs (w4.alloc (.cells #[.int .i64 t2, .slice a2 m2 c2] 28))) := ⟨(L3.out.below hB4).below (below_lit w4 _)⟩
    have K4 : Hd (KT w d tag a m c ds (w4.alloc (.cells #[.int .i64 t2, .slice a2 m2 c2] 28))) := ⟨(K3.out.below hB4).below (below_lit w4 _)⟩
    have J4 : Hd (KT w w4.heap.size t2 a2 m2 c2 es (w4.alloc (.cells #[.int .i64 t2, .slice a2 m2 c2] 28))) := ⟨kt_new (hO2.mono (by have := L3.out.cur.lt; omega)) hn2 hm2 (by have := L3.out.cur.lt; have := hB4.size; omega)⟩
    have hne : ¬ w4.heap.size = d := by have := lt_of_block K3.out.box; have := hB4.size; omega
    generalize hd4 : w4.heap.size = d4 at *
    clear hn2 hO2 hB4 L3 K3 k0 k1 H20
    go_wp2_with fail
    clear hd4
    generalize w4.alloc (.cells #[.int .i64 t2, .slice a2 m2 c2] 28) = W at *
    obtain ⟨k0, k1, _, _⟩ := cells2 W d _ _ _ K4.out.box
    obtain ⟨j0, j1, _, _⟩ := cells2 W d4 _ _ _ J4.out.box
    obtain ⟨r0, r1, r2, r3⟩ := cells2 W w.heap.size _ _ _ L4.out.b1
    obtain ⟨s0, s1, s2, s3⟩ := cells2 W (w.heap.size + 1) _ _ _ L4.out.b2
    have e1 : ¬ w.heap.size = d := by have := K4.out.wd; omega
    have e2 : ¬ w.heap.size = d4 := by have := J4.out.wd; omega
    have e3 : ¬ w.heap.size + 1 = d := by have := K4.out.wd; omega
    have e4 : ¬ w.heap.size + 1 = d4 := by have := J4.out.wd; omega
    go_region
    go_wp2_with fail
    have hb1 : ((((W.setCell ⟨w.heap.size, 0, none⟩ (.int .i64 tag)).setCell ⟨w.heap.size, 1, none⟩ (.slice a m c)).setCell ⟨w.heap.size + 1, 0, none⟩ (.int .i64 t2)).setCell ⟨w.heap.size + 1, 1, none⟩ (.slice a2 m2 c2)).drew.heap[w.heap.size]? = some (.cells #[.int .i64 tag, .slice a m c] 28 (0, 0)) := block_set (block_set (set2 _ _ L4.out.b1) (by omega)) (by omega)
    have hb2 : ((((W.setCell ⟨w.heap.size, 0, none⟩ (.int .i64 tag)).setCell ⟨w.heap.size, 1, none⟩ (.slice a m c)).setCell ⟨w.heap.size + 1, 0, none⟩ (.int .i64 t2)).setCell ⟨w.heap.size + 1, 1, none⟩ (.slice a2 m2 c2)).drew.heap[w.heap.size + 1]? = some (.cells #[.int .i64 t2, .slice a2 m2 c2] 28 (0, 0)) := set2 _ _ (block_set (block_set L4.out.b2 (by omega)) (by omega))
    refine bodyPost_ret (results_rows rfl _ _ w.heap.size (w.heap.size + 1) _ _ _ (0, 0) _ rfl rfl hb1 hb2 Tryd.underlying28 rfl (by kernel_rfl) (by kernel_rfl)) rfl ?_
    refine ⟨tag, a, m, c, ds, t2, a2, m2, c2, es, rfl, K4.out.m81, ?_, hm2, ?_, (bset (bset (bset (bset L4.out.bel _ (Nat.le_refl _)) _ (Nat.le_refl _)) _ (by omega)) _ (by omega)).drew⟩
    · exact OwnO.at_ (B := w.heap.size + 3) (((((K4.out.own.of_set (by omega)).of_set (by omega)).of_set (by omega)).of_set (by omega)).below (Below.refl _ _).drew) K4.out.len
    · exact OwnO.at_ (B := w.heap.size + 3) (((((J4.out.own.of_set (by omega)).of_set (by omega)).of_set (by omega)).of_set (by omega)).below (Below.refl _ _).drew) J4.out.len
  | false =>
    obtain ⟨k0, k1, _, _⟩ := cells2 w3 d _ _ _ K3.out.box
    go_wp2_with fail
    have L4 : Hd (LT w ao len cap bs w3.drew) := ⟨L3.out.below (Below.refl _ _).drew⟩
    have K4 : Hd (KT w d tag a m c ds w3.drew) := ⟨K3.out.below (Below.refl _ _).drew⟩
    have Hl : Hd (w.heap.size + 3 ≤ w3.heap.size) := ⟨by have := L3.out.cur.lt; omega⟩
    have e1 : ¬ w.heap.size = d := by have := K3.out.wd; omega
    have e3 : ¬ w.heap.size + 1 = d := by have := K3.out.wd; omega
    clear L3 K3
    go_region_with (go_at_call 54; refine (l8Any_any (w.heap.size + 2) ao len cap bs _ hl L4.out.cur).mono ?_; rintro e W ⟨t2, a2, m2, c2, es, rfl, hm2, hn2, hO2, hC2, hG2⟩; have L5 : Hd (LT w ao len cap bs W) := ⟨L4.out.grown hC2 hG2⟩; have K5 : Hd (KT w d tag a m c ds W) := ⟨K4.out.grown hG2⟩; have O5 : Hd (OwnO W (w.heap.size + 3) a2 c2 es ∧ es.length = m2) := ⟨hO2.mono Hl.out, hn2⟩; obtain ⟨k0', k1', _, _⟩ := cells2 W d _ _ _ K5.out.box; obtain ⟨r0, r1, r2, r3⟩ := cells2 W w.heap.size _ _ _ L5.out.b1; obtain ⟨s0, s1, s2, s3⟩ := cells2 W (w.heap.size + 1) _ _ _ L5.out.b2; clear hn2 hO2 hC2 hG2)
    · go_wp2_with fail
      have hb1 : ((((W.setCell ⟨w.heap.size, 0, none⟩ (.int .i64 tag)).setCell ⟨w.heap.size, 1, none⟩ (.slice a m c)).setCell ⟨w.heap.size + 1, 0, none⟩ (.int .i64 t2)).setCell ⟨w.heap.size + 1, 1, none⟩ (.slice a2 m2 c2)).heap[w.heap.size]? = some (.cells #[.int .i64 tag, .slice a m c] 28 (0, 0)) := block_set (block_set (set2 _ _ L5.out.b1) (by omega)) (by omega)
      have hb2 : ((((W.setCell ⟨w.heap.size, 0, none⟩ (.int .i64 tag)).setCell ⟨w.heap.size, 1, none⟩ (.slice a m c)).setCell ⟨w.heap.size + 1, 0, none⟩ (.int .i64 t2)).setCell ⟨w.heap.size + 1, 1, none⟩ (.slice a2 m2 c2)).heap[w.heap.size + 1]? = some (.cells #[.int .i64 t2, .slice a2 m2 c2] 28 (0, 0)) := set2 _ _ (block_set (block_set L5.out.b2 (by omega)) (by omega))
      refine bodyPost_ret (results_rows rfl _ _ w.heap.size (w.heap.size + 1) _ _ _ (0, 0) _ rfl rfl hb1 hb2 Tryd.underlying28 rfl (by kernel_rfl) (by kernel_rfl)) rfl ?_
      refine ⟨tag, a, m, c, ds, t2, a2, m2, c2, es, rfl, K5.out.m81, ?_, hm2, ?_, bset (bset (bset (bset L5.out.bel _ (Nat.le_refl _)) _ (Nat.le_refl _)) _ (by omega)) _ (by omega)⟩
      · exact OwnO.at_ (B := w.heap.size + 3) ((((K5.out.own.of_set (by omega)).of_set (by omega)).of_set (by omega)).of_set (by omega)) K5.out.len
      · exact OwnO.at_ (B := w.heap.size + 3) ((((O5.out.1.of_set (by omega)).of_set (by omega)).of_set (by omega)).of_set (by omega)) O5.out.2
    · go_wp2_with fail
      have hb1 : ((((W.setCell ⟨w.heap.size, 0, none⟩ (.int .i64 tag)).setCell ⟨w.heap.size, 1, none⟩ (.slice a m c)).setCell ⟨w.heap.size + 1, 0, none⟩ (.int .i64 t2)).setCell ⟨w.heap.size + 1, 1, none⟩ (.slice a2 m2 c2)).heap[w.heap.size]? = some (.cells #[.int .i64 tag, .slice a m c] 28 (0, 0)) := block_set (block_set (set2 _ _ L5.out.b1) (by omega)) (by omega)
      have hb2 : ((((W.setCell ⟨w.heap.size, 0, none⟩ (.int .i64 tag)).setCell ⟨w.heap.size, 1, none⟩ (.slice a m c)).setCell ⟨w.heap.size + 1, 0, none⟩ (.int .i64 t2)).setCell ⟨w.heap.size + 1, 1, none⟩ (.slice a2 m2 c2)).heap[w.heap.size + 1]? = some (.cells #[.int .i64 t2, .slice a2 m2 c2] 28 (0, 0)) := set2 _ _ (block_set (block_set L5.out.b2 (by omega)) (by omega))
      refine bodyPost_ret (results_rows rfl _ _ w.heap.size (w.heap.size + 1) _ _ _ (0, 0) _ rfl rfl hb1 hb2 Tryd.underlying28 rfl (by kernel_rfl) (by kernel_rfl)) rfl ?_
      refine ⟨tag, a, m, c, ds, t2, a2, m2, c2, es, rfl, K5.out.m81, ?_, hm2, ?_, bset (bset (bset (bset L5.out.bel _ (Nat.le_refl _)) _ (Nat.le_refl _)) _ (by omega)) _ (by omega)⟩
      · exact OwnO.at_ (B := w.heap.size + 3) ((((K5.out.own.of_set (by omega)).of_set (by omega)).of_set (by omega)).of_set (by omega)) K5.out.len
      · exact OwnO.at_ (B := w.heap.size + 3) ((((O5.out.1.of_set (by omega)).of_set (by omega)).of_set (by omega)).of_set (by omega)) O5.out.2

end Go.Proofs.YtpafjehphajbhabDoor
