/- Parts of the proof, one behind the other. -/
import Derived.Test.YtlididoalekeoaaGreatDoorMxStoreOk19
import Derived.Test.YtlididoalekeoaaGreatDoorMxStoreOk12
import Derived.Test.YtlididoalekeoaaGreatDoorMxStoreOk11
import Derived.Test.YtlididoalekeoaaGreatDoorMxStoreOk13
import Derived.Test.YtlididoalekeoaaGreatDoorMxStoreOk17
import Derived.Test.YtlididoalekeoaaGreatDoorMxStoreOk14
import Derived.Test.YtlididoalekeoaaGreatDoorMxStoreOk18
/- Parts of the proof, one behind the other. -/
/- Plain facts on two of them that are alike; bytes of a cell as a text. -/
namespace Go.Proofs.YtlididoalekeoaaGreatDoor
set_option maxRecDepth 4000
open Go.RowKit

def sCell (t1 : Int) (b1 : List UInt8) (t2 : Int) (b2 : List UInt8) : Bool := (t1 == t2) && ((strB b1).toList == (strB b2).toList)
def sRow (a b : RowD) : Bool := (a.key.toList == b.key.toList) && sCell a.t1 a.b1 b.t1 b.b1 && sCell a.t2 a.b2 b.t2 b.b2 && (a.has == b.has) && (a.aside == b.aside)
def sMark (a b : MarkD) : Bool := (a.who == b.who) && (a.seq == b.seq) && (a.code == b.code)
def allB {α : Type} (f : α → α → Bool) : List α → List α → Bool
  | a :: l, b :: m => f a b && allB f l m
  | _, _ => true
theorem allB_end {α : Type} {f : α → α → Bool} {l m : List α} {k : Nat} (h : l.length ≤ k) : allB f (l.drop k) (m.drop k) = true := by
  rw [List.drop_of_length_le h]; unfold allB; rfl
theorem allB_at {α : Type} {f : α → α → Bool} {l m : List α} {k : Nat} {a b : α} (ha : l[k]? = some a) (hb : m[k]? = some b) : allB f (l.drop k) (m.drop k) = (f a b && allB f (l.drop (k + 1)) (m.drop (k + 1))) := by
  obtain ⟨hk, rfl⟩ := List.getElem?_eq_some_iff.1 ha
  obtain ⟨hk', rfl⟩ := List.getElem?_eq_some_iff.1 hb
  rw [List.drop_eq_getElem_cons hk, List.drop_eq_getElem_cons hk', allB]
def sameTab (a b : TabD) : Bool := ((a.rows.length == b.rows.length) && allB sRow a.rows b.rows) && (a.phase == b.phase) && ((a.marks.length == b.marks.length) && allB sMark a.marks b.marks)

theorem Lies.conv0 {w : World} {q n : Nat} {es : List UInt8} (h : Lies w q n es) (c : Nat) :
    (convert 60 9 (.slice (some ⟨q, 0, none⟩) n c)).run Tryz.prog w = .ok (.string (strB es)) w := by
  have := run_convert_bytes_back (P := Tryz.prog) w 60 9 5 ⟨q, 0, none⟩ c es Tryz.underlying60 Tryz.underlying5 Tryz.underlying9 (fun j hj => by
    rw [Addr.add_lit, h.cell j (by rw [← h.size]; exact hj)]
    simp [List.getD, List.getElem?_eq_getElem hj])
  rw [h.size] at this; exact this
theorem CellAt.convA {w : World} {ao : Option Addr} {n c : Nat} {bs : List UInt8} (h : CellAt w ao n c bs) : (convert 60 9 (.slice ao n c)).run Tryz.prog w = .ok (.string (strB bs)) w := by
  rcases h with ⟨rfl, rfl, rfl, rfl⟩ | ⟨q, rfl, _, h3⟩
  · exact run_convert_bytes_nil w 60 5 Tryz.underlying60 Tryz.underlying5 0 0 9 Tryz.underlying9
  · exact h3.conv0 c
theorem rdS_parts {α : Type} {n : Nat} {R : Rd α} {w : World} {ao : Option Addr} {len cap : Nat} {ls : List α} (h : RdS n R w [.slice ao len cap] ls) : len ≤ maxLen ∧ ls.length = len ∧ (ls = [] ∨ ∃ b off, ao = some ⟨b, off, none⟩ ∧ ∀ j a, ls[j]? = some a → ∃ c, c.length = n ∧ R w c a ∧ ∀ i v, c[i]? = some v → w.cell? ⟨b, off + j * n + i, none⟩ = some v) := by
  obtain ⟨_, _, _, e, hm, hl, h⟩ := h
  simp only [List.cons.injEq, Value.slice.injEq, and_true] at e
  obtain ⟨rfl, rfl, rfl⟩ := e
  exact ⟨hm, hl, h⟩
theorem rdS_get {α : Type} {n : Nat} {R : Rd α} {w : World} {ao : Option Addr} {len cap : Nat} {ls : List α} (h : RdS n R w [.slice ao len cap] ls) {j : Nat} {a : α} (ha : ls[j]? = some a) :
    ∃ b off c, ao = some ⟨b, off, none⟩ ∧ c.length = n ∧ R w c a ∧ ∀ i v, c[i]? = some v → w.cell? ⟨b, off + j * n + i, none⟩ = some v := by
  obtain ⟨_, _, h⟩ := rdS_parts h
  rcases h with rfl | ⟨b, off, e, g⟩
  · simp at ha
  · obtain ⟨c, h1, h2, h3⟩ := g j a ha
    exact ⟨b, off, c, e, h1, h2, h3⟩
theorem rdS_len {α : Type} {n : Nat} {R : Rd α} {w : World} {ao : Option Addr} {len cap : Nat} {ls : List α} (h : RdS n R w [.slice ao len cap] ls) : ls.length = len ∧ len ≤ maxLen := ⟨(rdS_parts h).2.1, (rdS_parts h).1⟩
theorem rcRow_cells {w : World} {k : ByteArray} {t1 t2 has : Int} {b1 b2 : List UInt8} {asd : Bool} {cs : List Value} (h : RcRow w cs ⟨k, t1, b1, t2, b2, has, asd⟩) :
    ∃ x2 m2 d2 x4 m4 d4, cs = [.string k, .int .i64 t1, .slice x2 m2 d2, .int .i64 t2, .slice x4 m4 d4, .int .i64 has, .bool asd] ∧ CellAt w x2 m2 d2 b1 ∧ CellAt w x4 m4 d4 b2 := by
  obtain ⟨x2, m2, d2, x4, m4, d4, rfl, _, r1, r3⟩ := h
  obtain ⟨_, _, _, e1, c1⟩ := r1
  obtain ⟨_, _, _, e3, c3⟩ := r3
  simp only [List.cons.injEq, Value.slice.injEq, and_true] at e1 e3
  obtain ⟨_, rfl, rfl, rfl⟩ := e1
  obtain ⟨_, rfl, rfl, rfl⟩ := e3
  exact ⟨_, _, _, _, _, _, rfl, (rdC_parts c1).2, (rdC_parts c3).2⟩

end Go.Proofs.YtlididoalekeoaaGreatDoor
/- What the laws do with a Rec. -/
namespace Go.Proofs.YtlididoalekeoaaGreatDoor
set_option maxRecDepth 4000
open Go.RowKit

def RdRec : Rd RecD := fun w cs a => ∃ (x3 : Option Addr) (m3 d3 : Nat) (x5 : Option Addr) (m5 d5 : Nat), cs = [.int .i64 a.kind, .string a.r.key, .int .i64 a.r.t1, .slice x3 m3 d3, .int .i64 a.r.t2, .slice x5 m5 d5, .int .i64 a.r.has, .bool a.r.aside, .string a.key, .int .i64 a.n, .int .i64 a.who, .int .i64 a.seq, .int .i64 a.code] ∧ a.key.size ≤ maxLen ∧ RdRow w [.string a.r.key, .int .i64 a.r.t1, .slice x3 m3 d3, .int .i64 a.r.t2, .slice x5 m5 d5, .int .i64 a.r.has, .bool a.r.aside] (a.r)
def RcRec : Rd RecD := fun w cs a => ∃ (x3 : Option Addr) (m3 d3 : Nat) (x5 : Option Addr) (m5 d5 : Nat), cs = [.int .i64 a.kind, .string a.r.key, .int .i64 a.r.t1, .slice x3 m3 d3, .int .i64 a.r.t2, .slice x5 m5 d5, .int .i64 a.r.has, .bool a.r.aside, .string a.key, .int .i64 a.n, .int .i64 a.who, .int .i64 a.seq, .int .i64 a.code] ∧ a.key.size ≤ maxLen ∧ RcRow w [.string a.r.key, .int .i64 a.r.t1, .slice x3 m3 d3, .int .i64 a.r.t2, .slice x5 m5 d5, .int .i64 a.r.has, .bool a.r.aside] (a.r)
def OwRec : Ow RecD := fun w cs F a => ∃ (x3 : Option Addr) (m3 d3 : Nat) (x5 : Option Addr) (m5 d5 : Nat) (F1 : Fp), cs = [.int .i64 a.kind, .string a.r.key, .int .i64 a.r.t1, .slice x3 m3 d3, .int .i64 a.r.t2, .slice x5 m5 d5, .int .i64 a.r.has, .bool a.r.aside, .string a.key, .int .i64 a.n, .int .i64 a.who, .int .i64 a.seq, .int .i64 a.code] ∧ a.key.size ≤ maxLen ∧ OwRow w [.string a.r.key, .int .i64 a.r.t1, .slice x3 m3 d3, .int .i64 a.r.t2, .slice x5 m5 d5, .int .i64 a.r.has, .bool a.r.aside] F1 (a.r) ∧ (∀ x, F x ↔ F1 x)
theorem rdRec_ok : RdOk 13 RdRec := ⟨fun ⟨_, _, _, _, _, _, e, _⟩ => by rw [e]; rfl, fun ⟨x3, m3, d3, x5, m5, d5, e, z8, r1⟩ hs => ⟨x3, m3, d3, x5, m5, d5, e, z8, rdRow_ok.keep r1 hs⟩⟩
theorem rcRec_ok : RdOk 13 RcRec := ⟨fun ⟨_, _, _, _, _, _, e, _⟩ => by rw [e]; rfl, fun ⟨x3, m3, d3, x5, m5, d5, e, z8, r1⟩ hs => ⟨x3, m3, d3, x5, m5, d5, e, z8, rcRow_ok.keep r1 hs⟩⟩
theorem rcRec_w {w : World} {cs : List Value} {a : RecD} (h : RcRec w cs a) : RdRec w cs a := by
  obtain ⟨x3, m3, d3, x5, m5, d5, e, z8, r1⟩ := h
  exact ⟨x3, m3, d3, x5, m5, d5, e, z8, rcRow_w r1⟩
theorem owRec_ok : OwOk 13 OwRec RcRec where
  len := fun ⟨_, _, _, _, _, _, _, e, _⟩ => by rw [e]; rfl
  lt := fun {w _ F _} ⟨x3, m3, d3, x5, m5, d5, F1, e, _, r1, hF⟩ x hx => by
    exact owRow_ok.lt r1 x ((hF x).1 hx)
  keep := fun ⟨x3, m3, d3, x5, m5, d5, F1, e, z8, r1, hF⟩ hs => ⟨x3, m3, d3, x5, m5, d5, F1, e, z8, owRow_ok.keep r1 (fun b hb => hs b ((hF b).2 hb)), hF⟩
  rd := fun ⟨x3, m3, d3, x5, m5, d5, F1, e, z8, r1, _⟩ => ⟨x3, m3, d3, x5, m5, d5, e, z8, owRow_ok.rd r1⟩
theorem infoRec : (Tryz.prog.info? 83).map (·.size) = some 13 := by kernel_rfl
def wtRec (a : RecD) : Nat := wtRow (a.r) + a.key.size
def ctRec (a : RecD) : Nat := 1 + 1 + 1 + ctB (a.r.b1) + 1 + ctB (a.r.b2) + 1 + 1 + 1 + 1 + 1 + 1 + 1
def cuRec (a : RecD) : Nat := cuRow (a.r)
def mtRec (m : Nat) (a : RecD) : RecD := (⟨a.kind, (⟨a.r.key, a.r.t1, mkB (m) (a.r.b1), a.r.t2, mkB (m + ctB (a.r.b1)) (a.r.b2), a.r.has, a.r.aside⟩ : RowD), a.key, a.n, a.who, a.seq, a.code⟩ : RecD)

end Go.Proofs.YtlididoalekeoaaGreatDoor
/- What a law's walk carries from world to world: variables in boxes that are read, and such as are owned, each in an interval of blocks of its own. -/
namespace Go.Proofs.YtlididoalekeoaaGreatDoor
set_option maxRecDepth 4000
open Go.RowKit

/-- What was read in a world of no more than U blocks, of which nothing has turned since. -/
def Lo {α : Type} (U : Nat) (R : Rd α) (w : World) (cs : List Value) (a : α) : Prop := ∃ w0 : World, w0.heap.size ≤ U ∧ R w0 cs a ∧ Below w0.heap.size w0 w
theorem Lo.rd {α : Type} {n U : Nat} {R : Rd α} (ok : RdOk n R) {w : World} {cs : List Value} {a : α} (h : Lo U R w cs a) : R w cs a := by
  obtain ⟨w0, _, hR, hb⟩ := h
  exact ok.below hR hb
theorem Lo.step {α : Type} {U : Nat} {R : Rd α} {w w' : World} {cs : List Value} {a : α} (h : Lo U R w cs a) (hb : Below U w w') : Lo U R w' cs a := by
  obtain ⟨w0, hU, hR, hb0⟩ := h
  exact ⟨w0, hU, hR, hb0.trans (hb.mono hU)⟩
theorem lo_of {α : Type} {R : Rd α} {w : World} {cs : List Value} {a : α} {U : Nat} (h : R w cs a) (hU : w.heap.size ≤ U) : Lo U R w cs a := ⟨w, hU, h, Below.refl _ w⟩

/-- A variable that is read: its box, its datum, all of it below block U. -/
structure VR {α : Type} (T : TypeId) (R : Rd α) (U b : Nat) (cs : List Value) (a : α) (w : World) : Prop where
  lt : b < U
  box : w.heap[b]? = some (.cells cs.toArray T (0, 0))
  lo : Lo U R w cs a
/-- A variable that is owned: its box, its blocks, all from L on and below U. -/
structure VO {α : Type} (T : TypeId) (E : Ow α) (L U b : Nat) (cs : List Value) (F : Fp) (a : α) (w : World) : Prop where
  at_ : L ≤ b ∧ b < U
  box : w.heap[b]? = some (.cells cs.toArray T (0, 0))
  own : E w cs F a
  in_ : ∀ x, F x → L ≤ x ∧ x < U
  not : ¬ F b
/-- The same, no box: a slice in a slot. -/
structure SO {α : Type} (E : Ow α) (L U : Nat) (cs : List Value) (F : Fp) (a : α) (w : World) : Prop where
  own : E w cs F a
  in_ : ∀ x, F x → L ≤ x ∧ x < U

section
variable {α β : Type} {T : TypeId} {R : Rd α} {E : Ow α} {n L U b : Nat} {cs : List Value} {F G : Fp} {a a' : α} {w w' : World}
theorem VR.step (h : VR T R U b cs a w) (hb : Below U w w') : VR T R U b cs a w' := ⟨h.lt, (hb.block b h.lt).trans h.box, h.lo.step hb⟩
theorem VR.below (h : VR T R U b cs a w) (hU : U ≤ w.heap.size) (hb : Below w.heap.size w w') : VR T R U b cs a w' := h.step (hb.mono hU)
theorem VR.chg (h : VR T R U b cs a w) (hU : U ≤ w.heap.size) (hc : Chg w w' G) (hG : ∀ x, G x → U ≤ x) : VR T R U b cs a w' := h.step (hc.below hG hU)
theorem VO.below (ok : OwOk n E R) (h : VO T E L U b cs F a w) (hb : Below w.heap.size w w') : VO T E L U b cs F a w' :=
  ⟨h.at_, (hb.block b (block_lt h.box)).trans h.box, ok.below h.own hb, h.in_, h.not⟩
theorem VO.chg (ok : OwOk n E R) (h : VO T E L U b cs F a w) (hc : Chg w w' G) (hG : ∀ x, G x → x < L ∨ U ≤ x) : VO T E L U b cs F a w' :=
  ⟨h.at_, (hc.block b (block_lt h.box) (fun hx => by have := hG b hx; have := h.at_; omega)).trans h.box, ok.chg h.own hc (fun x hx hy => by have := hG x hy; have := h.in_ x hx; omega), h.in_, h.not⟩
theorem VO.marked (h : VO T E L U b cs F a w) (ho : E w' cs F a') (hc : Chg w w' F) : VO T E L U b cs F a' w' := ⟨h.at_, (hc.block b (block_lt h.box) h.not).trans h.box, ho, h.in_, h.not⟩
theorem VO.vr (ok : OwOk n E R) (h : VO T E L U b cs F a w) : R w cs a := ok.rd h.own
theorem SO.below (ok : OwOk n E R) (h : SO E L U cs F a w) (hb : Below w.heap.size w w') : SO E L U cs F a w' := ⟨ok.below h.own hb, h.in_⟩
theorem SO.chg (ok : OwOk n E R) (h : SO E L U cs F a w) (hc : Chg w w' G) (hG : ∀ x, G x → x < L ∨ U ≤ x) : SO E L U cs F a w' :=
  ⟨ok.chg h.own hc (fun x hx hy => by have := hG x hy; have := h.in_ x hx; omega), h.in_⟩
theorem SO.marked (h : SO E L U cs F a w) (ho : E w' cs F a') : SO E L U cs F a' w' := ⟨ho, h.in_⟩
/-- An answer is laid into a box. -/
theorem vo_new (ok : OwOk n E R) (hN : New L E w cs a) (hL : L ≤ w.heap.size) : ∃ F : Fp, VO T E L (w.heap.size + 1) w.heap.size cs F a (w.alloc (.cells cs.toArray T)) := by
  obtain ⟨F, hE, hF⟩ := hN
  refine ⟨F, ⟨hL, by omega⟩, heap_alloc_new w _, ok.below hE (below_lit w _), fun x hx => ⟨hF x hx, by have := ok.lt hE x hx; omega⟩, fun hx => by have := ok.lt hE _ hx; omega⟩
theorem vr_new (ok : RdOk n R) (hR : R w cs a) : VR T R (w.heap.size + 1) w.heap.size cs a (w.alloc (.cells cs.toArray T)) := ⟨by omega, heap_alloc_new w _, lo_of (ok.below hR (below_lit w _)) (by simp)⟩
theorem so_new (ok : OwOk n E R) (hN : New L E w cs a) : ∃ F : Fp, SO E L w.heap.size cs F a w := by
  obtain ⟨F, hE, hF⟩ := hN
  exact ⟨F, hE, fun x hx => ⟨hF x hx, ok.lt hE x hx⟩⟩
end

/-- An answer that is read. -/
structure AnsR {α : Type} (R : Rd α) (a : α) (w : World) (e : Ending) (w' : World) : Prop where
  out : ∃ cs, e = .returned (.agg cs.toArray) ∧ R w' cs a
  below : Below w.heap.size w w'
theorem AnsAgg.toR {α : Type} {n : Nat} {E : Ow α} {R : Rd α} (ok : OwOk n E R) {a : α} {w : World} {e : Ending} {w' : World} (h : AnsAgg E a w e w') : AnsR R a w e w' := by
  obtain ⟨⟨cs, e, F, hE, _⟩, hb⟩ := h
  exact ⟨⟨cs, e, ok.rd hE⟩, hb⟩
structure AnsRS {α : Type} (R : Rd α) (a : α) (w : World) (e : Ending) (w' : World) : Prop where
  out : ∃ ao len cap, e = .returned (.slice ao len cap) ∧ R w' [.slice ao len cap] a
  below : Below w.heap.size w w'
theorem AnsSl.toR {α : Type} {n : Nat} {E : Ow α} {R : Rd α} (ok : OwOk n E R) {a : α} {w : World} {e : Ending} {w' : World} (h : AnsSl E a w e w') : AnsRS R a w e w' := by
  obtain ⟨⟨ao, len, cap, e, F, hE, _⟩, hb⟩ := h
  exact ⟨⟨ao, len, cap, e, ok.rd hE⟩, hb⟩

end Go.Proofs.YtlididoalekeoaaGreatDoor
/- The parts of a Tab as records, in the program: a list whose rows are the Tab's own. -/
namespace Go.Proofs.YtlididoalekeoaaGreatDoor
set_option maxRecDepth 4000
open Go.RowKit

theorem infoRecE : (Tryz.prog.info? 83).map (fun i => (i.zero, i.size, i.bytes)) = some (some (.agg #[.int .i64 0, .string ⟨#[]⟩, .int .i64 0, .slice none 0 0, .int .i64 0, .slice none 0 0, .int .i64 0, .bool false, .string ⟨#[]⟩, .int .i64 0, .int .i64 0, .int .i64 0, .int .i64 0]), 13, 152) := by kernel_rfl
theorem rowR_rc {w : World} {k : ByteArray} {t1 t2 has : Int} {b1 b2 : List UInt8} {asd : Bool} {x12 x22 : Option Addr} {x13 x14 x23 x24 : Nat} (h : RcRow w [.string k, .int .i64 t1, .slice x12 x13 x14, .int .i64 t2, .slice x22 x23 x24, .int .i64 has, .bool asd] ⟨k, t1, b1, t2, b2, has, asd⟩) :
    RcRec w [.int .i64 1, .string k, .int .i64 t1, .slice x12 x13 x14, .int .i64 t2, .slice x22 x23 x24, .int .i64 has, .bool asd, .string ⟨#[]⟩, .int .i64 0, .int .i64 0, .int .i64 0, .int .i64 0] (rowR ⟨k, t1, b1, t2, b2, has, asd⟩) :=
  ⟨_, _, _, _, _, _, rfl, Nat.zero_le _, h⟩
theorem zrow_rc (w : World) : RcRow w [.string ⟨#[]⟩, .int .i64 0, .slice none 0 0, .int .i64 0, .slice none 0 0, .int .i64 0, .bool false] ⟨⟨#[]⟩, 0, [], 0, [], 0, false⟩ :=
  ⟨none, 0, 0, none, 0, 0, rfl, Nat.zero_le _, ⟨none, 0, 0, rfl, ⟨none, 0, 0, rfl, Nat.zero_le _, .inl ⟨rfl, rfl, rfl, rfl⟩⟩⟩, ⟨none, 0, 0, rfl, ⟨none, 0, 0, rfl, Nat.zero_le _, .inl ⟨rfl, rfl, rfl, rfl⟩⟩⟩⟩
theorem markR_rc (w : World) (q0 q1 q2 : Int) : RcRec w [.int .i64 4, .string ⟨#[]⟩, .int .i64 0, .slice none 0 0, .int .i64 0, .slice none 0 0, .int .i64 0, .bool false, .string ⟨#[]⟩, .int .i64 0, .int .i64 q0, .int .i64 q1, .int .i64 q2] (markR ⟨q0, q1, q2⟩) := ⟨none, 0, 0, none, 0, 0, rfl, Nat.zero_le _, zrow_rc w⟩
theorem phaseR_rc (w : World) (l1 : Int) : RcRec w [.int .i64 3, .string ⟨#[]⟩, .int .i64 0, .slice none 0 0, .int .i64 0, .slice none 0 0, .int .i64 0, .bool false, .string ⟨#[]⟩, .int .i64 l1, .int .i64 0, .int .i64 0, .int .i64 0] (phaseR l1) := ⟨none, 0, 0, none, 0, 0, rfl, Nat.zero_le _, zrow_rc w⟩
abbrev RcRecL : Rd (List RecD) := RdS 13 RcRec

set_option maxHeartbeats 8000000 in
theorem partsOf_rd (cs : List Value) (a : TabD) (w : World) (h : RcTab w cs a) (hw : wtTab a ≤ 1073741824) :
    Calls Tryz.prog 38 #[.agg cs.toArray] w (AnsRS RcRecL (partsL a) w) := by
  obtain ⟨l0, l1, l2⟩ := a
  simp only [RcTab] at h
  obtain ⟨x0, m0, d0, x2, m2, d2, rfl, r1, r2⟩ := h
  unfold wtTab at hw
  dsimp only at hw
  have HL : (RcRowS w [.slice x0 m0 d0] l0 ∧ RcMarkS w [.slice x2 m2 d2] l2) := ⟨r1, r2⟩
  have HN : Hd (l0.length = m0 ∧ l2.length = m2 ∧ m0 ≤ 1073741824 ∧ m2 ≤ 1073741824) := ⟨(rdS_len r1).1, (rdS_len r2).1, by
    have h1 := wtS_len wtRow l0; have h2 : wtRowS l0 = wtS wtRow l0 := rfl; have := (rdS_len r1).1; omega, by
    have h1 := wtS_len wtMark l2; have h2 : wtMarkS l2 = wtS wtMark l2 := rfl; have := (rdS_len r2).1; omega⟩
  have hm0 : m0 ≤ 1073741824 := HN.out.2.2.1
  have hm2 : m2 ≤ 1073741824 := HN.out.2.2.2
  clear r1 r2 hw
  obtain ⟨i1, hi1, hz1, hs1, hb1⟩ := info_parts infoRecE
  obtain ⟨k1, k2⟩ := laid2 w (.cells #[Value.slice x0 m0 d0, Value.int IntKind.i64 l1, Value.slice x2 m2 d2] 40) (.cells #[Value.int .i64 3, .string ⟨#[]⟩, .int .i64 0, .slice none 0 0, .int .i64 0, .slice none 0 0, .int .i64 0, .bool false, .string ⟨#[]⟩, .int .i64 l1, .int .i64 0, .int .i64 0, .int .i64 0] 83)
  have H0 : Hd (∃ F, OwS 13 83 (OwOn RcRec w) ((w.alloc (.cells #[Value.slice x0 m0 d0, Value.int IntKind.i64 l1, Value.slice x2 m2 d2] 40)).alloc (.cells #[Value.int .i64 3, .string ⟨#[]⟩, .int .i64 0, .slice none 0 0, .int .i64 0, .slice none 0 0, .int .i64 0, .bool false, .string ⟨#[]⟩, .int .i64 l1, .int .i64 0, .int .i64 0, .int .i64 0] 83)) [.slice (some ⟨w.heap.size + 1, 0, none⟩) 1 1] F (phaseR l1 :: (l0.take 0).map rowR) ∧ (∀ x, F x → w.heap.size + 1 ≤ x) ∧ Below w.heap.size w ((w.alloc (.cells #[Value.slice x0 m0 d0, Value.int IntKind.i64 l1, Value.slice x2 m2 d2] 40)).alloc (.cells #[Value.int .i64 3, .string ⟨#[]⟩, .int .i64 0, .slice none 0 0, .int .i64 0, .slice none 0 0, .int .i64 0, .bool false, .string ⟨#[]⟩, .int .i64 l1, .int .i64 0, .int .i64 0, .int .i64 0] 83)) ∧ ((w.alloc (.cells #[Value.slice x0 m0 d0, Value.int IntKind.i64 l1, Value.slice x2 m2 d2] 40)).alloc (.cells #[Value.int .i64 3, .string ⟨#[]⟩, .int .i64 0, .slice none 0 0, .int .i64 0, .slice none 0 0, .int .i64 0, .bool false, .string ⟨#[]⟩, .int .i64 l1, .int .i64 0, .int .i64 0, .int .i64 0] 83)).heap[w.heap.size]? = some (.cells #[Value.slice x0 m0 d0, Value.int IntKind.i64 l1, Value.slice x2 m2 d2] 40 (0, 0))) := ⟨fun x => x = w.heap.size + 1, owS_one (c := [.int .i64 3, .string ⟨#[]⟩, .int .i64 0, .slice none 0 0, .int .i64 0, .slice none 0 0, .int .i64 0, .bool false, .string ⟨#[]⟩, .int .i64 l1, .int .i64 0, .int .i64 0, .int .i64 0]) k2 rfl (phaseR_rc w l1), fun x hx => by omega, below_lit2 w _ _, k1⟩
  clear k1 k2
  go_enter Tryz.func38, Tryz.ntmps38
  go_wp2_with fail
  generalize (w.alloc (.cells #[Value.slice x0 m0 d0, Value.int IntKind.i64 l1, Value.slice x2 m2 d2] 40)).alloc (.cells #[Value.int .i64 3, .string ⟨#[]⟩, .int .i64 0, .slice none 0 0, .int .i64 0, .slice none 0 0, .int .i64 0, .bool false, .string ⟨#[]⟩, .int .i64 l1, .int .i64 0, .int .i64 0, .int .i64 0] 83) = W0 at *
  go_loopw [15, 3] (fun i v wr => ∃ k : Nat, k ≤ m0 ∧ i = .int .i64 k ∧ ∃ y n cc, v = .slice y n cc ∧ Hd (∃ F, OwS 13 83 (OwOn RcRec w) wr [.slice y n cc] F (phaseR l1 :: (l0.take k).map rowR) ∧ (∀ x, F x → w.heap.size + 1 ≤ x) ∧ Below w.heap.size w wr ∧ wr.heap[w.heap.size]? = some (.cells #[Value.slice x0 m0 d0, Value.int IntKind.i64 l1, Value.slice x2 m2 d2] 40 (0, 0)))) (fun i _ _ => m0 - (intOf i).toNat)
  case atStart => exact ⟨0, Nat.zero_le _, rfl, _, _, _, rfl, H0⟩
  case round =>
    obtain ⟨k, hk, rfl, y, n, cc, rfl, HK⟩ := hrel
    clear H0
    by_cases hlt : k < m0
    · have hlt' : (k : Int) < (m0 : Int) := by omega
      have h0 : (0 : Int) ≤ (k : Int) := by omega
      obtain ⟨a, ha⟩ := get_some (l := l0) (j := k) (by rw [HN.out.1]; exact hlt)
      obtain ⟨b1, o1, c1, e1, _, r1, z1⟩ := rdS_get HL.1 ha
      subst e1
      have HS : Hd (phaseR l1 :: (l0.take (k + 1)).map rowR = (phaseR l1 :: (l0.take k).map rowR) ++ [rowR a]) := ⟨by rw [List.take_add_one, ha]; simp⟩
      have HLN : Hd ((phaseR l1 :: (l0.take k).map rowR).length ≤ 3221225473) := ⟨by have := HN.out; simp; omega⟩
      obtain ⟨F, hO, hF, hB, hX⟩ := HK.out
      have hRc := r1
      obtain ⟨q0, q1, q2, q3, q4, q5, q6⟩ := a
      obtain ⟨x12, x13, x14, x22, x23, x24, rfl, _⟩ := r1
      have HEW : Hd (RcRec w [.int .i64 1, .string q0, .int .i64 q1, .slice x12 x13 x14, .int .i64 q3, .slice x22 x23 x24, .int .i64 q5, .bool q6, .string ⟨#[]⟩, .int .i64 0, .int .i64 0, .int .i64 0, .int .i64 0] (rowR ⟨q0, q1, q2, q3, q4, q5, q6⟩)) := ⟨rowR_rc hRc⟩
      have t0 := cell_below (z1 0 _ rfl) hB
      have t1 := cell_below (z1 1 _ rfl) hB
      have t2 := cell_below (z1 2 _ rfl) hB
      have t3 := cell_below (z1 3 _ rfl) hB
      have t4 := cell_below (z1 4 _ rfl) hB
      have t5 := cell_below (z1 5 _ rfl) hB
      have t6 := cell_below (z1 6 _ rfl) hB
      simp only [Nat.add_zero] at t0
      have HX : Hd (∃ F, OwS 13 83 (OwOn RcRec w) ((wr.alloc (.cells #[Value.string q0, .int .i64 q1, .slice x12 x13 x14, .int .i64 q3, .slice x22 x23 x24, .int .i64 q5, .bool q6] 67)).alloc (.cells #[Value.int .i64 1, .string q0, .int .i64 q1, .slice x12 x13 x14, .int .i64 q3, .slice x22 x23 x24, .int .i64 q5, .bool q6, .string ⟨#[]⟩, .int .i64 0, .int .i64 0, .int .i64 0, .int .i64 0] 83)) [.slice y n cc] F (phaseR l1 :: (l0.take k).map rowR) ∧ (∀ x, F x → w.heap.size + 1 ≤ x) ∧ Below w.heap.size w ((wr.alloc (.cells #[Value.string q0, .int .i64 q1, .slice x12 x13 x14, .int .i64 q3, .slice x22 x23 x24, .int .i64 q5, .bool q6] 67)).alloc (.cells #[Value.int .i64 1, .string q0, .int .i64 q1, .slice x12 x13 x14, .int .i64 q3, .slice x22 x23 x24, .int .i64 q5, .bool q6, .string ⟨#[]⟩, .int .i64 0, .int .i64 0, .int .i64 0, .int .i64 0] 83)) ∧ ((wr.alloc (.cells #[Value.string q0, .int .i64 q1, .slice x12 x13 x14, .int .i64 q3, .slice x22 x23 x24, .int .i64 q5, .bool q6] 67)).alloc (.cells #[Value.int .i64 1, .string q0, .int .i64 q1, .slice x12 x13 x14, .int .i64 q3, .slice x22 x23 x24, .int .i64 q5, .bool q6, .string ⟨#[]⟩, .int .i64 0, .int .i64 0, .int .i64 0, .int .i64 0] 83)).heap[w.heap.size]? = some (.cells #[Value.slice (some ⟨b1, o1, none⟩) m0 d0, Value.int IntKind.i64 l1, Value.slice x2 m2 d2] 40 (0, 0))) := ⟨F, (owS_ok (owOn_ok rcRec_ok w)).below ((owS_ok (owOn_ok rcRec_ok w)).below hO (below_lit _ _)) (below_lit _ _), hF, Below.next (Below.next hB (below_lit _ _)) (below_lit _ _), ((below_lit _ _).block _ (by simp; have := block_lt hX; omega)).trans (((below_lit _ _).block _ (block_lt hX)).trans hX)⟩
      clear hO hF hB HK ha z1 hX hRc
      obtain ⟨F, HX1⟩ : ∃ F, Hd (OwS 13 83 (OwOn RcRec w) ((wr.alloc (.cells #[Value.string q0, .int .i64 q1, .slice x12 x13 x14, .int .i64 q3, .slice x22 x23 x24, .int .i64 q5, .bool q6] 67)).alloc (.cells #[Value.int .i64 1, .string q0, .int .i64 q1, .slice x12 x13 x14, .int .i64 q3, .slice x22 x23 x24, .int .i64 q5, .bool q6, .string ⟨#[]⟩, .int .i64 0, .int .i64 0, .int .i64 0, .int .i64 0] 83)) [.slice y n cc] F (phaseR l1 :: (l0.take k).map rowR) ∧ (∀ x, F x → w.heap.size + 1 ≤ x) ∧ Below w.heap.size w ((wr.alloc (.cells #[Value.string q0, .int .i64 q1, .slice x12 x13 x14, .int .i64 q3, .slice x22 x23 x24, .int .i64 q5, .bool q6] 67)).alloc (.cells #[Value.int .i64 1, .string q0, .int .i64 q1, .slice x12 x13 x14, .int .i64 q3, .slice x22 x23 x24, .int .i64 q5, .bool q6, .string ⟨#[]⟩, .int .i64 0, .int .i64 0, .int .i64 0, .int .i64 0] 83)) ∧ ((wr.alloc (.cells #[Value.string q0, .int .i64 q1, .slice x12 x13 x14, .int .i64 q3, .slice x22 x23 x24, .int .i64 q5, .bool q6] 67)).alloc (.cells #[Value.int .i64 1, .string q0, .int .i64 q1, .slice x12 x13 x14, .int .i64 q3, .slice x22 x23 x24, .int .i64 q5, .bool q6, .string ⟨#[]⟩, .int .i64 0, .int .i64 0, .int .i64 0, .int .i64 0] 83)).heap[w.heap.size]? = some (.cells #[Value.slice (some ⟨b1, o1, none⟩) m0 d0, Value.int IntKind.i64 l1, Value.slice x2 m2 d2] 40 (0, 0))) := by obtain ⟨F, h⟩ := HX.out; exact ⟨F, ⟨h⟩⟩
      clear HX
      go_wp2_with (at_builtin; refine wpList_push rfl (owOn_ok rcRec_ok w) (.tmp 19) (.tmp 22) 81 rfl Tryz.underlying81 hi1 hz1 hs1 hb1 rfl (by omega) (v := .slice y n cc) rfl HX1.out.1 (q := wr.heap.size + 1) (c' := [.int .i64 1, .string q0, .int .i64 q1, .slice x12 x13 x14, .int .i64 q3, .slice x22 x23 x24, .int .i64 q5, .bool q6, .string ⟨#[]⟩, .int .i64 0, .int .i64 0, .int .i64 0, .int .i64 0]) (a' := rowR (⟨q0, q1, q2, q3, q4, q5, q6⟩ : RowD)) (G := fun _ => False) rfl (alloc_new (wr.alloc (.cells #[Value.string q0, .int .i64 q1, .slice x12 x13 x14, .int .i64 q3, .slice x22 x23 x24, .int .i64 q5, .bool q6] 67)) _ (by simp)) rfl (by intro u hu; simp only [List.mem_cons, List.not_mem_nil, or_false] at hu; rcases hu with rfl | rfl | rfl | rfl | rfl | rfl | rfl | rfl | rfl | rfl | rfl | rfl | rfl <;> rfl) ⟨fun _ h => h, HEW.out⟩ (fun _ h => h.elim) (by have := HLN.out; unfold maxLen; omega) (by have := HLN.out; omega) ?_)
      intro v' wz F' hOw hF' hgrow
      obtain ⟨x5, n5, d5, hv'⟩ : ∃ x2 n2 d2, v' = .slice x2 n2 d2 := by
        obtain ⟨x2, d2, e, _⟩ := owS_slice hOw
        exact ⟨x2, _, d2, e⟩
      subst hv'
      have HNX : Hd (∃ F, OwS 13 83 (OwOn RcRec w) wz [.slice x5 n5 d5] F (phaseR l1 :: (l0.take (k + 1)).map rowR) ∧ (∀ x, F x → w.heap.size + 1 ≤ x) ∧ Below w.heap.size w wz ∧ wz.heap[w.heap.size]? = some (.cells #[Value.slice (some ⟨b1, o1, none⟩) m0 d0, Value.int IntKind.i64 l1, Value.slice x2 m2 d2] 40 (0, 0))) := ⟨F', by
        rw [HS.out]
        have h7 := grown_on HX1.out.1 HX1.out.2.1 HX1.out.2.2.1 (by omega) hOw hF' (by have := block_lt HX1.out.2.2.2; simp only [World.size_alloc] at this; omega) hgrow (by omega) HX1.out.2.2.2
        simp only [List.map_take, List.cons_append] at h7 ⊢
        exact h7⟩
      clear hOw hF' hgrow HX1 HS HEW HLN t0 t1 t2 t3 t4 t5 t6
      go_wp2_with fail
      go_roundw
      case rel => exact ⟨k + 1, by omega, by go_num, x5, n5, d5, rfl, HNX⟩
      case measure => simp [intOf]; omega
    · have HK2 : Hd (∃ F, OwS 13 83 (OwOn RcRec w) wr [.slice y n cc] F (phaseR l1 :: (l0.map rowR ++ (l2.take 0).map markR)) ∧ (∀ x, F x → w.heap.size + 1 ≤ x) ∧ Below w.heap.size w wr ∧ wr.heap[w.heap.size]? = some (.cells #[Value.slice x0 m0 d0, Value.int IntKind.i64 l1, Value.slice x2 m2 d2] 40 (0, 0))) := ⟨by
        have h7 := HK.out
        rw [List.take_of_length_le (by have := HN.out; omega)] at h7
        simpa using h7⟩
      have c2 := cellsA (HK.out.choose_spec.2.2.2) 2 rfl
      clear HK
      go_wp2_with fail
      clear c2
      obtain ⟨W1, hW1⟩ : ∃ W, W = wr := ⟨_, rfl⟩
      subst hW1
      have H0 := HK2
      clear HK2
      go_loopw [28, 3] (fun i v wr => ∃ k : Nat, k ≤ m2 ∧ i = .int .i64 k ∧ ∃ y n cc, v = .slice y n cc ∧ Hd (∃ F, OwS 13 83 (OwOn RcRec w) wr [.slice y n cc] F (phaseR l1 :: (l0.map rowR ++ (l2.take k).map markR)) ∧ (∀ x, F x → w.heap.size + 1 ≤ x) ∧ Below w.heap.size w wr ∧ wr.heap[w.heap.size]? = some (.cells #[Value.slice x0 m0 d0, Value.int IntKind.i64 l1, Value.slice x2 m2 d2] 40 (0, 0)))) (fun i _ _ => m2 - (intOf i).toNat)
      case atStart => exact ⟨0, Nat.zero_le _, rfl, _, _, _, rfl, H0⟩
      case round =>
        obtain ⟨k, hk, rfl, y, n, cc, rfl, HK⟩ := hrel
        clear H0
        by_cases hlt : k < m2
        · have hlt' : (k : Int) < (m2 : Int) := by omega
          have h0 : (0 : Int) ≤ (k : Int) := by omega
          obtain ⟨a, ha⟩ := get_some (l := l2) (j := k) (by rw [HN.out.2.1]; exact hlt)
          obtain ⟨b1, o1, c1, e1, _, r1, z1⟩ := rdS_get HL.2 ha
          subst e1
          have HS : Hd (phaseR l1 :: (l0.map rowR ++ (l2.take (k + 1)).map markR) = (phaseR l1 :: (l0.map rowR ++ (l2.take k).map markR)) ++ [markR a]) := ⟨by rw [List.take_add_one, ha]; simp⟩
          have HLN : Hd ((phaseR l1 :: (l0.map rowR ++ (l2.take k).map markR)).length ≤ 3221225473) := ⟨by have := HN.out; simp; omega⟩
          obtain ⟨F, hO, hF, hB, hX⟩ := HK.out
          obtain ⟨q0, q1, q2⟩ := a
          simp only [RcMark] at r1
          subst r1
          have HEW : Hd (RcRec w [.int .i64 4, .string ⟨#[]⟩, .int .i64 0, .slice none 0 0, .int .i64 0, .slice none 0 0, .int .i64 0, .bool false, .string ⟨#[]⟩, .int .i64 0, .int .i64 q0, .int .i64 q1, .int .i64 q2] (markR ⟨q0, q1, q2⟩)) := ⟨markR_rc w _ _ _⟩
          have t0 := cell_below (z1 0 _ rfl) hB
          have t1 := cell_below (z1 1 _ rfl) hB
          have t2 := cell_below (z1 2 _ rfl) hB
          simp only [Nat.add_zero] at t0
          have HX : Hd (∃ F, OwS 13 83 (OwOn RcRec w) ((wr.alloc (.cells #[Value.int .i64 q0, .int .i64 q1, .int .i64 q2] 70)).alloc (.cells #[Value.int .i64 4, .string ⟨#[]⟩, .int .i64 0, .slice none 0 0, .int .i64 0, .slice none 0 0, .int .i64 0, .bool false, .string ⟨#[]⟩, .int .i64 0, .int .i64 q0, .int .i64 q1, .int .i64 q2] 83)) [.slice y n cc] F (phaseR l1 :: (l0.map rowR ++ (l2.take k).map markR)) ∧ (∀ x, F x → w.heap.size + 1 ≤ x) ∧ Below w.heap.size w ((wr.alloc (.cells #[Value.int .i64 q0, .int .i64 q1, .int .i64 q2] 70)).alloc (.cells #[Value.int .i64 4, .string ⟨#[]⟩, .int .i64 0, .slice none 0 0, .int .i64 0, .slice none 0 0, .int .i64 0, .bool false, .string ⟨#[]⟩, .int .i64 0, .int .i64 q0, .int .i64 q1, .int .i64 q2] 83)) ∧ ((wr.alloc (.cells #[Value.int .i64 q0, .int .i64 q1, .int .i64 q2] 70)).alloc (.cells #[Value.int .i64 4, .string ⟨#[]⟩, .int .i64 0, .slice none 0 0, .int .i64 0, .slice none 0 0, .int .i64 0, .bool false, .string ⟨#[]⟩, .int .i64 0, .int .i64 q0, .int .i64 q1, .int .i64 q2] 83)).heap[w.heap.size]? = some (.cells #[Value.slice x0 m0 d0, Value.int IntKind.i64 l1, Value.slice (some ⟨b1, o1, none⟩) m2 d2] 40 (0, 0))) := ⟨F, (owS_ok (owOn_ok rcRec_ok w)).below ((owS_ok (owOn_ok rcRec_ok w)).below hO (below_lit _ _)) (below_lit _ _), hF, Below.next (Below.next hB (below_lit _ _)) (below_lit _ _), ((below_lit _ _).block _ (by simp; have := block_lt hX; omega)).trans (((below_lit _ _).block _ (block_lt hX)).trans hX)⟩
          clear hO hF hB HK ha z1 hX
          obtain ⟨F, HX1⟩ : ∃ F, Hd (OwS 13 83 (OwOn RcRec w) ((wr.alloc (.cells #[Value.int .i64 q0, .int .i64 q1, .int .i64 q2] 70)).alloc (.cells #[Value.int .i64 4, .string ⟨#[]⟩, .int .i64 0, .slice none 0 0, .int .i64 0, .slice none 0 0, .int .i64 0, .bool false, .string ⟨#[]⟩, .int .i64 0, .int .i64 q0, .int .i64 q1, .int .i64 q2] 83)) [.slice y n cc] F (phaseR l1 :: (l0.map rowR ++ (l2.take k).map markR)) ∧ (∀ x, F x → w.heap.size + 1 ≤ x) ∧ Below w.heap.size w ((wr.alloc (.cells #[Value.int .i64 q0, .int .i64 q1, .int .i64 q2] 70)).alloc (.cells #[Value.int .i64 4, .string ⟨#[]⟩, .int .i64 0, .slice none 0 0, .int .i64 0, .slice none 0 0, .int .i64 0, .bool false, .string ⟨#[]⟩, .int .i64 0, .int .i64 q0, .int .i64 q1, .int .i64 q2] 83)) ∧ ((wr.alloc (.cells #[Value.int .i64 q0, .int .i64 q1, .int .i64 q2] 70)).alloc (.cells #[Value.int .i64 4, .string ⟨#[]⟩, .int .i64 0, .slice none 0 0, .int .i64 0, .slice none 0 0, .int .i64 0, .bool false, .string ⟨#[]⟩, .int .i64 0, .int .i64 q0, .int .i64 q1, .int .i64 q2] 83)).heap[w.heap.size]? = some (.cells #[Value.slice x0 m0 d0, Value.int IntKind.i64 l1, Value.slice (some ⟨b1, o1, none⟩) m2 d2] 40 (0, 0))) := by obtain ⟨F, h⟩ := HX.out; exact ⟨F, ⟨h⟩⟩
          clear HX
          go_wp2_with (at_builtin; refine wpList_push rfl (owOn_ok rcRec_ok w) (.tmp 32) (.tmp 40) 81 rfl Tryz.underlying81 hi1 hz1 hs1 hb1 rfl (by omega) (v := .slice y n cc) rfl HX1.out.1 (q := wr.heap.size + 1) (c' := [.int .i64 4, .string ⟨#[]⟩, .int .i64 0, .slice none 0 0, .int .i64 0, .slice none 0 0, .int .i64 0, .bool false, .string ⟨#[]⟩, .int .i64 0, .int .i64 q0, .int .i64 q1, .int .i64 q2]) (a' := markR (⟨q0, q1, q2⟩ : MarkD)) (G := fun _ => False) rfl (alloc_new (wr.alloc (.cells #[Value.int .i64 q0, .int .i64 q1, .int .i64 q2] 70)) _ (by simp)) rfl (by intro u hu; simp only [List.mem_cons, List.not_mem_nil, or_false] at hu; rcases hu with rfl | rfl | rfl | rfl | rfl | rfl | rfl | rfl | rfl | rfl | rfl | rfl | rfl <;> rfl) ⟨fun _ h => h, HEW.out⟩ (fun _ h => h.elim) (by have := HLN.out; unfold maxLen; omega) (by have := HLN.out; omega) ?_)
          intro v' wz F' hOw hF' hgrow
          obtain ⟨x5, n5, d5, hv'⟩ : ∃ x2 n2 d2, v' = .slice x2 n2 d2 := by
            obtain ⟨x2, d2, e, _⟩ := owS_slice hOw
            exact ⟨x2, _, d2, e⟩
          subst hv'
          have HNX : Hd (∃ F, OwS 13 83 (OwOn RcRec w) wz [.slice x5 n5 d5] F (phaseR l1 :: (l0.map rowR ++ (l2.take (k + 1)).map markR)) ∧ (∀ x, F x → w.heap.size + 1 ≤ x) ∧ Below w.heap.size w wz ∧ wz.heap[w.heap.size]? = some (.cells #[Value.slice x0 m0 d0, Value.int IntKind.i64 l1, Value.slice (some ⟨b1, o1, none⟩) m2 d2] 40 (0, 0))) := ⟨F', by
            rw [HS.out]
            have h7 := grown_on HX1.out.1 HX1.out.2.1 HX1.out.2.2.1 (by omega) hOw hF' (by have := block_lt HX1.out.2.2.2; simp only [World.size_alloc] at this; omega) hgrow (by omega) HX1.out.2.2.2
            simp only [List.map_take, List.cons_append, List.append_assoc] at h7 ⊢
            exact h7⟩
          clear hOw hF' hgrow HX1 HS HEW HLN t0 t1 t2
          go_wp2_with fail
          go_roundw
          case rel => exact ⟨k + 1, by omega, by go_num, x5, n5, d5, rfl, HNX⟩
          case measure => simp [intOf]; omega
        · have HZ : Hd (RcRecL wr [.slice y n cc] (partsL ⟨l0, l1, l2⟩) ∧ Below w.heap.size w wr) := ⟨by
            obtain ⟨F, hO, hF, hB, hX⟩ := HK.out
            rw [List.take_of_length_le (by have := HN.out; omega)] at hO
            exact ⟨rdOn_to rcRec_ok hB (owS_rd (owOn_ok rcRec_ok w) hO), hB⟩⟩
          clear HK
          go_wp2_with fail
          go_ret
          exact ⟨⟨_, _, _, rfl, HZ.out.1⟩, HZ.out.2⟩

end Go.Proofs.YtlididoalekeoaaGreatDoor
/- The specification: RecOk. -/
namespace Go.Proofs.YtlididoalekeoaaGreatDoor
set_option maxRecDepth 4000
open Go.RowKit

/-- A struct that was handed in, in its box. -/
structure Bx (T : TypeId) (w : World) (A : Array Value) (X : World) : Prop where
  bel : Below w.heap.size w X
  box : X.heap[w.heap.size]? = some (.cells A T (0, 0))
theorem Bx.new (T : TypeId) (w : World) (A : Array Value) : Bx T w A (w.alloc (.cells A T)) := ⟨below_lit w _, heap_alloc_new w _⟩
theorem Bx.below {T : TypeId} {w X Y : World} {A : Array Value} (h : Bx T w A X) (hb : Below X.heap.size X Y) : Bx T w A Y := ⟨Below.next h.bel hb, (hb.block _ (lt_of_block h.box)).trans h.box⟩
theorem Bx.cell {T : TypeId} {w X : World} {A : Array Value} (h : Bx T w A X) (i : Nat) {v : Value} (hv : A[i]? = some v) : X.cell? ⟨w.heap.size, i, none⟩ = some v := cellsA h.box i hv

theorem l1Word_any (x : Int) (w : World) : Calls Tryz.prog 55 #[.int .i64 x] w fun e w' => e = .returned (.bool (inB x 0 65535)) ∧ w' = w := by
  go_enter Tryz.func55, Tryz.ntmps55
  go_wp2_with fail
  refine (l1In_any x 0 65535 _).mono ?_
  rintro e w1 ⟨rfl, hw⟩
  subst hw
  go_wp2_with fail
  go_ret
  exact ⟨rfl, rfl⟩

theorem specRowOk_rd (cs : List Value) (a : RowD) (w : World) (h : RcRow w cs a) (hw : wtRow a ≤ 1048576) :
    Calls Tryz.prog 26 #[.agg cs.toArray] w fun e w' => e = .returned (.bool (rOk a)) ∧ Below w.heap.size w w' := by
  obtain ⟨l0, l1, l2, l3, l4, l5, l6⟩ := a
  simp only [RcRow] at h
  obtain ⟨x2, m2, d2, x4, m4, d4, rfl, _, r1, r3⟩ := h
  obtain ⟨_, _, _, q1, q2⟩ := r1
  simp only [List.cons.injEq, Value.slice.injEq, and_true, true_and] at q1
  obtain ⟨rfl, rfl, rfl⟩ := q1
  obtain ⟨_, _, _, q3, q4⟩ := r3
  simp only [List.cons.injEq, Value.slice.injEq, and_true, true_and] at q3
  obtain ⟨rfl, rfl, rfl⟩ := q3
  have c2 := (rdC_parts q2).2
  have c4 := (rdC_parts q4).2
  have h2 := c2.size
  have h4 := c4.size
  dsimp only at h2 h4
  simp only [wtRow, wtCell, wtB] at hw
  exact specRowOk_any l0 l1 x2 m2 d2 l3 x4 m4 d4 l5 l6 l2 l4 w (by omega) c2 c4 (by omega) (by omega)

end Go.Proofs.YtlididoalekeoaaGreatDoor
