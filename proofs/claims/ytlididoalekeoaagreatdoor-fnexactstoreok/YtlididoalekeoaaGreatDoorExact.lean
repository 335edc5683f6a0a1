/- What a law's walk carries from world to world: variables in boxes that are read, and such as are owned, each in an interval of blocks of its own. -/
import Derived.Test.YtlididoalekeoaaGreatDoorDeepA
namespace Go.Proofs.YtlididoalekeoaaGreatDoor
set_option maxRecDepth 4000
open Go.RowKit

/-- What was read in a world of no more than U blocks, of which nothing has turned since. -/
def Lo {α : Type} (U : Nat) (R : Rd α) (w : World) (cs : List Value) (a : α) : Prop := ∃ w0 : World, w0.heap.size ≤ U ∧ R w0 cs a ∧ Below w0.heap.size w0 w
theorem Lo.rd {α : Type} {n U : Nat} {R : Rd α} (ok : RdOk n R) {w : World} {cs : List Value} {a : α} (h : Lo U R w cs a) : R w cs a := by
  obtain ⟨w0, _, hR, hb⟩ := h
  exact ok.below hR hb
theorem Lo.step {α : Type} {U : Nat} {R : Rd α} {w w' : World} {cs : List Value} {a : α} (h : Lo U R w cs a) (hb : Below U w w') : Lo U R w' cs a := by
  obtain ⟨w0, hU, hR, hb0⟩ := h
  exact ⟨w0, hU, hR, hb0.trans (hb.mono hU)⟩
theorem lo_of {α : Type} {R : Rd α} {w : World} {cs : List Value} {a : α} {U : Nat} (h : R w cs a) (hU : w.heap.size ≤ U) : Lo U R w cs a := ⟨w, hU, h, Below.refl _ w⟩

/-- A variable that is read: its box, its datum, all of it below block U. -/
structure VR {α : Type} (T : TypeId) (R : Rd α) (U b : Nat) (cs : List Value) (a : α) (w : World) : Prop where
  lt : b < U
  box : w.heap[b]? = some (.cells cs.toArray T (0, 0))
  lo : Lo U R w cs a
/-- A variable that is owned: its box, its blocks, all from L on and below U. -/
structure VO {α : Type} (T : TypeId) (E : Ow α) (L U b : Nat) (cs : List Value) (F : Fp) (a : α) (w : World) : Prop where
  at_ : L ≤ b ∧ b < U
  box : w.heap[b]? = some (.cells cs.toArray T (0, 0))
  own : E w cs F a
  in_ : ∀ x, F x → L ≤ x ∧ x < U
  not : ¬ F b
/-- The same, no box: a slice in a slot. -/
structure SO {α : Type} (E : Ow α) (L U : Nat) (cs : List Value) (F : Fp) (a : α) (w : World) : Prop where
  own : E w cs F a
  in_ : ∀ x, F x → L ≤ x ∧ x < U

section
variable {α β : Type} {T : TypeId} {R : Rd α} {E : Ow α} {n L U b : Nat} {cs : List Value} {F G : Fp} {a a' : α} {w w' : World}
theorem VR.step (h : VR T R U b cs a w) (hb : Below U w w') : VR T R U b cs a w' := ⟨h.lt, (hb.block b h.lt).trans h.box, h.lo.step hb⟩
theorem VR.below (h : VR T R U b cs a w) (hU : U ≤ w.heap.size) (hb : Below w.heap.size w w') : VR T R U b cs a w' := h.step (hb.mono hU)
theorem VR.chg (h : VR T R U b cs a w) (hU : U ≤ w.heap.size) (hc : Chg w w' G) (hG : ∀ x, G x → U ≤ x) : VR T R U b cs a w' := h.step (hc.below hG hU)
theorem VO.below (ok : OwOk n E R) (h : VO T E L U b cs F a w) (hb : Below w.heap.size w w') : VO T E L U b cs F a w' :=
  ⟨h.at_, (hb.block b (block_lt h.box)).trans h.box, ok.below h.own hb, h.in_, h.not⟩
theorem VO.chg (ok : OwOk n E R) (h : VO T E L U b cs F a w) (hc : Chg w w' G) (hG : ∀ x, G x → x < L ∨ U ≤ x) : VO T E L U b cs F a w' :=
  ⟨h.at_, (hc.block b (block_lt h.box) (fun hx => by have := hG b hx; have := h.at_; omega)).trans h.box, ok.chg h.own hc (fun x hx hy => by have := hG x hy; have := h.in_ x hx; omega), h.in_, h.not⟩
theorem VO.marked (h : VO T E L U b cs F a w) (ho : E w' cs F a') (hc : Chg w w' F) : VO T E L U b cs F a' w' := ⟨h.at_, (hc.block b (block_lt h.box) h.not).trans h.box, ho, h.in_, h.not⟩
theorem VO.vr (ok : OwOk n E R) (h : VO T E L U b cs F a w) : R w cs a := ok.rd h.own
theorem SO.below (ok : OwOk n E R) (h : SO E L U cs F a w) (hb : Below w.heap.size w w') : SO E L U cs F a w' := ⟨ok.below h.own hb, h.in_⟩
theorem SO.chg (ok : OwOk n E R) (h : SO E L U cs F a w) (hc : Chg w w' G) (hG : ∀ x, G x → x < L ∨ U ≤ x) : SO E L U cs F a w' :=
  ⟨ok.chg h.own hc (fun x hx hy => by have := hG x hy; have := h.in_ x hx; omega), h.in_⟩
theorem SO.marked (h : SO E L U cs F a w) (ho : E w' cs F a') : SO E L U cs F a' w' := ⟨ho, h.in_⟩
/-- An answer is laid into a box. -/
theorem vo_new (ok : OwOk n E R) (hN : New L E w cs a) (hL : L ≤ w.heap.size) : ∃ F : Fp, VO T E L (w.heap.size + 1) w.heap.size cs F a (w.alloc (.cells cs.toArray T)) := by
  obtain ⟨F, hE, hF⟩ := hN
  refine ⟨F, ⟨hL, by omega⟩, heap_alloc_new w _, ok.below hE (below_lit w _), fun x hx => ⟨hF x hx, by have := ok.lt hE x hx; omega⟩, fun hx => by have := ok.lt hE _ hx; omega⟩
theorem vr_new (ok : RdOk n R) (hR : R w cs a) : VR T R (w.heap.size + 1) w.heap.size cs a (w.alloc (.cells cs.toArray T)) := ⟨by omega, heap_alloc_new w _, lo_of (ok.below hR (below_lit w _)) (by simp)⟩
theorem so_new (ok : OwOk n E R) (hN : New L E w cs a) : ∃ F : Fp, SO E L w.heap.size cs F a w := by
  obtain ⟨F, hE, hF⟩ := hN
  exact ⟨F, hE, fun x hx => ⟨hF x hx, ok.lt hE x hx⟩⟩
end

/-- An answer that is read. -/
structure AnsR {α : Type} (R : Rd α) (a : α) (w : World) (e : Ending) (w' : World) : Prop where
  out : ∃ cs, e = .returned (.agg cs.toArray) ∧ R w' cs a
  below : Below w.heap.size w w'
theorem AnsAgg.toR {α : Type} {n : Nat} {E : Ow α} {R : Rd α} (ok : OwOk n E R) {a : α} {w : World} {e : Ending} {w' : World} (h : AnsAgg E a w e w') : AnsR R a w e w' := by
  obtain ⟨⟨cs, e, F, hE, _⟩, hb⟩ := h
  exact ⟨⟨cs, e, ok.rd hE⟩, hb⟩
structure AnsRS {α : Type} (R : Rd α) (a : α) (w : World) (e : Ending) (w' : World) : Prop where
  out : ∃ ao len cap, e = .returned (.slice ao len cap) ∧ R w' [.slice ao len cap] a
  below : Below w.heap.size w w'
theorem AnsSl.toR {α : Type} {n : Nat} {E : Ow α} {R : Rd α} (ok : OwOk n E R) {a : α} {w : World} {e : Ending} {w' : World} (h : AnsSl E a w e w') : AnsRS R a w e w' := by
  obtain ⟨⟨ao, len, cap, e, F, hE, _⟩, hb⟩ := h
  exact ⟨⟨ao, len, cap, e, ok.rd hE⟩, hb⟩

end Go.Proofs.YtlididoalekeoaaGreatDoor
