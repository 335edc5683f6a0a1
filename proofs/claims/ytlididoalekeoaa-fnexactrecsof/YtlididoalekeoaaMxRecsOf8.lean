/- Parts of the proof, one behind the other. -/
import Derived.Test.YtlididoalekeoaaMxRecsOf4
import Derived.Test.YtlididoalekeoaaMxRecsOf5
import Derived.Test.YtlididoalekeoaaMxRecsOf6
import Derived.Test.YtlididoalekeoaaMxRecsOf7
import Derived.Test.YtlididoalekeoaaMxRecsOf3
import Derived.Laws.CopyOwn
/- From the reading of a law's argument to the words of Deep: Cell, Row, RowS, Mark, MarkS, Tab. -/
namespace Go.Proofs.Ytlididoalekeoaa
set_option maxRecDepth 4000
open Go.RowKit Go.ChangeShapes Go.WideShapes Go.ChangeAt

theorem rdB_trod' : RdT 22 RdB := rdB_trod Try.underlying22 Try.underlying5 (by kernel_rfl)

theorem rdCell_trod : RdT 121 RdCell := by
  intro H enc W base sp held fuel cs x h
  obtain ⟨xs, m, _, _, hcl, hxl, hf⟩ := DataW.trod_struct Try.underlying121 h
  rw [show Try.prog.cellsOf 121 = 2 from by kernel_rfl] at hcl
  rcases cs with _ | ⟨c0, cs⟩
  · simp at hcl
  rcases cs with _ | ⟨c1, cs⟩
  · simp at hcl
  rcases cs with _ | ⟨c2, cs⟩
  rotate_left
  · simp at hcl
  obtain ⟨y0, hy0⟩ := get_some (l := xs) (j := 0) (by rw [hxl]; decide)
  have h0 := hf 0 _ rfl
  rw [hy0] at h0
  replace h0 : DataW.trod enc Try.prog W base sp held m 3 (List.take (Try.prog.cellsOf 3) (List.drop 0 _)) = some y0 := h0
  rw [show Try.prog.cellsOf 3 = 1 from by kernel_rfl] at h0
  replace h0 : DataW.trod enc Try.prog W base sp held m 3 [c0] = some y0 := h0
  obtain ⟨a0, e0, _⟩ := DataW.trod_int Try.underlying3 h0
  simp only [List.cons.injEq, and_true] at e0
  subst e0
  obtain ⟨y1, hy1⟩ := get_some (l := xs) (j := 1) (by rw [hxl]; decide)
  have h1 := hf 1 _ rfl
  rw [hy1] at h1
  replace h1 : DataW.trod enc Try.prog W base sp held m 22 (List.take (Try.prog.cellsOf 22) (List.drop 1 _)) = some y1 := h1
  rw [show Try.prog.cellsOf 22 = 1 from by kernel_rfl] at h1
  replace h1 : DataW.trod enc Try.prog W base sp held m 22 [c1] = some y1 := h1
  obtain ⟨a1, hr1⟩ := rdB_trod' enc W base sp held m _ y1 h1
  obtain ⟨x1, m1, d1, e1⟩ : ∃ x m d, c1 = .slice x m d := by obtain ⟨x, m, d, e, _⟩ := id hr1; simp only [List.cons.injEq, and_true] at e; exact ⟨x, m, d, e⟩
  subst e1
  exact ⟨(⟨a0, a1⟩ : CellD), x1, m1, d1, rfl, hr1⟩

theorem rdRow_trod : RdT 123 RdRow := by
  intro H enc W base sp held fuel cs x h
  obtain ⟨xs, m, _, _, hcl, hxl, hf⟩ := DataW.trod_struct Try.underlying123 h
  rw [show Try.prog.cellsOf 123 = 7 from by kernel_rfl] at hcl
  rcases cs with _ | ⟨c0, cs⟩
  · simp at hcl
  rcases cs with _ | ⟨c1, cs⟩
  · simp at hcl
  rcases cs with _ | ⟨c2, cs⟩
  · simp at hcl
  rcases cs with _ | ⟨c3, cs⟩
  · simp at hcl
  rcases cs with _ | ⟨c4, cs⟩
  · simp at hcl
  rcases cs with _ | ⟨c5, cs⟩
  · simp at hcl
  rcases cs with _ | ⟨c6, cs⟩
  · simp at hcl
  rcases cs with _ | ⟨c7, cs⟩
  rotate_left
  · simp at hcl
  obtain ⟨y0, hy0⟩ := get_some (l := xs) (j := 0) (by rw [hxl]; decide)
  have h0 := hf 0 _ rfl
  rw [hy0] at h0
  replace h0 : DataW.trod enc Try.prog W base sp held m 9 (List.take (Try.prog.cellsOf 9) (List.drop 0 _)) = some y0 := h0
  rw [show Try.prog.cellsOf 9 = 1 from by kernel_rfl] at h0
  replace h0 : DataW.trod enc Try.prog W base sp held m 9 [c0] = some y0 := h0
  obtain ⟨a0, e0, _, hz0⟩ := DataW.trod_string Try.underlying9 h0
  simp only [List.cons.injEq, and_true] at e0
  subst e0
  obtain ⟨y1, hy1⟩ := get_some (l := xs) (j := 1) (by rw [hxl]; decide)
  have h1 := hf 1 _ rfl
  rw [hy1] at h1
  replace h1 : DataW.trod enc Try.prog W base sp held m 121 (List.take (Try.prog.cellsOf 121) (List.drop 1 _)) = some y1 := h1
  rw [show Try.prog.cellsOf 121 = 2 from by kernel_rfl] at h1
  replace h1 : DataW.trod enc Try.prog W base sp held m 121 [c1, c2] = some y1 := h1
  obtain ⟨⟨a1, a2⟩, hr1⟩ := rdCell_trod enc W base sp held m _ y1 h1
  have hq1 := hr1
  simp only [RdCell] at hq1
  obtain ⟨x2, m2, d2, e1, _⟩ := hq1
  simp only [List.cons.injEq, and_true] at e1
  obtain ⟨rfl, rfl⟩ := e1
  obtain ⟨y2, hy2⟩ := get_some (l := xs) (j := 2) (by rw [hxl]; decide)
  have h2 := hf 2 _ rfl
  rw [hy2] at h2
  replace h2 : DataW.trod enc Try.prog W base sp held m 121 (List.take (Try.prog.cellsOf 121) (List.drop 3 _)) = some y2 := h2
  rw [show Try.prog.cellsOf 121 = 2 from by kernel_rfl] at h2
  replace h2 : DataW.trod enc Try.prog W base sp held m 121 [c3, c4] = some y2 := h2
  obtain ⟨⟨a3, a4⟩, hr3⟩ := rdCell_trod enc W base sp held m _ y2 h2
  have hq3 := hr3
  simp only [RdCell] at hq3
  obtain ⟨x4, m4, d4, e2, _⟩ := hq3
  simp only [List.cons.injEq, and_true] at e2
  obtain ⟨rfl, rfl⟩ := e2
  obtain ⟨y3, hy3⟩ := get_some (l := xs) (j := 3) (by rw [hxl]; decide)
  have h3 := hf 3 _ rfl
  rw [hy3] at h3
  replace h3 : DataW.trod enc Try.prog W base sp held m 3 (List.take (Try.prog.cellsOf 3) (List.drop 5 _)) = some y3 := h3
  rw [show Try.prog.cellsOf 3 = 1 from by kernel_rfl] at h3
  replace h3 : DataW.trod enc Try.prog W base sp held m 3 [c5] = some y3 := h3
  obtain ⟨a5, e3, _⟩ := DataW.trod_int Try.underlying3 h3
  simp only [List.cons.injEq, and_true] at e3
  subst e3
  obtain ⟨y4, hy4⟩ := get_some (l := xs) (j := 4) (by rw [hxl]; decide)
  have h4 := hf 4 _ rfl
  rw [hy4] at h4
  replace h4 : DataW.trod enc Try.prog W base sp held m 4 (List.take (Try.prog.cellsOf 4) (List.drop 6 _)) = some y4 := h4
  rw [show Try.prog.cellsOf 4 = 1 from by kernel_rfl] at h4
  replace h4 : DataW.trod enc Try.prog W base sp held m 4 [c6] = some y4 := h4
  obtain ⟨a6, e4, _⟩ := DataW.trod_bool Try.underlying4 h4
  simp only [List.cons.injEq, and_true] at e4
  subst e4
  exact ⟨(⟨a0, a1, a2, a3, a4, a5, a6⟩ : RowD), x2, m2, d2, x4, m4, d4, rfl, hz0, hr1, hr3⟩

theorem rdRowS_trod : RdT 33 RdRowS := rdS_trod Try.underlying33 (by kernel_rfl) (by omega) rdRow_trod rdRow_ok

theorem rdMark_trod : RdT 127 RdMark := by
  intro H enc W base sp held fuel cs x h
  obtain ⟨xs, m, _, _, hcl, hxl, hf⟩ := DataW.trod_struct Try.underlying127 h
  rw [show Try.prog.cellsOf 127 = 3 from by kernel_rfl] at hcl
  rcases cs with _ | ⟨c0, cs⟩
  · simp at hcl
  rcases cs with _ | ⟨c1, cs⟩
  · simp at hcl
  rcases cs with _ | ⟨c2, cs⟩
  · simp at hcl
  rcases cs with _ | ⟨c3, cs⟩
  rotate_left
  · simp at hcl
  obtain ⟨y0, hy0⟩ := get_some (l := xs) (j := 0) (by rw [hxl]; decide)
  have h0 := hf 0 _ rfl
  rw [hy0] at h0
  replace h0 : DataW.trod enc Try.prog W base sp held m 3 (List.take (Try.prog.cellsOf 3) (List.drop 0 _)) = some y0 := h0
  rw [show Try.prog.cellsOf 3 = 1 from by kernel_rfl] at h0
  replace h0 : DataW.trod enc Try.prog W base sp held m 3 [c0] = some y0 := h0
  obtain ⟨a0, e0, _⟩ := DataW.trod_int Try.underlying3 h0
  simp only [List.cons.injEq, and_true] at e0
  subst e0
  obtain ⟨y1, hy1⟩ := get_some (l := xs) (j := 1) (by rw [hxl]; decide)
  have h1 := hf 1 _ rfl
  rw [hy1] at h1
  replace h1 : DataW.trod enc Try.prog W base sp held m 3 (List.take (Try.prog.cellsOf 3) (List.drop 1 _)) = some y1 := h1
  rw [show Try.prog.cellsOf 3 = 1 from by kernel_rfl] at h1
  replace h1 : DataW.trod enc Try.prog W base sp held m 3 [c1] = some y1 := h1
  obtain ⟨a1, e1, _⟩ := DataW.trod_int Try.underlying3 h1
  simp only [List.cons.injEq, and_true] at e1
  subst e1
  obtain ⟨y2, hy2⟩ := get_some (l := xs) (j := 2) (by rw [hxl]; decide)
  have h2 := hf 2 _ rfl
  rw [hy2] at h2
  replace h2 : DataW.trod enc Try.prog W base sp held m 3 (List.take (Try.prog.cellsOf 3) (List.drop 2 _)) = some y2 := h2
  rw [show Try.prog.cellsOf 3 = 1 from by kernel_rfl] at h2
  replace h2 : DataW.trod enc Try.prog W base sp held m 3 [c2] = some y2 := h2
  obtain ⟨a2, e2, _⟩ := DataW.trod_int Try.underlying3 h2
  simp only [List.cons.injEq, and_true] at e2
  subst e2
  exact ⟨(⟨a0, a1, a2⟩ : MarkD), rfl⟩

theorem rdMarkS_trod : RdT 34 RdMarkS := rdS_trod Try.underlying34 (by kernel_rfl) (by omega) rdMark_trod rdMark_ok

theorem rdTab_trod : RdT 36 RdTab := by
  intro H enc W base sp held fuel cs x h
  obtain ⟨xs, m, _, _, hcl, hxl, hf⟩ := DataW.trod_struct Try.underlying36 h
  rw [show Try.prog.cellsOf 36 = 3 from by kernel_rfl] at hcl
  rcases cs with _ | ⟨c0, cs⟩
  · simp at hcl
  rcases cs with _ | ⟨c1, cs⟩
  · simp at hcl
  rcases cs with _ | ⟨c2, cs⟩
  · simp at hcl
  rcases cs with _ | ⟨c3, cs⟩
  rotate_left
  · simp at hcl
  obtain ⟨y0, hy0⟩ := get_some (l := xs) (j := 0) (by rw [hxl]; decide)
  have h0 := hf 0 _ rfl
  rw [hy0] at h0
  replace h0 : DataW.trod enc Try.prog W base sp held m 33 (List.take (Try.prog.cellsOf 33) (List.drop 0 _)) = some y0 := h0
  rw [show Try.prog.cellsOf 33 = 1 from by kernel_rfl] at h0
  replace h0 : DataW.trod enc Try.prog W base sp held m 33 [c0] = some y0 := h0
  obtain ⟨a0, hr0⟩ := rdRowS_trod enc W base sp held m _ y0 h0
  obtain ⟨x0, m0, d0, e0⟩ : ∃ x m d, c0 = .slice x m d := by obtain ⟨x, m, d, e, _⟩ := id hr0; simp only [List.cons.injEq, and_true] at e; exact ⟨x, m, d, e⟩
  subst e0
  obtain ⟨y1, hy1⟩ := get_some (l := xs) (j := 1) (by rw [hxl]; decide)
  have h1 := hf 1 _ rfl
  rw [hy1] at h1
  replace h1 : DataW.trod enc Try.prog W base sp held m 3 (List.take (Try.prog.cellsOf 3) (List.drop 1 _)) = some y1 := h1
  rw [show Try.prog.cellsOf 3 = 1 from by kernel_rfl] at h1
  replace h1 : DataW.trod enc Try.prog W base sp held m 3 [c1] = some y1 := h1
  obtain ⟨a1, e1, _⟩ := DataW.trod_int Try.underlying3 h1
  simp only [List.cons.injEq, and_true] at e1
  subst e1
  obtain ⟨y2, hy2⟩ := get_some (l := xs) (j := 2) (by rw [hxl]; decide)
  have h2 := hf 2 _ rfl
  rw [hy2] at h2
  replace h2 : DataW.trod enc Try.prog W base sp held m 34 (List.take (Try.prog.cellsOf 34) (List.drop 2 _)) = some y2 := h2
  rw [show Try.prog.cellsOf 34 = 1 from by kernel_rfl] at h2
  replace h2 : DataW.trod enc Try.prog W base sp held m 34 [c2] = some y2 := h2
  obtain ⟨a2, hr2⟩ := rdMarkS_trod enc W base sp held m _ y2 h2
  obtain ⟨x2, m2, d2, e2⟩ : ∃ x m d, c2 = .slice x m d := by obtain ⟨x, m, d, e, _⟩ := id hr2; simp only [List.cons.injEq, and_true] at e; exact ⟨x, m, d, e⟩
  subst e2
  exact ⟨(⟨a0, a1, a2⟩ : TabD), x0, m0, d0, x2, m2, d2, rfl, hr0, hr2⟩

end Go.Proofs.Ytlididoalekeoaa
/- What a law's walk carries from world to world: variables in boxes that are read, and such as are owned, each in an interval of blocks of its own. -/
namespace Go.Proofs.Ytlididoalekeoaa
set_option maxRecDepth 4000
open Go.RowKit

/-- What was read in a world of no more than U blocks, of which nothing has turned since. -/
def Lo {α : Type} (U : Nat) (R : Rd α) (w : World) (cs : List Value) (a : α) : Prop := ∃ w0 : World, w0.heap.size ≤ U ∧ R w0 cs a ∧ Below w0.heap.size w0 w
theorem Lo.rd {α : Type} {n U : Nat} {R : Rd α} (ok : RdOk n R) {w : World} {cs : List Value} {a : α} (h : Lo U R w cs a) : R w cs a := by
  obtain ⟨w0, _, hR, hb⟩ := h
  exact ok.below hR hb
theorem Lo.step {α : Type} {U : Nat} {R : Rd α} {w w' : World} {cs : List Value} {a : α} (h : Lo U R w cs a) (hb : Below U w w') : Lo U R w' cs a := by
  obtain ⟨w0, hU, hR, hb0⟩ := h
  exact ⟨w0, hU, hR, hb0.trans (hb.mono hU)⟩
theorem lo_of {α : Type} {R : Rd α} {w : World} {cs : List Value} {a : α} {U : Nat} (h : R w cs a) (hU : w.heap.size ≤ U) : Lo U R w cs a := ⟨w, hU, h, Below.refl _ w⟩

/-- A variable that is read: its box, its datum, all of it below block U. -/
structure VR {α : Type} (T : TypeId) (R : Rd α) (U b : Nat) (cs : List Value) (a : α) (w : World) : Prop where
  lt : b < U
  box : w.heap[b]? = some (.cells cs.toArray T (0, 0))
  lo : Lo U R w cs a
/-- A variable that is owned: its box, its blocks, all from L on and below U. -/
structure VO {α : Type} (T : TypeId) (E : Ow α) (L U b : Nat) (cs : List Value) (F : Fp) (a : α) (w : World) : Prop where
  at_ : L ≤ b ∧ b < U
  box : w.heap[b]? = some (.cells cs.toArray T (0, 0))
  own : E w cs F a
  in_ : ∀ x, F x → L ≤ x ∧ x < U
  not : ¬ F b
/-- The same, no box: a slice in a slot. -/
structure SO {α : Type} (E : Ow α) (L U : Nat) (cs : List Value) (F : Fp) (a : α) (w : World) : Prop where
  own : E w cs F a
  in_ : ∀ x, F x → L ≤ x ∧ x < U

section
variable {α β : Type} {T : TypeId} {R : Rd α} {E : Ow α} {n L U b : Nat} {cs : List Value} {F G : Fp} {a a' : α} {w w' : World}
theorem VR.step (h : VR T R U b cs a w) (hb : Below U w w') : VR T R U b cs a w' := ⟨h.lt, (hb.block b h.lt).trans h.box, h.lo.step hb⟩
theorem VR.below (h : VR T R U b cs a w) (hU : U ≤ w.heap.size) (hb : Below w.heap.size w w') : VR T R U b cs a w' := h.step (hb.mono hU)
theorem VR.chg (h : VR T R U b cs a w) (hU : U ≤ w.heap.size) (hc : Chg w w' G) (hG : ∀ x, G x → U ≤ x) : VR T R U b cs a w' := h.step (hc.below hG hU)
theorem VO.below (ok : OwOk n E R) (h : VO T E L U b cs F a w) (hb : Below w.heap.size w w') : VO T E L U b cs F a w' :=
  ⟨h.at_, (hb.block b (block_lt h.box)).trans h.box, ok.below h.own hb, h.in_, h.not⟩
theorem VO.chg (ok : OwOk n E R) (h : VO T E L U b cs F a w) (hc : Chg w w' G) (hG : ∀ x, G x → x < L ∨ U ≤ x) : VO T E L U b cs F a w' :=
  ⟨h.at_, (hc.block b (block_lt h.box) (fun hx => by have := hG b hx; have := h.at_; omega)).trans h.box, ok.chg h.own hc (fun x hx hy => by have := hG x hy; have := h.in_ x hx; omega), h.in_, h.not⟩
theorem VO.marked (h : VO T E L U b cs F a w) (ho : E w' cs F a') (hc : Chg w w' F) : VO T E L U b cs F a' w' := ⟨h.at_, (hc.block b (block_lt h.box) h.not).trans h.box, ho, h.in_, h.not⟩
theorem VO.vr (ok : OwOk n E R) (h : VO T E L U b cs F a w) : R w cs a := ok.rd h.own
theorem SO.below (ok : OwOk n E R) (h : SO E L U cs F a w) (hb : Below w.heap.size w w') : SO E L U cs F a w' := ⟨ok.below h.own hb, h.in_⟩
theorem SO.chg (ok : OwOk n E R) (h : SO E L U cs F a w) (hc : Chg w w' G) (hG : ∀ x, G x → x < L ∨ U ≤ x) : SO E L U cs F a w' :=
  ⟨ok.chg h.own hc (fun x hx hy => by have := hG x hy; have := h.in_ x hx; omega), h.in_⟩
theorem SO.marked (h : SO E L U cs F a w) (ho : E w' cs F a') : SO E L U cs F a' w' := ⟨ho, h.in_⟩
/-- An answer is laid into a box. -/
theorem vo_new (ok : OwOk n E R) (hN : New L E w cs a) (hL : L ≤ w.heap.size) : ∃ F : Fp, VO T E L (w.heap.size + 1) w.heap.size cs F a (w.alloc (.cells cs.toArray T)) := by
  obtain ⟨F, hE, hF⟩ := hN
  refine ⟨F, ⟨hL, by omega⟩, heap_alloc_new w _, ok.below hE (below_lit w _), fun x hx => ⟨hF x hx, by have := ok.lt hE x hx; omega⟩, fun hx => by have := ok.lt hE _ hx; omega⟩
theorem vr_new (ok : RdOk n R) (hR : R w cs a) : VR T R (w.heap.size + 1) w.heap.size cs a (w.alloc (.cells cs.toArray T)) := ⟨by omega, heap_alloc_new w _, lo_of (ok.below hR (below_lit w _)) (by simp)⟩
theorem so_new (ok : OwOk n E R) (hN : New L E w cs a) : ∃ F : Fp, SO E L w.heap.size cs F a w := by
  obtain ⟨F, hE, hF⟩ := hN
  exact ⟨F, hE, fun x hx => ⟨hF x hx, ok.lt hE x hx⟩⟩
end

/-- An answer that is read. -/
structure AnsR {α : Type} (R : Rd α) (a : α) (w : World) (e : Ending) (w' : World) : Prop where
  out : ∃ cs, e = .returned (.agg cs.toArray) ∧ R w' cs a
  below : Below w.heap.size w w'
theorem AnsAgg.toR {α : Type} {n : Nat} {E : Ow α} {R : Rd α} (ok : OwOk n E R) {a : α} {w : World} {e : Ending} {w' : World} (h : AnsAgg E a w e w') : AnsR R a w e w' := by
  obtain ⟨⟨cs, e, F, hE, _⟩, hb⟩ := h
  exact ⟨⟨cs, e, ok.rd hE⟩, hb⟩
structure AnsRS {α : Type} (R : Rd α) (a : α) (w : World) (e : Ending) (w' : World) : Prop where
  out : ∃ ao len cap, e = .returned (.slice ao len cap) ∧ R w' [.slice ao len cap] a
  below : Below w.heap.size w w'
theorem AnsSl.toR {α : Type} {n : Nat} {E : Ow α} {R : Rd α} (ok : OwOk n E R) {a : α} {w : World} {e : Ending} {w' : World} (h : AnsSl E a w e w') : AnsRS R a w e w' := by
  obtain ⟨⟨ao, len, cap, e, F, hE, _⟩, hb⟩ := h
  exact ⟨⟨ao, len, cap, e, ok.rd hE⟩, hb⟩

end Go.Proofs.Ytlididoalekeoaa
/- Lists whose row is new, and whose elements are an older world's. -/
namespace Go.Proofs.Ytlididoalekeoaa
set_option maxRecDepth 4000
open Go.RowKit

def RdOn {α : Type} (R : Rd α) (wB : World) : Rd α := fun _ cs a => R wB cs a
def OwOn {α : Type} (R : Rd α) (wB : World) : Ow α := fun _ cs F a => (∀ x, ¬ F x) ∧ R wB cs a
theorem rdOn_ok {α : Type} {n : Nat} {R : Rd α} (ok : RdOk n R) (wB : World) : RdOk n (RdOn R wB) := ⟨fun h => ok.len h, fun h _ => h⟩
theorem owOn_ok {α : Type} {n : Nat} {R : Rd α} (ok : RdOk n R) (wB : World) : OwOk n (OwOn R wB) (RdOn R wB) where
  len := fun h => ok.len h.2
  lt := fun h x hx => (h.1 x hx).elim
  keep := fun h _ => h
  rd := fun h => h.2
theorem rdOn_to {α : Type} {n : Nat} {R : Rd α} (ok : RdOk n R) {wB w : World} {cs : List Value} {ls : List α} (hb : Below wB.heap.size wB w) (h : RdS n (RdOn R wB) w cs ls) : RdS n R w cs ls := by
  obtain ⟨ao, len, cap, e, hm, hl, h2⟩ := h
  refine ⟨ao, len, cap, e, hm, hl, h2.imp id ?_⟩
  rintro ⟨b, off, e, hc⟩
  exact ⟨b, off, e, fun j a ha => by
    obtain ⟨c, hn, hR, hcell⟩ := hc j a ha
    exact ⟨c, hn, ok.below hR hb, hcell⟩⟩
/-- One element, in a block of its own. -/
theorem owS_one {α : Type} {n : Nat} {T : TypeId} {R : Rd α} {wB w : World} {g : Nat} {c : List Value} {a : α} (hg : w.heap[g]? = some (.cells c.toArray T (0, 0))) (hn : c.length = n) (hR : R wB c a) :
    OwS n T (OwOn R wB) w [.slice (some ⟨g, 0, none⟩) 1 1] (fun x => x = g) [a] :=
  ⟨_, [c], fun _ _ => False, rfl, {
    own := ⟨by simp [hn], .inr ⟨g, 1, c.toArray, rfl, Nat.zero_le _, hg, Nat.le_refl _, by unfold maxLen; omega, by simp [hn], by rw [← hn]; simp⟩⟩
    size := rfl
    lens := fun c' hc => by simp at hc; rw [hc, hn]
    lt := fun x hx => by rw [hx]; exact block_lt hg
    blk := fun x hx => by simp [Value.ownBlock] at hx; exact hx.symm
    sub := fun _ _ _ h => h.elim
    apart := fun _ _ _ _ _ _ h => h.elim
    els := fun j c' a' hc ha => by
      rcases j with _ | j
      · simp at hc ha
        subst hc ha
        exact ⟨fun _ h => h, hR⟩
      · simp at hc }⟩
/-- An element more: what a loop that appends carries. -/
theorem grown_on {α : Type} {n : Nat} {T : TypeId} {R : Rd α} {wB w X Y : World} {ao ao' : Option Addr} {m c m' c' L N : Nat} {F F' : Fp} {ls ls' : List α} (hO : OwS n T (OwOn R wB) X [.slice ao m c] F ls) (hF : ∀ x, F x → L ≤ x) (hB : Below w.heap.size w X) (hL : w.heap.size ≤ L)
    (hOw : OwS n T (OwOn R wB) Y [.slice ao' m' c'] F' ls') (hF' : ∀ x, F' x → F x ∨ N ≤ x) (hX : L ≤ N) (hgrow : X.grownBy Y (Value.slice ao m c).ownBlock) {q : Nat} {o : Obj} (hq : q < L) (hbox : X.heap[q]? = some o) :
    OwS n T (OwOn R wB) Y [.slice ao' m' c'] F' ls' ∧ (∀ x, F' x → L ≤ x) ∧ Below w.heap.size w Y ∧ Y.heap[q]? = some o := by
  have hown : ∀ b, (Value.slice ao m c).ownBlock = some b → L ≤ b := fun b hb => by
    obtain ⟨x3, d3, e, hcase⟩ := owS_slice hO
    simp only [Value.slice.injEq] at e
    rcases hcase with ⟨h1, _⟩ | ⟨g, h1, h2⟩
    · rw [e.1, h1] at hb; cases hb
    · rw [e.1, h1] at hb; simp [Value.ownBlock] at hb; rw [← hb]; exact hF g h2
  refine ⟨hOw, fun x hx => ?_, hB.grown hgrow hB.size (fun b hb => Nat.le_trans hL (hown b hb)), ?_⟩
  · rcases hF' x hx with h | h
    · exact hF x h
    · omega
  · rw [hgrow.block q (block_lt hbox) (fun e => by have := hown q e.symm; omega)]; exact hbox

end Go.Proofs.Ytlididoalekeoaa
/- copy of a list's elements, whatever their size, into a list whose row is new. -/
namespace Go.Proofs.Ytlididoalekeoaa
set_option maxRecDepth 4000
open Go.RowKit

theorem run_copy_els {P : Program} (w : World) (dT sT ty elem : TypeId) (n g o dLen dCap : Nat) (a : Addr) (sLen sCap : Nat) (cur : Array Value) (t : TypeId) (cs : List Value)
    (hu : P.underlying dT = some (.slice elem)) (hs : (P.info? elem).map (·.size) = some n)
    (hg : w.heap[g]? = some (.cells cur t (0, 0))) (hn : cs.length = Nat.min sLen dLen * n)
    (hsrc : ∀ j v, cs[j]? = some v → w.cell? (a.add j) = some v) (hfit : o + cs.length ≤ cur.size) (h1 : ∀ v ∈ cs, v.oneCell' = true) :
    (Builtin.copy_ #[dT, sT] ty #[.slice (some ⟨g, o, none⟩) dLen dCap, .slice (some a) sLen sCap]).run P w =
      .ok (goInt (Nat.min sLen dLen)) (w.setRow g (cur.toList.take o ++ cs ++ cur.toList.drop (o + cs.length)).toArray) := by
  have hl := run_loadCells_list (P := P) w a cs hsrc
  have hst := run_storeCells_at P g o t cs 0 cur w hg (by simpa using hfit) h1
  cases hq : P.info? elem with
  | none => simp [hq] at hs
  | some i =>
    have hi : i.size = n := by simpa [hq] using hs
    simp [Builtin.copy_, run_underlying hu, Builtin.lenOf, Builtin.firstCells, sizeOf, typeInfo, hq, hi, ← hn, hl, hst]
theorem run_copy_els0 {P : Program} (w : World) (dT sT ty elem : TypeId) (n : Nat) (d a : Option Addr) (dLen dCap sLen sCap : Nat) (hu : P.underlying dT = some (.slice elem)) (hs : (P.info? elem).map (·.size) = some n) (hn : Nat.min sLen dLen = 0) :
    (Builtin.copy_ #[dT, sT] ty #[.slice d dLen dCap, .slice a sLen sCap]).run P w = .ok (goInt 0) w := by
  cases hq : P.info? elem with
  | none => simp [hq] at hs
  | some i =>
    have hl : ∀ (x : Addr), (loadCells x 0).run P w = .ok #[] w := fun x => by simpa using run_loadCells_list (P := P) w x [] (by simp)
    cases d <;> cases a <;> simp [Builtin.copy_, run_underlying hu, Builtin.lenOf, Builtin.firstCells, sizeOf, typeInfo, hq, hn, storeCells, hl]

theorem list_pick9 {α β : Type} : ∀ (l : List α) (p : Nat → α → β → Prop), (∀ j a, l[j]? = some a → ∃ c, p j a c) → ∃ cs : List β, cs.length = l.length ∧ ∀ j a c, l[j]? = some a → cs[j]? = some c → p j a c
  | [], _, _ => ⟨[], rfl, fun j a c h => by simp at h⟩
  | x :: r, p, h => by
    obtain ⟨c0, h0⟩ := h 0 x rfl
    obtain ⟨cs, hl, hc⟩ := list_pick9 r (fun j => p (j + 1)) (fun j a ha => h (j + 1) a (by simpa using ha))
    refine ⟨c0 :: cs, by simp [hl], fun j a c ha hq => ?_⟩
    rcases j with _ | j
    · simp at ha hq
      subst ha hq
      exact h0
    · exact hc j a c (by simpa using ha) (by simpa using hq)

theorem flat_splice {β : Type} {n k : Nat} {A B C D : List (List β)} (hA : A.length = k) (hBD : B.length = D.length) (hl : ∀ c ∈ A ++ (B ++ C), c.length = n) (hd : ∀ c ∈ D, c.length = n) (rest : List β) :
    ((A ++ (B ++ C)).flatten ++ rest).take (k * n) ++ D.flatten ++ ((A ++ (B ++ C)).flatten ++ rest).drop (k * n + D.flatten.length) = (A ++ (D ++ C)).flatten ++ rest := by
  have eA : A.flatten.length = k * n := by rw [flat_len (fun c hc => hl c (by simp [hc])), hA]
  have eB : B.flatten.length = D.flatten.length := by rw [flat_len (fun c hc => hl c (by simp [hc])), flat_len hd, hBD]
  simp only [List.flatten_append, List.append_assoc]
  rw [← eA, List.take_left' rfl, ← eB, ← List.length_append, ← List.append_assoc A.flatten B.flatten, List.drop_left' rfl]
theorem splice_form {β : Type} {L D : List β} {k : Nat} (h : k + D.length ≤ L.length) : ∃ A B C, L = A ++ (B ++ C) ∧ A.length = k ∧ B.length = D.length ∧ splice L k D = A ++ (D ++ C) := by
  refine ⟨L.take k, (L.drop k).take D.length, L.drop (k + D.length), ?_, by simp; omega, by simp; omega, rfl⟩
  rw [← List.drop_drop, List.take_append_drop, List.take_append_drop]

section
variable {α : Type} {n : Nat} {T : TypeId} {R : Rd α} {wB w : World} {F : Fp} {ls ls2 : List α}
theorem owS_copied {g len cap k : Nat} {css2 : List (List Value)} (hO : OwS n T (OwOn R wB) w [.slice (some ⟨g, 0, none⟩) len cap] F ls) (hk : k + ls2.length ≤ len) (hc2 : css2.length = ls2.length)
    (h2 : ∀ (j : Nat) a c, ls2[j]? = some a → css2[j]? = some c → c.length = n ∧ R wB c a) : ∃ cur, w.heap[g]? = some (.cells cur T (0, 0)) ∧ k * n + css2.flatten.length ≤ cur.size ∧
      OwS n T (OwOn R wB) (w.setRow g (cur.toList.take (k * n) ++ css2.flatten ++ cur.toList.drop (k * n + css2.flatten.length)).toArray) [.slice (some ⟨g, 0, none⟩) len cap] F (splice ls k ls2) := by
  have hlen := (owS_len hO).1
  obtain ⟨v', css, Fs, e, Q⟩ := hO
  simp only [List.cons.injEq, and_true] at e
  subst e
  have hl2 : ∀ c ∈ css2, c.length = n := fun c hc => by
    obtain ⟨j, hj⟩ := List.getElem?_of_mem hc
    obtain ⟨a, ha⟩ := get_some (l := ls2) (j := j) (by rw [← hc2]; exact get_lt hj)
    exact (h2 j a c ha hj).1
  obtain ⟨A, B, C, rfl, hA, hB, hS⟩ := splice_form (L := css) (D := css2) (k := k) (by rw [Q.size]; omega)
  obtain ⟨A', B', C', rfl, hA', hB', hS'⟩ := splice_form (L := ls) (D := ls2) (k := k) (by omega)
  have hsz := Q.size
  obtain ⟨hxl, hx⟩ := Q.own
  rcases hx with ⟨h, _⟩ | ⟨g', cap', cur, e, hb, hgg, hm, hmax, hcs, htk⟩
  · cases h
  simp only [Value.slice.injEq, Option.some.injEq, Addr.mk.injEq, and_true] at e
  obtain ⟨rfl, rfl, rfl⟩ := e
  have hfl : (A ++ (B ++ C)).flatten.length = (A' ++ (B' ++ C')).length * n := hxl
  have hle : k * n + css2.flatten.length ≤ cur.size := by
    have e1 : css2.flatten.length = css2.length * n := flat_len hl2
    have h3 := congrArg List.length htk
    rw [List.length_take, hfl] at h3
    have h4 : (k + ls2.length) * n ≤ (A' ++ (B' ++ C')).length * n := Nat.mul_le_mul_right n (by omega)
    rw [Nat.add_mul] at h4
    rw [e1, hc2]
    simp only [Array.length_toList] at h3
    omega
  refine ⟨cur, hgg, hle, _, A ++ (css2 ++ C), fun _ _ => False, rfl, ?_⟩
  have hcur : cur.toList = (A ++ (B ++ C)).flatten ++ cur.toList.drop ((A' ++ (B' ++ C')).length * n) := by
    rw [← htk, List.take_append_drop]
  have hls : (splice (A' ++ (B' ++ C')) k ls2).length = (A' ++ (B' ++ C')).length := by rw [hS']; simp; omega
  have hlens : ∀ c ∈ A ++ (css2 ++ C), c.length = n := fun c hc => by
    simp only [List.mem_append] at hc
    rcases hc with hc | hc | hc
    · exact Q.lens c (by simp [hc])
    · exact hl2 c hc
    · exact Q.lens c (by simp [hc])
  have hnew : (cur.toList.take (k * n) ++ css2.flatten ++ cur.toList.drop (k * n + css2.flatten.length)) = (A ++ (css2 ++ C)).flatten ++ cur.toList.drop ((A' ++ (B' ++ C')).length * n) := by
    conv => lhs; rw [hcur]
    exact flat_splice hA hB Q.lens hl2 _
  have hfn : (A ++ (css2 ++ C)).flatten.length = (A' ++ (B' ++ C')).length * n := by
    rw [flat_len hlens, ← hsz]; simp [hB]
  exact {
    own := by
      rw [hls]
      refine ⟨hfn, .inr ⟨g, cap, _, rfl, hb, setRow_heap w g cur _ T _ hgg, hm, hmax, ?_, ?_⟩⟩
      · rw [← hcs, hnew]
        have h5 := congrArg List.length hcur
        simp only [List.length_append, Array.length_toList, hfl] at h5
        simp only [List.size_toArray, List.length_append, hfn]
        omega
      · rw [hnew]
        simp only [List.take_left' hfn]
    size := by rw [hls, ← hsz]; simp [hB]
    lens := hlens
    lt := fun x hx => by simp only [World.setRow, Array.size_modify]; exact Q.lt x hx
    blk := Q.blk
    sub := fun _ _ _ h => h.elim
    apart := fun _ _ _ _ _ _ h => h.elim
    els := fun j c a hc ha => by
      refine ⟨fun _ h => h, ?_⟩
      rw [hS'] at ha
      have hAA : A.length = A'.length := by omega
      by_cases h1 : j < A.length
      · rw [List.getElem?_append_left h1] at hc
        rw [List.getElem?_append_left (by omega)] at ha
        exact (Q.els j c a (by rw [List.getElem?_append_left h1]; exact hc) (by rw [List.getElem?_append_left (by omega)]; exact ha)).2
      · rw [List.getElem?_append_right (by omega)] at hc ha
        by_cases h3 : j - A.length < css2.length
        · rw [List.getElem?_append_left h3] at hc
          rw [← hAA, List.getElem?_append_left (by omega)] at ha
          exact (h2 _ a c ha hc).2
        · rw [List.getElem?_append_right (by omega)] at hc
          rw [← hAA, List.getElem?_append_right (by omega)] at ha
          refine (Q.els j c a ?_ ?_).2
          · rw [List.getElem?_append_right (by omega), List.getElem?_append_right (by omega), hB]; exact hc
          · rw [List.getElem?_append_right (by omega), List.getElem?_append_right (by omega), hB', ← hAA]; exact ha }

theorem wpList_copy_on {P : Program} {ops : Array Oper} {rest : List Oper} {o : Oper} {a : Act} {Q : Exit → Act → World → Prop} (hgd : o.guard = none) (hone : ∀ {v c x}, R v c x → ∀ u ∈ c, u.oneCell' = true) (d s : Operand) (dT sT : TypeId)
    (ho : o.op = .call { callee := .builtin .copy, args := #[d, s], argTypes := #[dT, sT] }) (hu : P.underlying dT = some (.slice T)) (hsz : (P.info? T).map (·.size) = some n)
    {dp sp : Option Addr} {dLen dCap sLen sCap : Nat} (hd : a.eval d = .slice dp dLen dCap) (hs : a.eval s = .slice sp sLen sCap)
    {g len cap k : Nat} (hO : OwS n T (OwOn R wB) w [.slice (some ⟨g, 0, none⟩) len cap] F ls) (hb : Below wB.heap.size wB w) (hS : RdS n R wB [.slice sp sLen sCap] ls2) (hk : k + sLen ≤ len) (hdl : sLen ≤ dLen) (hdp : 0 < sLen → dp = some ⟨g, k * n, none⟩)
    (hK : ∀ w', OwS n T (OwOn R wB) w' [.slice (some ⟨g, 0, none⟩) len cap] F (splice ls k ls2) → Chg w w' (fun x => x = g) → wpList P ops Q rest (a.put o.dst (goInt sLen)) w') : wpList P ops Q (o :: rest) a w := by
  have hmin : Nat.min sLen dLen = sLen := Nat.min_eq_left hdl
  obtain ⟨_, _, _, e, _, hl2, h2⟩ := hS
  simp only [List.cons.injEq, Value.slice.injEq, and_true] at e
  obtain ⟨rfl, rfl, rfl⟩ := e
  refine wpList_plain hgd fun K hK' => ?_
  by_cases h0 : sLen = 0
  · subst h0
    obtain rfl : ls2 = [] := List.eq_nil_of_length_eq_zero hl2
    have hrun := run_copy_els0 (P := P) w dT sT o.type T n dp sp dLen dCap 0 sCap hu hsz hmin
    unfold Oper.wp
    simp [execOp, ho, resolve, invoke, builtin, hd, hs, hrun, Result.andThen]
    exact hK' _ _ (hK w (by simpa [splice] using hO) (Chg.refl w _))
  · rcases h2 with h | ⟨b, off, rfl, h2⟩
    · exact absurd (by rw [← hl2, h, List.length_nil]) h0
    obtain rfl := hdp (by omega)
    obtain ⟨css2, hc2, hp⟩ := list_pick9 ls2 (fun j x c => c.length = n ∧ R wB c x ∧ ∀ i v, c[i]? = some v → wB.cell? ⟨b, off + j * n + i, none⟩ = some v) h2
    have hl : ∀ c ∈ css2, c.length = n := fun c hc => by
      obtain ⟨j, hj⟩ := List.getElem?_of_mem hc
      obtain ⟨x, hx⟩ := get_some (l := ls2) (j := j) (by rw [← hc2]; exact get_lt hj)
      exact (hp j x c hx hj).1
    obtain ⟨cur, hg, hfit, hnew⟩ := owS_copied (k := k) (ls2 := ls2) (css2 := css2) hO (by omega) hc2 (fun j x c hx hc => ⟨(hp j x c hx hc).1, (hp j x c hx hc).2.1⟩)
    have hfl : css2.flatten.length = sLen * n := by rw [flat_len hl, hc2, hl2]
    have hrun := run_copy_els (P := P) w dT sT o.type T n g (k * n) dLen dCap ⟨b, off, none⟩ sLen sCap cur T css2.flatten hu hsz hg (by rw [hmin]; exact hfl) (fun j v hv => by
      rw [Addr.add_lit]
      have hj := get_lt hv
      rw [hfl] at hj
      have hn : 0 < n := by
        rcases Nat.eq_zero_or_pos n with h | h
        · rw [h] at hj; omega
        · exact h
      have hq : j / n < css2.length := by rw [hc2, hl2]; exact Nat.div_lt_of_lt_mul (by rw [Nat.mul_comm]; exact hj)
      obtain ⟨c, hc⟩ := get_some hq
      obtain ⟨x, hx⟩ := get_some (l := ls2) (j := j / n) (by rw [← hc2]; exact hq)
      have hdm : j / n * n + j % n = j := by rw [Nat.mul_comm]; exact Nat.div_add_mod j n
      have hv2 : c[j % n]? = some v := by rw [← flat_get hl hc (Nat.mod_lt j hn), hdm]; exact hv
      have h7 := (hp _ x c hx hc).2.2 _ v hv2
      rw [Nat.add_assoc, hdm] at h7
      exact cell_below h7 hb) hfit (fun v hv => by
      obtain ⟨c, hc, hvc⟩ := List.mem_flatten.1 hv
      obtain ⟨j, hj⟩ := List.getElem?_of_mem hc
      obtain ⟨x, hx⟩ := get_some (l := ls2) (j := j) (by rw [← hc2]; exact get_lt hj)
      exact hone (hp j x c hx hj).2.1 v hvc)
    rw [hmin] at hrun
    unfold Oper.wp
    simp only [execOp, ho, resolve, invoke, builtin, Sem.run_bind, Sem.run_pure, Result.andThen_ok, List.map_toArray, List.map_cons, List.map_nil, hd, hs, hrun]
    exact hK' _ _ (hK _ hnew ⟨rfl, rfl, rfl, by simp [World.setRow], fun x _ hx => Go.setRow_other w g x _ hx⟩)
end

/-! ### elements of one's own among those of an older world -/
def RdEi {α : Type} (R : Rd α) (wB : World) : Rd (Bool × α) := fun w cs p => (p.1 = true → R w cs p.2) ∧ (p.1 = false → R wB cs p.2)
def OwEi {α : Type} (E : Ow α) (R : Rd α) (wB : World) : Ow (Bool × α) := fun w cs F p => (p.1 = true → E w cs F p.2) ∧ (p.1 = false → (∀ x, ¬ F x) ∧ R wB cs p.2)
theorem owEi_ok {α : Type} {n : Nat} {E : Ow α} {R : Rd α} (ok : OwOk n E R) (okr : RdOk n R) (wB : World) : OwOk n (OwEi E R wB) (RdEi R wB) where
  len := fun {w cs F p} h => by
    obtain ⟨b, x⟩ := p
    cases b
    · exact okr.len (h.2 rfl).2
    · exact ok.len (h.1 rfl)
  lt := fun {w cs F p} h y hy => by
    obtain ⟨b, x⟩ := p
    cases b
    · exact ((h.2 rfl).1 y hy).elim
    · exact ok.lt (h.1 rfl) y hy
  keep := fun {w w' cs F p} h hs => ⟨fun e => ok.keep (h.1 e) hs, h.2⟩
  rd := fun {w cs F p} h => ⟨fun e => ok.rd (h.1 e), fun e => (h.2 e).2⟩
theorem owEi_in {α : Type} {n : Nat} {T : TypeId} {E : Ow α} {R : Rd α} {wB w : World} {v : Value} {F : Fp} {ls : List α} (h : OwS n T (OwOn R wB) w [v] F ls) : OwS n T (OwEi E R wB) w [v] F (ls.map (fun a => (false, a))) := by
  obtain ⟨v', css, Fs, e, Q⟩ := h
  refine ⟨v', css, fun _ _ => False, e, ?_⟩
  exact {
    own := by rw [List.length_map]; exact Q.own
    size := by rw [List.length_map]; exact Q.size
    lens := Q.lens
    lt := Q.lt
    blk := Q.blk
    sub := fun _ _ _ h => h.elim
    apart := fun _ _ _ _ _ _ h => h.elim
    els := fun j c p hc hp => by
      rw [List.getElem?_map] at hp
      rcases h9 : ls[j]? with _ | a
      · rw [h9] at hp; cases hp
      · rw [h9] at hp
        simp only [Option.map_some, Option.some.injEq] at hp
        subst hp
        exact ⟨fun e => (by cases e), fun _ => ⟨fun _ h => h, (Q.els j c a hc h9).2⟩⟩ }
theorem owEi_out {α : Type} {n : Nat} {T : TypeId} {E : Ow α} {R : Rd α} {wB w : World} {v : Value} {F : Fp} {ls : List α} (h : OwS n T (OwEi E R wB) w [v] F (ls.map (fun a => (true, a)))) : OwS n T E w [v] F ls := by
  obtain ⟨v', css, Fs, e, Q⟩ := h
  refine ⟨v', css, Fs, e, ?_⟩
  exact {
    own := by have h7 := Q.own; rw [List.length_map] at h7; exact h7
    size := by have h7 := Q.size; rw [List.length_map] at h7; exact h7
    lens := Q.lens
    lt := Q.lt
    blk := Q.blk
    sub := fun j x hj => Q.sub j x (by rw [List.length_map]; exact hj)
    apart := fun i j x hi hj => Q.apart i j x (by rw [List.length_map]; exact hi) (by rw [List.length_map]; exact hj)
    els := fun j c a hc ha => (Q.els j c (true, a) hc (by rw [List.getElem?_map, ha]; rfl)).1 rfl }

end Go.Proofs.Ytlididoalekeoaa
/- Blocks of seven cells. -/
namespace Go.Proofs.Ytlididoalekeoaa
set_option maxRecDepth 4000
open Go.RowKit

/-- A block of seven cells that may be written: its cells. -/
theorem cells7 (w : World) (g : Nat) (a0 a1 a2 a3 a4 a5 a6 : Value) (T : TypeId) (hg : w.heap[g]? = some (.cells #[a0, a1, a2, a3, a4, a5, a6] T (0, 0))) :
    w.cell? ⟨g, 0, none⟩ = some a0 ∧ w.cell? ⟨g, 1, none⟩ = some a1 ∧ w.cell? ⟨g, 2, none⟩ = some a2 ∧ w.cell? ⟨g, 3, none⟩ = some a3 ∧ w.cell? ⟨g, 4, none⟩ = some a4 ∧ w.cell? ⟨g, 5, none⟩ = some a5 ∧ w.cell? ⟨g, 6, none⟩ = some a6 := by
  refine ⟨?_, ?_, ?_, ?_, ?_, ?_, ?_⟩
  · rw [cell_of_row w g 0 _ _ (0, 0) hg]; rfl
  · rw [cell_of_row w g 1 _ _ (0, 0) hg]; rfl
  · rw [cell_of_row w g 2 _ _ (0, 0) hg]; rfl
  · rw [cell_of_row w g 3 _ _ (0, 0) hg]; rfl
  · rw [cell_of_row w g 4 _ _ (0, 0) hg]; rfl
  · rw [cell_of_row w g 5 _ _ (0, 0) hg]; rfl
  · rw [cell_of_row w g 6 _ _ (0, 0) hg]; rfl
theorem free7 (w : World) (g : Nat) (a0 a1 a2 a3 a4 a5 a6 : Value) (T : TypeId) (hg : w.heap[g]? = some (.cells #[a0, a1, a2, a3, a4, a5, a6] T (0, 0))) :
    w.frozen? ⟨g, 0, none⟩ = false ∧ w.frozen? ⟨g, 1, none⟩ = false ∧ w.frozen? ⟨g, 2, none⟩ = false ∧ w.frozen? ⟨g, 3, none⟩ = false ∧ w.frozen? ⟨g, 4, none⟩ = false ∧ w.frozen? ⟨g, 5, none⟩ = false ∧ w.frozen? ⟨g, 6, none⟩ = false :=
  ⟨frozen_of_row w g 0 _ _ hg, frozen_of_row w g 1 _ _ hg, frozen_of_row w g 2 _ _ hg, frozen_of_row w g 3 _ _ hg, frozen_of_row w g 4 _ _ hg, frozen_of_row w g 5 _ _ hg, frozen_of_row w g 6 _ _ hg⟩
/-- One cell of a block, written. -/
theorem set_at {w : World} {g j : Nat} {cs : Array Value} {T : TypeId} (v : Value) (hg : w.heap[g]? = some (.cells cs T (0, 0))) : (w.setCell ⟨g, j, none⟩ v).heap[g]? = some (.cells (cs.setIfInBounds j v) T (0, 0)) := heap_setCell_same w g j _ _ _ hg
/-- A block of seven cells, all of them written. -/
theorem set7 {w : World} {g : Nat} {a0 a1 a2 a3 a4 a5 a6 : Value} {T : TypeId} (x0 x1 x2 x3 x4 x5 x6 : Value) (hg : w.heap[g]? = some (.cells #[a0, a1, a2, a3, a4, a5, a6] T (0, 0))) :
    (((((((w.setCell ⟨g, 0, none⟩ x0).setCell ⟨g, 1, none⟩ x1).setCell ⟨g, 2, none⟩ x2).setCell ⟨g, 3, none⟩ x3).setCell ⟨g, 4, none⟩ x4).setCell ⟨g, 5, none⟩ x5).setCell ⟨g, 6, none⟩ x6).heap[g]? = some (.cells #[x0, x1, x2, x3, x4, x5, x6] T (0, 0)) := by
  rw [set_at x6 (set_at x5 (set_at x4 (set_at x3 (set_at x2 (set_at x1 (set_at x0 hg))))))]
  simp
/-- A cell of another block, seven writes on. -/
theorem cell_set7 {w : World} {q : Nat} {x0 x1 x2 x3 x4 x5 x6 v : Value} {a : Addr} (h : w.cell? a = some v) (hne : a.block ≠ q) :
    (((((((w.setCell ⟨q, 0, none⟩ x0).setCell ⟨q, 1, none⟩ x1).setCell ⟨q, 2, none⟩ x2).setCell ⟨q, 3, none⟩ x3).setCell ⟨q, 4, none⟩ x4).setCell ⟨q, 5, none⟩ x5).setCell ⟨q, 6, none⟩ x6).cell? a = some v :=
  cell_set (cell_set (cell_set (cell_set (cell_set (cell_set (cell_set h hne) hne) hne) hne) hne) hne) hne
theorem bset7 {B : Nat} {a w : World} {q : Nat} {x0 x1 x2 x3 x4 x5 x6 : Value} (h : Below B a w) (hq : B ≤ q) :
    Below B a (((((((w.setCell ⟨q, 0, none⟩ x0).setCell ⟨q, 1, none⟩ x1).setCell ⟨q, 2, none⟩ x2).setCell ⟨q, 3, none⟩ x3).setCell ⟨q, 4, none⟩ x4).setCell ⟨q, 5, none⟩ x5).setCell ⟨q, 6, none⟩ x6) :=
  bset (bset (bset (bset (bset (bset (bset h _ hq) _ hq) _ hq) _ hq) _ hq) _ hq) _ hq
theorem block_set7 {w : World} {g q : Nat} {x0 x1 x2 x3 x4 x5 x6 : Value} {o : Option Obj} (h : w.heap[g]? = o) (hne : g ≠ q) :
    (((((((w.setCell ⟨q, 0, none⟩ x0).setCell ⟨q, 1, none⟩ x1).setCell ⟨q, 2, none⟩ x2).setCell ⟨q, 3, none⟩ x3).setCell ⟨q, 4, none⟩ x4).setCell ⟨q, 5, none⟩ x5).setCell ⟨q, 6, none⟩ x6).heap[g]? = o :=
  block_set (block_set (block_set (block_set (block_set (block_set (block_set h hne) hne) hne) hne) hne) hne) hne
theorem size_set7 {w : World} {q : Nat} {x0 x1 x2 x3 x4 x5 x6 : Value} :
    (((((((w.setCell ⟨q, 0, none⟩ x0).setCell ⟨q, 1, none⟩ x1).setCell ⟨q, 2, none⟩ x2).setCell ⟨q, 3, none⟩ x3).setCell ⟨q, 4, none⟩ x4).setCell ⟨q, 5, none⟩ x5).setCell ⟨q, 6, none⟩ x6).heap.size = w.heap.size := by simp

end Go.Proofs.Ytlididoalekeoaa
/- Two slices of bytes that are new, and apart. -/
namespace Go.Proofs.Ytlididoalekeoaa
set_option maxRecDepth 4000
open Go.RowKit

theorem OwnO.of_set {w : World} {B q j c : Nat} {v : Value} {ao : Option Addr} {bs : List UInt8} (h : OwnO w B ao c bs) (hq : q < B) : OwnO (w.setCell ⟨q, j, none⟩ v) B ao c bs := by
  rcases h with h | ⟨g, rfl, h1, hO⟩
  · exact .inl h
  · exact .inr ⟨g, rfl, h1, hO.of_block (block_set rfl (by omega))⟩
/-- Two slices of bytes, each in new memory, or nil; not the same. -/
structure Apart (w : World) (B : Nat) (a1 : Option Addr) (c1 : Nat) (b1 : List UInt8) (a2 : Option Addr) (c2 : Nat) (b2 : List UInt8) : Prop where
  one : OwnO w B a1 c1 b1
  two : OwnO w B a2 c2 b2
  ne : ∀ q, a1 = some ⟨q, 0, none⟩ → a2 ≠ some ⟨q, 0, none⟩
theorem Apart.below {w w' : World} {B : Nat} {a1 : Option Addr} {c1 : Nat} {b1 : List UInt8} {a2 : Option Addr} {c2 : Nat} {b2 : List UInt8} (h : Apart w B a1 c1 b1 a2 c2 b2) (hB : Below w.heap.size w w') : Apart w' B a1 c1 b1 a2 c2 b2 := ⟨h.one.below hB, h.two.below hB, h.ne⟩
theorem Apart.mono {w : World} {B B' : Nat} {a1 : Option Addr} {c1 : Nat} {b1 : List UInt8} {a2 : Option Addr} {c2 : Nat} {b2 : List UInt8} (h : Apart w B a1 c1 b1 a2 c2 b2) (hb : B' ≤ B) : Apart w B' a1 c1 b1 a2 c2 b2 := ⟨h.one.mono hb, h.two.mono hb, h.ne⟩
theorem Apart.of_set {w : World} {B q j : Nat} {v : Value} {a1 : Option Addr} {c1 : Nat} {b1 : List UInt8} {a2 : Option Addr} {c2 : Nat} {b2 : List UInt8} (h : Apart w B a1 c1 b1 a2 c2 b2) (hq : q < B) : Apart (w.setCell ⟨q, j, none⟩ v) B a1 c1 b1 a2 c2 b2 := ⟨h.one.of_set hq, h.two.of_set hq, h.ne⟩
theorem Apart.of_set7 {w : World} {B q : Nat} {x0 x1 x2 x3 x4 x5 x6 : Value} {a1 : Option Addr} {c1 : Nat} {b1 : List UInt8} {a2 : Option Addr} {c2 : Nat} {b2 : List UInt8} (h : Apart w B a1 c1 b1 a2 c2 b2) (hq : q < B) :
    Apart (((((((w.setCell ⟨q, 0, none⟩ x0).setCell ⟨q, 1, none⟩ x1).setCell ⟨q, 2, none⟩ x2).setCell ⟨q, 3, none⟩ x3).setCell ⟨q, 4, none⟩ x4).setCell ⟨q, 5, none⟩ x5).setCell ⟨q, 6, none⟩ x6) B a1 c1 b1 a2 c2 b2 :=
  ((((((h.of_set hq).of_set hq).of_set hq).of_set hq).of_set hq).of_set hq).of_set hq

end Go.Proofs.Ytlididoalekeoaa
