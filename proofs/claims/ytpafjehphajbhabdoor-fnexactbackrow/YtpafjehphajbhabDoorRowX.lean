/- A row by value, opened: a text, two cells (a number and bytes each), a number and a flag. -/
import Derived.WalkKit
import Derived.ProofKit
import Derived.OpenShut
import Derived.ChangeOld
import Derived.Lib.SmallJoins
namespace Go.Proofs.YtpafjehphajbhabDoor
set_option maxRecDepth 4000
open Go.ChangeShapes Go.WideShapes Go.ChangeAt Go.RowKit

theorem array7 {α : Type} {cs : Array α} (h : cs.size = 7) : ∃ c0 c1 c2 c3 c4 c5 c6, cs = #[c0, c1, c2, c3, c4, c5, c6] := by
  obtain ⟨l⟩ := cs
  match l, h with
  | [c0, c1, c2, c3, c4, c5, c6], _ => exact ⟨c0, c1, c2, c3, c4, c5, c6, rfl⟩

theorem trod_field {H : Type} {enc : TypeId × Value → H} {P : Program} {w : World} {base : Nat} {spare : Nat → Bool} {held : Bool} {t : TypeId} {fs : Array Field} {fuel : Nat} {cs : List Value} {x : DataW H × List MemPlace}
    (ht : P.underlying t = some (.struct fs)) (h : DataW.trod enc P w base spare held fuel t cs = some x) (i : Nat) (f : Field) (hf : fs[i]? = some f) {o k : Nat} (ho : f.offset = o) (hk : P.cellsOf f.type = k) :
    ∃ n y, DataW.trod enc P w base spare held n f.type ((cs.drop o).take k) = some y := by
  obtain ⟨xs, n, _, _, _, hlen, hx⟩ := DataW.trod_struct ht h
  have hi : i < xs.length := by rw [hlen]; exact (Array.getElem?_eq_some_iff.1 hf).1
  exact ⟨n, xs[i], by rw [← ho, ← hk, hx i f hf, List.getElem?_eq_getElem hi]⟩

theorem open_row {H : Type} {enc : TypeId × Value → H} {P : Program} {w : World} {base : Nat} {spare : Nat → Bool} {held : Bool} {r : Reach} {b0 : Nat} {t : TypeId} {f0 f1 f2 f3 f4 g0 g1 : Field} {v : Value} {d : DataW H} {p : List MemPlace}
    (hs : P.underlying t = some (.struct #[f0, f1, f2, f3, f4])) (hc1 : P.underlying f1.type = some (.struct #[g0, g1])) (hc2 : P.underlying f2.type = some (.struct #[g0, g1]))
    (ho : f0.offset = 0 ∧ f1.offset = 1 ∧ f2.offset = 3 ∧ f3.offset = 5 ∧ f4.offset = 6 ∧ g0.offset = 0 ∧ g1.offset = 1)
    (hk : P.cellsOf f0.type = 1 ∧ P.cellsOf f1.type = 2 ∧ P.cellsOf f2.type = 2 ∧ P.cellsOf f3.type = 1 ∧ P.cellsOf f4.type = 1 ∧ P.cellsOf g0.type = 1 ∧ P.cellsOf g1.type = 1) (hC : P.cellsOf t = 7)
    (hv : Value.okWide P w r b0 t v) (h : DataW.Trod enc P w base spare held t v d p) :
    ∃ (c0 c1 c2 c3 c4 c5 c6 : Value), v = .agg #[c0, c1, c2, c3, c4, c5, c6] ∧
      (∃ n y, DataW.trod enc P w base spare held n f0.type [c0] = some y) ∧ (∃ n y, DataW.trod enc P w base spare held n g0.type [c1] = some y) ∧ (∃ n y, DataW.trod enc P w base spare held n g1.type [c2] = some y) ∧
      (∃ n y, DataW.trod enc P w base spare held n g0.type [c3] = some y) ∧ (∃ n y, DataW.trod enc P w base spare held n g1.type [c4] = some y) ∧
      (∃ n y, DataW.trod enc P w base spare held n f3.type [c5] = some y) ∧ (∃ n y, DataW.trod enc P w base spare held n f4.type [c6] = some y) := by
  obtain ⟨cs, rfl, hsz⟩ := okWide_struct hs hv
  obtain ⟨c0, c1, c2, c3, c4, c5, c6, rfl⟩ := array7 (hsz.trans hC)
  obtain ⟨fuel, hf⟩ := h
  obtain ⟨n0, y0, h0⟩ := trod_field hs hf 0 f0 rfl ho.1 hk.1
  obtain ⟨n1, y1, h1⟩ := trod_field hs hf 1 f1 rfl ho.2.1 hk.2.1
  obtain ⟨n2, y2, h2⟩ := trod_field hs hf 2 f2 rfl ho.2.2.1 hk.2.2.1
  obtain ⟨n3, y3, h3⟩ := trod_field hs hf 3 f3 rfl ho.2.2.2.1 hk.2.2.2.1
  obtain ⟨n4, y4, h4⟩ := trod_field hs hf 4 f4 rfl ho.2.2.2.2.1 hk.2.2.2.2.1
  obtain ⟨m1, z1, k1⟩ := trod_field hc1 h1 0 g0 rfl ho.2.2.2.2.2.1 hk.2.2.2.2.2.1
  obtain ⟨m2, z2, k2⟩ := trod_field hc1 h1 1 g1 rfl ho.2.2.2.2.2.2 hk.2.2.2.2.2.2
  obtain ⟨m3, z3, k3⟩ := trod_field hc2 h2 0 g0 rfl ho.2.2.2.2.2.1 hk.2.2.2.2.2.1
  obtain ⟨m4, z4, k4⟩ := trod_field hc2 h2 1 g1 rfl ho.2.2.2.2.2.2 hk.2.2.2.2.2.2
  exact ⟨c0, c1, c2, c3, c4, c5, c6, rfl, ⟨n0, y0, by simpa [Value.cells] using h0⟩, ⟨m1, z1, by simpa [Value.cells] using k1⟩, ⟨m2, z2, by simpa [Value.cells] using k2⟩, ⟨m3, z3, by simpa [Value.cells] using k3⟩, ⟨m4, z4, by simpa [Value.cells] using k4⟩, ⟨n3, y3, by simpa [Value.cells] using h3⟩, ⟨n4, y4, by simpa [Value.cells] using h4⟩⟩

end Go.Proofs.YtpafjehphajbhabDoor
