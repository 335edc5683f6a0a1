/- Proved: for every slice of numbers, laws.FnExactTextOf returns true, that is impl.TextOf answers as spec.TextOf and writes into no argument; no condition. -/
import Derived.Test.YtnfjmpljfplahabRows
import Derived.WalkKit
import Derived.ProofKit
import Derived.OpenShut
import Derived.ShutString
import Derived.ChangeOld
import Derived.Below
import Derived.Test.YtnfjmpljfplahabText
namespace Go.Proofs.Ytnfjmpljfplahab.fnExactTextOf
open Go.ChangeShapes Go.WideShapes Go.ChangeAt Go.RowKit
open Go.ChangeMaps (open_string shut_string)
set_option linter.unusedVariables false

theorem own : ownKnob Try.prog.godebug = none := by kernel_rfl
theorem laidOut : laidOutB Try.prog = true := by kernel_rfl

def IsRow (k : IntKind) (w : World) (a : Option Addr) (len cap : Nat) (zs : List Int) : Prop :=
  (a = none ∧ len = 0 ∧ cap = 0 ∧ zs = []) ∨
  ∃ x, a = some x ∧ len ≤ cap ∧ cap ≤ maxLen ∧ zs.length = cap ∧ (∀ i, i < zs.length → w.cell? (x.add i) = some (.int k (zs.getD i 0))) ∧ ∀ n ∈ zs, (Lit.int k n).wf = true

theorem walk (a0 : Option Addr) (len0 cap0 : Nat) (z0 : List Int) (w : World) (w0 : IsRow .i64 w a0 len0 cap0 z0) :
    Calls Try.prog 3 #[.slice a0 len0 cap0] w fun e w' => e = .returned (.bool true) ∧ Below w.heap.size w w' := by
  obtain ⟨l, hr⟩ := readsI_of_row w0
  by_cases hb : 1048576 < len0
  · clear hr w0
    go_enter Try.func3, Try.ntmps3
    go_wp2_with fail
    go_ret
    exact ⟨rfl, Below.refl _ _⟩
  · have Hn : Hd (l.length = len0) := ⟨hr.1⟩
    have Hr : Hd (ReadsI w a0 len0 l) := ⟨hr⟩
    clear w0 hr
    go_enter Try.func3, Try.ntmps3
    go_wp2_with fail
    refine (toIntS_any a0 len0 cap0 l _ Hr.out (by omega)).mono ?_
    rintro e w1 ⟨rfl, hR1, hB1⟩
    have HR1 : Hd (RowI w1 w.heap.size l) := ⟨hR1⟩
    have HB1 : Hd (Below w.heap.size w w1) := ⟨hB1⟩
    clear hR1 hB1
    go_wp2_with fail
    refine (specTextOf_any _ len0 len0 l _ (HR1.out.reads Hn.out) (by omega)).mono ?_
    rintro e w2 ⟨rfl, hB2⟩
    have HB2 : Hd (Below w.heap.size w w2) := ⟨Below.next HB1.out hB2⟩
    clear hB2 HR1 HB1
    go_wp2_with fail
    refine (toIntS_any a0 len0 cap0 l _ (Hr.out.below rfl HB2.out) (by omega)).mono ?_
    rintro e w3 ⟨rfl, hR3, hB3⟩
    have HR3 : Hd (RowI w3 w2.heap.size l) := ⟨hR3⟩
    have HB3 : Hd (Below w.heap.size w w3) := ⟨Below.next HB2.out hB3⟩
    clear hR3 hB3 HB2
    go_wp2_with fail
    refine (implTextOf_any _ len0 len0 l _ (HR3.out.reads Hn.out) (by omega)).mono ?_
    rintro e w4 ⟨rfl, hB4⟩
    have HR4 : Hd (RowI w4 w2.heap.size l) := ⟨HR3.out.below hB4⟩
    have HB4 : Hd (Below w.heap.size w w4) := ⟨Below.next HB3.out hB4⟩
    clear hB4 HR3 HB3
    generalize (l.flatMap signB).toArray = T
    go_wp2_with fail
    refine (toIntS_any a0 len0 cap0 l _ (Hr.out.below rfl HB4.out) (by omega)).mono ?_
    rintro e w5 ⟨rfl, hR5, hB5⟩
    have HR5 : Hd (RowI w5 w4.heap.size l) := ⟨hR5⟩
    have HX5 : Hd (RowI w5 w2.heap.size l) := ⟨HR4.out.below hB5⟩
    have HB5 : Hd (Below w.heap.size w w5) := ⟨Below.next HB4.out hB5⟩
    clear hR5 hB5 HR4 HB4
    go_wp2_with fail
    refine (eqIntS_true _ _ _ _ len0 l _ (by omega) (HX5.out.reads Hn.out) (HR5.out.reads Hn.out)).mono ?_
    rintro e w6 ⟨rfl, hB6⟩
    have HB6 : Hd (Below w.heap.size w w6) := ⟨Below.next HB5.out hB6⟩
    go_wp2_with fail
    go_ret
    exact ⟨rfl, HB6.out⟩

set_option maxRecDepth 100000 in
theorem lifted (os : Os) (started : os.Started) (H : Type) (enc : TypeId × Value → H) :
    ReturnsInHanded {} Try.checked os 3 .any (Rows.fnExactTextOfSpec.pre6 enc Try.prog Try.f3 Rows.fnExactTextOfRow.domain false) (Rows.fnExactTextOfSpec.post enc Try.prog Try.f3 false true false false) := by
  refine returnsInHanded_of_change (C := Try.checked) own started (by kernel_rfl) Try.func3
    (ChangeSpec.witness6 (enc := enc) (C := Try.checked) false ⟨#[], #[.slice none 0 0], []⟩ 8 (by kernel_rfl) (by kernel_rfl) (by kernel_rfl) (by kernel_rfl)) ?_
  intro W base args ds gs before hval0 hW hcnd _
  have hval : ∀ (j : Nat) t v, Try.f3.params[j]? = some t → args[j]? = some v → Value.okWide Try.prog W .any base t v := hval0
  have hW' := hW
  obtain ⟨p, q, hA0, hV, rfl, hfz, hnd⟩ := hW
  have hA : DataW.TrodAll enc Try.prog W 0 (fun _ => true) true Try.f3.params.toList args.toList ds p := hA0
  rw [Try.params3] at hA hval
  obtain ⟨v0, vs0, d0, ds0, p0, q0, hargs, rfl, rfl, h0, r0⟩ := trodAll_cons hA
  obtain ⟨rfl, rfl, rfl⟩ := trodAll_nil r0
  obtain rfl : args = #[v0] := by cases args; simp_all
  obtain ⟨rfl, rfl⟩ := trodVars_none hV
  obtain ⟨a0, len0, cap0, rfl⟩ := okWide_slice Try.underlying22 (hval 0 22 v0 rfl rfl)
  have k0 := h0
  have lt0 : ∀ x ∈ p0, x.block < W.heap.size := by obtain ⟨m, hm⟩ := k0; exact DataW.trod_lt m _ _ _ hm
  obtain ⟨z0, w0⟩ : ∃ zs, IsRow .i64 W a0 len0 cap0 zs := by
    obtain ⟨fuel, hf⟩ := h0
    rcases open_ints Try.underlying22 Try.underlying3 (by kernel_rfl) hf with ⟨hcs, _⟩ | ⟨x, l, c, zs, hcs, _, hl, hm, hz, _, hcell, hwz⟩
    · simp [Value.cells] at hcs
      obtain ⟨rfl, rfl, rfl⟩ := hcs
      exact ⟨[], .inl ⟨rfl, rfl, rfl, rfl⟩⟩
    · simp [Value.cells] at hcs
      obtain ⟨rfl, rfl, rfl⟩ := hcs
      exact ⟨zs, .inr ⟨_, rfl, hl, hm, by simpa using hz, hcell, hwz⟩⟩
  clear hA0 hval0
  refine (walk a0 len0 cap0 z0 W w0).mono fun e W' ⟨he, bel⟩ => ?_
  subst he
  exact ⟨_, rfl, _, _, _, [], _, [], hW', trodAll_mk1 (shut_bool Try.underlying4 _), (trodAll_cons_mk (Below.trod laidOut (by kernel_rfl) (of_decide_eq_true (by kernel_rfl)) k0 bel lt0) trodAll_mk0), rfl, bel.frame _, fun h => by cases h⟩

theorem over : Rows.fnExactTextOfRow.holds Try.pinned (OpenSpec.ofChange Rows.fnExactTextOfSpec) :=
  OpenClaim.holds_of_wide 3 Try.f3 rfl rfl rfl rfl rfl rfl rfl ⟨rfl, rfl, rfl, rfl, rfl⟩ rfl rfl rfl rfl rfl (by kernel_rfl) Try.func3 (by kernel_rfl)
    (of_decide_eq_true (by kernel_rfl)) (by unfold Func.isWrapper; first | (rw [if_pos (by decide +kernel)]; kernel_rfl) | (rw [if_neg (by decide +kernel)]; exact ⟨rfl, rfl⟩))
    (fun os started H enc _ => lifted os started H enc)

end Go.Proofs.Ytnfjmpljfplahab.fnExactTextOf

namespace Go.Proofs.Ytnfjmpljfplahab
theorem fnExactTextOf_holds : Rows.FnExactTextOfSaid := fnExactTextOf.over
#print axioms fnExactTextOf_holds
end Go.Proofs.Ytnfjmpljfplahab
