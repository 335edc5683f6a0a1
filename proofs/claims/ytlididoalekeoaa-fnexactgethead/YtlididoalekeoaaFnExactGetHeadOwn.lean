/- FnExactGetHead holds of every list of bytes: the program reads a head of them where the document's reading does, and writes nothing. -/
import Derived.Test.YtlididoalekeoaaRows
import Derived.WalkKit
import Derived.ProofKit
import Derived.OpenShut
import Derived.ShutString
import Derived.ChangeOld
import Derived.Below
import Derived.Test.YtlididoalekeoaaHeadG
namespace Go.Proofs.Ytlididoalekeoaa.fnExactGetHead
open Go.ChangeShapes Go.WideShapes Go.ChangeAt Go.RowKit
open Go.ChangeMaps (open_string shut_string)
set_option linter.unusedVariables false

theorem own : ownKnob Try.prog.godebug = none := by kernel_rfl
theorem laidOut : laidOutB Try.prog = true := by kernel_rfl

def IsRow (k : IntKind) (w : World) (a : Option Addr) (len cap : Nat) (zs : List Int) : Prop :=
  (a = none ∧ len = 0 ∧ cap = 0 ∧ zs = []) ∨
  ∃ x, a = some x ∧ len ≤ cap ∧ cap ≤ maxLen ∧ zs.length = cap ∧ (∀ i, i < zs.length → w.cell? (x.add i) = some (.int k (zs.getD i 0))) ∧ ∀ n ∈ zs, (Lit.int k n).wf = true

theorem walk (a0 : Option Addr) (len0 cap0 : Nat) (z0 : List Int) (w : World) (w0 : IsRow .u8 w a0 len0 cap0 z0) :
    Calls Try.prog 4 #[.slice a0 len0 cap0] w fun e w' => e = .returned (.bool true) ∧ Below w.heap.size w w' := by
  obtain ⟨bs, hr⟩ := reads_of_row w0
  by_cases hb : 1048576 < len0
  · clear hr w0
    go_enter Try.func4, Try.ntmps4
    go_wp2_with fail
    go_ret
    exact ⟨rfl, Below.refl _ _⟩
  · have hn : bs.length = len0 := hr.1
    have Hn : Hd (bs.length = len0) := ⟨hn⟩
    clear hn w0
    obtain ⟨⟨g0, g1, g2⟩, hg⟩ : ∃ x, hdGet bs = x := ⟨_, rfl⟩
    have HG : Hd (hdGet bs = (g0, g1, g2)) := ⟨hg⟩
    clear hg
    go_enter Try.func4, Try.ntmps4
    go_wp2_with fail
    refine (toByteS_any a0 len0 cap0 bs _ hr (by omega)).mono ?_
    rintro e w1 ⟨rfl, hR1, hB1⟩
    go_wp2_with fail
    refine (specGetHead_any _ len0 len0 bs _ (hR1.reads Hn.out) (Nat.le_refl _) (by omega)).mono ?_
    rintro e w2 ⟨rfl, hd2⟩
    rewrite [HG.out]
    have hB2 : Below w.heap.size w w2 := Below.next hB1 hd2
    have hr2 : Reads w2 a0 len0 bs := hr.below rfl hB2
    clear hd2 hR1 hB1 hr
    go_wp2_with fail
    refine (toByteS_any a0 len0 cap0 bs _ hr2 (by omega)).mono ?_
    rintro e w3 ⟨rfl, hR3, hB3⟩
    have hB3' : Below w.heap.size w w3 := Below.next hB2 hB3
    have hr3 : Reads w3 a0 len0 bs := hr2.below rfl hB3
    clear hB2 hr2
    go_wp2_with fail
    refine (implGetHead_any _ len0 len0 bs _ (hR3.reads Hn.out) (by omega)).mono ?_
    rintro e w4 ⟨rfl, hB4⟩
    rewrite [HG.out]
    have hR4 := hR3.below hB4
    have hr4 : Reads w4 a0 len0 bs := hr3.below rfl hB4
    have hB4' : Below w.heap.size w w4 := Below.next hB3' hB4
    clear hR3 hB3 hB3' hr3 hB4
    have e0 : (g0 != g0) = false := by simp
    have e1 : (g1 != g1) = false := by simp
    have e2 : (g2 != g2) = false := by simp
    go_wp2_with fail
    refine (toByteS_any a0 len0 cap0 bs _ hr4 (by omega)).mono ?_
    rintro e w5 ⟨rfl, hR5, hB5⟩
    have hR4' := hR4.below hB5
    have hB5' : Below w.heap.size w w5 := Below.next hB4' hB5
    clear hR4 hr4 hB4' hB5
    go_wp2_with fail
    refine (eqByteS_true _ _ _ _ len0 bs _ (by omega) (hR4'.reads Hn.out) (hR5.reads Hn.out)).mono ?_
    rintro e w6 ⟨rfl, hB6⟩
    have hB6' : Below w.heap.size w w6 := Below.next hB5' hB6
    go_wp2_with fail
    go_ret
    exact ⟨rfl, hB6'⟩

set_option maxRecDepth 100000 in
theorem lifted (os : Os) (started : os.Started) (H : Type) (enc : TypeId × Value → H) :
    ReturnsInHanded {} Try.checked os 4 .any (Rows.fnExactGetHeadSpec.pre6 enc Try.prog Try.f4 Rows.fnExactGetHeadRow.domain false) (Rows.fnExactGetHeadSpec.post enc Try.prog Try.f4 false true false false) := by
  refine returnsInHanded_of_change (C := Try.checked) own started (by kernel_rfl) Try.func4
    (ChangeSpec.witness6 (enc := enc) (C := Try.checked) false ⟨#[], #[.slice none 0 0], []⟩ 8 (by kernel_rfl) (by kernel_rfl) (by kernel_rfl) (by kernel_rfl)) ?_
  intro W base args ds gs before hval0 hW hcnd _
  have hval : ∀ (j : Nat) t v, Try.f4.params[j]? = some t → args[j]? = some v → Value.okWide Try.prog W .any base t v := hval0
  have hW' := hW
  obtain ⟨p, q, hA0, hV, rfl, hfz, hnd⟩ := hW
  have hA : DataW.TrodAll enc Try.prog W 0 (fun _ => true) true Try.f4.params.toList args.toList ds p := hA0
  rw [Try.params4] at hA hval
  obtain ⟨v0, vs0, d0, ds0, p0, q0, hargs, rfl, rfl, h0, r0⟩ := trodAll_cons hA
  obtain ⟨rfl, rfl, rfl⟩ := trodAll_nil r0
  obtain rfl : args = #[v0] := by cases args; simp_all
  obtain ⟨rfl, rfl⟩ := trodVars_none hV
  obtain ⟨a0, len0, cap0, rfl⟩ := okWide_slice Try.underlying22 (hval 0 22 v0 rfl rfl)
  have k0 := h0
  have lt0 : ∀ x ∈ p0, x.block < W.heap.size := by obtain ⟨m, hm⟩ := k0; exact DataW.trod_lt m _ _ _ hm
  obtain ⟨z0, w0⟩ : ∃ zs, IsRow .u8 W a0 len0 cap0 zs := by
    obtain ⟨fuel, hf⟩ := h0
    rcases open_ints Try.underlying22 Try.underlying5 (by kernel_rfl) hf with ⟨hcs, _⟩ | ⟨x, l, c, zs, hcs, _, hl, hm, hz, _, hcell, hwz⟩
    · simp [Value.cells] at hcs
      obtain ⟨rfl, rfl, rfl⟩ := hcs
      exact ⟨[], .inl ⟨rfl, rfl, rfl, rfl⟩⟩
    · simp [Value.cells] at hcs
      obtain ⟨rfl, rfl, rfl⟩ := hcs
      exact ⟨zs, .inr ⟨_, rfl, hl, hm, by simpa using hz, hcell, hwz⟩⟩
  clear hA0 hval0
  refine (walk a0 len0 cap0 z0 W w0).mono fun e W' ⟨he, bel⟩ => ?_
  subst he
  exact ⟨_, rfl, _, _, _, [], _, [], hW', trodAll_mk1 (shut_bool Try.underlying4 _), (trodAll_cons_mk (Below.trod laidOut (by kernel_rfl) (of_decide_eq_true (by kernel_rfl)) k0 bel lt0) trodAll_mk0), rfl, bel.frame _, fun h => by cases h⟩

theorem over : Rows.fnExactGetHeadRow.holds Try.pinned (OpenSpec.ofChange Rows.fnExactGetHeadSpec) :=
  OpenClaim.holds_of_wide 4 Try.f4 rfl rfl rfl rfl rfl rfl rfl ⟨rfl, rfl, rfl, rfl, rfl⟩ rfl rfl rfl rfl rfl (by kernel_rfl) Try.func4 (by kernel_rfl)
    (of_decide_eq_true (by kernel_rfl)) (by unfold Func.isWrapper; first | (rw [if_pos (by decide +kernel)]; kernel_rfl) | (rw [if_neg (by decide +kernel)]; exact ⟨rfl, rfl⟩))
    (fun os started H enc _ => lifted os started H enc)

end Go.Proofs.Ytlididoalekeoaa.fnExactGetHead

namespace Go.Proofs.Ytlididoalekeoaa
theorem fnExactGetHead_holds : Rows.FnExactGetHeadSaid := fnExactGetHead.over
#print axioms fnExactGetHead_holds
end Go.Proofs.Ytlididoalekeoaa
