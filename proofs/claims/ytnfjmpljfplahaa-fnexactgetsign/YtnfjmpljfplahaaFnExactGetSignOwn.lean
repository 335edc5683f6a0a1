/- Proved: for every slice of bytes and every place, laws.FnExactGetSign returns true, that is impl.GetSign answers as spec.GetSign and writes into no argument; no condition. -/
import Derived.Test.YtnfjmpljfplahaaRows
import Derived.WalkKit
import Derived.ProofKit
import Derived.OpenShut
import Derived.ShutString
import Derived.ChangeOld
import Derived.Below
import Derived.Test.YtnfjmpljfplahaaGetSpecB
namespace Go.Proofs.Ytnfjmpljfplahaa.fnExactGetSign
open Go.ChangeShapes Go.WideShapes Go.ChangeAt Go.RowKit
open Go.ChangeMaps (open_string shut_string)
set_option linter.unusedVariables false

theorem own : ownKnob Try.prog.godebug = none := by kernel_rfl
theorem laidOut : laidOutB Try.prog = true := by kernel_rfl

def IsRow (k : IntKind) (w : World) (a : Option Addr) (len cap : Nat) (zs : List Int) : Prop :=
  (a = none ∧ len = 0 ∧ cap = 0 ∧ zs = []) ∨
  ∃ x, a = some x ∧ len ≤ cap ∧ cap ≤ maxLen ∧ zs.length = cap ∧ (∀ i, i < zs.length → w.cell? (x.add i) = some (.int k (zs.getD i 0))) ∧ ∀ n ∈ zs, (Lit.int k n).wf = true

theorem walk (a0 : Option Addr) (len0 cap0 : Nat) (z0 : List Int) (a1 : Int) (w : World) (w0 : IsRow .u8 w a0 len0 cap0 z0) (w1 : (Lit.int .i64 a1).wf = true) :
    Calls Try.prog 7 #[.slice a0 len0 cap0, .int .i64 a1] w fun e w' => e = .returned (.bool true) ∧ Below w.heap.size w w' := by
  obtain ⟨bs, hr⟩ := reads_of_row w0
  by_cases hb : 1048576 < len0
  · clear hr w0
    go_enter Try.func7, Try.ntmps7
    go_wp2_with fail
    go_ret
    exact ⟨rfl, Below.refl _ _⟩
  · have hn : bs.length = len0 := hr.1
    have Hn : Hid (bs.length = len0) := hn
    clear hn w0
    go_enter Try.func7, Try.ntmps7
    go_wp2_with fail
    refine (toByteS_any a0 len0 cap0 bs _ hr (by omega)).mono ?_
    rintro e w1 ⟨rfl, hR1, hB1⟩
    go_wp2_with fail
    refine (specGetSign_any _ 0 len0 len0 bs a1 _ Hn.out (Nat.le_refl _) (fun j hj => by rw [Nat.zero_add]; exact hR1.cell j (by rw [Hn.out]; exact hj)) (by omega)).mono ?_
    rintro e w2 ⟨⟨r1, r2, r3⟩, rfl, hG2, hB12⟩
    have HG : Hd (GotAt bs a1 (r1, r2, r3)) := ⟨hG2⟩
    have hB2 : Below w.heap.size w w2 := Below.next hB1 hB12
    have hr2 : Reads w2 a0 len0 bs := hr.below rfl hB2
    clear hG2 hR1 hB1 hr hB12
    go_wp2_with fail
    refine (toByteS_any a0 len0 cap0 bs _ hr2 (by omega)).mono ?_
    rintro e w3 ⟨rfl, hR3, hB3⟩
    have hB3' : Below w.heap.size w w3 := Below.next hB2 hB3
    have hr3 : Reads w3 a0 len0 bs := hr2.below rfl hB3
    clear hB2 hr2
    go_wp2_with fail
    refine (implGetSign_any _ 0 len0 len0 bs a1 _ Hn.out (Nat.le_refl _) (fun j hj => by rw [Nat.zero_add]; exact hR3.cell j (by rw [Hn.out]; exact hj)) (by omega)).mono ?_
    rintro e w4 ⟨⟨q1, q2, q3⟩, rfl, hG4, hB4⟩
    have hq := gotAt_unique hG4 HG.out
    simp only [Prod.mk.injEq] at hq
    obtain ⟨hq1, hq2, hq3⟩ := hq
    subst hq1 hq2 hq3
    have hR4 := hR3.below hB4
    have hr4 : Reads w4 a0 len0 bs := hr3.below rfl hB4
    have hB4' : Below w.heap.size w w4 := Below.next hB3' hB4
    clear hG4 hR3 hB3 hB3' hr3 hB4
    have e1 : (q1 != q1) = false := by simp
    have e2 : (q2 != q2) = false := by simp
    have e3 : (q3 != q3) = false := by simp
    go_wp2_with fail
    refine (toByteS_any a0 len0 cap0 bs _ hr4 (by omega)).mono ?_
    rintro e w5 ⟨rfl, hR5, hB5⟩
    have hR4' := hR4.below hB5
    have hB5' : Below w.heap.size w w5 := Below.next hB4' hB5
    clear hR4 hr4 hB4' hB5
    go_wp2_with fail
    refine (eqByteS_true _ _ _ _ len0 bs _ (by omega) (hR4'.reads Hn.out) (hR5.reads Hn.out)).mono ?_
    rintro e w6 ⟨rfl, hB6⟩
    have hB6' : Below w.heap.size w w6 := Below.next hB5' hB6
    go_wp2_with fail
    go_ret
    exact ⟨rfl, hB6'⟩

set_option maxRecDepth 100000 in
theorem lifted (os : Os) (started : os.Started) (H : Type) (enc : TypeId × Value → H) :
    ReturnsInHanded {} Try.checked os 7 .any (Rows.fnExactGetSignSpec.pre6 enc Try.prog Try.f7 Rows.fnExactGetSignRow.domain false) (Rows.fnExactGetSignSpec.post enc Try.prog Try.f7 false true false false) := by
  refine returnsInHanded_of_change (C := Try.checked) own started (by kernel_rfl) Try.func7
    (ChangeSpec.witness6 (enc := enc) (C := Try.checked) false ⟨#[], #[.slice none 0 0, .int .i64 0], []⟩ 8 (by kernel_rfl) (by kernel_rfl) (by kernel_rfl) (by kernel_rfl)) ?_
  intro W base args ds gs before hval0 hW hcnd _
  have hval : ∀ (j : Nat) t v, Try.f7.params[j]? = some t → args[j]? = some v → Value.okWide Try.prog W .any base t v := hval0
  have hW' := hW
  obtain ⟨p, q, hA0, hV, rfl, hfz, hnd⟩ := hW
  have hA : DataW.TrodAll enc Try.prog W 0 (fun _ => true) true Try.f7.params.toList args.toList ds p := hA0
  rw [Try.params7] at hA hval
  obtain ⟨v0, vs0, d0, ds0, p0, q0, hargs, rfl, rfl, h0, r0⟩ := trodAll_cons hA
  obtain ⟨v1, vs1, d1, ds1, p1, q1, rfl, rfl, rfl, h1, r1⟩ := trodAll_cons r0
  obtain ⟨rfl, rfl, rfl⟩ := trodAll_nil r1
  obtain rfl : args = #[v0, v1] := by cases args; simp_all
  obtain ⟨rfl, rfl⟩ := trodVars_none hV
  obtain ⟨a0, len0, cap0, rfl⟩ := okWide_slice Try.underlying22 (hval 0 22 v0 rfl rfl)
  have k0 := h0
  have lt0 : ∀ x ∈ p0, x.block < W.heap.size := by obtain ⟨m, hm⟩ := k0; exact DataW.trod_lt m _ _ _ hm
  obtain ⟨z0, w0⟩ : ∃ zs, IsRow .u8 W a0 len0 cap0 zs := by
    obtain ⟨fuel, hf⟩ := h0
    rcases open_ints Try.underlying22 Try.underlying5 (by kernel_rfl) hf with ⟨hcs, _⟩ | ⟨x, l, c, zs, hcs, _, hl, hm, hz, _, hcell, hwz⟩
    · simp [Value.cells] at hcs
      obtain ⟨rfl, rfl, rfl⟩ := hcs
      exact ⟨[], .inl ⟨rfl, rfl, rfl, rfl⟩⟩
    · simp [Value.cells] at hcs
      obtain ⟨rfl, rfl, rfl⟩ := hcs
      exact ⟨zs, .inr ⟨_, rfl, hl, hm, by simpa using hz, hcell, hwz⟩⟩
  obtain ⟨a1, rfl, rfl, rfl, w1⟩ := open_int Try.underlying3 (hval 1 3 v1 rfl rfl) h1
  clear hA0 hval0
  refine (walk a0 len0 cap0 z0 a1 W w0 w1).mono fun e W' ⟨he, bel⟩ => ?_
  subst he
  exact ⟨_, rfl, _, _, _, [], _, [], hW', trodAll_mk1 (shut_bool Try.underlying4 _), (trodAll_cons_mk (Below.trod laidOut (by kernel_rfl) (of_decide_eq_true (by kernel_rfl)) k0 bel lt0) (trodAll_cons_mk (shut_int Try.underlying3 w1) trodAll_mk0)), rfl, bel.frame _, fun h => by cases h⟩

theorem over : Rows.fnExactGetSignRow.holds Try.pinned (OpenSpec.ofChange Rows.fnExactGetSignSpec) :=
  OpenClaim.holds_of_wide 7 Try.f7 rfl rfl rfl rfl rfl rfl rfl ⟨rfl, rfl, rfl, rfl, rfl⟩ rfl rfl rfl rfl rfl (by kernel_rfl) Try.func7 (by kernel_rfl)
    (of_decide_eq_true (by kernel_rfl)) (by unfold Func.isWrapper; first | (rw [if_pos (by decide +kernel)]; kernel_rfl) | (rw [if_neg (by decide +kernel)]; exact ⟨rfl, rfl⟩))
    (fun os started H enc _ => lifted os started H enc)

end Go.Proofs.Ytnfjmpljfplahaa.fnExactGetSign

namespace Go.Proofs.Ytnfjmpljfplahaa
theorem fnExactGetSign_holds : Rows.FnExactGetSignSaid := fnExactGetSign.over
#print axioms fnExactGetSign_holds
end Go.Proofs.Ytnfjmpljfplahaa
