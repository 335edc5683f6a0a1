/- Proved: at every set and all bytes Score of the program answers as the specification, and leaves its argument alone; the condition: the program's tables start as its text lays them. -/
import Derived.Test.YtejlellhoamjgaaDoorCards
import Derived.Test.YtejlellhoamjgaaDoorTie
import Derived.WalkKit
import Derived.ProofKit
import Derived.OpenShut
import Derived.ShutString
import Derived.ChangeOld
import Derived.Below
import Derived.OpenVars
import Derived.Lay
import Derived.MakeChecks
import Derived.SevenTiedAt
import Derived.Stop.Joined
import Derived.Lib.SmallJoins
import Derived.Test.YtejlellhoamjgaaDoorScore
import Derived.Test.YtejlellhoamjgaaDoorLaidW
namespace Go.Proofs.YtejlellhoamjgaaDoor.fnExactScore
open Go.ChangeShapes Go.WideShapes Go.ChangeAt Go.RowKit
open Go.ChangeMaps (open_string shut_string)
set_option linter.unusedVariables false

theorem own : ownKnob Tryd.prog.godebug = none := by kernel_rfl
theorem laidOut : laidOutB Tryd.prog = true := by kernel_rfl

def IsRow (k : IntKind) (w : World) (a : Option Addr) (len cap : Nat) (zs : List Int) : Prop :=
  (a = none ∧ len = 0 ∧ cap = 0 ∧ zs = []) ∨
  ∃ x, a = some x ∧ len ≤ cap ∧ cap ≤ maxLen ∧ zs.length = cap ∧ (∀ i, i < zs.length → w.cell? (x.add i) = some (.int k (zs.getD i 0))) ∧ ∀ n ∈ zs, (Lit.int k n).wf = true

set_option maxRecDepth 4000 in
theorem walk (a0 : Int) (w0 : (Lit.int .i64 a0).wf = true) (a1 : Option Addr) (len1 cap1 : Nat) (z1 : List Int) (w : World) (w1 : IsRow .u8 w a1 len1 cap1 z1) (T : Hd (AllW w)) :
    Calls Tryd.prog 4 #[.int .i64 a0, .slice a1 len1 cap1] w fun e w' => e = .returned (.bool true) ∧ Below w.heap.size w w' := by
  obtain ⟨bs, hr⟩ := reads_of_row w1
  clear w0
  by_cases hb : 1048576 < len1
  · clear hr w1 T
    go_enter Tryd.func4, Tryd.ntmps4
    go_wp2_with fail
    go_ret
    exact ⟨rfl, Below.refl _ _⟩
  · have Hn : Hd (bs.length = len1) := ⟨hr.1⟩
    have Hr : Hd (Reads w a1 len1 bs) := ⟨hr⟩
    obtain ⟨S, hS⟩ : ∃ S, scoN a0 bs = S := ⟨_, rfl⟩
    have HS : Hd (scoN a0 bs = S) := ⟨hS⟩
    obtain ⟨ok, hok⟩ : ∃ ok, decOk a0 bs = ok := ⟨_, rfl⟩
    have HK : Hd (decOk a0 bs = ok) := ⟨hok⟩
    clear hr w1 hS hok
    go_enter Tryd.func4, Tryd.ntmps4
    go_wp2_with fail
    refine (toByteS_any a1 len1 cap1 bs _ Hr.out (by omega)).mono ?_
    rintro e w2 ⟨rfl, hR2, hB2⟩
    have R2 : Hd (Row w2 w.heap.size bs) := ⟨hR2⟩
    have B2 : Hd (Below w.heap.size w w2) := ⟨hB2⟩
    clear hR2 hB2
    go_wp2_with fail
    refine (specScore_any a0 _ 0 len1 len1 bs _ Hn.out (Nat.le_refl _) (fun j hj => by rw [Nat.zero_add]; exact R2.out.cell j (by rw [Hn.out]; exact hj)) (by omega)).mono ?_
    rintro e w3 ⟨rfl, hB3⟩
    rewrite [HS.out, HK.out]
    have B3 : Hd (Below w.heap.size w w3) := ⟨Below.next B2.out hB3⟩
    clear hB3 R2 B2
    go_wp2_with fail
    refine (toByteS_any a1 len1 cap1 bs _ (Hr.out.below rfl B3.out) (by omega)).mono ?_
    rintro e w4 ⟨rfl, hR4, hB4⟩
    have R4 : Hd (Row w4 w3.heap.size bs) := ⟨hR4⟩
    have B4 : Hd (Below w.heap.size w w4) := ⟨Below.next B3.out hB4⟩
    clear hR4 hB4 B3
    go_wp2_with fail
    refine (implScore_any a0 _ 0 len1 len1 bs _ Hn.out (Nat.le_refl _) (fun j hj => by rw [Nat.zero_add]; exact R4.out.cell j (by rw [Hn.out]; exact hj)) (by omega) ⟨T.out.below B4.out⟩).mono ?_
    rintro e w5 ⟨rfl, hB5⟩
    rewrite [HS.out, HK.out]
    have R5 : Hd (Row w5 w3.heap.size bs) := ⟨R4.out.below hB5⟩
    have B5 : Hd (Below w.heap.size w w5) := ⟨Below.next B4.out hB5⟩
    have fk : (ok != ok) = false := by simp
    clear hB5 R4 B4
    go_wp2_with fail
    refine (toByteS_any a1 len1 cap1 bs _ (Hr.out.below rfl B5.out) (by omega)).mono ?_
    rintro e w6 ⟨rfl, hR6, hB6⟩
    have R6 : Hd (Row w6 w3.heap.size bs) := ⟨R5.out.below hB6⟩
    have Q6 : Hd (Row w6 w5.heap.size bs) := ⟨hR6⟩
    have B6 : Hd (Below w.heap.size w w6) := ⟨Below.next B5.out hB6⟩
    clear hR6 hB6 R5 B5
    go_wp2_with fail
    refine (eqByteS_true _ _ _ _ len1 bs _ (by omega) (R6.out.reads Hn.out) (Q6.out.reads Hn.out)).mono ?_
    rintro e w7 ⟨rfl, hB7⟩
    have B7 : Hd (Below w.heap.size w w7) := ⟨Below.next B6.out hB7⟩
    clear hB7
    go_wp2_with fail
    go_ret
    exact ⟨rfl, B7.out⟩

set_option maxRecDepth 100000 in
theorem lifted (os : Os) (started : os.Started) (H : Type) (enc : TypeId × Value → H) :
    ReturnsInHanded {} Tryd.checked os 4 .any (fun w args => (Rows.fnExactScoreSpec.pre enc Tryd.prog Tryd.f4 Rows.fnExactScoreRow.domain false w args ∧ laidMetH Tryd.prog Rows.fnExactScoreRow.laid w) ∧ sizedMet enc Tryd.prog Tryd.f4 (OpenSpec.ofChange Rows.fnExactScoreSpec) false w args)
      (Rows.fnExactScoreSpec.post enc Tryd.prog Tryd.f4 false true false false) := by
  refine returnsInHanded_of_change_and (C := Tryd.checked) (X := fun w _ => laidMetH Tryd.prog Rows.fnExactScoreRow.laid w) (fun _ _ _ hh h => h.of_heap hh) own started (by kernel_rfl) Tryd.func4
    (ChangeSpec.witness_shaped (enc := enc) (C := Tryd.checked) (os := os) (X := fun w _ => laidMetH Tryd.prog Rows.fnExactScoreRow.laid w) false (World.laidAll Tryd.prog os Rows.fnExactScoreRow.laid) #[.int .i64 0, .slice none 0 0] 8 (World.laidAll_os _ _ _)
      (World.shaped_of_ZipB (by kernel_rfl) (by kernel_rfl)) (by kernel_rfl) (by kernel_rfl) (by kernel_rfl)
      (by rw [MakeChecks.laidMetH_plain _ _ _ (by kernel_rfl)]; exact laidMet_laidAll _ (by kernel_rfl) (by kernel_rfl))) ?_
  intro W base args ds gs before hval0 hW _ _ hL _
  have hval : ∀ (j : Nat) t v, Tryd.f4.params[j]? = some t → args[j]? = some v → Value.okWide Tryd.prog W .any base t v := hval0
  have hW' := hW
  obtain ⟨p, q, hA0, hV, rfl, hfz, hnd⟩ := hW
  have hA : DataW.TrodAll enc Tryd.prog W 0 (fun _ => true) true Tryd.f4.params.toList args.toList ds p := hA0
  rw [Tryd.params4] at hA hval
  obtain ⟨v0, vs0, d0, ds0, p0, q0, hargs, rfl, rfl, h0, r0⟩ := trodAll_cons hA
  obtain ⟨v1, vs1, d1, ds1, p1, q1, rfl, rfl, rfl, h1, r1⟩ := trodAll_cons r0
  obtain ⟨rfl, rfl, rfl⟩ := trodAll_nil r1
  obtain rfl : args = #[v0, v1] := by cases args; simp_all
  have hV1 : DataW.TrodVars enc Tryd.prog W (fun _ => true) Rows.fnExactScoreSpec.vars gs q := hV
  obtain ⟨g1, g2, g3, g4, g5, rfl⟩ : ∃ g1 g2 g3 g4 g5, gs = [g1, g2, g3, g4, g5] := by
    match gs, (vars_length hV1 : gs.length = 5) with
    | [g1, g2, g3, g4, g5], _ => exact ⟨g1, g2, g3, g4, g5, rfl⟩
  obtain ⟨a1, len1, cap1, rfl⟩ := okWide_slice Tryd.underlying22 (hval 1 22 v1 rfl rfl)
  have k1 := h1
  have lt1 : ∀ x ∈ p1, x.block < W.heap.size := by obtain ⟨m, hm⟩ := k1; exact DataW.trod_lt m _ _ _ hm
  obtain ⟨z1, w1⟩ : ∃ zs, IsRow .u8 W a1 len1 cap1 zs := by
    obtain ⟨fuel, hf⟩ := h1
    rcases open_ints Tryd.underlying22 Tryd.underlying5 (by kernel_rfl) hf with ⟨hcs, _⟩ | ⟨x, l, c, zs, hcs, _, hl, hm, hz, _, hcell, hwz⟩
    · simp [Value.cells] at hcs
      obtain ⟨rfl, rfl, rfl⟩ := hcs
      exact ⟨[], .inl ⟨rfl, rfl, rfl, rfl⟩⟩
    · simp [Value.cells] at hcs
      obtain ⟨rfl, rfl, rfl⟩ := hcs
      exact ⟨zs, .inr ⟨_, rfl, hl, hm, by simpa using hz, hcell, hwz⟩⟩
  obtain ⟨a0, rfl, rfl, rfl, w0⟩ := open_int Tryd.underlying3 (hval 0 3 v0 rfl rfl) h0
  clear hA0 hval0
  refine (walk a0 w0 a1 len1 cap1 z1 W w1 ⟨allW_of hL⟩).mono fun e W' ⟨he, hg⟩ => ?_
  subst he
  exact ⟨_, rfl, _, _, _, [], _, q, hW', trodAll_mk1 (shut_bool Tryd.underlying4 _), (trodAll_cons_mk (shut_int Tryd.underlying3 w0) (trodAll_cons_mk (Below.trod laidOut (by kernel_rfl) (of_decide_eq_true (by kernel_rfl)) k1 hg lt1) trodAll_mk0)), Below.trodVars laidOut hg (by kernel_rfl) hV1, hg.frame _, fun h => by cases h⟩

theorem over : Rows.fnExactScoreRow.holds Tryd.pinned (OpenSpec.ofChange Rows.fnExactScoreSpec) :=
  OpenClaim.holds_of_wide 4 Tryd.f4 rfl rfl rfl rfl rfl rfl rfl ⟨rfl, rfl, rfl, rfl, rfl⟩ rfl rfl rfl rfl rfl (by kernel_rfl) Tryd.func4 (by kernel_rfl)
    (of_decide_eq_true (by kernel_rfl)) (by unfold Func.isWrapper; first | (rw [if_pos (by decide +kernel)]; kernel_rfl) | (rw [if_neg (by decide +kernel)]; exact ⟨rfl, rfl⟩))
    (fun os started H enc _ => lifted os started H enc)

theorem plain (f : FuncId) (fn : Func) (hf : Tryd.pinned.checked.prog.funcNamed Rows.fnExactScoreRow.func = some f) (hfn : Tryd.pinned.checked.prog.funcs[f]? = some fn) :
    true = Tryd.pinned.checked.prog.looks [] ∧ ∀ (j : Nat) t, fn.params[j]? = some t → Tryd.pinned.checked.prog.wantsStandIn t = false := by
  obtain rfl : f = 4 := Option.some.inj ((show Tryd.prog.funcNamed Rows.fnExactScoreRow.func = some 4 by kernel_rfl).symm.trans hf) |>.symm
  obtain rfl : fn = Tryd.f4 := (Option.some.inj (Tryd.func4.symm.trans hfn)).symm
  refine ⟨by kernel_rfl, fun j t ht => ?_⟩
  rw [Tryd.params4] at ht
  have hm : t ∈ [3, 22] := by simpa using Array.mem_of_getElem? ht
  have hall : ([3, 22].all fun u => !Tryd.prog.wantsStandIn u) = true := by kernel_rfl
  exact (show Tryd.prog.wantsStandIn t = false by simpa using List.all_eq_true.1 hall t hm)

end Go.Proofs.YtejlellhoamjgaaDoor.fnExactScore

namespace Go.Proofs.YtejlellhoamjgaaDoor
theorem fnExactScoreCard_holds : Rows.FnExactScoreCardSaid :=
  Claim7.holds_tied_plain_at .later [] _ _ _ _ fnExactScore.over (fun _ h => by cases h) (by kernel_rfl) (fun _ h => by cases h) fnExactScore_row_tie rfl ⟨rfl, rfl⟩ (by kernel_rfl) rfl fnExactScore.plain (by kernel_rfl)
#print axioms fnExactScoreCard_holds
end Go.Proofs.YtejlellhoamjgaaDoor
