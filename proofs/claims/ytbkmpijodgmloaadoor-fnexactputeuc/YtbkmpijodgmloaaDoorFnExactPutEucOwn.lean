/- At every bytes and number PutEuc answers in the program as in the specification: the same bytes and flag; the bytes that came in are not written; the answer owns its memory. -/
import Derived.Test.YtbkmpijodgmloaaDoorCards
import Derived.Test.YtbkmpijodgmloaaDoorTie
import Derived.WalkKit
import Derived.ProofKit
import Derived.OpenShut
import Derived.ShutString
import Derived.ChangeOld
import Derived.Below
import Derived.OpenVars
import Derived.Lay
import Derived.MakeChecks
import Derived.SevenTiedAt
import Derived.Stop.Joined
import Derived.Test.YtbkmpijodgmloaaDoorLaidP
import Derived.Test.YtbkmpijodgmloaaDoorPutEuc
namespace Go.Proofs.YtbkmpijodgmloaaDoor.fnExactPutEuc
open Go.ChangeShapes Go.WideShapes Go.ChangeAt Go.RowKit
open Go.ChangeMaps (open_string shut_string)
set_option linter.unusedVariables false

theorem own : ownKnob Tryd.prog.godebug = none := by kernel_rfl
theorem laidOut : laidOutB Tryd.prog = true := by kernel_rfl

def IsRow (k : IntKind) (w : World) (a : Option Addr) (len cap : Nat) (zs : List Int) : Prop :=
  (a = none ∧ len = 0 ∧ cap = 0 ∧ zs = []) ∨
  ∃ x, a = some x ∧ len ≤ cap ∧ cap ≤ maxLen ∧ zs.length = cap ∧ (∀ i, i < zs.length → w.cell? (x.add i) = some (.int k (zs.getD i 0))) ∧ ∀ n ∈ zs, (Lit.int k n).wf = true

theorem walk (a0 : Option Addr) (len0 cap0 : Nat) (z0 : List Int) (a1 : Int) (w1 : (Lit.int .i64 a1).wf = true) (w : World) (w0 : IsRow .u8 w a0 len0 cap0 z0) (T : Hd (PairsAt w)) :
    Calls Tryd.prog 7 #[.slice a0 len0 cap0, .int .i64 a1] w fun e w' => e = .returned (.bool true) ∧ Below w.heap.size w w' := by
  obtain ⟨bs, hr⟩ := reads_of_row w0
  have Hm : Hd (a1 ≤ 9223372036854775807) := ⟨(bounds_i64 w1).2⟩
  clear w1
  by_cases hb : 1048576 < len0
  · clear hr w0 T Hm
    go_enter Tryd.func7, Tryd.ntmps7
    go_wp2_with fail
    go_ret
    exact ⟨rfl, Below.refl _ _⟩
  · have Hn : Hid (bs.length = len0) := hr.1
    have Hr : Hid (Reads w a0 len0 bs) := hr
    obtain ⟨ok, hok⟩ : ∃ ok, eucOk a1 = ok := ⟨_, rfl⟩
    have Hok : Hd (eucOk a1 = ok) := ⟨hok⟩
    have f0 : (ok != ok) = false := by simp
    have hn2 : (bs ++ eucB a1).length ≤ len0 + 62 := by have := eucB_len a1; have := hr.1; rw [List.length_append]; omega
    obtain ⟨n2, hN2⟩ : ∃ n2, (bs ++ eucB a1).length = n2 := ⟨_, rfl⟩
    rw [hN2] at hn2
    have Hn2' : Hid ((bs ++ eucB a1).length = n2) := hN2
    have Hn2 : Hid ((bs ++ eucB a1).length = n2) := hN2
    generalize hbs2 : bs ++ eucB a1 = bs2 at Hn2
    have Hbs2 : Hid (bs ++ eucB a1 = bs2) := hbs2
    clear w0 hr hbs2 hN2 hok
    go_enter Tryd.func7, Tryd.ntmps7
    go_wp2_with fail
    refine (toByteS_any a0 len0 cap0 bs _ Hr.out (by omega)).mono ?_
    rintro e w1 ⟨rfl, hR1, hB1⟩
    go_wp2_with fail
    refine (specPutEuc_any _ 0 len0 len0 bs a1 _ Hn.out (fun j hj => by rw [Nat.zero_add]; exact hR1.cell j (by rw [Hn.out]; exact hj)) hR1.lt (by omega)).mono ?_
    rintro e w2 ⟨gw, cw, rfl, hgw, hRw2, hB2⟩
    replace hRw2 := hRw2.row
    rewrite [Hn2'.out, Hok.out]
    rw [Hbs2.out] at hRw2
    have hwlt := hRw2.lt
    have hC2 := Below.next hB1 hB2
    have hs1 := hB1.size
    clear hR1 hB1 hB2
    go_wp2_with fail
    refine (toByteS_any a0 len0 cap0 bs _ (Hr.out.below rfl hC2) (by omega)).mono ?_
    rintro e w3 ⟨rfl, hRx3, hB3⟩
    have hxlt := hRx3.lt
    have hRw3 := hRw2.below hB3
    have hC3 := Below.next hC2 hB3
    have hs2 := hC2.size
    clear hRw2 hB3 hC2
    go_wp2_with fail
    refine (implPutEuc_any _ 0 len0 len0 bs a1 _ Hn.out (fun j hj => by rw [Nat.zero_add]; exact hRx3.cell j (by rw [Hn.out]; exact hj)) hRx3.lt (by omega) Hm.out ⟨T.out.below hC3⟩).mono ?_
    rintro e w4 ⟨gg, cg, rfl, hgg, hRg4, hB4⟩
    replace hRg4 := hRg4.row
    rewrite [Hn2'.out, Hok.out]
    rw [Hbs2.out] at hRg4
    have hRw4 := hRw3.below hB4
    have hRx4 := hRx3.below hB4
    have hC4 := Below.next hC3 hB4
    have hs3 := hC3.size
    clear hRw3 hRx3 hB4 hC3
    go_wp2_with fail
    refine (eqByteS_true _ _ _ _ (n2) bs2 _ (by omega) (hRg4.reads Hn2.out) (hRw4.reads Hn2.out)).mono ?_
    rintro e w5 ⟨rfl, hB5⟩
    have hRg5 := hRg4.below hB5
    have hRw5 := hRw4.below hB5
    have hRx5 := hRx4.below hB5
    have hC5 := Below.next hC4 hB5
    clear hRg4 hRw4 hRx4 hB5 hC4
    go_wp2_with fail
    refine (toByteS_any a0 len0 cap0 bs _ (Hr.out.below rfl hC5) (by omega)).mono ?_
    rintro e w6 ⟨rfl, hRt, hB6⟩
    have hRg6 := hRg5.below hB6
    have hRw6 := hRw5.below hB6
    have hRx6 := hRx5.below hB6
    have hC6 := Below.next hC5 hB6
    clear hRg5 hRw5 hRx5 hB6 hC5
    go_wp2_with fail
    refine (eqByteS_true _ _ _ _ len0 bs _ (by omega) (hRx6.reads Hn.out) (hRt.reads Hn.out)).mono ?_
    rintro e w7 ⟨rfl, hB7⟩
    have hRg7 := hRg6.below hB7
    have hRw7 := hRw6.below hB7
    have hRx7 := hRx6.below hB7
    have hC7 := Below.next hC6 hB7
    clear hRg6 hRw6 hRx6 hRt hB7 hC6
    go_wp2_with fail
    refine (markByteS_any _ len0 _ 1 bs _ Hn.out hRx7 (by omega) (by omega)).mono ?_
    rintro e w8 ⟨rfl, _, hG8⟩
    have hRg8 := hRg7.grown hG8 (by omega)
    have hRw8 := hRw7.grown hG8 (by omega)
    have hC8 : Below w.heap.size w w8 := hC7.grown hG8 hC7.size (fun q h => by simp at h; omega)
    have hk : ¬ (((1 + len0 : Nat) : Int) < 0) := by omega
    clear hRg7 hRw7 hRx7 hG8 hC7
    go_wp2_with fail
    refine (eqByteS_true _ _ _ _ (n2) bs2 _ (by omega) (hRg8.reads Hn2.out) (hRw8.reads Hn2.out)).mono ?_
    rintro e w9 ⟨rfl, hB9⟩
    have hRg9 := hRg8.below hB9
    have hRw9 := hRw8.below hB9
    have hC9 := Below.next hC8 hB9
    clear hRg8 hRw8 hB9 hC8
    go_wp2_with fail
    refine (markByteS_any _ (n2) _ 1 bs2 _ Hn2.out hRg9 (by omega) (by omega)).mono ?_
    rintro e w10 ⟨rfl, hRg10, hG10⟩
    have hRw10 := hRw9.grown hG10 (by omega)
    have hC10 : Below w.heap.size w w10 := hC9.grown hG10 hC9.size (fun q h => by simp at h; omega)
    clear hRg9 hRw9 hG10 hC9
    go_wp2_with fail
    refine (heldByteS_any _ (n2) _ 1 _ hRg10 (by omega) (by omega)).mono ?_
    rintro e w11 ⟨rfl, hw11⟩
    subst hw11
    have hq : ¬ (((1 + (n2) : Nat) : Int) < 0) := by omega
    have hqm : (((1 + (n2) : Nat) : Int) != ((1 + (n2) : Nat) : Int)) = false := by simp
    go_wp2_with fail
    refine (toByteS_any a0 len0 cap0 bs _ (Hr.out.below rfl hC10) (by omega)).mono ?_
    rintro e w12 ⟨rfl, hRt, hB12⟩
    have hRg12 := hRg10.below hB12
    have hRw12 := hRw10.below hB12
    have hC12 := Below.next hC10 hB12
    clear hRg10 hRw10 hB12 hC10
    go_wp2_with fail
    refine (implPutEuc_any _ 0 len0 len0 bs a1 _ Hn.out (fun j hj => by rw [Nat.zero_add]; exact hRt.cell j (by rw [Hn.out]; exact hj)) hRt.lt (by omega) Hm.out ⟨T.out.below hC12⟩).mono ?_
    rintro e w13 ⟨gh, ch, rfl, hgh, hRh, hB13⟩
    replace hRh := hRh.row
    rewrite [Hn2'.out, Hok.out]
    rw [Hbs2.out] at hRh
    have hRg13 := hRg12.below hB13
    have hRw13 := hRw12.below hB13
    have hC13 := Below.next hC12 hB13
    clear hRg12 hRw12 hRt hB13 hC12
    go_wp2_with fail
    refine (eqByteS_true _ _ _ _ (n2) bs2 _ (by omega) (hRh.reads Hn2.out) (hRw13.reads Hn2.out)).mono ?_
    rintro e w14 ⟨rfl, hB14⟩
    have hRg14 := hRg13.below hB14
    have hC14 := Below.next hC13 hB14
    clear hRg13 hRw13 hRh hB14 hC13
    go_wp2_with fail
    refine (heldByteS_any _ (n2) _ 1 _ hRg14 (by omega) (by omega)).mono ?_
    rintro e w15 ⟨rfl, hw15⟩
    subst hw15
    go_wp2_with fail
    go_ret
    exact ⟨rfl, hC14⟩

set_option maxRecDepth 100000 in
theorem lifted (os : Os) (started : os.Started) (H : Type) (enc : TypeId × Value → H) :
    ReturnsInHanded {} Tryd.checked os 7 .any (fun w args => (Rows.fnExactPutEucSpec.pre enc Tryd.prog Tryd.f7 Rows.fnExactPutEucRow.domain false w args ∧ laidMetH Tryd.prog Rows.fnExactPutEucRow.laid w) ∧ sizedMet enc Tryd.prog Tryd.f7 (OpenSpec.ofChange Rows.fnExactPutEucSpec) false w args)
      (Rows.fnExactPutEucSpec.post enc Tryd.prog Tryd.f7 false true false false) := by
  refine returnsInHanded_of_change_and (C := Tryd.checked) (X := fun w _ => laidMetH Tryd.prog Rows.fnExactPutEucRow.laid w) (fun _ _ _ hh h => h.of_heap hh) own started (by kernel_rfl) Tryd.func7
    (ChangeSpec.witness_shaped (enc := enc) (C := Tryd.checked) (os := os) (X := fun w _ => laidMetH Tryd.prog Rows.fnExactPutEucRow.laid w) false (World.laidAll Tryd.prog os Rows.fnExactPutEucRow.laid) #[.slice none 0 0, .int .i64 0] 8 (World.laidAll_os _ _ _)
      (World.shaped_of_ZipB (by kernel_rfl) (by kernel_rfl)) (by kernel_rfl) (by kernel_rfl) (by kernel_rfl)
      (by rw [MakeChecks.laidMetH_plain _ _ _ (by kernel_rfl)]; exact laidMet_laidAll _ (by kernel_rfl) (by kernel_rfl))) ?_
  intro W base args ds gs before hval0 hW _ _ hL _
  have hval : ∀ (j : Nat) t v, Tryd.f7.params[j]? = some t → args[j]? = some v → Value.okWide Tryd.prog W .any base t v := hval0
  have hW' := hW
  obtain ⟨p, q, hA0, hV, rfl, hfz, hnd⟩ := hW
  have hA : DataW.TrodAll enc Tryd.prog W 0 (fun _ => true) true Tryd.f7.params.toList args.toList ds p := hA0
  rw [Tryd.params7] at hA hval
  obtain ⟨v0, vs0, d0, ds0, p0, q0, hargs, rfl, rfl, h0, r0⟩ := trodAll_cons hA
  obtain ⟨v1, vs1, d1, ds1, p1, q1, rfl, rfl, rfl, h1, r1⟩ := trodAll_cons r0
  obtain ⟨rfl, rfl, rfl⟩ := trodAll_nil r1
  obtain rfl : args = #[v0, v1] := by cases args; simp_all
  have hV1 : DataW.TrodVars enc Tryd.prog W (fun _ => true) Rows.fnExactPutEucSpec.vars gs q := hV
  obtain ⟨g1, rfl⟩ : ∃ g1, gs = [g1] := by
    match gs, (vars_length hV1 : gs.length = 1) with
    | [g1], _ => exact ⟨g1, rfl⟩
  obtain ⟨a0, len0, cap0, rfl⟩ := okWide_slice Tryd.underlying22 (hval 0 22 v0 rfl rfl)
  have k0 := h0
  have lt0 : ∀ x ∈ p0, x.block < W.heap.size := by obtain ⟨m, hm⟩ := k0; exact DataW.trod_lt m _ _ _ hm
  obtain ⟨z0, w0⟩ : ∃ zs, IsRow .u8 W a0 len0 cap0 zs := by
    obtain ⟨fuel, hf⟩ := h0
    rcases open_ints Tryd.underlying22 Tryd.underlying5 (by kernel_rfl) hf with ⟨hcs, _⟩ | ⟨x, l, c, zs, hcs, _, hl, hm, hz, _, hcell, hwz⟩
    · simp [Value.cells] at hcs
      obtain ⟨rfl, rfl, rfl⟩ := hcs
      exact ⟨[], .inl ⟨rfl, rfl, rfl, rfl⟩⟩
    · simp [Value.cells] at hcs
      obtain ⟨rfl, rfl, rfl⟩ := hcs
      exact ⟨zs, .inr ⟨_, rfl, hl, hm, by simpa using hz, hcell, hwz⟩⟩
  obtain ⟨a1, rfl, rfl, rfl, w1⟩ := open_int Tryd.underlying3 (hval 1 3 v1 rfl rfl) h1
  clear hA0 hval0
  refine (walk a0 len0 cap0 z0 a1 w1 W w0 ⟨pairs_of hL⟩).mono fun e W' ⟨he, hg⟩ => ?_
  subst he
  exact ⟨_, rfl, _, _, _, [], _, q, hW', trodAll_mk1 (shut_bool Tryd.underlying4 _), (trodAll_cons_mk (Below.trod laidOut (by kernel_rfl) (of_decide_eq_true (by kernel_rfl)) k0 hg lt0) (trodAll_cons_mk (shut_int Tryd.underlying3 w1) trodAll_mk0)), Below.trodVars laidOut hg (by kernel_rfl) hV1, hg.frame _, fun h => by cases h⟩

theorem over : Rows.fnExactPutEucRow.holds Tryd.pinned (OpenSpec.ofChange Rows.fnExactPutEucSpec) :=
  OpenClaim.holds_of_wide 7 Tryd.f7 rfl rfl rfl rfl rfl rfl rfl ⟨rfl, rfl, rfl, rfl, rfl⟩ rfl rfl rfl rfl rfl (by kernel_rfl) Tryd.func7 (by kernel_rfl)
    (of_decide_eq_true (by kernel_rfl)) (by unfold Func.isWrapper; first | (rw [if_pos (by decide +kernel)]; kernel_rfl) | (rw [if_neg (by decide +kernel)]; exact ⟨rfl, rfl⟩))
    (fun os started H enc _ => lifted os started H enc)

theorem plain (f : FuncId) (fn : Func) (hf : Tryd.pinned.checked.prog.funcNamed Rows.fnExactPutEucRow.func = some f) (hfn : Tryd.pinned.checked.prog.funcs[f]? = some fn) :
    false = Tryd.pinned.checked.prog.looks [] ∧ ∀ (j : Nat) t, fn.params[j]? = some t → Tryd.pinned.checked.prog.wantsStandIn t = false := by
  obtain rfl : f = 7 := Option.some.inj ((show Tryd.prog.funcNamed Rows.fnExactPutEucRow.func = some 7 by kernel_rfl).symm.trans hf) |>.symm
  obtain rfl : fn = Tryd.f7 := (Option.some.inj (Tryd.func7.symm.trans hfn)).symm
  refine ⟨by kernel_rfl, fun j t ht => ?_⟩
  rw [Tryd.params7] at ht
  have hm : t ∈ [22, 3] := by simpa using Array.mem_of_getElem? ht
  have hall : ([22, 3].all fun u => !Tryd.prog.wantsStandIn u) = true := by kernel_rfl
  exact (show Tryd.prog.wantsStandIn t = false by simpa using List.all_eq_true.1 hall t hm)

end Go.Proofs.YtbkmpijodgmloaaDoor.fnExactPutEuc

namespace Go.Proofs.YtbkmpijodgmloaaDoor
theorem fnExactPutEucCard_holds : Rows.FnExactPutEucCardSaid :=
  Claim7.holds_tied_plain_at .later [] _ _ _ _ fnExactPutEuc.over (fun _ h => by cases h) (by kernel_rfl) (fun _ h => by cases h) fnExactPutEuc_row_tie rfl ⟨rfl, rfl⟩ (by kernel_rfl) rfl fnExactPutEuc.plain (by kernel_rfl)
#print axioms fnExactPutEucCard_holds
end Go.Proofs.YtbkmpijodgmloaaDoor
