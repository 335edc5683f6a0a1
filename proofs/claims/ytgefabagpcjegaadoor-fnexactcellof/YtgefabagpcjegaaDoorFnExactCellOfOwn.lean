/- At every number and every text of at most 1048576 bytes the program answers the cell that the specification answers; its answer owns its memory, behind another call too. -/
import Derived.Test.YtgefabagpcjegaaDoorCards
import Derived.Test.YtgefabagpcjegaaDoorTie
import Derived.WalkKit
import Derived.ProofKit
import Derived.OpenShut
import Derived.ShutString
import Derived.ChangeOld
import Derived.Below
import Derived.OpenVars
import Derived.Lay
import Derived.MakeChecks
import Derived.SevenTiedAt
import Derived.Stop.Joined
import Derived.Lib.SmallJoins
import Derived.Test.YtgefabagpcjegaaDoorCellI
import Derived.Test.YtgefabagpcjegaaDoorCellL
namespace Go.Proofs.YtgefabagpcjegaaDoor.fnExactCellOf
open Go.ChangeShapes Go.WideShapes Go.ChangeAt Go.RowKit
open Go.ChangeMaps (open_string shut_string)
set_option linter.unusedVariables false

theorem own : ownKnob Tryd.prog.godebug = none := by kernel_rfl
theorem laidOut : laidOutB Tryd.prog = true := by kernel_rfl

set_option maxRecDepth 4000 in
set_option maxHeartbeats 4000000 in
theorem walk (a0 : Int) (w0 : (Lit.int .i64 a0).wf = true) (a1 : ByteArray) (w1 : a1.size ≤ maxLen) (w : World) (T : Hd (AllAt w)) :
    Calls Tryd.prog 6 #[.int .i64 a0, .string a1] w fun e w' => e = .returned (.bool true) ∧ Below w.heap.size w w' := by
  clear w0
  by_cases hb : 1048576 < a1.size
  · clear T
    go_enter Tryd.func6, Tryd.ntmps6
    go_wp2_with fail
    go_ret
    exact ⟨rfl, Below.refl _ _⟩
  clear w1
  have hs : a1.size ≤ 1048576 := by omega
  have hlen : (oB a0 a1.data.toList).length ≤ 20 := oB_len _ _
  obtain ⟨ys, h1⟩ : ∃ x, oB a0 a1.data.toList = x := ⟨_, rfl⟩
  have HY : Hd (oB a0 a1.data.toList = ys) := ⟨h1⟩
  rw [h1] at hlen
  clear h1
  have HLEN : Hd (ys.length ≤ 20) := ⟨hlen⟩
  clear hlen
  obtain ⟨ok, h1⟩ : ∃ x, (oOk a0 a1.data.toList) = x := ⟨_, rfl⟩
  have HK : Hd ((oOk a0 a1.data.toList) = ok) := ⟨h1⟩
  clear h1
  obtain ⟨x, h1⟩ : ∃ x, (oTag a0 a1.data.toList) = x := ⟨_, rfl⟩
  have HX : Hd ((oTag a0 a1.data.toList) = x) := ⟨h1⟩
  clear h1
  have okf : (ok != ok) = false := by simp
  go_enter Tryd.func6, Tryd.ntmps6
  go_wp2_with fail
  refine (specCellOf_any a0 a1 _ hs).mono ?_
  rewrite [HX.out, HY.out, HK.out]
  rintro e v1 ⟨aoW, nW, cW, rfl, hn, hO, hs2, hB⟩
  obtain ⟨gW, hg, hW⟩ := boxC_out (tag := x) hO hn hs2
  have HN : Hd (ys.length = nW) := ⟨hn⟩
  have NBW : Hd (w.heap.size ≤ gW) := ⟨hg⟩
  have B2 : Hd (Below w.heap.size w (v1.alloc (.cells #[.int .i64 x, .slice aoW nW cW] 25))) := ⟨Below.next hB (below_lit v1 _)⟩
  have W2 : Hd (BoxC v1.heap.size x aoW gW nW cW ys (v1.alloc (.cells #[.int .i64 x, .slice aoW nW cW] 25))) := ⟨hW⟩
  clear hn hO hs2 hB hg hW
  generalize hd : v1.heap.size = dW at *
  have hn20 : nW ≤ 20 := by have := HLEN.out; have := HN.out; omega
  go_wp2_with fail
  generalize hw : v1.alloc (.cells #[.int .i64 x, .slice aoW nW cW] 25) = v2 at *
  clear hd hw
  refine (implCellOf_any a0 a1 _ hs ⟨T.out.below B2.out⟩).mono ?_
  rewrite [HX.out, HY.out, HK.out]
  rintro e v3 ⟨aoG, nG, cG, rfl, hn, hO, hs2, hB⟩
  have en : nW = nG := HN.out.symm.trans hn
  subst en
  obtain ⟨gG, hg, hW⟩ := boxC_out (tag := x) hO hn hs2
  have NEWG : Hd (dW < gG) := ⟨Nat.lt_of_lt_of_le (lt_of_block W2.out.box) hg⟩
  have NBG : Hd (w.heap.size ≤ gG) := ⟨Nat.le_trans B2.out.size hg⟩
  have W3 : Hd (BoxC dW x aoW gW nW cW ys (v3.alloc (.cells #[.int .i64 x, .slice aoG nW cG] 25))) := ⟨(W2.out.below hB).below (below_lit v3 _)⟩
  have B3 : Hd (Below w.heap.size w (v3.alloc (.cells #[.int .i64 x, .slice aoG nW cG] 25))) := ⟨Below.next (Below.next B2.out hB) (below_lit v3 _)⟩
  have G3 : Hd (BoxC v3.heap.size x aoG gG nW cG ys (v3.alloc (.cells #[.int .i64 x, .slice aoG nW cG] 25))) := ⟨hW⟩
  clear W2 B2
  clear hn hO hs2 hB hg hW
  generalize hd : v3.heap.size = dG at *
  obtain ⟨p0, p1, _, _⟩ := cells2 (v3.alloc (.cells #[.int .i64 x, .slice aoG nW cG] 25)) dG _ _ _ G3.out.box
  obtain ⟨q0, q1, _, _⟩ := cells2 (v3.alloc (.cells #[.int .i64 x, .slice aoG nW cG] 25)) dW _ _ _ W3.out.box
  go_wp2_with fail
  generalize hw : v3.alloc (.cells #[.int .i64 x, .slice aoG nW cG] 25) = v4 at *
  clear hd hw
  clear p0 p1 q0 q1
  refine (eqCell_true x aoG aoW cG cW nW ys _ (by omega) G3.out.reads W3.out.reads).mono ?_
  rintro e v5 ⟨rfl, hB⟩
  have W4 : Hd (BoxC dW x aoW gW nW cW ys v5) := ⟨(W3.out.below hB)⟩
  have G4 : Hd (BoxC dG x aoG gG nW cG ys v5) := ⟨(G3.out.below hB)⟩
  have B4 : Hd (Below w.heap.size w v5) := ⟨Below.next B3.out hB⟩
  clear W3 G3 B3
  clear hB
  obtain ⟨p0, p1, _, _⟩ := cells2 v5 dG _ _ _ G4.out.box
  go_wp2_with fail
  clear p0 p1
  refine (markCell_o x aoG gG nW cG 1 ys _ G4.out.len G4.out.row (by omega) (by omega)).mono ?_
  rintro e v6 ⟨rfl, hR, hG⟩
  have W5 : Hd (BoxC dW x aoW gW nW cW ys v6) := ⟨W4.out.grown hG (by have := NEWG.out; omega) (by have := NEWG.out; have := W4.out.lt; omega)⟩
  have B5 : Hd (Below w.heap.size w v6) := ⟨B4.out.grown hG B4.out.size (fun q h => by simp at h; have := NBG.out; omega)⟩
  have G5 : Hd (BoxC dG x aoG gG nW cG (marks 1 nW) v6) := ⟨G4.out.marked hG hR (marks_length _ _)⟩
  clear W4 G4 B4
  clear hR hG
  obtain ⟨p0, p1, _, _⟩ := cells2 v6 dG _ _ _ G5.out.box
  go_wp2_with fail
  clear p0 p1
  refine (heldCell_o x aoG gG nW cG 1 _ G5.out.row (by omega) (by omega)).mono ?_
  rintro e v7 ⟨rfl, hB⟩
  have W6 : Hd (BoxC dW x aoW gW nW cW ys v7) := ⟨(W5.out.below hB)⟩
  have G6 : Hd (BoxC dG x aoG gG nW cG (marks 1 nW) v7) := ⟨(G5.out.below hB)⟩
  have B6 : Hd (Below w.heap.size w v7) := ⟨Below.next B5.out hB⟩
  clear W5 G5 B5
  clear hB
  have hq : ¬ (((1 + nW : Nat) : Int) < 0) := by omega
  have hqm : (((1 + nW : Nat) : Int) != ((1 + nW : Nat) : Int)) = false := by simp
  go_wp2_with fail
  refine (implCellOf_any a0 a1 _ hs ⟨T.out.below B6.out⟩).mono ?_
  rewrite [HX.out, HY.out, HK.out]
  rintro e v8 ⟨aoH, nH, cH, rfl, hn, hO, hs2, hB⟩
  have en : nW = nH := HN.out.symm.trans hn
  subst en
  obtain ⟨gH, hg, hW⟩ := boxC_out (tag := x) hO hn hs2
  have NEWH : Hd (dW < gH) := ⟨Nat.lt_of_lt_of_le (lt_of_block W6.out.box) hg⟩
  have NEGH : Hd (dG < gH) := ⟨Nat.lt_of_lt_of_le (lt_of_block G6.out.box) hg⟩
  have NBH : Hd (w.heap.size ≤ gH) := ⟨Nat.le_trans B6.out.size hg⟩
  have W7 : Hd (BoxC dW x aoW gW nW cW ys (v8.alloc (.cells #[.int .i64 x, .slice aoH nW cH] 25))) := ⟨(W6.out.below hB).below (below_lit v8 _)⟩
  have G7 : Hd (BoxC dG x aoG gG nW cG (marks 1 nW) (v8.alloc (.cells #[.int .i64 x, .slice aoH nW cH] 25))) := ⟨(G6.out.below hB).below (below_lit v8 _)⟩
  have B7 : Hd (Below w.heap.size w (v8.alloc (.cells #[.int .i64 x, .slice aoH nW cH] 25))) := ⟨Below.next (Below.next B6.out hB) (below_lit v8 _)⟩
  have H7 : Hd (BoxC v8.heap.size x aoH gH nW cH ys (v8.alloc (.cells #[.int .i64 x, .slice aoH nW cH] 25))) := ⟨hW⟩
  clear W6 G6 B6
  clear hn hO hs2 hB hg hW
  generalize hd : v8.heap.size = dH at *
  obtain ⟨p0, p1, _, _⟩ := cells2 (v8.alloc (.cells #[.int .i64 x, .slice aoH nW cH] 25)) dH _ _ _ H7.out.box
  obtain ⟨q0, q1, _, _⟩ := cells2 (v8.alloc (.cells #[.int .i64 x, .slice aoH nW cH] 25)) dW _ _ _ W7.out.box
  go_wp2_with fail
  generalize hw : v8.alloc (.cells #[.int .i64 x, .slice aoH nW cH] 25) = v9 at *
  clear hd hw
  clear p0 p1 q0 q1
  refine (eqCell_true x aoH aoW cH cW nW ys _ (by omega) H7.out.reads W7.out.reads).mono ?_
  rintro e v10 ⟨rfl, hB⟩
  have W8 : Hd (BoxC dW x aoW gW nW cW ys v10) := ⟨(W7.out.below hB)⟩
  have G8 : Hd (BoxC dG x aoG gG nW cG (marks 1 nW) v10) := ⟨(G7.out.below hB)⟩
  have H8 : Hd (BoxC dH x aoH gH nW cH ys v10) := ⟨(H7.out.below hB)⟩
  have B8 : Hd (Below w.heap.size w v10) := ⟨Below.next B7.out hB⟩
  clear W7 G7 H7 B7
  clear hB
  obtain ⟨p0, p1, _, _⟩ := cells2 v10 dG _ _ _ G8.out.box
  go_wp2_with fail
  clear p0 p1
  refine (heldCell_o x aoG gG nW cG 1 _ G8.out.row (by omega) (by omega)).mono ?_
  rintro e v11 ⟨rfl, hB⟩
  have W9 : Hd (BoxC dW x aoW gW nW cW ys v11) := ⟨(W8.out.below hB)⟩
  have G9 : Hd (BoxC dG x aoG gG nW cG (marks 1 nW) v11) := ⟨(G8.out.below hB)⟩
  have H9 : Hd (BoxC dH x aoH gH nW cH ys v11) := ⟨(H8.out.below hB)⟩
  have B9 : Hd (Below w.heap.size w v11) := ⟨Below.next B8.out hB⟩
  clear W8 G8 H8 B8
  clear hB
  go_wp2_with fail
  go_ret
  exact ⟨rfl, B9.out⟩

set_option maxRecDepth 100000 in
theorem lifted (os : Os) (started : os.Started) (H : Type) (enc : TypeId × Value → H) :
    ReturnsInHanded {} Tryd.checked os 6 .any (fun w args => (Rows.fnExactCellOfSpec.pre enc Tryd.prog Tryd.f6 Rows.fnExactCellOfRow.domain false w args ∧ laidMetH Tryd.prog Rows.fnExactCellOfRow.laid w) ∧ sizedMet enc Tryd.prog Tryd.f6 (OpenSpec.ofChange Rows.fnExactCellOfSpec) false w args)
      (Rows.fnExactCellOfSpec.post enc Tryd.prog Tryd.f6 false true false false) := by
  refine returnsInHanded_of_change_and (C := Tryd.checked) (X := fun w _ => laidMetH Tryd.prog Rows.fnExactCellOfRow.laid w) (fun _ _ _ hh h => h.of_heap hh) own started (by kernel_rfl) Tryd.func6
    (ChangeSpec.witness_shaped (enc := enc) (C := Tryd.checked) (os := os) (X := fun w _ => laidMetH Tryd.prog Rows.fnExactCellOfRow.laid w) false (World.laidAll Tryd.prog os Rows.fnExactCellOfRow.laid) #[.int .i64 0, .string ByteArray.empty] 8 (World.laidAll_os _ _ _)
      (World.shaped_of_ZipB (by kernel_rfl) (by kernel_rfl)) (by kernel_rfl) (by kernel_rfl) (by kernel_rfl)
      (by rw [MakeChecks.laidMetH_plain _ _ _ (by kernel_rfl)]; exact laidMet_laidAll _ (by kernel_rfl) (by kernel_rfl))) ?_
  intro W base args ds gs before hval0 hW _ _ hL _
  have hval : ∀ (j : Nat) t v, Tryd.f6.params[j]? = some t → args[j]? = some v → Value.okWide Tryd.prog W .any base t v := hval0
  have hW' := hW
  obtain ⟨p, q, hA0, hV, rfl, hfz, hnd⟩ := hW
  have hA : DataW.TrodAll enc Tryd.prog W 0 (fun _ => true) true Tryd.f6.params.toList args.toList ds p := hA0
  rw [Tryd.params6] at hA hval
  obtain ⟨v0, vs0, d0, ds0, p0, q0, hargs, rfl, rfl, h0, r0⟩ := trodAll_cons hA
  obtain ⟨v1, vs1, d1, ds1, p1, q1, rfl, rfl, rfl, h1, r1⟩ := trodAll_cons r0
  obtain ⟨rfl, rfl, rfl⟩ := trodAll_nil r1
  obtain rfl : args = #[v0, v1] := by cases args; simp_all
  have hV1 : DataW.TrodVars enc Tryd.prog W (fun _ => true) Rows.fnExactCellOfSpec.vars gs q := hV
  obtain ⟨g1, g2, g3, g4, rfl⟩ : ∃ g1 g2 g3 g4, gs = [g1, g2, g3, g4] := by
    match gs, (vars_length hV1 : gs.length = 4) with
    | [g1, g2, g3, g4], _ => exact ⟨g1, g2, g3, g4, rfl⟩
  obtain ⟨a0, rfl, rfl, rfl, w0⟩ := open_int Tryd.underlying3 (hval 0 3 v0 rfl rfl) h0
  obtain ⟨a1, rfl, rfl, rfl, w1⟩ := open_string Tryd.underlying9 (hval 1 9 v1 rfl rfl) h1
  clear hA0 hval0
  refine (walk a0 w0 a1 w1 W ⟨all_of hL⟩).mono fun e W' ⟨he, hg⟩ => ?_
  subst he
  exact ⟨_, rfl, _, _, _, [], _, q, hW', trodAll_mk1 (shut_bool Tryd.underlying4 _), (trodAll_cons_mk (shut_int Tryd.underlying3 w0) (trodAll_cons_mk (shut_string Tryd.underlying9 w1) trodAll_mk0)), Below.trodVars laidOut hg (by kernel_rfl) hV1, hg.frame _, fun h => by cases h⟩

theorem over : Rows.fnExactCellOfRow.holds Tryd.pinned (OpenSpec.ofChange Rows.fnExactCellOfSpec) :=
  OpenClaim.holds_of_wide 6 Tryd.f6 rfl rfl rfl rfl rfl rfl rfl ⟨rfl, rfl, rfl, rfl, rfl⟩ rfl rfl rfl rfl rfl (by kernel_rfl) Tryd.func6 (by kernel_rfl)
    (of_decide_eq_true (by kernel_rfl)) (by unfold Func.isWrapper; first | (rw [if_pos (by decide +kernel)]; kernel_rfl) | (rw [if_neg (by decide +kernel)]; exact ⟨rfl, rfl⟩))
    (fun os started H enc _ => lifted os started H enc)

theorem plain (f : FuncId) (fn : Func) (hf : Tryd.pinned.checked.prog.funcNamed Rows.fnExactCellOfRow.func = some f) (hfn : Tryd.pinned.checked.prog.funcs[f]? = some fn) :
    true = Tryd.pinned.checked.prog.looks [] ∧ ∀ (j : Nat) t, fn.params[j]? = some t → Tryd.pinned.checked.prog.wantsStandIn t = false := by
  obtain rfl : f = 6 := Option.some.inj ((show Tryd.prog.funcNamed Rows.fnExactCellOfRow.func = some 6 by kernel_rfl).symm.trans hf) |>.symm
  obtain rfl : fn = Tryd.f6 := (Option.some.inj (Tryd.func6.symm.trans hfn)).symm
  refine ⟨by kernel_rfl, fun j t ht => ?_⟩
  rw [Tryd.params6] at ht
  have hm : t ∈ [3, 9] := by simpa using Array.mem_of_getElem? ht
  have hall : ([3, 9].all fun u => !Tryd.prog.wantsStandIn u) = true := by kernel_rfl
  exact (show Tryd.prog.wantsStandIn t = false by simpa using List.all_eq_true.1 hall t hm)

end Go.Proofs.YtgefabagpcjegaaDoor.fnExactCellOf

namespace Go.Proofs.YtgefabagpcjegaaDoor
theorem fnExactCellOfCard_holds : Rows.FnExactCellOfCardSaid :=
  Claim7.holds_tied_plain_at .later [] _ _ _ _ fnExactCellOf.over (fun _ h => by cases h) (by kernel_rfl) (fun _ h => by cases h) fnExactCellOf_row_tie rfl ⟨rfl, rfl⟩ (by kernel_rfl) rfl fnExactCellOf.plain (by kernel_rfl)
#print axioms fnExactCellOfCard_holds
end Go.Proofs.YtgefabagpcjegaaDoor
