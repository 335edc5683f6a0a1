/- Proved: for every slice of bytes, laws.FnWords returns true, that is numbers and texts come back of their bytes, and cut they do not; no condition. -/
import Derived.Test.YtdaieeonjakdeaaRows
import Derived.WalkKit
import Derived.ProofKit
import Derived.OpenShut
import Derived.ShutString
import Derived.ChangeOld
import Derived.Below
import Derived.Test.YtdaieeonjakdeaaWordsLaw
namespace Go.Proofs.Ytdaieeonjakdeaa.fnWords
open Go.ChangeShapes Go.WideShapes Go.ChangeAt Go.RowKit
open Go.ChangeMaps (open_string shut_string)
set_option linter.unusedVariables false

theorem own : ownKnob Try.prog.godebug = none := by kernel_rfl
theorem laidOut : laidOutB Try.prog = true := by kernel_rfl

def IsRow (k : IntKind) (w : World) (a : Option Addr) (len cap : Nat) (zs : List Int) : Prop :=
  (a = none ∧ len = 0 ∧ cap = 0 ∧ zs = []) ∨
  ∃ x, a = some x ∧ len ≤ cap ∧ cap ≤ maxLen ∧ zs.length = cap ∧ (∀ i, i < zs.length → w.cell? (x.add i) = some (.int k (zs.getD i 0))) ∧ ∀ n ∈ zs, (Lit.int k n).wf = true

theorem walk (a0 : Option Addr) (len0 cap0 : Nat) (z0 : List Int) (w : World) (w0 : IsRow .u8 w a0 len0 cap0 z0) :
    Calls Try.prog 3 #[.slice a0 len0 cap0] w fun e w' => e = .returned (.bool true) ∧ Below w.heap.size w w' := by
  obtain ⟨bs, hr⟩ := reads_of_row w0
  have Hr : Hd (Reads w a0 len0 bs) := ⟨hr⟩
  clear hr w0
  by_cases hb : (1048576 : Int) < (len0 : Int)
  · have hbd : decide ((1048576 : Int) < (len0 : Int)) = true := decide_eq_true hb
    go_enter Try.func3, Try.ntmps3
    go_wp2_with (go_at_call 5; refine (big_any _ _ _ _).mono ?_; rintro e w' ⟨rfl, rfl⟩)
    go_ret
    exact ⟨rfl, Below.refl _ _⟩
  · have hbd : decide ((1048576 : Int) < (len0 : Int)) = false := decide_eq_false hb
    have hl : len0 ≤ 1073741824 := by omega
    go_enter Try.func3, Try.ntmps3
    go_wp2_with fail
    refine (big_any _ _ _ _).mono ?_
    rintro e w' ⟨rfl, hw'⟩
    subst hw'
    go_wp2_with fail
    refine (drawPutW_any a0 len0 cap0 bs _ hl Hr.out).mono ?_
    rintro e w1 ⟨q, c, ds, n, rfl, hds, hn1, hn2, hq, hO, hB1⟩
    have B1 : Hd (Below w'.heap.size w' w1) := ⟨hB1⟩
    have O1 : Hd (Own w1 q c ds) := ⟨hO⟩
    clear hO hB1
    go_wp2_with fail
    refine (implPutW_some q 0 ds.length c ds n _ rfl (fun j hj => by rw [Nat.zero_add]; exact O1.out.row.cell j hj) O1.out.lt (by omega)).mono ?_
    rintro e w2 ⟨g2, c2, rfl, hg2, hO2, hB2⟩
    have B2 : Hd (Below w'.heap.size w' w2) := ⟨Below.next B1.out hB2⟩
    have O2 : Hd (Own w2 g2 c2 (ds ++ [hiB n, loB n])) := ⟨hO2⟩
    have L2 : Hd ((ds ++ [hiB n, loB n]).length = ds.length + 2) := ⟨by simp⟩
    clear hO2 hB2 B1
    go_wp2_with fail
    have G2 : Hd (getW (ds ++ [hiB n, loB n]) (ds.length : Int) = ((wordOf (hiB n) (loB n) : Int), ((ds.length + 2 : Nat) : Int), true)) := ⟨by simpa using getW_put ds (hiB n) (loB n) []⟩
    refine (implGetW_is (ao := some ⟨g2, 0, none⟩) (len := ds.length + 2) (cap := c2) (O2.out.row.reads L2.out) (by omega) G2.out).mono ?_
    rintro e w3 ⟨rfl, hd3⟩
    have hB3 : Below w2.heap.size w2 w3 := by obtain ⟨k, rfl⟩ := hd3; exact below_drewN' _ _ k
    have B3 : Hd (Below w'.heap.size w' w3) := ⟨Below.next B2.out hB3⟩
    have hcap : ds.length + 2 ≤ c2 := by obtain ⟨cur, _, h1, _⟩ := O2.out; simpa using h1
    have hx : Hd (bits .and .i64 n 65535 = (wordOf (hiB n) (loB n) : Int)) := ⟨word_and n⟩
    clear hd3 hB3 B2 O2 G2
    generalize (wordOf (hiB n) (loB n) : Int) = X at *
    go_wp2_with fail
    refine (implGetW_out (some ⟨g2, 0, none⟩) (ds.length + 1) c2 _ _ (by omega) (.inr (by omega))).mono ?_
    rintro e w4 ⟨rfl, hd4⟩
    have hB4 : Below w3.heap.size w3 w4 := by obtain ⟨k, rfl⟩ := hd4; exact below_drewN' _ _ k
    have B4 : Hd (Below w'.heap.size w' w4) := ⟨Below.next B3.out hB4⟩
    clear hd4 hB4 B3 O1
    go_wp2_with fail
    refine (drawPutText_any a0 len0 cap0 bs _ hl (Hr.out.below rfl B4.out)).mono ?_
    rintro e w5 ⟨q5, c5, es, s, rfl, hes, hs, hq5, hO5, hB5⟩
    have B5 : Hd (Below w'.heap.size w' w5) := ⟨Below.next B4.out hB5⟩
    have O5 : Hd (Own w5 q5 c5 es) := ⟨hO5⟩
    clear hO5 hB5 B4 hq5
    go_wp2_with fail
    refine (implPutText_any q5 0 es.length c5 es s _ (by omega) rfl (O5.out.cell rfl) O5.out.lt (by omega)).mono ?_
    rintro e w6 ⟨g6, c6, rfl, hg6, hO6, hB6⟩
    have B6 : Hd (Below w'.heap.size w' w6) := ⟨Below.next B5.out hB6⟩
    have O6 : Hd (Own w6 g6 c6 (putText es s)) := ⟨hO6⟩
    have E6 : Hd (Own w6 q5 c5 es) := ⟨O5.out.below hB6⟩
    have hcap6 : (putText es s).length ≤ c6 := hO6.le
    have hmax : (putText es s).length ≤ es.length + 62 := putText_len es s
    obtain ⟨n6, hN6⟩ : ∃ n6, (putText es s).length = n6 := ⟨_, rfl⟩
    have N6 : Hd ((putText es s).length = n6) := ⟨hN6⟩
    rw [hN6] at hcap6 hmax ⊢
    clear hO6 hB6 B5 O5 hg6 hN6
    go_wp2_with fail
    refine (drawNameOk_any a0 len0 cap0 bs _ hl (Hr.out.below rfl B6.out)).mono ?_
    rintro e w7 ⟨a, ha, rfl, hB7⟩
    have B7 : Hd (Below w'.heap.size w' w7) := ⟨Below.next B6.out hB7⟩
    have O7 : Hd (Own w7 g6 c6 (putText es s)) := ⟨O6.out.below hB7⟩
    have E7 : Hd (Own w7 q5 c5 es) := ⟨E6.out.below hB7⟩
    clear hB7 B6 O6 E6
    go_wp2_with fail
    refine (implNameOk_any a _ (by omega)).mono ?_
    rintro e w8 ⟨rfl, hw8⟩
    subst hw8
    go_wp2_with fail
    refine (specNameOk_any a _ (by omega)).mono ?_
    rintro e w9 ⟨rfl, hw9⟩
    subst hw9
    have hx' : bits .and .i64 n 65535 = X := hx.out
    generalize nameOkB a = na at *
    by_cases h60 : (60 : Int) < (s.size : Int)
    · have hp : putText es s = es := by unfold putText; rw [if_pos (by omega)]
      have hcv1 := conv_own O7.out (n := n6) (c2 := c6) N6.out
      have hcv2 := conv_own E7.out (n := es.length) (c2 := c5) rfl
      rw [hp] at hcv1
      clear hp O7 E7 N6 L2
      generalize es.toArray = Z at *
      go_wp2_with fail
      go_ret
      exact ⟨rfl, B7.out⟩
    · have hp : putText es s = textBytes es s := by unfold putText textBytes; rw [if_neg (by omega)]
      have O8 : Hd (Own w9 g6 c6 (textBytes es s)) := ⟨by rw [← hp]; exact O7.out⟩
      have N8 : Hd ((textBytes es s).length = n6) := ⟨by rw [← hp]; exact N6.out⟩
      have hn6 : es.length + 2 + s.size = n6 := by rw [← N8.out]; exact (textBytes_length es s).symm
      have h60' : s.size ≤ 60 := by omega
      have hn6' : es.length + 2 ≤ n6 := by omega
      have G8 : Hd (getText (textBytes es s) (es.length : Int) = (s, (n6 : Int), true)) := ⟨by rw [getText_put es s h60', N8.out]⟩
      clear hp O7 E7 N6 hn6
      go_wp2_with fail
      refine (implGetText_is hcap6 N8.out (O8.out.cell N8.out) (by omega) G8.out).mono ?_
      rintro e w10 ⟨rfl, hd10⟩
      have hB10 : Below w9.heap.size w9 w10 := by obtain ⟨k, rfl⟩ := hd10; exact below_drewN' _ _ k
      have B10 : Hd (Below w'.heap.size w' w10) := ⟨Below.next B7.out hB10⟩
      have O10 : Hd (Own w10 g6 c6 (textBytes es s)) := ⟨O8.out.below hB10⟩
      clear hd10 hB10 B7 O8 G8
      have hn1' : (1 : Int) ≤ (n6 : Int) := by omega
      have hn2' : (n6 : Int) - 1 ≤ (c6 : Int) := by omega
      go_wp2_with fail
      obtain ⟨r1, r2, hG10⟩ : ∃ r1 r2, getText ((textBytes es s).take (n6 - 1)) (es.length : Int) = (r1, r2, false) := by
        have hless := getText_less es s h60'
        rw [N8.out] at hless
        exact ⟨_, _, Prod.ext rfl (Prod.ext rfl hless)⟩
      have L10 : ((textBytes es s).take (n6 - 1)).length = n6 - 1 := by rw [List.length_take, N8.out]; omega
      refine (implGetText_is (by omega) L10 ((O10.out.take (n6 - 1)).cell L10) (by omega) hG10).mono ?_
      clear hG10 L10
      rintro e w11 ⟨rfl, hd11⟩
      have hB11 : Below w10.heap.size w10 w11 := by obtain ⟨k, rfl⟩ := hd11; exact below_drewN' _ _ k
      have B11 : Hd (Below w'.heap.size w' w11) := ⟨Below.next B10.out hB11⟩
      clear hd11 hB11 B10 O10 N8
      go_wp2_with fail
      go_ret
      exact ⟨rfl, B11.out⟩

set_option maxRecDepth 100000 in
theorem lifted (os : Os) (started : os.Started) (H : Type) (enc : TypeId × Value → H) :
    ReturnsInHanded {} Try.checked os 3 .any (Rows.fnWordsSpec.pre6 enc Try.prog Try.f3 Rows.fnWordsRow.domain false) (Rows.fnWordsSpec.post enc Try.prog Try.f3 false true false false) := by
  refine returnsInHanded_of_change (C := Try.checked) own started (by kernel_rfl) Try.func3
    (ChangeSpec.witness6 (enc := enc) (C := Try.checked) false ⟨#[], #[.slice none 0 0], []⟩ 8 (by kernel_rfl) (by kernel_rfl) (by kernel_rfl) (by kernel_rfl)) ?_
  intro W base args ds gs before hval0 hW hcnd _
  have hval : ∀ (j : Nat) t v, Try.f3.params[j]? = some t → args[j]? = some v → Value.okWide Try.prog W .any base t v := hval0
  have hW' := hW
  obtain ⟨p, q, hA0, hV, rfl, hfz, hnd⟩ := hW
  have hA : DataW.TrodAll enc Try.prog W 0 (fun _ => true) true Try.f3.params.toList args.toList ds p := hA0
  rw [Try.params3] at hA hval
  obtain ⟨v0, vs0, d0, ds0, p0, q0, hargs, rfl, rfl, h0, r0⟩ := trodAll_cons hA
  obtain ⟨rfl, rfl, rfl⟩ := trodAll_nil r0
  obtain rfl : args = #[v0] := by cases args; simp_all
  obtain ⟨rfl, rfl⟩ := trodVars_none hV
  obtain ⟨a0, len0, cap0, rfl⟩ := okWide_slice Try.underlying22 (hval 0 22 v0 rfl rfl)
  have k0 := h0
  have lt0 : ∀ x ∈ p0, x.block < W.heap.size := by obtain ⟨m, hm⟩ := k0; exact DataW.trod_lt m _ _ _ hm
  obtain ⟨z0, w0⟩ : ∃ zs, IsRow .u8 W a0 len0 cap0 zs := by
    obtain ⟨fuel, hf⟩ := h0
    rcases open_ints Try.underlying22 Try.underlying5 (by kernel_rfl) hf with ⟨hcs, _⟩ | ⟨x, l, c, zs, hcs, _, hl, hm, hz, _, hcell, hwz⟩
    · simp [Value.cells] at hcs
      obtain ⟨rfl, rfl, rfl⟩ := hcs
      exact ⟨[], .inl ⟨rfl, rfl, rfl, rfl⟩⟩
    · simp [Value.cells] at hcs
      obtain ⟨rfl, rfl, rfl⟩ := hcs
      exact ⟨zs, .inr ⟨_, rfl, hl, hm, by simpa using hz, hcell, hwz⟩⟩
  clear hA0 hval0
  refine (walk a0 len0 cap0 z0 W w0).mono fun e W' ⟨he, bel⟩ => ?_
  subst he
  exact ⟨_, rfl, _, _, _, [], _, [], hW', trodAll_mk1 (shut_bool Try.underlying4 _), (trodAll_cons_mk (Below.trod laidOut (by kernel_rfl) (of_decide_eq_true (by kernel_rfl)) k0 bel lt0) trodAll_mk0), rfl, bel.frame _, fun h => by cases h⟩

theorem over : Rows.fnWordsRow.holds Try.pinned (OpenSpec.ofChange Rows.fnWordsSpec) :=
  OpenClaim.holds_of_wide 3 Try.f3 rfl rfl rfl rfl rfl rfl rfl ⟨rfl, rfl, rfl, rfl, rfl⟩ rfl rfl rfl rfl rfl (by kernel_rfl) Try.func3 (by kernel_rfl)
    (of_decide_eq_true (by kernel_rfl)) (by unfold Func.isWrapper; first | (rw [if_pos (by decide +kernel)]; kernel_rfl) | (rw [if_neg (by decide +kernel)]; exact ⟨rfl, rfl⟩))
    (fun os started H enc _ => lifted os started H enc)

end Go.Proofs.Ytdaieeonjakdeaa.fnWords

namespace Go.Proofs.Ytdaieeonjakdeaa
theorem fnWords_holds : Rows.FnWordsSaid := fnWords.over
#print axioms fnWords_holds
end Go.Proofs.Ytdaieeonjakdeaa
