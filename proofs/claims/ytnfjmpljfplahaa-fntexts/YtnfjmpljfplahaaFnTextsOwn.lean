/- Proved: for every slice of bytes, laws.FnTexts returns true; no condition. -/
import Derived.Test.YtnfjmpljfplahaaRows
import Derived.WalkKit
import Derived.ProofKit
import Derived.OpenShut
import Derived.ShutString
import Derived.ChangeOld
import Derived.Below
import Derived.Test.YtnfjmpljfplahaaTextsLaw
namespace Go.Proofs.Ytnfjmpljfplahaa.fnTexts
open Go.ChangeShapes Go.WideShapes Go.ChangeAt Go.RowKit
open Go.ChangeMaps (open_string shut_string)
set_option linter.unusedVariables false

theorem own : ownKnob Try.prog.godebug = none := by kernel_rfl
theorem laidOut : laidOutB Try.prog = true := by kernel_rfl

def IsRow (k : IntKind) (w : World) (a : Option Addr) (len cap : Nat) (zs : List Int) : Prop :=
  (a = none ∧ len = 0 ∧ cap = 0 ∧ zs = []) ∨
  ∃ x, a = some x ∧ len ≤ cap ∧ cap ≤ maxLen ∧ zs.length = cap ∧ (∀ i, i < zs.length → w.cell? (x.add i) = some (.int k (zs.getD i 0))) ∧ ∀ n ∈ zs, (Lit.int k n).wf = true

set_option maxHeartbeats 8000000 in
theorem walk (a0 : Option Addr) (len0 cap0 : Nat) (z0 : List Int) (w : World) (w0 : IsRow .u8 w a0 len0 cap0 z0) :
    Calls Try.prog 4 #[.slice a0 len0 cap0] w fun e w' => e = .returned (.bool true) ∧ Below w.heap.size w w' := by
  obtain ⟨bs, hr⟩ := reads_of_row w0
  have Hr : Hd (Reads w a0 len0 bs) := ⟨hr⟩
  clear hr w0
  by_cases hb : (1048576 : Int) < (len0 : Int)
  · have hbd : decide ((1048576 : Int) < (len0 : Int)) = true := decide_eq_true hb
    go_enter Try.func4, Try.ntmps4
    go_wp2_with (go_at_call 9; refine (big_any _ _ _ _).mono ?_; rintro e w' ⟨rfl, rfl⟩)
    go_ret
    exact ⟨rfl, Below.refl _ _⟩
  · have hbd : decide ((1048576 : Int) < (len0 : Int)) = false := decide_eq_false hb
    have hl : len0 ≤ 1073741824 := by omega
    go_enter Try.func4, Try.ntmps4
    go_wp2_with fail
    refine (big_any _ _ _ _).mono ?_
    rintro e w' ⟨rfl, hw'⟩
    replace hw' := hw'.symm
    subst hw'
    go_wp2_with fail
    refine (drawSigns_any a0 len0 cap0 bs _ hl Hr.out).mono ?_
    rintro e w1 ⟨s, rfl, hs, hB1⟩
    have B1 : Hd (Below w.heap.size w w1) := ⟨hB1⟩
    clear hB1
    go_wp2_with fail
    refine (implSigns_any s _ (by omega)).mono ?_
    rintro e w2 ⟨g2, c2, l, ok, rfl, hA2, _, hO2, hB2⟩
    have B2 : Hd (Below w.heap.size w w2) := ⟨Below.next B1.out hB2⟩
    have A2 : Hd (SignsAre s.data.toList l ok) := ⟨hA2⟩
    obtain ⟨n2, hn2⟩ : ∃ n2, l.length = n2 := ⟨_, rfl⟩
    have I2 : Hd (LiesI w2 g2 n2 l) := ⟨hO2.lies hn2⟩
    have hn28 : n2 ≤ 28 := by
      have h1 := signsAre_len hA2
      have h2 : s.data.toList.length = s.size := by rw [Array.length_toList]; rfl
      omega
    rw [hn2]
    clear hA2 hO2 hB2 B1 hn2
    go_wp2_with fail
    refine (drawTextOf_any a0 len0 cap0 bs _ hl (Hr.out.below rfl B2.out)).mono ?_
    rintro e w3 ⟨q, n, c, m, rfl, hm, hn5, _, hO3, hB3⟩
    have B3 : Hd (Below w.heap.size w w3) := ⟨Below.next B2.out hB3⟩
    have I3 : Hd (LiesI w3 g2 n2 l) := ⟨I2.out.below hB3⟩
    have M3 : Hd (LiesI w3 q n m) := ⟨hO3.lies hm⟩
    clear hm hO3 hB3 B2 I2
    go_wp2_with fail
    refine (implTextOf_any _ n c m _ M3.out.reads (by omega)).mono ?_
    rintro e w4 ⟨rfl, hB4⟩
    have B4 : Hd (Below w.heap.size w w4) := ⟨Below.next B3.out hB4⟩
    have I4 : Hd (LiesI w4 g2 n2 l) := ⟨I3.out.below hB4⟩
    have M4 : Hd (LiesI w4 q n m) := ⟨M3.out.below hB4⟩
    have hT : Hd ((⟨(m.flatMap signB).toArray⟩ : ByteArray).data.toList = m.flatMap signB) := ⟨by simp⟩
    have hTs : (⟨(m.flatMap signB).toArray⟩ : ByteArray).size ≤ 1073741824 := by
      have h1 := textLen m
      have h2 := M3.out.size
      show (m.flatMap signB).toArray.size ≤ _
      rw [List.size_toArray]; omega
    clear hB4 B3 I3 M3
    generalize (⟨(m.flatMap signB).toArray⟩ : ByteArray) = T at *
    go_wp2_with fail
    refine (implSigns_any T _ hTs).mono ?_
    rintro e w5 ⟨g5, c5, l5, ok5, rfl, hA5, _, hO5, hB5⟩
    have hu := signsAre_unique (by rw [hT.out] at hA5; exact hA5) (signsAre_text m)
    obtain ⟨hu1, hu2⟩ := hu
    have hu3 : l5 = sg m := hu1
    subst hu3 hu2
    have B5 : Hd (Below w.heap.size w w5) := ⟨Below.next B4.out hB5⟩
    have I5 : Hd (LiesI w5 g2 n2 l) := ⟨I4.out.below hB5⟩
    have M5 : Hd (LiesI w5 q n m) := ⟨M4.out.below hB5⟩
    obtain ⟨n5, hn5e⟩ : ∃ n5, (sg m).length = n5 := ⟨_, rfl⟩
    have N5 : Hd (LiesI w5 g5 n5 (sg m)) := ⟨hO5.lies hn5e⟩
    have hn55 : n5 ≤ 5 := by have := sg_len m; have := M4.out.size; omega
    rw [hn5e]
    clear hA5 hu1 hO5 hB5 B4 I4 M4 hn5e
    go_wp2_with fail
    go_loopw [10, 11] (fun kv i wr => ∃ j nd : Nat, j ≤ n ∧ i = .int .i64 j ∧ Hd (∃ kk : Nat, kv = .int .i64 kk ∧ (sg (m.take j)).length = kk) ∧ wr = w5.drewN nd) (fun _ i _ => n - (intOf i).toNat)
    case atStart => exact ⟨0, 0, Nat.zero_le _, rfl, ⟨0, rfl, by simp [sg]⟩, rfl⟩
    case round =>
      obtain ⟨j, nd, hj, rfl, K, rfl⟩ := hrel
      obtain ⟨kk, rfl, hkk⟩ := K.out
      have KK : Hd ((sg (m.take j)).length = kk) := ⟨hkk⟩
      have hkk5 : kk ≤ 5 := by have h1 := sg_len (m.take j); have h2 : (m.take j).length ≤ m.length := by simp; omega
                               have := M5.out.size; omega
      clear hkk K
      by_cases hlt : j < n
      · have hcm := M5.out.cell j hlt
        obtain ⟨z, hz⟩ : ∃ z, m.getD j 0 = z := ⟨_, rfl⟩
        rw [hz] at hcm
        have hjI : (j : Int) < (n : Int) := by omega
        by_cases hsz : isSign z
        · obtain ⟨f1, f2, f3⟩ := sg_snoc_yes (by rw [M5.out.size]; exact hlt) hz hsz
          rw [KK.out] at f1 f2 f3
          have hcn := N5.out.cell kk (by rw [← N5.out.size]; exact f2)
          rw [f3] at hcn
          have F1 : Hd ((sg (m.take (j + 1))).length = kk + 1) := ⟨f1⟩
          have f2' : (kk : Int) < (n5 : Int) := by have := N5.out.size; omega
          have Hs : Hd (isSign z) := ⟨hsz⟩
          have hzz : (z != z) = false := by simp
          have g1 : (0 : Int) ≤ (kk : Int) := by omega
          have g2' : (0 : Int) ≤ (j : Int) := by omega
          clear f1 f2 f3 hz hsz
          go_wp2_with fail
          refine (implSignOk_yes Hs _).mono ?_
          rintro e w8 ⟨rfl, hw8⟩
          replace hw8 := hw8.symm
          subst hw8
          go_wp2_with fail
          have hge : ¬ ((n5 : Int) ≤ (kk : Int)) := by omega
          have hge2 : decide ((n5 : Int) ≤ (kk : Int)) = false := decide_eq_false hge
          go_quiet (fail)
          go_wp2_with fail
          go_roundw
          case rel => exact ⟨j + 1, _, by omega, by go_num, ⟨kk + 1, by go_num, F1.out⟩, rfl⟩
          case measure => simp [intOf]; omega
        · have F1 : Hd ((sg (m.take (j + 1))).length = kk) := ⟨by rw [sg_snoc_no (by rw [M5.out.size]; exact hlt) hz hsz]; exact KK.out⟩
          have Hs : Hd (¬ isSign z) := ⟨hsz⟩
          clear hz hsz
          go_wp2_with fail
          refine (implSignOk_no Hs _).mono ?_
          rintro e w8 ⟨rfl, hw8⟩
          replace hw8 := hw8.symm
          subst hw8
          go_wp2_with fail
          go_roundw
          case rel => exact ⟨j + 1, _, by omega, by go_num, ⟨kk, rfl, F1.out⟩, rfl⟩
          case measure => simp [intOf]; omega
      · have hjI : ¬ (j : Int) < (n : Int) := by omega
        have hke : kk = n5 := by
          have h1 := KK.out
          rw [show j = n from by omega, ← M5.out.size, List.take_length] at h1
          have := N5.out.size; omega
        subst hke
        have hBd : Below w5.heap.size w5 (w5.drewN nd) := below_drewN' _ _ _
        have B6 : Hd (Below w.heap.size w (w5.drewN nd)) := ⟨Below.next B5.out hBd⟩
        have I6 : Hd (LiesI (w5.drewN nd) g2 n2 l) := ⟨I5.out.below hBd⟩
        clear hBd B5 I5 M5 N5 KK hjI
        generalize w5.drewN nd = w6 at *
        have N2 : Hd (l.length = n2) := ⟨I6.out.size⟩
        go_wp2_with fail
        refine (drawUtf8Ok_any a0 len0 cap0 bs _ hl (Hr.out.below rfl B6.out)).mono ?_
        rintro e w7 ⟨u, rfl, hus, hB7⟩
        have B7 : Hd (Below w.heap.size w w7) := ⟨Below.next B6.out hB7⟩
        have I7 : Hd (LiesI w7 g2 n2 l) := ⟨I6.out.below hB7⟩
        clear hB7 B6 I6
        go_wp2_with fail
        refine (drawCount_any a0 len0 cap0 bs _ hl (Hr.out.below rfl B7.out)).mono ?_
        rintro e w8 ⟨cc, rfl, hcs, hB8⟩
        have B8 : Hd (Below w.heap.size w w8) := ⟨Below.next B7.out hB8⟩
        have I8 : Hd (LiesI w8 g2 n2 l) := ⟨I7.out.below hB8⟩
        clear hB8 B7 I7
        go_wp2_with fail
        refine (specSigns_any s _ (by omega)).mono ?_
        rintro e w9 ⟨g9, c9, l9, ok9, rfl, hA9, _, _, hB9⟩
        obtain ⟨h91, h92⟩ := signsAre_unique hA9 A2.out
        subst h92
        have B9 : Hd (Below w.heap.size w w9) := ⟨Below.next B8.out hB9⟩
        have I9 : Hd (LiesI w9 g2 n2 l) := ⟨I8.out.below hB9⟩
        clear hA9 hB9 h91 B8 I8
        cases ok9 with
        | true =>
          have HT : Hd ((⟨(l.flatMap signB).toArray⟩ : ByteArray) = s) := ⟨by
            rcases A2.out with ⟨_, _, h⟩ | ⟨h, _⟩
            · rw [h]
            · cases h⟩
          go_wp2_with fail
          refine (implTextOf_any _ n2 c2 l _ I9.out.reads (by omega)).mono ?_
          rintro e wa ⟨rfl, hBa⟩
          have Ba : Hd (Below w.heap.size w wa) := ⟨Below.next B9.out hBa⟩
          rw [HT.out]
          clear hBa B9 I9
          go_wp2_with fail
          refine (implUtf8Ok_any u _ (by omega)).mono ?_
          rintro e wb ⟨lb, ob, rfl, hAb, hBb⟩
          have Bb : Hd (Below w.heap.size w wb) := ⟨Below.next Ba.out hBb⟩
          have Ab : Hd (SignsAre u.data.toList lb ob) := ⟨hAb⟩
          clear hAb hBb Ba
          go_wp2_with fail
          refine (specUtf8Ok_any u _ (by omega)).mono ?_
          rintro e wc ⟨lc, oc, rfl, hAc, hBc⟩
          have Bc : Hd (Below w.heap.size w wc) := ⟨Below.next Bb.out hBc⟩
          obtain ⟨hc1, hc2⟩ := signsAre_unique hAc Ab.out
          subst hc1 hc2
          clear hAc hBc Bb
          go_wp2_with fail
          refine (implCount_any cc _ (by omega)).mono ?_
          rintro e wd ⟨ld, od, rfl, hAd, hBd⟩
          have Bd : Hd (Below w.heap.size w wd) := ⟨Below.next Bc.out hBd⟩
          have Ad : Hd (SignsAre cc.data.toList ld od) := ⟨hAd⟩
          clear hAd hBd Bc
          go_wp2_with fail
          refine (specCount_any cc _ (by omega)).mono ?_
          rintro e we ⟨le, oe, rfl, hAe, hBe⟩
          have Be : Hd (Below w.heap.size w we) := ⟨Below.next Bd.out hBe⟩
          obtain ⟨he1, he2⟩ := signsAre_unique hAe Ad.out
          subst he1 he2
          clear hAe hBe Bd
          go_wp2_with fail
          refine (implCount_any s _ (by omega)).mono ?_
          rintro e wf ⟨lf, of, rfl, hAf, hBf⟩
          have Bf : Hd (Below w.heap.size w wf) := ⟨Below.next Be.out hBf⟩
          obtain ⟨hf1, hf2⟩ := signsAre_unique hAf A2.out
          rw [hf1, N2.out]
          clear hAf hBf Be hf1 hf2
          go_wp2_with fail
          go_ret
          exact ⟨rfl, Bf.out⟩
        | false =>
          have Ba : Hd (Below w.heap.size w w9) := B9
          clear B9 I9
          go_wp2_with fail
          refine (implUtf8Ok_any u _ (by omega)).mono ?_
          rintro e wb ⟨lb, ob, rfl, hAb, hBb⟩
          have Bb : Hd (Below w.heap.size w wb) := ⟨Below.next Ba.out hBb⟩
          have Ab : Hd (SignsAre u.data.toList lb ob) := ⟨hAb⟩
          clear hAb hBb Ba
          go_wp2_with fail
          refine (specUtf8Ok_any u _ (by omega)).mono ?_
          rintro e wc ⟨lc, oc, rfl, hAc, hBc⟩
          have Bc : Hd (Below w.heap.size w wc) := ⟨Below.next Bb.out hBc⟩
          obtain ⟨hc1, hc2⟩ := signsAre_unique hAc Ab.out
          subst hc1 hc2
          clear hAc hBc Bb
          go_wp2_with fail
          refine (implCount_any cc _ (by omega)).mono ?_
          rintro e wd ⟨ld, od, rfl, hAd, hBd⟩
          have Bd : Hd (Below w.heap.size w wd) := ⟨Below.next Bc.out hBd⟩
          have Ad : Hd (SignsAre cc.data.toList ld od) := ⟨hAd⟩
          clear hAd hBd Bc
          go_wp2_with fail
          refine (specCount_any cc _ (by omega)).mono ?_
          rintro e we ⟨le, oe, rfl, hAe, hBe⟩
          have Be : Hd (Below w.heap.size w we) := ⟨Below.next Bd.out hBe⟩
          obtain ⟨he1, he2⟩ := signsAre_unique hAe Ad.out
          subst he1 he2
          clear hAe hBe Bd
          go_wp2_with fail
          refine (implCount_any s _ (by omega)).mono ?_
          rintro e wf ⟨lf, of, rfl, hAf, hBf⟩
          have Bf : Hd (Below w.heap.size w wf) := ⟨Below.next Be.out hBf⟩
          obtain ⟨hf1, hf2⟩ := signsAre_unique hAf A2.out
          rw [hf1, N2.out]
          clear hAf hBf Be hf1 hf2
          go_wp2_with fail
          go_ret
          exact ⟨rfl, Bf.out⟩

set_option maxRecDepth 100000 in
theorem lifted (os : Os) (started : os.Started) (H : Type) (enc : TypeId × Value → H) :
    ReturnsInHanded {} Try.checked os 4 .any (Rows.fnTextsSpec.pre6 enc Try.prog Try.f4 Rows.fnTextsRow.domain false) (Rows.fnTextsSpec.post enc Try.prog Try.f4 false true false false) := by
  refine returnsInHanded_of_change (C := Try.checked) own started (by kernel_rfl) Try.func4
    (ChangeSpec.witness6 (enc := enc) (C := Try.checked) false ⟨#[], #[.slice none 0 0], []⟩ 8 (by kernel_rfl) (by kernel_rfl) (by kernel_rfl) (by kernel_rfl)) ?_
  intro W base args ds gs before hval0 hW hcnd _
  have hval : ∀ (j : Nat) t v, Try.f4.params[j]? = some t → args[j]? = some v → Value.okWide Try.prog W .any base t v := hval0
  have hW' := hW
  obtain ⟨p, q, hA0, hV, rfl, hfz, hnd⟩ := hW
  have hA : DataW.TrodAll enc Try.prog W 0 (fun _ => true) true Try.f4.params.toList args.toList ds p := hA0
  rw [Try.params4] at hA hval
  obtain ⟨v0, vs0, d0, ds0, p0, q0, hargs, rfl, rfl, h0, r0⟩ := trodAll_cons hA
  obtain ⟨rfl, rfl, rfl⟩ := trodAll_nil r0
  obtain rfl : args = #[v0] := by cases args; simp_all
  obtain ⟨rfl, rfl⟩ := trodVars_none hV
  obtain ⟨a0, len0, cap0, rfl⟩ := okWide_slice Try.underlying22 (hval 0 22 v0 rfl rfl)
  have k0 := h0
  have lt0 : ∀ x ∈ p0, x.block < W.heap.size := by obtain ⟨m, hm⟩ := k0; exact DataW.trod_lt m _ _ _ hm
  obtain ⟨z0, w0⟩ : ∃ zs, IsRow .u8 W a0 len0 cap0 zs := by
    obtain ⟨fuel, hf⟩ := h0
    rcases open_ints Try.underlying22 Try.underlying5 (by kernel_rfl) hf with ⟨hcs, _⟩ | ⟨x, l, c, zs, hcs, _, hl, hm, hz, _, hcell, hwz⟩
    · simp [Value.cells] at hcs
      obtain ⟨rfl, rfl, rfl⟩ := hcs
      exact ⟨[], .inl ⟨rfl, rfl, rfl, rfl⟩⟩
    · simp [Value.cells] at hcs
      obtain ⟨rfl, rfl, rfl⟩ := hcs
      exact ⟨zs, .inr ⟨_, rfl, hl, hm, by simpa using hz, hcell, hwz⟩⟩
  clear hA0 hval0
  refine (walk a0 len0 cap0 z0 W w0).mono fun e W' ⟨he, bel⟩ => ?_
  subst he
  exact ⟨_, rfl, _, _, _, [], _, [], hW', trodAll_mk1 (shut_bool Try.underlying4 _), (trodAll_cons_mk (Below.trod laidOut (by kernel_rfl) (of_decide_eq_true (by kernel_rfl)) k0 bel lt0) trodAll_mk0), rfl, bel.frame _, fun h => by cases h⟩

theorem over : Rows.fnTextsRow.holds Try.pinned (OpenSpec.ofChange Rows.fnTextsSpec) :=
  OpenClaim.holds_of_wide 4 Try.f4 rfl rfl rfl rfl rfl rfl rfl ⟨rfl, rfl, rfl, rfl, rfl⟩ rfl rfl rfl rfl rfl (by kernel_rfl) Try.func4 (by kernel_rfl)
    (of_decide_eq_true (by kernel_rfl)) (by unfold Func.isWrapper; first | (rw [if_pos (by decide +kernel)]; kernel_rfl) | (rw [if_neg (by decide +kernel)]; exact ⟨rfl, rfl⟩))
    (fun os started H enc _ => lifted os started H enc)

end Go.Proofs.Ytnfjmpljfplahaa.fnTexts

namespace Go.Proofs.Ytnfjmpljfplahaa
theorem fnTexts_holds : Rows.FnTextsSaid := fnTexts.over
#print axioms fnTexts_holds
end Go.Proofs.Ytnfjmpljfplahaa
