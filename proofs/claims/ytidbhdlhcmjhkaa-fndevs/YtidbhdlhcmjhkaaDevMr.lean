/- The program: ReadSec. -/
import Derived.Test.YtidbhdlhcmjhkaaDevMp
import Derived.Test.YtidbhdlhcmjhkaaExact
namespace Go.Proofs.Ytidbhdlhcmjhkaa
set_option maxRecDepth 4000
open Go.RowKit Go.Maps

theorem elem_of {v u : Value} {X : DataW Value} {ps : List MemPlace} (h : wrElem v = some (X, ps)) (hX : X = .held u) : v = u := by
  subst hX
  simp only [wrElem, Option.some.injEq, Prod.mk.injEq, DataW.held.injEq] at h
  exact h.1
theorem New.low {B C : Nat} {E : Ow (List UInt8)} {w : World} {cs : List Value} {a : List UInt8} (h : New B E w cs a) (hC : C ≤ B) : New C E w cs a := by
  obtain ⟨F, h1, h2⟩ := h
  exact ⟨F, h1, fun x hx => Nat.le_trans hC (h2 x hx)⟩

set_option maxHeartbeats 4000000 in
theorem implReadSec_ow (cs : List Value) (d : DevD) (n : Int) (w : World) (h : RdDev w cs d) :
    Calls Try.prog 11 #[.agg cs.toArray, .int .i64 n] w (AnsSl OwB (readD d n) w) := by
  have h' := h
  obtain ⟨x0, m0, d0, x1, m1, d1, rfl, r0, r1⟩ := h
  obtain ⟨f, hf⟩ : ∃ f, d.fuse = f := ⟨_, rfl⟩
  obtain ⟨b, hbb⟩ : ∃ b, d.down = b := ⟨_, rfl⟩
  rw [hf, hbb] at h' ⊢
  have HD : Hd (RdDev w [.slice x0 m0 d0, .slice x1 m1 d1, .int .i64 f, .bool b] d ∧ RdWrS w [.slice x1 m1 d1] d.cache) := ⟨h', r1⟩
  replace r0 := rdByteSS_parts r0
  replace r1 := rdWrS_parts r1
  have hm0 : m0 ≤ 9223372036854775807 := by have := r0.1; unfold maxLen at this; exact this
  have HL : Hd (d.secs.length = m0 ∧ d.cache.length = m1) := ⟨r0.2.1, r1.2.1⟩
  have HR0 : Hd (d.secs = [] ∨ ∃ b off, x0 = some ⟨b, off, none⟩ ∧ ∀ j a, d.secs[j]? = some a → ∃ c, c.length = 1 ∧ RdB w c a ∧ ∀ i v, c[i]? = some v → w.cell? ⟨b, off + j * 1 + i, none⟩ = some v) := ⟨r0.2.2⟩
  obtain ⟨R, hR⟩ : ∃ R, readD d n = R := ⟨_, rfl⟩
  obtain ⟨V, hV⟩ : ∃ V, devOk d = V := ⟨_, rfl⟩
  obtain ⟨U, hU⟩ : ∃ U, inSecs d n = U := ⟨_, rfl⟩
  have HR : Hd (R = (if (V && U) = true then readL n (secAt d n) d.cache else [])) := ⟨by rw [← hR, ← hV, ← hU]; rfl⟩
  have HV : Hd (devOk d = V) := ⟨hV⟩
  have HU : Hd (inSecs d n = U) := ⟨hU⟩
  rw [hR]
  clear r0 r1 h' hf hbb hR hV hU
  go_enter Try.func11, Try.ntmps11
  go_wp2_with fail
  refine (implDevOk_rd _ d _ (rdDev_ok.below HD.out.1 (below_lit w _))).mono ?_
  rintro e w1 ⟨rfl, hB⟩
  rewrite [HV.out]
  have P : Hd (Good w #[.slice x0 m0 d0, .slice x1 m1 d1, .int .i64 f, .bool b] w1) := ⟨Good.below ⟨below_lit w _, heap_alloc_new w _⟩ hB⟩
  clear hB
  cases V with
  | false =>
    have HE : Hd (R = []) := ⟨HR.out⟩
    clear HR HV HU
    go_wp2_with fail
    go_ret
    rw [HE.out]
    exact ⟨⟨_, _, _, rfl, _, owB_nil _, fun x hx => hx.elim⟩, P.out.1⟩
  | true =>
    have c0 := cellsA P.out.2 0 rfl
    have c1 := cellsA P.out.2 1 rfl
    have c2 := cellsA P.out.2 2 rfl
    have c3 := cellsA P.out.2 3 rfl
    go_wp2_with fail
    refine (implHasSec_rd _ d n _ (rdDev_ok.below HD.out.1 P.out.1)).mono ?_
    rintro e w2 ⟨rfl, hB⟩
    rewrite [HU.out]
    have Q : Hd (Good w #[.slice x0 m0 d0, .slice x1 m1 d1, .int .i64 f, .bool b] w2) := ⟨P.out.below hB⟩
    clear hB P c0 c1 c2 c3
    cases U with
    | false =>
      have HE : Hd (R = []) := ⟨HR.out⟩
      clear HR HV HU
      go_wp2_with fail
      go_ret
      rw [HE.out]
      exact ⟨⟨_, _, _, rfl, _, owB_nil _, fun x hx => hx.elim⟩, Q.out.1⟩
    | true =>
      have h9 := HU.out
      unfold inSecs at h9
      rw [decide_eq_true_eq, HL.out.1] at h9
      obtain ⟨a1, a2, a3, a4, _⟩ := devOk_parts HV.out
      rw [HL.out.1] at a3 a2
      rw [HL.out.2] at a4
      obtain ⟨m, rfl⟩ : ∃ m : Nat, n = (m : Int) := ⟨n.toNat, by omega⟩
      have HE : Hd (R = readL (m : Int) (secAt d (m : Int)) d.cache ∧ m < m0 ∧ m0 ≤ 64) := ⟨by rw [HR.out]; rfl, by omega, by omega⟩
      have HK : Hd (m1 ≤ 1000 ∧ ∀ q ∈ d.cache, 0 ≤ q.n ∧ q.n ≤ 1000) := ⟨by omega, fun q hq => by have := (a2 q hq).1; omega⟩
      have HS : Hd ((∀ s ∈ d.secs, s.length ≤ 120) ∧ ∀ x ∈ d.cache, x.b.length ≤ 120) := ⟨a1, fun x hx => (a2 x hx).2⟩
      clear HR HV HU h9 a1 a2 a3 a4
      have c1 := cellsA Q.out.2 1 rfl
      go_wp2_with fail
      refine (implLastWrs_any x1 m1 d1 d.cache _ (rdWrS_ok.below HD.out.2 Q.out.1) HK.out.1 HK.out.2).mono ?_
      rintro e w3 ⟨bM, D, rfl, hbM, hown, hmap, hB⟩
      have HM : Hd (w3.ownsMap Try.prog 3 wrElem bM m1 D ∧ MapOf w2 d.cache D ∧ Good w #[.slice x0 m0 d0, .slice x1 m1 d1, .int .i64 f, .bool b] w3 ∧ Below w2.heap.size w2 w3) := ⟨hown, hmap, Q.out.below hB, hB⟩
      clear hbM hown hmap hB c1
      have HZ : Hd (∀ w : World, (zeroValue 35).run Try.prog w = .ok (.agg #[.int .i64 0, .slice none 0 0]) w) := ⟨fun w => by rfl⟩
      have HKY : Hd (keyOf Try.prog 3 (.int .i64 (m : Int)) = some (.int .i64 (m : Int))) := ⟨keyOf_int_mk Try.underlying3 (int_wf (by have := HE.out.2; omega))⟩
      obtain ⟨B, hHas⟩ : ∃ B, Maps.has D (.int .i64 (m : Int)) = B := ⟨_, rfl⟩
      cases B with
      | true =>
        obtain ⟨⟨y, l, c, hat, hrd⟩, _⟩ := HM.out.2.1.yes _ hHas
        have HAT : Hd ((∀ z, D.atKey (.int .i64 (m : Int)) z = .held (.agg #[.int .i64 (m : Int), .slice y l c])) ∧ RdB w3 [.slice y l c] R ∧ R.length ≤ 120 ∧ Maps.has D (.int .i64 (m : Int)) = true) := ⟨hat, by rw [HE.out.1]; exact rdB_ok.below (hrd _) HM.out.2.2.2, by
          rw [HE.out.1]
          refine readL_small _ _ ?_ HS.out.2
          unfold secAt
          by_cases hl : m < d.secs.length
          · rw [show d.secs.getD ((m : Int).toNat) [] = d.secs[m] by simp [List.getD, hl]]; exact HS.out.1 _ (List.getElem_mem hl)
          · rw [show d.secs.getD ((m : Int).toNat) [] = [] by simp [List.getD, List.getElem?_eq_none (Nat.le_of_not_lt hl)]]; simp, hHas⟩
        clear hat hrd hHas
        go_wp2_with (at_lookup; refine wpList_lookup_own_ok _ rfl (.tmp 19) (.tmp 20) 55 rfl 3 35 (int_keyed Try.underlying3) Try.underlying55 wrElem (HZ.out _) (.held (.agg #[.int .i64 0, .slice none 0 0])) [] rfl bM m1 D rfl HM.out.1 (.int .i64 (m : Int)) (.int .i64 (m : Int)) rfl HKY.out ?_; intro v ps hv; obtain rfl : v = .agg #[.int .i64 (m : Int), .slice y l c] := elem_of hv (HAT.out.1 _); rewrite [HAT.out.2.2.2]; clear hv)
        refine (clone_rd y l c R _ (rdB_ok.below HAT.out.2.1 (below_lit w3 _)) (by have := HAT.out.2.2.1; omega)).mono ?_
        rintro e w4 ⟨⟨z0, zn, zc, rfl, hN⟩, hB⟩
        have HF : Hd (New w.heap.size OwB w4 [.slice z0 zn zc] R ∧ Below w.heap.size w w4) := ⟨hN.low (HM.out.2.2.1.alloc _).1.size, (HM.out.2.2.1.alloc _).below hB |>.1⟩
        clear hN hB
        go_wp2_with fail
        go_ret
        exact ⟨⟨_, _, _, rfl, HF.out.1⟩, HF.out.2⟩
      | false =>
        obtain ⟨hno, _⟩ := HM.out.2.1.no _ hHas
        obtain ⟨b0, o0, hx0, G⟩ : ∃ b0 o0, x0 = some ⟨b0, o0, none⟩ ∧ ∀ j a, d.secs[j]? = some a → ∃ c, c.length = 1 ∧ RdB w c a ∧ ∀ i v, c[i]? = some v → w.cell? ⟨b0, o0 + j * 1 + i, none⟩ = some v := by
          rcases HR0.out with h | h
          · have h7 := HL.out.1; rw [h] at h7; have h8 := HE.out.2; simp at h7; omega
          · exact h
        subst hx0
        obtain ⟨a, ha⟩ := get_some (l := d.secs) (j := m) (by rw [HL.out.1]; exact HE.out.2.1)
        obtain ⟨cc, hcn, hRR, hcell⟩ := G m a ha
        obtain ⟨y, l, c, rfl, _, _⟩ := id hRR
        have t9 := hcell 0 _ rfl
        simp only [Nat.mul_one, Nat.add_zero] at t9
        have HAT : Hd (Maps.has D (.int .i64 (m : Int)) = false ∧ RdB w [.slice y l c] R ∧ R.length ≤ 120) := ⟨hHas, by
          rw [HE.out.1, hno, show secAt d (m : Int) = a by unfold secAt; simp [List.getD, ha]]
          exact ⟨hRR, HS.out.1 a (List.mem_of_getElem? ha)⟩⟩
        have HVV : Hd (∀ z, D.atKey (.int .i64 (m : Int)) z = z) := ⟨fun z => Maps.atKey_of_not_has hHas z⟩
        have W4 : Hd (Good w #[.slice (some ⟨b0, o0, none⟩) m0 d0, .slice x1 m1 d1, .int .i64 f, .bool b] (w3.alloc (.cells #[.int .i64 0, .slice none 0 0] 35))) := ⟨HM.out.2.2.1.alloc _⟩
        have c0 := cellsA W4.out.2 0 rfl
        have t0 := cell_below t9 W4.out.1
        have hlt' : (m : Int) < (m0 : Int) := by have := HE.out.2; omega
        have h0 : (0 : Int) ≤ (m : Int) := by omega
        clear hno hHas hcell hcn hRR G ha t9
        go_wp2_with (at_lookup; refine wpList_lookup_own_ok _ rfl (.tmp 19) (.tmp 20) 55 rfl 3 35 (int_keyed Try.underlying3) Try.underlying55 wrElem (HZ.out _) (.held (.agg #[.int .i64 0, .slice none 0 0])) [] rfl bM m1 D rfl HM.out.1 (.int .i64 (m : Int)) (.int .i64 (m : Int)) rfl HKY.out ?_; intro v ps hv; obtain rfl : v = .agg #[.int .i64 0, .slice none 0 0] := elem_of hv (HVV.out _); rewrite [HAT.out.1]; clear hv)
        refine (clone_rd y l c R _ (rdB_ok.below HAT.out.2.1 W4.out.1) (by have := HAT.out.2.2; omega)).mono ?_
        rintro e w5 ⟨⟨z0, zn, zc, rfl, hN⟩, hB⟩
        have HF : Hd (New w.heap.size OwB w5 [.slice z0 zn zc] R ∧ Below w.heap.size w w5) := ⟨hN.low W4.out.1.size, (W4.out.below hB).1⟩
        clear hN hB
        go_wp2_with fail
        go_ret
        exact ⟨⟨_, _, _, rfl, HF.out.1⟩, HF.out.2⟩

theorem specReadSec_rd (cs : List Value) (d : DevD) (n : Int) (w : World) (h : RdDev w cs d) (_ : wtDev d ≤ 1073741824) :
    Calls Try.prog 20 #[.agg cs.toArray, .int .i64 n] w (AnsRS RdB (readD d n) w) := (specReadSec_ow cs d n w h).mono (fun _ _ h => h.toR owB_ok)
theorem implReadSec_rd (cs : List Value) (d : DevD) (n : Int) (w : World) (h : RdDev w cs d) (_ : wtDev d ≤ 1073741824) :
    Calls Try.prog 11 #[.agg cs.toArray, .int .i64 n] w (AnsSl OwB (readD d n) w) := implReadSec_ow cs d n w h

end Go.Proofs.Ytidbhdlhcmjhkaa
