/- GetHead, in the specification and in the program. -/
import Derived.Test.YtlididoalekeoaaHeadI
import Derived.Test.YtlididoalekeoaaConvR
import Derived.Test.YtlididoalekeoaaExact
namespace Go.Proofs.Ytlididoalekeoaa
set_option maxRecDepth 4000
open Go.RowKit

theorem specHeadOf_rd (gen n : Int) (w : World) : Calls Try.prog 8 #[.int .i64 gen, .int .i64 n] w (AnsRS RdB (hdB gen n) w) := (specHeadOf_ow gen n w).mono fun _ _ hA => hA.toR owB_ok
def hdGet (bs : List UInt8) : Int × Int × Bool := if isHd bs = true then ((getW bs 0).1, (getW bs 2).1, true) else (0, 0, false)
theorem hdGet_f {bs : List UInt8} (h : isHd bs = false) : hdGet bs = (0, 0, false) := by unfold hdGet; rw [h]; rfl
theorem hdGet_t {bs : List UInt8} (h : isHd bs = true) : hdGet bs = ((getW bs 0).1, (getW bs 2).1, true) := by unfold hdGet; rw [h]; rfl
def HdRet (bs : List UInt8) (w : World) (e : Ending) (w' : World) : Prop := e = .returned (.tuple #[.int .i64 (hdGet bs).1, .int .i64 (hdGet bs).2.1, .bool (hdGet bs).2.2]) ∧ Below w.heap.size w w'
theorem hdRet_f {bs : List UInt8} {w w' : World} (h : isHd bs = false) (hB : Below w.heap.size w w') : HdRet bs w (.returned (.tuple #[.int .i64 0, .int .i64 0, .bool false])) w' := ⟨by rw [hdGet_f h], hB⟩
theorem hdRet_t {bs : List UInt8} {w w' : World} {x y : Int} (h : isHd bs = true) (hx : (getW bs 0).1 = x) (hy : (getW bs 2).1 = y) (hB : Below w.heap.size w w') : HdRet bs w (.returned (.tuple #[.int .i64 x, .int .i64 y, .bool true])) w' := ⟨by rw [hdGet_t h, hx, hy], hB⟩
theorem isHd_six {bs : List UInt8} (h : bs.length ≠ 6) : isHd bs = false := by unfold isHd; simp [h]

set_option maxHeartbeats 4000000 in
theorem specGetHead_any (ao : Option Addr) (n c : Nat) (bs : List UInt8) (w : World) (hr : Reads w ao n bs) (hc : n ≤ c) (hl : n ≤ 1073741824) :
    Calls Try.prog 13 #[.slice ao n c] w (HdRet bs w) := by
  have HR : Hd (Reads w ao n bs) := ⟨hr⟩
  have HN : Hd (bs.length = n) := ⟨hr.1⟩
  clear hr
  obtain ⟨⟨a0, o0, k0⟩, h0⟩ : ∃ x, getW bs 0 = x := ⟨_, rfl⟩
  obtain ⟨⟨a2, o2, k2⟩, h2⟩ : ∃ x, getW bs 2 = x := ⟨_, rfl⟩
  obtain ⟨⟨a4, o4, k4⟩, h4⟩ : ∃ x, getW bs 4 = x := ⟨_, rfl⟩
  have H0 : Hd (getW bs 0 = (a0, o0, k0)) := ⟨h0⟩
  have H2 : Hd (getW bs 2 = (a2, o2, k2)) := ⟨h2⟩
  have H4 : Hd (getW bs 4 = (a4, o4, k4)) := ⟨h4⟩
  clear h0 h2 h4
  go_enter Try.func13, Try.ntmps13
  go_wp2_with fail
  refine (specGetW_any ao n c bs 0 _ HR.out hl).mono ?_
  rintro e w1 ⟨rfl, hd⟩
  rewrite [H0.out]
  have B1 : Hd (Below w.heap.size w w1) := ⟨by obtain ⟨n, rfl⟩ := hd; exact below_drewN' _ _ n⟩
  clear hd
  go_wp2_with fail
  refine (specGetW_any ao n c bs 2 _ (HR.out.below rfl B1.out) hl).mono ?_
  rintro e w2 ⟨rfl, hd⟩
  rewrite [H2.out]
  have B2 : Hd (Below w.heap.size w w2) := ⟨by obtain ⟨n, rfl⟩ := hd; exact B1.out.trans (below_drewN' _ _ n)⟩
  clear hd B1
  go_wp2_with fail
  refine (specGetW_any ao n c bs 4 _ (HR.out.below rfl B2.out) hl).mono ?_
  rintro e w3 ⟨rfl, hd⟩
  rewrite [H4.out]
  have B3 : Hd (Below w.heap.size w w3) := ⟨by obtain ⟨n, rfl⟩ := hd; exact B2.out.trans (below_drewN' _ _ n)⟩
  clear hd B2
  cases k4
  · have HF : Hd (isHd bs = false) := ⟨isHd_six (fun h6 => by
      have := congrArg (fun x => x.2.2) (getW_in bs 4 (by omega))
      have e := H4.out
      rw [show (4 : Int) = ((4 : Nat) : Int) from rfl] at e
      rw [e] at this; cases this)⟩
    clear H0 H2 H4
    go_wp2_with fail
    go_ret3
    exact hdRet_f HF.out B3.out
  by_cases h6 : ¬ n = 6
  · have HF : Hd (isHd bs = false) := ⟨isHd_six (by rw [HN.out]; exact h6)⟩
    have h6' : ((n : Int) != 6) = true := by simp; omega
    clear H0 H2 H4
    go_wp2_with fail
    go_ret3
    exact hdRet_f HF.out B3.out
  obtain rfl : n = 6 := Decidable.of_not_not h6
  have HI : Hd (isHd bs = (inB a0 1 60000 && decide (a2 ≤ 30) && a4 == ((sumOf (bs.take 4) : Nat) : Int))) := ⟨by rw [hd_spec bs HN.out, H0.out, H2.out, H4.out]⟩
  have HX : Hd ((getW bs 0).1 = a0 ∧ (getW bs 2).1 = a2) := ⟨by rw [H0.out, H2.out]; exact ⟨rfl, rfl⟩⟩
  clear H0 H2 H4
  obtain ⟨S, hS⟩ : ∃ x, ((sumOf (bs.take 4) : Nat) : Int) = x := ⟨_, rfl⟩
  have HS : Hd (((sumOf (bs.take 4) : Nat) : Int) = S) := ⟨hS⟩
  clear hS
  obtain ⟨q, hq⟩ : ∃ x, inB a0 1 60000 = x := ⟨_, rfl⟩
  have HQ : Hd (inB a0 1 60000 = q) := ⟨hq⟩
  clear hq
  have HT : Hd (Reads w3 ao 4 (bs.take 4)) := ⟨by
    obtain ⟨e, h⟩ := (HR.out.below rfl B3.out : Reads w3 ao 6 bs)
    refine ⟨by simp [e], ?_⟩
    rcases h with h | ⟨b, off, e2, hcell⟩
    · omega
    · exact .inr ⟨b, off, e2, fun j hj => by rw [hcell j (by omega)]; simp [List.getD, hj]⟩⟩
  go_wp2_with fail
  refine (specSum_any ao 4 c (bs.take 4) _ HT.out (by omega)).mono ?_
  rintro e v9 ⟨rfl, hw⟩
  replace hw := hw.symm
  subst hw
  rewrite [HS.out]
  by_cases hs : ¬ a4 = S
  · have HF : Hd (isHd bs = false) := ⟨by rw [HI.out, HS.out]; simp [hs]⟩
    have hs' : (a4 != S) = true := by simp [hs]
    clear HI HQ HX
    go_wp2_with fail
    go_ret3
    exact hdRet_f HF.out B3.out
  obtain rfl : a4 = S := Decidable.of_not_not hs
  have hs' : (a4 != a4) = false := by simp
  go_wp2_with fail
  refine (l1In_any a0 1 60000 _).mono ?_
  rintro e v9 ⟨rfl, hw⟩
  replace hw := hw.symm
  subst hw
  rewrite [HQ.out]
  cases q
  · have HF : Hd (isHd bs = false) := ⟨by rw [HI.out, HQ.out]; rfl⟩
    clear HI HQ HX
    go_wp2_with fail
    go_ret3
    exact hdRet_f HF.out B3.out
  by_cases h30 : a2 ≤ 30
  · have HF : Hd (isHd bs = true) := ⟨by rw [HI.out, HS.out, HQ.out]; simp [h30]⟩
    clear HI HQ HS
    go_wp2_with fail
    go_ret3
    exact hdRet_t HF.out HX.out.1 HX.out.2 B3.out
  · have HF : Hd (isHd bs = false) := ⟨by rw [HI.out]; simp [h30]⟩
    clear HI HQ HS
    go_wp2_with fail
    go_ret3
    exact hdRet_f HF.out B3.out

set_option maxHeartbeats 4000000 in
theorem implGetHead_any (ao : Option Addr) (n c : Nat) (bs : List UInt8) (w : World) (hr : Reads w ao n bs) (hl : n ≤ 1073741824) :
    Calls Try.prog 15 #[.slice ao n c] w (HdRet bs w) := by
  have HR : Hd (Reads w ao n bs) := ⟨hr⟩
  have HN : Hd (bs.length = n) := ⟨hr.1⟩
  clear hr
  have HS := hd_same bs _ rfl
  obtain ⟨⟨a0, o0, k0⟩, h0⟩ : ∃ x, getW bs 0 = x := ⟨_, rfl⟩
  rw [h0] at HS
  dsimp only at HS
  obtain ⟨⟨a2, o2, k2⟩, h2⟩ : ∃ x, getW bs o0 = x := ⟨_, rfl⟩
  rw [h2] at HS
  dsimp only at HS
  have H0 : Hd (getW bs 0 = (a0, o0, k0)) := ⟨h0⟩
  have H2 : Hd (getW bs o0 = (a2, o2, k2)) := ⟨h2⟩
  have HZ : Hd ((decide (bs.length = 0) || !(bs == hdB a0 a2)) = !isHd bs) := ⟨HS⟩
  clear h0 h2 HS
  go_enter Try.func15, Try.ntmps15
  go_wp2_with fail
  refine (implGetW_any ao n c bs 0 _ HR.out hl).mono ?_
  rintro e w1 ⟨rfl, hd⟩
  rewrite [H0.out]
  have B1 : Hd (Below w.heap.size w w1) := ⟨by obtain ⟨n, rfl⟩ := hd; exact below_drewN' _ _ n⟩
  clear hd
  go_wp2_with fail
  refine (implGetW_any ao n c bs o0 _ (HR.out.below rfl B1.out) hl).mono ?_
  rintro e w2 ⟨rfl, hd⟩
  rewrite [H2.out]
  have B2 : Hd (Below w.heap.size w w2) := ⟨by obtain ⟨n, rfl⟩ := hd; exact B1.out.trans (below_drewN' _ _ n)⟩
  clear hd B1
  by_cases hz : n = 0
  · have HF : Hd (isHd bs = false) := ⟨isHd_six (by rw [HN.out]; omega)⟩
    subst hz
    clear HZ H0 H2
    go_wp2_with fail
    go_ret3
    exact hdRet_f HF.out B2.out
  have hz' : ((n : Int) == 0) = false := by simp; omega
  go_wp2_with fail
  refine (implHeadOf_rd a0 a2 _).mono ?_
  rintro e w3 ⟨⟨y, m, d, rfl, F, hO, _⟩, hB⟩
  have B3 : Hd (Below w.heap.size w w3) := ⟨B2.out.trans (hB.mono B2.out.size)⟩
  have HV : Hd (Reads w3 y m (hdB a0 a2)) := ⟨(rdB_parts (owB_ok.rd hO)).2⟩
  clear hO hB B2
  go_wp2_with fail
  obtain ⟨q, hq⟩ : ∃ q, (bs == hdB a0 a2) = q := ⟨_, rfl⟩
  have HQ : Hd ((bs == hdB a0 a2) = q) := ⟨hq⟩
  clear hq
  refine (equalB_is _ _ bs (hdB a0 a2) q _ HQ ((HR.out.below rfl B3.out).conv c) (HV.out.conv d)).mono ?_
  rintro e w4 ⟨rfl, hw⟩
  subst hw
  cases q
  · have HF : Hd (isHd bs = false) := ⟨by have h := HZ.out; rw [HQ.out] at h; simpa using h⟩
    clear HZ H0 H2
    go_wp2_with fail
    go_ret3
    exact hdRet_f HF.out B3.out
  · have HF : Hd (isHd bs = true) := ⟨by have h := HZ.out; rw [HQ.out] at h; have := HN.out; simpa [show bs.length ≠ 0 by omega] using h⟩
    have HX : Hd ((getW bs 0).1 = a0 ∧ (getW bs 2).1 = a2) := ⟨by
      refine ⟨by rw [H0.out], ?_⟩
      have h6 : bs.length = 6 := by
        have h := HF.out
        unfold isHd at h; simp only [Bool.and_eq_true, beq_iff_eq] at h; exact h.1.1
      have e : (getW bs 0).2.1 = 2 := congrArg (fun x => x.2.1) (getW_in bs 0 (by omega))
      rw [H0.out] at e
      have e' : o0 = 2 := e
      have h2 := H2.out
      rw [e'] at h2; rw [h2]⟩
    clear HZ H0 H2
    go_wp2_with fail
    go_ret3
    exact hdRet_t HF.out HX.out.1 HX.out.2 B3.out

end Go.Proofs.Ytlididoalekeoaa
