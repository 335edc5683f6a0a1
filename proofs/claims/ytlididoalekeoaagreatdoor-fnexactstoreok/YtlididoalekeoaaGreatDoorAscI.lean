/- Contracts: lists that go up, in the program. -/
import Derived.Test.YtlididoalekeoaaGreatDoorAscP
import Derived.Test.YtlididoalekeoaaGreatDoorSameP
import Derived.Test.YtlididoalekeoaaGreatDoorDpTab
import Derived.Deep.RegionHeld3
namespace Go.Proofs.YtlididoalekeoaaGreatDoor
set_option maxRecDepth 4000
open Go.RowKit

theorem keyOfRow_any (cs : List Value) (a : RowD) (w : World) (h : RdRow w cs a) :
    Calls Tryz.prog 34 #[.agg cs.toArray] w fun e w' => e = .returned (.string a.key) ∧ Below w.heap.size w w' := by
  obtain ⟨l0, l1, l2, l3, l4, l5, l6⟩ := a
  simp only [RdRow] at h
  obtain ⟨x2, m2, d2, x4, m4, d4, rfl, _⟩ := h
  dsimp only
  go_enter Tryz.func34, Tryz.ntmps34
  go_wp2
  go_ret
  exact ⟨rfl, below_lit w _⟩
theorem whoOfMark_any (cs : List Value) (a : MarkD) (w : World) (h : RdMark w cs a) :
    Calls Tryz.prog 36 #[.agg cs.toArray] w fun e w' => e = .returned (.int .i64 a.who) ∧ Below w.heap.size w w' := by
  obtain ⟨l0, l1, l2⟩ := a
  simp only [RdMark] at h
  subst h
  dsimp only
  go_enter Tryz.func36, Tryz.ntmps36
  go_wp2
  go_ret
  exact ⟨rfl, below_lit w _⟩

set_option maxHeartbeats 4000000 in
theorem ascRow_any (ao : Option Addr) (len cap : Nat) (ls : List RowD) (w : World) (h : RdRowS w [.slice ao len cap] ls) (hw : len ≤ 1073741824) :
    Calls Tryz.prog 33 #[.slice ao len cap, .func (.func 34) #[] #[]] w fun e w' => e = .returned (.bool (ascB ltRow ls)) ∧ Below w.heap.size w w' := by
  have HL : Hd (RdRowS w [.slice ao len cap] ls) := ⟨h⟩
  obtain ⟨hl, _⟩ := rdS_len h
  obtain ⟨R, hR⟩ : ∃ R, ascB ltRow ls = R := ⟨_, rfl⟩
  rw [hR]
  have HN : Hd (ls.length = len ∧ ascB ltRow (ls.drop 0) = R) := ⟨hl, hR⟩
  clear h hl hR
  go_enter Tryz.func33, Tryz.ntmps33
  go_wp2_with fail
  go_loopw [5] (fun i wr => ∃ j : Nat, i = .int .i64 (((j + 1 : Nat) : Int)) ∧ j ≤ len ∧ Hd (ascB ltRow (ls.drop j) = R) ∧ Hd (Below w.heap.size w wr)) (fun i _ => len + 1 - (intOf i).toNat)
  case atStart => exact ⟨0, rfl, Nat.zero_le _, ⟨HN.out.2⟩, ⟨Below.refl _ _⟩⟩
  case round =>
    obtain ⟨j, rfl, hj, HK, HB⟩ := hrel
    by_cases hlt : j + 1 < len
    · have hlt' : ((j + 1 : Nat) : Int) < (len : Int) := by omega
      have h0 : (0 : Int) ≤ ((j + 1 : Nat) : Int) := by omega
      have hs : IntKind.i64.wrap (((j + 1 : Nat) : Int) - 1) = (j : Int) := by rw [IntKind.wrap_i64]; omega
      have hs3 : IntKind.i64.wrap ((j : Int) + 1 - 1) = (j : Int) := by rw [IntKind.wrap_i64]; omega
      have hs4 : IntKind.i64.wrap (j : Int) = (j : Int) := by rw [IntKind.wrap_i64]; omega
      have hj0 : (0 : Int) ≤ (j : Int) := by omega
      have hjl : (j : Int) < (len : Int) := by omega
      obtain ⟨a, ha⟩ := get_some (l := ls) (j := j) (by rw [HN.out.1]; omega)
      obtain ⟨b, hb⟩ := get_some (l := ls) (j := j + 1) (by rw [HN.out.1]; exact hlt)
      have HE : Hd (R = (ltRow a b && ascB ltRow (ls.drop (j + 1)))) := ⟨by rw [← HK.out]; exact ascB_at ha hb⟩
      obtain ⟨q1, o1, k1, e1, _, r1, z1⟩ := rdS_get HL.out ha
      obtain ⟨q2, o2, k2, e2, _, r2, z2⟩ := rdS_get HL.out hb
      subst e1
      simp only [Option.some.injEq, Addr.mk.injEq, and_true] at e2
      obtain ⟨rfl, rfl⟩ := e2
      replace r1 := rdRow_ok.below r1 HB.out
      replace r2 := rdRow_ok.below r2 HB.out
      have Q : Hd (RdRow wr k1 a ∧ RdRow wr k2 b) := ⟨r1, r2⟩
      obtain ⟨a0, a1, a2, a3, a4, a5, a6⟩ := a
      obtain ⟨b0, b1, b2, b3, b4, b5, b6⟩ := b
      obtain ⟨x12, x13, x14, x22, x23, x24, rfl, _⟩ := r1
      obtain ⟨y12, y13, y14, y22, y23, y24, rfl, _⟩ := r2
      have t0 := cell_below (z1 0 _ rfl) HB.out
      have u0 := cell_below (z2 0 _ rfl) HB.out
      have t1 := cell_below (z1 1 _ rfl) HB.out
      have u1 := cell_below (z2 1 _ rfl) HB.out
      have t2 := cell_below (z1 2 _ rfl) HB.out
      have u2 := cell_below (z2 2 _ rfl) HB.out
      have t3 := cell_below (z1 3 _ rfl) HB.out
      have u3 := cell_below (z2 3 _ rfl) HB.out
      have t4 := cell_below (z1 4 _ rfl) HB.out
      have u4 := cell_below (z2 4 _ rfl) HB.out
      have t5 := cell_below (z1 5 _ rfl) HB.out
      have u5 := cell_below (z2 5 _ rfl) HB.out
      have t6 := cell_below (z1 6 _ rfl) HB.out
      have u6 := cell_below (z2 6 _ rfl) HB.out
      simp only [Nat.add_zero] at t0 u0
      obtain ⟨s, hsq⟩ : ∃ s, ltRow ⟨a0, a1, a2, a3, a4, a5, a6⟩ ⟨b0, b1, b2, b3, b4, b5, b6⟩ = s := ⟨_, rfl⟩
      rw [hsq] at HE
      have hge : ∀ W, (binOp BinOp.geq 9 (.string a0) (.string b0)).run Tryz.prog W = .ok (.bool (!s)) W := fun W => by
        rw [← hsq]
        rfl
      clear ha hb z1 z2 hsq
      go_wp2_with fail
      have KK : Hd (∀ w', Below wr.heap.size wr w' → (w'.cell? ⟨q1, o1 + j * 7, none⟩ = some (.string a0) ∧ w'.cell? ⟨q1, o1 + j * 7 + 1, none⟩ = some (.int .i64 a1) ∧ w'.cell? ⟨q1, o1 + j * 7 + 2, none⟩ = some (.slice x12 x13 x14) ∧ w'.cell? ⟨q1, o1 + j * 7 + 3, none⟩ = some (.int .i64 a3) ∧ w'.cell? ⟨q1, o1 + j * 7 + 4, none⟩ = some (.slice x22 x23 x24) ∧ w'.cell? ⟨q1, o1 + j * 7 + 5, none⟩ = some (.int .i64 a5) ∧ w'.cell? ⟨q1, o1 + j * 7 + 6, none⟩ = some (.bool a6) ∧ w'.cell? ⟨q1, o1 + (j + 1) * 7, none⟩ = some (.string b0) ∧ w'.cell? ⟨q1, o1 + (j + 1) * 7 + 1, none⟩ = some (.int .i64 b1) ∧ w'.cell? ⟨q1, o1 + (j + 1) * 7 + 2, none⟩ = some (.slice y12 y13 y14) ∧ w'.cell? ⟨q1, o1 + (j + 1) * 7 + 3, none⟩ = some (.int .i64 b3) ∧ w'.cell? ⟨q1, o1 + (j + 1) * 7 + 4, none⟩ = some (.slice y22 y23 y24) ∧ w'.cell? ⟨q1, o1 + (j + 1) * 7 + 5, none⟩ = some (.int .i64 b5) ∧ w'.cell? ⟨q1, o1 + (j + 1) * 7 + 6, none⟩ = some (.bool b6))) := ⟨fun w' hb => ⟨cell_below t0 hb, cell_below t1 hb, cell_below t2 hb, cell_below t3 hb, cell_below t4 hb, cell_below t5 hb, cell_below t6 hb, cell_below u0 hb, cell_below u1 hb, cell_below u2 hb, cell_below u3 hb, cell_below u4 hb, cell_below u5 hb, cell_below u6 hb⟩⟩
      have D0 : Hd (Below wr.heap.size wr wr.drew) := ⟨(Below.refl _ wr).drew⟩
      go_region_held (fun w' => w'.cell? ⟨q1, o1 + j * 7, none⟩ = some (.string a0) ∧ w'.cell? ⟨q1, o1 + j * 7 + 1, none⟩ = some (.int .i64 a1) ∧ w'.cell? ⟨q1, o1 + j * 7 + 2, none⟩ = some (.slice x12 x13 x14) ∧ w'.cell? ⟨q1, o1 + j * 7 + 3, none⟩ = some (.int .i64 a3) ∧ w'.cell? ⟨q1, o1 + j * 7 + 4, none⟩ = some (.slice x22 x23 x24) ∧ w'.cell? ⟨q1, o1 + j * 7 + 5, none⟩ = some (.int .i64 a5) ∧ w'.cell? ⟨q1, o1 + j * 7 + 6, none⟩ = some (.bool a6) ∧ w'.cell? ⟨q1, o1 + (j + 1) * 7, none⟩ = some (.string b0) ∧ w'.cell? ⟨q1, o1 + (j + 1) * 7 + 1, none⟩ = some (.int .i64 b1) ∧ w'.cell? ⟨q1, o1 + (j + 1) * 7 + 2, none⟩ = some (.slice y12 y13 y14) ∧ w'.cell? ⟨q1, o1 + (j + 1) * 7 + 3, none⟩ = some (.int .i64 b3) ∧ w'.cell? ⟨q1, o1 + (j + 1) * 7 + 4, none⟩ = some (.slice y22 y23 y24) ∧ w'.cell? ⟨q1, o1 + (j + 1) * 7 + 5, none⟩ = some (.int .i64 b5) ∧ w'.cell? ⟨q1, o1 + (j + 1) * 7 + 6, none⟩ = some (.bool b6)) (first | (with_reducible exact KK.out _ D2.out) | (with_reducible exact KK.out _ D1.out) | (with_reducible exact KK.out _ D0.out))
        (first | (have G1 := D1; clear G1; go_at_call 34; refine (keyOfRow_any _ ⟨b0, b1, b2, b3, b4, b5, b6⟩ _ (rdRow_ok.below Q.out.2 D1.out)).mono ?_; rintro e w2 ⟨rfl, hB⟩; have D2 : Hd (Below wr.heap.size wr w2) := ⟨Below.next D1.out hB⟩; clear hB) | (go_at_call 34; refine (keyOfRow_any _ ⟨a0, a1, a2, a3, a4, a5, a6⟩ _ (rdRow_ok.below Q.out.1 D0.out)).mono ?_; rintro e w1 ⟨rfl, hB⟩; have D1 : Hd (Below wr.heap.size wr w1) := ⟨Below.next D0.out hB⟩; clear hB))
      all_goals
        have HB2 : Hd (Below w.heap.size w w2) := ⟨Below.next HB.out D2.out⟩
        clear KK D0 D1 D2 Q HB t0 u0 t1 u1 t2 u2 t3 u3 t4 u4 t5 u5 t6 u6
        cases s
        · have HF : Hd (R = false) := ⟨HE.out⟩
          clear HE
          go_wp2_with fail
          go_ret
          exact ⟨by rw [HF.out]; rfl, HB2.out⟩
        · have HF : Hd (ascB ltRow (ls.drop (j + 1)) = R) := ⟨by rw [HE.out, Bool.true_and]⟩
          clear HE
          go_wp2_with fail
          go_roundw
          case rel => exact ⟨j + 1, by go_num, by omega, HF, HB2⟩
          case measure => simp [intOf]; omega
    · have HF : Hd (R = true) := ⟨by rw [← HK.out]; exact ascB_end (by have := HN.out.1; omega)⟩
      have hge : ¬ ((j + 1 : Nat) : Int) < (len : Int) := by omega
      go_wp2_with fail
      go_ret
      exact ⟨by rw [HF.out]; rfl, HB.out⟩

end Go.Proofs.YtlididoalekeoaaGreatDoor
