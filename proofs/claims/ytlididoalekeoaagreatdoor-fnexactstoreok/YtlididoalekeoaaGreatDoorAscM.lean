/- Contract: marks that go up, in the program. -/
import Derived.Test.YtlididoalekeoaaGreatDoorAscI
namespace Go.Proofs.YtlididoalekeoaaGreatDoor
set_option maxRecDepth 4000
open Go.RowKit

set_option maxHeartbeats 4000000 in
theorem ascMark_any (ao : Option Addr) (len cap : Nat) (ls : List MarkD) (w : World) (h : RdMarkS w [.slice ao len cap] ls) (hw : len ≤ 1073741824) :
    Calls Tryz.prog 35 #[.slice ao len cap, .func (.func 36) #[] #[]] w fun e w' => e = .returned (.bool (ascB ltMark ls)) ∧ Below w.heap.size w w' := by
  have HL : Hd (RdMarkS w [.slice ao len cap] ls) := ⟨h⟩
  obtain ⟨hl, _⟩ := rdS_len h
  obtain ⟨R, hR⟩ : ∃ R, ascB ltMark ls = R := ⟨_, rfl⟩
  rw [hR]
  have HN : Hd (ls.length = len ∧ ascB ltMark (ls.drop 0) = R) := ⟨hl, hR⟩
  clear h hl hR
  go_enter Tryz.func35, Tryz.ntmps35
  go_wp2_with fail
  go_loopw [5] (fun i wr => ∃ j : Nat, i = .int .i64 (((j + 1 : Nat) : Int)) ∧ j ≤ len ∧ Hd (ascB ltMark (ls.drop j) = R) ∧ Hd (Below w.heap.size w wr)) (fun i _ => len + 1 - (intOf i).toNat)
  case atStart => exact ⟨0, rfl, Nat.zero_le _, ⟨HN.out.2⟩, ⟨Below.refl _ _⟩⟩
  case round =>
    obtain ⟨j, rfl, hj, HK, HB⟩ := hrel
    by_cases hlt : j + 1 < len
    · have hlt' : ((j + 1 : Nat) : Int) < (len : Int) := by omega
      have h0 : (0 : Int) ≤ ((j + 1 : Nat) : Int) := by omega
      have hs : IntKind.i64.wrap (((j + 1 : Nat) : Int) - 1) = (j : Int) := by rw [IntKind.wrap_i64]; omega
      have hs3 : IntKind.i64.wrap ((j : Int) + 1 - 1) = (j : Int) := by rw [IntKind.wrap_i64]; omega
      have hs4 : IntKind.i64.wrap (j : Int) = (j : Int) := by rw [IntKind.wrap_i64]; omega
      have hj0 : (0 : Int) ≤ (j : Int) := by omega
      have hjl : (j : Int) < (len : Int) := by omega
      obtain ⟨a, ha⟩ := get_some (l := ls) (j := j) (by rw [HN.out.1]; omega)
      obtain ⟨b, hb⟩ := get_some (l := ls) (j := j + 1) (by rw [HN.out.1]; exact hlt)
      have HE : Hd (R = (ltMark a b && ascB ltMark (ls.drop (j + 1)))) := ⟨by rw [← HK.out]; exact ascB_at ha hb⟩
      obtain ⟨q1, o1, k1, e1, _, r1, z1⟩ := rdS_get HL.out ha
      obtain ⟨q2, o2, k2, e2, _, r2, z2⟩ := rdS_get HL.out hb
      subst e1
      simp only [Option.some.injEq, Addr.mk.injEq, and_true] at e2
      obtain ⟨rfl, rfl⟩ := e2
      replace r1 := rdMark_ok.below r1 HB.out
      replace r2 := rdMark_ok.below r2 HB.out
      have Q : Hd (RdMark wr k1 a ∧ RdMark wr k2 b) := ⟨r1, r2⟩
      obtain ⟨a0, a1, a2⟩ := a
      obtain ⟨b0, b1, b2⟩ := b
      simp only [RdMark] at r1 r2
      subst r1 r2
      have t0 := cell_below (z1 0 _ rfl) HB.out
      have u0 := cell_below (z2 0 _ rfl) HB.out
      have t1 := cell_below (z1 1 _ rfl) HB.out
      have u1 := cell_below (z2 1 _ rfl) HB.out
      have t2 := cell_below (z1 2 _ rfl) HB.out
      have u2 := cell_below (z2 2 _ rfl) HB.out
      simp only [Nat.add_zero] at t0 u0
      clear ha hb z1 z2
      go_wp2_with fail
      have KK : Hd (∀ w', Below wr.heap.size wr w' → (w'.cell? ⟨q1, o1 + j * 3, none⟩ = some (.int .i64 a0) ∧ w'.cell? ⟨q1, o1 + j * 3 + 1, none⟩ = some (.int .i64 a1) ∧ w'.cell? ⟨q1, o1 + j * 3 + 2, none⟩ = some (.int .i64 a2) ∧ w'.cell? ⟨q1, o1 + (j + 1) * 3, none⟩ = some (.int .i64 b0) ∧ w'.cell? ⟨q1, o1 + (j + 1) * 3 + 1, none⟩ = some (.int .i64 b1) ∧ w'.cell? ⟨q1, o1 + (j + 1) * 3 + 2, none⟩ = some (.int .i64 b2))) := ⟨fun w' hb => ⟨cell_below t0 hb, cell_below t1 hb, cell_below t2 hb, cell_below u0 hb, cell_below u1 hb, cell_below u2 hb⟩⟩
      have D0 : Hd (Below wr.heap.size wr wr.drew) := ⟨(Below.refl _ wr).drew⟩
      go_region_held (fun w' => w'.cell? ⟨q1, o1 + j * 3, none⟩ = some (.int .i64 a0) ∧ w'.cell? ⟨q1, o1 + j * 3 + 1, none⟩ = some (.int .i64 a1) ∧ w'.cell? ⟨q1, o1 + j * 3 + 2, none⟩ = some (.int .i64 a2) ∧ w'.cell? ⟨q1, o1 + (j + 1) * 3, none⟩ = some (.int .i64 b0) ∧ w'.cell? ⟨q1, o1 + (j + 1) * 3 + 1, none⟩ = some (.int .i64 b1) ∧ w'.cell? ⟨q1, o1 + (j + 1) * 3 + 2, none⟩ = some (.int .i64 b2)) (first | (with_reducible exact KK.out _ D2.out) | (with_reducible exact KK.out _ D1.out) | (with_reducible exact KK.out _ D0.out))
        (first | (have G1 := D1; clear G1; go_at_call 36; refine (whoOfMark_any _ ⟨b0, b1, b2⟩ _ (rdMark_ok.below Q.out.2 D1.out)).mono ?_; rintro e w2 ⟨rfl, hB⟩; have D2 : Hd (Below wr.heap.size wr w2) := ⟨Below.next D1.out hB⟩; clear hB) | (go_at_call 36; refine (whoOfMark_any _ ⟨a0, a1, a2⟩ _ (rdMark_ok.below Q.out.1 D0.out)).mono ?_; rintro e w1 ⟨rfl, hB⟩; have D1 : Hd (Below wr.heap.size wr w1) := ⟨Below.next D0.out hB⟩; clear hB))
      all_goals
        have HB2 : Hd (Below w.heap.size w w2) := ⟨Below.next HB.out D2.out⟩
        clear KK D0 D1 D2 Q HB t0 u0 t1 u1 t2 u2
        by_cases hc : b0 ≤ a0
        · have HF : Hd (R = false) := ⟨by rw [HE.out, show ltMark ⟨a0, a1, a2⟩ ⟨b0, b1, b2⟩ = false from by simp only [ltMark]; exact decide_eq_false (by omega)]; rfl⟩
          clear HE
          go_wp2_with fail
          go_ret
          exact ⟨by rw [HF.out]; rfl, HB2.out⟩
        · have HF : Hd (ascB ltMark (ls.drop (j + 1)) = R) := ⟨by rw [HE.out, show ltMark ⟨a0, a1, a2⟩ ⟨b0, b1, b2⟩ = true from by simp only [ltMark]; exact decide_eq_true (by omega), Bool.true_and]⟩
          clear HE
          go_wp2_with fail
          go_roundw
          case rel => exact ⟨j + 1, by go_num, by omega, HF, HB2⟩
          case measure => simp [intOf]; omega
    · have HF : Hd (R = true) := ⟨by rw [← HK.out]; exact ascB_end (by have := HN.out.1; omega)⟩
      have hge : ¬ ((j + 1 : Nat) : Int) < (len : Int) := by omega
      go_wp2_with fail
      go_ret
      exact ⟨by rw [HF.out]; rfl, HB.out⟩

end Go.Proofs.YtlididoalekeoaaGreatDoor
