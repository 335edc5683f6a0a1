/- FnHeads holds: whatever is drawn, a head comes back of its bytes, and with one byte turned it does not. -/
import Derived.Test.YtlididoalekeoaaRows
import Derived.WalkKit
import Derived.ProofKit
import Derived.OpenShut
import Derived.ShutString
import Derived.ChangeOld
import Derived.Below
import Derived.Test.YtlididoalekeoaaHeadG
import Derived.Test.YtlididoalekeoaaHeadT
import Derived.Test.YtlididoalekeoaaDrawHd
import Derived.Test.YtlididoalekeoaaAtV
import Derived.Test.YtlididoalekeoaaHeldS
namespace Go.Proofs.Ytlididoalekeoaa.fnHeads
open Go.ChangeShapes Go.WideShapes Go.ChangeAt Go.RowKit
open Go.ChangeMaps (open_string shut_string)
set_option linter.unusedVariables false

theorem own : ownKnob Try.prog.godebug = none := by kernel_rfl
theorem laidOut : laidOutB Try.prog = true := by kernel_rfl

def IsRow (k : IntKind) (w : World) (a : Option Addr) (len cap : Nat) (zs : List Int) : Prop :=
  (a = none ∧ len = 0 ∧ cap = 0 ∧ zs = []) ∨
  ∃ x, a = some x ∧ len ≤ cap ∧ cap ≤ maxLen ∧ zs.length = cap ∧ (∀ i, i < zs.length → w.cell? (x.add i) = some (.int k (zs.getD i 0))) ∧ ∀ n ∈ zs, (Lit.int k n).wf = true

set_option maxHeartbeats 8000000 in
theorem walk (a0 : Option Addr) (len0 cap0 : Nat) (z0 : List Int) (w : World) (w0 : IsRow .u8 w a0 len0 cap0 z0) :
    Calls Try.prog 5 #[.slice a0 len0 cap0] w fun e w' => e = .returned (.bool true) ∧ Below w.heap.size w w' := by
  obtain ⟨bs, hr⟩ := reads_of_row w0
  have Hr : Hd (Reads w a0 len0 bs) := ⟨hr⟩
  clear hr w0
  by_cases hb : (1048576 : Int) < (len0 : Int)
  · have hbd : decide ((1048576 : Int) < (len0 : Int)) = true := decide_eq_true hb
    go_enter Try.func5, Try.ntmps5
    go_wp2_with (go_at_call 16; refine (big_any _ _ _ _).mono ?_; rintro e w' ⟨rfl, rfl⟩)
    go_ret
    exact ⟨rfl, Below.refl _ _⟩
  have hbd : decide ((1048576 : Int) < (len0 : Int)) = false := decide_eq_false hb
  have hl : len0 ≤ 1073741824 := by omega
  go_enter Try.func5, Try.ntmps5
  go_wp2_with fail
  refine (big_any _ _ _ _).mono ?_
  rintro e w' ⟨rfl, hw'⟩
  subst hw'
  go_wp2_with fail
  refine (drawHeadOf_any a0 len0 cap0 bs _ hl Hr.out).mono ?_
  rintro e w1 ⟨gen, n, rfl, _, _, hB1⟩
  have R1 : Hd (Reads w1 a0 len0 bs ∧ Below w'.heap.size w' w1) := ⟨Hr.out.below rfl hB1, hB1⟩
  clear hB1 Hr
  go_wp2_with fail
  refine (implHeadOf_rd gen n _).mono ?_
  rintro e w2 ⟨⟨ba, bm, bc, rfl, F, hO, hF⟩, hB2⟩
  have O2 : Hd (OwB w2 [.slice ba bm bc] F (hdB gen n) ∧ ∀ x, F x → w'.heap.size ≤ x) := ⟨hO, fun x hx => by have := hF x hx; have := R1.out.2.size; omega⟩
  have R2 : Hd (Reads w2 a0 len0 bs ∧ Below w'.heap.size w' w2) := ⟨R1.out.1.below rfl hB2, Below.next R1.out.2 hB2⟩
  clear hO hF hB2 R1
  go_wp2_with fail
  refine (drawGetHead_any a0 len0 cap0 bs _ hl R2.out.1).mono ?_
  rintro e w3 ⟨q, m, c, ds, rfl, hds, hm6, hmc, hO3, hB3⟩
  have O3 : Hd (OwB w3 [.slice ba bm bc] F (hdB gen n) ∧ ∀ x, F x → w'.heap.size ≤ x) := ⟨owB_ok.below O2.out.1 hB3, O2.out.2⟩
  have R3 : Hd (Reads w3 a0 len0 bs ∧ Below w'.heap.size w' w3) := ⟨R2.out.1.below rfl hB3, Below.next R2.out.2 hB3⟩
  have D3 : Hd (Reads w3 (some ⟨q, 0, none⟩) m ds) := ⟨hO3.row.reads hds⟩
  clear hO3 hB3 O2 R2 hds
  obtain ⟨⟨g0, g1, g2⟩, hg⟩ : ∃ x, hdGet ds = x := ⟨_, rfl⟩
  have HG : Hd (hdGet ds = (g0, g1, g2)) := ⟨hg⟩
  clear hg
  go_wp2_with fail
  refine (implGetHead_any _ m c ds _ D3.out (by omega)).mono ?_
  rintro e w4 ⟨rfl, hB4⟩
  rewrite [HG.out]
  have O4 : Hd (OwB w4 [.slice ba bm bc] F (hdB gen n) ∧ ∀ x, F x → w'.heap.size ≤ x) := ⟨owB_ok.below O3.out.1 hB4, O3.out.2⟩
  have R4 : Hd (Reads w4 a0 len0 bs ∧ Below w'.heap.size w' w4) := ⟨R3.out.1.below rfl hB4, Below.next R3.out.2 hB4⟩
  have D4 : Hd (Reads w4 (some ⟨q, 0, none⟩) m ds) := ⟨D3.out.below rfl hB4⟩
  clear hB4 O3 R3 D3
  go_wp2_with fail
  refine (specGetHead_any _ m c ds _ D4.out hmc (by omega)).mono ?_
  rintro e w5 ⟨rfl, hB5⟩
  rewrite [HG.out]
  have O5 : Hd (OwB w5 [.slice ba bm bc] F (hdB gen n) ∧ ∀ x, F x → w'.heap.size ≤ x) := ⟨owB_ok.below O4.out.1 hB5, O4.out.2⟩
  have R5 : Hd (Reads w5 a0 len0 bs ∧ Below w'.heap.size w' w5) := ⟨R4.out.1.below rfl hB5, Below.next R4.out.2 hB5⟩
  have D5 : Hd (Reads w5 (some ⟨q, 0, none⟩) m ds) := ⟨D4.out.below rfl hB5⟩
  clear hB5 O4 R4 D4
  have HGE : Hd (g2 = true → hdB g0 g1 = ds) := ⟨fun h => by
    have e := HG.out
    cases hi : isHd ds
    · rw [hdGet_f hi] at e
      simp only [Prod.mk.injEq] at e
      rw [← e.2.2] at h; cases h
    · rw [hdGet_t hi] at e
      simp only [Prod.mk.injEq] at e
      rw [← e.1, ← e.2.1]; exact (isHd_eq hi).symm⟩
  obtain ⟨SB, hSB⟩ : ∃ x, strB (hdB gen n) = x := ⟨_, rfl⟩
  have HSB : Hd (strB (hdB gen n) = SB) := ⟨hSB⟩
  clear hSB
  obtain ⟨SC, hSC⟩ : ∃ x, strB ds = x := ⟨_, rfl⟩
  have HSC : Hd (strB ds = SC) := ⟨hSC⟩
  clear hSC
  have HK : Hd (hdOk gen n = false → bm = 0) := ⟨fun h => by
    have e := (rdB_parts (owB_ok.rd O5.out.1)).2.1
    rw [hdB_f h] at e; exact e.symm⟩
  have HRB : Hd (RdB w5 [.slice ba bm bc] (hdB gen n)) := ⟨owB_ok.rd O5.out.1⟩
  go_wp2_with fail
  cases g2
  · clear HGE HG
    have KK0 : Hd (∀ w', Below w5.heap.size w5 w' → ((convert 22 9 (.slice ba bm bc)).run Try.prog w' = .ok (.string SB) w' ∧ (convert 22 9 (.slice (some ⟨q, 0, none⟩) m c)).run Try.prog w' = .ok (.string SC) w')) := ⟨fun w' hb => ⟨Reads.conv_eq (rdB_parts (rdB_ok.below HRB.out hb)).2 bc HSB.out, Reads.conv_eq (D5.out.below rfl hb) c HSC.out⟩⟩
    refine wp_region_held_drew (S := fun w' => ((convert 22 9 (.slice ba bm bc)).run Try.prog w' = .ok (.string SB) w' ∧ (convert 22 9 (.slice (some ⟨q, 0, none⟩) m c)).run Try.prog w' = .ok (.string SC) w')) (by kernel_rfl) (KK0.out _ (Below.refl _ w5).drew) (fun hHeld => ?_)
    have E0 : Hd (Below w5.heap.size w5 w5.drew) := ⟨(Below.refl _ w5).drew⟩
    refine wpAnyH_take (i := 0) (oi := { dst := some 43, op := Op.move (Operand.tmp 9), type := 4, pos := _, after := #[], guard := none }) (v := ?_) rfl (by kernel_rfl) (by kernel_rfl) (by kernel_rfl) (fun _ _ _ h => h) (Or.inl ⟨by rfl, ?_⟩) (by assumption) ?_
    rotate_left
    · intro w9 hSw
      try dsimp only at hSw
      go_simp
      try with_reducible rfl
    simp only [Act.put, List.setIfInBounds_toArray, List.set_cons_zero, List.set_cons_succ]
    refine wpAnyH_take (i := 1) (oi := { dst := some 44, op := Op.move (Operand.tmp 12), type := 4, pos := _, after := #[], guard := none }) (v := ?_) rfl (by kernel_rfl) (by kernel_rfl) (by kernel_rfl) (fun _ _ _ h => h) (Or.inl ⟨by rfl, ?_⟩) (by assumption) ?_
    rotate_left
    · intro w9 hSw
      try dsimp only at hSw
      go_simp
      try with_reducible rfl
    simp only [Act.put, List.setIfInBounds_toArray, List.set_cons_zero, List.set_cons_succ]
    refine wpAnyH_take (i := 2) (oi := { dst := some 45, op := Op.binOp BinOp.neq 4 (Operand.tmp 43) (Operand.tmp 44) 4, type := 4, pos := _, after := #[{ on := 0, ground := Ground.data }, { on := 1, ground := Ground.data }], guard := none }) (v := ?_) rfl (by kernel_rfl) (by kernel_rfl) (by kernel_rfl) (fun _ _ _ h => h) (Or.inl ⟨by rfl, ?_⟩) (by assumption) ?_
    rotate_left
    · intro w9 hSw
      try dsimp only at hSw
      go_simp
      try with_reducible rfl
    simp only [Act.put, List.setIfInBounds_toArray, List.set_cons_zero, List.set_cons_succ]
    refine wpAnyH_take (i := 3) (oi := { dst := some 46, op := Op.move (Operand.tmp 45), type := 4, pos := _, after := #[{ on := 2, ground := Ground.data }], guard := none }) (v := ?_) rfl (by kernel_rfl) (by kernel_rfl) (by kernel_rfl) (fun _ _ _ h => h) (Or.inl ⟨by rfl, ?_⟩) (by assumption) ?_
    rotate_left
    · intro w9 hSw
      try dsimp only at hSw
      go_simp
      try with_reducible rfl
    simp only [Act.put, List.setIfInBounds_toArray, List.set_cons_zero, List.set_cons_succ]
    refine wpAnyH_take (i := 4) (oi := { dst := some 47, op := Op.move (Operand.tmp 9), type := 4, pos := _, after := #[{ on := 3, ground := Ground.guard }], guard := some (3, false) }) (v := ?_) rfl (by kernel_rfl) (by kernel_rfl) (by kernel_rfl) (fun _ _ _ h => h) (Or.inl ⟨by rfl, ?_⟩) (by assumption) ?_
    rotate_left
    · intro w9 hSw
      try dsimp only at hSw
      go_simp
      try with_reducible rfl
    simp only [Act.put, List.setIfInBounds_toArray, List.set_cons_zero, List.set_cons_succ]
    refine wpAnyH_take (i := 5) (oi := { dst := some 48, op := Op.move (Operand.tmp 47), type := 4, pos := _, after := #[{ on := 4, ground := Ground.data }, { on := 3, ground := Ground.chain }, { on := 3, ground := Ground.guard }], guard := some (3, false) }) (v := ?_) rfl (by kernel_rfl) (by kernel_rfl) (by kernel_rfl) (fun _ _ _ h => h) (Or.inl ⟨by rfl, ?_⟩) (by assumption) ?_
    rotate_left
    · intro w9 hSw
      try dsimp only at hSw
      go_simp
      try with_reducible rfl
    simp only [Act.put, List.setIfInBounds_toArray, List.set_cons_zero, List.set_cons_succ]
    refine wpAnyH_take (i := 6) (oi := { dst := some 49, op := Op.move (Operand.tmp 7), type := 3, pos := _, after := #[{ on := 5, ground := Ground.guard }], guard := some (5, true) }) (v := _) rfl (by kernel_rfl) (by kernel_rfl) (by kernel_rfl) (fun _ _ _ h => h) (Or.inr ⟨by rfl, rfl⟩) (by assumption) ?_
    simp only [Act.put, List.setIfInBounds_toArray, List.set_cons_zero, List.set_cons_succ]
    refine wpAnyH_take (i := 7) (oi := { dst := some 50, op := Op.move (Operand.tmp 8), type := 3, pos := _, after := #[{ on := 5, ground := Ground.guard }], guard := some (5, true) }) (v := _) rfl (by kernel_rfl) (by kernel_rfl) (by kernel_rfl) (fun _ _ _ h => h) (Or.inr ⟨by rfl, rfl⟩) (by assumption) ?_
    simp only [Act.put, List.setIfInBounds_toArray, List.set_cons_zero, List.set_cons_succ]
    refine wpAnyH_take (i := 8) (oi := { dst := some 51, op := Op.call { callee := Callee.value (Operand.func 9), args := #[Operand.tmp 49, Operand.tmp 50], argTypes := #[3, 3] }, type := 22, pos := _, after := #[{ on := 6, ground := Ground.data }, { on := 7, ground := Ground.data }, { on := 5, ground := Ground.chain }, { on := 5, ground := Ground.guard }], guard := some (5, true) }) (v := _) rfl (by kernel_rfl) (by kernel_rfl) (by kernel_rfl) (fun _ _ _ h => h) (Or.inr ⟨by rfl, rfl⟩) (by assumption) ?_
    simp only [Act.put, List.setIfInBounds_toArray, List.set_cons_zero, List.set_cons_succ]
    refine wpAnyH_take (i := 9) (oi := { dst := some 52, op := Op.convert 22 9 (Operand.tmp 51), type := 9, pos := _, after := #[{ on := 8, ground := Ground.data }, { on := 5, ground := Ground.guard }], guard := some (5, true) }) (v := _) rfl (by kernel_rfl) (by kernel_rfl) (by kernel_rfl) (fun _ _ _ h => h) (Or.inr ⟨by rfl, rfl⟩) (by assumption) ?_
    simp only [Act.put, List.setIfInBounds_toArray, List.set_cons_zero, List.set_cons_succ]
    refine wpAnyH_take (i := 10) (oi := { dst := some 53, op := Op.move (Operand.tmp 6), type := 22, pos := _, after := #[{ on := 5, ground := Ground.guard }], guard := some (5, true) }) (v := _) rfl (by kernel_rfl) (by kernel_rfl) (by kernel_rfl) (fun _ _ _ h => h) (Or.inr ⟨by rfl, rfl⟩) (by assumption) ?_
    simp only [Act.put, List.setIfInBounds_toArray, List.set_cons_zero, List.set_cons_succ]
    refine wpAnyH_take (i := 11) (oi := { dst := some 54, op := Op.convert 22 9 (Operand.tmp 53), type := 9, pos := _, after := #[{ on := 10, ground := Ground.data }, { on := 5, ground := Ground.guard }], guard := some (5, true) }) (v := _) rfl (by kernel_rfl) (by kernel_rfl) (by kernel_rfl) (fun _ _ _ h => h) (Or.inr ⟨by rfl, rfl⟩) (by assumption) ?_
    simp only [Act.put, List.setIfInBounds_toArray, List.set_cons_zero, List.set_cons_succ]
    refine wpAnyH_take (i := 12) (oi := { dst := some 55, op := Op.binOp BinOp.neq 9 (Operand.tmp 52) (Operand.tmp 54) 9, type := 4, pos := _, after := #[{ on := 9, ground := Ground.data }, { on := 11, ground := Ground.data }, { on := 5, ground := Ground.guard }], guard := some (5, true) }) (v := _) rfl (by kernel_rfl) (by kernel_rfl) (by kernel_rfl) (fun _ _ _ h => h) (Or.inr ⟨by rfl, rfl⟩) (by assumption) ?_
    simp only [Act.put, List.setIfInBounds_toArray, List.set_cons_zero, List.set_cons_succ]
    refine wpAnyH_take (i := 13) (oi := { dst := some 56, op := Op.pick (Operand.tmp 48) (Operand.tmp 55) (Operand.const (Value.bool false)), type := 4, pos := _, after := #[{ on := 5, ground := Ground.data }, { on := 12, ground := Ground.data }, { on := 3, ground := Ground.guard }], guard := some (3, false) }) (v := ?_) rfl (by kernel_rfl) (by kernel_rfl) (by kernel_rfl) (fun _ _ _ h => h) (Or.inl ⟨by rfl, ?_⟩) (by assumption) ?_
    rotate_left
    · intro w9 hSw
      try dsimp only at hSw
      go_simp
      try with_reducible rfl
    simp only [Act.put, List.setIfInBounds_toArray, List.set_cons_zero, List.set_cons_succ]
    refine wpAnyH_take (i := 14) (oi := { dst := some 57, op := Op.pick (Operand.tmp 46) (Operand.const (Value.bool true)) (Operand.tmp 56), type := 4, pos := _, after := #[{ on := 3, ground := Ground.data }, { on := 13, ground := Ground.data }], guard := none }) (v := ?_) rfl (by kernel_rfl) (by kernel_rfl) (by kernel_rfl) (fun _ _ _ h => h) (Or.inl ⟨by rfl, ?_⟩) (by assumption) ?_
    rotate_left
    · intro w9 hSw
      try dsimp only at hSw
      go_simp
      try with_reducible rfl
    simp only [Act.put, List.setIfInBounds_toArray, List.set_cons_zero, List.set_cons_succ]
    refine wpAnyH_take (i := 15) (oi := { dst := some 58, op := Op.move (Operand.tmp 57), type := 4, pos := _, after := #[{ on := 14, ground := Ground.data }, { on := 8, ground := Ground.chain }], guard := none }) (v := ?_) rfl (by kernel_rfl) (by kernel_rfl) (by kernel_rfl) (fun _ _ _ h => h) (Or.inl ⟨by rfl, ?_⟩) (by assumption) ?_
    rotate_left
    · intro w9 hSw
      try dsimp only at hSw
      go_simp
      try with_reducible rfl
    simp only [Act.put, List.setIfInBounds_toArray, List.set_cons_zero, List.set_cons_succ]
    refine wpAnyH_take (i := 16) (oi := { dst := some 59, op := Op.move (Operand.tmp 5), type := 22, pos := _, after := #[{ on := 15, ground := Ground.guard }], guard := some (15, false) }) (v := ?_) rfl (by kernel_rfl) (by kernel_rfl) (by kernel_rfl) (fun _ _ _ h => h) (Or.inl ⟨by rfl, ?_⟩) (by assumption) ?_
    rotate_left
    · intro w9 hSw
      try dsimp only at hSw
      go_simp
      try with_reducible rfl
    simp only [Act.put, List.setIfInBounds_toArray, List.set_cons_zero, List.set_cons_succ]
    refine wpAnyH_take (i := 17) (oi := { dst := some 60, op := Op.convert 22 9 (Operand.tmp 59), type := 9, pos := _, after := #[{ on := 16, ground := Ground.data }, { on := 15, ground := Ground.guard }], guard := some (15, false) }) (v := ?_) rfl (by kernel_rfl) (by kernel_rfl) (by kernel_rfl) (fun _ _ _ h => h) (Or.inl ⟨by rfl, ?_⟩) (by assumption) ?_
    rotate_left
    · intro w9 hSw
      try dsimp only at hSw
      go_simp
      try with_reducible rfl
    simp only [Act.put, List.setIfInBounds_toArray, List.set_cons_zero, List.set_cons_succ]
    refine wpAnyH_take (i := 18) (oi := { dst := some 61, op := Op.move (Operand.tmp 3), type := 3, pos := _, after := #[{ on := 15, ground := Ground.guard }], guard := some (15, false) }) (v := ?_) rfl (by kernel_rfl) (by kernel_rfl) (by kernel_rfl) (fun _ _ _ h => h) (Or.inl ⟨by rfl, ?_⟩) (by assumption) ?_
    rotate_left
    · intro w9 hSw
      try dsimp only at hSw
      go_simp
      try with_reducible rfl
    simp only [Act.put, List.setIfInBounds_toArray, List.set_cons_zero, List.set_cons_succ]
    refine wpAnyH_take (i := 19) (oi := { dst := some 62, op := Op.move (Operand.tmp 4), type := 3, pos := _, after := #[{ on := 15, ground := Ground.guard }], guard := some (15, false) }) (v := ?_) rfl (by kernel_rfl) (by kernel_rfl) (by kernel_rfl) (fun _ _ _ h => h) (Or.inl ⟨by rfl, ?_⟩) (by assumption) ?_
    rotate_left
    · intro w9 hSw
      try dsimp only at hSw
      go_simp
      try with_reducible rfl
    simp only [Act.put, List.setIfInBounds_toArray, List.set_cons_zero, List.set_cons_succ]
    refine wpAnyH_ready (rs := [20]) (by kernel_rfl) (by simp) ?_
    refine AllReadyH.cons rfl (fun K hK => ?_) AllReadyH.nil
    clear hHeld
    rw [if_pos (by rfl)]
    go_wp2_with (go_at_call 8; (refine (specHeadOf_ow gen n _).mono ?_; rintro e v1 ⟨⟨y2, m2, d2, rfl, F2, hO2, _⟩, hb⟩; have HY2 : Hd (RdB v1 [.slice y2 m2 d2] (hdB gen n)) := (⟨owB_ok.rd hO2⟩); clear hO2))
    have E1 : Hd (Below w5.heap.size w5 v1) := ⟨Below.next E0.out hb⟩
    have hS9 := KK0.out _ (E1.out)
    have hbx := hb
    clear hb
    have KK1 : Hd (∀ w', Below v1.heap.size v1 w' → (((convert 22 9 (.slice ba bm bc)).run Try.prog w' = .ok (.string SB) w' ∧ (convert 22 9 (.slice (some ⟨q, 0, none⟩) m c)).run Try.prog w' = .ok (.string SC) w') ∧ (convert 22 9 (.slice y2 m2 d2)).run Try.prog w' = .ok (.string SB) w')) := ⟨fun w' hb => ⟨KK0.out w' (Below.next E1.out hb), Reads.conv_eq (rdB_parts (rdB_ok.below HY2.out hb)).2 d2 HSB.out⟩⟩
    refine hK.out _ _ hS9 (fun _ => ?_)
    clear hK K hS9
    have hHeld := KK1.out _ (Below.refl _ v1)
    refine wpAnyH_more (S' := fun w' => (((convert 22 9 (.slice ba bm bc)).run Try.prog w' = .ok (.string SB) w' ∧ (convert 22 9 (.slice (some ⟨q, 0, none⟩) m c)).run Try.prog w' = .ok (.string SC) w') ∧ (convert 22 9 (.slice y2 m2 d2)).run Try.prog w' = .ok (.string SB) w')) (fun w' h => h.1) _ _ _ _ ?_
    clear hbx KK0
    refine wpAnyH_take (i := 21) (oi := { dst := some 64, op := Op.convert 22 9 (Operand.tmp 63), type := 9, pos := _, after := #[{ on := 20, ground := Ground.data }, { on := 15, ground := Ground.guard }], guard := some (15, false) }) (v := ?_) rfl (by kernel_rfl) (by kernel_rfl) (by kernel_rfl) (fun _ _ _ h => h) (Or.inl ⟨by rfl, ?_⟩) (by assumption) ?_
    rotate_left
    · intro w9 hSw
      try dsimp only at hSw
      go_simp
      try with_reducible rfl
    simp only [Act.put, List.setIfInBounds_toArray, List.set_cons_zero, List.set_cons_succ]
    refine wpAnyH_take (i := 22) (oi := { dst := some 65, op := Op.binOp BinOp.neq 9 (Operand.tmp 60) (Operand.tmp 64) 9, type := 4, pos := _, after := #[{ on := 17, ground := Ground.data }, { on := 21, ground := Ground.data }, { on := 15, ground := Ground.guard }], guard := some (15, false) }) (v := ?_) rfl (by kernel_rfl) (by kernel_rfl) (by kernel_rfl) (fun _ _ _ h => h) (Or.inl ⟨by rfl, ?_⟩) (by assumption) ?_
    rotate_left
    · intro w9 hSw
      try dsimp only at hSw
      go_simp
      try with_reducible rfl
    simp only [Act.put, List.setIfInBounds_toArray, List.set_cons_zero, List.set_cons_succ]
    refine wpAnyH_take (i := 23) (oi := { dst := some 66, op := Op.pick (Operand.tmp 58) (Operand.const (Value.bool true)) (Operand.tmp 65), type := 4, pos := _, after := #[{ on := 15, ground := Ground.data }, { on := 22, ground := Ground.data }], guard := none }) (v := ?_) rfl (by kernel_rfl) (by kernel_rfl) (by kernel_rfl) (fun _ _ _ h => h) (Or.inl ⟨by rfl, ?_⟩) (by assumption) ?_
    rotate_left
    · intro w9 hSw
      try dsimp only at hSw
      go_simp
      try with_reducible rfl
    simp only [Act.put, List.setIfInBounds_toArray, List.set_cons_zero, List.set_cons_succ]
    refine wpAnyH_done (by kernel_rfl) ?_ _
    clear hHeld KK1
    have B6 : Hd (Below w5.heap.size w5 v1) := E1
    clear E0
    have O6 : Hd (OwB v1 [.slice ba bm bc] F (hdB gen n) ∧ ∀ x, F x → w'.heap.size ≤ x) := ⟨owB_ok.below O5.out.1 B6.out, O5.out.2⟩
    have R6 : Hd (Reads v1 a0 len0 bs ∧ Below w'.heap.size w' v1) := ⟨R5.out.1.below rfl B6.out, Below.next R5.out.2 B6.out⟩
    clear O5 R5 D5 HRB HSB HSC B6
    obtain ⟨W, hW⟩ : ∃ W, v1 = W := ⟨_, rfl⟩
    rw [hW] at O6 R6 ⊢
    clear hW
    obtain ⟨iok, hiok⟩ : ∃ x, hdOk gen n = x := ⟨_, rfl⟩
    cases iok
    · obtain rfl : bm = 0 := HK.out hiok
      have hno : ¬ ((1 ≤ gen ∧ gen ≤ 60000) ∧ (0 ≤ n ∧ n ≤ 30)) := fun h => by have := (hdOk_iff gen n).2 h; rw [hiok] at this; cases this
      clear hiok HK
      by_cases p1 : gen < 1
      · go_wp2_with fail
        go_ret
        exact ⟨rfl, R6.out.2⟩
      by_cases p2 : 60000 < gen
      · go_wp2_with fail
        go_ret
        exact ⟨rfl, R6.out.2⟩
      by_cases p3 : n < 0
      · go_wp2_with fail
        go_ret
        exact ⟨rfl, R6.out.2⟩
      have p4 : 30 < n := by omega
      go_wp2_with fail
      go_ret
      exact ⟨rfl, R6.out.2⟩
    have hlen : (hdB gen n).length = 6 := by rw [hdB_t hiok]; rfl
    obtain ⟨gb, rfl, hFb⟩ : ∃ gb, ba = some ⟨gb, 0, none⟩ ∧ w'.heap.size ≤ gb ∧ Row W gb (hdB gen n) ∧ bm = 6 := by
      obtain ⟨_, hm, hcase⟩ := owB_parts O6.out.1
      rcases hcase with ⟨_, h0⟩ | ⟨g, e, hFg, hRow⟩
      · rw [h0] at hlen; simp at hlen
      · exact ⟨g, e, O6.out.2 g hFg, hRow, by omega⟩
    obtain ⟨hgb, hRow, rfl⟩ := hFb
    have O7 : Hd (Row W gb (hdB gen n) ∧ w'.heap.size ≤ gb) := ⟨hRow, hgb⟩
    have HT : Hd (∀ (k : Nat), k < 6 → ∀ v, v ≠ (hdB gen n).getD k 0 → isHd ((hdB gen n).set k v) = false) := ⟨fun k hk v hv => hd_turn hiok k hk v hv⟩
    have HI : Hd (hdGet (hdB gen n) = (gen, n, true)) := ⟨by
      obtain ⟨i1, i2, i3⟩ := hdB_is hiok
      rw [hdGet_t i1, i2, i3]⟩
    have HLN : Hd ((hdB gen n).length = 6) := ⟨hlen⟩
    clear hlen hRow hgb O6 hiok HK
    generalize hdB gen n = ds8 at *
    go_wp2_with fail
    refine (implGetHead_any _ 6 bc ds8 _ (O7.out.1.reads HLN.out) (by omega)).mono ?_
    rintro e W8 ⟨rfl, hB8⟩
    rewrite [HI.out]
    have O8 : Hd (Row W8 gb ds8 ∧ w'.heap.size ≤ gb) := ⟨O7.out.1.of_block (hB8.block _ O7.out.1.lt), O7.out.2⟩
    have R8 : Hd (Reads W8 a0 len0 bs ∧ Below w'.heap.size w' W8) := ⟨R6.out.1.below rfl hB8, Below.next R6.out.2 hB8⟩
    clear hB8 O7 R6 HI
    have hcell := O8.out.1.cell
    obtain ⟨k, hk⟩ : ∃ k, k = atV bs 2 % 6 := ⟨_, rfl⟩
    obtain ⟨mm, hm⟩ : ∃ m, m = 1 + atV bs 3 % 255 := ⟨_, rfl⟩
    have hkl : k < 6 := by rw [hk]; exact Nat.mod_lt _ (by omega)
    have hm1 : 0 < mm ∧ mm < 256 := by omega
    have K : Hd ((atV bs 2 : Int) % (6 : Int) = (k : Int)) := ⟨by rw [hk]; simp⟩
    have hfz := O8.out.1.free k
    have hkI : (k : Int) < (6 : Int) := by omega
    have hK : (atV bs 2 : Int) % (6 : Int) = (k : Int) := K.out
    have hK2 : ((atV bs 2 : Int)).tmod (6 : Int) = (k : Int) := by rw [Int.tmod_eq_emod_of_nonneg (by omega)]; exact K.out
    have hkI0 : (0 : Int) ≤ (k : Int) := by omega
    clear hk
    have hcell := O8.out.1.cell k (by rw [HLN.out]; exact hkl)
    have hy : Hd ((ds8.getD k 0).toNat < 256) := ⟨(ds8.getD k 0).toNat_lt⟩
    have hlt : (ds8.getD k 0).toNat ^^^ mm < 256 := Nat.xor_lt_two_pow (n := 8) (by have := hy.out; omega) (by omega)
    have hV : Hd (bits .xor .u8 ((ds8.getD k 0).toNat : Int) (1 + (atV bs 3 : Int) % 255) = ((UInt8.ofNat ((ds8.getD k 0).toNat ^^^ mm)).toNat : Int)) := ⟨by
      rw [show 1 + (atV bs 3 : Int) % 255 = (mm : Int) from by omega, u8_xor_nat _ _ hy.out hm1.2, UInt8.toNat_ofNat', Nat.mod_eq_of_lt hlt]⟩
    have hT : Hd (isHd (ds8.set k (UInt8.ofNat ((ds8.getD k 0).toNat ^^^ mm))) = false) := ⟨HT.out k hkl _ (turned_byte _ mm hm1.1 hm1.2)⟩
    have hS : Hd (∀ E : Int, E = ((UInt8.ofNat ((ds8.getD k 0).toNat ^^^ mm)).toNat : Int) → Row (W8.setCell ⟨gb, k, none⟩ (.int .u8 E)) gb (ds8.set k (UInt8.ofNat ((ds8.getD k 0).toNat ^^^ mm)))) := ⟨fun E hE => by
      rw [hE]; exact (O8.out.1.store k _).1⟩
    have hB9 : Hd (∀ v : Value, Below w'.heap.size w' (W8.setCell ⟨gb, k, none⟩ v)) := ⟨fun v => R8.out.2.setCell (p := ⟨gb, k, none⟩) O8.out.2 v⟩
    have R9 : Hd (Reads W8 a0 len0 bs) := ⟨R8.out.1⟩
    clear hlt hm1 hm HT K hK O8 R8
    generalize UInt8.ofNat ((ds8.getD k 0).toNat ^^^ mm) = v at *
    generalize (ds8.getD k 0).toNat = y at *
    have HLs : Hd ((ds8.set k v).length = 6) := ⟨by rw [List.length_set]; exact HLN.out⟩
    go_wp2_with fail
    go_region_with (first | (go_at_call_of 19 (Value.int IntKind.i64 2); refine (at_two a0 len0 cap0 bs _ hl ?_).mono ?_; exact R9.out; rintro e w15 ⟨rfl, hw15⟩; subst hw15) | (go_at_call_of 19 (Value.int IntKind.i64 3); refine (at_three a0 len0 cap0 bs _ hl ?_).mono ?_; exact R9.out; rintro e w15 ⟨rfl, hw15⟩; subst hw15))
    all_goals
      go_wp2_with fail
      refine (implGetHead_any _ 6 bc (ds8.set k v) _ ?_ (by omega)).mono ?_
      · exact Row.reads ((hS.out _ hV.out).of_block rfl) HLs.out
      rintro e W10 ⟨rfl, hB10⟩
      rewrite [hdGet_f hT.out]
      have B10 : Hd (Below w'.heap.size w' W10) := ⟨Below.next (hB9.out _).drew hB10⟩
      clear hB10
      go_wp2_with fail
      go_ret
      exact ⟨rfl, B10.out⟩
  · have HE : Hd (hdB g0 g1 = ds) := ⟨HGE.out rfl⟩
    clear HGE HG
    have KK0 : Hd (∀ w', Below w5.heap.size w5 w' → ((convert 22 9 (.slice ba bm bc)).run Try.prog w' = .ok (.string SB) w' ∧ (convert 22 9 (.slice (some ⟨q, 0, none⟩) m c)).run Try.prog w' = .ok (.string SC) w')) := ⟨fun w' hb => ⟨Reads.conv_eq (rdB_parts (rdB_ok.below HRB.out hb)).2 bc HSB.out, Reads.conv_eq (D5.out.below rfl hb) c HSC.out⟩⟩
    refine wp_region_held_drew (S := fun w' => ((convert 22 9 (.slice ba bm bc)).run Try.prog w' = .ok (.string SB) w' ∧ (convert 22 9 (.slice (some ⟨q, 0, none⟩) m c)).run Try.prog w' = .ok (.string SC) w')) (by kernel_rfl) (KK0.out _ (Below.refl _ w5).drew) (fun hHeld => ?_)
    have E0 : Hd (Below w5.heap.size w5 w5.drew) := ⟨(Below.refl _ w5).drew⟩
    refine wpAnyH_take (i := 0) (oi := { dst := some 43, op := Op.move (Operand.tmp 9), type := 4, pos := _, after := #[], guard := none }) (v := ?_) rfl (by kernel_rfl) (by kernel_rfl) (by kernel_rfl) (fun _ _ _ h => h) (Or.inl ⟨by rfl, ?_⟩) (by assumption) ?_
    rotate_left
    · intro w9 hSw
      try dsimp only at hSw
      go_simp
      try with_reducible rfl
    simp only [Act.put, List.setIfInBounds_toArray, List.set_cons_zero, List.set_cons_succ]
    refine wpAnyH_take (i := 1) (oi := { dst := some 44, op := Op.move (Operand.tmp 12), type := 4, pos := _, after := #[], guard := none }) (v := ?_) rfl (by kernel_rfl) (by kernel_rfl) (by kernel_rfl) (fun _ _ _ h => h) (Or.inl ⟨by rfl, ?_⟩) (by assumption) ?_
    rotate_left
    · intro w9 hSw
      try dsimp only at hSw
      go_simp
      try with_reducible rfl
    simp only [Act.put, List.setIfInBounds_toArray, List.set_cons_zero, List.set_cons_succ]
    refine wpAnyH_take (i := 2) (oi := { dst := some 45, op := Op.binOp BinOp.neq 4 (Operand.tmp 43) (Operand.tmp 44) 4, type := 4, pos := _, after := #[{ on := 0, ground := Ground.data }, { on := 1, ground := Ground.data }], guard := none }) (v := ?_) rfl (by kernel_rfl) (by kernel_rfl) (by kernel_rfl) (fun _ _ _ h => h) (Or.inl ⟨by rfl, ?_⟩) (by assumption) ?_
    rotate_left
    · intro w9 hSw
      try dsimp only at hSw
      go_simp
      try with_reducible rfl
    simp only [Act.put, List.setIfInBounds_toArray, List.set_cons_zero, List.set_cons_succ]
    refine wpAnyH_take (i := 3) (oi := { dst := some 46, op := Op.move (Operand.tmp 45), type := 4, pos := _, after := #[{ on := 2, ground := Ground.data }], guard := none }) (v := ?_) rfl (by kernel_rfl) (by kernel_rfl) (by kernel_rfl) (fun _ _ _ h => h) (Or.inl ⟨by rfl, ?_⟩) (by assumption) ?_
    rotate_left
    · intro w9 hSw
      try dsimp only at hSw
      go_simp
      try with_reducible rfl
    simp only [Act.put, List.setIfInBounds_toArray, List.set_cons_zero, List.set_cons_succ]
    refine wpAnyH_take (i := 4) (oi := { dst := some 47, op := Op.move (Operand.tmp 9), type := 4, pos := _, after := #[{ on := 3, ground := Ground.guard }], guard := some (3, false) }) (v := ?_) rfl (by kernel_rfl) (by kernel_rfl) (by kernel_rfl) (fun _ _ _ h => h) (Or.inl ⟨by rfl, ?_⟩) (by assumption) ?_
    rotate_left
    · intro w9 hSw
      try dsimp only at hSw
      go_simp
      try with_reducible rfl
    simp only [Act.put, List.setIfInBounds_toArray, List.set_cons_zero, List.set_cons_succ]
    refine wpAnyH_take (i := 5) (oi := { dst := some 48, op := Op.move (Operand.tmp 47), type := 4, pos := _, after := #[{ on := 4, ground := Ground.data }, { on := 3, ground := Ground.chain }, { on := 3, ground := Ground.guard }], guard := some (3, false) }) (v := ?_) rfl (by kernel_rfl) (by kernel_rfl) (by kernel_rfl) (fun _ _ _ h => h) (Or.inl ⟨by rfl, ?_⟩) (by assumption) ?_
    rotate_left
    · intro w9 hSw
      try dsimp only at hSw
      go_simp
      try with_reducible rfl
    simp only [Act.put, List.setIfInBounds_toArray, List.set_cons_zero, List.set_cons_succ]
    refine wpAnyH_take (i := 6) (oi := { dst := some 49, op := Op.move (Operand.tmp 7), type := 3, pos := _, after := #[{ on := 5, ground := Ground.guard }], guard := some (5, true) }) (v := ?_) rfl (by kernel_rfl) (by kernel_rfl) (by kernel_rfl) (fun _ _ _ h => h) (Or.inl ⟨by rfl, ?_⟩) (by assumption) ?_
    rotate_left
    · intro w9 hSw
      try dsimp only at hSw
      go_simp
      try with_reducible rfl
    simp only [Act.put, List.setIfInBounds_toArray, List.set_cons_zero, List.set_cons_succ]
    refine wpAnyH_take (i := 7) (oi := { dst := some 50, op := Op.move (Operand.tmp 8), type := 3, pos := _, after := #[{ on := 5, ground := Ground.guard }], guard := some (5, true) }) (v := ?_) rfl (by kernel_rfl) (by kernel_rfl) (by kernel_rfl) (fun _ _ _ h => h) (Or.inl ⟨by rfl, ?_⟩) (by assumption) ?_
    rotate_left
    · intro w9 hSw
      try dsimp only at hSw
      go_simp
      try with_reducible rfl
    simp only [Act.put, List.setIfInBounds_toArray, List.set_cons_zero, List.set_cons_succ]
    refine wpAnyH_take (i := 10) (oi := { dst := some 53, op := Op.move (Operand.tmp 6), type := 22, pos := _, after := #[{ on := 5, ground := Ground.guard }], guard := some (5, true) }) (v := ?_) rfl (by kernel_rfl) (by kernel_rfl) (by kernel_rfl) (fun _ _ _ h => h) (Or.inl ⟨by rfl, ?_⟩) (by assumption) ?_
    rotate_left
    · intro w9 hSw
      try dsimp only at hSw
      go_simp
      try with_reducible rfl
    simp only [Act.put, List.setIfInBounds_toArray, List.set_cons_zero, List.set_cons_succ]
    refine wpAnyH_take (i := 11) (oi := { dst := some 54, op := Op.convert 22 9 (Operand.tmp 53), type := 9, pos := _, after := #[{ on := 10, ground := Ground.data }, { on := 5, ground := Ground.guard }], guard := some (5, true) }) (v := ?_) rfl (by kernel_rfl) (by kernel_rfl) (by kernel_rfl) (fun _ _ _ h => h) (Or.inl ⟨by rfl, ?_⟩) (by assumption) ?_
    rotate_left
    · intro w9 hSw
      try dsimp only at hSw
      go_simp
      try with_reducible rfl
    simp only [Act.put, List.setIfInBounds_toArray, List.set_cons_zero, List.set_cons_succ]
    refine wpAnyH_ready (rs := [8]) (by kernel_rfl) (by simp) ?_
    refine AllReadyH.cons rfl (fun K hK => ?_) AllReadyH.nil
    clear hHeld
    rw [if_pos (by rfl)]
    go_wp2_with (go_at_call 9; (refine (implHeadOf_rd g0 g1 _).mono ?_; rintro e v1 ⟨⟨y1, m1, d1, rfl, F1, hO1, _⟩, hb⟩; have HY1 : Hd (RdB v1 [.slice y1 m1 d1] ds) := (⟨by rw [← HE.out]; exact owB_ok.rd hO1⟩); clear hO1))
    have E1 : Hd (Below w5.heap.size w5 v1) := ⟨Below.next E0.out hb⟩
    have hS9 := KK0.out _ (E1.out)
    have hbx := hb
    clear hb
    have KK1 : Hd (∀ w', Below v1.heap.size v1 w' → (((convert 22 9 (.slice ba bm bc)).run Try.prog w' = .ok (.string SB) w' ∧ (convert 22 9 (.slice (some ⟨q, 0, none⟩) m c)).run Try.prog w' = .ok (.string SC) w') ∧ (convert 22 9 (.slice y1 m1 d1)).run Try.prog w' = .ok (.string SC) w')) := ⟨fun w' hb => ⟨KK0.out w' (Below.next E1.out hb), Reads.conv_eq (rdB_parts (rdB_ok.below HY1.out hb)).2 d1 HSC.out⟩⟩
    refine hK.out _ _ hS9 (fun _ => ?_)
    clear hK K hS9
    have hHeld := KK1.out _ (Below.refl _ v1)
    refine wpAnyH_more (S' := fun w' => (((convert 22 9 (.slice ba bm bc)).run Try.prog w' = .ok (.string SB) w' ∧ (convert 22 9 (.slice (some ⟨q, 0, none⟩) m c)).run Try.prog w' = .ok (.string SC) w') ∧ (convert 22 9 (.slice y1 m1 d1)).run Try.prog w' = .ok (.string SC) w')) (fun w' h => h.1) _ _ _ _ ?_
    clear hbx KK0
    refine wpAnyH_take (i := 9) (oi := { dst := some 52, op := Op.convert 22 9 (Operand.tmp 51), type := 9, pos := _, after := #[{ on := 8, ground := Ground.data }, { on := 5, ground := Ground.guard }], guard := some (5, true) }) (v := ?_) rfl (by kernel_rfl) (by kernel_rfl) (by kernel_rfl) (fun _ _ _ h => h) (Or.inl ⟨by rfl, ?_⟩) (by assumption) ?_
    rotate_left
    · intro w9 hSw
      try dsimp only at hSw
      go_simp
      try with_reducible rfl
    simp only [Act.put, List.setIfInBounds_toArray, List.set_cons_zero, List.set_cons_succ]
    refine wpAnyH_take (i := 12) (oi := { dst := some 55, op := Op.binOp BinOp.neq 9 (Operand.tmp 52) (Operand.tmp 54) 9, type := 4, pos := _, after := #[{ on := 9, ground := Ground.data }, { on := 11, ground := Ground.data }, { on := 5, ground := Ground.guard }], guard := some (5, true) }) (v := ?_) rfl (by kernel_rfl) (by kernel_rfl) (by kernel_rfl) (fun _ _ _ h => h) (Or.inl ⟨by rfl, ?_⟩) (by assumption) ?_
    rotate_left
    · intro w9 hSw
      try dsimp only at hSw
      go_simp
      try with_reducible rfl
    simp only [Act.put, List.setIfInBounds_toArray, List.set_cons_zero, List.set_cons_succ]
    refine wpAnyH_take (i := 13) (oi := { dst := some 56, op := Op.pick (Operand.tmp 48) (Operand.tmp 55) (Operand.const (Value.bool false)), type := 4, pos := _, after := #[{ on := 5, ground := Ground.data }, { on := 12, ground := Ground.data }, { on := 3, ground := Ground.guard }], guard := some (3, false) }) (v := ?_) rfl (by kernel_rfl) (by kernel_rfl) (by kernel_rfl) (fun _ _ _ h => h) (Or.inl ⟨by rfl, ?_⟩) (by assumption) ?_
    rotate_left
    · intro w9 hSw
      try dsimp only at hSw
      go_simp
      try with_reducible rfl
    simp only [Act.put, List.setIfInBounds_toArray, List.set_cons_zero, List.set_cons_succ]
    refine wpAnyH_take (i := 14) (oi := { dst := some 57, op := Op.pick (Operand.tmp 46) (Operand.const (Value.bool true)) (Operand.tmp 56), type := 4, pos := _, after := #[{ on := 3, ground := Ground.data }, { on := 13, ground := Ground.data }], guard := none }) (v := ?_) rfl (by kernel_rfl) (by kernel_rfl) (by kernel_rfl) (fun _ _ _ h => h) (Or.inl ⟨by rfl, ?_⟩) (by assumption) ?_
    rotate_left
    · intro w9 hSw
      try dsimp only at hSw
      go_simp
      try with_reducible rfl
    simp only [Act.put, List.setIfInBounds_toArray, List.set_cons_zero, List.set_cons_succ]
    refine wpAnyH_take (i := 15) (oi := { dst := some 58, op := Op.move (Operand.tmp 57), type := 4, pos := _, after := #[{ on := 14, ground := Ground.data }, { on := 8, ground := Ground.chain }], guard := none }) (v := ?_) rfl (by kernel_rfl) (by kernel_rfl) (by kernel_rfl) (fun _ _ _ h => h) (Or.inl ⟨by rfl, ?_⟩) (by assumption) ?_
    rotate_left
    · intro w9 hSw
      try dsimp only at hSw
      go_simp
      try with_reducible rfl
    simp only [Act.put, List.setIfInBounds_toArray, List.set_cons_zero, List.set_cons_succ]
    refine wpAnyH_take (i := 16) (oi := { dst := some 59, op := Op.move (Operand.tmp 5), type := 22, pos := _, after := #[{ on := 15, ground := Ground.guard }], guard := some (15, false) }) (v := ?_) rfl (by kernel_rfl) (by kernel_rfl) (by kernel_rfl) (fun _ _ _ h => h) (Or.inl ⟨by rfl, ?_⟩) (by assumption) ?_
    rotate_left
    · intro w9 hSw
      try dsimp only at hSw
      go_simp
      try with_reducible rfl
    simp only [Act.put, List.setIfInBounds_toArray, List.set_cons_zero, List.set_cons_succ]
    refine wpAnyH_take (i := 17) (oi := { dst := some 60, op := Op.convert 22 9 (Operand.tmp 59), type := 9, pos := _, after := #[{ on := 16, ground := Ground.data }, { on := 15, ground := Ground.guard }], guard := some (15, false) }) (v := ?_) rfl (by kernel_rfl) (by kernel_rfl) (by kernel_rfl) (fun _ _ _ h => h) (Or.inl ⟨by rfl, ?_⟩) (by assumption) ?_
    rotate_left
    · intro w9 hSw
      try dsimp only at hSw
      go_simp
      try with_reducible rfl
    simp only [Act.put, List.setIfInBounds_toArray, List.set_cons_zero, List.set_cons_succ]
    refine wpAnyH_take (i := 18) (oi := { dst := some 61, op := Op.move (Operand.tmp 3), type := 3, pos := _, after := #[{ on := 15, ground := Ground.guard }], guard := some (15, false) }) (v := ?_) rfl (by kernel_rfl) (by kernel_rfl) (by kernel_rfl) (fun _ _ _ h => h) (Or.inl ⟨by rfl, ?_⟩) (by assumption) ?_
    rotate_left
    · intro w9 hSw
      try dsimp only at hSw
      go_simp
      try with_reducible rfl
    simp only [Act.put, List.setIfInBounds_toArray, List.set_cons_zero, List.set_cons_succ]
    refine wpAnyH_take (i := 19) (oi := { dst := some 62, op := Op.move (Operand.tmp 4), type := 3, pos := _, after := #[{ on := 15, ground := Ground.guard }], guard := some (15, false) }) (v := ?_) rfl (by kernel_rfl) (by kernel_rfl) (by kernel_rfl) (fun _ _ _ h => h) (Or.inl ⟨by rfl, ?_⟩) (by assumption) ?_
    rotate_left
    · intro w9 hSw
      try dsimp only at hSw
      go_simp
      try with_reducible rfl
    simp only [Act.put, List.setIfInBounds_toArray, List.set_cons_zero, List.set_cons_succ]
    refine wpAnyH_ready (rs := [20]) (by kernel_rfl) (by simp) ?_
    refine AllReadyH.cons rfl (fun K hK => ?_) AllReadyH.nil
    clear hHeld
    rw [if_pos (by rfl)]
    go_wp2_with (go_at_call 8; (refine (specHeadOf_ow gen n _).mono ?_; rintro e v2 ⟨⟨y2, m2, d2, rfl, F2, hO2, _⟩, hb⟩; have HY2 : Hd (RdB v2 [.slice y2 m2 d2] (hdB gen n)) := (⟨owB_ok.rd hO2⟩); clear hO2))
    have E2 : Hd (Below w5.heap.size w5 v2) := ⟨Below.next E1.out hb⟩
    have hS9 := KK1.out _ (hb)
    have hbx := hb
    clear hb
    have KK2 : Hd (∀ w', Below v2.heap.size v2 w' → ((((convert 22 9 (.slice ba bm bc)).run Try.prog w' = .ok (.string SB) w' ∧ (convert 22 9 (.slice (some ⟨q, 0, none⟩) m c)).run Try.prog w' = .ok (.string SC) w') ∧ (convert 22 9 (.slice y1 m1 d1)).run Try.prog w' = .ok (.string SC) w') ∧ (convert 22 9 (.slice y2 m2 d2)).run Try.prog w' = .ok (.string SB) w')) := ⟨fun w' hb => ⟨KK1.out w' (Below.next hbx hb), Reads.conv_eq (rdB_parts (rdB_ok.below HY2.out hb)).2 d2 HSB.out⟩⟩
    refine hK.out _ _ hS9 (fun _ => ?_)
    clear hK K hS9
    have hHeld := KK2.out _ (Below.refl _ v2)
    refine wpAnyH_more (S' := fun w' => ((((convert 22 9 (.slice ba bm bc)).run Try.prog w' = .ok (.string SB) w' ∧ (convert 22 9 (.slice (some ⟨q, 0, none⟩) m c)).run Try.prog w' = .ok (.string SC) w') ∧ (convert 22 9 (.slice y1 m1 d1)).run Try.prog w' = .ok (.string SC) w') ∧ (convert 22 9 (.slice y2 m2 d2)).run Try.prog w' = .ok (.string SB) w')) (fun w' h => h.1) _ _ _ _ ?_
    clear hbx KK1
    refine wpAnyH_take (i := 21) (oi := { dst := some 64, op := Op.convert 22 9 (Operand.tmp 63), type := 9, pos := _, after := #[{ on := 20, ground := Ground.data }, { on := 15, ground := Ground.guard }], guard := some (15, false) }) (v := ?_) rfl (by kernel_rfl) (by kernel_rfl) (by kernel_rfl) (fun _ _ _ h => h) (Or.inl ⟨by rfl, ?_⟩) (by assumption) ?_
    rotate_left
    · intro w9 hSw
      try dsimp only at hSw
      go_simp
      try with_reducible rfl
    simp only [Act.put, List.setIfInBounds_toArray, List.set_cons_zero, List.set_cons_succ]
    refine wpAnyH_take (i := 22) (oi := { dst := some 65, op := Op.binOp BinOp.neq 9 (Operand.tmp 60) (Operand.tmp 64) 9, type := 4, pos := _, after := #[{ on := 17, ground := Ground.data }, { on := 21, ground := Ground.data }, { on := 15, ground := Ground.guard }], guard := some (15, false) }) (v := ?_) rfl (by kernel_rfl) (by kernel_rfl) (by kernel_rfl) (fun _ _ _ h => h) (Or.inl ⟨by rfl, ?_⟩) (by assumption) ?_
    rotate_left
    · intro w9 hSw
      try dsimp only at hSw
      go_simp
      try with_reducible rfl
    simp only [Act.put, List.setIfInBounds_toArray, List.set_cons_zero, List.set_cons_succ]
    refine wpAnyH_take (i := 23) (oi := { dst := some 66, op := Op.pick (Operand.tmp 58) (Operand.const (Value.bool true)) (Operand.tmp 65), type := 4, pos := _, after := #[{ on := 15, ground := Ground.data }, { on := 22, ground := Ground.data }], guard := none }) (v := ?_) rfl (by kernel_rfl) (by kernel_rfl) (by kernel_rfl) (fun _ _ _ h => h) (Or.inl ⟨by rfl, ?_⟩) (by assumption) ?_
    rotate_left
    · intro w9 hSw
      try dsimp only at hSw
      go_simp
      try with_reducible rfl
    simp only [Act.put, List.setIfInBounds_toArray, List.set_cons_zero, List.set_cons_succ]
    refine wpAnyH_done (by kernel_rfl) ?_ _
    clear hHeld KK2
    have B6 : Hd (Below w5.heap.size w5 v2) := E2
    clear E0 E1
    have O6 : Hd (OwB v2 [.slice ba bm bc] F (hdB gen n) ∧ ∀ x, F x → w'.heap.size ≤ x) := ⟨owB_ok.below O5.out.1 B6.out, O5.out.2⟩
    have R6 : Hd (Reads v2 a0 len0 bs ∧ Below w'.heap.size w' v2) := ⟨R5.out.1.below rfl B6.out, Below.next R5.out.2 B6.out⟩
    clear O5 R5 D5 HRB HSB HSC B6
    obtain ⟨W, hW⟩ : ∃ W, v2 = W := ⟨_, rfl⟩
    rw [hW] at O6 R6 ⊢
    clear hW
    obtain ⟨iok, hiok⟩ : ∃ x, hdOk gen n = x := ⟨_, rfl⟩
    cases iok
    · obtain rfl : bm = 0 := HK.out hiok
      have hno : ¬ ((1 ≤ gen ∧ gen ≤ 60000) ∧ (0 ≤ n ∧ n ≤ 30)) := fun h => by have := (hdOk_iff gen n).2 h; rw [hiok] at this; cases this
      clear hiok HK
      by_cases p1 : gen < 1
      · go_wp2_with fail
        go_ret
        exact ⟨rfl, R6.out.2⟩
      by_cases p2 : 60000 < gen
      · go_wp2_with fail
        go_ret
        exact ⟨rfl, R6.out.2⟩
      by_cases p3 : n < 0
      · go_wp2_with fail
        go_ret
        exact ⟨rfl, R6.out.2⟩
      have p4 : 30 < n := by omega
      go_wp2_with fail
      go_ret
      exact ⟨rfl, R6.out.2⟩
    have hlen : (hdB gen n).length = 6 := by rw [hdB_t hiok]; rfl
    obtain ⟨gb, rfl, hFb⟩ : ∃ gb, ba = some ⟨gb, 0, none⟩ ∧ w'.heap.size ≤ gb ∧ Row W gb (hdB gen n) ∧ bm = 6 := by
      obtain ⟨_, hm, hcase⟩ := owB_parts O6.out.1
      rcases hcase with ⟨_, h0⟩ | ⟨g, e, hFg, hRow⟩
      · rw [h0] at hlen; simp at hlen
      · exact ⟨g, e, O6.out.2 g hFg, hRow, by omega⟩
    obtain ⟨hgb, hRow, rfl⟩ := hFb
    have O7 : Hd (Row W gb (hdB gen n) ∧ w'.heap.size ≤ gb) := ⟨hRow, hgb⟩
    have HT : Hd (∀ (k : Nat), k < 6 → ∀ v, v ≠ (hdB gen n).getD k 0 → isHd ((hdB gen n).set k v) = false) := ⟨fun k hk v hv => hd_turn hiok k hk v hv⟩
    have HI : Hd (hdGet (hdB gen n) = (gen, n, true)) := ⟨by
      obtain ⟨i1, i2, i3⟩ := hdB_is hiok
      rw [hdGet_t i1, i2, i3]⟩
    have HLN : Hd ((hdB gen n).length = 6) := ⟨hlen⟩
    clear hlen hRow hgb O6 hiok HK
    generalize hdB gen n = ds8 at *
    go_wp2_with fail
    refine (implGetHead_any _ 6 bc ds8 _ (O7.out.1.reads HLN.out) (by omega)).mono ?_
    rintro e W8 ⟨rfl, hB8⟩
    rewrite [HI.out]
    have O8 : Hd (Row W8 gb ds8 ∧ w'.heap.size ≤ gb) := ⟨O7.out.1.of_block (hB8.block _ O7.out.1.lt), O7.out.2⟩
    have R8 : Hd (Reads W8 a0 len0 bs ∧ Below w'.heap.size w' W8) := ⟨R6.out.1.below rfl hB8, Below.next R6.out.2 hB8⟩
    clear hB8 O7 R6 HI
    have hcell := O8.out.1.cell
    obtain ⟨k, hk⟩ : ∃ k, k = atV bs 2 % 6 := ⟨_, rfl⟩
    obtain ⟨mm, hm⟩ : ∃ m, m = 1 + atV bs 3 % 255 := ⟨_, rfl⟩
    have hkl : k < 6 := by rw [hk]; exact Nat.mod_lt _ (by omega)
    have hm1 : 0 < mm ∧ mm < 256 := by omega
    have K : Hd ((atV bs 2 : Int) % (6 : Int) = (k : Int)) := ⟨by rw [hk]; simp⟩
    have hfz := O8.out.1.free k
    have hkI : (k : Int) < (6 : Int) := by omega
    have hK : (atV bs 2 : Int) % (6 : Int) = (k : Int) := K.out
    have hK2 : ((atV bs 2 : Int)).tmod (6 : Int) = (k : Int) := by rw [Int.tmod_eq_emod_of_nonneg (by omega)]; exact K.out
    have hkI0 : (0 : Int) ≤ (k : Int) := by omega
    clear hk
    have hcell := O8.out.1.cell k (by rw [HLN.out]; exact hkl)
    have hy : Hd ((ds8.getD k 0).toNat < 256) := ⟨(ds8.getD k 0).toNat_lt⟩
    have hlt : (ds8.getD k 0).toNat ^^^ mm < 256 := Nat.xor_lt_two_pow (n := 8) (by have := hy.out; omega) (by omega)
    have hV : Hd (bits .xor .u8 ((ds8.getD k 0).toNat : Int) (1 + (atV bs 3 : Int) % 255) = ((UInt8.ofNat ((ds8.getD k 0).toNat ^^^ mm)).toNat : Int)) := ⟨by
      rw [show 1 + (atV bs 3 : Int) % 255 = (mm : Int) from by omega, u8_xor_nat _ _ hy.out hm1.2, UInt8.toNat_ofNat', Nat.mod_eq_of_lt hlt]⟩
    have hT : Hd (isHd (ds8.set k (UInt8.ofNat ((ds8.getD k 0).toNat ^^^ mm))) = false) := ⟨HT.out k hkl _ (turned_byte _ mm hm1.1 hm1.2)⟩
    have hS : Hd (∀ E : Int, E = ((UInt8.ofNat ((ds8.getD k 0).toNat ^^^ mm)).toNat : Int) → Row (W8.setCell ⟨gb, k, none⟩ (.int .u8 E)) gb (ds8.set k (UInt8.ofNat ((ds8.getD k 0).toNat ^^^ mm)))) := ⟨fun E hE => by
      rw [hE]; exact (O8.out.1.store k _).1⟩
    have hB9 : Hd (∀ v : Value, Below w'.heap.size w' (W8.setCell ⟨gb, k, none⟩ v)) := ⟨fun v => R8.out.2.setCell (p := ⟨gb, k, none⟩) O8.out.2 v⟩
    have R9 : Hd (Reads W8 a0 len0 bs) := ⟨R8.out.1⟩
    clear hlt hm1 hm HT K hK O8 R8
    generalize UInt8.ofNat ((ds8.getD k 0).toNat ^^^ mm) = v at *
    generalize (ds8.getD k 0).toNat = y at *
    have HLs : Hd ((ds8.set k v).length = 6) := ⟨by rw [List.length_set]; exact HLN.out⟩
    go_wp2_with fail
    go_region_with (first | (go_at_call_of 19 (Value.int IntKind.i64 2); refine (at_two a0 len0 cap0 bs _ hl ?_).mono ?_; exact R9.out; rintro e w15 ⟨rfl, hw15⟩; subst hw15) | (go_at_call_of 19 (Value.int IntKind.i64 3); refine (at_three a0 len0 cap0 bs _ hl ?_).mono ?_; exact R9.out; rintro e w15 ⟨rfl, hw15⟩; subst hw15))
    all_goals
      go_wp2_with fail
      refine (implGetHead_any _ 6 bc (ds8.set k v) _ ?_ (by omega)).mono ?_
      · exact Row.reads ((hS.out _ hV.out).of_block rfl) HLs.out
      rintro e W10 ⟨rfl, hB10⟩
      rewrite [hdGet_f hT.out]
      have B10 : Hd (Below w'.heap.size w' W10) := ⟨Below.next (hB9.out _).drew hB10⟩
      clear hB10
      go_wp2_with fail
      go_ret
      exact ⟨rfl, B10.out⟩

set_option maxRecDepth 100000 in
theorem lifted (os : Os) (started : os.Started) (H : Type) (enc : TypeId × Value → H) :
    ReturnsInHanded {} Try.checked os 5 .any (Rows.fnHeadsSpec.pre6 enc Try.prog Try.f5 Rows.fnHeadsRow.domain false) (Rows.fnHeadsSpec.post enc Try.prog Try.f5 false true false false) := by
  refine returnsInHanded_of_change (C := Try.checked) own started (by kernel_rfl) Try.func5
    (ChangeSpec.witness6 (enc := enc) (C := Try.checked) false ⟨#[], #[.slice none 0 0], []⟩ 8 (by kernel_rfl) (by kernel_rfl) (by kernel_rfl) (by kernel_rfl)) ?_
  intro W base args ds gs before hval0 hW hcnd _
  have hval : ∀ (j : Nat) t v, Try.f5.params[j]? = some t → args[j]? = some v → Value.okWide Try.prog W .any base t v := hval0
  have hW' := hW
  obtain ⟨p, q, hA0, hV, rfl, hfz, hnd⟩ := hW
  have hA : DataW.TrodAll enc Try.prog W 0 (fun _ => true) true Try.f5.params.toList args.toList ds p := hA0
  rw [Try.params5] at hA hval
  obtain ⟨v0, vs0, d0, ds0, p0, q0, hargs, rfl, rfl, h0, r0⟩ := trodAll_cons hA
  obtain ⟨rfl, rfl, rfl⟩ := trodAll_nil r0
  obtain rfl : args = #[v0] := by cases args; simp_all
  obtain ⟨rfl, rfl⟩ := trodVars_none hV
  obtain ⟨a0, len0, cap0, rfl⟩ := okWide_slice Try.underlying22 (hval 0 22 v0 rfl rfl)
  have k0 := h0
  have lt0 : ∀ x ∈ p0, x.block < W.heap.size := by obtain ⟨m, hm⟩ := k0; exact DataW.trod_lt m _ _ _ hm
  obtain ⟨z0, w0⟩ : ∃ zs, IsRow .u8 W a0 len0 cap0 zs := by
    obtain ⟨fuel, hf⟩ := h0
    rcases open_ints Try.underlying22 Try.underlying5 (by kernel_rfl) hf with ⟨hcs, _⟩ | ⟨x, l, c, zs, hcs, _, hl, hm, hz, _, hcell, hwz⟩
    · simp [Value.cells] at hcs
      obtain ⟨rfl, rfl, rfl⟩ := hcs
      exact ⟨[], .inl ⟨rfl, rfl, rfl, rfl⟩⟩
    · simp [Value.cells] at hcs
      obtain ⟨rfl, rfl, rfl⟩ := hcs
      exact ⟨zs, .inr ⟨_, rfl, hl, hm, by simpa using hz, hcell, hwz⟩⟩
  clear hA0 hval0
  refine (walk a0 len0 cap0 z0 W w0).mono fun e W' ⟨he, bel⟩ => ?_
  subst he
  exact ⟨_, rfl, _, _, _, [], _, [], hW', trodAll_mk1 (shut_bool Try.underlying4 _), (trodAll_cons_mk (Below.trod laidOut (by kernel_rfl) (of_decide_eq_true (by kernel_rfl)) k0 bel lt0) trodAll_mk0), rfl, bel.frame _, fun h => by cases h⟩

theorem over : Rows.fnHeadsRow.holds Try.pinned (OpenSpec.ofChange Rows.fnHeadsSpec) :=
  OpenClaim.holds_of_wide 5 Try.f5 rfl rfl rfl rfl rfl rfl rfl ⟨rfl, rfl, rfl, rfl, rfl⟩ rfl rfl rfl rfl rfl (by kernel_rfl) Try.func5 (by kernel_rfl)
    (of_decide_eq_true (by kernel_rfl)) (by unfold Func.isWrapper; first | (rw [if_pos (by decide +kernel)]; kernel_rfl) | (rw [if_neg (by decide +kernel)]; exact ⟨rfl, rfl⟩))
    (fun os started H enc _ => lifted os started H enc)

end Go.Proofs.Ytlididoalekeoaa.fnHeads

namespace Go.Proofs.Ytlididoalekeoaa
theorem fnHeads_holds : Rows.FnHeadsSaid := fnHeads.over
#print axioms fnHeads_holds
end Go.Proofs.Ytlididoalekeoaa
