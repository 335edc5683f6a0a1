/- For every code that is drawn from: of drawn cells, bent or not, what the program says of them is what the specification says. -/
import Derived.Test.YtpafjehphajbhabDoorCards
import Derived.Test.YtpafjehphajbhabDoorTie
import Derived.WalkKit
import Derived.ProofKit
import Derived.OpenShut
import Derived.ShutString
import Derived.ChangeOld
import Derived.Below
import Derived.OpenVars
import Derived.Lay
import Derived.MakeChecks
import Derived.SevenTiedAt
import Derived.Stop.Joined
import Derived.Lib.SmallJoins
import Derived.Test.YtpafjehphajbhabDoorCellN
namespace Go.Proofs.YtpafjehphajbhabDoor.fnCellsBent
open Go.ChangeShapes Go.WideShapes Go.ChangeAt Go.RowKit
open Go.ChangeMaps (open_string shut_string)
set_option linter.unusedVariables false

theorem own : ownKnob Tryd.prog.godebug = none := by kernel_rfl
theorem laidOut : laidOutB Tryd.prog = true := by kernel_rfl

def IsRow (k : IntKind) (w : World) (a : Option Addr) (len cap : Nat) (zs : List Int) : Prop :=
  (a = none ∧ len = 0 ∧ cap = 0 ∧ zs = []) ∨
  ∃ x, a = some x ∧ len ≤ cap ∧ cap ≤ maxLen ∧ zs.length = cap ∧ (∀ i, i < zs.length → w.cell? (x.add i) = some (.int k (zs.getD i 0))) ∧ ∀ n ∈ zs, (Lit.int k n).wf = true

set_option maxRecDepth 4000 in
set_option maxHeartbeats 8000000 in
theorem walk (a0 : Option Addr) (len0 cap0 : Nat) (z0 : List Int) (w : World) (w0 : IsRow .u8 w a0 len0 cap0 z0) (T : Hd (AllAt w)) :
    Calls Tryd.prog 7 #[.slice a0 len0 cap0] w fun e w' => e = .returned (.bool true) ∧ Below w.heap.size w w' := by
  obtain ⟨bs, hr⟩ := reads_of_row w0
  have K0 : Hd (CStays w a0 len0 bs w) := ⟨CStays.start T.out hr⟩
  clear hr w0 T
  by_cases hb : (1048576 : Int) < (len0 : Int)
  · have hbd : decide ((1048576 : Int) < (len0 : Int)) = true := decide_eq_true hb
    go_enter Tryd.func7, Tryd.ntmps7
    go_wp2_with (go_at_call 24; refine (big_any _ _ _ _).mono ?_; rintro e w' ⟨rfl, rfl⟩)
    go_ret
    exact ⟨rfl, Below.refl _ _⟩
  · have hbd : decide ((1048576 : Int) < (len0 : Int)) = false := decide_eq_false hb
    have hl : len0 ≤ 1073741824 := by omega
    go_enter Tryd.func7, Tryd.ntmps7
    go_wp2_with fail
    refine (big_any _ _ _ _).mono ?_
    rintro e w' ⟨rfl, hw'⟩
    replace hw' := hw'.symm
    subst hw'
    clear hbd
    go_wp2_with fail
    refine (drawCellOk_any a0 len0 cap0 bs _ hl K0.out.reads).mono ?_
    rintro e v1 ⟨tC, aC, mC, cC, dC, rfl, hm, hat, hB⟩
    have hmC : mC ≤ 81 := hm
    have HLC : Hd (dC.length = mC) := ⟨hat.size⟩
    have K1 : Hd (CStays w a0 len0 bs (v1.alloc (.cells #[.int .i64 tC, .slice aC mC cC] 28))) := ⟨(K0.out.next hB).next (below_lit v1 _)⟩
    clear K0 
    have C1 : Hd (CBox v1.heap.size tC aC mC cC dC (v1.alloc (.cells #[.int .i64 tC, .slice aC mC cC] 28))) := ⟨cBox_new hat⟩
    generalize hd : v1.heap.size = pC at *
    clear hm hat hB
    go_wp2_with fail
    generalize hw : v1.alloc (.cells #[.int .i64 tC, .slice aC mC cC] 28) = v2 at *
    clear hd hw
    refine (drawCellText_any a0 len0 cap0 bs _ hl K1.out.reads).mono ?_
    rintro e v3 ⟨tD, aD, mD, cD, dD, rfl, hm, hat, hB⟩
    have hmD : mD ≤ 81 := hm
    have HLD : Hd (dD.length = mD) := ⟨hat.size⟩
    have K2 : Hd (CStays w a0 len0 bs (v3.alloc (.cells #[.int .i64 tD, .slice aD mD cD] 28))) := ⟨(K1.out.next hB).next (below_lit v3 _)⟩
    have C2 : Hd (CBox pC tC aC mC cC dC (v3.alloc (.cells #[.int .i64 tD, .slice aD mD cD] 28))) := ⟨(C1.out.below hB).below (below_lit v3 _)⟩
    clear K1 C1
    have D2 : Hd (CBox v3.heap.size tD aD mD cD dD (v3.alloc (.cells #[.int .i64 tD, .slice aD mD cD] 28))) := ⟨cBox_new hat⟩
    generalize hd : v3.heap.size = pD at *
    clear hm hat hB
    clear hmC
    obtain ⟨S, h1⟩ : ∃ x, ((tS tD dD).toArray) = x := ⟨_, rfl⟩
    have HS : Hd (((tS tD dD).toArray) = S) := ⟨h1⟩
    clear h1
    obtain ⟨ok, h1⟩ : ∃ x, (tOk tD dD) = x := ⟨_, rfl⟩
    have HO : Hd ((tOk tD dD) = ok) := ⟨h1⟩
    clear h1
    obtain ⟨kc, h1⟩ : ∃ x, (cOk tC mC) = x := ⟨_, rfl⟩
    have HC : Hd ((cOk tC mC) = kc) := ⟨h1⟩
    clear h1
    have HD : Hd (ok = true → cOk tD mD = true) := ⟨fun h => tOk_c (HO.out.trans h) HLD.out⟩
    have f1 : (kc == kc) = true := by simp
    have f3 : ((⟨S⟩ : ByteArray).toList == (⟨S⟩ : ByteArray).toList) = true := by simp
    obtain ⟨p0, p1, _, _⟩ := cells2 (v3.alloc (.cells #[.int .i64 tD, .slice aD mD cD] 28)) pD _ _ _ D2.out.box
    go_wp2_with fail
    generalize hw : v3.alloc (.cells #[.int .i64 tD, .slice aD mD cD] 28) = v4 at *
    clear hd hw
    clear p0 p1
    refine (implCellText_any tD aD mD cD dD _ D2.out.at_ (by omega) ⟨K2.out.tabs⟩).mono ?_
    rintro e v5 ⟨rfl, hB⟩
    rewrite [HS.out, HO.out]
    have K3 : Hd (CStays w a0 len0 bs v5) := ⟨K2.out.next hB⟩
    have C3 : Hd (CBox pC tC aC mC cC dC v5) := ⟨C2.out.below hB⟩
    have D3 : Hd (CBox pD tD aD mD cD dD v5) := ⟨D2.out.below hB⟩
    clear K2 C2 D2
    clear hB
    obtain ⟨p0, p1, _, _⟩ := cells2 v5 pD _ _ _ D3.out.box
    go_wp2_with fail
    clear p0 p1
    refine (specCellText_any tD aD mD cD dD _ D3.out.at_ (by omega)).mono ?_
    rintro e v6 ⟨rfl, hB⟩
    rewrite [HS.out, HO.out]
    have K4 : Hd (CStays w a0 len0 bs v6) := ⟨K3.out.next hB⟩
    have C4 : Hd (CBox pC tC aC mC cC dC v6) := ⟨C3.out.below hB⟩
    have D4 : Hd (CBox pD tD aD mD cD dD v6) := ⟨D3.out.below hB⟩
    clear K3 C3 D3
    clear hB
    cases ok with
    | false =>
      clear HD
      go_wp2_with fail
      have KS : Hd (∀ w', Below v6.heap.size v6 w' → (fun w' => w'.cell? ⟨pC, 0, none⟩ = some (.int .i64 tC) ∧ w'.cell? ⟨pC, 1, none⟩ = some (.slice aC mC cC)) w') := ⟨fun w' hb => C4.out.val hb⟩
      refine wp_region_held_drew (S := fun w' => w'.cell? ⟨pC, 0, none⟩ = some (.int .i64 tC) ∧ w'.cell? ⟨pC, 1, none⟩ = some (.slice aC mC cC)) (by kernel_rfl) (KS.out _ (Below.refl _ v6).drew) (fun hHeld => ?_)
      refine wpAnyH_take (i := 0) (oi := { dst := some 25, op := Op.load 28 (Operand.tmp 3), type := 28, pos := _, after := #[], guard := none }) (v := .agg #[.int .i64 tC, .slice aC mC cC]) rfl (by kernel_rfl) (by kernel_rfl) (by kernel_rfl) (fun _ _ _ h => h) (Or.inl ⟨by rfl, by intro w hSw; (try dsimp only at hSw); go_simp⟩) (by assumption) ?_
      simp only [Act.put, List.setIfInBounds_toArray, List.set_cons_zero, List.set_cons_succ]
      refine wpAnyH_take (i := 2) (oi := { dst := some 27, op := Op.load 28 (Operand.tmp 3), type := 28, pos := _, after := #[], guard := none }) (v := .agg #[.int .i64 tC, .slice aC mC cC]) rfl (by kernel_rfl) (by kernel_rfl) (by kernel_rfl) (fun _ _ _ h => h) (Or.inl ⟨by rfl, by intro w hSw; (try dsimp only at hSw); go_simp⟩) (by assumption) ?_
      simp only [Act.put, List.setIfInBounds_toArray, List.set_cons_zero, List.set_cons_succ]
      refine wpAnyH_ready (rs := [1]) (by kernel_rfl) (by simp) ?_
      refine AllReadyH.cons rfl (fun K hK => ?_) AllReadyH.nil
      go_simp
      go_wp2_with (go_at_call 34; refine (implCellOk_any tC aC mC cC _).mono ?_; rintro e v7 ⟨rfl, hB⟩; rewrite [HC.out]; have D0 : Hd (Below v6.heap.size v6 v7) := (⟨Below.next (Below.refl _ v6).drew hB⟩); clear hB)
      refine hK.out _ _ (KS.out _ D0.out) (fun hHeld => ?_)
      clear hK K
      refine wpAnyH_ready (rs := [3]) (by kernel_rfl) (by simp) ?_
      refine AllReadyH.cons rfl (fun K hK => ?_) AllReadyH.nil
      go_simp
      go_wp2_with (go_at_call 38; refine (specCellOk_any tC aC mC cC _).mono ?_; rintro e v8 ⟨rfl, hB⟩; rewrite [HC.out]; have D1 : Hd (Below v6.heap.size v6 v8) := (⟨Below.next D0.out hB⟩); clear hB)
      refine hK.out _ _ (KS.out _ D1.out) (fun hHeld => ?_)
      clear hK K
      refine wpAnyH_take (i := 4) (oi := { dst := some 29, op := Op.binOp BinOp.eql 4 (Operand.tmp 26) (Operand.tmp 28) 4, type := 4, pos := _, after := #[{ on := 1, ground := Ground.data }, { on := 3, ground := Ground.data }], guard := none }) (v := .bool true) rfl (by kernel_rfl) (by kernel_rfl) (by kernel_rfl) (fun _ _ _ h => h) (Or.inl ⟨by rfl, by intro w hSw; (try dsimp only at hSw); go_simp⟩) (by assumption) ?_
      simp only [Act.put, List.setIfInBounds_toArray, List.set_cons_zero, List.set_cons_succ]
      refine wpAnyH_take (i := 5) (oi := { dst := some 30, op := Op.move (Operand.tmp 29), type := 4, pos := _, after := #[{ on := 4, ground := Ground.data }, { on := 3, ground := Ground.chain }], guard := none }) (v := .bool true) rfl (by kernel_rfl) (by kernel_rfl) (by kernel_rfl) (fun _ _ _ h => h) (Or.inl ⟨by rfl, by intro w hSw; (try dsimp only at hSw); go_simp⟩) (by assumption) ?_
      simp only [Act.put, List.setIfInBounds_toArray, List.set_cons_zero, List.set_cons_succ]
      refine wpAnyH_take (i := 6) (oi := { dst := some 31, op := Op.move (Operand.tmp 6), type := 4, pos := _, after := #[{ on := 5, ground := Ground.guard }], guard := some (5, true) }) (v := .bool false) rfl (by kernel_rfl) (by kernel_rfl) (by kernel_rfl) (fun _ _ _ h => h) (Or.inl ⟨by rfl, by intro w hSw; (try dsimp only at hSw); go_simp⟩) (by assumption) ?_
      simp only [Act.put, List.setIfInBounds_toArray, List.set_cons_zero, List.set_cons_succ]
      refine wpAnyH_take (i := 7) (oi := { dst := some 32, op := Op.move (Operand.tmp 8), type := 4, pos := _, after := #[{ on := 5, ground := Ground.guard }], guard := some (5, true) }) (v := .bool false) rfl (by kernel_rfl) (by kernel_rfl) (by kernel_rfl) (fun _ _ _ h => h) (Or.inl ⟨by rfl, by intro w hSw; (try dsimp only at hSw); go_simp⟩) (by assumption) ?_
      simp only [Act.put, List.setIfInBounds_toArray, List.set_cons_zero, List.set_cons_succ]
      refine wpAnyH_take (i := 8) (oi := { dst := some 33, op := Op.binOp BinOp.eql 4 (Operand.tmp 31) (Operand.tmp 32) 4, type := 4, pos := _, after := #[{ on := 6, ground := Ground.data }, { on := 7, ground := Ground.data }, { on := 5, ground := Ground.guard }], guard := some (5, true) }) (v := .bool true) rfl (by kernel_rfl) (by kernel_rfl) (by kernel_rfl) (fun _ _ _ h => h) (Or.inl ⟨by rfl, by intro w hSw; (try dsimp only at hSw); go_simp⟩) (by assumption) ?_
      simp only [Act.put, List.setIfInBounds_toArray, List.set_cons_zero, List.set_cons_succ]
      refine wpAnyH_take (i := 9) (oi := { dst := some 34, op := Op.pick (Operand.tmp 30) (Operand.tmp 33) (Operand.const (Value.bool false)), type := 4, pos := _, after := #[{ on := 5, ground := Ground.data }, { on := 8, ground := Ground.data }], guard := none }) (v := .bool true) rfl (by kernel_rfl) (by kernel_rfl) (by kernel_rfl) (fun _ _ _ h => h) (Or.inl ⟨by rfl, by intro w hSw; (try dsimp only at hSw); go_simp⟩) (by assumption) ?_
      simp only [Act.put, List.setIfInBounds_toArray, List.set_cons_zero, List.set_cons_succ]
      refine wpAnyH_take (i := 10) (oi := { dst := some 35, op := Op.move (Operand.tmp 34), type := 4, pos := _, after := #[{ on := 9, ground := Ground.data }, { on := 5, ground := Ground.chain }], guard := none }) (v := .bool true) rfl (by kernel_rfl) (by kernel_rfl) (by kernel_rfl) (fun _ _ _ h => h) (Or.inl ⟨by rfl, by intro w hSw; (try dsimp only at hSw); go_simp⟩) (by assumption) ?_
      simp only [Act.put, List.setIfInBounds_toArray, List.set_cons_zero, List.set_cons_succ]
      refine wpAnyH_take (i := 11) (oi := { dst := some 36, op := Op.move (Operand.tmp 5), type := 9, pos := _, after := #[{ on := 10, ground := Ground.guard }], guard := some (10, true) }) (v := .string ⟨S⟩) rfl (by kernel_rfl) (by kernel_rfl) (by kernel_rfl) (fun _ _ _ h => h) (Or.inl ⟨by rfl, by intro w hSw; (try dsimp only at hSw); go_simp⟩) (by assumption) ?_
      simp only [Act.put, List.setIfInBounds_toArray, List.set_cons_zero, List.set_cons_succ]
      refine wpAnyH_take (i := 12) (oi := { dst := some 37, op := Op.move (Operand.tmp 7), type := 9, pos := _, after := #[{ on := 10, ground := Ground.guard }], guard := some (10, true) }) (v := .string ⟨S⟩) rfl (by kernel_rfl) (by kernel_rfl) (by kernel_rfl) (fun _ _ _ h => h) (Or.inl ⟨by rfl, by intro w hSw; (try dsimp only at hSw); go_simp⟩) (by assumption) ?_
      simp only [Act.put, List.setIfInBounds_toArray, List.set_cons_zero, List.set_cons_succ]
      refine wpAnyH_take (i := 13) (oi := { dst := some 38, op := Op.binOp BinOp.eql 9 (Operand.tmp 36) (Operand.tmp 37) 9, type := 4, pos := _, after := #[{ on := 11, ground := Ground.data }, { on := 12, ground := Ground.data }, { on := 10, ground := Ground.guard }], guard := some (10, true) }) (v := .bool true) rfl (by kernel_rfl) (by kernel_rfl) (by kernel_rfl) (fun _ _ _ h => h) (Or.inl ⟨by rfl, by intro w hSw; (try dsimp only at hSw); go_simp⟩) (by assumption) ?_
      simp only [Act.put, List.setIfInBounds_toArray, List.set_cons_zero, List.set_cons_succ]
      refine wpAnyH_take (i := 14) (oi := { dst := some 39, op := Op.pick (Operand.tmp 35) (Operand.tmp 38) (Operand.const (Value.bool false)), type := 4, pos := _, after := #[{ on := 10, ground := Ground.data }, { on := 13, ground := Ground.data }], guard := none }) (v := .bool true) rfl (by kernel_rfl) (by kernel_rfl) (by kernel_rfl) (fun _ _ _ h => h) (Or.inl ⟨by rfl, by intro w hSw; (try dsimp only at hSw); go_simp⟩) (by assumption) ?_
      simp only [Act.put, List.setIfInBounds_toArray, List.set_cons_zero, List.set_cons_succ]
      refine wpAnyH_take (i := 15) (oi := { dst := some 40, op := Op.move (Operand.tmp 39), type := 4, pos := _, after := #[{ on := 14, ground := Ground.data }, { on := 10, ground := Ground.chain }], guard := none }) (v := .bool true) rfl (by kernel_rfl) (by kernel_rfl) (by kernel_rfl) (fun _ _ _ h => h) (Or.inl ⟨by rfl, by intro w hSw; (try dsimp only at hSw); go_simp⟩) (by assumption) ?_
      simp only [Act.put, List.setIfInBounds_toArray, List.set_cons_zero, List.set_cons_succ]
      refine wpAnyH_take (i := 16) (oi := { dst := some 41, op := Op.move (Operand.tmp 6), type := 4, pos := _, after := #[{ on := 15, ground := Ground.guard }], guard := some (15, true) }) (v := .bool false) rfl (by kernel_rfl) (by kernel_rfl) (by kernel_rfl) (fun _ _ _ h => h) (Or.inl ⟨by rfl, by intro w hSw; (try dsimp only at hSw); go_simp⟩) (by assumption) ?_
      simp only [Act.put, List.setIfInBounds_toArray, List.set_cons_zero, List.set_cons_succ]
      refine wpAnyH_take (i := 17) (oi := { dst := some 42, op := Op.unOp UnOp.not 4 (Operand.tmp 41), type := 4, pos := _, after := #[{ on := 16, ground := Ground.data }, { on := 15, ground := Ground.guard }], guard := some (15, true) }) (v := .bool true) rfl (by kernel_rfl) (by kernel_rfl) (by kernel_rfl) (fun _ _ _ h => h) (Or.inl ⟨by rfl, by intro w hSw; (try dsimp only at hSw); go_simp⟩) (by assumption) ?_
      simp only [Act.put, List.setIfInBounds_toArray, List.set_cons_zero, List.set_cons_succ]
      refine wpAnyH_take (i := 18) (oi := { dst := some 43, op := Op.move (Operand.tmp 42), type := 4, pos := _, after := #[{ on := 17, ground := Ground.data }, { on := 15, ground := Ground.chain }, { on := 15, ground := Ground.guard }], guard := some (15, true) }) (v := .bool true) rfl (by kernel_rfl) (by kernel_rfl) (by kernel_rfl) (fun _ _ _ h => h) (Or.inl ⟨by rfl, by intro w hSw; (try dsimp only at hSw); go_simp⟩) (by assumption) ?_
      simp only [Act.put, List.setIfInBounds_toArray, List.set_cons_zero, List.set_cons_succ]
      refine wpAnyH_take (i := 19) (oi := { dst := some 44, op := Op.load 28 (Operand.tmp 4), type := 28, pos := _, after := #[{ on := 18, ground := Ground.guard }], guard := some (18, false) }) (v := undef) rfl (by kernel_rfl) (by kernel_rfl) (by kernel_rfl) (fun _ _ _ h => h) (Or.inr ⟨by rfl, rfl⟩) (by assumption) ?_
      simp only [Act.put, List.setIfInBounds_toArray, List.set_cons_zero, List.set_cons_succ]
      refine wpAnyH_take (i := 20) (oi := { dst := some 45, op := Op.call { callee := Callee.value (Operand.func 34), args := #[Operand.tmp 44], argTypes := #[28] }, type := 4, pos := _, after := #[{ on := 19, ground := Ground.data }, { on := 18, ground := Ground.chain }, { on := 18, ground := Ground.guard }], guard := some (18, false) }) (v := undef) rfl (by kernel_rfl) (by kernel_rfl) (by kernel_rfl) (fun _ _ _ h => h) (Or.inr ⟨by rfl, rfl⟩) (by assumption) ?_
      simp only [Act.put, List.setIfInBounds_toArray, List.set_cons_zero, List.set_cons_succ]
      refine wpAnyH_take (i := 21) (oi := { dst := some 46, op := Op.pick (Operand.tmp 43) (Operand.const (Value.bool true)) (Operand.tmp 45), type := 4, pos := _, after := #[{ on := 18, ground := Ground.data }, { on := 20, ground := Ground.data }, { on := 15, ground := Ground.guard }], guard := some (15, true) }) (v := .bool true) rfl (by kernel_rfl) (by kernel_rfl) (by kernel_rfl) (fun _ _ _ h => h) (Or.inl ⟨by rfl, by intro w hSw; (try dsimp only at hSw); go_simp⟩) (by assumption) ?_
      simp only [Act.put, List.setIfInBounds_toArray, List.set_cons_zero, List.set_cons_succ]
      refine wpAnyH_take (i := 22) (oi := { dst := some 47, op := Op.pick (Operand.tmp 40) (Operand.tmp 46) (Operand.const (Value.bool false)), type := 4, pos := _, after := #[{ on := 15, ground := Ground.data }, { on := 21, ground := Ground.data }], guard := none }) (v := .bool true) rfl (by kernel_rfl) (by kernel_rfl) (by kernel_rfl) (fun _ _ _ h => h) (Or.inl ⟨by rfl, by intro w hSw; (try dsimp only at hSw); go_simp⟩) (by assumption) ?_
      simp only [Act.put, List.setIfInBounds_toArray, List.set_cons_zero, List.set_cons_succ]
      refine wpAnyH_take (i := 23) (oi := { dst := some 2, op := Op.assign (Operand.tmp 47), type := 4, pos := _, after := #[{ on := 22, ground := Ground.data }, { on := 20, ground := Ground.chain }, { on := 0, ground := Ground.phase }, { on := 1, ground := Ground.phase }, { on := 2, ground := Ground.phase }, { on := 3, ground := Ground.phase }, { on := 4, ground := Ground.phase }, { on := 5, ground := Ground.phase }, { on := 6, ground := Ground.phase }, { on := 7, ground := Ground.phase }, { on := 8, ground := Ground.phase }, { on := 9, ground := Ground.phase }, { on := 10, ground := Ground.phase }, { on := 11, ground := Ground.phase }, { on := 12, ground := Ground.phase }, { on := 13, ground := Ground.phase }, { on := 14, ground := Ground.phase }, { on := 15, ground := Ground.phase }, { on := 16, ground := Ground.phase }, { on := 17, ground := Ground.phase }, { on := 18, ground := Ground.phase }, { on := 19, ground := Ground.phase }, { on := 20, ground := Ground.phase }, { on := 21, ground := Ground.phase }, { on := 22, ground := Ground.phase }], guard := none }) (v := .bool true) rfl (by kernel_rfl) (by kernel_rfl) (by kernel_rfl) (fun _ _ _ h => h) (Or.inl ⟨by rfl, by intro w hSw; (try dsimp only at hSw); go_simp⟩) (by assumption) ?_
      simp only [Act.put, List.setIfInBounds_toArray, List.set_cons_zero, List.set_cons_succ]
      refine wpAnyH_done (by kernel_rfl) ?_ _
      go_wp2_with fail
      go_ret
      exact ⟨rfl, (K4.out.next D1.out).below⟩
    | true =>
      have HT : Hd (cOk tD mD = true) := ⟨HD.out rfl⟩
      clear HD
      go_wp2_with fail
      have KS : Hd (∀ w', Below v6.heap.size v6 w' → (fun w' => (w'.cell? ⟨pC, 0, none⟩ = some (.int .i64 tC) ∧ w'.cell? ⟨pC, 1, none⟩ = some (.slice aC mC cC)) ∧ (w'.cell? ⟨pD, 0, none⟩ = some (.int .i64 tD) ∧ w'.cell? ⟨pD, 1, none⟩ = some (.slice aD mD cD))) w') := ⟨fun w' hb => ⟨C4.out.val hb, D4.out.val hb⟩⟩
      go_region_held (fun w' => (w'.cell? ⟨pC, 0, none⟩ = some (.int .i64 tC) ∧ w'.cell? ⟨pC, 1, none⟩ = some (.slice aC mC cC)) ∧ (w'.cell? ⟨pD, 0, none⟩ = some (.int .i64 tD) ∧ w'.cell? ⟨pD, 1, none⟩ = some (.slice aD mD cD))) (first | assumption | exact KS.out _ (Below.refl _ v6).drew | exact KS.out _ D2.out | exact KS.out _ D1.out | exact KS.out _ D0.out) (first | (have G1 := D1; clear G1; go_at_call 34; refine (implCellOk_any tD aD mD cD _).mono ?_; rintro e v11 ⟨rfl, hB⟩; rewrite [HT.out]; have D2 : Hd (Below v6.heap.size v6 v11) := (⟨Below.next D1.out hB⟩); clear hB) | (have G1 := D0; clear G1; go_at_call 38; refine (specCellOk_any tC aC mC cC _).mono ?_; rintro e v10 ⟨rfl, hB⟩; rewrite [HC.out]; have D1 : Hd (Below v6.heap.size v6 v10) := (⟨Below.next D0.out hB⟩); clear hB) | (go_at_call 34; refine (implCellOk_any tC aC mC cC _).mono ?_; rintro e v9 ⟨rfl, hB⟩; rewrite [HC.out]; have D0 : Hd (Below v6.heap.size v6 v9) := (⟨Below.next (Below.refl _ v6).drew hB⟩); clear hB))
      have K5 : Hd (CStays w a0 len0 bs v11) := ⟨K4.out.next D2.out⟩
      have C5 : Hd (CBox pC tC aC mC cC dC v11) := ⟨C4.out.below D2.out⟩
      have D5 : Hd (CBox pD tD aD mD cD dD v11) := ⟨D4.out.below D2.out⟩
      clear K4 C4 D4
      clear KS D0 D1 D2
      go_wp2_with fail
      go_ret
      exact ⟨rfl, K5.out.below⟩

set_option maxRecDepth 100000 in
theorem lifted (os : Os) (started : os.Started) (H : Type) (enc : TypeId × Value → H) :
    ReturnsInHanded {} Tryd.checked os 7 .any (fun w args => (Rows.fnCellsBentSpec.pre enc Tryd.prog Tryd.f7 Rows.fnCellsBentRow.domain false w args ∧ laidMetH Tryd.prog Rows.fnCellsBentRow.laid w) ∧ sizedMet enc Tryd.prog Tryd.f7 (OpenSpec.ofChange Rows.fnCellsBentSpec) false w args)
      (Rows.fnCellsBentSpec.post enc Tryd.prog Tryd.f7 false true false false) := by
  refine returnsInHanded_of_change_and (C := Tryd.checked) (X := fun w _ => laidMetH Tryd.prog Rows.fnCellsBentRow.laid w) (fun _ _ _ hh h => h.of_heap hh) own started (by kernel_rfl) Tryd.func7
    (ChangeSpec.witness_shaped (enc := enc) (C := Tryd.checked) (os := os) (X := fun w _ => laidMetH Tryd.prog Rows.fnCellsBentRow.laid w) false (World.laidAll Tryd.prog os Rows.fnCellsBentRow.laid) #[.slice none 0 0] 8 (World.laidAll_os _ _ _)
      (World.shaped_of_ZipB (by kernel_rfl) (by kernel_rfl)) (by kernel_rfl) (by kernel_rfl) (by kernel_rfl)
      (by rw [MakeChecks.laidMetH_plain _ _ _ (by kernel_rfl)]; exact laidMet_laidAll _ (by kernel_rfl) (by kernel_rfl))) ?_
  intro W base args ds gs before hval0 hW _ _ hL _
  have hval : ∀ (j : Nat) t v, Tryd.f7.params[j]? = some t → args[j]? = some v → Value.okWide Tryd.prog W .any base t v := hval0
  have hW' := hW
  obtain ⟨p, q, hA0, hV, rfl, hfz, hnd⟩ := hW
  have hA : DataW.TrodAll enc Tryd.prog W 0 (fun _ => true) true Tryd.f7.params.toList args.toList ds p := hA0
  rw [Tryd.params7] at hA hval
  obtain ⟨v0, vs0, d0, ds0, p0, q0, hargs, rfl, rfl, h0, r0⟩ := trodAll_cons hA
  obtain ⟨rfl, rfl, rfl⟩ := trodAll_nil r0
  obtain rfl : args = #[v0] := by cases args; simp_all
  have hV1 : DataW.TrodVars enc Tryd.prog W (fun _ => true) Rows.fnCellsBentSpec.vars gs q := hV
  obtain ⟨g1, g2, g3, g4, rfl⟩ : ∃ g1 g2 g3 g4, gs = [g1, g2, g3, g4] := by
    match gs, (vars_length hV1 : gs.length = 4) with
    | [g1, g2, g3, g4], _ => exact ⟨g1, g2, g3, g4, rfl⟩
  obtain ⟨a0, len0, cap0, rfl⟩ := okWide_slice Tryd.underlying22 (hval 0 22 v0 rfl rfl)
  have k0 := h0
  have lt0 : ∀ x ∈ p0, x.block < W.heap.size := by obtain ⟨m, hm⟩ := k0; exact DataW.trod_lt m _ _ _ hm
  obtain ⟨z0, w0⟩ : ∃ zs, IsRow .u8 W a0 len0 cap0 zs := by
    obtain ⟨fuel, hf⟩ := h0
    rcases open_ints Tryd.underlying22 Tryd.underlying5 (by kernel_rfl) hf with ⟨hcs, _⟩ | ⟨x, l, c, zs, hcs, _, hl, hm, hz, _, hcell, hwz⟩
    · simp [Value.cells] at hcs
      obtain ⟨rfl, rfl, rfl⟩ := hcs
      exact ⟨[], .inl ⟨rfl, rfl, rfl, rfl⟩⟩
    · simp [Value.cells] at hcs
      obtain ⟨rfl, rfl, rfl⟩ := hcs
      exact ⟨zs, .inr ⟨_, rfl, hl, hm, by simpa using hz, hcell, hwz⟩⟩
  clear hA0 hval0
  refine (walk a0 len0 cap0 z0 W w0 ⟨all_of hL⟩).mono fun e W' ⟨he, hg⟩ => ?_
  subst he
  exact ⟨_, rfl, _, _, _, [], _, q, hW', trodAll_mk1 (shut_bool Tryd.underlying4 _), (trodAll_cons_mk (Below.trod laidOut (by kernel_rfl) (of_decide_eq_true (by kernel_rfl)) k0 hg lt0) trodAll_mk0), Below.trodVars laidOut hg (by kernel_rfl) hV1, hg.frame _, fun h => by cases h⟩

theorem over : Rows.fnCellsBentRow.holds Tryd.pinned (OpenSpec.ofChange Rows.fnCellsBentSpec) :=
  OpenClaim.holds_of_wide 7 Tryd.f7 rfl rfl rfl rfl rfl rfl rfl ⟨rfl, rfl, rfl, rfl, rfl⟩ rfl rfl rfl rfl rfl (by kernel_rfl) Tryd.func7 (by kernel_rfl)
    (of_decide_eq_true (by kernel_rfl)) (by unfold Func.isWrapper; first | (rw [if_pos (by decide +kernel)]; kernel_rfl) | (rw [if_neg (by decide +kernel)]; exact ⟨rfl, rfl⟩))
    (fun os started H enc _ => lifted os started H enc)

theorem plain (f : FuncId) (fn : Func) (hf : Tryd.pinned.checked.prog.funcNamed Rows.fnCellsBentRow.func = some f) (hfn : Tryd.pinned.checked.prog.funcs[f]? = some fn) :
    true = Tryd.pinned.checked.prog.looks [] ∧ ∀ (j : Nat) t, fn.params[j]? = some t → Tryd.pinned.checked.prog.wantsStandIn t = false := by
  obtain rfl : f = 7 := Option.some.inj ((show Tryd.prog.funcNamed Rows.fnCellsBentRow.func = some 7 by kernel_rfl).symm.trans hf) |>.symm
  obtain rfl : fn = Tryd.f7 := (Option.some.inj (Tryd.func7.symm.trans hfn)).symm
  refine ⟨by kernel_rfl, fun j t ht => ?_⟩
  rw [Tryd.params7] at ht
  have hm : t ∈ [22] := by simpa using Array.mem_of_getElem? ht
  have hall : ([22].all fun u => !Tryd.prog.wantsStandIn u) = true := by kernel_rfl
  exact (show Tryd.prog.wantsStandIn t = false by simpa using List.all_eq_true.1 hall t hm)

end Go.Proofs.YtpafjehphajbhabDoor.fnCellsBent

namespace Go.Proofs.YtpafjehphajbhabDoor
theorem fnCellsBentCard_holds : Rows.FnCellsBentCardSaid :=
  Claim7.holds_tied_plain_at .later [] _ _ _ _ fnCellsBent.over (fun _ h => by cases h) (by kernel_rfl) (fun _ h => by cases h) fnCellsBent_row_tie rfl ⟨rfl, rfl⟩ (by kernel_rfl) rfl fnCellsBent.plain (by kernel_rfl)
#print axioms fnCellsBentCard_holds
end Go.Proofs.YtpafjehphajbhabDoor
