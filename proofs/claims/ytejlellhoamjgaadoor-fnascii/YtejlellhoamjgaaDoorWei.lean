/- Contracts of Weight: the program's, over its table, at numbers not below 0; the specification's. -/
import Derived.Test.YtejlellhoamjgaaDoorWeiP
import Derived.Test.YtejlellhoamjgaaDoorCommon
import Derived.Deep.MidRow
namespace Go.Proofs.YtejlellhoamjgaaDoor
set_option maxRecDepth 4000
open Go.RowKit

/-- The program's table of weights lies in its variable. -/
structure WeiAt (w : World) : Prop where
  out : ∀ j, j < 33 → w.cell? ⟨0, j, none⟩ = some (.int .i64 (weiT.getD j 0))
theorem WeiAt.below {w w' : World} (h : WeiAt w) (hb : Below w.heap.size w w') : WeiAt w' := ⟨fun j hj => cell_below (h.out j hj) hb⟩

def weiV : Value := .agg (weiT.map fun z => Value.int .i64 z).toArray
theorem WeiAt.range {w : World} (h : WeiAt w) : w.rangeAt 0 0 (weiT.map fun z => Value.int .i64 z) := by
  intro j v hv
  have hj : j < 33 := by
    have := (List.getElem?_eq_some_iff.1 hv).1
    simpa [weiT] using this
  have := h.out j hj
  rw [Nat.zero_add, this]
  rw [List.getElem?_map] at hv
  cases hz : weiT[j]? with
  | none => rw [hz] at hv; cases hv
  | some z => rw [hz] at hv; rw [List.getD_eq_getElem?_getD, hz]; exact hv
theorem weiInfo : (Tryd.prog.info? 66).map (·.size) = some (weiT.map fun z => Value.int .i64 z).length := by kernel_rfl

theorem wei_index (w : World) : ∀ k : Nat, k < 11 → (Instr.index 66 weiV (.int .i64 (k : Int))).run Tryd.prog w = .ok (.agg #[.int .i64 (weiA k), .int .i64 (weiB k), .int .i64 (weiC k)]) w
  | 0, _ => by kernel_rfl
  | 1, _ => by kernel_rfl
  | 2, _ => by kernel_rfl
  | 3, _ => by kernel_rfl
  | 4, _ => by kernel_rfl
  | 5, _ => by kernel_rfl
  | 6, _ => by kernel_rfl
  | 7, _ => by kernel_rfl
  | 8, _ => by kernel_rfl
  | 9, _ => by kernel_rfl
  | 10, _ => by kernel_rfl

set_option maxHeartbeats 2000000 in
theorem implWeight_any (n : Int) (w : World) (h0 : 0 ≤ n) (T : Hd (WeiAt w)) :
    Calls Tryd.prog 27 #[.int .i64 n] w fun e w' => e = .returned (.int .i64 (wei n)) ∧ Below w.heap.size w w' := by
  have HR : Hd (w.rangeAt 0 0 (weiT.map fun z => Value.int .i64 z)) := ⟨T.out.range⟩
  obtain ⟨V, hV⟩ : ∃ V, weiV = V := ⟨_, rfl⟩
  have HX : Hd (∀ (w : World) (k : Nat), k < 11 → (Instr.index 66 V (.int .i64 (k : Int))).run Tryd.prog w = .ok (.agg #[.int .i64 (weiA k), .int .i64 (weiB k), .int .i64 (weiC k)]) w) := ⟨fun w k hk => by rw [← hV]; exact wei_index w k hk⟩
  have N0 : Hd (0 ≤ n) := ⟨h0⟩
  clear h0
  go_enter Tryd.func27, Tryd.ntmps27
  go_wp2_with (refine wpList_load_mid rfl 66 (.global 0) rfl 0 0 rfl _ _ HR.out Tryd.underlying66 rfl weiInfo ?_)
  rewrite [show Value.agg (weiT.map fun z => Value.int .i64 z).toArray = V from hV]
  clear hV HR
  go_wp2_with fail
  have W0 : Hd (Below w.heap.size w w) := ⟨Below.refl _ _⟩
  have K0 : Hd (NoRow n 0) := ⟨noRow_zero n⟩
  go_loopw [6] (fun i wr => ∃ k : Nat, i = .int .i64 k ∧ k ≤ 11 ∧ Hd (NoRow n k) ∧ Hd (Below w.heap.size w wr)) (fun i _ => 11 - (intOf i).toNat)
  case atStart => exact ⟨0, rfl, by omega, K0, W0⟩
  case round =>
    clear K0 W0
    obtain ⟨k, rfl, hk, K, B⟩ := hrel
    by_cases hlt : k < 11
    · have hkI : (k : Int) < 11 := by omega
      have hx := HX.out wr k hlt
      have HH : Hd (weiA k ≤ n → n ≤ weiB k → weiC k = wei n) := ⟨wei_hit n k hlt⟩
      have HN : Hd (¬ (weiA k ≤ n ∧ n ≤ weiB k) → NoRow n (k + 1)) := ⟨fun h => K.out.next h⟩
      clear K
      generalize weiA k = a at *
      generalize weiB k = b at *
      generalize weiC k = c at *
      by_cases h1 : a ≤ n
      · by_cases h2 : n ≤ b
        · have HE : Hd (c = wei n) := ⟨HH.out h1 h2⟩
          clear HH HN
          go_wp2_with fail
          go_ret
          exact ⟨congrArg (fun x => Ending.returned (Value.int .i64 x)) HE.out, B.out.alloc B.out.size _⟩
        · have HM : Hd (NoRow n (k + 1)) := ⟨HN.out (fun h => h2 h.2)⟩
          clear HH HN
          go_wp2_with fail
          go_roundw
          case rel => exact ⟨k + 1, by go_num, by omega, HM, ⟨B.out.alloc B.out.size _⟩⟩
          case measure => simp [intOf]; omega
      · have HM : Hd (NoRow n (k + 1)) := ⟨HN.out (fun h => h1 h.1)⟩
        clear HH HN
        go_wp2_with fail
        go_roundw
        case rel => exact ⟨k + 1, by go_num, by omega, HM, ⟨B.out.alloc B.out.size _⟩⟩
        case measure => simp [intOf]; omega
    · obtain rfl : k = 11 := by omega
      have HE : Hd (0 = wei n) := ⟨wei_none N0.out K.out⟩
      go_wp2_with fail
      go_ret
      exact ⟨congrArg (fun x => Ending.returned (Value.int .i64 x)) HE.out, B.out⟩

end Go.Proofs.YtejlellhoamjgaaDoor
