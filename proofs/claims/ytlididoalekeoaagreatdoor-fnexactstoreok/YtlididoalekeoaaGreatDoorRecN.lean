/- Contracts: IndexFunc and ContainsFunc over records, in the program. -/
import Derived.Test.YtlididoalekeoaaGreatDoorRecL
namespace Go.Proofs.YtlididoalekeoaaGreatDoor
set_option maxRecDepth 4000
open Go.RowKit

/-- The place of the first that is not right; -1 where there is none. -/
def badF : List RecD → Int → Int
  | [], _ => -1
  | r :: s, i => if recOk r = false then i else badF s (i + 1)
theorem badF_sign : ∀ (ls : List RecD) (i : Int), 0 ≤ i → (decide (0 ≤ badF ls i)) = !(ls.all recOk)
  | [], _, _ => rfl
  | r :: s, i, h => by
    rw [badF, List.all_cons]
    cases hr : recOk r with
    | false => simp [h]
    | true => simp [badF_sign s (i + 1) (by omega)]
theorem badF_nil {ls : List RecD} {k : Nat} (i : Int) (h : ls.length ≤ k) : badF (ls.drop k) i = -1 := by
  rw [List.drop_of_length_le h]; rfl
theorem badF_at {ls : List RecD} {k : Nat} {r : RecD} (i : Int) (h : ls[k]? = some r) : badF (ls.drop k) i = if recOk r = false then i else badF (ls.drop (k + 1)) (i + 1) := by
  obtain ⟨hk, rfl⟩ := List.getElem?_eq_some_iff.1 h
  rw [List.drop_eq_getElem_cons hk, badF]

set_option maxHeartbeats 4000000 in
theorem indexRec_any (ao : Option Addr) (len cap : Nat) (ls : List RecD) (w : World) (h : RcRecL w [.slice ao len cap] ls) (hw : ∀ (j : Nat) r, ls[j]? = some r → wtRec r ≤ 1048576) (T : Hd (AllAt w)) :
    Calls Tryz.prog 61 #[.slice ao len cap, .func (.func 39) #[] #[]] w fun e w' => e = .returned (.int .i64 (badF ls 0)) ∧ Below w.heap.size w w' := by
  have HL : Hd (RcRecL w [.slice ao len cap] ls ∧ ∀ (j : Nat) r, ls[j]? = some r → wtRec r ≤ 1048576) := ⟨h, hw⟩
  obtain ⟨hl, hm9⟩ := rdS_len h
  have hm1' : len ≤ 9223372036854775807 := by unfold maxLen at hm9; exact hm9
  obtain ⟨R, hR⟩ : ∃ R, badF ls 0 = R := ⟨_, rfl⟩
  rw [hR]
  have HN : Hd (ls.length = len ∧ badF (ls.drop 0) 0 = R) := ⟨hl, hR⟩
  clear h hw hl hR hm9
  go_enter Tryz.func61, Tryz.ntmps61
  go_wp2_with fail
  go_loopw [8] (fun i wr => ∃ k : Nat, k ≤ len ∧ i = .int .i64 k ∧ Hd (badF (ls.drop k) (k : Int) = R) ∧ Hd (Below w.heap.size w wr)) (fun i _ => len - (intOf i).toNat)
  case atStart => exact ⟨0, Nat.zero_le _, rfl, ⟨HN.out.2⟩, ⟨Below.refl _ _⟩⟩
  case round =>
    obtain ⟨k, hk, rfl, HK, HB⟩ := hrel
    by_cases hlt : k < len
    · have hlt' : (k : Int) < (len : Int) := by omega
      have h0 : (0 : Int) ≤ (k : Int) := by omega
      obtain ⟨a, ha⟩ := get_some (l := ls) (j := k) (by rw [HN.out.1]; exact hlt)
      obtain ⟨q1, o1, c, e1, hcn, r1, z1⟩ := rdS_get HL.out.1 ha
      subst e1
      have hrg : wr.rangeAt q1 (o1 + k * 13) c := fun j v hv => cell_below (z1 j v hv) HB.out
      have hinf : (Tryz.prog.info? 83).map (·.size) = some c.length := by rw [infoRec, hcn]
      have Q : Hd (RcRec wr c a ∧ wtRec a ≤ 1048576) := ⟨rcRec_ok.below r1 HB.out, HL.out.2 k a ha⟩
      obtain ⟨s, hs⟩ : ∃ s, recOk a = s := ⟨_, rfl⟩
      have HS : Hd (recOk a = s) := ⟨hs⟩
      have HE : Hd (R = if s = false then (k : Int) else badF (ls.drop (k + 1)) ((k + 1 : Nat) : Int)) := ⟨by rw [← HK.out, badF_at _ ha, hs]; rfl⟩
      clear ha z1 r1 hs
      go_wp2_with (show wpList _ _ _ (Oper.mk _ (Op.load 83 _) _ _ _ _ :: _) _ _; refine wpList_load_to 83 _ rfl rfl q1 (o1 + k * 13) rfl c hrg Tryz.underlying83 rfl hinf ?_)
      refine (implTabOk1_rd c a _ Q.out.1 Q.out.2 ⟨T.out.below HB.out⟩).mono ?_
      rintro e w1 ⟨rfl, hb⟩
      rewrite [HS.out]
      have HB1 : Hd (Below w.heap.size w w1) := ⟨Below.next HB.out hb⟩
      clear hb Q HB hrg hinf HS
      cases s
      · have HF : Hd (R = (k : Int)) := ⟨by rw [HE.out]; rfl⟩
        clear HE
        go_wp2_with fail
        go_ret
        exact ⟨by rw [HF.out]; rfl, HB1.out⟩
      · have HF : Hd (badF (ls.drop (k + 1)) ((k + 1 : Nat) : Int) = R) := ⟨by rw [HE.out]; rfl⟩
        clear HE
        go_wp2_with fail
        go_roundw
        case rel => exact ⟨k + 1, by omega, by go_num, HF, HB1⟩
        case measure => simp [intOf]; omega
    · have HF : Hd (R = -1) := ⟨by rw [← HK.out]; exact badF_nil _ (by have := HN.out.1; omega)⟩
      go_wp2_with fail
      go_ret
      exact ⟨by rw [HF.out]; rfl, HB.out⟩
theorem containsRec_any (ao : Option Addr) (len cap : Nat) (ls : List RecD) (w : World) (h : RcRecL w [.slice ao len cap] ls) (hw : ∀ (j : Nat) r, ls[j]? = some r → wtRec r ≤ 1048576) (T : Hd (AllAt w)) :
    Calls Tryz.prog 37 #[.slice ao len cap, .func (.func 39) #[] #[]] w fun e w' => e = .returned (.bool (!(ls.all recOk))) ∧ Below w.heap.size w w' := by
  have HL : Hd (RcRecL w [.slice ao len cap] ls ∧ ∀ (j : Nat) r, ls[j]? = some r → wtRec r ≤ 1048576) := ⟨h, hw⟩
  obtain ⟨R, hR⟩ : ∃ R, badF ls 0 = R := ⟨_, rfl⟩
  obtain ⟨z, hz⟩ : ∃ z, (!(ls.all recOk)) = z := ⟨_, rfl⟩
  have HR : Hd (badF ls 0 = R ∧ z = decide (0 ≤ R)) := ⟨hR, by rw [← hz, ← hR]; exact (badF_sign ls 0 (by omega)).symm⟩
  rw [hz]
  clear h hw hR hz
  go_enter Tryz.func37, Tryz.ntmps37
  go_wp2_with fail
  refine (indexRec_any ao len cap ls _ HL.out.1 HL.out.2 T).mono ?_
  rintro e w1 ⟨rfl, hb⟩
  rewrite [HR.out.1]
  have B1 : Hd (Below w.heap.size w w1) := ⟨hb⟩
  clear hb HL
  by_cases hc : 0 ≤ R
  · go_wp2_with fail
    go_ret
    exact ⟨by rw [HR.out.2, decide_eq_true (by omega)]; rfl, B1.out⟩
  · go_wp2_with fail
    go_ret
    exact ⟨by rw [HR.out.2, decide_eq_false (by omega)]; rfl, B1.out⟩

end Go.Proofs.YtlididoalekeoaaGreatDoor
