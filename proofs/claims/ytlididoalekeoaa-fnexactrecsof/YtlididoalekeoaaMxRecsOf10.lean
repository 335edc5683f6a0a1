/- Parts of the proof, one behind the other. -/
import Derived.Test.YtlididoalekeoaaMxRecsOf8
import Derived.Test.YtlididoalekeoaaMxRecsOf9
import Derived.Test.YtlididoalekeoaaMxRecsOf7
import Derived.Deep.RegionHeld3
import Derived.Test.YtlididoalekeoaaMxRecsOf6
import Derived.Test.YtlididoalekeoaaMxRecsOf4
import Derived.Test.YtlididoalekeoaaMxRecsOf5
/- joinRows of the program. -/
namespace Go.Proofs.Ytlididoalekeoaa
set_option maxRecDepth 4000
open Go.RowKit

theorem rcRow_zero (w : World) : RcRow w [.string ⟨#[]⟩, .int .i64 0, .slice none 0 0, .int .i64 0, .slice none 0 0, .int .i64 0, .bool false] (⟨⟨#[]⟩, 0, [], 0, [], 0, false⟩ : RowD) := owRow_ok.rd (owRow_zero w)
theorem rcRow_one {v : World} {c : List Value} {x : RowD} (h : RcRow v c x) : ∀ u ∈ c, u.oneCell' = true := by
  simp only [RcRow] at h
  obtain ⟨x2, m2, d2, x4, m4, d4, rfl, _⟩ := h
  intro u hu
  simp only [List.mem_cons, List.not_mem_nil, or_false] at hu
  rcases hu with rfl | rfl | rfl | rfl | rfl | rfl | rfl <;> rfl
theorem rowInfo7 : (Try.prog.info? 84).map (·.size) = some 7 := by kernel_rfl

/-! ### the numbers -/
def cutL {α : Type} (Ls : List (List α)) (k : Nat) : Nat := (Ls.take k).flatten.length
theorem cutL_zero {α : Type} (Ls : List (List α)) : cutL Ls 0 = 0 := by simp [cutL]
theorem cutL_succ {α : Type} {Ls : List (List α)} {k : Nat} {l : List α} (h : Ls[k]? = some l) : cutL Ls (k + 1) = cutL Ls k + l.length := by
  unfold cutL
  rw [List.take_add_one, h]
  simp
theorem cutL_le {α : Type} (Ls : List (List α)) (k : Nat) : cutL Ls k ≤ Ls.flatten.length := by
  have h : Ls.flatten = (Ls.take k).flatten ++ (Ls.drop k).flatten := by rw [← List.flatten_append, List.take_append_drop]
  rw [h, List.length_append]
  exact Nat.le_add_right _ _
theorem cutL_all {α : Type} (Ls : List (List α)) {k : Nat} (h : Ls.length ≤ k) : cutL Ls k = Ls.flatten.length := by
  unfold cutL; rw [List.take_of_length_le h]
theorem splice_cut {α : Type} {Ls : List (List α)} {k : Nat} {l : List α} (z : α) (h : Ls[k]? = some l) : splice (fillS Ls.flatten z (cutL Ls k)) (cutL Ls k) l = fillS Ls.flatten z (cutL Ls (k + 1)) := by
  have hk := get_lt h
  have e0 : Ls = Ls.take k ++ (l :: Ls.drop (k + 1)) := by
    have h1 : Ls.drop k = l :: Ls.drop (k + 1) := by
      rw [List.drop_eq_getElem_cons hk]
      rw [List.getElem?_eq_getElem hk] at h
      simp only [Option.some.injEq] at h
      rw [h]
    rw [← h1, List.take_append_drop]
  obtain ⟨X, hX⟩ : ∃ X, (Ls.take k).flatten = X := ⟨_, rfl⟩
  obtain ⟨Y, hY⟩ : ∃ Y, (Ls.drop (k + 1)).flatten = Y := ⟨_, rfl⟩
  have e : Ls.flatten = X ++ (l ++ Y) := by
    rw [← hX, ← hY]
    conv => lhs; rw [e0]
    rw [List.flatten_append, List.flatten_cons]
  rw [cutL_succ h]
  have eX : cutL Ls k = X.length := by unfold cutL; rw [hX]
  rw [eX, e]
  unfold fillS splice
  have f1 : (X ++ (l ++ Y)).take X.length = X := List.take_left' rfl
  have f2 : (X ++ (l ++ Y)).take (X.length + l.length) = X ++ l := by rw [← List.append_assoc, ← List.length_append]; exact List.take_left' rfl
  have f3 : (X ++ (l ++ Y)).length - X.length = l.length + Y.length := by simp
  have f4 : (X ++ (l ++ Y)).length - (X.length + l.length) = Y.length := by simp; omega
  rw [f1, f2, f3, f4, List.take_left' rfl, ← List.replicate_append_replicate, ← List.append_assoc X (List.replicate l.length z), List.drop_left' (by simp), List.append_assoc]

def mixT {α : Type} (L : List α) (k : Nat) : List (Bool × α) := (L.take k).map (fun a => (true, a)) ++ (L.drop k).map (fun a => (false, a))
theorem mixT_zero {α : Type} (L : List α) : mixT L 0 = L.map (fun a => (false, a)) := by simp [mixT]
theorem mixT_all {α : Type} (L : List α) : mixT L L.length = L.map (fun a => (true, a)) := by simp [mixT]
theorem mixT_get {α : Type} {L : List α} {k : Nat} {a : α} (h : L[k]? = some a) : (mixT L k)[k]? = some (false, a) := by
  have hk := get_lt h
  unfold mixT
  rw [List.getElem?_append_right (by simp; omega)]
  have e : k - ((L.take k).map (fun a => (true, a))).length = 0 := by simp; omega
  rw [e, List.getElem?_map, List.getElem?_drop, Nat.add_zero, h]
  rfl
theorem mixT_set {α : Type} {L : List α} {k : Nat} {a : α} (h : L[k]? = some a) : (mixT L k).set k (true, a) = mixT L (k + 1) := by
  have hk := get_lt h
  unfold mixT
  have e1 : ((L.take k).map (fun a => (true, a))).length = k := by simp; omega
  rw [List.set_append_right _ _ (by omega), e1, Nat.sub_self, List.take_add_one, h]
  have h1 : L.drop k = a :: L.drop (k + 1) := by
    rw [List.drop_eq_getElem_cons hk]
    rw [List.getElem?_eq_getElem hk] at h
    simp only [Option.some.injEq] at h
    rw [h]
  rw [h1]
  simp

set_option maxHeartbeats 8000000 in
theorem joinRows_ow (ao : Option Addr) (len cap : Nat) (Ls : List (List RowD)) (w : World) (h : RdS 1 RcRowS w [.slice ao len cap] Ls) (hlen : len ≤ 1000) (hw : wtRowS Ls.flatten ≤ 1073741824) :
    Calls Try.prog 96 #[.slice ao len cap] w (AnsSl OwRowS Ls.flatten w) := by
  obtain ⟨L, hL⟩ : ∃ L, Ls.flatten = L := ⟨_, rfl⟩
  obtain ⟨S, hS⟩ : ∃ S, L.length = S := ⟨_, rfl⟩
  have HN : Hd (Ls.length = len ∧ Ls.flatten = L ∧ L.length = S ∧ wtS wtRow L ≤ 1073741824) := ⟨(rdS_len h).1, hL, hS, by rw [← hL]; exact hw⟩
  have hSb : S ≤ 1073741824 := by have h1 := wtS_len wtRow L; have h2 := HN.out.2.2.2; omega
  have HL : Hd (RdS 1 RcRowS w [.slice ao len cap] Ls) := ⟨h⟩
  rw [hL]
  clear h hw hL hS
  obtain ⟨i0, hi, hz0, hz1, hz2⟩ := info_parts infSRowS
  go_enter Try.func96, Try.ntmps96
  go_wp2_with fail
  go_loopw [3, 14] (fun s i wr => ∃ k A : Nat, k ≤ len ∧ i = .int .i64 k ∧ s = .int .i64 A ∧ Hd (A = cutL Ls k) ∧ wr = w) (fun _ i _ => len - (intOf i).toNat)
  case atStart => exact ⟨0, 0, Nat.zero_le _, rfl, rfl, ⟨(cutL_zero _).symm⟩, rfl⟩
  case round =>
    obtain ⟨k, A, hk, rfl, rfl, HA, hwr⟩ := hrel
    subst wr
    by_cases hlt : k < len
    · have hlt' : (k : Int) < (len : Int) := by omega
      have h0 : (0 : Int) ≤ (k : Int) := by omega
      obtain ⟨a, ha⟩ := get_some (l := Ls) (j := k) (by rw [HN.out.1]; exact hlt)
      obtain ⟨b1, o1, c1, e1, _, r1, z1⟩ := rdS_get HL.out ha
      subst e1
      have HSrc := r1
      obtain ⟨x1, m1, d1, e2, _, hl1, _⟩ := r1
      subst e2
      have HC : Hd (cutL Ls (k + 1) = cutL Ls k + m1 ∧ cutL Ls (k + 1) ≤ S ∧ Ls[k]? = some a) := ⟨by rw [cutL_succ ha, hl1], by rw [← HN.out.2.2.1, ← HN.out.2.1]; exact cutL_le Ls (k + 1), ha⟩
      have hsum : A + m1 ≤ S := by have := HC.out; have := HA.out; omega
      have t0 := z1 0 _ rfl
      simp only [Nat.mul_one, Nat.add_zero] at t0
      have HA2 : Hd (A + m1 = cutL Ls (k + 1)) := ⟨by have := HC.out.1; have := HA.out; omega⟩
      clear HSrc z1 ha HA HC hl1
      go_wp2_with fail
      go_roundw
      case rel => exact ⟨k + 1, A + m1, by omega, by go_num, by go_num, HA2, trivial⟩
      case measure => simp [intOf]; omega
    · obtain rfl : S = A := by rw [HA.out, cutL_all Ls (by rw [HN.out.1]; omega), HN.out.2.1, HN.out.2.2.1]
      have hlt' : ¬ (k : Int) < (len : Int) := by omega
      clear HA hlt hk
      go_wp2_with (at_make; refine wpList_make_full _ rfl _ _ 40 rfl w.heap.size 84 i0 (.agg #[.string ⟨#[]⟩, .int .i64 0, .slice none 0 0, .int .i64 0, .slice none 0 0, .int .i64 0, .bool false]) 7 Try.underlying40 hi hz0 hz1 _ _ _ _ S rfl rfl rfl rfl ?b1 ?b2 ?b3 ?_)
      case b1 => omega
      case b2 => unfold maxLen; omega
      intro w1 hown hgrow
      have HW : Hd (∃ F, OwS 7 84 (OwOn RcRow w) w1 [(.slice (some ⟨w.heap.size, 0, none⟩) S S)] F (fillS L (⟨⟨#[]⟩, 0, [], 0, [], 0, false⟩ : RowD) 0) ∧ (∀ x, F x → w.heap.size ≤ x) ∧ Below w.heap.size w w1) := ⟨by
        have hlt := (hown.lt w.heap.size rfl).2
        have e7 := made_flat ([.string ⟨#[]⟩, .int .i64 0, .slice none 0 0, .int .i64 0, .slice none 0 0, .int .i64 0, .bool false] : List Value) (n := 7) rfl (by omega) S
        have h7 : w1.ownsRow 0 84 7 (.slice (some ⟨w.heap.size, 0, none⟩) S S) S (List.replicate S ([.string ⟨#[]⟩, .int .i64 0, .slice none 0 0, .int .i64 0, .slice none 0 0, .int .i64 0, .bool false] : List Value)).flatten := by
          rw [← e7]; exact ownsRow_base hown (Nat.zero_le _)
        refine ⟨fun x => x = w.heap.size, ?_, fun x hx => by rw [hx]; exact Nat.le_refl _, (Below.refl _ w).grown hgrow (Nat.le_refl _) (fun _ h => by cases h)⟩
        rw [fillS_zero, HN.out.2.2.1]
        exact ⟨_, _, _, rfl, owP_made (E := OwOn RcRow w) (z := (⟨⟨#[]⟩, 0, [], 0, [], 0, false⟩ : RowD)) h7 rfl hlt ⟨fun _ h => h, rcRow_zero w⟩⟩⟩
      clear hown hgrow
      go_wp2_with fail
      go_loopw [7, 27] (fun s i wr => ∃ k A : Nat, k ≤ len ∧ i = .int .i64 k ∧ s = .int .i64 A ∧ Hd (A = cutL Ls k) ∧ Hd (∃ F, OwS 7 84 (OwOn RcRow w) wr [(.slice (some ⟨w.heap.size, 0, none⟩) S S)] F (fillS L (⟨⟨#[]⟩, 0, [], 0, [], 0, false⟩ : RowD) A) ∧ (∀ x, F x → w.heap.size ≤ x) ∧ Below w.heap.size w wr)) (fun _ i _ => len - (intOf i).toNat)
      case atStart => exact ⟨0, 0, Nat.zero_le _, rfl, rfl, ⟨(cutL_zero _).symm⟩, HW⟩
      case round =>
        obtain ⟨k, A, hk, rfl, rfl, HA, HK⟩ := hrel
        clear HW
        by_cases hlt : k < len
        · have hlt' : (k : Int) < (len : Int) := by omega
          have h0 : (0 : Int) ≤ (k : Int) := by omega
          obtain ⟨a, ha⟩ := get_some (l := Ls) (j := k) (by rw [HN.out.1]; exact hlt)
          obtain ⟨b1, o1, c1, e1, _, r1, z1⟩ := rdS_get HL.out ha
          subst e1
          have HSrc := r1
          obtain ⟨x1, m1, d1, e2, _, hl1, _⟩ := r1
          subst e2
          have HC : Hd (cutL Ls (k + 1) = cutL Ls k + m1 ∧ cutL Ls (k + 1) ≤ S ∧ Ls[k]? = some a) := ⟨by rw [cutL_succ ha, hl1], by rw [← HN.out.2.2.1, ← HN.out.2.1]; exact cutL_le Ls (k + 1), ha⟩
          have hsum : A + m1 ≤ S := by have := HC.out; have := HA.out; omega
          have t0 := z1 0 _ rfl
          simp only [Nat.mul_one, Nat.add_zero] at t0
          have HA2 : Hd (A + m1 = cutL Ls (k + 1)) := ⟨by have := HC.out.1; have := HA.out; omega⟩
          have HSp : Hd (splice (fillS L (⟨⟨#[]⟩, 0, [], 0, [], 0, false⟩ : RowD) A) A a = fillS L (⟨⟨#[]⟩, 0, [], 0, [], 0, false⟩ : RowD) (A + m1)) := ⟨by rw [HA2.out, HA.out, ← HN.out.2.1]; exact splice_cut _ HC.out.2.2⟩
          obtain ⟨F, hO, hF, hB⟩ := HK.out
          have HO : Hd (OwS 7 84 (OwOn RcRow w) wr [(.slice (some ⟨w.heap.size, 0, none⟩) S S)] F (fillS L (⟨⟨#[]⟩, 0, [], 0, [], 0, false⟩ : RowD) A)) := ⟨hO⟩
          have HB : Hd ((∀ x, F x → w.heap.size ≤ x) ∧ Below w.heap.size w wr) := ⟨hF, hB⟩
          have HS2 : Hd (RdS 7 RcRow w [.slice x1 m1 d1] a) := ⟨HSrc⟩
          have t0 := cell_below t0 hB
          clear HSrc z1 ha HA HC hl1 hO hF hB HK
          have hA0 : (0 : Int) ≤ (A : Int) := by omega
          by_cases hAS : A < S
          · have hAi : (A : Int) < (S : Int) := by omega
            go_wp2_with (refine wpList_copy_on (R := RcRow) (n := 7) (wB := w) (ls2 := a) (k := A) (sLen := m1) rfl rcRow_one (.tmp 34) (.tmp 35) 40 40 rfl Try.underlying40 rowInfo7 rfl rfl HO.out HB.out.2 HS2.out (by omega) (by omega) (fun h => by first | rfl | simp | omega) ?_)
            intro w2 hO2 hC2
            have HNX : Hd (∃ F, OwS 7 84 (OwOn RcRow w) w2 [(.slice (some ⟨w.heap.size, 0, none⟩) S S)] F (fillS L (⟨⟨#[]⟩, 0, [], 0, [], 0, false⟩ : RowD) (A + m1)) ∧ (∀ x, F x → w.heap.size ≤ x) ∧ Below w.heap.size w w2) := ⟨F, by rw [← HSp.out]; exact hO2, HB.out.1, HB.out.2.trans (hC2.below (fun x hx => by rw [hx]; exact Nat.le_refl _) HB.out.2.size)⟩
            clear hO2 hC2 HO HB HS2 HSp t0
            go_wp2_with fail
            go_roundw
            case rel => exact ⟨k + 1, A + m1, by omega, by go_num, by go_num, HA2, HNX⟩
            case measure => simp [intOf]; omega
          · obtain rfl : S = A := by omega
            go_wp2_with (refine wpList_copy_on (R := RcRow) (n := 7) (wB := w) (ls2 := a) (k := S) (sLen := m1) rfl rcRow_one (.tmp 34) (.tmp 35) 40 40 rfl Try.underlying40 rowInfo7 rfl rfl HO.out HB.out.2 HS2.out (by omega) (by omega) (fun h => absurd h (by omega)) ?_)
            intro w2 hO2 hC2
            have HNX : Hd (∃ F, OwS 7 84 (OwOn RcRow w) w2 [(.slice (some ⟨w.heap.size, 0, none⟩) S S)] F (fillS L (⟨⟨#[]⟩, 0, [], 0, [], 0, false⟩ : RowD) (S + m1)) ∧ (∀ x, F x → w.heap.size ≤ x) ∧ Below w.heap.size w w2) := ⟨F, by rw [← HSp.out]; exact hO2, HB.out.1, HB.out.2.trans (hC2.below (fun x hx => by rw [hx]; exact Nat.le_refl _) HB.out.2.size)⟩
            clear hO2 hC2 HO HB HS2 HSp t0
            go_wp2_with fail
            go_roundw
            case rel => exact ⟨k + 1, S + m1, by omega, by go_num, by go_num, HA2, HNX⟩
            case measure => simp [intOf]; omega
        · obtain rfl : S = A := by rw [HA.out, cutL_all Ls (by rw [HN.out.1]; omega), HN.out.2.1, HN.out.2.2.1]
          have hlt' : ¬ (k : Int) < (len : Int) := by omega
          have HW : Hd (∃ F, OwS 7 84 (OwEi OwRow RcRow w) wr [(.slice (some ⟨w.heap.size, 0, none⟩) S S)] F (mixT L 0) ∧ (∀ x, F x → w.heap.size ≤ x) ∧ Below w.heap.size w wr) := ⟨by
            obtain ⟨F, hO, hF, hB⟩ := HK.out
            rw [← HN.out.2.2.1, fillS_all, HN.out.2.2.1] at hO
            exact ⟨F, by rw [mixT_zero]; exact owEi_in hO, hF, hB⟩⟩
          clear HA hlt hk HK
          go_wp2_with fail
          obtain ⟨W1, hW1⟩ : ∃ W, W = wr := ⟨_, rfl⟩
          subst hW1
          go_loopw [41] (fun i wr => ∃ k : Nat, k ≤ S ∧ i = .int .i64 k ∧ Hd (∃ F, OwS 7 84 (OwEi OwRow RcRow w) wr [(.slice (some ⟨w.heap.size, 0, none⟩) S S)] F (mixT L k) ∧ (∀ x, F x → w.heap.size ≤ x) ∧ Below w.heap.size w wr)) (fun i _ => S - (intOf i).toNat)
          case atStart => exact ⟨0, Nat.zero_le _, rfl, HW⟩
          case round =>
            obtain ⟨k, hk, rfl, HK⟩ := hrel
            clear HW
            by_cases hlt : k < S
            · have hlt' : (k : Int) < (S : Int) := by omega
              have h0 : (0 : Int) ≤ (k : Int) := by omega
              obtain ⟨a, ha⟩ := get_some (l := L) (j := k) (by rw [HN.out.2.2.1]; exact hlt)
              obtain ⟨F, hO, hF, hB⟩ := HK.out
              obtain ⟨c, p, hp, hcn, hcell, hfree, hFg, G, hE, hG⟩ := owS_at hO hlt
              rw [mixT_get ha] at hp
              simp only [Option.some.injEq] at hp
              subst hp
              have hR := (hE.2 rfl).2
              have HA : Hd (L[k]? = some a ∧ wtRow a ≤ 1073741824) := ⟨ha, by have h7 := wtS_le wtRow ha; have := HN.out.2.2.2; omega⟩
              have HO : Hd (OwS 7 84 (OwEi OwRow RcRow w) wr [(.slice (some ⟨w.heap.size, 0, none⟩) S S)] F (mixT L k) ∧ (∀ x, F x → w.heap.size ≤ x) ∧ Below w.heap.size w wr) := ⟨hO, hF, hB⟩
              obtain ⟨l0, l1, l2, l3, l4, l5, l6⟩ := a
              have hR0 := hR
              simp only [RcRow] at hR0
              obtain ⟨x2, m2, d2, x4, m4, d4, rfl, _⟩ := hR0
              have HR : Hd (RcRow w [.string l0, .int .i64 l1, .slice x2 m2 d2, .int .i64 l3, .slice x4 m4 d4, .int .i64 l5, .bool l6] (⟨l0, l1, l2, l3, l4, l5, l6⟩ : RowD)) := ⟨hR⟩
              have t0 := hcell 0 _ rfl
              have t1 := hcell 1 _ rfl
              have t2 := hcell 2 _ rfl
              have t3 := hcell 3 _ rfl
              have t4 := hcell 4 _ rfl
              have t5 := hcell 5 _ rfl
              have t6 := hcell 6 _ rfl
              simp only [Nat.add_zero] at t0
              clear hR hcell hcn ha hO hF hB hfree hFg hE hG HK
              go_wp2_with fail
              refine (implCopyRow_rd _ (⟨l0, l1, l2, l3, l4, l5, l6⟩ : RowD) _ (rcRow_w (rcRow_ok.below (rcRow_ok.below HR.out HO.out.2.2) (below_lit _ _))) HA.out.2).mono ?_
              rintro e w1 ⟨⟨cs1, rfl, G1, hE, hG⟩, hb⟩
              have HB : Hd (Below wr.heap.size wr w1) := ⟨Below.next (below_lit wr _) hb⟩
              have hG2 : ∀ x, G1 x → wr.heap.size ≤ x := fun x hx => by have := hG x hx; simp at this; omega
              have HE : Hd (OwRow w1 cs1 G1 (⟨l0, l1, l2, l3, l4, l5, l6⟩ : RowD) ∧ ∀ x, G1 x → wr.heap.size ≤ x) := ⟨hE, hG2⟩
              have hE0 := hE
              simp only [OwRow] at hE0
              obtain ⟨y2, n2, e2, y4, n4, e4, _, _, rfl, hz7⟩ := hE0
              have q0 := cell_below t0 HB.out
              have q1 := cell_below t1 HB.out
              have q2 := cell_below t2 HB.out
              have q3 := cell_below t3 HB.out
              have q4 := cell_below t4 HB.out
              have q5 := cell_below t5 HB.out
              have q6 := cell_below t6 HB.out
              obtain ⟨hf, hFg⟩ : (∀ j, w1.frozen? ⟨w.heap.size, j, none⟩ = false) ∧ w.heap.size < wr.heap.size := by
                obtain ⟨_, _, _, _, _, hfree, hFg, _⟩ := owS_at HO.out.1 hlt
                have hlt9 := (owEi_ok owRow_ok rcRow_ok w |> owS_ok).lt HO.out.1 _ hFg
                exact ⟨fun j => by
                  have h7 := HB.out.block w.heap.size hlt9
                  have h8 := hfree j
                  simp only [World.frozen?] at h8 ⊢
                  rw [h7]; exact h8, hlt9⟩
              have f0 := hf (k * 7)
              have f1 := hf (k * 7 + 1)
              have f2 := hf (k * 7 + 2)
              have f3 := hf (k * 7 + 3)
              have f4 := hf (k * 7 + 4)
              have f5 := hf (k * 7 + 5)
              have f6 := hf (k * 7 + 6)
              have HX : Hd (∃ F, OwS 7 84 (OwEi OwRow RcRow w) (((((((w1.setCell ⟨w.heap.size, k * 7, none⟩ (.string l0)).setCell ⟨w.heap.size, k * 7 + 1, none⟩ (.int .i64 l1)).setCell ⟨w.heap.size, k * 7 + 2, none⟩ (.slice y2 n2 e2)).setCell ⟨w.heap.size, k * 7 + 3, none⟩ (.int .i64 l3)).setCell ⟨w.heap.size, k * 7 + 4, none⟩ (.slice y4 n4 e4)).setCell ⟨w.heap.size, k * 7 + 5, none⟩ (.int .i64 l5)).setCell ⟨w.heap.size, k * 7 + 6, none⟩ (.bool l6)) [(.slice (some ⟨w.heap.size, 0, none⟩) S S)] F (mixT L (k + 1)) ∧ (∀ x, F x → w.heap.size ≤ x) ∧ Below w.heap.size w (((((((w1.setCell ⟨w.heap.size, k * 7, none⟩ (.string l0)).setCell ⟨w.heap.size, k * 7 + 1, none⟩ (.int .i64 l1)).setCell ⟨w.heap.size, k * 7 + 2, none⟩ (.slice y2 n2 e2)).setCell ⟨w.heap.size, k * 7 + 3, none⟩ (.int .i64 l3)).setCell ⟨w.heap.size, k * 7 + 4, none⟩ (.slice y4 n4 e4)).setCell ⟨w.heap.size, k * 7 + 5, none⟩ (.int .i64 l5)).setCell ⟨w.heap.size, k * 7 + 6, none⟩ (.bool l6))) := ⟨by
                have h7 := owS_put (owEi_ok owRow_ok rcRow_ok w) (w1 := w1) (c' := [.string l0, .int .i64 l1, .slice y2 n2 e2, .int .i64 l3, .slice y4 n4 e4, .int .i64 l5, .bool l6]) (a' := (true, (⟨l0, l1, l2, l3, l4, l5, l6⟩ : RowD))) HO.out.1 hlt rfl (Chg.of_below HB.out) ⟨fun _ => HE.out.1, fun e => (by cases e)⟩ HE.out.2
                rw [mixT_set HA.out.1] at h7
                refine ⟨_, h7, fun x hx => hx.elim (HO.out.2.1 x) (fun h => by have := HE.out.2 x h; omega), ?_⟩
                exact (Below.trans HO.out.2.2 (HB.out.mono (by omega))).trans ((setRow_chg w.heap.size (F := fun x => x = w.heap.size) rfl [.string l0, .int .i64 l1, .slice y2 n2 e2, .int .i64 l3, .slice y4 n4 e4, .int .i64 l5, .bool l6] w1 (k * 7)).below (fun x hx => by rw [hx]; exact Nat.le_refl _) (by have := HB.out.size; omega))⟩
              clear hE hG hb HB hG2 HE hz7 hf hFg HO HA HR t0 t1 t2 t3 t4 t5 t6
              go_wp2_with fail
              go_roundw
              case rel => exact ⟨k + 1, by omega, by go_num, HX⟩
              case measure => simp [intOf]; omega
            · have HF : Hd (AnsSl OwRowS L w (.returned (.slice (some ⟨w.heap.size, 0, none⟩) S S)) wr) := ⟨by
                obtain ⟨F, hO, hF, hB⟩ := HK.out
                have e : k = L.length := by have := HN.out.2.2.1; omega
                rw [e, mixT_all] at hO
                exact ⟨⟨_, _, _, rfl, F, owEi_out hO, hF⟩, hB⟩⟩
              clear HK
              go_wp2_with fail
              go_ret
              exact HF.out

end Go.Proofs.Ytlididoalekeoaa
/- slices.Clone of a list of marks. -/
namespace Go.Proofs.Ytlididoalekeoaa
set_option maxRecDepth 4000
open Go.RowKit

theorem infoMarkE : (Try.prog.info? 89).map (fun i => (i.zero, i.size, i.bytes)) = some (some (.agg #[.int .i64 0, .int .i64 0, .int .i64 0]), 3, 24) := by kernel_rfl
/-- A list's cells, element by element. -/
theorem rdS_cells {α : Type} {n : Nat} {R : Rd α} {w : World} {a : Addr} {len cap : Nat} {ls : List α} (h : RdS n R w [.slice (some a) len cap] ls) : ∃ css : List (List Value), css.length = ls.length ∧ (∀ c ∈ css, c.length = n) ∧ (∀ (j : Nat) c x, css[j]? = some c → ls[j]? = some x → R w c x) ∧ css.flatten.length = len * n ∧ ∀ j v, css.flatten[j]? = some v → w.cell? (a.add j) = some v := by
  obtain ⟨_, _, _, e, _, hl, h2⟩ := h
  simp only [List.cons.injEq, Value.slice.injEq, and_true] at e
  obtain ⟨rfl, rfl, rfl⟩ := e
  rcases h2 with rfl | ⟨b, off, e, h2⟩
  · simp only [List.length_nil] at hl
    subst hl
    exact ⟨[], rfl, fun _ h => (by cases h), fun _ _ _ h => (by simp at h), by simp, fun _ _ h => (by simp at h)⟩
  · simp only [Option.some.injEq] at e
    subst e
    obtain ⟨css, hc, hp⟩ := list_pick9 ls (fun j x c => c.length = n ∧ R w c x ∧ ∀ i v, c[i]? = some v → w.cell? ⟨b, off + j * n + i, none⟩ = some v) h2
    have hll : ∀ c ∈ css, c.length = n := fun c hcm => by
      obtain ⟨j, hj⟩ := List.getElem?_of_mem hcm
      obtain ⟨x, hx⟩ := get_some (l := ls) (j := j) (by rw [← hc]; exact get_lt hj)
      exact (hp j x c hx hj).1
    have hfl : css.flatten.length = len * n := by rw [flat_len hll, hc, hl]
    refine ⟨css, hc, hll, fun j c x h1 h2 => (hp j x c h2 h1).2.1, hfl, fun j v hv => ?_⟩
    rw [Addr.add_lit]
    have hj := get_lt hv
    rw [hfl] at hj
    have hn : 0 < n := by
      rcases Nat.eq_zero_or_pos n with h | h
      · rw [h] at hj; omega
      · exact h
    have hq : j / n < css.length := by rw [hc, hl]; exact Nat.div_lt_of_lt_mul (by rw [Nat.mul_comm]; exact hj)
    obtain ⟨c, hcc⟩ := get_some hq
    obtain ⟨x, hx⟩ := get_some (l := ls) (j := j / n) (by rw [← hc]; exact hq)
    have hdm : j / n * n + j % n = j := by rw [Nat.mul_comm]; exact Nat.div_add_mod j n
    have hv2 : c[j % n]? = some v := by rw [← flat_get hll hcc (Nat.mod_lt j hn), hdm]; exact hv
    have h7 := (hp _ x c hx hcc).2.2 _ v hv2
    rw [Nat.add_assoc, hdm] at h7
    exact h7

set_option maxHeartbeats 1000000 in
theorem cloneMarks_ow (ao : Option Addr) (len cap : Nat) (ls : List MarkD) (w : World) (h : RcMarkS w [.slice ao len cap] ls) (hw : ls.length ≤ 1073741824) :
    Calls Try.prog 97 #[.slice ao len cap] w (AnsSl OwMarkS ls w) := by
  have hl : len ≤ 1073741824 := by rw [← (rdS_len h).1]; exact hw
  obtain ⟨i0, hi, hz0, hz1, hz2⟩ := info_parts infoMarkE
  have q : ∀ (w : World) (a : Option Addr) (n c n' c' : Nat), (binOp .eql 41 (.slice a n c) (.slice none n' c')).run Try.prog w = .ok (.bool a.isNone) w := fun w a n c n' c' => Lib.run_eql_slice_nil w _ _ a n c n' c' Try.underlying41
  have HR : Hd (RcMarkS w [.slice ao len cap] ls) := ⟨h⟩
  clear h hw
  cases ao with
  | none =>
    obtain ⟨_, _, _, e, _, hl2, h2⟩ := HR.out
    simp only [List.cons.injEq, Value.slice.injEq, and_true] at e
    obtain ⟨rfl, rfl, rfl⟩ := e
    obtain rfl : ls = [] := by
      rcases h2 with h | ⟨_, _, e, _⟩
      · exact h
      · cases e
    simp only [List.length_nil] at hl2
    subst hl2
    clear HR
    go_enter Try.func97, Try.ntmps97
    go_wp2
    go_ret
    exact ⟨⟨none, 0, 0, rfl, fun _ => False, owS_nil w _ _ _, fun _ h => False.elim h⟩, Below.refl _ w⟩
  | some a =>
    obtain ⟨css, hc, hn, hR, hfl, hcell⟩ := rdS_cells HR.out
    obtain ⟨news, hnews⟩ : ∃ x, css.flatten = x := ⟨_, rfl⟩
    have HQ : Hd (css.flatten = news ∧ css.length = ls.length ∧ (∀ c ∈ css, c.length = 3) ∧ (∀ (j : Nat) c x, css[j]? = some c → ls[j]? = some x → RcMark w c x) ∧ ls.length = len) := ⟨hnews, hc, hn, hR, (rdS_len HR.out).1⟩
    rw [hnews] at hcell hfl
    have HN : Hd (∀ j u, news[j]? = some u → (w.alloc (.cells #[] 89)).cell? (a.add j) = some u) := ⟨fun j u hu => cell_below (hcell j u hu) (below_lit w _)⟩
    have HL : Hd (news.length = len * 3) := ⟨hfl⟩
    have H1 : Hd (∀ u ∈ news, u.oneCell' = true) := ⟨fun u hu => by
      rw [← hnews] at hu
      obtain ⟨c, hcm, hvc⟩ := List.mem_flatten.1 hu
      obtain ⟨j, hj⟩ := List.getElem?_of_mem hcm
      obtain ⟨x, hx⟩ := get_some (l := ls) (j := j) (by rw [← hc]; exact get_lt hj)
      have h7 := hR j c x hj hx
      simp only [RcMark] at h7
      subst h7
      simp only [List.mem_cons, List.not_mem_nil, or_false] at hvc
      rcases hvc with rfl | rfl | rfl <;> rfl⟩
    clear HR hc hn hR hfl hcell hnews
    go_enter Try.func97, Try.ntmps97
    go_wp2_with (at_builtin; refine wpList_append_own _ rfl (.tmp 5) (.tmp 6) 41 rfl w.heap.size 89 i0 (.agg #[.int .i64 0, .int .i64 0, .int .i64 0]) 3 24 Try.underlying41 hi hz0 hz1 hz2 rfl (by decide) _ 0 [] rfl ?hown a len cap news rfl ?hl ?hn ?h1 ?h63 ?hby ?hbase ?_)
    case hown => exact World.ownsRow_made w #[] 0 (Nat.le_refl _) (by unfold maxLen; omega) rfl
    case hl => exact HL.out
    case hn => exact HN.out
    case h1 => exact H1.out
    case h63 => unfold maxLen; omega
    case hby => omega
    case hbase => simp
    intro v1 w1 hown1 hgr1 hne1
    have HB : Hd (Below w.heap.size w w1) := ⟨((Below.refl _ w).alloc (Nat.le_refl _) _).grown hgr1 (by simp) (fun k h => by simp [Value.ownBlock] at h; omega)⟩
    obtain ⟨ao, c, hv, hh⟩ := ownsRow_form hown1
    have HO : Hd (∃ F : Fp, OwMarkS w1 [.slice ao len c] F ls ∧ ∀ x, F x → w.heap.size ≤ x) := ⟨by
      have hv2 : v1 = .slice ao len c := hv
      subst hv2
      refine ⟨fun x => (Value.slice ao len c).ownBlock = some x, ⟨_, css, fun _ _ => False, rfl, ?_⟩, fun x hx => (hown1.lt x hx).1⟩
      exact {
        own := by rw [HQ.out.1, HQ.out.2.2.2.2]; exact ownsRow_base hown1 (Nat.zero_le _)
        size := HQ.out.2.1
        lens := HQ.out.2.2.1
        lt := fun x hx => (hown1.lt x hx).2
        blk := fun x hx => hx
        sub := fun _ _ _ h => h.elim
        apart := fun _ _ _ _ _ _ h => h.elim
        els := fun j c' x h1 h2 => ⟨HQ.out.2.2.2.1 j c' x h1 h2, fun _ h => h⟩ }⟩
    subst hv
    clear hown1 hgr1 hne1 hh HN HL H1 HQ
    go_wp2
    go_ret
    exact ⟨⟨ao, len, c, rfl, HO.out⟩, HB.out⟩

end Go.Proofs.Ytlididoalekeoaa
/- copyTab of the program. -/
namespace Go.Proofs.Ytlididoalekeoaa
set_option maxRecDepth 4000
open Go.RowKit

structure TBoxes (w : World) (c0 c1 c2 : Value) (w' : World) : Prop where
  box : w'.heap[w.heap.size]? = some (.cells #[c0, c1, c2] 43 (0, 0))
  res : w'.heap[w.heap.size + 1]? = some (.cells #[.slice none 0 0, .int .i64 0, .slice none 0 0] 43 (0, 0))
  bel : Below w.heap.size w w'
theorem TBoxes.below {w w1 w2 : World} {c0 c1 c2 : Value} (h : TBoxes w c0 c1 c2 w1) (hb : Below w1.heap.size w1 w2) : TBoxes w c0 c1 c2 w2 :=
  ⟨(hb.block _ (lt_of_block h.box)).trans h.box, (hb.block _ (lt_of_block h.res)).trans h.res, Below.next h.bel hb⟩
abbrev Cells3T (b : Nat) (c0 c1 c2 : Value) (w' : World) : Prop := w'.cell? ⟨b, 0, none⟩ = some c0 ∧ w'.cell? ⟨b, 1, none⟩ = some c1 ∧ w'.cell? ⟨b, 2, none⟩ = some c2
theorem TBoxes.cells {w w1 : World} {c0 c1 c2 : Value} (h : TBoxes w c0 c1 c2 w1) : Cells3T w.heap.size c0 c1 c2 w1 := by
  obtain ⟨h0, h1, h2, _⟩ := cells3 w1 _ _ _ _ _ h.box
  exact ⟨h0, h1, h2⟩
theorem Cells3T.set {b q j : Nat} {c0 c1 c2 v : Value} {w' : World} (h : Cells3T b c0 c1 c2 w') (hq : b ≠ q) : Cells3T b c0 c1 c2 (w'.setCell ⟨q, j, none⟩ v) :=
  ⟨cell_set h.1 hq, cell_set h.2.1 hq, cell_set h.2.2 hq⟩
theorem lists_one {w : World} {g : Nat} {x : Value} {T : TypeId} {l : List RowD} {fr : Nat × Nat} (hg : w.heap[g]? = some (.cells #[x] T fr)) (h : RcRowS w [x] l) : RdS 1 RcRowS w [.slice (some ⟨g, 0, none⟩) 1 1] [l] :=
  ⟨_, _, _, rfl, by unfold maxLen; omega, rfl, .inr ⟨g, 0, rfl, fun j a ha => by
    rcases j with _ | j
    · simp only [List.getElem?_cons_zero, Option.some.injEq] at ha
      subst ha
      exact ⟨[x], rfl, h, fun i v hv => by
        rcases i with _ | i
        · simp only [List.getElem?_cons_zero, Option.some.injEq] at hv
          subst hv
          show w.cell? ⟨g, 0, none⟩ = some x
          rw [cell_of_row w g 0 _ _ _ hg]; rfl
        · simp at hv⟩
    · simp at ha⟩⟩

set_option maxHeartbeats 4000000 in
theorem implCopyTab_ow (cs : List Value) (a : TabD) (w : World) (h : RcTab w cs a) (hw : wtTab a ≤ 1073741824) :
    Calls Try.prog 70 #[.agg cs.toArray] w (AnsAgg OwTab a w) := by
  obtain ⟨l0, l1, l2⟩ := a
  simp only [RcTab] at h
  obtain ⟨x0, m0, d0, x2, m2, d2, rfl, r0, r2⟩ := h
  unfold wtTab at hw
  dsimp only at hw
  have R0 : Hd (RcRowS w [.slice x0 m0 d0] l0 ∧ wtRowS [l0].flatten ≤ 1073741824) := ⟨r0, by simp; omega⟩
  have R2 : Hd (RcMarkS w [.slice x2 m2 d2] l2 ∧ l2.length ≤ 1073741824) := ⟨r2, by have h1 := wtS_len wtMark l2; have h2 : wtMarkS l2 = wtS wtMark l2 := rfl; omega⟩
  clear hw r0 r2
  have F0 : Hd (TBoxes w (.slice x0 m0 d0) (.int .i64 l1) (.slice x2 m2 d2) ((w.alloc (.cells #[.slice x0 m0 d0, .int .i64 l1, .slice x2 m2 d2] 43)).alloc (.cells #[.slice none 0 0, .int .i64 0, .slice none 0 0] 43))) := ⟨by
    obtain ⟨k1, k2⟩ := laid2 w (.cells #[Value.slice x0 m0 d0, Value.int IntKind.i64 l1, Value.slice x2 m2 d2] 43) (.cells #[.slice none 0 0, .int .i64 0, .slice none 0 0] 43)
    exact ⟨k1, k2, below_lit2 w _ _⟩⟩
  go_enter Try.func70, Try.ntmps70
  go_wp2_with fail
  generalize (w.alloc (.cells #[.slice x0 m0 d0, .int .i64 l1, .slice x2 m2 d2] 43)).alloc (.cells #[.slice none 0 0, .int .i64 0, .slice none 0 0] 43) = W at F0 ⊢
  have KK : Hd (∀ w', Below W.heap.size W w' → Cells3T w.heap.size (.slice x0 m0 d0) (.int .i64 l1) (.slice x2 m2 d2) w') := ⟨fun w' hb => (F0.out.below hb).cells⟩
  have KD : Hd (Below W.heap.size W W.drew) := ⟨(Below.refl _ W).drew⟩
  have KV : Hd (Below W.heap.size W (W.alloc (.cells #[.slice x0 m0 d0] 40)).drew) := ⟨(below_lit W _).drew⟩
  have HV : Hd ((W.alloc (.cells #[.slice x0 m0 d0] 40)).drew.heap[W.heap.size]? = some (.cells #[.slice x0 m0 d0] 40 (0, 0))) := ⟨heap_alloc_new W _⟩
  have HFl : Hd (([l0] : List (List RowD)).flatten = l0) := ⟨by simp⟩
  obtain ⟨p0, p1, p2⟩ := KK.out _ (Below.refl _ W)
  go_region_held (fun w' => w'.cell? ⟨w.heap.size, 0, none⟩ = some (.slice x0 m0 d0) ∧ w'.cell? ⟨w.heap.size, 1, none⟩ = some (.int .i64 l1) ∧ w'.cell? ⟨w.heap.size, 2, none⟩ = some (.slice x2 m2 d2)) (first | (with_reducible refine Cells3T.set (Cells3T.set (Cells3T.set (KK.out _ D2.out) ?_) ?_) ?_ <;> omega) | (with_reducible exact KK.out _ D2.out) | (with_reducible exact KK.out _ D1.out) | (with_reducible exact KK.out _ KD.out) | (with_reducible exact KK.out _ (Below.next KD.out (below_lit _ _))))
    (first | (have G1 := D1; clear G1; go_at_call 97; refine (cloneMarks_ow x2 m2 d2 l2 _ (rcMarkS_ok.below R2.out.1 (Below.next F0.out.bel D1.out)) R2.out.2).mono ?_; rintro e v2 ⟨⟨y2, n2, b2, rfl, F3, hE2, hG2⟩, hB⟩; have D2 : Hd (Below W.heap.size W v2) := (⟨Below.next D1.out hB⟩); have F2 : Hd (TBoxes w (.slice x0 m0 d0) (.int .i64 l1) (.slice x2 m2 d2) v2) := (⟨F0.out.below D2.out⟩); have O2 : Hd ((OwRowS v2 [.slice y0 n0 b0] F1 l0 ∧ ∀ x, F1 x → w.heap.size + 2 ≤ x) ∧ (OwMarkS v2 [.slice y2 n2 b2] F3 l2 ∧ ∀ x, F3 x → w.heap.size + 2 ≤ x) ∧ ∀ x, F1 x → ¬ F3 x) := (⟨⟨owRowS_ok.below O1.out.1 hB, O1.out.2⟩, ⟨hE2, fun x hx => by have := hG2 x hx; have := lt_of_block F0.out.res; have := D1.out.size; omega⟩, fun x hx hy => by have := owRowS_ok.lt O1.out.1 x hx; have := hG2 x hy; omega⟩); obtain ⟨q0, q1, q2, u0, u1, u2⟩ := cells3 v2 (w.heap.size + 1) _ _ _ _ F2.out.res; clear hE2 hG2 hB) | (go_at_call 96; refine (joinRows_ow (some ⟨W.heap.size, 0, none⟩) 1 1 [l0] _ (lists_one (g := W.heap.size) (T := 40) (fr := (0, 0)) HV.out (rcRowS_ok.below R0.out.1 (Below.next F0.out.bel KV.out))) (by omega) R0.out.2).mono ?_; rintro e v1 ⟨⟨y0, n0, b0, rfl, F1, hE1, hG1⟩, hB⟩; have D1 : Hd (Below W.heap.size W v1) := (⟨Below.next KV.out hB⟩); have O1 : Hd (OwRowS v1 [.slice y0 n0 b0] F1 l0 ∧ ∀ x, F1 x → w.heap.size + 2 ≤ x) := (⟨by rw [HFl.out] at hE1; exact hE1, fun x hx => by have h9 := hG1 x hx; have h8 := KV.out.size; have := lt_of_block F0.out.res; omega⟩); clear hE1 hG1 hB))
  all_goals
    have n1 : ¬ F1 (w.heap.size + 1) := fun h => by have := O2.out.1.2 _ h; omega
    have n3 : ¬ F3 (w.heap.size + 1) := fun h => by have := O2.out.2.1.2 _ h; omega
    go_wp2_with fail
    refine bodyPost_ret (results_cell_row rfl _ _ (w.heap.size + 1) _ _ (0, 0) _ rfl (set3 _ _ _ F2.out.res) Try.underlying43 rfl (by kernel_rfl)) rfl ?_
    refine ⟨⟨[.slice y0 n0 b0, .int .i64 l1, .slice y2 n2 b2], rfl, fun x => F1 x ∨ F3 x, ⟨y0, n0, b0, y2, n2, b2, F1, F3, rfl, owRowS_ok.keep O2.out.1.1 (fun b hb => block_set (block_set (block_set rfl (fun e => n1 (e ▸ hb))) (fun e => n1 (e ▸ hb))) (fun e => n1 (e ▸ hb))), owMarkS_ok.keep O2.out.2.1.1 (fun b hb => block_set (block_set (block_set rfl (fun e => n3 (e ▸ hb))) (fun e => n3 (e ▸ hb))) (fun e => n3 (e ▸ hb))), O2.out.2.2, fun x => Iff.rfl⟩, fun x hx => ?_⟩, bset (bset (bset F2.out.bel _ (by omega)) _ (by omega)) _ (by omega)⟩
    rcases hx with hx | hx
    · have := O2.out.1.2 x hx; omega
    · have := O2.out.2.1.2 x hx; omega

end Go.Proofs.Ytlididoalekeoaa
/- The parts of a Tab as records. -/
namespace Go.Proofs.Ytlididoalekeoaa
set_option maxRecDepth 4000
open Go.RowKit

def phaseR (p : Int) : RecD := ⟨3, ⟨⟨#[]⟩, 0, [], 0, [], 0, false⟩, ⟨#[]⟩, p, 0, 0, 0⟩
def rowR (r : RowD) : RecD := ⟨1, r, ⟨#[]⟩, 0, 0, 0, 0⟩
def markR (m : MarkD) : RecD := ⟨4, ⟨⟨#[]⟩, 0, [], 0, [], 0, false⟩, ⟨#[]⟩, 0, m.who, m.seq, m.code⟩
def partsL (t : TabD) : List RecD := phaseR t.phase :: (t.rows.map rowR ++ t.marks.map markR)

end Go.Proofs.Ytlididoalekeoaa
/- What the laws do with a Rec. -/
namespace Go.Proofs.Ytlididoalekeoaa
set_option maxRecDepth 4000
open Go.RowKit

def RdRec : Rd RecD := fun w cs a => ∃ (x3 : Option Addr) (m3 d3 : Nat) (x5 : Option Addr) (m5 d5 : Nat), cs = [.int .i64 a.kind, .string a.r.key, .int .i64 a.r.t1, .slice x3 m3 d3, .int .i64 a.r.t2, .slice x5 m5 d5, .int .i64 a.r.has, .bool a.r.aside, .string a.key, .int .i64 a.n, .int .i64 a.who, .int .i64 a.seq, .int .i64 a.code] ∧ a.key.size ≤ maxLen ∧ RdRow w [.string a.r.key, .int .i64 a.r.t1, .slice x3 m3 d3, .int .i64 a.r.t2, .slice x5 m5 d5, .int .i64 a.r.has, .bool a.r.aside] (a.r)
def RcRec : Rd RecD := fun w cs a => ∃ (x3 : Option Addr) (m3 d3 : Nat) (x5 : Option Addr) (m5 d5 : Nat), cs = [.int .i64 a.kind, .string a.r.key, .int .i64 a.r.t1, .slice x3 m3 d3, .int .i64 a.r.t2, .slice x5 m5 d5, .int .i64 a.r.has, .bool a.r.aside, .string a.key, .int .i64 a.n, .int .i64 a.who, .int .i64 a.seq, .int .i64 a.code] ∧ a.key.size ≤ maxLen ∧ RcRow w [.string a.r.key, .int .i64 a.r.t1, .slice x3 m3 d3, .int .i64 a.r.t2, .slice x5 m5 d5, .int .i64 a.r.has, .bool a.r.aside] (a.r)
def OwRec : Ow RecD := fun w cs F a => ∃ (x3 : Option Addr) (m3 d3 : Nat) (x5 : Option Addr) (m5 d5 : Nat) (F1 : Fp), cs = [.int .i64 a.kind, .string a.r.key, .int .i64 a.r.t1, .slice x3 m3 d3, .int .i64 a.r.t2, .slice x5 m5 d5, .int .i64 a.r.has, .bool a.r.aside, .string a.key, .int .i64 a.n, .int .i64 a.who, .int .i64 a.seq, .int .i64 a.code] ∧ a.key.size ≤ maxLen ∧ OwRow w [.string a.r.key, .int .i64 a.r.t1, .slice x3 m3 d3, .int .i64 a.r.t2, .slice x5 m5 d5, .int .i64 a.r.has, .bool a.r.aside] F1 (a.r) ∧ (∀ x, F x ↔ F1 x)
theorem rdRec_ok : RdOk 13 RdRec := ⟨fun ⟨_, _, _, _, _, _, e, _⟩ => by rw [e]; rfl, fun ⟨x3, m3, d3, x5, m5, d5, e, z8, r1⟩ hs => ⟨x3, m3, d3, x5, m5, d5, e, z8, rdRow_ok.keep r1 hs⟩⟩
theorem rcRec_ok : RdOk 13 RcRec := ⟨fun ⟨_, _, _, _, _, _, e, _⟩ => by rw [e]; rfl, fun ⟨x3, m3, d3, x5, m5, d5, e, z8, r1⟩ hs => ⟨x3, m3, d3, x5, m5, d5, e, z8, rcRow_ok.keep r1 hs⟩⟩
theorem rcRec_w {w : World} {cs : List Value} {a : RecD} (h : RcRec w cs a) : RdRec w cs a := by
  obtain ⟨x3, m3, d3, x5, m5, d5, e, z8, r1⟩ := h
  exact ⟨x3, m3, d3, x5, m5, d5, e, z8, rcRow_w r1⟩
theorem owRec_ok : OwOk 13 OwRec RcRec where
  len := fun ⟨_, _, _, _, _, _, _, e, _⟩ => by rw [e]; rfl
  lt := fun {w _ F _} ⟨x3, m3, d3, x5, m5, d5, F1, e, _, r1, hF⟩ x hx => by
    exact owRow_ok.lt r1 x ((hF x).1 hx)
  keep := fun ⟨x3, m3, d3, x5, m5, d5, F1, e, z8, r1, hF⟩ hs => ⟨x3, m3, d3, x5, m5, d5, F1, e, z8, owRow_ok.keep r1 (fun b hb => hs b ((hF b).2 hb)), hF⟩
  rd := fun ⟨x3, m3, d3, x5, m5, d5, F1, e, z8, r1, _⟩ => ⟨x3, m3, d3, x5, m5, d5, e, z8, owRow_ok.rd r1⟩
theorem infoRec : (Try.prog.info? 86).map (·.size) = some 13 := by kernel_rfl
def wtRec (a : RecD) : Nat := wtRow (a.r) + a.key.size
def ctRec (a : RecD) : Nat := 1 + 1 + 1 + ctB (a.r.b1) + 1 + ctB (a.r.b2) + 1 + 1 + 1 + 1 + 1 + 1 + 1
def cuRec (a : RecD) : Nat := cuRow (a.r)
def mtRec (m : Nat) (a : RecD) : RecD := (⟨a.kind, (⟨a.r.key, a.r.t1, mkB (m) (a.r.b1), a.r.t2, mkB (m + ctB (a.r.b1)) (a.r.b2), a.r.has, a.r.aside⟩ : RowD), a.key, a.n, a.who, a.seq, a.code⟩ : RecD)

set_option maxHeartbeats 4000000 in
theorem eqRec_rd (c1 c2 : List Value) (a : RecD) (w : World) (h1 : RdRec w c1 a) (h2 : RdRec w c2 a) (hw : wtRec a ≤ 1073741824) :
    Calls Try.prog 71 #[.agg c1.toArray, .agg c2.toArray] w fun e w' => e = .returned (.bool true) ∧ Below w.heap.size w w' := by
  obtain ⟨l0, ⟨l1, l2, l3, l4, l5, l6, l7⟩, l8, l9, l10, l11, l12⟩ := a
  simp only [RdRec] at h1 h2
  obtain ⟨x3, m3, d3, x5, m5, d5, rfl, _, r1⟩ := h1
  obtain ⟨y3, n3, b3, y5, n5, b5, rfl, _, t1⟩ := h2
  unfold wtRec at hw
  dsimp only at hw
  have R1 : Hd (RdRow w [.string l1, .int .i64 l2, .slice x3 m3 d3, .int .i64 l4, .slice x5 m5 d5, .int .i64 l6, .bool l7] (⟨l1, l2, l3, l4, l5, l6, l7⟩ : RowD) ∧ RdRow w [.string l1, .int .i64 l2, .slice y3 n3 b3, .int .i64 l4, .slice y5 n5 b5, .int .i64 l6, .bool l7] (⟨l1, l2, l3, l4, l5, l6, l7⟩ : RowD) ∧ wtRow (⟨l1, l2, l3, l4, l5, l6, l7⟩ : RowD) ≤ 1073741824) := ⟨r1, t1, by omega⟩
  have f0 : (l0 != l0) = false := by simp
  have f8 : (l8.toList != l8.toList) = false := by simp
  have f9 : (l9 != l9) = false := by simp
  have f10 : (l10 != l10) = false := by simp
  have f11 : (l11 != l11) = false := by simp
  have f12 : (l12 != l12) = false := by simp
  clear hw r1 t1
  go_enter Try.func71, Try.ntmps71
  go_wp2_with fail
  generalize hA : Obj.cells #[Value.int .i64 l0, .string l1, .int .i64 l2, .slice x3 m3 d3, .int .i64 l4, .slice x5 m5 d5, .int .i64 l6, .bool l7, .string l8, .int .i64 l9, .int .i64 l10, .int .i64 l11, .int .i64 l12] 86 = A
  generalize hB : Obj.cells #[Value.int .i64 l0, .string l1, .int .i64 l2, .slice y3 n3 b3, .int .i64 l4, .slice y5 n5 b5, .int .i64 l6, .bool l7, .string l8, .int .i64 l9, .int .i64 l10, .int .i64 l11, .int .i64 l12] 86 = B
  have h0 : Below w.heap.size w ((w.alloc A).alloc B) := below_lit2 w A B
  refine (eqRow_rd _ _ (⟨l1, l2, l3, l4, l5, l6, l7⟩ : RowD) _ (rdRow_ok.below R1.out.1 h0) (rdRow_ok.below R1.out.2.1 h0) R1.out.2.2).mono ?_
  rintro e w1 ⟨rfl, hb⟩
  obtain ⟨k1, k2⟩ := laid2 w A B
  subst hA hB
  have K1 : Hd (w1.heap[w.heap.size]? = some (.cells #[Value.int .i64 l0, .string l1, .int .i64 l2, .slice x3 m3 d3, .int .i64 l4, .slice x5 m5 d5, .int .i64 l6, .bool l7, .string l8, .int .i64 l9, .int .i64 l10, .int .i64 l11, .int .i64 l12] 86 (0, 0))) := ⟨(hb.block _ (by simp; omega)).trans k1⟩
  have G1 : Hd (w1.heap[w.heap.size + 1]? = some (.cells #[Value.int .i64 l0, .string l1, .int .i64 l2, .slice y3 n3 b3, .int .i64 l4, .slice y5 n5 b5, .int .i64 l6, .bool l7, .string l8, .int .i64 l9, .int .i64 l10, .int .i64 l11, .int .i64 l12] 86 (0, 0))) := ⟨(hb.block _ (by simp)).trans k2⟩
  have B1 : Hd (Below w.heap.size w w1) := ⟨Below.next h0 hb⟩
  clear hb h0 k1 k2
  have u8 := cellsA K1.out 8 rfl
  have v8 := cellsA G1.out 8 rfl
  have u9 := cellsA K1.out 9 rfl
  have v9 := cellsA G1.out 9 rfl
  have u10 := cellsA K1.out 10 rfl
  have v10 := cellsA G1.out 10 rfl
  have u11 := cellsA K1.out 11 rfl
  have v11 := cellsA G1.out 11 rfl
  have u12 := cellsA K1.out 12 rfl
  have v12 := cellsA G1.out 12 rfl
  go_wp2_with fail
  go_ret
  exact ⟨rfl, B1.out⟩

end Go.Proofs.Ytlididoalekeoaa
