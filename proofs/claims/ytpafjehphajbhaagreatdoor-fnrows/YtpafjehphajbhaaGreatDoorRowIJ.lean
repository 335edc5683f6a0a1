/- Contracts of noCell, oldOk, newOk, RowOk and RowText, in the program. Contracts of copyRow, FillRow, CutRow and BackRow, in the program. The contract of RowOf, in the program. -/
import Derived.Test.YtpafjehphajbhaaGreatDoorRowVW
import Derived.Test.YtpafjehphajbhaaGreatDoorCellM
import Derived.Test.YtpafjehphajbhaaGreatDoorConvC
import Derived.Deep.RegionHeld3
namespace Go.Proofs.YtpafjehphajbhaaGreatDoor
set_option maxRecDepth 4000
open Go.RowKit

/-- Whether a cell can be an old one, a new one. -/
def oldK (t : Int) (bs : List UInt8) (a : Bool) : Bool := inB t 1 5 && cOk t bs.length && (tOk t bs || a)
def newK (t : Int) (bs : List UInt8) : Bool := tOk t bs && (t == 0)
theorem rOk_h1 {k : ByteArray} {t1 : Int} {b1 : List UInt8} {t2 : Int} {b2 : List UInt8} {asd nk z2 o1 : Bool} (h1 : nameOkB k = nk) (h2 : noneB t2 b2.length = z2) (h3 : oldK t1 b1 asd = o1) : rOk ⟨k, t1, b1, t2, b2, 1, asd⟩ = (nk && (z2 && o1)) := by
  subst h1 h2 h3
  simp only [rOk, oldK, has_one.1, has_one.2, in_t (x := 1) (lo := 1) (hi := 3) (by omega)]
  cases nameOkB k <;> cases noneB t2 b2.length <;> cases inB t1 1 5 <;> cases cOk t1 b1.length <;> cases tOk t1 b1 <;> cases asd <;> rfl
theorem rOk_h2 {k : ByteArray} {t1 : Int} {b1 : List UInt8} {t2 : Int} {b2 : List UInt8} {asd nk z1 w2 : Bool} (h1 : nameOkB k = nk) (h2 : noneB t1 b1.length = z1) (h3 : newK t2 b2 = w2) : rOk ⟨k, t1, b1, t2, b2, 2, asd⟩ = (nk && (z1 && w2)) := by
  subst h1 h2 h3
  simp only [rOk, newK, has_two.1, has_two.2, in_t (x := 2) (lo := 1) (hi := 3) (by omega)]
  cases nameOkB k <;> cases noneB t1 b1.length <;> cases (t2 == 0) <;> cases tOk t2 b2 <;> rfl
theorem rOk_h3 {k : ByteArray} {t1 : Int} {b1 : List UInt8} {t2 : Int} {b2 : List UInt8} {asd nk o2 w2 m : Bool} (h1 : nameOkB k = nk) (h2 : oldK t1 b1 false = o2) (h3 : newK t2 b2 = w2) (h4 : mOk t1 b1 t2 b2 = m) : rOk ⟨k, t1, b1, t2, b2, 3, asd⟩ = (nk && (o2 && w2 && m)) := by
  subst h1 h2 h3 h4
  simp only [rOk, oldK, newK, has_three.1, has_three.2, in_t (x := 3) (lo := 1) (hi := 3) (by omega)]
  cases nameOkB k <;> cases inB t1 1 5 <;> cases cOk t1 b1.length <;> cases (t2 == 0) <;> cases tOk t2 b2 <;> cases tOk t1 b1 <;> cases asd <;> cases mOk t1 b1 t2 b2 <;> rfl
theorem rOk_hn {r : RowD} (e1 : ¬ r.has = 1) (e2 : ¬ r.has = 2) (e3 : ¬ r.has = 3) : rOk r = false := by
  have h : inB r.has 1 3 = false := by
    cases hh : inB r.has 1 3
    · rfl
    · rcases has_cases hh with h | h | h <;> omega
  unfold rOk
  rw [h]
  cases nameOkB r.key <;> rfl
theorem rOk_name {r : RowD} (h : nameOkB r.key = false) : rOk r = false := by unfold rOk; rw [h]; rfl

set_option maxHeartbeats 400000 in
theorem isOldSet_any (t : Int) (w : World) : Calls Tryz.prog 38 #[.int .i64 t] w fun e w' => e = .returned (.bool (inB t 1 5)) ∧ w' = w := by
  by_cases h1 : (1 : Int) ≤ t
  · by_cases h2 : t ≤ 5
    · rw [in_t ⟨h1, h2⟩]
      have e1 : t ≥ 1 := h1
      go_enter Tryz.func38, Tryz.ntmps38
      go_wp2_with fail
      go_ret
      exact ⟨rfl, rfl⟩
    · rw [show inB t 1 5 = false from decide_eq_false (fun h => h2 h.2)]
      have e1 : t ≥ 1 := h1
      go_enter Tryz.func38, Tryz.ntmps38
      go_wp2_with fail
      go_ret
      exact ⟨rfl, rfl⟩
  · rw [show inB t 1 5 = false from decide_eq_false (fun h => h1 h.1)]
    have e1 : ¬ t ≥ 1 := h1
    go_enter Tryz.func38, Tryz.ntmps38
    go_wp2_with fail
    go_ret
    exact ⟨rfl, rfl⟩

set_option maxHeartbeats 1000000 in
theorem valueOf_any (t : Int) (ao : Option Addr) (n c : Nat) (bs : List UInt8) (w : World) (h : CellAt w ao n c bs) :
    Calls Tryz.prog 70 #[.agg #[.int .i64 t, .slice ao n c]] w fun e w' => e = .returned (.agg #[.int .i64 t, .string ⟨bs.toArray⟩]) ∧ Below w.heap.size w w' := by
  have hcv := (h.below (below_lit2 w (.cells #[.int .i64 t, .slice ao n c] 27) (.cells #[.int .i64 0, .string ⟨#[]⟩] 73))).conv
  generalize bs.toArray = S at *
  clear h
  go_enter Tryz.func70, Tryz.ntmps70
  go_wp2_with fail
  refine bodyPost_ret (results_cell_row rfl _ _ (w.heap.size + 1) _ _ (0, 0) _ rfl (laid2 w _ _).2 Tryz.underlying73 rfl (by kernel_rfl)) rfl ?_
  exact ⟨rfl, below_lit2 w _ _⟩

set_option maxHeartbeats 1000000 in
theorem noCell_any (t : Int) (ao : Option Addr) (n c : Nat) (bs : List UInt8) (w : World) (h : CellAt w ao n c bs) :
    Calls Tryz.prog 43 #[.agg #[.int .i64 t, .slice ao n c]] w fun e w' => e = .returned (.bool (noneB t n)) ∧ Below w.heap.size w w' := by
  have HC : Hd (CellAt w ao n c bs) := ⟨h⟩
  obtain ⟨z, hz⟩ : ∃ x, noneB t n = x := ⟨_, rfl⟩
  have E1 : Hd (t = 0 → bs.toArray = #[] → z = true) := ⟨fun e1 e2 => by
    have e3 : bs = [] := by simpa using e2
    rw [← hz, ← h.size, e1, e3]; rfl⟩
  have E2 : Hd (¬ (t = 0 ∧ bs.toArray = #[]) → z = false) := ⟨fun e => by
    cases z with
    | false => rfl
    | true =>
      rw [← h.size] at hz
      obtain ⟨e1, e2⟩ := none_parts hz
      exact absurd ⟨e1, by rw [e2]⟩ e⟩
  rw [hz]
  obtain ⟨S, hS⟩ : ∃ S, bs.toArray = S := ⟨_, rfl⟩
  have HS : Hd (bs.toArray = S) := ⟨hS⟩
  rw [hS] at E1 E2
  clear h hS hz
  go_enter Tryz.func43, Tryz.ntmps43
  go_wp2_with fail
  refine (valueOf_any t ao n c bs _ (HC.out.below (below_lit w _))).mono ?_
  rintro e w1 ⟨rfl, hB⟩
  rewrite [HS.out]
  have B1 : Hd (Below w.heap.size w w1) := ⟨Below.next (below_lit w _) hB⟩
  clear hB HS HC
  by_cases ht : t = 0
  · subst ht
    by_cases hs : (⟨S⟩ : ByteArray).toList = []
    · have e : S = #[] := by rw [ByteArray.toList_eq] at hs; simpa using hs
      go_wp2_with fail
      go_ret
      exact ⟨by rw [E1.out (by simp) e]; rfl, B1.out⟩
    · have e : ¬ S = #[] := fun h => hs (by rw [ByteArray.toList_eq, h])
      go_wp2_with fail
      go_ret
      exact ⟨by rw [E2.out (by simp [e])]; rfl, B1.out⟩
  · go_wp2_with fail
    go_ret
    exact ⟨by rw [E2.out (by simp [ht])]; rfl, B1.out⟩

set_option maxHeartbeats 1000000 in
theorem oldOk_any (t : Int) (ao : Option Addr) (n c : Nat) (bs : List UInt8) (a : Bool) (w : World) (h : CellAt w ao n c bs) (hl : n ≤ 1048576) (T : Hd (AllAt w)) :
    Calls Tryz.prog 44 #[.agg #[.int .i64 t, .slice ao n c], .bool a] w fun e w' => e = .returned (.bool (oldK t bs a)) ∧ Below w.heap.size w w' := by
  have HC : Hd (CellAt w ao n c bs) := ⟨h⟩
  obtain ⟨i1, hi1⟩ : ∃ x, inB t 1 5 = x := ⟨_, rfl⟩
  have HI : Hd (inB t 1 5 = i1) := ⟨hi1⟩
  obtain ⟨ck, hck⟩ : ∃ x, cOk t n = x := ⟨_, rfl⟩
  have HK : Hd (cOk t n = ck) := ⟨hck⟩
  obtain ⟨tk, htk⟩ : ∃ x, tOk t bs = x := ⟨_, rfl⟩
  have HT : Hd (tOk t bs = tk) := ⟨htk⟩
  obtain ⟨S, hS⟩ : ∃ x, (tS t bs).toArray = x := ⟨_, rfl⟩
  have HS : Hd ((tS t bs).toArray = S) := ⟨hS⟩
  have E : Hd (oldK t bs a = (i1 && ck && (tk || a))) := ⟨by unfold oldK; rw [h.size, hi1, hck, htk]⟩
  rw [E.out]
  clear h hi1 hck htk hS E
  go_enter Tryz.func44, Tryz.ntmps44
  go_wp2_with fail
  refine (isOldSet_any t _).mono ?_
  rintro e w1 ⟨rfl, hw⟩
  rewrite [HI.out]
  have hB : Below (w.alloc (.cells #[.int .i64 t, .slice ao n c] 27)).heap.size (w.alloc (.cells #[.int .i64 t, .slice ao n c] 27)) w1 := same_below hw
  have B1 : Hd (Below w.heap.size w w1) := ⟨Below.next (below_lit w _) hB⟩
  have K1 : Hd (w1.heap[w.heap.size]? = some (.cells #[.int .i64 t, .slice ao n c] 27 (0, 0))) := ⟨box_at hB⟩
  obtain ⟨p0, p1, _, _⟩ := cells2 w1 w.heap.size _ _ _ K1.out
  clear hw hB
  cases i1 with
  | false =>
    go_wp2_with fail
    go_ret
    exact ⟨rfl, B1.out⟩
  | true =>
    go_wp2_with fail
    refine (implCellOk_any t ao n c _).mono ?_
    rintro e w2 ⟨rfl, hB⟩
    rewrite [HK.out]
    have B2 : Hd (Below w.heap.size w w2) := ⟨Below.next B1.out hB⟩
    have K2 : Hd (w2.heap[w.heap.size]? = some (.cells #[.int .i64 t, .slice ao n c] 27 (0, 0))) := ⟨(hB.block _ (lt_of_block K1.out)).trans K1.out⟩
    clear p0 p1 hB B1 K1
    obtain ⟨p0, p1, _, _⟩ := cells2 w2 w.heap.size _ _ _ K2.out
    cases ck with
    | false =>
      go_wp2_with fail
      go_ret
      exact ⟨rfl, B2.out⟩
    | true =>
      go_wp2_with fail
      refine (implCellText_any t ao n c bs _ (HC.out.below B2.out) hl ⟨T.out.below B2.out⟩).mono ?_
      rintro e w3 ⟨rfl, hB⟩
      rewrite [HS.out, HT.out]
      have B3 : Hd (Below w.heap.size w w3) := ⟨Below.next B2.out hB⟩
      clear p0 p1 hB B2 K2
      cases tk with
      | false =>
        go_wp2_with fail
        go_ret
        exact ⟨rfl, B3.out⟩
      | true =>
        go_wp2_with fail
        go_ret
        exact ⟨rfl, B3.out⟩

set_option maxHeartbeats 1000000 in
theorem newOk_any (t : Int) (ao : Option Addr) (n c : Nat) (bs : List UInt8) (w : World) (h : CellAt w ao n c bs) (hl : n ≤ 1048576) (T : Hd (AllAt w)) :
    Calls Tryz.prog 45 #[.agg #[.int .i64 t, .slice ao n c]] w fun e w' => e = .returned (.bool (newK t bs)) ∧ Below w.heap.size w w' := by
  have HC : Hd (CellAt w ao n c bs) := ⟨h⟩
  obtain ⟨tk, htk⟩ : ∃ x, tOk t bs = x := ⟨_, rfl⟩
  have HT : Hd (tOk t bs = tk) := ⟨htk⟩
  obtain ⟨S, hS⟩ : ∃ x, (tS t bs).toArray = x := ⟨_, rfl⟩
  have HS : Hd ((tS t bs).toArray = S) := ⟨hS⟩
  have E : Hd (newK t bs = (tk && (t == 0))) := ⟨by unfold newK; rw [htk]⟩
  rw [E.out]
  clear h htk hS E
  go_enter Tryz.func45, Tryz.ntmps45
  go_wp2_with fail
  refine (implCellText_any t ao n c bs _ (HC.out.below (below_lit w _)) hl ⟨T.out.below (below_lit w _)⟩).mono ?_
  rintro e w1 ⟨rfl, hB⟩
  rewrite [HS.out, HT.out]
  have B1 : Hd (Below w.heap.size w w1) := ⟨Below.next (below_lit w _) hB⟩
  obtain ⟨p0, p1, _, _⟩ := cells2 w1 w.heap.size _ _ _ (box_at hB)
  clear hB
  cases tk with
  | false =>
    go_wp2_with fail
    go_ret
    exact ⟨rfl, B1.out⟩
  | true =>
    go_wp2_with fail
    go_ret
    exact ⟨rfl, B1.out⟩

set_option maxHeartbeats 4000000 in
theorem implRowOk_any (k : ByteArray) (t1 : Int) (a1 : Option Addr) (n1 c1 : Nat) (t2 : Int) (a2 : Option Addr) (n2 c2 : Nat) (has : Int) (asd : Bool) (b1 b2 : List UInt8) (w : World) (hk : k.size ≤ 1048576) (h1 : CellAt w a1 n1 c1 b1) (h2 : CellAt w a2 n2 c2 b2) (hl1 : n1 ≤ 1048576) (hl2 : n2 ≤ 1048576) (T : Hd (AllAt w)) :
    Calls Tryz.prog 11 #[.agg #[.string k, .int .i64 t1, .slice a1 n1 c1, .int .i64 t2, .slice a2 n2 c2, .int .i64 has, .bool asd]] w fun e w' => e = .returned (.bool (rOk ⟨k, t1, b1, t2, b2, has, asd⟩)) ∧ Below w.heap.size w w' := by
  have H1 : Hd (CellAt w a1 n1 c1 b1) := ⟨h1⟩
  have H2 : Hd (CellAt w a2 n2 c2 b2) := ⟨h2⟩
  have F0 : Hd (RBox w w.heap.size k t1 a1 n1 c1 t2 a2 n2 c2 has asd (w.alloc (.cells #[.string k, .int .i64 t1, .slice a1 n1 c1, .int .i64 t2, .slice a2 n2 c2, .int .i64 has, .bool asd] 29))) := ⟨rBox_new w k t1 a1 n1 c1 t2 a2 n2 c2 has asd⟩
  obtain ⟨nk, hnk⟩ : ∃ x, nameOkB k = x := ⟨_, rfl⟩
  have HNK : Hd (nameOkB k = nk) := ⟨hnk⟩
  obtain ⟨z1, hz1⟩ : ∃ x, noneB t1 n1 = x := ⟨_, rfl⟩
  have HZ1 : Hd (noneB t1 n1 = z1) := ⟨hz1⟩
  obtain ⟨z2, hz2⟩ : ∃ x, noneB t2 n2 = x := ⟨_, rfl⟩
  have HZ2 : Hd (noneB t2 n2 = z2) := ⟨hz2⟩
  have HY1 : Hd (noneB t1 b1.length = z1) := ⟨by rw [h1.size]; exact hz1⟩
  have HY2 : Hd (noneB t2 b2.length = z2) := ⟨by rw [h2.size]; exact hz2⟩
  obtain ⟨o1, ho1⟩ : ∃ x, oldK t1 b1 asd = x := ⟨_, rfl⟩
  have HD1 : Hd (oldK t1 b1 asd = o1) := ⟨ho1⟩
  obtain ⟨o2, ho2⟩ : ∃ x, oldK t1 b1 false = x := ⟨_, rfl⟩
  have HD2 : Hd (oldK t1 b1 false = o2) := ⟨ho2⟩
  obtain ⟨w2, hw2⟩ : ∃ x, newK t2 b2 = x := ⟨_, rfl⟩
  have HW2 : Hd (newK t2 b2 = w2) := ⟨hw2⟩
  obtain ⟨m, hm⟩ : ∃ x, mOk t1 b1 t2 b2 = x := ⟨_, rfl⟩
  have HM : Hd (mOk t1 b1 t2 b2 = m) := ⟨hm⟩
  have E0 : Hd (nk = false → rOk ⟨k, t1, b1, t2, b2, has, asd⟩ = false) := ⟨fun e => rOk_name (hnk.trans e)⟩
  clear h1 h2 hnk hz1 hz2 ho1 ho2 hw2 hm
  go_enter Tryz.func11, Tryz.ntmps11
  go_wp2_with fail
  refine (implNameOk_any k _ hk).mono ?_
  rintro e v1 ⟨rfl, hB⟩
  replace hB := same_below hB
  rewrite [HNK.out]
  have F1 : Hd (RBox w w.heap.size k t1 a1 n1 c1 t2 a2 n2 c2 has asd v1) := ⟨F0.out.below hB⟩
  obtain ⟨x0, x1, x2, x3, x4, x5, x6⟩ := cells7 v1 w.heap.size _ _ _ _ _ _ _ _ F1.out.box
  clear hB F0
  cases nk with
  | false =>
    go_wp2_with fail
    go_ret
    exact ⟨by rw [E0.out (by simp)]; rfl, F1.out.bel⟩
  | true =>
    by_cases e1 : has = 1
    · subst e1
      go_wp2_with fail
      clear x0 x1 x2 x3 x4 x5 x6
      refine (noCell_any t2 a2 n2 c2 b2 _ (H2.out.below F1.out.bel)).mono ?_
      rintro e v2 ⟨rfl, hB⟩
      rewrite [HZ2.out]
      have F2 : Hd (RBox w w.heap.size k t1 a1 n1 c1 t2 a2 n2 c2 1 asd v2) := ⟨F1.out.below hB⟩
      obtain ⟨x0, x1, x2, x3, x4, x5, x6⟩ := cells7 v2 w.heap.size _ _ _ _ _ _ _ _ F2.out.box
      clear hB F1
      cases z2 with
      | false =>
        go_wp2_with fail
        go_ret
        exact ⟨by rw [rOk_h1 HNK.out HY2.out HD1.out]; rfl, F2.out.bel⟩
      | true =>
        go_wp2_with fail
        clear x0 x1 x2 x3 x4 x5 x6
        refine (oldOk_any t1 a1 n1 c1 b1 asd _ (H1.out.below F2.out.bel) hl1 ⟨T.out.below F2.out.bel⟩).mono ?_
        rintro e v3 ⟨rfl, hB⟩
        rewrite [HD1.out]
        have F3 : Hd (RBox w w.heap.size k t1 a1 n1 c1 t2 a2 n2 c2 1 asd v3) := ⟨F2.out.below hB⟩
        obtain ⟨x0, x1, x2, x3, x4, x5, x6⟩ := cells7 v3 w.heap.size _ _ _ _ _ _ _ _ F3.out.box
        clear hB F2
        go_wp2_with fail
        go_ret
        exact ⟨by rw [rOk_h1 HNK.out HY2.out HD1.out]; rfl, F3.out.bel⟩
    have d1 : (has == 1) = false := by simpa using e1
    by_cases e2 : has = 2
    · subst e2
      go_wp2_with fail
      clear x0 x1 x2 x3 x4 x5 x6
      refine (noCell_any t1 a1 n1 c1 b1 _ (H1.out.below F1.out.bel)).mono ?_
      rintro e v2 ⟨rfl, hB⟩
      rewrite [HZ1.out]
      have F2 : Hd (RBox w w.heap.size k t1 a1 n1 c1 t2 a2 n2 c2 2 asd v2) := ⟨F1.out.below hB⟩
      obtain ⟨x0, x1, x2, x3, x4, x5, x6⟩ := cells7 v2 w.heap.size _ _ _ _ _ _ _ _ F2.out.box
      clear hB F1
      cases z1 with
      | false =>
        go_wp2_with fail
        go_ret
        exact ⟨by rw [rOk_h2 HNK.out HY1.out HW2.out]; rfl, F2.out.bel⟩
      | true =>
        go_wp2_with fail
        clear x0 x1 x2 x3 x4 x5 x6
        refine (newOk_any t2 a2 n2 c2 b2 _ (H2.out.below F2.out.bel) hl2 ⟨T.out.below F2.out.bel⟩).mono ?_
        rintro e v3 ⟨rfl, hB⟩
        rewrite [HW2.out]
        have F3 : Hd (RBox w w.heap.size k t1 a1 n1 c1 t2 a2 n2 c2 2 asd v3) := ⟨F2.out.below hB⟩
        obtain ⟨x0, x1, x2, x3, x4, x5, x6⟩ := cells7 v3 w.heap.size _ _ _ _ _ _ _ _ F3.out.box
        clear hB F2
        go_wp2_with fail
        go_ret
        exact ⟨by rw [rOk_h2 HNK.out HY1.out HW2.out]; rfl, F3.out.bel⟩
    have d2 : (has == 2) = false := by simpa using e2
    by_cases e3 : has = 3
    · subst e3
      go_wp2_with fail
      clear x0 x1 x2 x3 x4 x5 x6
      refine (oldOk_any t1 a1 n1 c1 b1 false _ (H1.out.below F1.out.bel) hl1 ⟨T.out.below F1.out.bel⟩).mono ?_
      rintro e v2 ⟨rfl, hB⟩
      rewrite [HD2.out]
      have F2 : Hd (RBox w w.heap.size k t1 a1 n1 c1 t2 a2 n2 c2 3 asd v2) := ⟨F1.out.below hB⟩
      obtain ⟨x0, x1, x2, x3, x4, x5, x6⟩ := cells7 v2 w.heap.size _ _ _ _ _ _ _ _ F2.out.box
      clear hB F1
      cases o2 with
      | false =>
        go_wp2_with fail
        go_ret
        exact ⟨by rw [rOk_h3 HNK.out HD2.out HW2.out HM.out]; rfl, F2.out.bel⟩
      | true =>
        go_wp2_with fail
        clear x0 x1 x2 x3 x4 x5 x6
        refine (newOk_any t2 a2 n2 c2 b2 _ (H2.out.below F2.out.bel) hl2 ⟨T.out.below F2.out.bel⟩).mono ?_
        rintro e v3 ⟨rfl, hB⟩
        rewrite [HW2.out]
        have F3 : Hd (RBox w w.heap.size k t1 a1 n1 c1 t2 a2 n2 c2 3 asd v3) := ⟨F2.out.below hB⟩
        obtain ⟨x0, x1, x2, x3, x4, x5, x6⟩ := cells7 v3 w.heap.size _ _ _ _ _ _ _ _ F3.out.box
        clear hB F2
        cases w2 with
        | false =>
          go_wp2_with fail
          go_ret
          exact ⟨by rw [rOk_h3 HNK.out HD2.out HW2.out HM.out]; rfl, F3.out.bel⟩
        | true =>
          go_wp2_with fail
          clear x0 x1 x2 x3 x4 x5 x6
          refine (implSameText_any t1 a1 n1 c1 b1 t2 a2 n2 c2 b2 _ (H1.out.below F3.out.bel) hl1 (H2.out.below F3.out.bel) hl2 ⟨T.out.below F3.out.bel⟩).mono ?_
          rintro e v4 ⟨rfl, hB⟩
          rewrite [HM.out]
          have F4 : Hd (RBox w w.heap.size k t1 a1 n1 c1 t2 a2 n2 c2 3 asd v4) := ⟨F3.out.below hB⟩
          obtain ⟨x0, x1, x2, x3, x4, x5, x6⟩ := cells7 v4 w.heap.size _ _ _ _ _ _ _ _ F4.out.box
          clear hB F3
          go_wp2_with fail
          go_ret
          exact ⟨by rw [rOk_h3 HNK.out HD2.out HW2.out HM.out]; rfl, F4.out.bel⟩
    have d3 : (has == 3) = false := by simpa using e3
    go_wp2_with fail
    go_ret
    exact ⟨by rw [rOk_hn e1 e2 e3]; rfl, F1.out.bel⟩

set_option maxHeartbeats 1000000 in
theorem implRowText_any (k : ByteArray) (t1 : Int) (a1 : Option Addr) (n1 c1 : Nat) (t2 : Int) (a2 : Option Addr) (n2 c2 : Nat) (has : Int) (asd : Bool) (b1 b2 : List UInt8) (w : World) (h1 : CellAt w a1 n1 c1 b1) (h2 : CellAt w a2 n2 c2 b2) (hl1 : n1 ≤ 1048576) (hl2 : n2 ≤ 1048576) (T : Hd (AllAt w)) :
    Calls Tryz.prog 10 #[.agg #[.string k, .int .i64 t1, .slice a1 n1 c1, .int .i64 t2, .slice a2 n2 c2, .int .i64 has, .bool asd]] w (TextB w (rS ⟨k, t1, b1, t2, b2, has, asd⟩) (rT ⟨k, t1, b1, t2, b2, has, asd⟩)) := by
  have H1 : Hd (CellAt w a1 n1 c1 b1) := ⟨h1⟩
  have H2 : Hd (CellAt w a2 n2 c2 b2) := ⟨h2⟩
  have F0 : Hd (RBox w w.heap.size k t1 a1 n1 c1 t2 a2 n2 c2 has asd (w.alloc (.cells #[.string k, .int .i64 t1, .slice a1 n1 c1, .int .i64 t2, .slice a2 n2 c2, .int .i64 has, .bool asd] 29))) := ⟨rBox_new w k t1 a1 n1 c1 t2 a2 n2 c2 has asd⟩
  clear h1 h2
  cases hn : newB has with
  | true =>
    have e1 : rS ⟨k, t1, b1, t2, b2, has, asd⟩ = tS t2 b2 := if_pos hn
    have e2 : rT ⟨k, t1, b1, t2, b2, has, asd⟩ = tOk t2 b2 := if_pos hn
    rw [e1, e2]
    have e3 : bits .and .i64 has 2 = 2 := by simpa [newB] using hn
    clear hn e1 e2
    obtain ⟨S, hS⟩ : ∃ S, (tS t2 b2).toArray = S := ⟨_, rfl⟩
    have HS : Hd ((tS t2 b2).toArray = S) := ⟨hS⟩
    obtain ⟨ok, hok⟩ : ∃ ok, tOk t2 b2 = ok := ⟨_, rfl⟩
    have HO : Hd (tOk t2 b2 = ok) := ⟨hok⟩
    have HE : Hd (⟨(tS t2 b2).toArray⟩ = (⟨S⟩ : ByteArray)) := ⟨by rw [hS]⟩
    clear hS hok
    go_enter Tryz.func10, Tryz.ntmps10
    go_wp2_with fail
    refine (implCellText_any t2 a2 n2 c2 b2 _ (H2.out.below F0.out.bel) hl2 ⟨T.out.below F0.out.bel⟩).mono ?_
    rintro e w2 ⟨rfl, hB⟩
    rewrite [HS.out, HO.out]
    have B2 : Hd (Below w.heap.size w w2) := ⟨Below.next F0.out.bel hB⟩
    clear hB F0
    go_wp2_with fail
    go_ret2
    exact ⟨by rw [HE.out, HO.out]; rfl, B2.out⟩
  | false =>
    have e1 : rS ⟨k, t1, b1, t2, b2, has, asd⟩ = tS t1 b1 := if_neg (by rw [hn]; simp)
    have e2 : rT ⟨k, t1, b1, t2, b2, has, asd⟩ = tOk t1 b1 := if_neg (by rw [hn]; simp)
    rw [e1, e2]
    have e3 : bits .and .i64 has 2 = 0 := by
      rcases and_two has with h | h
      · rw [newB, h] at hn; cases hn
      · exact h
    clear hn e1 e2
    obtain ⟨S, hS⟩ : ∃ S, (tS t1 b1).toArray = S := ⟨_, rfl⟩
    have HS : Hd ((tS t1 b1).toArray = S) := ⟨hS⟩
    obtain ⟨ok, hok⟩ : ∃ ok, tOk t1 b1 = ok := ⟨_, rfl⟩
    have HO : Hd (tOk t1 b1 = ok) := ⟨hok⟩
    have HE : Hd (⟨(tS t1 b1).toArray⟩ = (⟨S⟩ : ByteArray)) := ⟨by rw [hS]⟩
    clear hS hok
    go_enter Tryz.func10, Tryz.ntmps10
    go_wp2_with fail
    refine (implCellText_any t1 a1 n1 c1 b1 _ (H1.out.below F0.out.bel) hl1 ⟨T.out.below F0.out.bel⟩).mono ?_
    rintro e w2 ⟨rfl, hB⟩
    rewrite [HS.out, HO.out]
    have B2 : Hd (Below w.heap.size w w2) := ⟨Below.next F0.out.bel hB⟩
    clear hB F0
    go_wp2_with fail
    go_ret2
    exact ⟨by rw [HE.out, HO.out]; rfl, B2.out⟩

/-- The row's box, the result's, and the copy's, that holds what the row holds. -/
structure CBoxes (w : World) (k : ByteArray) (t1 : Int) (a1 : Option Addr) (n1 c1 : Nat) (t2 : Int) (a2 : Option Addr) (n2 c2 : Nat) (has : Int) (asd : Bool) (wx : World) : Prop where
  two : RTwo w k t1 a1 n1 c1 t2 a2 n2 c2 has asd wx
  out : wx.heap[w.heap.size + 1 + 1]? = some (.cells #[.string k, .int .i64 t1, .slice a1 n1 c1, .int .i64 t2, .slice a2 n2 c2, .int .i64 has, .bool asd] 29 (0, 0))
theorem CBoxes.below {w : World} {k : ByteArray} {t1 : Int} {a1 : Option Addr} {n1 c1 : Nat} {t2 : Int} {a2 : Option Addr} {n2 c2 : Nat} {has : Int} {asd : Bool} {wx wy : World} (h : CBoxes w k t1 a1 n1 c1 t2 a2 n2 c2 has asd wx) (hB : Below wx.heap.size wx wy) : CBoxes w k t1 a1 n1 c1 t2 a2 n2 c2 has asd wy :=
  ⟨h.two.below hB, (hB.block _ (lt_of_block h.out)).trans h.out⟩
theorem cBoxes_new (w : World) (k : ByteArray) (t1 : Int) (a1 : Option Addr) (n1 c1 : Nat) (t2 : Int) (a2 : Option Addr) (n2 c2 : Nat) (has : Int) (asd : Bool) : CBoxes w k t1 a1 n1 c1 t2 a2 n2 c2 has asd (((w.alloc (.cells #[.string k, .int .i64 t1, .slice a1 n1 c1, .int .i64 t2, .slice a2 n2 c2, .int .i64 has, .bool asd] 29)).alloc (.cells #[.string ⟨#[]⟩, .int .i64 0, .slice none 0 0, .int .i64 0, .slice none 0 0, .int .i64 0, .bool false] 29)).alloc (.cells #[.string k, .int .i64 t1, .slice a1 n1 c1, .int .i64 t2, .slice a2 n2 c2, .int .i64 has, .bool asd] 29)) :=
  ⟨(rTwo_new w k t1 a1 n1 c1 t2 a2 n2 c2 has asd).below (below_lit _ _), (laid3 w _ _ _).2.2⟩
abbrev Cells4 (d : Nat) (t1 : Int) (a1 : Option Addr) (n1 c1 : Nat) (t2 : Int) (a2 : Option Addr) (n2 c2 : Nat) (w' : World) : Prop :=
  w'.cell? ⟨d, 1, none⟩ = some (.int .i64 t1) ∧ w'.cell? ⟨d, 2, none⟩ = some (.slice a1 n1 c1) ∧ w'.cell? ⟨d, 3, none⟩ = some (.int .i64 t2) ∧ w'.cell? ⟨d, 4, none⟩ = some (.slice a2 n2 c2)
theorem Cells4.set2 {d q i j : Nat} {t1 : Int} {a1 : Option Addr} {n1 c1 : Nat} {t2 : Int} {a2 : Option Addr} {n2 c2 : Nat} {w : World} {x y : Value} (h : Cells4 d t1 a1 n1 c1 t2 a2 n2 c2 w) (hne : d ≠ q) : Cells4 d t1 a1 n1 c1 t2 a2 n2 c2 ((w.setCell ⟨q, i, none⟩ x).setCell ⟨q, j, none⟩ y) :=
  ⟨cell_set (cell_set h.1 hne) hne, cell_set (cell_set h.2.1 hne) hne, cell_set (cell_set h.2.2.1 hne) hne, cell_set (cell_set h.2.2.2 hne) hne⟩

set_option maxHeartbeats 2000000 in
theorem copyRow_any (k : ByteArray) (t1 : Int) (a1 : Option Addr) (n1 c1 : Nat) (t2 : Int) (a2 : Option Addr) (n2 c2 : Nat) (has : Int) (asd : Bool) (b1 b2 : List UInt8) (w : World) (h1 : CellAt w a1 n1 c1 b1) (h2 : CellAt w a2 n2 c2 b2) (hl1 : n1 ≤ 1048576) (hl2 : n2 ≤ 1048576) :
    Calls Tryz.prog 48 #[.agg #[.string k, .int .i64 t1, .slice a1 n1 c1, .int .i64 t2, .slice a2 n2 c2, .int .i64 has, .bool asd]] w (CopyOut w k t1 n1 b1 t2 n2 b2 has asd) := by
  have H1 : Hd (CellAt w a1 n1 c1 b1) := ⟨h1⟩
  have H2 : Hd (CellAt w a2 n2 c2 b2) := ⟨h2⟩
  have F0 : Hd (CBoxes w k t1 a1 n1 c1 t2 a2 n2 c2 has asd (((w.alloc (.cells #[.string k, .int .i64 t1, .slice a1 n1 c1, .int .i64 t2, .slice a2 n2 c2, .int .i64 has, .bool asd] 29)).alloc (.cells #[.string ⟨#[]⟩, .int .i64 0, .slice none 0 0, .int .i64 0, .slice none 0 0, .int .i64 0, .bool false] 29)).alloc (.cells #[.string k, .int .i64 t1, .slice a1 n1 c1, .int .i64 t2, .slice a2 n2 c2, .int .i64 has, .bool asd] 29))) := ⟨cBoxes_new w k t1 a1 n1 c1 t2 a2 n2 c2 has asd⟩
  clear h1 h2
  go_enter Tryz.func48, Tryz.ntmps48
  go_wp2_with fail
  generalize ((w.alloc (.cells #[.string k, .int .i64 t1, .slice a1 n1 c1, .int .i64 t2, .slice a2 n2 c2, .int .i64 has, .bool asd] 29)).alloc (.cells #[.string ⟨#[]⟩, .int .i64 0, .slice none 0 0, .int .i64 0, .slice none 0 0, .int .i64 0, .bool false] 29)).alloc (.cells #[.string k, .int .i64 t1, .slice a1 n1 c1, .int .i64 t2, .slice a2 n2 c2, .int .i64 has, .bool asd] 29) = W at *
  have KK : Hd (∀ w', Below W.heap.size W w' → Cells4 w.heap.size t1 a1 n1 c1 t2 a2 n2 c2 w') := ⟨fun w' hb => by
    have h := cells7_at (F0.out.below hb).two.box
    exact ⟨h.2.1, h.2.2.1, h.2.2.2.1, h.2.2.2.2.1⟩⟩
  have KD : Hd (Below W.heap.size W W.drew) := ⟨(Below.refl _ W).drew⟩
  obtain ⟨p1, p2, p3, p4⟩ := KK.out _ (Below.refl _ W)
  go_region_held (fun w' => w'.cell? ⟨w.heap.size, 1, none⟩ = some (.int .i64 t1) ∧ w'.cell? ⟨w.heap.size, 2, none⟩ = some (.slice a1 n1 c1) ∧ w'.cell? ⟨w.heap.size, 3, none⟩ = some (.int .i64 t2) ∧ w'.cell? ⟨w.heap.size, 4, none⟩ = some (.slice a2 n2 c2)) (first | (with_reducible refine Cells4.set2 (Cells4.set2 (KK.out _ D2.out) ?_) ?_ <;> omega) | (with_reducible refine Cells4.set2 (KK.out _ D2.out) ?_; omega) | (with_reducible exact KK.out _ D2.out) | (with_reducible exact KK.out _ D1.out) | (with_reducible exact KK.out _ KD.out))
    (first | (have G1 := D1; clear G1; go_at_call 73; refine (copyCell_o t2 a2 n2 c2 b2 _ (H2.out.below (Below.next F0.out.two.bel D1.out)) hl2).mono ?_; rintro e v2 ⟨o2, d2, rfl, hO, hs, hB⟩; have D2 : Hd (Below W.heap.size W v2) := ⟨Below.next D1.out hB⟩; have F2 : Hd (CBoxes w k t1 a1 n1 c1 t2 a2 n2 c2 has asd v2) := ⟨F0.out.below D2.out⟩; have O2 : Hd (OwnO v2 (w.heap.size + 3) o2 d2 b2 ∧ OwnO v2 (w.heap.size + 3) o1 d1 b1 ∧ ∀ q, o1 = some ⟨q, 0, none⟩ → o2 ≠ some ⟨q, 0, none⟩) := ⟨hO.mono (by have := lt_of_block F0.out.out; have := D1.out.size; omega), O1.out.below hB, fun q hq h2 => by have := ownO_lt O1.out hq; have := ownO_ge hO h2; omega⟩; obtain ⟨q0, q1, q2, q3, q4, q5, q6⟩ := cells7 v2 (w.heap.size + 1 + 1) _ _ _ _ _ _ _ _ F2.out.out; obtain ⟨u0, u1, u2, u3, u4, u5, u6⟩ := free7 v2 (w.heap.size + 1 + 1) _ _ _ _ _ _ _ _ F2.out.out; clear hO hs hB) | (go_at_call 73; refine (copyCell_o t1 a1 n1 c1 b1 _ (H1.out.below F0.out.two.bel.drew) hl1).mono ?_; rintro e v1 ⟨o1, d1, rfl, hO, hs, hB⟩; have D1 : Hd (Below W.heap.size W v1) := ⟨Below.next KD.out hB⟩; have O1 : Hd (OwnO v1 (w.heap.size + 3) o1 d1 b1) := ⟨hO.mono (by have := lt_of_block F0.out.out; show w.heap.size + 3 ≤ W.heap.size + 2; omega)⟩; clear hO hs hB))
  all_goals
    obtain ⟨r0, r1, r2, r3, r4, r5, r6⟩ := cells7 v2 (w.heap.size + 1) _ _ _ _ _ _ _ _ F2.out.two.res
    obtain ⟨s0, s1, s2, s3, s4, s5, s6⟩ := free7 v2 (w.heap.size + 1) _ _ _ _ _ _ _ _ F2.out.two.res
    go_wp2_with fail
    refine bodyPost_ret (results_cell_row rfl _ _ (w.heap.size + 1) _ _ (0, 0) _ rfl (set7 _ _ _ _ _ _ _ (block_set (block_set (block_set (block_set F2.out.two.res (by omega)) (by omega)) (by omega)) (by omega))) Tryz.underlying29 rfl (by kernel_rfl)) rfl ?_
    refine ⟨o1, d1, o2, d2, rfl, Apart.of_set7 (B := w.heap.size + 2) ?_ (by omega), by have := lt_of_block F2.out.two.res; simp at this ⊢; omega, bset7 (bset (bset (bset (bset F2.out.two.bel _ (by omega)) _ (by omega)) _ (by omega)) _ (by omega)) (by omega)⟩
    exact ⟨((((O2.out.2.1.of_set (by omega)).of_set (by omega)).of_set (by omega)).of_set (by omega)).mono (by omega), ((((O2.out.1.of_set (by omega)).of_set (by omega)).of_set (by omega)).of_set (by omega)).mono (by omega), O2.out.2.2⟩

set_option maxHeartbeats 4000000 in
theorem implFillRow_any (k : ByteArray) (t1 : Int) (a1 : Option Addr) (n1 c1 : Nat) (t2 : Int) (a2 : Option Addr) (n2 c2 : Nat) (has : Int) (asd : Bool) (b1 b2 : List UInt8) (w : World) (hk : k.size ≤ 1048576) (h1 : CellAt w a1 n1 c1 b1) (h2 : CellAt w a2 n2 c2 b2) (hl1 : n1 ≤ 1048576) (hl2 : n2 ≤ 1048576) (T : Hd (AllAt w)) :
    Calls Tryz.prog 13 #[.agg #[.string k, .int .i64 t1, .slice a1 n1 c1, .int .i64 t2, .slice a2 n2 c2, .int .i64 has, .bool asd]] w (RowOut w (fillR ⟨k, t1, b1, t2, b2, has, asd⟩)) := by
  have H1 : Hd (CellAt w a1 n1 c1 b1) := ⟨h1⟩
  have H2 : Hd (CellAt w a2 n2 c2 b2) := ⟨h2⟩
  have HN1 : Hd (b1.length = n1) := ⟨h1.size⟩
  have HN2 : Hd (b2.length = n2) := ⟨h2.size⟩
  have F0 : Hd (RTwo w k t1 a1 n1 c1 t2 a2 n2 c2 has asd ((w.alloc (.cells #[.string k, .int .i64 t1, .slice a1 n1 c1, .int .i64 t2, .slice a2 n2 c2, .int .i64 has, .bool asd] 29)).alloc (.cells #[.string ⟨#[]⟩, .int .i64 0, .slice none 0 0, .int .i64 0, .slice none 0 0, .int .i64 0, .bool false] 29))) := ⟨rTwo_new w k t1 a1 n1 c1 t2 a2 n2 c2 has asd⟩
  obtain ⟨ok, hok⟩ : ∃ x, rOk ⟨k, t1, b1, t2, b2, has, asd⟩ = x := ⟨_, rfl⟩
  have HOK : Hd (rOk ⟨k, t1, b1, t2, b2, has, asd⟩ = ok) := ⟨hok⟩
  obtain ⟨nw, hnw⟩ : ∃ x, newB has = x := ⟨_, rfl⟩
  have HNW : Hd (newB has = nw) := ⟨hnw⟩
  have EA : Hd (ok = false ∨ nw = true → fillR ⟨k, t1, b1, t2, b2, has, asd⟩ = ⟨k, t1, b1, t2, b2, has, asd⟩) := ⟨fun h => if_pos (h.imp (fun e => hok.trans e) (fun e => hnw.trans e))⟩
  have EB : Hd (ok = true → nw = false → fillR ⟨k, t1, b1, t2, b2, has, asd⟩ = (if nOk t1 b1 0 = true then (⟨k, t1, b1, 0, nB t1 b1 0, 3, asd⟩ : RowD) else ⟨k, t1, b1, t2, b2, has, true⟩)) := ⟨fun e1 e2 => if_neg (fun h => h.elim (fun h => by rw [hok, e1] at h; cases h) (fun h => by have h : newB has = true := h; rw [hnw, e2] at h; cases h))⟩
  obtain ⟨tg, hT⟩ : ∃ x, nTag t1 b1 0 = x := ⟨_, rfl⟩
  have HT : Hd (nTag t1 b1 0 = tg) := ⟨hT⟩
  obtain ⟨ys, hys⟩ : ∃ x, nB t1 b1 0 = x := ⟨_, rfl⟩
  have HY : Hd (nB t1 b1 0 = ys) := ⟨hys⟩
  obtain ⟨tk, htk⟩ : ∃ x, nOk t1 b1 0 = x := ⟨_, rfl⟩
  have HTK : Hd (nOk t1 b1 0 = tk) := ⟨htk⟩
  have HT0 : Hd (tk = true → tg = 0) := ⟨fun e => by rw [← hT]; exact (nOk_t (htk.trans e)).2.2.1⟩
  clear hT hys htk
  clear h1 h2 hok hnw
  go_enter Tryz.func13, Tryz.ntmps13
  go_wp2_with fail
  refine (copyRow_any k t1 a1 n1 c1 t2 a2 n2 c2 has asd b1 b2 _ (H1.out.below F0.out.bel) (H2.out.below F0.out.bel) hl1 hl2).mono ?_
  rintro e v1 ⟨x1, y1, x2, y2, rfl, hA, _, hB⟩
  have W1 : Hd (KW w k t1 a1 n1 c1 t2 a2 n2 c2 has asd v1.heap.size k t1 x1 n1 y1 b1 t2 x2 n2 y2 b2 has asd (v1.alloc (.cells #[.string k, .int .i64 t1, .slice x1 n1 y1, .int .i64 t2, .slice x2 n2 y2, .int .i64 has, .bool asd] 29))) := ⟨kw_new (F0.out.below hB) (hA.mono (by simp)) HN1.out HN2.out⟩
  obtain ⟨p0, p1, p2, p3, p4, p5, p6⟩ := cells7 _ w.heap.size _ _ _ _ _ _ _ _ W1.out.two.box
  generalize hd : v1.heap.size = d at *
  clear hA hB F0
  go_wp2_with fail
  generalize hw : (v1.alloc (.cells #[.string k, .int .i64 t1, .slice x1 n1 y1, .int .i64 t2, .slice x2 n2 y2, .int .i64 has, .bool asd] 29)) = V1 at *
  clear hd hw
  refine (implRowOk_any k t1 a1 n1 c1 t2 a2 n2 c2 has asd b1 b2 _ hk (H1.out.below W1.out.two.bel) (H2.out.below W1.out.two.bel) hl1 hl2 ⟨T.out.below W1.out.two.bel⟩).mono ?_
  rintro e v2 ⟨rfl, hB⟩
  rewrite [HOK.out]
  have W2 : Hd (KW w k t1 a1 n1 c1 t2 a2 n2 c2 has asd d k t1 x1 n1 y1 b1 t2 x2 n2 y2 b2 has asd v2) := ⟨W1.out.below hB⟩
  clear hB p0 p1 p2 p3 p4 p5 p6 W1
  cases ok with
  | false =>
    obtain ⟨q0, q1, q2, q3, q4, q5, q6⟩ := cells7 _ d _ _ _ _ _ _ _ _ W2.out.out
    obtain ⟨u0, u1, u2, u3, u4, u5, u6⟩ := free7 _ d _ _ _ _ _ _ _ _ W2.out.out
    obtain ⟨r0, r1, r2, r3, r4, r5, r6⟩ := cells7 _ (w.heap.size + 1) _ _ _ _ _ _ _ _ W2.out.two.res
    obtain ⟨s0, s1, s2, s3, s4, s5, s6⟩ := free7 _ (w.heap.size + 1) _ _ _ _ _ _ _ _ W2.out.two.res
    have hd1 : ¬ w.heap.size + 1 = d := by have := W2.out.wd; omega
    have hd2 : ¬ d = w.heap.size + 1 := by have := W2.out.wd; omega
    have hd3 : ¬ w.heap.size = d := by have := W2.out.wd; omega
    go_wp2_with fail
    refine bodyPost_ret (results_cell_row rfl _ _ (w.heap.size + 1) _ _ (0, 0) _ rfl (set7 _ _ _ _ _ _ _ W2.out.two.res) Tryz.underlying29 rfl (by kernel_rfl)) rfl ?_
    rw [EA.out (by simp)]
    exact W2.out.done
  | true =>
    obtain ⟨p0, p1, p2, p3, p4, p5, p6⟩ := cells7 _ w.heap.size _ _ _ _ _ _ _ _ W2.out.two.box
    have hb2 : bits .and .i64 has 2 = if nw then 2 else 0 := by
      have h9 := HNW.out
      cases nw with
      | true => simpa [newB] using h9
      | false =>
        rcases and_two has with h | h
        · rw [newB, h] at h9; cases h9
        · exact h
    cases nw with
    | true =>
      obtain ⟨q0, q1, q2, q3, q4, q5, q6⟩ := cells7 _ d _ _ _ _ _ _ _ _ W2.out.out
      obtain ⟨u0, u1, u2, u3, u4, u5, u6⟩ := free7 _ d _ _ _ _ _ _ _ _ W2.out.out
      obtain ⟨r0, r1, r2, r3, r4, r5, r6⟩ := cells7 _ (w.heap.size + 1) _ _ _ _ _ _ _ _ W2.out.two.res
      obtain ⟨s0, s1, s2, s3, s4, s5, s6⟩ := free7 _ (w.heap.size + 1) _ _ _ _ _ _ _ _ W2.out.two.res
      have hd1 : ¬ w.heap.size + 1 = d := by have := W2.out.wd; omega
      have hd2 : ¬ d = w.heap.size + 1 := by have := W2.out.wd; omega
      have hd3 : ¬ w.heap.size = d := by have := W2.out.wd; omega
      go_wp2_with fail
      refine bodyPost_ret (results_cell_row rfl _ _ (w.heap.size + 1) _ _ (0, 0) _ rfl (set7 _ _ _ _ _ _ _ W2.out.two.res) Tryz.underlying29 rfl (by kernel_rfl)) rfl ?_
      rw [EA.out (by simp)]
      exact W2.out.done
    | false =>
      obtain ⟨p0, p1, p2, p3, p4, p5, p6⟩ := cells7 _ w.heap.size _ _ _ _ _ _ _ _ W2.out.two.box
      go_wp2_with fail
      refine (implTurn_any t1 a1 n1 c1 b1 0 _ (H1.out.below W2.out.two.bel) hl1 ⟨T.out.below W2.out.two.bel⟩).mono ?_
      rewrite [HT.out, HY.out, HTK.out]
      rintro e v4 ⟨ao, n4, c4, rfl, hn4, hO4, _, hB⟩
      have W4 : Hd (KW w k t1 a1 n1 c1 t2 a2 n2 c2 has asd d k t1 x1 n1 y1 b1 t2 x2 n2 y2 b2 has asd (v4.alloc (.cells #[.int .i64 tg, .slice ao n4 c4] 27))) := ⟨(W2.out.below hB).below (below_lit v4 _)⟩
      have O4 : Hd (OwnO (v4.alloc (.cells #[.int .i64 tg, .slice ao n4 c4] 27)) (w.heap.size + 2) ao c4 ys) := ⟨(hO4.below (below_lit v4 _)).mono (by have := lt_of_block W2.out.two.res; omega)⟩
      have N4 : Hd (ys.length = n4) := ⟨hn4⟩
      have X4 : Hd (∀ q, ao = some ⟨q, 0, none⟩ → q ≠ d) := ⟨fun q hq => by have := ownO_ge hO4 hq; have := lt_of_block W2.out.out; omega⟩
      have Y4 : Hd (∀ q, x1 = some ⟨q, 0, none⟩ → ao ≠ some ⟨q, 0, none⟩) := ⟨fun q hq h4 => by have := ownO_ge hO4 h4; have := ownO_lt W2.out.ap.one hq; omega⟩
      obtain ⟨j0, j1, _, _⟩ := cells2 (v4.alloc (.cells #[.int .i64 tg, .slice ao n4 c4] 27)) v4.heap.size _ _ _ (alloc_new v4 _ rfl)
      have hd4 : ¬ d = v4.heap.size := by have := lt_of_block W2.out.out; have := hB.size; omega
      have hd5 : ¬ v4.heap.size = d := fun h => hd4 h.symm
      have hd6 : ¬ w.heap.size + 1 = v4.heap.size := by have := lt_of_block W2.out.two.res; have := hB.size; omega
      generalize hv : v4.heap.size = d4 at *
      clear hB hO4 hn4 p0 p1 p2 p3 p4 p5 p6 W2
      cases tk with
      | false =>
        have hf := EB.out (by simp) (by simp)
        rewrite [if_neg (by rw [HTK.out]; simp)] at hf
        have HF : Hd _ := ⟨hf⟩
        clear hf
        obtain ⟨q0, q1, q2, q3, q4, q5, q6⟩ := cells7 _ d _ _ _ _ _ _ _ _ W4.out.out
        obtain ⟨u0, u1, u2, u3, u4, u5, u6⟩ := free7 _ d _ _ _ _ _ _ _ _ W4.out.out
        obtain ⟨r0, r1, r2, r3, r4, r5, r6⟩ := cells7 _ (w.heap.size + 1) _ _ _ _ _ _ _ _ W4.out.two.res
        obtain ⟨s0, s1, s2, s3, s4, s5, s6⟩ := free7 _ (w.heap.size + 1) _ _ _ _ _ _ _ _ W4.out.two.res
        have hd1 : ¬ w.heap.size + 1 = d := by have := W4.out.wd; omega
        have hd2 : ¬ d = w.heap.size + 1 := by have := W4.out.wd; omega
        have hd3 : ¬ w.heap.size = d := by have := W4.out.wd; omega
        have W5 : Hd (KW w k t1 a1 n1 c1 t2 a2 n2 c2 has asd d k t1 x1 n1 y1 b1 t2 x2 n2 y2 b2 has true ((v4.alloc (.cells #[.int .i64 tg, .slice ao n4 c4] 27)).setCell ⟨d, 6, none⟩ (.bool true))) := ⟨W4.out.setAside true⟩
        go_wp2_with fail
        refine bodyPost_ret (results_cell_row rfl _ _ (w.heap.size + 1) _ _ (0, 0) _ rfl (set7 _ _ _ _ _ _ _ W5.out.two.res) Tryz.underlying29 rfl (by kernel_rfl)) rfl ?_
        rw [HF.out]
        exact W5.out.done
      | true =>
        have hf := EB.out (by simp) (by simp)
        rewrite [if_pos HTK.out, HY.out] at hf
        have HF : Hd _ := ⟨hf⟩
        have hT0 := HT0.out rfl
        subst hT0
        clear hf
        obtain ⟨q0, q1, q2, q3, q4, q5, q6⟩ := cells7 _ d _ _ _ _ _ _ _ _ W4.out.out
        obtain ⟨u0, u1, u2, u3, u4, u5, u6⟩ := free7 _ d _ _ _ _ _ _ _ _ W4.out.out
        obtain ⟨r0, r1, r2, r3, r4, r5, r6⟩ := cells7 _ (w.heap.size + 1) _ _ _ _ _ _ _ _ W4.out.two.res
        obtain ⟨s0, s1, s2, s3, s4, s5, s6⟩ := free7 _ (w.heap.size + 1) _ _ _ _ _ _ _ _ W4.out.two.res
        have hd1 : ¬ w.heap.size + 1 = d := by have := W4.out.wd; omega
        have hd2 : ¬ d = w.heap.size + 1 := by have := W4.out.wd; omega
        have hd3 : ¬ w.heap.size = d := by have := W4.out.wd; omega
        have W5 : Hd (KW w k t1 a1 n1 c1 t2 a2 n2 c2 has asd d k t1 x1 n1 y1 b1 0 ao n4 c4 ys 3 asd ((((v4.alloc (.cells #[.int .i64 0, .slice ao n4 c4] 27)).setCell ⟨d, 3, none⟩ (.int .i64 0)).setCell ⟨d, 4, none⟩ (.slice ao n4 c4)).setCell ⟨d, 5, none⟩ (.int .i64 3))) := ⟨((W4.out.setT2 0).setB2 (ownO_far O4.out X4.out) N4.out X4.out Y4.out).setHas 3⟩
        go_wp2_with fail
        refine bodyPost_ret (results_cell_row rfl _ _ (w.heap.size + 1) _ _ (0, 0) _ rfl (set7 _ _ _ _ _ _ _ W5.out.two.res) Tryz.underlying29 rfl (by kernel_rfl)) rfl ?_
        rw [HF.out]
        exact W5.out.done

set_option maxHeartbeats 4000000 in
theorem implCutRow_any (k : ByteArray) (t1 : Int) (a1 : Option Addr) (n1 c1 : Nat) (t2 : Int) (a2 : Option Addr) (n2 c2 : Nat) (has : Int) (asd : Bool) (b1 b2 : List UInt8) (w : World) (hk : k.size ≤ 1048576) (h1 : CellAt w a1 n1 c1 b1) (h2 : CellAt w a2 n2 c2 b2) (hl1 : n1 ≤ 1048576) (hl2 : n2 ≤ 1048576) (T : Hd (AllAt w)) :
    Calls Tryz.prog 14 #[.agg #[.string k, .int .i64 t1, .slice a1 n1 c1, .int .i64 t2, .slice a2 n2 c2, .int .i64 has, .bool asd]] w (RowOut w (cutR ⟨k, t1, b1, t2, b2, has, asd⟩)) := by
  have H1 : Hd (CellAt w a1 n1 c1 b1) := ⟨h1⟩
  have H2 : Hd (CellAt w a2 n2 c2 b2) := ⟨h2⟩
  have HN1 : Hd (b1.length = n1) := ⟨h1.size⟩
  have HN2 : Hd (b2.length = n2) := ⟨h2.size⟩
  have F0 : Hd (RTwo w k t1 a1 n1 c1 t2 a2 n2 c2 has asd ((w.alloc (.cells #[.string k, .int .i64 t1, .slice a1 n1 c1, .int .i64 t2, .slice a2 n2 c2, .int .i64 has, .bool asd] 29)).alloc (.cells #[.string ⟨#[]⟩, .int .i64 0, .slice none 0 0, .int .i64 0, .slice none 0 0, .int .i64 0, .bool false] 29))) := ⟨rTwo_new w k t1 a1 n1 c1 t2 a2 n2 c2 has asd⟩
  obtain ⟨ok, hok⟩ : ∃ x, rOk ⟨k, t1, b1, t2, b2, has, asd⟩ = x := ⟨_, rfl⟩
  have HOK : Hd (rOk ⟨k, t1, b1, t2, b2, has, asd⟩ = ok) := ⟨hok⟩
  obtain ⟨nw, hnw⟩ : ∃ x, newB has = x := ⟨_, rfl⟩
  have HNW : Hd (newB has = nw) := ⟨hnw⟩
  have EA : Hd (ok = false ∨ nw = false → cutR ⟨k, t1, b1, t2, b2, has, asd⟩ = ⟨k, t1, b1, t2, b2, has, asd⟩) := ⟨fun h => if_pos (h.imp (fun e => hok.trans e) (fun e => hnw.trans e))⟩
  have EB : Hd (ok = true → nw = true → cutR ⟨k, t1, b1, t2, b2, has, asd⟩ = ⟨k, 0, [], t2, b2, 2, false⟩) := ⟨fun e1 e2 => if_neg (fun h => h.elim (fun h => by rw [hok, e1] at h; cases h) (fun h => by have h : newB has = false := h; rw [hnw, e2] at h; cases h))⟩
  
  clear h1 h2 hok hnw
  go_enter Tryz.func14, Tryz.ntmps14
  go_wp2_with fail
  refine (copyRow_any k t1 a1 n1 c1 t2 a2 n2 c2 has asd b1 b2 _ (H1.out.below F0.out.bel) (H2.out.below F0.out.bel) hl1 hl2).mono ?_
  rintro e v1 ⟨x1, y1, x2, y2, rfl, hA, _, hB⟩
  have W1 : Hd (KW w k t1 a1 n1 c1 t2 a2 n2 c2 has asd v1.heap.size k t1 x1 n1 y1 b1 t2 x2 n2 y2 b2 has asd (v1.alloc (.cells #[.string k, .int .i64 t1, .slice x1 n1 y1, .int .i64 t2, .slice x2 n2 y2, .int .i64 has, .bool asd] 29))) := ⟨kw_new (F0.out.below hB) (hA.mono (by simp)) HN1.out HN2.out⟩
  obtain ⟨p0, p1, p2, p3, p4, p5, p6⟩ := cells7 _ w.heap.size _ _ _ _ _ _ _ _ W1.out.two.box
  generalize hd : v1.heap.size = d at *
  clear hA hB F0
  go_wp2_with fail
  generalize hw : (v1.alloc (.cells #[.string k, .int .i64 t1, .slice x1 n1 y1, .int .i64 t2, .slice x2 n2 y2, .int .i64 has, .bool asd] 29)) = V1 at *
  clear hd hw
  refine (implRowOk_any k t1 a1 n1 c1 t2 a2 n2 c2 has asd b1 b2 _ hk (H1.out.below W1.out.two.bel) (H2.out.below W1.out.two.bel) hl1 hl2 ⟨T.out.below W1.out.two.bel⟩).mono ?_
  rintro e v2 ⟨rfl, hB⟩
  rewrite [HOK.out]
  have W2 : Hd (KW w k t1 a1 n1 c1 t2 a2 n2 c2 has asd d k t1 x1 n1 y1 b1 t2 x2 n2 y2 b2 has asd v2) := ⟨W1.out.below hB⟩
  clear hB p0 p1 p2 p3 p4 p5 p6 W1
  cases ok with
  | false =>
    obtain ⟨q0, q1, q2, q3, q4, q5, q6⟩ := cells7 _ d _ _ _ _ _ _ _ _ W2.out.out
    obtain ⟨u0, u1, u2, u3, u4, u5, u6⟩ := free7 _ d _ _ _ _ _ _ _ _ W2.out.out
    obtain ⟨r0, r1, r2, r3, r4, r5, r6⟩ := cells7 _ (w.heap.size + 1) _ _ _ _ _ _ _ _ W2.out.two.res
    obtain ⟨s0, s1, s2, s3, s4, s5, s6⟩ := free7 _ (w.heap.size + 1) _ _ _ _ _ _ _ _ W2.out.two.res
    have hd1 : ¬ w.heap.size + 1 = d := by have := W2.out.wd; omega
    have hd2 : ¬ d = w.heap.size + 1 := by have := W2.out.wd; omega
    have hd3 : ¬ w.heap.size = d := by have := W2.out.wd; omega
    go_wp2_with fail
    refine bodyPost_ret (results_cell_row rfl _ _ (w.heap.size + 1) _ _ (0, 0) _ rfl (set7 _ _ _ _ _ _ _ W2.out.two.res) Tryz.underlying29 rfl (by kernel_rfl)) rfl ?_
    rw [EA.out (by simp)]
    exact W2.out.done
  | true =>
    obtain ⟨p0, p1, p2, p3, p4, p5, p6⟩ := cells7 _ w.heap.size _ _ _ _ _ _ _ _ W2.out.two.box
    have hb2 : bits .and .i64 has 2 = if nw then 2 else 0 := by
      have h9 := HNW.out
      cases nw with
      | true => simpa [newB] using h9
      | false =>
        rcases and_two has with h | h
        · rw [newB, h] at h9; cases h9
        · exact h
    cases nw with
    | false =>
      obtain ⟨q0, q1, q2, q3, q4, q5, q6⟩ := cells7 _ d _ _ _ _ _ _ _ _ W2.out.out
      obtain ⟨u0, u1, u2, u3, u4, u5, u6⟩ := free7 _ d _ _ _ _ _ _ _ _ W2.out.out
      obtain ⟨r0, r1, r2, r3, r4, r5, r6⟩ := cells7 _ (w.heap.size + 1) _ _ _ _ _ _ _ _ W2.out.two.res
      obtain ⟨s0, s1, s2, s3, s4, s5, s6⟩ := free7 _ (w.heap.size + 1) _ _ _ _ _ _ _ _ W2.out.two.res
      have hd1 : ¬ w.heap.size + 1 = d := by have := W2.out.wd; omega
      have hd2 : ¬ d = w.heap.size + 1 := by have := W2.out.wd; omega
      have hd3 : ¬ w.heap.size = d := by have := W2.out.wd; omega
      go_wp2_with fail
      refine bodyPost_ret (results_cell_row rfl _ _ (w.heap.size + 1) _ _ (0, 0) _ rfl (set7 _ _ _ _ _ _ _ W2.out.two.res) Tryz.underlying29 rfl (by kernel_rfl)) rfl ?_
      rw [EA.out (by simp)]
      exact W2.out.done
    | true =>
      obtain ⟨q0, q1, q2, q3, q4, q5, q6⟩ := cells7 _ d _ _ _ _ _ _ _ _ W2.out.out
      obtain ⟨u0, u1, u2, u3, u4, u5, u6⟩ := free7 _ d _ _ _ _ _ _ _ _ W2.out.out
      obtain ⟨r0, r1, r2, r3, r4, r5, r6⟩ := cells7 _ (w.heap.size + 1) _ _ _ _ _ _ _ _ W2.out.two.res
      obtain ⟨s0, s1, s2, s3, s4, s5, s6⟩ := free7 _ (w.heap.size + 1) _ _ _ _ _ _ _ _ W2.out.two.res
      have hd1 : ¬ w.heap.size + 1 = d := by have := W2.out.wd; omega
      have hd2 : ¬ d = w.heap.size + 1 := by have := W2.out.wd; omega
      have hd3 : ¬ w.heap.size = d := by have := W2.out.wd; omega
      have W5 : Hd (KW w k t1 a1 n1 c1 t2 a2 n2 c2 has asd d k 0 none 0 0 [] t2 x2 n2 y2 b2 2 false ((((v2.setCell ⟨d, 1, none⟩ (.int .i64 0)).setCell ⟨d, 2, none⟩ (.slice none 0 0)).setCell ⟨d, 5, none⟩ (.int .i64 2)).setCell ⟨d, 6, none⟩ (.bool false))) := ⟨(W2.out.noOld.setHas 2).setAside false⟩
      go_wp2_with fail
      refine bodyPost_ret (results_cell_row rfl _ _ (w.heap.size + 1) _ _ (0, 0) _ rfl (set7 _ _ _ _ _ _ _ W5.out.two.res) Tryz.underlying29 rfl (by kernel_rfl)) rfl ?_
      rw [EB.out (by simp) (by simp)]
      exact W5.out.done

set_option maxHeartbeats 4000000 in
theorem implBackRow_any (k : ByteArray) (t1 : Int) (a1 : Option Addr) (n1 c1 : Nat) (t2 : Int) (a2 : Option Addr) (n2 c2 : Nat) (has : Int) (asd : Bool) (b1 b2 : List UInt8) (w : World) (hk : k.size ≤ 1048576) (h1 : CellAt w a1 n1 c1 b1) (h2 : CellAt w a2 n2 c2 b2) (hl1 : n1 ≤ 1048576) (hl2 : n2 ≤ 1048576) (T : Hd (AllAt w)) :
    Calls Tryz.prog 15 #[.agg #[.string k, .int .i64 t1, .slice a1 n1 c1, .int .i64 t2, .slice a2 n2 c2, .int .i64 has, .bool asd]] w (RowOut w (backR ⟨k, t1, b1, t2, b2, has, asd⟩)) := by
  have H1 : Hd (CellAt w a1 n1 c1 b1) := ⟨h1⟩
  have H2 : Hd (CellAt w a2 n2 c2 b2) := ⟨h2⟩
  have HN1 : Hd (b1.length = n1) := ⟨h1.size⟩
  have HN2 : Hd (b2.length = n2) := ⟨h2.size⟩
  have F0 : Hd (RTwo w k t1 a1 n1 c1 t2 a2 n2 c2 has asd ((w.alloc (.cells #[.string k, .int .i64 t1, .slice a1 n1 c1, .int .i64 t2, .slice a2 n2 c2, .int .i64 has, .bool asd] 29)).alloc (.cells #[.string ⟨#[]⟩, .int .i64 0, .slice none 0 0, .int .i64 0, .slice none 0 0, .int .i64 0, .bool false] 29))) := ⟨rTwo_new w k t1 a1 n1 c1 t2 a2 n2 c2 has asd⟩
  obtain ⟨ok, hok⟩ : ∃ x, rOk ⟨k, t1, b1, t2, b2, has, asd⟩ = x := ⟨_, rfl⟩
  have HOK : Hd (rOk ⟨k, t1, b1, t2, b2, has, asd⟩ = ok) := ⟨hok⟩
  obtain ⟨nw, hnw⟩ : ∃ x, newB has = x := ⟨_, rfl⟩
  have HNW : Hd (newB has = nw) := ⟨hnw⟩
  have EA : Hd (ok = false ∨ nw = false → backR ⟨k, t1, b1, t2, b2, has, asd⟩ = ⟨k, t1, b1, t2, b2, has, asd⟩) := ⟨fun h => if_pos (h.imp (fun e => hok.trans e) (fun e => hnw.trans e))⟩
  have EB : Hd (ok = true → nw = true → oldB has = true → backR ⟨k, t1, b1, t2, b2, has, asd⟩ = ⟨k, t1, b1, 0, [], 1, false⟩) := ⟨fun e1 e2 e3 => (if_neg (fun h => h.elim (fun h => by rw [hok, e1] at h; cases h) (fun h => by have h : newB has = false := h; rw [hnw, e2] at h; cases h))).trans (if_pos e3)⟩
  have EC : Hd (ok = true → nw = true → oldB has = false → backR ⟨k, t1, b1, t2, b2, has, asd⟩ = ⟨k, t1, b1, t2, b2, has, true⟩) := ⟨fun e1 e2 e3 => (if_neg (fun h => h.elim (fun h => by rw [hok, e1] at h; cases h) (fun h => by have h : newB has = false := h; rw [hnw, e2] at h; cases h))).trans (if_neg (by show ¬ oldB has = true; rw [e3]; simp))⟩
  have HH : Hd (ok = true → has = 1 ∨ has = 2 ∨ has = 3) := ⟨fun e => by
    have h9 := hok.trans e
    simp only [rOk, Bool.and_eq_true] at h9
    exact has_cases h9.1.1.1.1.1.1.2⟩
  clear h1 h2 hok hnw
  go_enter Tryz.func15, Tryz.ntmps15
  go_wp2_with fail
  refine (copyRow_any k t1 a1 n1 c1 t2 a2 n2 c2 has asd b1 b2 _ (H1.out.below F0.out.bel) (H2.out.below F0.out.bel) hl1 hl2).mono ?_
  rintro e v1 ⟨x1, y1, x2, y2, rfl, hA, _, hB⟩
  have W1 : Hd (KW w k t1 a1 n1 c1 t2 a2 n2 c2 has asd v1.heap.size k t1 x1 n1 y1 b1 t2 x2 n2 y2 b2 has asd (v1.alloc (.cells #[.string k, .int .i64 t1, .slice x1 n1 y1, .int .i64 t2, .slice x2 n2 y2, .int .i64 has, .bool asd] 29))) := ⟨kw_new (F0.out.below hB) (hA.mono (by simp)) HN1.out HN2.out⟩
  obtain ⟨p0, p1, p2, p3, p4, p5, p6⟩ := cells7 _ w.heap.size _ _ _ _ _ _ _ _ W1.out.two.box
  generalize hd : v1.heap.size = d at *
  clear hA hB F0
  go_wp2_with fail
  generalize hw : (v1.alloc (.cells #[.string k, .int .i64 t1, .slice x1 n1 y1, .int .i64 t2, .slice x2 n2 y2, .int .i64 has, .bool asd] 29)) = V1 at *
  clear hd hw
  refine (implRowOk_any k t1 a1 n1 c1 t2 a2 n2 c2 has asd b1 b2 _ hk (H1.out.below W1.out.two.bel) (H2.out.below W1.out.two.bel) hl1 hl2 ⟨T.out.below W1.out.two.bel⟩).mono ?_
  rintro e v2 ⟨rfl, hB⟩
  rewrite [HOK.out]
  have W2 : Hd (KW w k t1 a1 n1 c1 t2 a2 n2 c2 has asd d k t1 x1 n1 y1 b1 t2 x2 n2 y2 b2 has asd v2) := ⟨W1.out.below hB⟩
  clear hB p0 p1 p2 p3 p4 p5 p6 W1
  cases ok with
  | false =>
    obtain ⟨q0, q1, q2, q3, q4, q5, q6⟩ := cells7 _ d _ _ _ _ _ _ _ _ W2.out.out
    obtain ⟨u0, u1, u2, u3, u4, u5, u6⟩ := free7 _ d _ _ _ _ _ _ _ _ W2.out.out
    obtain ⟨r0, r1, r2, r3, r4, r5, r6⟩ := cells7 _ (w.heap.size + 1) _ _ _ _ _ _ _ _ W2.out.two.res
    obtain ⟨s0, s1, s2, s3, s4, s5, s6⟩ := free7 _ (w.heap.size + 1) _ _ _ _ _ _ _ _ W2.out.two.res
    have hd1 : ¬ w.heap.size + 1 = d := by have := W2.out.wd; omega
    have hd2 : ¬ d = w.heap.size + 1 := by have := W2.out.wd; omega
    have hd3 : ¬ w.heap.size = d := by have := W2.out.wd; omega
    go_wp2_with fail
    refine bodyPost_ret (results_cell_row rfl _ _ (w.heap.size + 1) _ _ (0, 0) _ rfl (set7 _ _ _ _ _ _ _ W2.out.two.res) Tryz.underlying29 rfl (by kernel_rfl)) rfl ?_
    rw [EA.out (by simp)]
    exact W2.out.done
  | true =>
    rcases HH.out rfl with rfl | rfl | rfl
    · have e1 : nw = false := HNW.out.symm.trans has_one.2
      subst e1
      obtain ⟨p0, p1, p2, p3, p4, p5, p6⟩ := cells7 _ w.heap.size _ _ _ _ _ _ _ _ W2.out.two.box
      obtain ⟨q0, q1, q2, q3, q4, q5, q6⟩ := cells7 _ d _ _ _ _ _ _ _ _ W2.out.out
      obtain ⟨u0, u1, u2, u3, u4, u5, u6⟩ := free7 _ d _ _ _ _ _ _ _ _ W2.out.out
      obtain ⟨r0, r1, r2, r3, r4, r5, r6⟩ := cells7 _ (w.heap.size + 1) _ _ _ _ _ _ _ _ W2.out.two.res
      obtain ⟨s0, s1, s2, s3, s4, s5, s6⟩ := free7 _ (w.heap.size + 1) _ _ _ _ _ _ _ _ W2.out.two.res
      have hd1 : ¬ w.heap.size + 1 = d := by have := W2.out.wd; omega
      have hd2 : ¬ d = w.heap.size + 1 := by have := W2.out.wd; omega
      have hd3 : ¬ w.heap.size = d := by have := W2.out.wd; omega
      go_wp2_with fail
      refine bodyPost_ret (results_cell_row rfl _ _ (w.heap.size + 1) _ _ (0, 0) _ rfl (set7 _ _ _ _ _ _ _ W2.out.two.res) Tryz.underlying29 rfl (by kernel_rfl)) rfl ?_
      rw [EA.out (by simp)]
      exact W2.out.done
    · have e1 : nw = true := HNW.out.symm.trans has_two.2
      subst e1
      obtain ⟨p0, p1, p2, p3, p4, p5, p6⟩ := cells7 _ w.heap.size _ _ _ _ _ _ _ _ W2.out.two.box
      obtain ⟨q0, q1, q2, q3, q4, q5, q6⟩ := cells7 _ d _ _ _ _ _ _ _ _ W2.out.out
      obtain ⟨u0, u1, u2, u3, u4, u5, u6⟩ := free7 _ d _ _ _ _ _ _ _ _ W2.out.out
      obtain ⟨r0, r1, r2, r3, r4, r5, r6⟩ := cells7 _ (w.heap.size + 1) _ _ _ _ _ _ _ _ W2.out.two.res
      obtain ⟨s0, s1, s2, s3, s4, s5, s6⟩ := free7 _ (w.heap.size + 1) _ _ _ _ _ _ _ _ W2.out.two.res
      have hd1 : ¬ w.heap.size + 1 = d := by have := W2.out.wd; omega
      have hd2 : ¬ d = w.heap.size + 1 := by have := W2.out.wd; omega
      have hd3 : ¬ w.heap.size = d := by have := W2.out.wd; omega
      have W5 : Hd (KW w k t1 a1 n1 c1 t2 a2 n2 c2 2 asd d k t1 x1 n1 y1 b1 t2 x2 n2 y2 b2 2 true (v2.setCell ⟨d, 6, none⟩ (.bool true))) := ⟨W2.out.setAside true⟩
      go_wp2_with fail
      refine bodyPost_ret (results_cell_row rfl _ _ (w.heap.size + 1) _ _ (0, 0) _ rfl (set7 _ _ _ _ _ _ _ W5.out.two.res) Tryz.underlying29 rfl (by kernel_rfl)) rfl ?_
      rw [EC.out (by simp) (by simp) has_two.1]
      exact W5.out.done
    · have e1 : nw = true := HNW.out.symm.trans has_three.2
      subst e1
      obtain ⟨p0, p1, p2, p3, p4, p5, p6⟩ := cells7 _ w.heap.size _ _ _ _ _ _ _ _ W2.out.two.box
      obtain ⟨q0, q1, q2, q3, q4, q5, q6⟩ := cells7 _ d _ _ _ _ _ _ _ _ W2.out.out
      obtain ⟨u0, u1, u2, u3, u4, u5, u6⟩ := free7 _ d _ _ _ _ _ _ _ _ W2.out.out
      obtain ⟨r0, r1, r2, r3, r4, r5, r6⟩ := cells7 _ (w.heap.size + 1) _ _ _ _ _ _ _ _ W2.out.two.res
      obtain ⟨s0, s1, s2, s3, s4, s5, s6⟩ := free7 _ (w.heap.size + 1) _ _ _ _ _ _ _ _ W2.out.two.res
      have hd1 : ¬ w.heap.size + 1 = d := by have := W2.out.wd; omega
      have hd2 : ¬ d = w.heap.size + 1 := by have := W2.out.wd; omega
      have hd3 : ¬ w.heap.size = d := by have := W2.out.wd; omega
      have W5 : Hd (KW w k t1 a1 n1 c1 t2 a2 n2 c2 3 asd d k t1 x1 n1 y1 b1 0 none 0 0 [] 1 false ((((v2.setCell ⟨d, 3, none⟩ (.int .i64 0)).setCell ⟨d, 4, none⟩ (.slice none 0 0)).setCell ⟨d, 5, none⟩ (.int .i64 1)).setCell ⟨d, 6, none⟩ (.bool false))) := ⟨(W2.out.noNew.setHas 1).setAside false⟩
      go_wp2_with fail
      refine bodyPost_ret (results_cell_row rfl _ _ (w.heap.size + 1) _ _ (0, 0) _ rfl (set7 _ _ _ _ _ _ _ W5.out.two.res) Tryz.underlying29 rfl (by kernel_rfl)) rfl ?_
      rw [EB.out (by simp) (by simp) has_three.1]
      exact W5.out.done

set_option maxHeartbeats 4000000 in
theorem implRowOf_any (p : Int) (k : ByteArray) (cs : Int) (s : ByteArray) (w : World) (hk : k.size ≤ 1048576) (hs : s.size ≤ 1048576) (T : Hd (AllAt w)) :
    Calls Tryz.prog 7 #[.int .i64 p, .string k, .int .i64 cs, .string s] w (RowTup w (rowV p k cs s.data.toList) (rowC p k cs s.data.toList)) := by
  generalize ht : s.data.toList = t
  have Ht : Hd (s.data.toList = t) := ⟨ht⟩
  clear ht
  obtain ⟨ip, h9⟩ : ∃ x, inB p 0 7 = x := ⟨_, rfl⟩
  have HIP : Hd (inB p 0 7 = ip) := ⟨h9⟩
  clear h9
  obtain ⟨nk, h9⟩ : ∃ x, nameOkB k = x := ⟨_, rfl⟩
  have HNK : Hd (nameOkB k = nk) := ⟨h9⟩
  clear h9
  obtain ⟨ic, h9⟩ : ∃ x, inB cs 1 5 = x := ⟨_, rfl⟩
  have HIC : Hd (inB cs 1 5 = ic) := ⟨h9⟩
  clear h9
  obtain ⟨ou, h9⟩ : ∃ x, oOk 0 t = x := ⟨_, rfl⟩
  have HOU : Hd (oOk 0 t = ou) := ⟨h9⟩
  clear h9
  obtain ⟨oo, h9⟩ : ∃ x, oOk cs t = x := ⟨_, rfl⟩
  have HOO : Hd (oOk cs t = oo) := ⟨h9⟩
  clear h9
  obtain ⟨xu, h9⟩ : ∃ x, oB 0 t = x := ⟨_, rfl⟩
  have HXU : Hd (oB 0 t = xu) := ⟨h9⟩
  clear h9
  obtain ⟨xo, h9⟩ : ∃ x, oB cs t = x := ⟨_, rfl⟩
  have HXO : Hd (oB cs t = xo) := ⟨h9⟩
  clear h9
  obtain ⟨gu, h9⟩ : ∃ x, oTag 0 t = x := ⟨_, rfl⟩
  have HGU : Hd (oTag 0 t = gu) := ⟨h9⟩
  clear h9
  obtain ⟨go, h9⟩ : ∃ x, oTag cs t = x := ⟨_, rfl⟩
  have HGO : Hd (oTag cs t = go) := ⟨h9⟩
  clear h9
  have EU : Hd (ou = true → gu = 0 ∧ encS 0 t = xu) := ⟨fun e => by obtain ⟨_, _, e1, e2⟩ := oOk_t (HOU.out.trans e); exact ⟨HGU.out.symm.trans e1, e2.symm.trans HXU.out⟩⟩
  have EO : Hd (oo = true → go = cs ∧ encS cs t = xo) := ⟨fun e => by obtain ⟨_, _, e1, e2⟩ := oOk_t (HOO.out.trans e); exact ⟨HGO.out.symm.trans e1, e2.symm.trans HXO.out⟩⟩
  go_enter Tryz.func7, Tryz.ntmps7
  go_wp2_with fail
  refine (implCellOf_any 0 s _ hs ⟨T.out.below (below_lit w _)⟩).mono ?_
  rewrite [Ht.out, HOU.out, HXU.out, HGU.out]
  rintro e v1 ⟨au, nu, cu, rfl, hn, hO, hsz, hB⟩
  have U1 : Hd (UCell w v1.heap.size gu au nu cu xu (v1.alloc (.cells #[.int .i64 gu, .slice au nu cu] 27))) := ⟨uCell_new hn hO hsz hB⟩
  generalize hd : v1.heap.size = d1 at *
  clear hn hO hsz hB
  cases ou with
  | false =>
    obtain ⟨r0, r1, r2, r3, r4, r5, r6⟩ := cells7 _ w.heap.size _ _ _ _ _ _ _ _ U1.out.res
    obtain ⟨s0, s1, s2, s3, s4, s5, s6⟩ := free7 _ w.heap.size _ _ _ _ _ _ _ _ U1.out.res
    go_wp2_with fail
    refine bodyPost_ret (results_row_tmp rfl _ _ w.heap.size _ _ (0, 0) _ rfl (set7 _ _ _ _ _ _ _ U1.out.res) Tryz.underlying29 rfl (by kernel_rfl)) rfl ?_
    rw [(rowV_f (p := p) (k := k) (cs := cs) (s := t) (by unfold formB; rw [HOU.out]; simp)).1, (rowV_f (p := p) (k := k) (cs := cs) (s := t) (by unfold formB; rw [HOU.out]; simp)).2]
    exact rowTup_of U1.out.bel U1.out.sz ⟨.inl ⟨rfl, rfl, rfl⟩, .inl ⟨rfl, rfl, rfl⟩, fun q hq => by cases hq⟩ rfl rfl 1
  | true =>
    by_cases l0 : p < 0
    · obtain ⟨r0, r1, r2, r3, r4, r5, r6⟩ := cells7 _ w.heap.size _ _ _ _ _ _ _ _ U1.out.res
      obtain ⟨s0, s1, s2, s3, s4, s5, s6⟩ := free7 _ w.heap.size _ _ _ _ _ _ _ _ U1.out.res
      go_wp2_with fail
      refine bodyPost_ret (results_row_tmp rfl _ _ w.heap.size _ _ (0, 0) _ rfl (set7 _ _ _ _ _ _ _ U1.out.res) Tryz.underlying29 rfl (by kernel_rfl)) rfl ?_
      rw [(rowV_f (p := p) (k := k) (cs := cs) (s := t) (by exact formB_p (.inl l0))).1, (rowV_f (p := p) (k := k) (cs := cs) (s := t) (by exact formB_p (.inl l0))).2]
      exact rowTup_of U1.out.bel U1.out.sz ⟨.inl ⟨rfl, rfl, rfl⟩, .inl ⟨rfl, rfl, rfl⟩, fun q hq => by cases hq⟩ rfl rfl 1
    by_cases l7 : p > 7
    · obtain ⟨r0, r1, r2, r3, r4, r5, r6⟩ := cells7 _ w.heap.size _ _ _ _ _ _ _ _ U1.out.res
      obtain ⟨s0, s1, s2, s3, s4, s5, s6⟩ := free7 _ w.heap.size _ _ _ _ _ _ _ _ U1.out.res
      go_wp2_with fail
      refine bodyPost_ret (results_row_tmp rfl _ _ w.heap.size _ _ (0, 0) _ rfl (set7 _ _ _ _ _ _ _ U1.out.res) Tryz.underlying29 rfl (by kernel_rfl)) rfl ?_
      rw [(rowV_f (p := p) (k := k) (cs := cs) (s := t) (by exact formB_p (.inr l7))).1, (rowV_f (p := p) (k := k) (cs := cs) (s := t) (by exact formB_p (.inr l7))).2]
      exact rowTup_of U1.out.bel U1.out.sz ⟨.inl ⟨rfl, rfl, rfl⟩, .inl ⟨rfl, rfl, rfl⟩, fun q hq => by cases hq⟩ rfl rfl 1
    have e9 : ip = true := HIP.out.symm.trans (in_t ⟨by omega, by omega⟩)
    subst e9
    go_wp2_with fail
    generalize hw : (v1.alloc (.cells #[.int .i64 gu, .slice au nu cu] 27)) = V1 at *
    clear hd hw
    refine (implNameOk_any k _ hk).mono ?_
    rintro e v3 ⟨rfl, hw⟩
    replace hw := same_below hw
    rewrite [HNK.out]
    have U3 : Hd (UCell w d1 gu au nu cu xu v3) := ⟨U1.out.below hw⟩
    clear hw U1
    cases nk with
    | false =>
      obtain ⟨r0, r1, r2, r3, r4, r5, r6⟩ := cells7 _ w.heap.size _ _ _ _ _ _ _ _ U3.out.res
      obtain ⟨s0, s1, s2, s3, s4, s5, s6⟩ := free7 _ w.heap.size _ _ _ _ _ _ _ _ U3.out.res
      go_wp2_with fail
      refine bodyPost_ret (results_row_tmp rfl _ _ w.heap.size _ _ (0, 0) _ rfl (set7 _ _ _ _ _ _ _ U3.out.res) Tryz.underlying29 rfl (by kernel_rfl)) rfl ?_
      rw [(rowV_f (p := p) (k := k) (cs := cs) (s := t) (by unfold formB; rw [HNK.out]; simp)).1, (rowV_f (p := p) (k := k) (cs := cs) (s := t) (by unfold formB; rw [HNK.out]; simp)).2]
      exact rowTup_of U3.out.bel U3.out.sz ⟨.inl ⟨rfl, rfl, rfl⟩, .inl ⟨rfl, rfl, rfl⟩, fun q hq => by cases hq⟩ rfl rfl 1
    | true =>
      go_wp2_with fail
      refine (isOldSet_any cs _).mono ?_
      rintro e v4 ⟨rfl, hw⟩
      replace hw := same_below hw
      rewrite [HIC.out]
      have U4 : Hd (UCell w d1 gu au nu cu xu v4) := ⟨U3.out.below hw⟩
      clear hw U3
      cases ic with
      | false =>
        obtain ⟨r0, r1, r2, r3, r4, r5, r6⟩ := cells7 _ w.heap.size _ _ _ _ _ _ _ _ U4.out.res
        obtain ⟨s0, s1, s2, s3, s4, s5, s6⟩ := free7 _ w.heap.size _ _ _ _ _ _ _ _ U4.out.res
        go_wp2_with fail
        refine bodyPost_ret (results_row_tmp rfl _ _ w.heap.size _ _ (0, 0) _ rfl (set7 _ _ _ _ _ _ _ U4.out.res) Tryz.underlying29 rfl (by kernel_rfl)) rfl ?_
        rw [(rowV_f (p := p) (k := k) (cs := cs) (s := t) (by unfold formB; rw [HIC.out]; simp)).1, (rowV_f (p := p) (k := k) (cs := cs) (s := t) (by unfold formB; rw [HIC.out]; simp)).2]
        exact rowTup_of U4.out.bel U4.out.sz ⟨.inl ⟨rfl, rfl, rfl⟩, .inl ⟨rfl, rfl, rfl⟩, fun q hq => by cases hq⟩ rfl rfl 1
      | true =>
        obtain ⟨hg0, hxu⟩ : gu = 0 ∧ encS 0 t = xu := by simpa using EU.out
        subst hg0
        have HU : Hd (encS 0 t = xu) := ⟨hxu⟩
        clear hxu
        have HF : Hd (formB p k cs t = true) := ⟨by unfold formB; rw [HIP.out, HNK.out, HIC.out, HOU.out]; rfl⟩
        go_wp2_with fail
        refine (implCellOf_any cs s _ hs ⟨T.out.below U4.out.bel⟩).mono ?_
        rewrite [Ht.out, HOO.out, HXO.out, HGO.out]
        rintro e v5 ⟨a5, n5, c5, rfl, hn, hO, hsz, hB⟩
        have U5 : Hd (OCell w d1 0 au nu cu xu v5.heap.size go a5 n5 c5 xo (v5.alloc (.cells #[.int .i64 go, .slice a5 n5 c5] 27))) := ⟨oCell_new U4.out hn hO hB⟩
        generalize hd5 : v5.heap.size = d5 at *
        clear hn hO hsz hB U4
        have hp : p = 0 ∨ p = 1 ∨ p = 2 ∨ p = 3 ∨ p = 4 ∨ p = 5 ∨ p = 6 ∨ p = 7 := by have h9 := HIP.out; unfold inB at h9; rw [decide_eq_true_iff] at h9; omega
        have n1 : ¬ d1 = d5 := by have := U5.out.dd; omega
        have n2 : ¬ d5 = d1 := fun h => n1 h.symm
        have n3 : ¬ w.heap.size = d1 := by have := U5.out.wd; omega
        have n4 : ¬ w.heap.size = d5 := by have := U5.out.wd; have := U5.out.dd; omega
        obtain ⟨r0, r1, r2, r3, r4, r5, r6⟩ := cells7 _ w.heap.size _ _ _ _ _ _ _ _ U5.out.res
        obtain ⟨s0, s1, s2, s3, s4, s5, s6⟩ := free7 _ w.heap.size _ _ _ _ _ _ _ _ U5.out.res
        obtain ⟨k0, k1, _, _⟩ := cells2 _ d1 _ _ _ U5.out.box1
        obtain ⟨j0, j1, _, _⟩ := cells2 _ d5 _ _ _ U5.out.box2
        rcases hp with rfl | rfl | rfl | rfl | rfl | rfl | rfl | rfl
        · cases oo with
          | false =>
            go_wp2_with fail
            refine bodyPost_ret (results_row_tmp rfl _ _ w.heap.size _ _ (0, 0) _ rfl (set7 _ _ _ _ _ _ _ U5.out.res) Tryz.underlying29 rfl (by kernel_rfl)) rfl ?_
            rw [(rowV_unfit HF.out (by omega) HOO.out).1, (rowV_unfit HF.out (by omega) HOO.out).2]
            exact rowTup_of U5.out.bel U5.out.sz ⟨.inl ⟨rfl, rfl, rfl⟩, .inl ⟨rfl, rfl, rfl⟩, fun q hq => by cases hq⟩ rfl rfl 3
          | true =>
            obtain ⟨ho0, hxo⟩ : go = cs ∧ encS cs t = xo := by simpa using EO.out
            subst ho0
            have HXX : Hd (encS _ t = xo) := ⟨hxo⟩
            clear hxo
            go_wp2_with fail
            refine bodyPost_ret (results_row_tmp rfl _ _ w.heap.size _ _ (0, 0) _ rfl (set7 _ _ _ _ _ _ _ U5.out.res) Tryz.underlying29 rfl (by kernel_rfl)) rfl ?_
            rw [(rowV_old HF.out (by omega) HOO.out HXX.out).1, (rowV_old HF.out (by omega) HOO.out HXX.out).2]
            exact rowTup_of U5.out.bel U5.out.sz ⟨U5.out.own2, .inl ⟨rfl, rfl, rfl⟩, fun q hq h2 => by cases h2⟩ U5.out.len2 rfl 0
        · cases oo with
          | false =>
            go_wp2_with fail
            refine bodyPost_ret (results_row_tmp rfl _ _ w.heap.size _ _ (0, 0) _ rfl (set7 _ _ _ _ _ _ _ U5.out.res) Tryz.underlying29 rfl (by kernel_rfl)) rfl ?_
            rw [(rowV_aside HF.out (by omega) HOO.out HU.out).1, (rowV_aside HF.out (by omega) HOO.out HU.out).2]
            exact rowTup_of U5.out.bel U5.out.sz ⟨.inl ⟨rfl, rfl, rfl⟩, U5.out.own1, fun q hq => by cases hq⟩ rfl U5.out.len1 0
          | true =>
            obtain ⟨ho0, hxo⟩ : go = cs ∧ encS cs t = xo := by simpa using EO.out
            subst ho0
            have HXX : Hd (encS _ t = xo) := ⟨hxo⟩
            clear hxo
            go_wp2_with fail
            refine bodyPost_ret (results_row_tmp rfl _ _ w.heap.size _ _ (0, 0) _ rfl (set7 _ _ _ _ _ _ _ U5.out.res) Tryz.underlying29 rfl (by kernel_rfl)) rfl ?_
            rw [(rowV_both HF.out (by omega) HOO.out HXX.out HU.out).1, (rowV_both HF.out (by omega) HOO.out HXX.out HU.out).2]
            exact rowTup_of U5.out.bel U5.out.sz ⟨U5.out.own2, U5.out.own1, U5.out.ne⟩ U5.out.len2 U5.out.len1 0
        · cases oo with
          | false =>
            go_wp2_with fail
            refine bodyPost_ret (results_row_tmp rfl _ _ w.heap.size _ _ (0, 0) _ rfl (set7 _ _ _ _ _ _ _ U5.out.res) Tryz.underlying29 rfl (by kernel_rfl)) rfl ?_
            rw [(rowV_aside HF.out (by omega) HOO.out HU.out).1, (rowV_aside HF.out (by omega) HOO.out HU.out).2]
            exact rowTup_of U5.out.bel U5.out.sz ⟨.inl ⟨rfl, rfl, rfl⟩, U5.out.own1, fun q hq => by cases hq⟩ rfl U5.out.len1 0
          | true =>
            obtain ⟨ho0, hxo⟩ : go = cs ∧ encS cs t = xo := by simpa using EO.out
            subst ho0
            have HXX : Hd (encS _ t = xo) := ⟨hxo⟩
            clear hxo
            go_wp2_with fail
            refine bodyPost_ret (results_row_tmp rfl _ _ w.heap.size _ _ (0, 0) _ rfl (set7 _ _ _ _ _ _ _ U5.out.res) Tryz.underlying29 rfl (by kernel_rfl)) rfl ?_
            rw [(rowV_both HF.out (by omega) HOO.out HXX.out HU.out).1, (rowV_both HF.out (by omega) HOO.out HXX.out HU.out).2]
            exact rowTup_of U5.out.bel U5.out.sz ⟨U5.out.own2, U5.out.own1, U5.out.ne⟩ U5.out.len2 U5.out.len1 0
        · cases oo with
          | false =>
            go_wp2_with fail
            refine bodyPost_ret (results_row_tmp rfl _ _ w.heap.size _ _ (0, 0) _ rfl (set7 _ _ _ _ _ _ _ U5.out.res) Tryz.underlying29 rfl (by kernel_rfl)) rfl ?_
            rw [(rowV_aside HF.out (by omega) HOO.out HU.out).1, (rowV_aside HF.out (by omega) HOO.out HU.out).2]
            exact rowTup_of U5.out.bel U5.out.sz ⟨.inl ⟨rfl, rfl, rfl⟩, U5.out.own1, fun q hq => by cases hq⟩ rfl U5.out.len1 0
          | true =>
            obtain ⟨ho0, hxo⟩ : go = cs ∧ encS cs t = xo := by simpa using EO.out
            subst ho0
            have HXX : Hd (encS _ t = xo) := ⟨hxo⟩
            clear hxo
            go_wp2_with fail
            refine bodyPost_ret (results_row_tmp rfl _ _ w.heap.size _ _ (0, 0) _ rfl (set7 _ _ _ _ _ _ _ U5.out.res) Tryz.underlying29 rfl (by kernel_rfl)) rfl ?_
            rw [(rowV_both HF.out (by omega) HOO.out HXX.out HU.out).1, (rowV_both HF.out (by omega) HOO.out HXX.out HU.out).2]
            exact rowTup_of U5.out.bel U5.out.sz ⟨U5.out.own2, U5.out.own1, U5.out.ne⟩ U5.out.len2 U5.out.len1 0
        · go_wp2_with fail
          refine bodyPost_ret (results_row_tmp rfl _ _ w.heap.size _ _ (0, 0) _ rfl (set7 _ _ _ _ _ _ _ U5.out.res) Tryz.underlying29 rfl (by kernel_rfl)) rfl ?_
          rw [(rowV_new HF.out (by omega) HU.out).1, (rowV_new HF.out (by omega) HU.out).2]
          exact rowTup_of U5.out.bel U5.out.sz ⟨.inl ⟨rfl, rfl, rfl⟩, U5.out.own1, fun q hq => by cases hq⟩ rfl U5.out.len1 0
        · go_wp2_with fail
          refine bodyPost_ret (results_row_tmp rfl _ _ w.heap.size _ _ (0, 0) _ rfl (set7 _ _ _ _ _ _ _ U5.out.res) Tryz.underlying29 rfl (by kernel_rfl)) rfl ?_
          rw [(rowV_new HF.out (by omega) HU.out).1, (rowV_new HF.out (by omega) HU.out).2]
          exact rowTup_of U5.out.bel U5.out.sz ⟨.inl ⟨rfl, rfl, rfl⟩, U5.out.own1, fun q hq => by cases hq⟩ rfl U5.out.len1 0
        · cases oo with
          | false =>
            go_wp2_with fail
            refine bodyPost_ret (results_row_tmp rfl _ _ w.heap.size _ _ (0, 0) _ rfl (set7 _ _ _ _ _ _ _ U5.out.res) Tryz.underlying29 rfl (by kernel_rfl)) rfl ?_
            rw [(rowV_aside HF.out (by omega) HOO.out HU.out).1, (rowV_aside HF.out (by omega) HOO.out HU.out).2]
            exact rowTup_of U5.out.bel U5.out.sz ⟨.inl ⟨rfl, rfl, rfl⟩, U5.out.own1, fun q hq => by cases hq⟩ rfl U5.out.len1 0
          | true =>
            obtain ⟨ho0, hxo⟩ : go = cs ∧ encS cs t = xo := by simpa using EO.out
            subst ho0
            have HXX : Hd (encS _ t = xo) := ⟨hxo⟩
            clear hxo
            go_wp2_with fail
            refine bodyPost_ret (results_row_tmp rfl _ _ w.heap.size _ _ (0, 0) _ rfl (set7 _ _ _ _ _ _ _ U5.out.res) Tryz.underlying29 rfl (by kernel_rfl)) rfl ?_
            rw [(rowV_old HF.out (by omega) HOO.out HXX.out).1, (rowV_old HF.out (by omega) HOO.out HXX.out).2]
            exact rowTup_of U5.out.bel U5.out.sz ⟨U5.out.own2, .inl ⟨rfl, rfl, rfl⟩, fun q hq h2 => by cases h2⟩ U5.out.len2 rfl 0
        · cases oo with
          | false =>
            go_wp2_with fail
            refine bodyPost_ret (results_row_tmp rfl _ _ w.heap.size _ _ (0, 0) _ rfl (set7 _ _ _ _ _ _ _ U5.out.res) Tryz.underlying29 rfl (by kernel_rfl)) rfl ?_
            rw [(rowV_unfit HF.out (by omega) HOO.out).1, (rowV_unfit HF.out (by omega) HOO.out).2]
            exact rowTup_of U5.out.bel U5.out.sz ⟨.inl ⟨rfl, rfl, rfl⟩, .inl ⟨rfl, rfl, rfl⟩, fun q hq => by cases hq⟩ rfl rfl 3
          | true =>
            obtain ⟨ho0, hxo⟩ : go = cs ∧ encS cs t = xo := by simpa using EO.out
            subst ho0
            have HXX : Hd (encS _ t = xo) := ⟨hxo⟩
            clear hxo
            go_wp2_with fail
            refine bodyPost_ret (results_row_tmp rfl _ _ w.heap.size _ _ (0, 0) _ rfl (set7 _ _ _ _ _ _ _ U5.out.res) Tryz.underlying29 rfl (by kernel_rfl)) rfl ?_
            rw [(rowV_old HF.out (by omega) HOO.out HXX.out).1, (rowV_old HF.out (by omega) HOO.out HXX.out).2]
            exact rowTup_of U5.out.bel U5.out.sz ⟨U5.out.own2, .inl ⟨rfl, rfl, rfl⟩, fun q hq h2 => by cases h2⟩ U5.out.len2 rfl 0

end Go.Proofs.YtpafjehphajbhaaGreatDoor
