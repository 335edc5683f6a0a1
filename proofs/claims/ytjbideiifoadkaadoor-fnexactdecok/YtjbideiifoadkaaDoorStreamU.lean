/- Plain facts: bytes of today that are filled up, by the least and by the greatest bytes, are signs just where they begin one. -/
import Derived.Test.YtjbideiifoadkaaDoorStreamP
namespace Go.Proofs.YtjbideiifoadkaaDoor
set_option maxRecDepth 4000
open Go.RowKit

def fill (t : List UInt8) (x : UInt8) : List UInt8 := t ++ List.replicate (l2len (gv t 0) - t.length) x
def lowF (t : List UInt8) : List UInt8 := if t.length = 1 then (if gv t 0 = 224 then (fill t 128).set 1 160 else if gv t 0 = 240 then (fill t 128).set 1 144 else fill t 128) else fill t 128
def highF (t : List UInt8) : List UInt8 := if t.length = 1 then (if gv t 0 = 237 then (fill t 191).set 1 159 else if gv t 0 = 244 then (fill t 191).set 1 143 else fill t 191) else fill t 191

theorem fill_len {t : List UInt8} {x : UInt8} (h : t.length < l2len (gv t 0)) : (fill t x).length = l2len (gv t 0) := by
  unfold fill; rw [List.length_append, List.length_replicate]; omega
theorem lowF_len {t : List UInt8} (h : t.length < l2len (gv t 0)) : (lowF t).length = l2len (gv t 0) := by
  unfold lowF; repeat' split
  all_goals first | exact fill_len h | (rw [List.length_set]; exact fill_len h)
theorem highF_len {t : List UInt8} (h : t.length < l2len (gv t 0)) : (highF t).length = l2len (gv t 0) := by
  unfold highF; repeat' split
  all_goals first | exact fill_len h | (rw [List.length_set]; exact fill_len h)

theorem got_eq {l : List UInt8} (h : ∃ n, isSign n ∧ signB n = l) : gotB l = true := by
  obtain ⟨n, h1, h2⟩ := h
  exact gotB_of (n := n) ⟨h1, by rw [h2]; exact List.prefix_rfl⟩
theorem b128 : (128 : UInt8) = bt 128 := rfl
theorem b191 : (191 : UInt8) = bt 191 := rfl
theorem b160 : (160 : UInt8) = bt 160 := rfl
theorem b144 : (144 : UInt8) = bt 144 := rfl
theorem b159 : (159 : UInt8) = bt 159 := rfl
theorem b143 : (143 : UInt8) = bt 143 := rfl

theorem len2 {x : Nat} (h1 : 194 ≤ x) (h2 : x ≤ 223) : l2len x = 2 := by unfold l2len; rw [if_neg (by omega), if_pos ⟨h1, h2⟩]
theorem len3 {x : Nat} (h1 : 224 ≤ x) (h2 : x ≤ 239) : l2len x = 3 := by unfold l2len; rw [if_neg (by omega), if_neg (by omega), if_pos ⟨h1, h2⟩]
theorem len4 {x : Nat} (h1 : 240 ≤ x) (h2 : x ≤ 244) : l2len x = 4 := by unfold l2len; rw [if_neg (by omega), if_neg (by omega), if_neg (by omega), if_pos ⟨h1, h2⟩]
theorem len_in {x k : Nat} (h : k < l2len x) (hk : 1 ≤ k) : (194 ≤ x ∧ x ≤ 223 ∧ l2len x = 2) ∨ (224 ≤ x ∧ x ≤ 239 ∧ l2len x = 3) ∨ (240 ≤ x ∧ x ≤ 244 ∧ l2len x = 4) := by
  unfold l2len at h ⊢
  repeat' split at h
  all_goals first | omega | skip
  · rename_i h1 h2; exact Or.inl ⟨h2.1, h2.2, by rw [if_neg h1, if_pos h2]⟩
  · rename_i h1 h2 h3; exact Or.inr (Or.inl ⟨h3.1, h3.2, by rw [if_neg h1, if_neg h2, if_pos h3]⟩)
  · rename_i h1 h2 h3 h4; exact Or.inr (Or.inr ⟨h4.1, h4.2, by rw [if_neg h1, if_neg h2, if_neg h3, if_pos h4]⟩)

theorem fill_is {t : List UInt8} {x : UInt8} {n m : Nat} (h : l2len (gv t 0) = n) (hm : n - t.length = m) : fill t x = t ++ List.replicate m x := by unfold fill; rw [h, hm]

/-- What begins a sign is one when it is filled up by the least bytes. -/
theorem low_got {t : List UInt8} (h : BegU t) : gotB (lowF t) = true := by
  rcases h with ⟨h1, h2, h3⟩ | ⟨h1, h2, h3, h4⟩ | ⟨h1, h2, h3, h4, h5, h6⟩
  · have e := list_one h1
    generalize hx : gv t 0 = x at *
    have hL : lowF t = if x = 224 then (fill t 128).set 1 160 else if x = 240 then (fill t 128).set 1 144 else fill t 128 := by unfold lowF; rw [if_pos h1, hx]
    rw [hL]
    by_cases k2 : x ≤ 223
    · rw [if_neg (by omega), if_neg (by omega), fill_is (n := 2) (m := 1) (by rw [hx]; exact len2 h2 k2) (by omega), e]
      exact got_eq (two_got (b := 128) h2 k2 (by omega) (by omega))
    by_cases k3 : x ≤ 239
    · rw [fill_is (n := 3) (m := 2) (by rw [hx]; exact len3 (by omega) k3) (by omega), e]
      by_cases c : x = 224
      · rw [if_pos c]
        exact got_eq (three_got (a := x) (b := 160) (c := 128) (by omega) k3 (by omega) (by omega) (by omega))
      · rw [if_neg c, if_neg (by omega)]
        exact got_eq (three_got (a := x) (b := 128) (c := 128) (by omega) k3 (by omega) (by omega) (by omega))
    · rw [fill_is (n := 4) (m := 3) (by rw [hx]; exact len4 (by omega) h3) (by omega), e, if_neg (by omega)]
      by_cases c : x = 240
      · rw [if_pos c]
        exact got_eq (four_got (a := x) (b := 144) (c := 128) (d := 128) (by omega) h3 (by omega) (by omega) (by omega) (by omega) (by omega))
      · rw [if_neg c]
        exact got_eq (four_got (a := x) (b := 128) (c := 128) (d := 128) (by omega) h3 (by omega) (by omega) (by omega) (by omega) (by omega))
  · have e := list_two h1
    generalize hx : gv t 0 = x at *
    generalize hy : gv t 1 = y at *
    have hL : lowF t = fill t 128 := by unfold lowF; rw [if_neg (by omega)]
    rw [hL]
    by_cases k3 : x ≤ 239
    · rw [fill_is (n := 3) (m := 1) (by rw [hx]; exact len3 h2 k3) (by omega), e]
      exact got_eq (three_got (c := 128) h2 k3 h4 (by omega) (by omega))
    · rw [fill_is (n := 4) (m := 2) (by rw [hx]; exact len4 (by omega) h3) (by omega), e]
      exact got_eq (four_got (c := 128) (d := 128) (by omega) h3 h4 (by omega) (by omega) (by omega) (by omega))
  · have e := list_three h1
    generalize hx : gv t 0 = x at *
    generalize hy : gv t 1 = y at *
    generalize hz : gv t 2 = z at *
    have hL : lowF t = fill t 128 := by unfold lowF; rw [if_neg (by omega)]
    rw [hL, fill_is (n := 4) (m := 1) (by rw [hx]; exact len4 h2 h3) (by omega), e]
    exact got_eq (four_got (d := 128) h2 h3 h4 h5 h6 (by omega) (by omega))

/-- And by the greatest ones. -/
theorem high_got {t : List UInt8} (h : BegU t) : gotB (highF t) = true := by
  rcases h with ⟨h1, h2, h3⟩ | ⟨h1, h2, h3, h4⟩ | ⟨h1, h2, h3, h4, h5, h6⟩
  · have e := list_one h1
    generalize hx : gv t 0 = x at *
    have hL : highF t = if x = 237 then (fill t 191).set 1 159 else if x = 244 then (fill t 191).set 1 143 else fill t 191 := by unfold highF; rw [if_pos h1, hx]
    rw [hL]
    by_cases k2 : x ≤ 223
    · rw [if_neg (by omega), if_neg (by omega), fill_is (n := 2) (m := 1) (by rw [hx]; exact len2 h2 k2) (by omega), e]
      exact got_eq (two_got (b := 191) h2 k2 (by omega) (by omega))
    by_cases k3 : x ≤ 239
    · rw [fill_is (n := 3) (m := 2) (by rw [hx]; exact len3 (by omega) k3) (by omega), e]
      by_cases c : x = 237
      · rw [if_pos c]
        exact got_eq (three_got (a := x) (b := 159) (c := 191) (by omega) k3 (by omega) (by omega) (by omega))
      · rw [if_neg c, if_neg (by omega)]
        exact got_eq (three_got (a := x) (b := 191) (c := 191) (by omega) k3 (by omega) (by omega) (by omega))
    · rw [fill_is (n := 4) (m := 3) (by rw [hx]; exact len4 (by omega) h3) (by omega), e, if_neg (by omega)]
      by_cases c : x = 244
      · rw [if_pos c]
        exact got_eq (four_got (a := x) (b := 143) (c := 191) (d := 191) (by omega) h3 (by omega) (by omega) (by omega) (by omega) (by omega))
      · rw [if_neg c]
        exact got_eq (four_got (a := x) (b := 191) (c := 191) (d := 191) (by omega) h3 (by omega) (by omega) (by omega) (by omega) (by omega))
  · have e := list_two h1
    generalize hx : gv t 0 = x at *
    generalize hy : gv t 1 = y at *
    have hL : highF t = fill t 191 := by unfold highF; rw [if_neg (by omega)]
    rw [hL]
    by_cases k3 : x ≤ 239
    · rw [fill_is (n := 3) (m := 1) (by rw [hx]; exact len3 h2 k3) (by omega), e]
      exact got_eq (three_got (c := 191) h2 k3 h4 (by omega) (by omega))
    · rw [fill_is (n := 4) (m := 2) (by rw [hx]; exact len4 (by omega) h3) (by omega), e]
      exact got_eq (four_got (c := 191) (d := 191) (by omega) h3 h4 (by omega) (by omega) (by omega) (by omega))
  · have e := list_three h1
    generalize hx : gv t 0 = x at *
    generalize hy : gv t 1 = y at *
    generalize hz : gv t 2 = z at *
    have hL : highF t = fill t 191 := by unfold highF; rw [if_neg (by omega)]
    rw [hL, fill_is (n := 4) (m := 1) (by rw [hx]; exact len4 h2 h3) (by omega), e]
    exact got_eq (four_got (d := 191) h2 h3 h4 h5 h6 (by omega) (by omega))

theorem set_one {t r : List UInt8} (x : UInt8) (h : t.length = 1) : ∃ s, (t ++ r).set 1 x = t ++ s := by
  match t, h with
  | [a], _ => exact ⟨r.set 0 x, by simp⟩
theorem lowF_app (t : List UInt8) : ∃ s, lowF t = t ++ s := by
  unfold lowF
  by_cases h : t.length = 1
  · rw [if_pos h]
    repeat' split
    · exact set_one _ h
    · exact set_one _ h
    · exact ⟨_, rfl⟩
  · rw [if_neg h]; exact ⟨_, rfl⟩
theorem utf_begs {t : List UInt8} (h1 : 1 ≤ t.length) (hk : t.length < l2len (gv t 0)) : (gotB (lowF t) && gotB (highF t)) = begU t := by
  by_cases hb : BegU t
  · rw [low_got hb, high_got hb, begU_t hb]; rfl
  · have hl : gotB (lowF t) = false := by
      cases hg : gotB (lowF t)
      · rfl
      · exfalso
        obtain ⟨g1, _⟩ := gotB_t hg
        obtain ⟨s, hs⟩ := lowF_app t
        rw [hs] at g1
        have ht : t ≠ [] := by intro e; rw [e] at h1; simp at h1
        rcases got_parts ht g1 with g | g
        · refine read_short ?_ ⟨_, g⟩
          rw [← got_len g]; exact hk
        · exact hb g
    rw [hl, begU_f hb]; rfl
theorem utf_long {t : List UInt8} (hk : l2len (gv t 0) ≤ t.length) : begU t = false := by
  refine begU_f ?_
  intro h
  rcases h with ⟨h1, h2, h3⟩ | ⟨h1, h2, h3, _⟩ | ⟨h1, h2, h3, _⟩
  · by_cases k2 : gv t 0 ≤ 223
    · rw [len2 h2 k2] at hk; omega
    · by_cases k3 : gv t 0 ≤ 239
      · rw [len3 (by omega) k3] at hk; omega
      · rw [len4 (by omega) h3] at hk; omega
  · by_cases k3 : gv t 0 ≤ 239
    · rw [len3 (by omega) k3] at hk; omega
    · rw [len4 (by omega) h3] at hk; omega
  · rw [len4 h2 h3] at hk; omega
theorem utf_none : begU [] = false := begU_f (by rintro (⟨h, _⟩ | ⟨h, _⟩ | ⟨h, _⟩) <;> simp at h)

end Go.Proofs.YtjbideiifoadkaaDoor
