/- Plain facts on the program's way to ask whether bytes begin a sign and do not end it: filled up, a sign stands there that reaches beyond them. -/
import Derived.Test.YtjbideiifoadkaaDoorStreamP
namespace Go.Proofs.YtjbideiifoadkaaDoor
set_option maxRecDepth 4000
open Go.RowKit

/-- Filled up by a byte, a sign stands at the head that reaches beyond what was there. -/
def fillB (cs : Int) (b : List UInt8) (c : UInt8) : Bool := hdOk cs (b ++ [c, c, c]) && decide (b.length < hdK cs (b ++ [c, c, c]))
theorem fill_got {b : List UInt8} {c : UInt8} {n : Int} (hs : isSign n) (hp : signB n <+: b ++ [c, c, c]) (hl : b.length < (signB n).length) : fillB 0 b c = true := by
  unfold fillB hdOk hdK; rw [hd_got ⟨hs, hp⟩]; simpa using hl
theorem fill_beg {b : List UInt8} {c : UInt8} (hb : b ≠ []) (h : fillB 0 b c = true) : BegU b := by
  simp only [fillB, Bool.and_eq_true, decide_eq_true_eq] at h
  obtain ⟨h1, h2⟩ := h
  rw [hdOk_utf] at h1
  obtain ⟨g1, g2⟩ := gotB_t h1
  have e := hd_got g1
  unfold hdK at h2; rw [e] at h2
  generalize (cand (b ++ [c, c, c]) : Int) = n at *
  have h3 : b.length < (signB n).length := h2
  exact pre_beg g1.1 hb (List.prefix_of_prefix_length_le (List.prefix_append b _) g1.2 (by omega)) h3
theorem fill_not {b : List UInt8} {c : UInt8} (hb : b ≠ []) (h : begU b = false) : fillB 0 b c = false := by
  cases e : fillB 0 b c
  · rfl
  · exact absurd (fill_beg hb e) (begU_not h)

theorem fill_first {b : List UInt8} {x : Nat} (h : b.length = 1) (hx : gv b 0 = x) (h1 : 194 ≤ x) (h2 : x ≤ 244) : (fillB 0 b 128 || fillB 0 b 191) = true := by
  have hb := list_one h
  rw [hx] at hb
  by_cases a1 : x ≤ 223
  · obtain ⟨n, hs, hn⟩ := two_got h1 a1 (b := 128) (by omega) (by omega)
    rw [fill_got (n := n) hs (by rw [hn, hb]; exact ⟨[128, 128], rfl⟩) (by rw [hn, h]; simp)]; rfl
  by_cases a2 : x ≤ 239
  · by_cases a3 : x = 224
    · obtain ⟨n, hs, hn⟩ := three_got (a := x) (by omega) a2 (b := 191) (c := 191) ⟨by omega, by omega, by omega, by omega, by omega, by omega⟩ (by omega) (by omega)
      rw [fill_got (c := 191) (n := n) hs (by rw [hn, hb]; exact ⟨[191], rfl⟩) (by rw [hn, h]; simp)]; simp
    · obtain ⟨n, hs, hn⟩ := three_got (a := x) (by omega) a2 (b := 128) (c := 128) ⟨by omega, by omega, by omega, by omega, by omega, by omega⟩ (by omega) (by omega)
      rw [fill_got (c := 128) (n := n) hs (by rw [hn, hb]; exact ⟨[128], rfl⟩) (by rw [hn, h]; simp)]; rfl
  · by_cases a3 : x = 240
    · obtain ⟨n, hs, hn⟩ := four_got (a := x) (by omega) h2 (b := 191) (c := 191) (d := 191) ⟨by omega, by omega, by omega, by omega, by omega, by omega⟩ (by omega) (by omega) (by omega) (by omega)
      rw [fill_got (c := 191) (n := n) hs (by rw [hn, hb]; exact ⟨[], rfl⟩) (by rw [hn, h]; simp)]; simp
    · obtain ⟨n, hs, hn⟩ := four_got (a := x) (by omega) h2 (b := 128) (c := 128) (d := 128) ⟨by omega, by omega, by omega, by omega, by omega, by omega⟩ (by omega) (by omega) (by omega) (by omega)
      rw [fill_got (c := 128) (n := n) hs (by rw [hn, hb]; exact ⟨[], rfl⟩) (by rw [hn, h]; simp)]; rfl
theorem fill_second {b : List UInt8} {x y : Nat} (h : b.length = 2) (hx : gv b 0 = x) (hy : gv b 1 = y) (h1 : 224 ≤ x) (h2 : x ≤ 244) (h3 : Snd x y) : fillB 0 b 128 = true := by
  have hb := list_two h
  rw [hx, hy] at hb
  by_cases a2 : x ≤ 239
  · obtain ⟨n, hs, hn⟩ := three_got h1 a2 h3 (c := 128) (by omega) (by omega)
    exact fill_got (n := n) hs (by rw [hn, hb]; exact ⟨[128, 128], rfl⟩) (by rw [hn, h]; simp)
  · obtain ⟨n, hs, hn⟩ := four_got (by omega) h2 h3 (c := 128) (d := 128) (by omega) (by omega) (by omega) (by omega)
    exact fill_got (n := n) hs (by rw [hn, hb]; exact ⟨[128], rfl⟩) (by rw [hn, h]; simp)
theorem fill_third {b : List UInt8} {x y z : Nat} (h : b.length = 3) (hx : gv b 0 = x) (hy : gv b 1 = y) (hz : gv b 2 = z) (h1 : 240 ≤ x) (h2 : x ≤ 244) (h3 : Snd x y) (h4 : 128 ≤ z) (h5 : z < 192) : fillB 0 b 128 = true := by
  have hb := list_three h
  rw [hx, hy, hz] at hb
  obtain ⟨n, hs, hn⟩ := four_got h1 h2 h3 h4 h5 (d := 128) (by omega) (by omega)
  exact fill_got (n := n) hs (by rw [hn, hb]; exact ⟨[128, 128], rfl⟩) (by rw [hn, h]; simp)
/-- One of two bytes fills up whatever is begun, and nothing else. -/
theorem fill_utf {b : List UInt8} (hb : b ≠ []) : (fillB 0 b 128 || fillB 0 b 191) = beg 0 b := by
  rw [beg_utf]
  cases h : begU b
  · rw [fill_not hb h, fill_not hb h]; rfl
  · rcases begU_is h with ⟨l, a, c⟩ | ⟨l, a, c, d⟩ | ⟨l, a, c, d, e, f⟩
    · exact fill_first l rfl a c
    · rw [fill_second l rfl rfl a c d]; rfl
    · rw [fill_third l rfl rfl rfl a c d e f]; rfl
theorem fill_euc {b : List UInt8} (hb : b ≠ []) : fillB 5 b 161 = beg 5 b := by
  have hl := len_pos hb
  have g0 : gv (b ++ [161, 161, 161]) 0 = gv b 0 := gv_app hl
  rw [beg_euc]
  unfold fillB hdOk hdK
  rw [hd_euc, g0]
  by_cases h1 : gv b 0 < 128
  · rw [if_pos h1]
    have e2 : decide (b.length = 1 ∧ (gv b 0 = 164 ∨ gv b 0 = 165)) = false := decide_eq_false (by omega)
    rw [e2]; simpa using hb
  · rw [if_neg h1]
    by_cases h2 : b.length = 1
    · have g1 : gv (b ++ [161, 161, 161]) 1 = 161 := by
        match b, h2 with
        | [a], _ => rfl
      rw [g1]
      by_cases h3 : gv b 0 = 164 ∨ gv b 0 = 165
      · have hp : psOk (gv b 0 : Int) ((161 : Nat) : Int) = true := by rcases h3 with h3 | h3 <;> rw [h3] <;> rfl
        rw [if_pos ⟨by simp, hp⟩, decide_eq_true (show b.length = 1 ∧ (gv b 0 = 164 ∨ gv b 0 = 165) from ⟨h2, h3⟩)]
        simp [h2]
      · have hp : ¬ psOk (gv b 0 : Int) ((161 : Nat) : Int) = true := fun hp => h3 (by rcases ps_first hp with e | e <;> omega)
        rw [if_neg (fun h => hp h.2), decide_eq_false (fun h : b.length = 1 ∧ (gv b 0 = 164 ∨ gv b 0 = 165) => h3 h.2)]; rfl
    · rw [decide_eq_false (fun h : b.length = 1 ∧ (gv b 0 = 164 ∨ gv b 0 = 165) => h2 h.1)]
      split
      · simp; omega
      · rfl

/-- The bytes by which the program fills up, in a set. -/
def endL (cs : Int) : List UInt8 := if cs = 0 then [128, 191] else if cs = 5 then [161] else []
theorem endL_utf : endL 0 = [128, 191] := rfl
theorem endL_euc : endL 5 = [161] := rfl
theorem endL_byte {cs : Int} (h0 : cs ≠ 0) (h5 : cs ≠ 5) : endL cs = [] := by unfold endL; rw [if_neg h0, if_neg h5]
theorem endL_len (cs : Int) : (endL cs).length ≤ 2 := by
  unfold endL; split
  · simp
  · split <;> simp
theorem fill_any {cs : Int} {b : List UInt8} (hb : b ≠ []) : (endL cs).any (fillB cs b) = beg cs b := by
  by_cases h0 : cs = 0
  · subst h0; rw [endL_utf, ← fill_utf hb]; simp
  by_cases h5 : cs = 5
  · subst h5; rw [endL_euc, ← fill_euc hb]; simp
  · rw [endL_byte h0 h5, beg_byte h0 h5]; rfl
/-- No byte ahead of place k filled it up. -/
def NoFill (cs : Int) (b : List UInt8) (k : Nat) : Prop := ∀ j, j < k → fillB cs b ((endL cs).getD j 0) = false
theorem noFill_zero (cs : Int) (b : List UInt8) : NoFill cs b 0 := fun _ hj => absurd hj (Nat.not_lt_zero _)
theorem noFill_next {cs : Int} {b : List UInt8} {k : Nat} (h : NoFill cs b k) (hk : fillB cs b ((endL cs).getD k 0) = false) : NoFill cs b (k + 1) := fun j hj => by
  by_cases e : j = k
  · rw [e]; exact hk
  · exact h j (by omega)
theorem noFill_end {cs : Int} {b : List UInt8} {k : Nat} (hb : b ≠ []) (h : NoFill cs b k) (hk : (endL cs).length ≤ k) : beg cs b = false := by
  rw [← fill_any hb, List.any_eq_false]
  intro x hx
  obtain ⟨j, hj, rfl⟩ := List.mem_iff_getElem.1 hx
  have := h j (by omega)
  rw [List.getD, List.getElem?_eq_getElem hj] at this
  simpa using this
theorem fill_yes {cs : Int} {b : List UInt8} {k : Nat} (hb : b ≠ []) (hk : k < (endL cs).length) (h : fillB cs b ((endL cs).getD k 0) = true) : beg cs b = true := by
  rw [← fill_any hb, List.any_eq_true]
  refine ⟨(endL cs)[k], List.getElem_mem hk, ?_⟩
  rw [List.getD, List.getElem?_eq_getElem hk] at h
  exact h

/-- Whether bytes are nothing, or begin a sign and do not end it. -/
def mayB (cs : Int) (b : List UInt8) : Bool := decide (b = []) || beg cs b
theorem mayB_nil (cs : Int) : mayB cs [] = true := rfl
theorem mayB_some {cs : Int} {b : List UInt8} (h : b ≠ []) : mayB cs b = beg cs b := by unfold mayB; rw [decide_eq_false h]; rfl
theorem mayB_long {cs : Int} {b : List UInt8} (h : 3 < b.length) : mayB cs b = false := by
  rw [mayB_some (by intro e; rw [e] at h; simp at h)]
  cases e : beg cs b
  · rfl
  · have := beg_len e; omega

end Go.Proofs.YtjbideiifoadkaaDoor
