/- Plain facts on what comes in parts: what begins a sign and does not end it, and what is read of a part. -/
import Derived.Test.YtjbideiifoadkaaDoorCodeP
namespace Go.Proofs.YtjbideiifoadkaaDoor
set_option maxRecDepth 4000
open Go.RowKit

/-- Whether a second byte may follow a first one of three or four. -/
abbrev Snd (a b : Nat) : Prop := 128 ≤ b ∧ b < 192 ∧ (a = 224 → 160 ≤ b) ∧ (a = 237 → b < 160) ∧ (a = 240 → 144 ≤ b) ∧ (a = 244 → b < 144)
/-- Bytes that begin a sign of today, and do not end it. -/
abbrev BegU (t : List UInt8) : Prop :=
  (t.length = 1 ∧ 194 ≤ gv t 0 ∧ gv t 0 ≤ 244) ∨ (t.length = 2 ∧ 224 ≤ gv t 0 ∧ gv t 0 ≤ 244 ∧ Snd (gv t 0) (gv t 1)) ∨
  (t.length = 3 ∧ 240 ≤ gv t 0 ∧ gv t 0 ≤ 244 ∧ Snd (gv t 0) (gv t 1) ∧ 128 ≤ gv t 2 ∧ gv t 2 < 192)
def begU (t : List UInt8) : Bool := decide (BegU t)
theorem begU_t {t : List UInt8} (h : BegU t) : begU t = true := decide_eq_true h
theorem begU_f {t : List UInt8} (h : ¬ BegU t) : begU t = false := decide_eq_false h
theorem begU_is {t : List UInt8} (h : begU t = true) : BegU t := of_decide_eq_true h
theorem begU_not {t : List UInt8} (h : begU t = false) : ¬ BegU t := of_decide_eq_false h

theorem gv_pre {t u : List UInt8} (h : t <+: u) {k : Nat} (hk : k < t.length) : gv t k = gv u k := by
  obtain ⟨r, rfl⟩ := h
  exact (gv_app hk).symm

/-- What begins a sign's bytes and is not all of them. -/
theorem pre_beg {n : Int} {t : List UInt8} (hs : isSign n) (ht : t ≠ []) (hp : t <+: signB n) (hl : t.length < (signB n).length) : BegU t := by
  have h0 : 0 ≤ n := by rcases hs with h | h <;> omega
  obtain ⟨m, rfl⟩ := Int.eq_ofNat_of_zero_le h0
  have hm : m < 1114112 := by rcases hs with h | h <;> omega
  have hpos := len_pos ht
  have g0 := gv_pre hp hpos
  by_cases h1 : m < 128
  · have e : (signB (m : Int)).length = 1 := by rw [signB_one h1]; rfl
    omega
  by_cases h2 : m < 2048
  · rw [signB_two (by omega) h2] at hl g0
    have e0 : gv [bt (192 + m / 64), bt (128 + m % 64)] 0 = 192 + m / 64 := by simp [gv]; exact bt_val _ (by omega)
    rw [e0] at g0
    simp at hl
    exact Or.inl ⟨by omega, by omega, by omega⟩
  by_cases h3 : m < 65536
  · have hq := hp
    rw [signB_three (by omega) h3 hs] at hl g0 hq
    have e0 : gv [bt (224 + m / 4096), bt (128 + m / 64 % 64), bt (128 + m % 64)] 0 = 224 + m / 4096 := by simp [gv]; exact bt_val _ (by omega)
    have e1 : gv [bt (224 + m / 4096), bt (128 + m / 64 % 64), bt (128 + m % 64)] 1 = 128 + m / 64 % 64 := by simp [gv]; exact bt_val _ (by omega)
    rw [e0] at g0
    simp at hl
    by_cases hl1 : t.length = 1
    · exact Or.inl ⟨hl1, by omega, by omega⟩
    · have g1 := gv_pre hq (k := 1) (by omega)
      rw [e1] at g1
      refine Or.inr (Or.inl ⟨by omega, by omega, by omega, ?_⟩)
      rw [g0, g1]
      unfold isSign at hs
      refine ⟨by omega, by omega, by omega, by omega, by omega, by omega⟩
  · have hq := hp
    rw [signB_four (by omega) hs] at hl g0 hq
    have e0 : gv [bt (240 + m / 262144), bt (128 + m / 4096 % 64), bt (128 + m / 64 % 64), bt (128 + m % 64)] 0 = 240 + m / 262144 := by simp [gv]; exact bt_val _ (by omega)
    have e1 : gv [bt (240 + m / 262144), bt (128 + m / 4096 % 64), bt (128 + m / 64 % 64), bt (128 + m % 64)] 1 = 128 + m / 4096 % 64 := by simp [gv]; exact bt_val _ (by omega)
    have e2 : gv [bt (240 + m / 262144), bt (128 + m / 4096 % 64), bt (128 + m / 64 % 64), bt (128 + m % 64)] 2 = 128 + m / 64 % 64 := by simp [gv]; exact bt_val _ (by omega)
    rw [e0] at g0
    simp at hl
    by_cases hl1 : t.length = 1
    · exact Or.inl ⟨hl1, by omega, by omega⟩
    · have g1 := gv_pre hq (k := 1) (by omega)
      rw [e1] at g1
      have hsn : Snd (240 + m / 262144) (128 + m / 4096 % 64) := ⟨by omega, by omega, by omega, by omega, by omega, by omega⟩
      by_cases hl2 : t.length = 2
      · refine Or.inr (Or.inl ⟨hl2, by omega, by omega, ?_⟩)
        rw [g0, g1]; exact hsn
      · have g2 := gv_pre hq (k := 2) (by omega)
        rw [e2] at g2
        refine Or.inr (Or.inr ⟨by omega, by omega, by omega, ?_, by omega, by omega⟩)
        rw [g0, g1]; exact hsn

theorem list_one {t : List UInt8} (h : t.length = 1) : t = [bt (gv t 0)] := by
  match t, h with
  | [a], _ => simp [gv, bt]
theorem list_two {t : List UInt8} (h : t.length = 2) : t = [bt (gv t 0), bt (gv t 1)] := by
  match t, h with
  | [a, b], _ => simp [gv, bt]
theorem list_three {t : List UInt8} (h : t.length = 3) : t = [bt (gv t 0), bt (gv t 1), bt (gv t 2)] := by
  match t, h with
  | [a, b, c], _ => simp [gv, bt]
theorem list_four {t : List UInt8} (h : t.length = 4) : t = [bt (gv t 0), bt (gv t 1), bt (gv t 2), bt (gv t 3)] := by
  match t, h with
  | [a, b, c, d], _ => simp [gv, bt]

/-- Two, three, four bytes in their ranges are a sign's. -/
theorem two_got {a b : Nat} (h1 : 194 ≤ a) (h2 : a ≤ 223) (h3 : 128 ≤ b) (h4 : b < 192) : ∃ n, isSign n ∧ signB n = [bt a, bt b] := by
  refine ⟨(((a - 192) * 64 + (b - 128) : Nat) : Int), Or.inl ⟨by omega, by omega⟩, ?_⟩
  rw [signB_two (by omega) (by omega)]
  have e1 : 192 + ((a - 192) * 64 + (b - 128)) / 64 = a := by omega
  have e2 : 128 + ((a - 192) * 64 + (b - 128)) % 64 = b := by omega
  rw [e1, e2]
theorem three_got {a b c : Nat} (h1 : 224 ≤ a) (h2 : a ≤ 239) (h3 : Snd a b) (h5 : 128 ≤ c) (h6 : c < 192) : ∃ n, isSign n ∧ signB n = [bt a, bt b, bt c] := by
  obtain ⟨b1, b2, b3, b4, b5, b6⟩ := h3
  have hs : isSign (((a - 224) * 4096 + (b - 128) * 64 + (c - 128) : Nat) : Int) := by unfold isSign; omega
  refine ⟨_, hs, ?_⟩
  rw [signB_three (by omega) (by omega) hs]
  have e1 : 224 + ((a - 224) * 4096 + (b - 128) * 64 + (c - 128)) / 4096 = a := by omega
  have e2 : 128 + ((a - 224) * 4096 + (b - 128) * 64 + (c - 128)) / 64 % 64 = b := by omega
  have e3 : 128 + ((a - 224) * 4096 + (b - 128) * 64 + (c - 128)) % 64 = c := by omega
  rw [e1, e2, e3]
theorem four_got {a b c d : Nat} (h1 : 240 ≤ a) (h2 : a ≤ 244) (h3 : Snd a b) (h5 : 128 ≤ c) (h6 : c < 192) (h7 : 128 ≤ d) (h8 : d < 192) : ∃ n, isSign n ∧ signB n = [bt a, bt b, bt c, bt d] := by
  obtain ⟨b1, b2, b3, b4, b5, b6⟩ := h3
  have hs : isSign (((a - 240) * 262144 + (b - 128) * 4096 + (c - 128) * 64 + (d - 128) : Nat) : Int) := by unfold isSign; omega
  refine ⟨_, hs, ?_⟩
  rw [signB_four (by omega) hs]
  have e1 : 240 + ((a - 240) * 262144 + (b - 128) * 4096 + (c - 128) * 64 + (d - 128)) / 262144 = a := by omega
  have e2 : 128 + ((a - 240) * 262144 + (b - 128) * 4096 + (c - 128) * 64 + (d - 128)) / 4096 % 64 = b := by omega
  have e3 : 128 + ((a - 240) * 262144 + (b - 128) * 4096 + (c - 128) * 64 + (d - 128)) / 64 % 64 = c := by omega
  have e4 : 128 + ((a - 240) * 262144 + (b - 128) * 4096 + (c - 128) * 64 + (d - 128)) % 64 = d := by omega
  rw [e1, e2, e3, e4]

/-- Whether bytes begin what stands for a sign of a set, and do not end it. -/
def beg (cs : Int) (t : List UInt8) : Bool := if cs = 0 then begU t else if cs = 5 then decide (t.length = 1 ∧ (gv t 0 = 164 ∨ gv t 0 = 165)) else false
theorem beg_utf (t : List UInt8) : beg 0 t = begU t := if_pos rfl
theorem beg_euc (t : List UInt8) : beg 5 t = decide (t.length = 1 ∧ (gv t 0 = 164 ∨ gv t 0 = 165)) := by unfold beg; rw [if_neg (by decide), if_pos rfl]
theorem beg_byte {cs : Int} (h0 : cs ≠ 0) (h5 : cs ≠ 5) (t : List UInt8) : beg cs t = false := by unfold beg; rw [if_neg h0, if_neg h5]
theorem beg_len {cs : Int} {t : List UInt8} (h : beg cs t = true) : 1 ≤ t.length ∧ t.length ≤ 3 := by
  by_cases h0 : cs = 0
  · subst h0; rw [beg_utf] at h
    rcases begU_is h with h | h | h <;> omega
  by_cases h5 : cs = 5
  · subst h5; rw [beg_euc] at h
    have := of_decide_eq_true h; omega
  · rw [beg_byte h0 h5] at h; cases h

theorem ps_first {a b : Int} (h : psOk a b = true) : a = 164 ∨ a = 165 := by
  unfold psOk at h
  split at h
  · omega
  · split at h
    · omega
    · cases h

theorem got_parts {t u : List UInt8} {n : Int} (ht : t ≠ []) (h : Got (t ++ u) n) : Got t n ∨ BegU t := by
  obtain ⟨hs, hp⟩ := h
  rcases Nat.lt_or_ge t.length (signB n).length with hl | hl
  · exact Or.inr (pre_beg hs ht (List.prefix_of_prefix_length_le (List.prefix_append t u) hp (by omega)) hl)
  · exact Or.inl ⟨hs, List.prefix_of_prefix_length_le hp (List.prefix_append t u) hl⟩
theorem begU_parts {t u : List UInt8} (ht : t ≠ []) (h : BegU (t ++ u)) : BegU t := by
  have hl := len_pos ht
  have g0 : gv (t ++ u) 0 = gv t 0 := gv_app hl
  have hL : (t ++ u).length = t.length + u.length := List.length_append
  unfold BegU at h
  rw [hL, g0] at h
  by_cases h1 : t.length = 1
  · exact Or.inl ⟨h1, by omega, by omega⟩
  have g1 : gv (t ++ u) 1 = gv t 1 := gv_app (by omega)
  rw [g1] at h
  by_cases h2 : t.length = 2
  · rcases h with h | ⟨_, a, b, c⟩ | ⟨_, a, b, c, _⟩
    · omega
    · exact Or.inr (Or.inl ⟨h2, a, b, c⟩)
    · exact Or.inr (Or.inl ⟨h2, by omega, b, c⟩)
  · rcases h with h | h | ⟨l, a, b, c, d⟩
    · omega
    · omega
    · have g2 : gv (t ++ u) 2 = gv t 2 := gv_app (by omega)
      rw [g2] at d
      exact Or.inr (Or.inr ⟨by omega, a, b, c, d⟩)

theorem hdOk_utf (t : List UInt8) : hdOk 0 t = gotB t := by
  unfold hdOk; rw [hd_utf]; cases gotB t <;> rfl
/-- Where nothing stands and nothing begins, nothing stands or begins whatever comes behind. -/
theorem bad_stays {cs : Int} {t : List UInt8} (ht : t ≠ []) (h : hdOk cs t = false) (k : beg cs t = false) (u : List UInt8) : hdOk cs (t ++ u) = false ∧ beg cs (t ++ u) = false := by
  have hl := len_pos ht
  by_cases h0 : cs = 0
  · subst h0
    rw [beg_utf] at k ⊢
    rw [hdOk_utf] at h ⊢
    have kn := begU_not k
    constructor
    · cases hg : gotB (t ++ u)
      · rfl
      · obtain ⟨g1, _⟩ := gotB_t hg
        rcases got_parts ht g1 with g | g
        · rw [gotB_of g] at h; cases h
        · exact absurd g kn
    · exact begU_f (fun hb => kn (begU_parts ht hb))
  by_cases h5 : cs = 5
  · subst h5
    have g0 : gv (t ++ u) 0 = gv t 0 := gv_app hl
    have hL : (t ++ u).length = t.length + u.length := List.length_append
    rw [beg_euc] at k ⊢
    have kn := of_decide_eq_false k
    unfold hdOk at h ⊢
    rw [hd_euc] at h ⊢
    rw [g0, hL]
    by_cases hg : gv t 0 < 128
    · rw [if_pos hg] at h; cases h
    rw [if_neg hg] at h ⊢
    constructor
    · by_cases h1 : t.length = 1
      · rw [if_neg]
        rintro ⟨_, hps⟩
        rcases ps_first hps with e | e
        · exact kn ⟨h1, by omega⟩
        · exact kn ⟨h1, by omega⟩
      · have g1 : gv (t ++ u) 1 = gv t 1 := gv_app (by omega)
        rw [g1, if_neg]
        rintro ⟨_, hps⟩
        rw [if_pos ⟨by omega, hps⟩] at h; cases h
    · exact decide_eq_false (by rintro ⟨e, f⟩; exact kn ⟨by omega, f⟩)
  · rw [beg_byte h0 h5] at k ⊢
    refine ⟨?_, rfl⟩
    unfold hdOk at h ⊢
    rw [hd_byte h0 h5] at h ⊢
    rw [gv_app hl]; exact h

/-- What is read of a part: its text, what is held, whether something could not be read. -/
def feedF (cs : Int) : Nat → List UInt8 → List UInt8 × List UInt8 × Bool
  | 0, _ => ([], [], false)
  | f + 1, t => if t = [] then ([], [], false) else if hdOk cs t = true then (signB (hdN cs t) ++ (feedF cs f (t.drop (hdK cs t))).1, (feedF cs f (t.drop (hdK cs t))).2) else if beg cs t = true then ([], t, false) else ([], [], true)
theorem feedF_nil (cs : Int) (f : Nat) : feedF cs f [] = ([], [], false) := by cases f <;> simp [feedF]
theorem feedF_fuel (cs : Int) : ∀ (f g : Nat) (t : List UInt8), t.length ≤ f → t.length ≤ g → feedF cs f t = feedF cs g t
  | 0, g, t, hf, _ => by
    obtain rfl : t = [] := List.eq_nil_of_length_eq_zero (by omega)
    rw [feedF_nil, feedF_nil]
  | f + 1, 0, t, _, hg => by
    obtain rfl : t = [] := List.eq_nil_of_length_eq_zero (by omega)
    rw [feedF_nil, feedF_nil]
  | f + 1, g + 1, t, hf, hg => by
    unfold feedF
    by_cases ht : t = []
    · rw [if_pos ht, if_pos ht]
    · rw [if_neg ht, if_neg ht]
      have hl : 0 < t.length := len_pos ht
      by_cases h : hdOk cs t = true
      · have := (hd_fits ht h).pos
        rw [if_pos h, if_pos h, feedF_fuel cs f g (t.drop (hdK cs t)) (by simp; omega) (by simp; omega)]
      · rw [if_neg h, if_neg h]
def feedOf (cs : Int) (t : List UInt8) : List UInt8 × List UInt8 × Bool := feedF cs t.length t
theorem feed_nil (cs : Int) : feedOf cs [] = ([], [], false) := rfl
theorem feed_yes {cs : Int} {t : List UInt8} (ht : t ≠ []) (h : hdOk cs t = true) : feedOf cs t = (signB (hdN cs t) ++ (feedOf cs (t.drop (hdK cs t))).1, (feedOf cs (t.drop (hdK cs t))).2) := by
  have hp := (hd_fits ht h).pos
  have hl : 0 < t.length := len_pos ht
  unfold feedOf
  obtain ⟨m, hm⟩ : ∃ m, t.length = m + 1 := ⟨t.length - 1, by omega⟩
  rw [hm, feedF, if_neg ht, if_pos h, feedF_fuel cs m (t.drop (hdK cs t)).length _ (by simp; omega) (Nat.le_refl _)]
theorem feed_beg {cs : Int} {t : List UInt8} (ht : t ≠ []) (h : hdOk cs t = false) (k : beg cs t = true) : feedOf cs t = ([], t, false) := by
  have hl : 0 < t.length := len_pos ht
  unfold feedOf
  obtain ⟨m, hm⟩ : ∃ m, t.length = m + 1 := ⟨t.length - 1, by omega⟩
  rw [hm, feedF, if_neg ht, if_neg (by rw [h]; simp), if_pos k]
theorem feed_bad {cs : Int} {t : List UInt8} (ht : t ≠ []) (h : hdOk cs t = false) (k : beg cs t = false) : feedOf cs t = ([], [], true) := by
  have hl : 0 < t.length := len_pos ht
  unfold feedOf
  obtain ⟨m, hm⟩ : ∃ m, t.length = m + 1 := ⟨t.length - 1, by omega⟩
  rw [hm, feedF, if_neg ht, if_neg (by rw [h]; simp), if_neg (by rw [k]; simp)]

def feedT (cs : Int) (t : List UInt8) : List UInt8 := (feedOf cs t).1
def feedH (cs : Int) (t : List UInt8) : List UInt8 := (feedOf cs t).2.1
def feedB (cs : Int) (t : List UInt8) : Bool := (feedOf cs t).2.2

/-- What is held begins a sign; where something is bad nothing is held. -/
theorem feed_held (cs : Int) : ∀ (k : Nat) (t : List UInt8), t.length ≤ k → (feedH cs t = [] ∨ beg cs (feedH cs t) = true) ∧ (feedB cs t = true → feedH cs t = []) ∧ (feedT cs t).length ≤ 4 * t.length ∧ (feedH cs t).length ≤ 3
  | 0, t, hk => by
    obtain rfl : t = [] := List.eq_nil_of_length_eq_zero (by omega)
    exact ⟨Or.inl rfl, fun _ => rfl, by simp [feedT, feed_nil], by simp [feedH, feed_nil]⟩
  | k + 1, t, hk => by
    by_cases ht : t = []
    · subst ht; exact ⟨Or.inl rfl, fun _ => rfl, by simp [feedT, feed_nil], by simp [feedH, feed_nil]⟩
    cases ho : hdOk cs t
    · cases hb : beg cs t
      · have e := feed_bad ht ho hb
        unfold feedH feedB feedT; rw [e]; exact ⟨Or.inl rfl, fun _ => rfl, by simp, by simp⟩
      · have e := feed_beg ht ho hb
        unfold feedH feedB feedT; rw [e]; exact ⟨Or.inr hb, fun h => (by cases h), by simp, (beg_len hb).2⟩
    · have hf := hd_fits ht ho
      have hp := hf.pos
      have hle := hf.le
      have e := feed_yes ht ho
      have ih := feed_held cs k (t.drop (hdK cs t)) (by simp; omega)
      unfold feedH feedB feedT at ih ⊢; rw [e]
      have hs := signB_len (hdN cs t)
      have hd : (t.drop (hdK cs t)).length = t.length - hdK cs t := by simp
      refine ⟨ih.1, ih.2.1, ?_, ih.2.2.2⟩
      have h3 := ih.2.2.1
      rw [hd] at h3
      rw [List.length_append]
      omega

/-- What is read of two parts one behind the other. -/
theorem feed_app (cs : Int) (b : List UInt8) : ∀ (k : Nat) (a : List UInt8), a.length ≤ k →
    (feedB cs a = true → feedOf cs (a ++ b) = (feedT cs a, [], true)) ∧ (feedB cs a = false → feedOf cs (a ++ b) = (feedT cs a ++ feedT cs (feedH cs a ++ b), (feedOf cs (feedH cs a ++ b)).2))
  | 0, a, hk => by
    obtain rfl : a = [] := List.eq_nil_of_length_eq_zero (by omega)
    exact ⟨fun h => (by cases h), fun _ => rfl⟩
  | k + 1, a, hk => by
    by_cases ha : a = []
    · subst ha; exact ⟨fun h => (by cases h), fun _ => rfl⟩
    cases ho : hdOk cs a
    · cases hb : beg cs a
      · have e := feed_bad ha ho hb
        obtain ⟨o2, b2⟩ := bad_stays ha ho hb b
        have e2 := feed_bad (t := a ++ b) (by simp [ha]) o2 b2
        unfold feedB feedT; rw [e]
        exact ⟨fun _ => e2, fun h => by cases h⟩
      · have e := feed_beg ha ho hb
        unfold feedB feedT feedH; rw [e]
        exact ⟨fun h => (by cases h), fun _ => rfl⟩
    · have hf := hd_fits ha ho
      have hp := hf.pos
      have eh := hd_app ha ho b
      have ho2 : hdOk cs (a ++ b) = true := by unfold hdOk; rw [eh]; exact ho
      have e1 : hdN cs (a ++ b) = hdN cs a := by unfold hdN; rw [eh]
      have e2 : hdK cs (a ++ b) = hdK cs a := by unfold hdK; rw [eh]
      have e := feed_yes ha ho
      have e' := feed_yes (t := a ++ b) (by simp [ha]) ho2
      rw [e1, e2, List.drop_append_of_le_length hf.le] at e'
      obtain ⟨i1, i2⟩ := feed_app cs b k (a.drop (hdK cs a)) (by simp; omega)
      have hB : feedB cs a = feedB cs (a.drop (hdK cs a)) := by unfold feedB; rw [e]
      have hT : feedT cs a = signB (hdN cs a) ++ feedT cs (a.drop (hdK cs a)) := by unfold feedT; rw [e]
      have hH : feedH cs a = feedH cs (a.drop (hdK cs a)) := by unfold feedH; rw [e]
      constructor
      · intro h
        rw [hB] at h
        rw [e', i1 h, hT]
      · intro h
        rw [hB] at h
        rw [e', i2 h, hT, hH, List.append_assoc]

/-- All is read just where nothing is lost, and the same text. -/
theorem feed_dec (cs : Int) : ∀ (k : Nat) (t : List UInt8), t.length ≤ k → (lostI (itemsOf cs t) = 0 ↔ feedH cs t = [] ∧ feedB cs t = false) ∧ (lostI (itemsOf cs t) = 0 → feedT cs t = textI (itemsOf cs t))
  | 0, t, hk => by
    obtain rfl : t = [] := List.eq_nil_of_length_eq_zero (by omega)
    exact ⟨⟨fun _ => ⟨rfl, rfl⟩, fun _ => rfl⟩, fun _ => rfl⟩
  | k + 1, t, hk => by
    by_cases ht : t = []
    · subst ht; exact ⟨⟨fun _ => ⟨rfl, rfl⟩, fun _ => rfl⟩, fun _ => rfl⟩
    cases ho : hdOk cs t
    · have hl : lostI (itemsOf cs t) ≠ 0 := by rw [itemsOf_no ht ho, lostI_none]; omega
      refine ⟨⟨fun h => absurd h hl, fun h => ?_⟩, fun h => absurd h hl⟩
      exfalso
      cases hb : beg cs t
      · have e := feed_bad ht ho hb
        unfold feedB at h; rw [e] at h; cases h.2
      · have e := feed_beg ht ho hb
        unfold feedH at h; rw [e] at h; exact ht h.1
    · have hf := hd_fits ht ho
      have hp := hf.pos
      have e := feed_yes ht ho
      obtain ⟨i1, i2⟩ := feed_dec cs k (t.drop (hdK cs t)) (by simp; omega)
      have hB : feedB cs t = feedB cs (t.drop (hdK cs t)) := by unfold feedB; rw [e]
      have hT : feedT cs t = signB (hdN cs t) ++ feedT cs (t.drop (hdK cs t)) := by unfold feedT; rw [e]
      have hH : feedH cs t = feedH cs (t.drop (hdK cs t)) := by unfold feedH; rw [e]
      rw [itemsOf_yes ht ho, lostI_some, hB, hH, hT, textI_cons]
      exact ⟨i1, fun h => by rw [i2 h]; rfl⟩

/-- Whether a state is right. -/
def sOk (cs : Int) (held : List UInt8) (bad : Bool) : Bool := inB cs 0 5 && (decide (held = []) || (!bad && beg cs held))
/-- What a state and a part answer: text, held, bad. -/
def fedT (cs : Int) (held : List UInt8) (bad : Bool) (b : List UInt8) : List UInt8 := if sOk cs held bad && !bad then feedT cs (held ++ b) else []
def fedH (cs : Int) (held : List UInt8) (bad : Bool) (b : List UInt8) : List UInt8 := if sOk cs held bad && !bad then feedH cs (held ++ b) else held
def fedB (cs : Int) (held : List UInt8) (bad : Bool) (b : List UInt8) : Bool := if sOk cs held bad && !bad then feedB cs (held ++ b) else bad

/-- Where the reading of a part stands. -/
structure FeedAt (cs : Int) (bs : List UInt8) (k : Nat) (out : List UInt8) : Prop where
  le : k ≤ bs.length
  size : out.length ≤ 4 * k
  txt : feedT cs bs = out ++ feedT cs (bs.drop k)
  rest : (feedOf cs bs).2 = (feedOf cs (bs.drop k)).2
theorem feedAt_zero (cs : Int) (bs : List UInt8) : FeedAt cs bs 0 [] := ⟨Nat.zero_le _, Nat.zero_le _, rfl, rfl⟩
theorem feedAt_yes {cs : Int} {bs : List UInt8} {k : Nat} {out : List UInt8} (h : FeedAt cs bs k out) (hk : k < bs.length) (ho : hdOk cs (bs.drop k) = true) : FeedAt cs bs (k + hdK cs (bs.drop k)) (out ++ signB (hdN cs (bs.drop k))) := by
  have hf := hd_fits (drop_ne hk) ho
  have hp := hf.pos
  have hle := hf.le
  have e := feed_yes (drop_ne hk) ho
  rw [List.drop_drop] at e
  have hd : (bs.drop k).length = bs.length - k := by simp
  have hs := signB_len (hdN cs (bs.drop k))
  refine ⟨by omega, ?_, ?_, ?_⟩
  · rw [List.length_append]; have := h.size; omega
  · rw [h.txt]; unfold feedT; rw [e, List.append_assoc]
  · rw [h.rest, e]
theorem feedAt_end {cs : Int} {bs : List UInt8} {k : Nat} {out : List UInt8} (h : FeedAt cs bs k out) (hk : ¬ k < bs.length) : feedT cs bs = out ∧ feedH cs bs = [] ∧ feedB cs bs = false := by
  have hd : bs.drop k = [] := by simp; omega
  have h1 := h.txt
  have h2 := h.rest
  rw [hd] at h1 h2
  exact ⟨by rw [h1]; simp [feedT, feed_nil], by unfold feedH; rw [h2]; rfl, by unfold feedB; rw [h2]; rfl⟩
theorem feedAt_beg {cs : Int} {bs : List UInt8} {k : Nat} {out : List UInt8} (h : FeedAt cs bs k out) (hk : k < bs.length) (ho : hdOk cs (bs.drop k) = false) (hb : beg cs (bs.drop k) = true) : feedT cs bs = out ∧ feedH cs bs = bs.drop k ∧ feedB cs bs = false := by
  have e := feed_beg (drop_ne hk) ho hb
  have h1 := h.txt
  have h2 := h.rest
  unfold feedT at h1 ⊢
  rw [e] at h1 h2
  exact ⟨by rw [h1]; simp, by unfold feedH; rw [h2], by unfold feedB; rw [h2]⟩
theorem feedAt_bad {cs : Int} {bs : List UInt8} {k : Nat} {out : List UInt8} (h : FeedAt cs bs k out) (hk : k < bs.length) (ho : hdOk cs (bs.drop k) = false) (hb : beg cs (bs.drop k) = false) : feedT cs bs = out ∧ feedH cs bs = [] ∧ feedB cs bs = true := by
  have e := feed_bad (drop_ne hk) ho hb
  have h1 := h.txt
  have h2 := h.rest
  unfold feedT at h1 ⊢
  rw [e] at h1 h2
  exact ⟨by rw [h1]; simp, by unfold feedH; rw [h2], by unfold feedB; rw [h2]⟩

end Go.Proofs.YtjbideiifoadkaaDoor
