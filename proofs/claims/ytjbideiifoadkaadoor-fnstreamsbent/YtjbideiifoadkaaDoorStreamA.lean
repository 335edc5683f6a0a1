/- Plain facts on what comes in parts: what begins a sign and does not end it, and what is read of a part. Plain facts: bytes of today that are filled up, by the least and by the greatest bytes, are signs just where they begin one. Blocks that a call lays one behind the other, and what they hold. Contracts of what the laws do with a state: its size, a copy of it, whether two are alike, and the marks of its memory. Contracts of the specification's bytes that begin a sign of today. Contracts of the specification's states: what begins a sign of a set, whether a state is right, a new one, whether all was read. append onto a slice of bytes of the call's own: where it lies, in a plain region and at a step of one that draws its order. -/
import Derived.Test.YtjbideiifoadkaaDoorCodeA
import Derived.Test.YtjbideiifoadkaaDoorCommon
import Derived.Test.YtjbideiifoadkaaDoorPut
import Derived.Maps.AppendAt
import Derived.Laws.ResultCell
import Derived.Laws.Rows
import Derived.Deep.AppendLies
import Derived.Deep.RegionHeldLaw
namespace Go.Proofs.YtjbideiifoadkaaDoor
set_option maxRecDepth 4000
open Go.RowKit

/-- Whether a second byte may follow a first one of three or four. -/
abbrev Snd (a b : Nat) : Prop := 128 ≤ b ∧ b < 192 ∧ (a = 224 → 160 ≤ b) ∧ (a = 237 → b < 160) ∧ (a = 240 → 144 ≤ b) ∧ (a = 244 → b < 144)
/-- Bytes that begin a sign of today, and do not end it. -/
abbrev BegU (t : List UInt8) : Prop :=
  (t.length = 1 ∧ 194 ≤ gv t 0 ∧ gv t 0 ≤ 244) ∨ (t.length = 2 ∧ 224 ≤ gv t 0 ∧ gv t 0 ≤ 244 ∧ Snd (gv t 0) (gv t 1)) ∨
  (t.length = 3 ∧ 240 ≤ gv t 0 ∧ gv t 0 ≤ 244 ∧ Snd (gv t 0) (gv t 1) ∧ 128 ≤ gv t 2 ∧ gv t 2 < 192)
def begU (t : List UInt8) : Bool := decide (BegU t)
theorem begU_t {t : List UInt8} (h : BegU t) : begU t = true := decide_eq_true h
theorem begU_f {t : List UInt8} (h : ¬ BegU t) : begU t = false := decide_eq_false h
theorem begU_is {t : List UInt8} (h : begU t = true) : BegU t := of_decide_eq_true h
theorem begU_not {t : List UInt8} (h : begU t = false) : ¬ BegU t := of_decide_eq_false h

theorem gv_pre {t u : List UInt8} (h : t <+: u) {k : Nat} (hk : k < t.length) : gv t k = gv u k := by
  obtain ⟨r, rfl⟩ := h
  exact (gv_app hk).symm

/-- What begins a sign's bytes and is not all of them. -/
theorem pre_beg {n : Int} {t : List UInt8} (hs : isSign n) (ht : t ≠ []) (hp : t <+: signB n) (hl : t.length < (signB n).length) : BegU t := by
  have h0 : 0 ≤ n := by rcases hs with h | h <;> omega
  obtain ⟨m, rfl⟩ := Int.eq_ofNat_of_zero_le h0
  have hm : m < 1114112 := by rcases hs with h | h <;> omega
  have hpos := len_pos ht
  have g0 := gv_pre hp hpos
  by_cases h1 : m < 128
  · have e : (signB (m : Int)).length = 1 := by rw [signB_one h1]; rfl
    omega
  by_cases h2 : m < 2048
  · rw [signB_two (by omega) h2] at hl g0
    have e0 : gv [bt (192 + m / 64), bt (128 + m % 64)] 0 = 192 + m / 64 := by simp [gv]; exact bt_val _ (by omega)
    rw [e0] at g0
    simp at hl
    exact Or.inl ⟨by omega, by omega, by omega⟩
  by_cases h3 : m < 65536
  · have hq := hp
    rw [signB_three (by omega) h3 hs] at hl g0 hq
    have e0 : gv [bt (224 + m / 4096), bt (128 + m / 64 % 64), bt (128 + m % 64)] 0 = 224 + m / 4096 := by simp [gv]; exact bt_val _ (by omega)
    have e1 : gv [bt (224 + m / 4096), bt (128 + m / 64 % 64), bt (128 + m % 64)] 1 = 128 + m / 64 % 64 := by simp [gv]; exact bt_val _ (by omega)
    rw [e0] at g0
    simp at hl
    by_cases hl1 : t.length = 1
    · exact Or.inl ⟨hl1, by omega, by omega⟩
    · have g1 := gv_pre hq (k := 1) (by omega)
      rw [e1] at g1
      refine Or.inr (Or.inl ⟨by omega, by omega, by omega, ?_⟩)
      rw [g0, g1]
      unfold isSign at hs
      refine ⟨by omega, by omega, by omega, by omega, by omega, by omega⟩
  · have hq := hp
    rw [signB_four (by omega) hs] at hl g0 hq
    have e0 : gv [bt (240 + m / 262144), bt (128 + m / 4096 % 64), bt (128 + m / 64 % 64), bt (128 + m % 64)] 0 = 240 + m / 262144 := by simp [gv]; exact bt_val _ (by omega)
    have e1 : gv [bt (240 + m / 262144), bt (128 + m / 4096 % 64), bt (128 + m / 64 % 64), bt (128 + m % 64)] 1 = 128 + m / 4096 % 64 := by simp [gv]; exact bt_val _ (by omega)
    have e2 : gv [bt (240 + m / 262144), bt (128 + m / 4096 % 64), bt (128 + m / 64 % 64), bt (128 + m % 64)] 2 = 128 + m / 64 % 64 := by simp [gv]; exact bt_val _ (by omega)
    rw [e0] at g0
    simp at hl
    by_cases hl1 : t.length = 1
    · exact Or.inl ⟨hl1, by omega, by omega⟩
    · have g1 := gv_pre hq (k := 1) (by omega)
      rw [e1] at g1
      have hsn : Snd (240 + m / 262144) (128 + m / 4096 % 64) := ⟨by omega, by omega, by omega, by omega, by omega, by omega⟩
      by_cases hl2 : t.length = 2
      · refine Or.inr (Or.inl ⟨hl2, by omega, by omega, ?_⟩)
        rw [g0, g1]; exact hsn
      · have g2 := gv_pre hq (k := 2) (by omega)
        rw [e2] at g2
        refine Or.inr (Or.inr ⟨by omega, by omega, by omega, ?_, by omega, by omega⟩)
        rw [g0, g1]; exact hsn

theorem list_one {t : List UInt8} (h : t.length = 1) : t = [bt (gv t 0)] := by
  match t, h with
  | [a], _ => simp [gv, bt]
theorem list_two {t : List UInt8} (h : t.length = 2) : t = [bt (gv t 0), bt (gv t 1)] := by
  match t, h with
  | [a, b], _ => simp [gv, bt]
theorem list_three {t : List UInt8} (h : t.length = 3) : t = [bt (gv t 0), bt (gv t 1), bt (gv t 2)] := by
  match t, h with
  | [a, b, c], _ => simp [gv, bt]
theorem list_four {t : List UInt8} (h : t.length = 4) : t = [bt (gv t 0), bt (gv t 1), bt (gv t 2), bt (gv t 3)] := by
  match t, h with
  | [a, b, c, d], _ => simp [gv, bt]

/-- Two, three, four bytes in their ranges are a sign's. -/
theorem two_got {a b : Nat} (h1 : 194 ≤ a) (h2 : a ≤ 223) (h3 : 128 ≤ b) (h4 : b < 192) : ∃ n, isSign n ∧ signB n = [bt a, bt b] := by
  refine ⟨(((a - 192) * 64 + (b - 128) : Nat) : Int), Or.inl ⟨by omega, by omega⟩, ?_⟩
  rw [signB_two (by omega) (by omega)]
  have e1 : 192 + ((a - 192) * 64 + (b - 128)) / 64 = a := by omega
  have e2 : 128 + ((a - 192) * 64 + (b - 128)) % 64 = b := by omega
  rw [e1, e2]
theorem three_got {a b c : Nat} (h1 : 224 ≤ a) (h2 : a ≤ 239) (h3 : Snd a b) (h5 : 128 ≤ c) (h6 : c < 192) : ∃ n, isSign n ∧ signB n = [bt a, bt b, bt c] := by
  obtain ⟨b1, b2, b3, b4, b5, b6⟩ := h3
  have hs : isSign (((a - 224) * 4096 + (b - 128) * 64 + (c - 128) : Nat) : Int) := by unfold isSign; omega
  refine ⟨_, hs, ?_⟩
  rw [signB_three (by omega) (by omega) hs]
  have e1 : 224 + ((a - 224) * 4096 + (b - 128) * 64 + (c - 128)) / 4096 = a := by omega
  have e2 : 128 + ((a - 224) * 4096 + (b - 128) * 64 + (c - 128)) / 64 % 64 = b := by omega
  have e3 : 128 + ((a - 224) * 4096 + (b - 128) * 64 + (c - 128)) % 64 = c := by omega
  rw [e1, e2, e3]
theorem four_got {a b c d : Nat} (h1 : 240 ≤ a) (h2 : a ≤ 244) (h3 : Snd a b) (h5 : 128 ≤ c) (h6 : c < 192) (h7 : 128 ≤ d) (h8 : d < 192) : ∃ n, isSign n ∧ signB n = [bt a, bt b, bt c, bt d] := by
  obtain ⟨b1, b2, b3, b4, b5, b6⟩ := h3
  have hs : isSign (((a - 240) * 262144 + (b - 128) * 4096 + (c - 128) * 64 + (d - 128) : Nat) : Int) := by unfold isSign; omega
  refine ⟨_, hs, ?_⟩
  rw [signB_four (by omega) hs]
  have e1 : 240 + ((a - 240) * 262144 + (b - 128) * 4096 + (c - 128) * 64 + (d - 128)) / 262144 = a := by omega
  have e2 : 128 + ((a - 240) * 262144 + (b - 128) * 4096 + (c - 128) * 64 + (d - 128)) / 4096 % 64 = b := by omega
  have e3 : 128 + ((a - 240) * 262144 + (b - 128) * 4096 + (c - 128) * 64 + (d - 128)) / 64 % 64 = c := by omega
  have e4 : 128 + ((a - 240) * 262144 + (b - 128) * 4096 + (c - 128) * 64 + (d - 128)) % 64 = d := by omega
  rw [e1, e2, e3, e4]

/-- Whether bytes begin what stands for a sign of a set, and do not end it. -/
def beg (cs : Int) (t : List UInt8) : Bool := if cs = 0 then begU t else if cs = 5 then decide (t.length = 1 ∧ (gv t 0 = 164 ∨ gv t 0 = 165)) else false
theorem beg_utf (t : List UInt8) : beg 0 t = begU t := if_pos rfl
theorem beg_euc (t : List UInt8) : beg 5 t = decide (t.length = 1 ∧ (gv t 0 = 164 ∨ gv t 0 = 165)) := by unfold beg; rw [if_neg (by decide), if_pos rfl]
theorem beg_byte {cs : Int} (h0 : cs ≠ 0) (h5 : cs ≠ 5) (t : List UInt8) : beg cs t = false := by unfold beg; rw [if_neg h0, if_neg h5]
theorem beg_len {cs : Int} {t : List UInt8} (h : beg cs t = true) : 1 ≤ t.length ∧ t.length ≤ 3 := by
  by_cases h0 : cs = 0
  · subst h0; rw [beg_utf] at h
    rcases begU_is h with h | h | h <;> omega
  by_cases h5 : cs = 5
  · subst h5; rw [beg_euc] at h
    have := of_decide_eq_true h; omega
  · rw [beg_byte h0 h5] at h; cases h

theorem ps_first {a b : Int} (h : psOk a b = true) : a = 164 ∨ a = 165 := by
  unfold psOk at h
  split at h
  · omega
  · split at h
    · omega
    · cases h

theorem got_parts {t u : List UInt8} {n : Int} (ht : t ≠ []) (h : Got (t ++ u) n) : Got t n ∨ BegU t := by
  obtain ⟨hs, hp⟩ := h
  rcases Nat.lt_or_ge t.length (signB n).length with hl | hl
  · exact Or.inr (pre_beg hs ht (List.prefix_of_prefix_length_le (List.prefix_append t u) hp (by omega)) hl)
  · exact Or.inl ⟨hs, List.prefix_of_prefix_length_le hp (List.prefix_append t u) hl⟩
theorem begU_parts {t u : List UInt8} (ht : t ≠ []) (h : BegU (t ++ u)) : BegU t := by
  have hl := len_pos ht
  have g0 : gv (t ++ u) 0 = gv t 0 := gv_app hl
  have hL : (t ++ u).length = t.length + u.length := List.length_append
  unfold BegU at h
  rw [hL, g0] at h
  by_cases h1 : t.length = 1
  · exact Or.inl ⟨h1, by omega, by omega⟩
  have g1 : gv (t ++ u) 1 = gv t 1 := gv_app (by omega)
  rw [g1] at h
  by_cases h2 : t.length = 2
  · rcases h with h | ⟨_, a, b, c⟩ | ⟨_, a, b, c, _⟩
    · omega
    · exact Or.inr (Or.inl ⟨h2, a, b, c⟩)
    · exact Or.inr (Or.inl ⟨h2, by omega, b, c⟩)
  · rcases h with h | h | ⟨l, a, b, c, d⟩
    · omega
    · omega
    · have g2 : gv (t ++ u) 2 = gv t 2 := gv_app (by omega)
      rw [g2] at d
      exact Or.inr (Or.inr ⟨by omega, a, b, c, d⟩)

theorem hdOk_utf (t : List UInt8) : hdOk 0 t = gotB t := by
  unfold hdOk; rw [hd_utf]; cases gotB t <;> rfl
/-- Where nothing stands and nothing begins, nothing stands or begins whatever comes behind. -/
theorem bad_stays {cs : Int} {t : List UInt8} (ht : t ≠ []) (h : hdOk cs t = false) (k : beg cs t = false) (u : List UInt8) : hdOk cs (t ++ u) = false ∧ beg cs (t ++ u) = false := by
  have hl := len_pos ht
  by_cases h0 : cs = 0
  · subst h0
    rw [beg_utf] at k ⊢
    rw [hdOk_utf] at h ⊢
    have kn := begU_not k
    constructor
    · cases hg : gotB (t ++ u)
      · rfl
      · obtain ⟨g1, _⟩ := gotB_t hg
        rcases got_parts ht g1 with g | g
        · rw [gotB_of g] at h; cases h
        · exact absurd g kn
    · exact begU_f (fun hb => kn (begU_parts ht hb))
  by_cases h5 : cs = 5
  · subst h5
    have g0 : gv (t ++ u) 0 = gv t 0 := gv_app hl
    have hL : (t ++ u).length = t.length + u.length := List.length_append
    rw [beg_euc] at k ⊢
    have kn := of_decide_eq_false k
    unfold hdOk at h ⊢
    rw [hd_euc] at h ⊢
    rw [g0, hL]
    by_cases hg : gv t 0 < 128
    · rw [if_pos hg] at h; cases h
    rw [if_neg hg] at h ⊢
    constructor
    · by_cases h1 : t.length = 1
      · rw [if_neg]
        rintro ⟨_, hps⟩
        rcases ps_first hps with e | e
        · exact kn ⟨h1, by omega⟩
        · exact kn ⟨h1, by omega⟩
      · have g1 : gv (t ++ u) 1 = gv t 1 := gv_app (by omega)
        rw [g1, if_neg]
        rintro ⟨_, hps⟩
        rw [if_pos ⟨by omega, hps⟩] at h; cases h
    · exact decide_eq_false (by rintro ⟨e, f⟩; exact kn ⟨by omega, f⟩)
  · rw [beg_byte h0 h5] at k ⊢
    refine ⟨?_, rfl⟩
    unfold hdOk at h ⊢
    rw [hd_byte h0 h5] at h ⊢
    rw [gv_app hl]; exact h

/-- What is read of a part: its text, what is held, whether something could not be read. -/
def feedF (cs : Int) : Nat → List UInt8 → List UInt8 × List UInt8 × Bool
  | 0, _ => ([], [], false)
  | f + 1, t => if t = [] then ([], [], false) else if hdOk cs t = true then (signB (hdN cs t) ++ (feedF cs f (t.drop (hdK cs t))).1, (feedF cs f (t.drop (hdK cs t))).2) else if beg cs t = true then ([], t, false) else ([], [], true)
theorem feedF_nil (cs : Int) (f : Nat) : feedF cs f [] = ([], [], false) := by cases f <;> simp [feedF]
theorem feedF_fuel (cs : Int) : ∀ (f g : Nat) (t : List UInt8), t.length ≤ f → t.length ≤ g → feedF cs f t = feedF cs g t
  | 0, g, t, hf, _ => by
    obtain rfl : t = [] := List.eq_nil_of_length_eq_zero (by omega)
    rw [feedF_nil, feedF_nil]
  | f + 1, 0, t, _, hg => by
    obtain rfl : t = [] := List.eq_nil_of_length_eq_zero (by omega)
    rw [feedF_nil, feedF_nil]
  | f + 1, g + 1, t, hf, hg => by
    unfold feedF
    by_cases ht : t = []
    · rw [if_pos ht, if_pos ht]
    · rw [if_neg ht, if_neg ht]
      have hl : 0 < t.length := len_pos ht
      by_cases h : hdOk cs t = true
      · have := (hd_fits ht h).pos
        rw [if_pos h, if_pos h, feedF_fuel cs f g (t.drop (hdK cs t)) (by simp; omega) (by simp; omega)]
      · rw [if_neg h, if_neg h]
def feedOf (cs : Int) (t : List UInt8) : List UInt8 × List UInt8 × Bool := feedF cs t.length t
theorem feed_nil (cs : Int) : feedOf cs [] = ([], [], false) := rfl
theorem feed_yes {cs : Int} {t : List UInt8} (ht : t ≠ []) (h : hdOk cs t = true) : feedOf cs t = (signB (hdN cs t) ++ (feedOf cs (t.drop (hdK cs t))).1, (feedOf cs (t.drop (hdK cs t))).2) := by
  have hp := (hd_fits ht h).pos
  have hl : 0 < t.length := len_pos ht
  unfold feedOf
  obtain ⟨m, hm⟩ : ∃ m, t.length = m + 1 := ⟨t.length - 1, by omega⟩
  rw [hm, feedF, if_neg ht, if_pos h, feedF_fuel cs m (t.drop (hdK cs t)).length _ (by simp; omega) (Nat.le_refl _)]
theorem feed_beg {cs : Int} {t : List UInt8} (ht : t ≠ []) (h : hdOk cs t = false) (k : beg cs t = true) : feedOf cs t = ([], t, false) := by
  have hl : 0 < t.length := len_pos ht
  unfold feedOf
  obtain ⟨m, hm⟩ : ∃ m, t.length = m + 1 := ⟨t.length - 1, by omega⟩
  rw [hm, feedF, if_neg ht, if_neg (by rw [h]; simp), if_pos k]
theorem feed_bad {cs : Int} {t : List UInt8} (ht : t ≠ []) (h : hdOk cs t = false) (k : beg cs t = false) : feedOf cs t = ([], [], true) := by
  have hl : 0 < t.length := len_pos ht
  unfold feedOf
  obtain ⟨m, hm⟩ : ∃ m, t.length = m + 1 := ⟨t.length - 1, by omega⟩
  rw [hm, feedF, if_neg ht, if_neg (by rw [h]; simp), if_neg (by rw [k]; simp)]

def feedT (cs : Int) (t : List UInt8) : List UInt8 := (feedOf cs t).1
def feedH (cs : Int) (t : List UInt8) : List UInt8 := (feedOf cs t).2.1
def feedB (cs : Int) (t : List UInt8) : Bool := (feedOf cs t).2.2

/-- What is held begins a sign; where something is bad nothing is held. -/
theorem feed_held (cs : Int) : ∀ (k : Nat) (t : List UInt8), t.length ≤ k → (feedH cs t = [] ∨ beg cs (feedH cs t) = true) ∧ (feedB cs t = true → feedH cs t = []) ∧ (feedT cs t).length ≤ 4 * t.length ∧ (feedH cs t).length ≤ 3
  | 0, t, hk => by
    obtain rfl : t = [] := List.eq_nil_of_length_eq_zero (by omega)
    exact ⟨Or.inl rfl, fun _ => rfl, by simp [feedT, feed_nil], by simp [feedH, feed_nil]⟩
  | k + 1, t, hk => by
    by_cases ht : t = []
    · subst ht; exact ⟨Or.inl rfl, fun _ => rfl, by simp [feedT, feed_nil], by simp [feedH, feed_nil]⟩
    cases ho : hdOk cs t
    · cases hb : beg cs t
      · have e := feed_bad ht ho hb
        unfold feedH feedB feedT; rw [e]; exact ⟨Or.inl rfl, fun _ => rfl, by simp, by simp⟩
      · have e := feed_beg ht ho hb
        unfold feedH feedB feedT; rw [e]; exact ⟨Or.inr hb, fun h => (by cases h), by simp, (beg_len hb).2⟩
    · have hf := hd_fits ht ho
      have hp := hf.pos
      have hle := hf.le
      have e := feed_yes ht ho
      have ih := feed_held cs k (t.drop (hdK cs t)) (by simp; omega)
      unfold feedH feedB feedT at ih ⊢; rw [e]
      have hs := signB_len (hdN cs t)
      have hd : (t.drop (hdK cs t)).length = t.length - hdK cs t := by simp
      refine ⟨ih.1, ih.2.1, ?_, ih.2.2.2⟩
      have h3 := ih.2.2.1
      rw [hd] at h3
      rw [List.length_append]
      omega

/-- What is read of two parts one behind the other. -/
theorem feed_app (cs : Int) (b : List UInt8) : ∀ (k : Nat) (a : List UInt8), a.length ≤ k →
    (feedB cs a = true → feedOf cs (a ++ b) = (feedT cs a, [], true)) ∧ (feedB cs a = false → feedOf cs (a ++ b) = (feedT cs a ++ feedT cs (feedH cs a ++ b), (feedOf cs (feedH cs a ++ b)).2))
  | 0, a, hk => by
    obtain rfl : a = [] := List.eq_nil_of_length_eq_zero (by omega)
    exact ⟨fun h => (by cases h), fun _ => rfl⟩
  | k + 1, a, hk => by
    by_cases ha : a = []
    · subst ha; exact ⟨fun h => (by cases h), fun _ => rfl⟩
    cases ho : hdOk cs a
    · cases hb : beg cs a
      · have e := feed_bad ha ho hb
        obtain ⟨o2, b2⟩ := bad_stays ha ho hb b
        have e2 := feed_bad (t := a ++ b) (by simp [ha]) o2 b2
        unfold feedB feedT; rw [e]
        exact ⟨fun _ => e2, fun h => by cases h⟩
      · have e := feed_beg ha ho hb
        unfold feedB feedT feedH; rw [e]
        exact ⟨fun h => (by cases h), fun _ => rfl⟩
    · have hf := hd_fits ha ho
      have hp := hf.pos
      have eh := hd_app ha ho b
      have ho2 : hdOk cs (a ++ b) = true := by unfold hdOk; rw [eh]; exact ho
      have e1 : hdN cs (a ++ b) = hdN cs a := by unfold hdN; rw [eh]
      have e2 : hdK cs (a ++ b) = hdK cs a := by unfold hdK; rw [eh]
      have e := feed_yes ha ho
      have e' := feed_yes (t := a ++ b) (by simp [ha]) ho2
      rw [e1, e2, List.drop_append_of_le_length hf.le] at e'
      obtain ⟨i1, i2⟩ := feed_app cs b k (a.drop (hdK cs a)) (by simp; omega)
      have hB : feedB cs a = feedB cs (a.drop (hdK cs a)) := by unfold feedB; rw [e]
      have hT : feedT cs a = signB (hdN cs a) ++ feedT cs (a.drop (hdK cs a)) := by unfold feedT; rw [e]
      have hH : feedH cs a = feedH cs (a.drop (hdK cs a)) := by unfold feedH; rw [e]
      constructor
      · intro h
        rw [hB] at h
        rw [e', i1 h, hT]
      · intro h
        rw [hB] at h
        rw [e', i2 h, hT, hH, List.append_assoc]

/-- All is read just where nothing is lost, and the same text. -/
theorem feed_dec (cs : Int) : ∀ (k : Nat) (t : List UInt8), t.length ≤ k → (lostI (itemsOf cs t) = 0 ↔ feedH cs t = [] ∧ feedB cs t = false) ∧ (lostI (itemsOf cs t) = 0 → feedT cs t = textI (itemsOf cs t))
  | 0, t, hk => by
    obtain rfl : t = [] := List.eq_nil_of_length_eq_zero (by omega)
    exact ⟨⟨fun _ => ⟨rfl, rfl⟩, fun _ => rfl⟩, fun _ => rfl⟩
  | k + 1, t, hk => by
    by_cases ht : t = []
    · subst ht; exact ⟨⟨fun _ => ⟨rfl, rfl⟩, fun _ => rfl⟩, fun _ => rfl⟩
    cases ho : hdOk cs t
    · have hl : lostI (itemsOf cs t) ≠ 0 := by rw [itemsOf_no ht ho, lostI_none]; omega
      refine ⟨⟨fun h => absurd h hl, fun h => ?_⟩, fun h => absurd h hl⟩
      exfalso
      cases hb : beg cs t
      · have e := feed_bad ht ho hb
        unfold feedB at h; rw [e] at h; cases h.2
      · have e := feed_beg ht ho hb
        unfold feedH at h; rw [e] at h; exact ht h.1
    · have hf := hd_fits ht ho
      have hp := hf.pos
      have e := feed_yes ht ho
      obtain ⟨i1, i2⟩ := feed_dec cs k (t.drop (hdK cs t)) (by simp; omega)
      have hB : feedB cs t = feedB cs (t.drop (hdK cs t)) := by unfold feedB; rw [e]
      have hT : feedT cs t = signB (hdN cs t) ++ feedT cs (t.drop (hdK cs t)) := by unfold feedT; rw [e]
      have hH : feedH cs t = feedH cs (t.drop (hdK cs t)) := by unfold feedH; rw [e]
      rw [itemsOf_yes ht ho, lostI_some, hB, hH, hT, textI_cons]
      exact ⟨i1, fun h => by rw [i2 h]; rfl⟩

/-- Whether a state is right. -/
def sOk (cs : Int) (held : List UInt8) (bad : Bool) : Bool := inB cs 0 5 && (decide (held = []) || (!bad && beg cs held))
/-- What a state and a part answer: text, held, bad. -/
def fedT (cs : Int) (held : List UInt8) (bad : Bool) (b : List UInt8) : List UInt8 := if sOk cs held bad && !bad then feedT cs (held ++ b) else []
def fedH (cs : Int) (held : List UInt8) (bad : Bool) (b : List UInt8) : List UInt8 := if sOk cs held bad && !bad then feedH cs (held ++ b) else held
def fedB (cs : Int) (held : List UInt8) (bad : Bool) (b : List UInt8) : Bool := if sOk cs held bad && !bad then feedB cs (held ++ b) else bad

/-- Where the reading of a part stands. -/
structure FeedAt (cs : Int) (bs : List UInt8) (k : Nat) (out : List UInt8) : Prop where
  le : k ≤ bs.length
  size : out.length ≤ 4 * k
  txt : feedT cs bs = out ++ feedT cs (bs.drop k)
  rest : (feedOf cs bs).2 = (feedOf cs (bs.drop k)).2
theorem feedAt_zero (cs : Int) (bs : List UInt8) : FeedAt cs bs 0 [] := ⟨Nat.zero_le _, Nat.zero_le _, rfl, rfl⟩
theorem feedAt_yes {cs : Int} {bs : List UInt8} {k : Nat} {out : List UInt8} (h : FeedAt cs bs k out) (hk : k < bs.length) (ho : hdOk cs (bs.drop k) = true) : FeedAt cs bs (k + hdK cs (bs.drop k)) (out ++ signB (hdN cs (bs.drop k))) := by
  have hf := hd_fits (drop_ne hk) ho
  have hp := hf.pos
  have hle := hf.le
  have e := feed_yes (drop_ne hk) ho
  rw [List.drop_drop] at e
  have hd : (bs.drop k).length = bs.length - k := by simp
  have hs := signB_len (hdN cs (bs.drop k))
  refine ⟨by omega, ?_, ?_, ?_⟩
  · rw [List.length_append]; have := h.size; omega
  · rw [h.txt]; unfold feedT; rw [e, List.append_assoc]
  · rw [h.rest, e]
theorem feedAt_end {cs : Int} {bs : List UInt8} {k : Nat} {out : List UInt8} (h : FeedAt cs bs k out) (hk : ¬ k < bs.length) : feedT cs bs = out ∧ feedH cs bs = [] ∧ feedB cs bs = false := by
  have hd : bs.drop k = [] := by simp; omega
  have h1 := h.txt
  have h2 := h.rest
  rw [hd] at h1 h2
  exact ⟨by rw [h1]; simp [feedT, feed_nil], by unfold feedH; rw [h2]; rfl, by unfold feedB; rw [h2]; rfl⟩
theorem feedAt_beg {cs : Int} {bs : List UInt8} {k : Nat} {out : List UInt8} (h : FeedAt cs bs k out) (hk : k < bs.length) (ho : hdOk cs (bs.drop k) = false) (hb : beg cs (bs.drop k) = true) : feedT cs bs = out ∧ feedH cs bs = bs.drop k ∧ feedB cs bs = false := by
  have e := feed_beg (drop_ne hk) ho hb
  have h1 := h.txt
  have h2 := h.rest
  unfold feedT at h1 ⊢
  rw [e] at h1 h2
  exact ⟨by rw [h1]; simp, by unfold feedH; rw [h2], by unfold feedB; rw [h2]⟩
theorem feedAt_bad {cs : Int} {bs : List UInt8} {k : Nat} {out : List UInt8} (h : FeedAt cs bs k out) (hk : k < bs.length) (ho : hdOk cs (bs.drop k) = false) (hb : beg cs (bs.drop k) = false) : feedT cs bs = out ∧ feedH cs bs = [] ∧ feedB cs bs = true := by
  have e := feed_bad (drop_ne hk) ho hb
  have h1 := h.txt
  have h2 := h.rest
  unfold feedT at h1 ⊢
  rw [e] at h1 h2
  exact ⟨by rw [h1]; simp, by unfold feedH; rw [h2], by unfold feedB; rw [h2]⟩

def fill (t : List UInt8) (x : UInt8) : List UInt8 := t ++ List.replicate (l2len (gv t 0) - t.length) x
def lowF (t : List UInt8) : List UInt8 := if t.length = 1 then (if gv t 0 = 224 then (fill t 128).set 1 160 else if gv t 0 = 240 then (fill t 128).set 1 144 else fill t 128) else fill t 128
def highF (t : List UInt8) : List UInt8 := if t.length = 1 then (if gv t 0 = 237 then (fill t 191).set 1 159 else if gv t 0 = 244 then (fill t 191).set 1 143 else fill t 191) else fill t 191

theorem fill_len {t : List UInt8} {x : UInt8} (h : t.length < l2len (gv t 0)) : (fill t x).length = l2len (gv t 0) := by
  unfold fill; rw [List.length_append, List.length_replicate]; omega
theorem lowF_len {t : List UInt8} (h : t.length < l2len (gv t 0)) : (lowF t).length = l2len (gv t 0) := by
  unfold lowF; repeat' split
  all_goals first | exact fill_len h | (rw [List.length_set]; exact fill_len h)
theorem highF_len {t : List UInt8} (h : t.length < l2len (gv t 0)) : (highF t).length = l2len (gv t 0) := by
  unfold highF; repeat' split
  all_goals first | exact fill_len h | (rw [List.length_set]; exact fill_len h)

theorem got_eq {l : List UInt8} (h : ∃ n, isSign n ∧ signB n = l) : gotB l = true := by
  obtain ⟨n, h1, h2⟩ := h
  exact gotB_of (n := n) ⟨h1, by rw [h2]; exact List.prefix_rfl⟩
theorem b128 : (128 : UInt8) = bt 128 := rfl
theorem b191 : (191 : UInt8) = bt 191 := rfl
theorem b160 : (160 : UInt8) = bt 160 := rfl
theorem b144 : (144 : UInt8) = bt 144 := rfl
theorem b159 : (159 : UInt8) = bt 159 := rfl
theorem b143 : (143 : UInt8) = bt 143 := rfl

theorem len2 {x : Nat} (h1 : 194 ≤ x) (h2 : x ≤ 223) : l2len x = 2 := by unfold l2len; rw [if_neg (by omega), if_pos ⟨h1, h2⟩]
theorem len3 {x : Nat} (h1 : 224 ≤ x) (h2 : x ≤ 239) : l2len x = 3 := by unfold l2len; rw [if_neg (by omega), if_neg (by omega), if_pos ⟨h1, h2⟩]
theorem len4 {x : Nat} (h1 : 240 ≤ x) (h2 : x ≤ 244) : l2len x = 4 := by unfold l2len; rw [if_neg (by omega), if_neg (by omega), if_neg (by omega), if_pos ⟨h1, h2⟩]
theorem len_in {x k : Nat} (h : k < l2len x) (hk : 1 ≤ k) : (194 ≤ x ∧ x ≤ 223 ∧ l2len x = 2) ∨ (224 ≤ x ∧ x ≤ 239 ∧ l2len x = 3) ∨ (240 ≤ x ∧ x ≤ 244 ∧ l2len x = 4) := by
  unfold l2len at h ⊢
  repeat' split at h
  all_goals first | omega | skip
  · rename_i h1 h2; exact Or.inl ⟨h2.1, h2.2, by rw [if_neg h1, if_pos h2]⟩
  · rename_i h1 h2 h3; exact Or.inr (Or.inl ⟨h3.1, h3.2, by rw [if_neg h1, if_neg h2, if_pos h3]⟩)
  · rename_i h1 h2 h3 h4; exact Or.inr (Or.inr ⟨h4.1, h4.2, by rw [if_neg h1, if_neg h2, if_neg h3, if_pos h4]⟩)

theorem fill_is {t : List UInt8} {x : UInt8} {n m : Nat} (h : l2len (gv t 0) = n) (hm : n - t.length = m) : fill t x = t ++ List.replicate m x := by unfold fill; rw [h, hm]

/-- What begins a sign is one when it is filled up by the least bytes. -/
theorem low_got {t : List UInt8} (h : BegU t) : gotB (lowF t) = true := by
  rcases h with ⟨h1, h2, h3⟩ | ⟨h1, h2, h3, h4⟩ | ⟨h1, h2, h3, h4, h5, h6⟩
  · have e := list_one h1
    generalize hx : gv t 0 = x at *
    have hL : lowF t = if x = 224 then (fill t 128).set 1 160 else if x = 240 then (fill t 128).set 1 144 else fill t 128 := by unfold lowF; rw [if_pos h1, hx]
    rw [hL]
    by_cases k2 : x ≤ 223
    · rw [if_neg (by omega), if_neg (by omega), fill_is (n := 2) (m := 1) (by rw [hx]; exact len2 h2 k2) (by omega), e]
      exact got_eq (two_got (b := 128) h2 k2 (by omega) (by omega))
    by_cases k3 : x ≤ 239
    · rw [fill_is (n := 3) (m := 2) (by rw [hx]; exact len3 (by omega) k3) (by omega), e]
      by_cases c : x = 224
      · rw [if_pos c]
        exact got_eq (three_got (a := x) (b := 160) (c := 128) (by omega) k3 (by omega) (by omega) (by omega))
      · rw [if_neg c, if_neg (by omega)]
        exact got_eq (three_got (a := x) (b := 128) (c := 128) (by omega) k3 (by omega) (by omega) (by omega))
    · rw [fill_is (n := 4) (m := 3) (by rw [hx]; exact len4 (by omega) h3) (by omega), e, if_neg (by omega)]
      by_cases c : x = 240
      · rw [if_pos c]
        exact got_eq (four_got (a := x) (b := 144) (c := 128) (d := 128) (by omega) h3 (by omega) (by omega) (by omega) (by omega) (by omega))
      · rw [if_neg c]
        exact got_eq (four_got (a := x) (b := 128) (c := 128) (d := 128) (by omega) h3 (by omega) (by omega) (by omega) (by omega) (by omega))
  · have e := list_two h1
    generalize hx : gv t 0 = x at *
    generalize hy : gv t 1 = y at *
    have hL : lowF t = fill t 128 := by unfold lowF; rw [if_neg (by omega)]
    rw [hL]
    by_cases k3 : x ≤ 239
    · rw [fill_is (n := 3) (m := 1) (by rw [hx]; exact len3 h2 k3) (by omega), e]
      exact got_eq (three_got (c := 128) h2 k3 h4 (by omega) (by omega))
    · rw [fill_is (n := 4) (m := 2) (by rw [hx]; exact len4 (by omega) h3) (by omega), e]
      exact got_eq (four_got (c := 128) (d := 128) (by omega) h3 h4 (by omega) (by omega) (by omega) (by omega))
  · have e := list_three h1
    generalize hx : gv t 0 = x at *
    generalize hy : gv t 1 = y at *
    generalize hz : gv t 2 = z at *
    have hL : lowF t = fill t 128 := by unfold lowF; rw [if_neg (by omega)]
    rw [hL, fill_is (n := 4) (m := 1) (by rw [hx]; exact len4 h2 h3) (by omega), e]
    exact got_eq (four_got (d := 128) h2 h3 h4 h5 h6 (by omega) (by omega))

/-- And by the greatest ones. -/
theorem high_got {t : List UInt8} (h : BegU t) : gotB (highF t) = true := by
  rcases h with ⟨h1, h2, h3⟩ | ⟨h1, h2, h3, h4⟩ | ⟨h1, h2, h3, h4, h5, h6⟩
  · have e := list_one h1
    generalize hx : gv t 0 = x at *
    have hL : highF t = if x = 237 then (fill t 191).set 1 159 else if x = 244 then (fill t 191).set 1 143 else fill t 191 := by unfold highF; rw [if_pos h1, hx]
    rw [hL]
    by_cases k2 : x ≤ 223
    · rw [if_neg (by omega), if_neg (by omega), fill_is (n := 2) (m := 1) (by rw [hx]; exact len2 h2 k2) (by omega), e]
      exact got_eq (two_got (b := 191) h2 k2 (by omega) (by omega))
    by_cases k3 : x ≤ 239
    · rw [fill_is (n := 3) (m := 2) (by rw [hx]; exact len3 (by omega) k3) (by omega), e]
      by_cases c : x = 237
      · rw [if_pos c]
        exact got_eq (three_got (a := x) (b := 159) (c := 191) (by omega) k3 (by omega) (by omega) (by omega))
      · rw [if_neg c, if_neg (by omega)]
        exact got_eq (three_got (a := x) (b := 191) (c := 191) (by omega) k3 (by omega) (by omega) (by omega))
    · rw [fill_is (n := 4) (m := 3) (by rw [hx]; exact len4 (by omega) h3) (by omega), e, if_neg (by omega)]
      by_cases c : x = 244
      · rw [if_pos c]
        exact got_eq (four_got (a := x) (b := 143) (c := 191) (d := 191) (by omega) h3 (by omega) (by omega) (by omega) (by omega) (by omega))
      · rw [if_neg c]
        exact got_eq (four_got (a := x) (b := 191) (c := 191) (d := 191) (by omega) h3 (by omega) (by omega) (by omega) (by omega) (by omega))
  · have e := list_two h1
    generalize hx : gv t 0 = x at *
    generalize hy : gv t 1 = y at *
    have hL : highF t = fill t 191 := by unfold highF; rw [if_neg (by omega)]
    rw [hL]
    by_cases k3 : x ≤ 239
    · rw [fill_is (n := 3) (m := 1) (by rw [hx]; exact len3 h2 k3) (by omega), e]
      exact got_eq (three_got (c := 191) h2 k3 h4 (by omega) (by omega))
    · rw [fill_is (n := 4) (m := 2) (by rw [hx]; exact len4 (by omega) h3) (by omega), e]
      exact got_eq (four_got (c := 191) (d := 191) (by omega) h3 h4 (by omega) (by omega) (by omega) (by omega))
  · have e := list_three h1
    generalize hx : gv t 0 = x at *
    generalize hy : gv t 1 = y at *
    generalize hz : gv t 2 = z at *
    have hL : highF t = fill t 191 := by unfold highF; rw [if_neg (by omega)]
    rw [hL, fill_is (n := 4) (m := 1) (by rw [hx]; exact len4 h2 h3) (by omega), e]
    exact got_eq (four_got (d := 191) h2 h3 h4 h5 h6 (by omega) (by omega))

theorem set_one {t r : List UInt8} (x : UInt8) (h : t.length = 1) : ∃ s, (t ++ r).set 1 x = t ++ s := by
  match t, h with
  | [a], _ => exact ⟨r.set 0 x, by simp⟩
theorem lowF_app (t : List UInt8) : ∃ s, lowF t = t ++ s := by
  unfold lowF
  by_cases h : t.length = 1
  · rw [if_pos h]
    repeat' split
    · exact set_one _ h
    · exact set_one _ h
    · exact ⟨_, rfl⟩
  · rw [if_neg h]; exact ⟨_, rfl⟩
theorem utf_begs {t : List UInt8} (h1 : 1 ≤ t.length) (hk : t.length < l2len (gv t 0)) : (gotB (lowF t) && gotB (highF t)) = begU t := by
  by_cases hb : BegU t
  · rw [low_got hb, high_got hb, begU_t hb]; rfl
  · have hl : gotB (lowF t) = false := by
      cases hg : gotB (lowF t)
      · rfl
      · exfalso
        obtain ⟨g1, _⟩ := gotB_t hg
        obtain ⟨s, hs⟩ := lowF_app t
        rw [hs] at g1
        have ht : t ≠ [] := by intro e; rw [e] at h1; simp at h1
        rcases got_parts ht g1 with g | g
        · refine read_short ?_ ⟨_, g⟩
          rw [← got_len g]; exact hk
        · exact hb g
    rw [hl, begU_f hb]; rfl
theorem utf_long {t : List UInt8} (hk : l2len (gv t 0) ≤ t.length) : begU t = false := by
  refine begU_f ?_
  intro h
  rcases h with ⟨h1, h2, h3⟩ | ⟨h1, h2, h3, _⟩ | ⟨h1, h2, h3, _⟩
  · by_cases k2 : gv t 0 ≤ 223
    · rw [len2 h2 k2] at hk; omega
    · by_cases k3 : gv t 0 ≤ 239
      · rw [len3 (by omega) k3] at hk; omega
      · rw [len4 (by omega) h3] at hk; omega
  · by_cases k3 : gv t 0 ≤ 239
    · rw [len3 (by omega) k3] at hk; omega
    · rw [len4 (by omega) h3] at hk; omega
  · rw [len4 h2 h3] at hk; omega
theorem utf_none : begU [] = false := begU_f (by rintro (⟨h, _⟩ | ⟨h, _⟩ | ⟨h, _⟩) <;> simp at h)

theorem alloc_old (w : World) (o : Obj) {k : Nat} (h : k < w.heap.size) : (w.alloc o).heap[k]? = w.heap[k]? := (below_lit w o).block k h
theorem alloc_new (w : World) (o : Obj) {k : Nat} (h : k = w.heap.size) : (w.alloc o).heap[k]? = some o := by subst h; exact heap_alloc_new w o
theorem below_lit3 (w : World) (A B C : Obj) : Below w.heap.size w (((w.alloc A).alloc B).alloc C) := (below_lit2 w A B).alloc (by simp; omega) C
theorem below_lit4 (w : World) (A B C D : Obj) : Below w.heap.size w ((((w.alloc A).alloc B).alloc C).alloc D) := (below_lit3 w A B C).alloc (by simp; omega) D
/-- Three blocks, one behind the other. -/
theorem laid3 (w : World) (A B C : Obj) : (((w.alloc A).alloc B).alloc C).heap[w.heap.size]? = some A ∧ (((w.alloc A).alloc B).alloc C).heap[w.heap.size + 1]? = some B ∧ (((w.alloc A).alloc B).alloc C).heap[w.heap.size + 1 + 1]? = some C := by
  refine ⟨?_, ?_, alloc_new _ _ (by simp)⟩
  · rw [alloc_old _ _ (by simp; omega), alloc_old _ _ (by simp), alloc_new _ _ rfl]
  · rw [alloc_old _ _ (by simp), alloc_new _ _ (by simp)]
theorem laid4 (w : World) (A B C D : Obj) : ((((w.alloc A).alloc B).alloc C).alloc D).heap[w.heap.size]? = some A ∧ ((((w.alloc A).alloc B).alloc C).alloc D).heap[w.heap.size + 1]? = some B ∧ ((((w.alloc A).alloc B).alloc C).alloc D).heap[w.heap.size + 1 + 1]? = some C ∧ ((((w.alloc A).alloc B).alloc C).alloc D).heap[w.heap.size + 1 + 1 + 1]? = some D := by
  obtain ⟨h1, h2, h3⟩ := laid3 w A B C
  refine ⟨?_, ?_, ?_, alloc_new _ _ (by simp)⟩
  · rw [alloc_old _ _ (by simp <;> omega)]; exact h1
  · rw [alloc_old _ _ (by simp <;> omega)]; exact h2
  · rw [alloc_old _ _ (by simp <;> omega)]; exact h3
theorem laid2 (w : World) (A B : Obj) : ((w.alloc A).alloc B).heap[w.heap.size]? = some A ∧ ((w.alloc A).alloc B).heap[w.heap.size + 1]? = some B := by
  refine ⟨?_, alloc_new _ _ (by simp)⟩
  rw [alloc_old _ _ (by simp), alloc_new _ _ rfl]

/-- A block of three cells that may be written: its cells. -/
theorem cells3 (w : World) (g : Nat) (a b c : Value) (T : TypeId) (hg : w.heap[g]? = some (.cells #[a, b, c] T (0, 0))) :
    w.cell? ⟨g, 0, none⟩ = some a ∧ w.cell? ⟨g, 1, none⟩ = some b ∧ w.cell? ⟨g, 2, none⟩ = some c ∧ w.frozen? ⟨g, 0, none⟩ = false ∧ w.frozen? ⟨g, 1, none⟩ = false ∧ w.frozen? ⟨g, 2, none⟩ = false := by
  refine ⟨?_, ?_, ?_, frozen_of_row w g 0 _ _ hg, frozen_of_row w g 1 _ _ hg, frozen_of_row w g 2 _ _ hg⟩
  · rw [cell_of_row w g 0 _ _ (0, 0) hg]; rfl
  · rw [cell_of_row w g 1 _ _ (0, 0) hg]; rfl
  · rw [cell_of_row w g 2 _ _ (0, 0) hg]; rfl

theorem Row.set {w : World} {g q j : Nat} {bs : List UInt8} (h : Row w g bs) (v : Value) (hne : g ≠ q) : Row (w.setCell ⟨q, j, none⟩ v) g bs := h.of_block (heap_setCell_other w ⟨q, j, none⟩ g v hne)
theorem bset {B : Nat} {a w : World} {q j : Nat} (h : Below B a w) (v : Value) (hq : B ≤ q) : Below B a (w.setCell ⟨q, j, none⟩ v) := h.setCell (p := ⟨q, j, none⟩) hq v

theorem block_set {w : World} {g q j : Nat} {v : Value} {o : Option Obj} (h : w.heap[g]? = o) (hne : g ≠ q) : (w.setCell ⟨q, j, none⟩ v).heap[g]? = o := (heap_setCell_other w ⟨q, j, none⟩ g v hne).trans h
/-- A block of three cells, all of them written. -/
theorem set3 {w : World} {g : Nat} {a b c : Value} {T : TypeId} (x y z : Value) (hg : w.heap[g]? = some (.cells #[a, b, c] T (0, 0))) :
    (((w.setCell ⟨g, 0, none⟩ x).setCell ⟨g, 1, none⟩ y).setCell ⟨g, 2, none⟩ z).heap[g]? = some (.cells #[x, y, z] T (0, 0)) := by
  rw [heap_setCell_same _ g 2 _ _ _ (heap_setCell_same _ g 1 _ _ _ (heap_setCell_same w g 0 _ _ _ hg))]
  simp
/-- The results: a variable of several cells, and a number or the like. -/
theorem results_row_tmp {P : Program} {fn : Func} {p u : Tmp} {ty : TypeId} (h : fn.results = #[.cell p ty, .tmp u]) (tmps : Array Value) (w : World) (g : Nat) (t : TypeId) (cs : Array Value) (fr : Nat × Nat) (d : TypeDesc)
    (hp : tmps.getD p undef = .pointer (some ⟨g, 0, none⟩)) (hg : w.heap[g]? = some (.cells cs t fr))
    (hu : P.underlying ty = some d) (hd : (match d with | .struct _ | .array _ _ => true | _ => false) = true) (hi : (P.info? ty).map (·.size) = some cs.size) :
    (results fn tmps).run P w = .ok (.tuple #[.agg cs, tmps.getD u undef]) w := by
  rw [results_cell_tmp h]
  simp only [hp, asAddr, Sem.run_pure, Result.andThen_ok, run_loadVar_row w g t ty cs fr d hg hu hd hi]

theorem Own.reads_drop {w : World} {q c L : Nat} {bs : List UInt8} (h : Own w q c bs) (hn : bs.length = L) (k : Nat) (hk : k ≤ L) : Reads w (some ⟨q, k, none⟩) (L - k) (bs.drop k) := by
  refine ⟨by simp; omega, .inr ⟨q, k, rfl, fun j hj => ?_⟩⟩
  have := h.row.cell (k + j) (by omega)
  rw [this]; simp [List.getD]
/-- What append leaves of a slice of the call's own: where it lies. -/
theorem own_app {w1 : World} {B q n m c N : Nat} {bs xs : List UInt8} {v1 : Value} (hown : w1.ownsRow B 5 1 v1 (n + m) (bs.map cb ++ xs.map cb)) (hnil : ¬ v1 = .slice none 0 0) (hat : v1.ownBlock = (Value.slice (some ⟨q, 0, none⟩) n c).ownBlock ∨ v1.ownBlock = some N) :
    ∃ q' c', v1 = .slice (some ⟨q', 0, none⟩) (n + m) c' ∧ B ≤ q' ∧ Own w1 q' c' (bs ++ xs) ∧ (q' = q ∨ q' = N) := by
  rw [← List.map_append] at hown
  obtain ⟨g, c', hv, hg, hO⟩ := own_row hown hnil
  subst hv
  exact ⟨g, c', rfl, hg, hO, by simpa [Value.ownBlock] using hat⟩

set_option maxHeartbeats 400000 in
theorem szByteS_any (ao : Option Addr) (len cap : Nat) (n : Int) (w : World) (hl : Hd (len ≤ maxLen)) (hn : Hd (n = 1048576)) :
    Calls Tryd.prog 45 #[.slice ao len cap, .int .i64 n] w fun e w' => e = .returned (.int .i64 (if 1048576 < len then -1 else 1048576 - (len : Int))) ∧ w = w' := by
  obtain ⟨rfl⟩ := hn
  have hw : wrap64 (1048576 - (len : Int)) = 1048576 - (len : Int) := by have := hl.out; unfold maxLen at this; exact wrap64_in (by omega) (by omega)
  clear hl
  by_cases h : 1048576 < len
  · rw [if_pos h]
    have h2 : (1048576 : Int) - (len : Int) < 0 := by omega
    go_enter Tryd.func45, Tryd.ntmps45
    go_wp2
    go_ret
    exact ⟨rfl, rfl⟩
  · rw [if_neg h]
    have h2 : ¬ (1048576 : Int) - (len : Int) < 0 := by omega
    go_enter Tryd.func45, Tryd.ntmps45
    go_wp2
    go_ret
    exact ⟨rfl, rfl⟩

set_option maxHeartbeats 400000 in
theorem toDec_any (cs : Int) (ao : Option Addr) (len cap : Nat) (bad : Bool) (bs : List UInt8) (w : World) (hr : Reads w ao len bs) (hl : len ≤ 1073741824) :
    Calls Tryd.prog 25 #[.agg #[.int .i64 cs, .slice ao len cap, .bool bad]] w fun e w' => ∃ g, e = .returned (.agg #[.int .i64 cs, .slice (some ⟨g, 0, none⟩) len len, .bool bad]) ∧ w.heap.size ≤ g ∧ Row w' g bs ∧ Below w.heap.size w w' := by
  have Hr : Hd (Reads w ao len bs) := ⟨hr⟩
  clear hr
  go_enter Tryd.func25, Tryd.ntmps25
  go_wp2_with fail
  generalize hA : Obj.cells #[Value.int IntKind.i64 cs, Value.slice ao len cap, Value.bool bad] 39 = A
  generalize hB : Obj.cells #[Value.int IntKind.i64 0, Value.slice none 0 0, Value.bool false] 30 = B
  generalize hC : Obj.cells #[Value.int IntKind.i64 cs, Value.slice none 0 0, Value.bool false] 30 = C
  have h3 : Below w.heap.size w (((w.alloc A).alloc B).alloc C) := below_lit3 w A B C
  refine (toByteS_any ao len cap bs _ (Hr.out.below rfl h3) hl).mono ?_
  rintro e w1 ⟨rfl, hR, hb⟩
  obtain ⟨l0, l1, l2⟩ := laid3 w A B C
  subst hA hB hC
  obtain ⟨a0, a1, a2, _, _, _⟩ := cells3 w1 w.heap.size _ _ _ _ ((hb.block w.heap.size (by simp; omega)).trans l0)
  obtain ⟨b0, b1, b2, b3, b4, b5⟩ := cells3 w1 (w.heap.size + 1) _ _ _ _ ((hb.block (w.heap.size + 1) (by simp)).trans l1)
  obtain ⟨c0, c1, c2, c3, c4, c5⟩ := cells3 w1 (w.heap.size + 1 + 1) _ _ _ _ ((hb.block (w.heap.size + 1 + 1) (by simp)).trans l2)
  have HK : Hd (w1.heap[w.heap.size + 1]? = some (.cells #[.int .i64 0, .slice none 0 0, .bool false] 30 (0, 0))) := ⟨(hb.block (w.heap.size + 1) (by simp)).trans l1⟩
  have HB : Hd (Below w.heap.size w w1) := ⟨Below.next h3 hb⟩
  simp only [World.size_alloc] at hR ⊢
  have HR : Hd (Row w1 (w.heap.size + 1 + 1 + 1) bs) := ⟨hR⟩
  clear hR hb h3 l0 l1 l2
  go_wp2_with fail
  refine bodyPost_ret (results_cell_row rfl _ _ (w.heap.size + 1) _ _ (0, 0) _ rfl (set3 _ _ _ (block_set (block_set HK.out (by omega)) (by omega))) Tryd.underlying30 rfl (by kernel_rfl)) rfl ?_
  refine ⟨_, rfl, by omega, ?_, ?_⟩
  · exact ((((HR.out.set _ (by omega)).set _ (by omega)).set _ (by omega)).set _ (by omega)).set _ (by omega)
  · exact bset (bset (bset (bset (bset HB.out _ (by omega)) _ (by omega)) _ (by omega)) _ (by omega)) _ (by omega)

set_option maxHeartbeats 400000 in
theorem szDec_any (cs : Int) (ao : Option Addr) (len cap : Nat) (bad : Bool) (n : Int) (w : World) (hl : Hd (len ≤ maxLen)) (hn : Hd (n = 1048576)) :
    Calls Tryd.prog 24 #[.agg #[.int .i64 cs, .slice ao len cap, .bool bad], .int .i64 n] w fun e w' => e = .returned (.int .i64 (if 1048576 < len then -1 else 1048576 - (len : Int))) ∧ Below w.heap.size w w' := by
  go_enter Tryd.func24, Tryd.ntmps24
  go_wp2_with fail
  refine (szByteS_any ao len cap n _ hl hn).mono ?_
  rintro e w1 ⟨rfl, hw⟩
  subst hw
  by_cases h : 1048576 < len
  · rw [if_pos h]
    go_wp2_with fail
    go_ret
    exact ⟨rfl, below_lit w _⟩
  · rw [if_neg h]
    have h2 : ¬ (1048576 : Int) - (len : Int) < 0 := by omega
    go_wp2_with fail
    go_ret
    exact ⟨rfl, below_lit w _⟩

set_option maxHeartbeats 400000 in
theorem eqDec_true (cs : Int) (a1 a2 : Option Addr) (c1 c2 len : Nat) (bad : Bool) (bs : List UInt8) (w : World) (hl : len ≤ 1073741824) (h1 : Reads w a1 len bs) (h2 : Reads w a2 len bs) :
    Calls Tryd.prog 26 #[.agg #[.int .i64 cs, .slice a1 len c1, .bool bad], .agg #[.int .i64 cs, .slice a2 len c2, .bool bad]] w fun e w' => e = .returned (.bool true) ∧ Below w.heap.size w w' := by
  have H1 : Hd (Reads w a1 len bs) := ⟨h1⟩
  have H2 : Hd (Reads w a2 len bs) := ⟨h2⟩
  clear h1 h2
  have f1 : (cs != cs) = false := by simp
  have f2 : (bad != bad) = false := by simp
  go_enter Tryd.func26, Tryd.ntmps26
  go_wp2_with fail
  generalize hA : Obj.cells #[Value.int IntKind.i64 cs, Value.slice a1 len c1, Value.bool bad] 30 = A
  generalize hB : Obj.cells #[Value.int IntKind.i64 cs, Value.slice a2 len c2, Value.bool bad] 30 = B
  have h3 : Below w.heap.size w ((w.alloc A).alloc B) := below_lit2 w A B
  refine (eqByteS_true a1 a2 c1 c2 len bs _ hl (H1.out.below rfl h3) (H2.out.below rfl h3)).mono ?_
  rintro e w1 ⟨rfl, hb⟩
  obtain ⟨l0, l1⟩ := laid2 w A B
  subst hA hB
  obtain ⟨p0, p1, p2, _, _, _⟩ := cells3 w1 w.heap.size _ _ _ _ ((hb.block w.heap.size (by simp; omega)).trans l0)
  obtain ⟨q0, q1, q2, _, _, _⟩ := cells3 w1 (w.heap.size + 1) _ _ _ _ ((hb.block (w.heap.size + 1) (by simp)).trans l1)
  have HB : Hd (Below w.heap.size w w1) := ⟨Below.next h3 hb⟩
  clear hb h3 l0 l1
  go_wp2_with fail
  go_ret
  exact ⟨rfl, HB.out⟩

set_option maxHeartbeats 400000 in
theorem markDec_any (cs : Int) (g len cap m : Nat) (bad : Bool) (bs : List UInt8) (w : World) (hn : bs.length = len) (hR : Row w g bs) (hl : len ≤ 1073741824) (hm : m ≤ 1099511627776) :
    Calls Tryd.prog 29 #[.agg #[.int .i64 cs, .slice (some ⟨g, 0, none⟩) len cap, .bool bad], .int .i64 (m : Int)] w fun e w' => e = .returned (.int .i64 ((m + len : Nat) : Int)) ∧ Row w' g (marks m len) ∧ w.grownBy w' (some g) := by
  have Hn : Hd (bs.length = len) := ⟨hn⟩
  have HR : Hd (Row w g bs) := ⟨hR⟩
  clear hn hR
  go_enter Tryd.func29, Tryd.ntmps29
  go_wp2_with fail
  generalize hA : Obj.cells #[Value.int IntKind.i64 cs, Value.slice (some ⟨g, 0, none⟩) len cap, Value.bool bad] 30 = A
  refine (markByteS_any g len cap m bs _ Hn.out (HR.out.below (below_lit w A)) hl hm).mono ?_
  rintro e w1 ⟨rfl, hR1, hG1⟩
  have HR1 : Hd (Row w1 g (marks m len)) := ⟨hR1⟩
  have HG1 : Hd (w.grownBy w1 (some g)) := ⟨grown_of_alloc hG1⟩
  clear hR1 hG1 hA
  go_wp2_with fail
  go_ret
  exact ⟨rfl, HR1.out, HG1.out⟩

set_option maxHeartbeats 400000 in
theorem heldDec_any (cs : Int) (g len cap m : Nat) (bad : Bool) (w : World) (hR : Row w g (marks m len)) (hl : len ≤ 1073741824) (hm : m ≤ 1099511627776) :
    Calls Tryd.prog 31 #[.agg #[.int .i64 cs, .slice (some ⟨g, 0, none⟩) len cap, .bool bad], .int .i64 (m : Int)] w fun e w' => e = .returned (.int .i64 ((m + len : Nat) : Int)) ∧ Below w.heap.size w w' := by
  have HR : Hd (Row w g (marks m len)) := ⟨hR⟩
  clear hR
  go_enter Tryd.func31, Tryd.ntmps31
  go_wp2_with fail
  generalize hA : Obj.cells #[Value.int IntKind.i64 cs, Value.slice (some ⟨g, 0, none⟩) len cap, Value.bool bad] 30 = A
  refine (heldByteS_any g len cap m _ (HR.out.below (below_lit w A)) hl hm).mono ?_
  rintro e w1 ⟨rfl, hw⟩
  subst hw
  have h2 : ¬ ((m + len : Nat) : Int) < 0 := by omega
  clear hA
  go_wp2_with fail
  go_ret
  exact ⟨rfl, below_lit w A⟩

/-- Two slices that are filled up side by side. -/
structure LH (w : World) (bs : List UInt8) (m1 m2 q1 c1 q2 c2 : Nat) (wr : World) : Prop where
  a : Own wr q1 c1 (bs ++ List.replicate m1 128)
  b : Own wr q2 c2 (bs ++ List.replicate m2 191)
  p1 : w.heap.size ≤ q1
  p2 : w.heap.size ≤ q2
  ne : q1 ≠ q2
  bel : Below w.heap.size w wr
theorem rep_snoc (bs : List UInt8) (m : Nat) (x : UInt8) : bs ++ List.replicate m x ++ [x] = bs ++ List.replicate (m + 1) x := by
  rw [List.append_assoc, ← List.replicate_succ']
theorem LH.next1 {w : World} {bs : List UInt8} {m1 m2 q1 c1 q2 c2 n : Nat} {wr w1 : World} {v1 : Value} (h : LH w bs m1 m2 q1 c1 q2 c2 wr) (o : Obj)
    {xs : List UInt8} (hxs : bs ++ List.replicate m1 128 = xs) (hown : w1.ownsRow w.heap.size 5 1 v1 (n + 1) (xs.map cb ++ [cb 128])) (hgr : (wr.alloc o).grownBy w1 (Value.slice (some ⟨q1, 0, none⟩) n c1).ownBlock)
    (hnil : ¬ v1 = .slice none 0 0) (hat : v1.ownBlock = (Value.slice (some ⟨q1, 0, none⟩) n c1).ownBlock ∨ v1.ownBlock = some (wr.heap.size + 1)) :
    ∃ q' c', v1 = .slice (some ⟨q', 0, none⟩) (n + 1) c' ∧ LH w bs (m1 + 1) m2 q' c' q2 c2 w1 := by
  obtain ⟨q', c', hv, hq, hO, hw⟩ := own_app (xs := [128]) hown hnil hat
  rw [← hxs, rep_snoc] at hO
  have hg : (wr.alloc o).grownBy w1 (some q1) := hgr
  have l2 := h.b.lt
  refine ⟨q', c', hv, hO, (h.b.below (below_lit wr o)).grown hg h.ne.symm, hq, h.p2, ?_, below_grows (Below.next h.bel (below_lit wr o)) hg (by have := h.bel.size; simp; omega) h.p1⟩
  rcases hw with rfl | rfl
  · exact h.ne
  · omega
theorem LH.next2 {w : World} {bs : List UInt8} {m1 m2 q1 c1 q2 c2 n : Nat} {wr w1 : World} {v1 : Value} (h : LH w bs m1 m2 q1 c1 q2 c2 wr) (o : Obj)
    {xs : List UInt8} (hxs : bs ++ List.replicate m2 191 = xs) (hown : w1.ownsRow w.heap.size 5 1 v1 (n + 1) (xs.map cb ++ [cb 191])) (hgr : (wr.alloc o).grownBy w1 (Value.slice (some ⟨q2, 0, none⟩) n c2).ownBlock)
    (hnil : ¬ v1 = .slice none 0 0) (hat : v1.ownBlock = (Value.slice (some ⟨q2, 0, none⟩) n c2).ownBlock ∨ v1.ownBlock = some (wr.heap.size + 1)) :
    ∃ q' c', v1 = .slice (some ⟨q', 0, none⟩) (n + 1) c' ∧ LH w bs m1 (m2 + 1) q1 c1 q' c' w1 := by
  obtain ⟨q', c', hv, hq, hO, hw⟩ := own_app (xs := [191]) hown hnil hat
  rw [← hxs, rep_snoc] at hO
  have hg : (wr.alloc o).grownBy w1 (some q2) := hgr
  have l2 := h.a.lt
  refine ⟨q', c', hv, (h.a.below (below_lit wr o)).grown hg h.ne, hO, h.p1, hq, ?_, below_grows (Below.next h.bel (below_lit wr o)) hg (by have := h.bel.size; simp; omega) h.p2⟩
  rcases hw with rfl | rfl
  · exact h.ne
  · omega
/-- Both at the beginning: two copies. -/
theorem lh_zero {w w1 w2 : World} {bs : List UInt8} {n : Nat} {v1 v2 : Value} {oa ob : Obj}
    (hown1 : w1.ownsRow w.heap.size 5 1 v1 n (bs.map cb)) (hgr1 : (w.alloc oa).grownBy w1 (Value.slice (some ⟨w.heap.size, 0, none⟩) 0 0).ownBlock) (hnil1 : v1 ≠ .slice none 0 0)
    (hown2 : w2.ownsRow w1.heap.size 5 1 v2 n (bs.map cb)) (hgr2 : (w1.alloc ob).grownBy w2 (Value.slice (some ⟨w1.heap.size, 0, none⟩) 0 0).ownBlock) (hnil2 : v2 ≠ .slice none 0 0) :
    ∃ q1 c1 q2 c2, v1 = .slice (some ⟨q1, 0, none⟩) n c1 ∧ v2 = .slice (some ⟨q2, 0, none⟩) n c2 ∧ LH w bs 0 0 q1 c1 q2 c2 w2 := by
  obtain ⟨q1, c1, hv1, hq1, hO1⟩ := own_row hown1 hnil1
  obtain ⟨q2, c2, hv2, hq2, hO2⟩ := own_row hown2 hnil2
  have hg1 : (w.alloc oa).grownBy w1 (some w.heap.size) := hgr1
  have hg2 : (w1.alloc ob).grownBy w2 (some w1.heap.size) := hgr2
  have hB1 : Below w.heap.size w w1 := below_grows (below_lit w oa) hg1 (by simp) (Nat.le_refl _)
  have l1 := hO1.lt
  have s1 := hB1.size
  refine ⟨q1, c1, q2, c2, hv1, hv2, ?_, ?_, hq1, by omega, by omega, below_grows (Below.next hB1 (below_lit w1 ob)) hg2 (by simp; omega) s1⟩
  · rw [List.replicate_zero, List.append_nil]; exact (hO1.below (below_lit w1 ob)).grown hg2 (by omega)
  · rw [List.replicate_zero, List.append_nil]; exact hO2
theorem gotAt_flag {l : List UInt8} {r : Int × Int × Bool} (h : GotAt l 0 r) (hl : 0 < l.length) : r.2.2 = gotB l := by
  rcases h with ⟨h1, _, _, h4, _⟩ | ⟨rfl, h⟩
  · rw [h1]; exact (gotB_of h4).symm
  · cases hg : gotB l
    · rfl
    · obtain ⟨g, _⟩ := gotB_t hg
      exact absurd ⟨Int.le_refl _, by omega, _, g⟩ h
def sliceN : Value → Nat
  | .slice _ n _ => n
  | _ => 0
theorem cb128 : ([.int .u8 128] : List Value) = ([128] : List UInt8).map cb := rfl
theorem cb191 : ([.int .u8 191] : List Value) = ([191] : List UInt8).map cb := rfl

set_option maxHeartbeats 1000000 in
theorem l6Utf_some (b off len cap : Nat) (bs : List UInt8) (w : World) (hn : bs.length = len) (hc : ∀ j, j < len → w.cell? ⟨b, off + j, none⟩ = some (.int .u8 ((bs.getD j 0).toNat : Int))) (hl : len ≤ 1073741824) (h0 : 0 < len) :
    Calls Tryd.prog 58 #[.slice (some ⟨b, off, none⟩) len cap] w fun e w' => e = .returned (.bool (begU bs)) ∧ Below w.heap.size w w' := by
  obtain ⟨i0, hi, hz0, hz1, hz2⟩ := info_parts info8
  have Hn : Hd (bs.length = len) := ⟨hn⟩
  have Hc : Hd (∀ j, j < len → w.cell? ⟨b, off + j, none⟩ = some (.int .u8 ((bs.getD j 0).toNat : Int))) := ⟨hc⟩
  have hc0 : w.cell? ⟨b, off, none⟩ = some (.int .u8 (gv bs 0 : Int)) := hc 0 h0
  obtain ⟨x, hx⟩ : ∃ x, gv bs 0 = x := ⟨_, rfl⟩
  have Hx : Hd (gv bs 0 = x) := ⟨hx⟩
  have hx2 : Hd (x < 256) := ⟨by rw [← hx]; exact gv_lt bs 0⟩
  rw [hx] at hc0
  have h0I : (0 : Int) < (len : Int) := by omega
  have e0 : ((len : Int) == 0) = false := by simp; omega
  clear hn hc hx
  go_enter Tryd.func58, Tryd.ntmps58
  go_wp2_with fail
  refine (l2Len_any x _ hx2.out).mono ?_
  rintro e w1 ⟨rfl, hw1⟩
  subst hw1
  by_cases hk : l2len x ≤ len
  · have hkI : (l2len x : Int) ≤ (len : Int) := by omega
    have E : Hd (begU bs = false) := ⟨utf_long (by rw [Hx.out, Hn.out]; exact hk)⟩
    go_wp2_with fail
    go_ret
    exact ⟨ret_bool E.out.symm, Below.refl _ _⟩
  · obtain ⟨k, hkk⟩ : ∃ k, l2len x = k := ⟨_, rfl⟩
    have Hk : Hd (l2len x = k) := ⟨hkk⟩
    rw [hkk] at hk ⊢
    have hkI : ¬ (k : Int) ≤ (len : Int) := by omega
    have hk4 : k ≤ 4 := by rw [← hkk]; unfold l2len; repeat' split
                           all_goals omega
    clear hkk
    go_wp2_with (at_builtin; refine wpList_append_own_at _ rfl (.tmp 23) (.tmp 24) 22 rfl w.heap.size 5 i0 (.int .u8 0) 1 1 Tryd.underlying22 hi hz0 hz1 hz2 rfl (by decide) _ 0 [] rfl ?hown ⟨b, off, none⟩ len cap (bs.map cb) rfl ?hl ?hn ?h1 ?h63 ?hby ?hbase ?_)
    case hown => exact World.ownsRow_made w #[] 0 (Nat.le_refl _) (by unfold maxLen; omega) rfl
    case hl => simpa using Hn.out
    case hn => exact map_cb_cell Hn.out (fun j hj => cell_below (Hc.out j hj) (below_lit w _))
    case h1 => exact one_cb bs
    case h63 => unfold maxLen; omega
    case hby => omega
    case hbase => simp
    intro v1 w1 hown1 hgr1 hne1 hat1
    have hB1 : Hd (Below w.heap.size w w1) := ⟨below_grows (below_lit w _) hgr1 (by simp) (Nat.le_refl _)⟩
    have Hs : Hd (w.heap.size ≤ w1.heap.size) := ⟨hB1.out.size⟩
    go_wp2_with (at_builtin; refine wpList_append_own_at _ rfl (.tmp 26) (.tmp 27) 22 rfl w1.heap.size 5 i0 (.int .u8 0) 1 1 Tryd.underlying22 hi hz0 hz1 hz2 rfl (by decide) _ 0 [] rfl ?hown ⟨b, off, none⟩ len cap (bs.map cb) rfl ?hl ?hn ?h1 ?h63 ?hby ?hbase ?_)
    case hown => exact World.ownsRow_made w1 #[] 0 (Nat.le_refl _) (by unfold maxLen; omega) rfl
    case hl => simpa using Hn.out
    case hn => exact map_cb_cell Hn.out (fun j hj => cell_below (Hc.out j hj) (Below.next hB1.out (below_lit w1 _)))
    case h1 => exact one_cb bs
    case h63 => unfold maxLen; omega
    case hby => omega
    case hbase => simp
    intro v2 w2 hown2 hgr2 hne2 hat2
    obtain ⟨q1, c1, q2, c2, hv1, hv2, hLH⟩ := lh_zero hown1 hgr1 hne1 hown2 hgr2 hne2
    have L0 : Hd (LH w bs 0 0 q1 c1 q2 c2 w2) := ⟨hLH⟩
    clear hown1 hgr1 hne1 hat1 hown2 hgr2 hne2 hat2 hB1 Hs hLH
    subst hv1 hv2
    go_wp2_with fail
    go_loopw [4, 5] (fun v u wr => ∃ (m q1 c1 q2 c2 : Nat), len + m ≤ k ∧ v = .slice (some ⟨q1, 0, none⟩) (len + m) c1 ∧ u = .slice (some ⟨q2, 0, none⟩) (len + m) c2 ∧ Hd (LH w bs m m q1 c1 q2 c2 wr)) (fun v _ _ => k - sliceN v)
    case atStart => exact ⟨0, q1, c1, q2, c2, by omega, rfl, rfl, L0⟩
    case round =>
      clear L0
      obtain ⟨m, r1, d1, r2, d2, hm, rfl, rfl, L⟩ := hrel
      by_cases hlt : len + m < k
      · have hkI2 : ((len + m : Nat) : Int) < (k : Int) := by omega
        obtain ⟨xs, hxs⟩ : ∃ xs, bs ++ List.replicate m 128 = xs := ⟨_, rfl⟩
        obtain ⟨ys, hys⟩ : ∃ ys, bs ++ List.replicate m 191 = ys := ⟨_, rfl⟩
        have Hxs : Hd (bs ++ List.replicate m 128 = xs) := ⟨hxs⟩
        have Hys : Hd (bs ++ List.replicate m 191 = ys) := ⟨hys⟩
        have Hlen1 : Hd (xs.length = len + m) := ⟨by rw [← hxs, List.length_append, List.length_replicate, Hn.out]⟩
        have Hlen2 : Hd (ys.length = len + m) := ⟨by rw [← hys, List.length_append, List.length_replicate, Hn.out]⟩
        clear hxs hys
        go_wp2_with (at_builtin; refine wpList_append_own_at _ rfl (.tmp 33) (.tmp 34) 22 rfl w.heap.size 5 i0 (.int .u8 0) 1 1 Tryd.underlying22 hi hz0 hz1 hz2 rfl (by decide) _ (len + m) (xs.map cb) rfl ?hown ⟨wr.heap.size, 0, none⟩ 1 1 ([128].map cb) rfl ?hl ?hn ?h1 ?h63 ?hby ?hbase ?_)
        case hown => exact ((Hxs.out ▸ L.out.a).owns Hlen1.out L.out.p1).alloc _
        case hl => rfl
        case hn => exact built_cells wr _ _ _ rfl
        case h1 => exact one_cb _
        case h63 => unfold maxLen; omega
        case hby => omega
        case hbase => have := L.out.bel.size; simp; omega
        intro v3 w3 hown3 hgr3 hne3 hat3
        obtain ⟨q3, c3, hv3, hL3⟩ := L.out.next1 _ Hxs.out hown3 hgr3 hne3 hat3
        have L3 : Hd (LH w bs (m + 1) m q3 c3 r2 d2 w3) := ⟨hL3⟩
        clear hown3 hgr3 hne3 hat3 hL3 L
        subst hv3
        go_wp2_with (at_builtin; refine wpList_append_own_at _ rfl (.tmp 36) (.tmp 37) 22 rfl w.heap.size 5 i0 (.int .u8 0) 1 1 Tryd.underlying22 hi hz0 hz1 hz2 rfl (by decide) _ (len + m) (ys.map cb) rfl ?hown ⟨w3.heap.size, 0, none⟩ 1 1 ([191].map cb) rfl ?hl ?hn ?h1 ?h63 ?hby ?hbase ?_)
        case hown => exact ((Hys.out ▸ L3.out.b).owns Hlen2.out L3.out.p2).alloc _
        case hl => rfl
        case hn => exact built_cells w3 _ _ _ rfl
        case h1 => exact one_cb _
        case h63 => unfold maxLen; omega
        case hby => omega
        case hbase => have := L3.out.bel.size; simp; omega
        intro v4 w4 hown4 hgr4 hne4 hat4
        obtain ⟨q4, c4, hv4, hL4⟩ := L3.out.next2 _ Hys.out hown4 hgr4 hne4 hat4
        have L4 : Hd (LH w bs (m + 1) (m + 1) q3 c3 q4 c4 w4) := ⟨hL4⟩
        clear hown4 hgr4 hne4 hat4 hL4 L3 Hlen1 Hlen2
        subst hv4
        go_wp2_with fail
        go_roundw
        case rel => exact ⟨m + 1, q3, c3, q4, c4, by omega, rfl, rfl, L4⟩
        case measure => simp [sliceN]; omega
      · have hkI2 : ¬ ((len + m : Nat) : Int) < (k : Int) := by omega
        have hmk : Hd (k - len = m) := ⟨by omega⟩
        have hd1 : len + m ≤ d1 := by have := L.out.a.le; rw [List.length_append, List.length_replicate, Hn.out] at this; exact this
        have hd2 : len + m ≤ d2 := by have := L.out.b.le; rw [List.length_append, List.length_replicate, Hn.out] at this; exact this
        have HL : Hd ((lowF bs).length = len + m) := ⟨by rw [lowF_len (by rw [Hx.out, Hk.out, Hn.out]; omega), Hx.out, Hk.out]; have := hmk.out; omega⟩
        have HH : Hd ((highF bs).length = len + m) := ⟨by rw [highF_len (by rw [Hx.out, Hk.out, Hn.out]; omega), Hx.out, Hk.out]; have := hmk.out; omega⟩
        have UB : Hd ((gotB (lowF bs) && gotB (highF bs)) = begU bs) := ⟨utf_begs (by rw [Hn.out]; omega) (by rw [Hx.out, Hk.out, Hn.out]; omega)⟩
        have FA : Hd (bs ++ List.replicate m 128 = fill bs 128) := ⟨by rw [fill_is (n := k) (m := m) (by rw [Hx.out]; exact Hk.out) (by rw [Hn.out]; exact hmk.out)]⟩
        have FB : Hd (bs ++ List.replicate m 191 = fill bs 191) := ⟨by rw [fill_is (n := k) (m := m) (by rw [Hx.out]; exact Hk.out) (by rw [Hn.out]; exact hmk.out)]⟩
        have RA : Hd (Row wr r1 (fill bs 128)) := ⟨FA.out ▸ L.out.a.row⟩
        have RB : Hd (Row wr r2 (fill bs 191)) := ⟨FB.out ▸ L.out.b.row⟩
        have BW : Hd (Below w.heap.size w wr) := ⟨L.out.bel⟩
        have HP : Hd (r1 ≠ r2 ∧ w.heap.size ≤ r1 ∧ w.heap.size ≤ r2) := ⟨L.out.ne, L.out.p1, L.out.p2⟩
        have HC : Hd (wr.cell? ⟨b, off, none⟩ = some (.int .u8 (x : Int))) := ⟨cell_below hc0 L.out.bel⟩
        clear L FA FB hc0
        by_cases h1 : len = 1
        · have hL1 : ((len : Int) == 1) = true := by simp; omega
          have hwc := HC.out
          have HB1 : Hd (bs.length = 1) := ⟨by rw [Hn.out]; exact h1⟩
          have hm1 : 1 ≤ m := by omega
          have hix : (1 : Int) < ((len + m : Nat) : Int) := by omega
          clear HC h1
          by_cases x224 : x = 224
          · subst x224
            have RL : Hd (Row (wr.setCell ⟨r1, 1, none⟩ (.int .u8 160)) r1 (lowF bs)) := ⟨by
              have e : lowF bs = (fill bs 128).set 1 160 := by unfold lowF; rw [if_pos HB1.out, if_pos Hx.out]
              rw [e]; exact (RA.out.store 1 160).1⟩
            have RH : Hd (Row (wr.setCell ⟨r1, 1, none⟩ (.int .u8 160)) r2 (highF bs)) := ⟨by
              have e : highF bs = fill bs 191 := by unfold highF; rw [if_pos HB1.out, if_neg (by rw [Hx.out]; decide), if_neg (by rw [Hx.out]; decide)]
              rw [e]; exact RB.out.set _ HP.out.1.symm⟩
            have BZ : Hd (Below w.heap.size w (wr.setCell ⟨r1, 1, none⟩ (.int .u8 160))) := ⟨bset BW.out _ HP.out.2.1⟩
            have hfz : wr.frozen? ⟨r1, 1, none⟩ = false := RA.out.free 1
            have hce := RA.out.cell 1 (by rw [fill_len (by rw [Hx.out, Hk.out, Hn.out]; omega), Hx.out, Hk.out]; have := hmk.out; omega)
            generalize (((fill bs 128).getD 1 0).toNat : Int) = y at hce
            clear RA RB BW HP
            go_wp2_with fail
            refine (specGetSign_any r1 0 (len + m) d1 (lowF bs) 0 _ HL.out (by omega) (fun j hj => by rw [Nat.zero_add]; exact RL.out.cell j (by rw [HL.out]; exact hj)) (by omega)).mono ?_
            rintro e w5 ⟨⟨n1, x1, o1⟩, rfl, g1, hB5⟩
            have RH5 : Hd (Row w5 r2 (highF bs)) := ⟨RH.out.below hB5⟩
            have B5 : Hd (Below w.heap.size w w5) := ⟨Below.next BZ.out hB5⟩
            have F1 : Hd (o1 = gotB (lowF bs)) := ⟨gotAt_flag g1 (by rw [HL.out]; omega)⟩
            clear g1 hB5 RL RH BZ
            go_wp2_with fail
            refine (specGetSign_any r2 0 (len + m) d2 (highF bs) 0 _ HH.out (by omega) (fun j hj => by rw [Nat.zero_add]; exact RH5.out.cell j (by rw [HH.out]; exact hj)) (by omega)).mono ?_
            rintro e w6 ⟨⟨n2, x2, o2⟩, rfl, g2, hB6⟩
            have B6 : Hd (Below w.heap.size w w6) := ⟨Below.next B5.out hB6⟩
            have F2 : Hd ((o1 && o2) = begU bs) := ⟨by have F3 : o2 = gotB (highF bs) := gotAt_flag g2 (by rw [HH.out]; omega)
                                                       rw [F1.out, F3]; exact UB.out⟩
            clear g2 hB6 RH5 B5 F1
            cases o1
            · go_wp2_with fail
              go_ret
              exact ⟨ret_bool (by rw [← F2.out]; rfl), B6.out⟩
            · go_wp2_with fail
              go_ret
              exact ⟨ret_bool (by rw [← F2.out]; rfl), B6.out⟩
          have n224 : ((x : Int) == 224) = false := by simp; omega
          by_cases x237 : x = 237
          · subst x237
            have RH : Hd (Row (wr.setCell ⟨r2, 1, none⟩ (.int .u8 159)) r2 (highF bs)) := ⟨by
              have e : highF bs = (fill bs 191).set 1 159 := by unfold highF; rw [if_pos HB1.out, if_pos Hx.out]
              rw [e]; exact (RB.out.store 1 159).1⟩
            have RL : Hd (Row (wr.setCell ⟨r2, 1, none⟩ (.int .u8 159)) r1 (lowF bs)) := ⟨by
              have e : lowF bs = fill bs 128 := by unfold lowF; rw [if_pos HB1.out, if_neg (by rw [Hx.out]; decide), if_neg (by rw [Hx.out]; decide)]
              rw [e]; exact RA.out.set _ HP.out.1⟩
            have BZ : Hd (Below w.heap.size w (wr.setCell ⟨r2, 1, none⟩ (.int .u8 159))) := ⟨bset BW.out _ HP.out.2.2⟩
            have hfz : wr.frozen? ⟨r2, 1, none⟩ = false := RB.out.free 1
            have hce := RB.out.cell 1 (by rw [fill_len (by rw [Hx.out, Hk.out, Hn.out]; omega), Hx.out, Hk.out]; have := hmk.out; omega)
            generalize (((fill bs 191).getD 1 0).toNat : Int) = y at hce
            clear RA RB BW HP
            go_wp2_with fail
            refine (specGetSign_any r1 0 (len + m) d1 (lowF bs) 0 _ HL.out (by omega) (fun j hj => by rw [Nat.zero_add]; exact RL.out.cell j (by rw [HL.out]; exact hj)) (by omega)).mono ?_
            rintro e w5 ⟨⟨n1, x1, o1⟩, rfl, g1, hB5⟩
            have RH5 : Hd (Row w5 r2 (highF bs)) := ⟨RH.out.below hB5⟩
            have B5 : Hd (Below w.heap.size w w5) := ⟨Below.next BZ.out hB5⟩
            have F1 : Hd (o1 = gotB (lowF bs)) := ⟨gotAt_flag g1 (by rw [HL.out]; omega)⟩
            clear g1 hB5 RL RH BZ
            go_wp2_with fail
            refine (specGetSign_any r2 0 (len + m) d2 (highF bs) 0 _ HH.out (by omega) (fun j hj => by rw [Nat.zero_add]; exact RH5.out.cell j (by rw [HH.out]; exact hj)) (by omega)).mono ?_
            rintro e w6 ⟨⟨n2, x2, o2⟩, rfl, g2, hB6⟩
            have B6 : Hd (Below w.heap.size w w6) := ⟨Below.next B5.out hB6⟩
            have F2 : Hd ((o1 && o2) = begU bs) := ⟨by have F3 : o2 = gotB (highF bs) := gotAt_flag g2 (by rw [HH.out]; omega)
                                                       rw [F1.out, F3]; exact UB.out⟩
            clear g2 hB6 RH5 B5 F1
            cases o1
            · go_wp2_with fail
              go_ret
              exact ⟨ret_bool (by rw [← F2.out]; rfl), B6.out⟩
            · go_wp2_with fail
              go_ret
              exact ⟨ret_bool (by rw [← F2.out]; rfl), B6.out⟩
          have n237 : ((x : Int) == 237) = false := by simp; omega
          by_cases x240 : x = 240
          · subst x240
            have RL : Hd (Row (wr.setCell ⟨r1, 1, none⟩ (.int .u8 144)) r1 (lowF bs)) := ⟨by
              have e : lowF bs = (fill bs 128).set 1 144 := by unfold lowF; rw [if_pos HB1.out, if_neg (by rw [Hx.out]; decide), if_pos Hx.out]
              rw [e]; exact (RA.out.store 1 144).1⟩
            have RH : Hd (Row (wr.setCell ⟨r1, 1, none⟩ (.int .u8 144)) r2 (highF bs)) := ⟨by
              have e : highF bs = fill bs 191 := by unfold highF; rw [if_pos HB1.out, if_neg (by rw [Hx.out]; decide), if_neg (by rw [Hx.out]; decide)]
              rw [e]; exact RB.out.set _ HP.out.1.symm⟩
            have BZ : Hd (Below w.heap.size w (wr.setCell ⟨r1, 1, none⟩ (.int .u8 144))) := ⟨bset BW.out _ HP.out.2.1⟩
            have hfz : wr.frozen? ⟨r1, 1, none⟩ = false := RA.out.free 1
            have hce := RA.out.cell 1 (by rw [fill_len (by rw [Hx.out, Hk.out, Hn.out]; omega), Hx.out, Hk.out]; have := hmk.out; omega)
            generalize (((fill bs 128).getD 1 0).toNat : Int) = y at hce
            clear RA RB BW HP
            go_wp2_with fail
            refine (specGetSign_any r1 0 (len + m) d1 (lowF bs) 0 _ HL.out (by omega) (fun j hj => by rw [Nat.zero_add]; exact RL.out.cell j (by rw [HL.out]; exact hj)) (by omega)).mono ?_
            rintro e w5 ⟨⟨n1, x1, o1⟩, rfl, g1, hB5⟩
            have RH5 : Hd (Row w5 r2 (highF bs)) := ⟨RH.out.below hB5⟩
            have B5 : Hd (Below w.heap.size w w5) := ⟨Below.next BZ.out hB5⟩
            have F1 : Hd (o1 = gotB (lowF bs)) := ⟨gotAt_flag g1 (by rw [HL.out]; omega)⟩
            clear g1 hB5 RL RH BZ
            go_wp2_with fail
            refine (specGetSign_any r2 0 (len + m) d2 (highF bs) 0 _ HH.out (by omega) (fun j hj => by rw [Nat.zero_add]; exact RH5.out.cell j (by rw [HH.out]; exact hj)) (by omega)).mono ?_
            rintro e w6 ⟨⟨n2, x2, o2⟩, rfl, g2, hB6⟩
            have B6 : Hd (Below w.heap.size w w6) := ⟨Below.next B5.out hB6⟩
            have F2 : Hd ((o1 && o2) = begU bs) := ⟨by have F3 : o2 = gotB (highF bs) := gotAt_flag g2 (by rw [HH.out]; omega)
                                                       rw [F1.out, F3]; exact UB.out⟩
            clear g2 hB6 RH5 B5 F1
            cases o1
            · go_wp2_with fail
              go_ret
              exact ⟨ret_bool (by rw [← F2.out]; rfl), B6.out⟩
            · go_wp2_with fail
              go_ret
              exact ⟨ret_bool (by rw [← F2.out]; rfl), B6.out⟩
          have n240 : ((x : Int) == 240) = false := by simp; omega
          by_cases x244 : x = 244
          · subst x244
            have RH : Hd (Row (wr.setCell ⟨r2, 1, none⟩ (.int .u8 143)) r2 (highF bs)) := ⟨by
              have e : highF bs = (fill bs 191).set 1 143 := by unfold highF; rw [if_pos HB1.out, if_neg (by rw [Hx.out]; decide), if_pos Hx.out]
              rw [e]; exact (RB.out.store 1 143).1⟩
            have RL : Hd (Row (wr.setCell ⟨r2, 1, none⟩ (.int .u8 143)) r1 (lowF bs)) := ⟨by
              have e : lowF bs = fill bs 128 := by unfold lowF; rw [if_pos HB1.out, if_neg (by rw [Hx.out]; decide), if_neg (by rw [Hx.out]; decide)]
              rw [e]; exact RA.out.set _ HP.out.1⟩
            have BZ : Hd (Below w.heap.size w (wr.setCell ⟨r2, 1, none⟩ (.int .u8 143))) := ⟨bset BW.out _ HP.out.2.2⟩
            have hfz : wr.frozen? ⟨r2, 1, none⟩ = false := RB.out.free 1
            have hce := RB.out.cell 1 (by rw [fill_len (by rw [Hx.out, Hk.out, Hn.out]; omega), Hx.out, Hk.out]; have := hmk.out; omega)
            generalize (((fill bs 191).getD 1 0).toNat : Int) = y at hce
            clear RA RB BW HP
            go_wp2_with fail
            refine (specGetSign_any r1 0 (len + m) d1 (lowF bs) 0 _ HL.out (by omega) (fun j hj => by rw [Nat.zero_add]; exact RL.out.cell j (by rw [HL.out]; exact hj)) (by omega)).mono ?_
            rintro e w5 ⟨⟨n1, x1, o1⟩, rfl, g1, hB5⟩
            have RH5 : Hd (Row w5 r2 (highF bs)) := ⟨RH.out.below hB5⟩
            have B5 : Hd (Below w.heap.size w w5) := ⟨Below.next BZ.out hB5⟩
            have F1 : Hd (o1 = gotB (lowF bs)) := ⟨gotAt_flag g1 (by rw [HL.out]; omega)⟩
            clear g1 hB5 RL RH BZ
            go_wp2_with fail
            refine (specGetSign_any r2 0 (len + m) d2 (highF bs) 0 _ HH.out (by omega) (fun j hj => by rw [Nat.zero_add]; exact RH5.out.cell j (by rw [HH.out]; exact hj)) (by omega)).mono ?_
            rintro e w6 ⟨⟨n2, x2, o2⟩, rfl, g2, hB6⟩
            have B6 : Hd (Below w.heap.size w w6) := ⟨Below.next B5.out hB6⟩
            have F2 : Hd ((o1 && o2) = begU bs) := ⟨by have F3 : o2 = gotB (highF bs) := gotAt_flag g2 (by rw [HH.out]; omega)
                                                       rw [F1.out, F3]; exact UB.out⟩
            clear g2 hB6 RH5 B5 F1
            cases o1
            · go_wp2_with fail
              go_ret
              exact ⟨ret_bool (by rw [← F2.out]; rfl), B6.out⟩
            · go_wp2_with fail
              go_ret
              exact ⟨ret_bool (by rw [← F2.out]; rfl), B6.out⟩
          have n244 : ((x : Int) == 244) = false := by simp; omega
          have RL : Hd (Row wr r1 (lowF bs)) := ⟨by
            have e : lowF bs = fill bs 128 := by unfold lowF; rw [if_pos HB1.out, if_neg (by rw [Hx.out]; exact x224), if_neg (by rw [Hx.out]; exact x240)]
            rw [e]; exact RA.out⟩
          have RH : Hd (Row wr r2 (highF bs)) := ⟨by
            have e : highF bs = fill bs 191 := by unfold highF; rw [if_pos HB1.out, if_neg (by rw [Hx.out]; exact x237), if_neg (by rw [Hx.out]; exact x244)]
            rw [e]; exact RB.out⟩
          have BZ : Hd (Below w.heap.size w wr) := ⟨BW.out⟩
          clear RA RB BW HP x224 x237 x240 x244
          go_wp2_with fail
          refine (specGetSign_any r1 0 (len + m) d1 (lowF bs) 0 _ HL.out (by omega) (fun j hj => by rw [Nat.zero_add]; exact RL.out.cell j (by rw [HL.out]; exact hj)) (by omega)).mono ?_
          rintro e w5 ⟨⟨n1, x1, o1⟩, rfl, g1, hB5⟩
          have RH5 : Hd (Row w5 r2 (highF bs)) := ⟨RH.out.below hB5⟩
          have B5 : Hd (Below w.heap.size w w5) := ⟨Below.next BZ.out hB5⟩
          have F1 : Hd (o1 = gotB (lowF bs)) := ⟨gotAt_flag g1 (by rw [HL.out]; omega)⟩
          clear g1 hB5 RL RH BZ
          go_wp2_with fail
          refine (specGetSign_any r2 0 (len + m) d2 (highF bs) 0 _ HH.out (by omega) (fun j hj => by rw [Nat.zero_add]; exact RH5.out.cell j (by rw [HH.out]; exact hj)) (by omega)).mono ?_
          rintro e w6 ⟨⟨n2, x2, o2⟩, rfl, g2, hB6⟩
          have B6 : Hd (Below w.heap.size w w6) := ⟨Below.next B5.out hB6⟩
          have F2 : Hd ((o1 && o2) = begU bs) := ⟨by have F3 : o2 = gotB (highF bs) := gotAt_flag g2 (by rw [HH.out]; omega)
                                                     rw [F1.out, F3]; exact UB.out⟩
          clear g2 hB6 RH5 B5 F1
          cases o1
          · go_wp2_with fail
            go_ret
            exact ⟨ret_bool (by rw [← F2.out]; rfl), B6.out⟩
          · go_wp2_with fail
            go_ret
            exact ⟨ret_bool (by rw [← F2.out]; rfl), B6.out⟩
        · have hL1 : ((len : Int) == 1) = false := by simp; omega
          have RL : Hd (Row wr r1 (lowF bs)) := ⟨by
            have e : lowF bs = fill bs 128 := by unfold lowF; rw [if_neg (by rw [Hn.out]; exact h1)]
            rw [e]; exact RA.out⟩
          have RH : Hd (Row wr r2 (highF bs)) := ⟨by
            have e : highF bs = fill bs 191 := by unfold highF; rw [if_neg (by rw [Hn.out]; exact h1)]
            rw [e]; exact RB.out⟩
          have BZ : Hd (Below w.heap.size w wr) := ⟨BW.out⟩
          clear RA RB BW HP h1 HC
          go_wp2_with fail
          refine (specGetSign_any r1 0 (len + m) d1 (lowF bs) 0 _ HL.out (by omega) (fun j hj => by rw [Nat.zero_add]; exact RL.out.cell j (by rw [HL.out]; exact hj)) (by omega)).mono ?_
          rintro e w5 ⟨⟨n1, x1, o1⟩, rfl, g1, hB5⟩
          have RH5 : Hd (Row w5 r2 (highF bs)) := ⟨RH.out.below hB5⟩
          have B5 : Hd (Below w.heap.size w w5) := ⟨Below.next BZ.out hB5⟩
          have F1 : Hd (o1 = gotB (lowF bs)) := ⟨gotAt_flag g1 (by rw [HL.out]; omega)⟩
          clear g1 hB5 RL RH BZ
          go_wp2_with fail
          refine (specGetSign_any r2 0 (len + m) d2 (highF bs) 0 _ HH.out (by omega) (fun j hj => by rw [Nat.zero_add]; exact RH5.out.cell j (by rw [HH.out]; exact hj)) (by omega)).mono ?_
          rintro e w6 ⟨⟨n2, x2, o2⟩, rfl, g2, hB6⟩
          have B6 : Hd (Below w.heap.size w w6) := ⟨Below.next B5.out hB6⟩
          have F2 : Hd ((o1 && o2) = begU bs) := ⟨by have F3 : o2 = gotB (highF bs) := gotAt_flag g2 (by rw [HH.out]; omega)
                                                     rw [F1.out, F3]; exact UB.out⟩
          clear g2 hB6 RH5 B5 F1
          cases o1
          · go_wp2_with fail
            go_ret
            exact ⟨ret_bool (by rw [← F2.out]; rfl), B6.out⟩
          · go_wp2_with fail
            go_ret
            exact ⟨ret_bool (by rw [← F2.out]; rfl), B6.out⟩

set_option maxHeartbeats 400000 in
theorem l6Utf_none (ao : Option Addr) (cap : Nat) (w : World) : Calls Tryd.prog 58 #[.slice ao 0 cap] w fun e w' => e = .returned (.bool false) ∧ w = w' := by
  go_enter Tryd.func58, Tryd.ntmps58
  go_wp2_with fail
  go_ret
  exact ⟨rfl, rfl⟩

theorem Reads.some {w : World} {ao : Option Addr} {len : Nat} {bs : List UInt8} (h : Reads w ao len bs) (h0 : 0 < len) : ∃ b off, ao = some ⟨b, off, none⟩ ∧ ∀ j, j < len → w.cell? ⟨b, off + j, none⟩ = Option.some (.int .u8 ((bs.getD j 0).toNat : Int)) := by
  rcases h.2 with h1 | h1
  · omega
  · exact h1

set_option maxHeartbeats 1000000 in
theorem l6Begins_any (cs : Int) (ao : Option Addr) (len cap : Nat) (bs : List UInt8) (w : World) (hr : Reads w ao len bs) (hl : len ≤ 1073741824) :
    Calls Tryd.prog 39 #[.int .i64 cs, .slice ao len cap] w fun e w' => e = .returned (.bool (beg cs bs)) ∧ Below w.heap.size w w' := by
  by_cases h5 : cs = 5
  · subst h5
    by_cases h1 : len = 1
    · subst h1
      obtain ⟨b, off, rfl, hc⟩ := hr.some (by omega)
      have hc0 : w.cell? ⟨b, off, none⟩ = some (.int .u8 (gv bs 0 : Int)) := hc 0 (by omega)
      have HE : Hd (beg 5 bs = decide (gv bs 0 = 164 ∨ gv bs 0 = 165)) := ⟨by rw [beg_euc]; have := hr.1; simp [this]⟩
      generalize gv bs 0 = x at *
      clear hr hc
      by_cases x1 : x = 164
      · subst x1
        go_enter Tryd.func39, Tryd.ntmps39
        go_wp2_with fail
        go_ret
        exact ⟨ret_bool (by rw [HE.out]; rfl), Below.refl _ _⟩
      · have n1 : ((x : Int) == 164) = false := by simp; omega
        by_cases x2 : x = 165
        · subst x2
          go_enter Tryd.func39, Tryd.ntmps39
          go_wp2_with fail
          go_ret
          exact ⟨ret_bool (by rw [HE.out]; rfl), Below.refl _ _⟩
        · have n2 : ((x : Int) == 165) = false := by simp; omega
          have HE2 : Hd (beg 5 bs = false) := ⟨by rw [HE.out]; exact decide_eq_false (by omega)⟩
          clear x1 x2 HE
          go_enter Tryd.func39, Tryd.ntmps39
          go_wp2_with fail
          go_ret
          exact ⟨ret_bool HE2.out.symm, Below.refl _ _⟩
    · have HE : Hd (beg 5 bs = false) := ⟨by rw [beg_euc]; exact decide_eq_false (by rintro ⟨h, _⟩; exact h1 (by rw [← hr.1]; exact h))⟩
      have n1 : ((len : Int) == 1) = false := by simp; omega
      clear hr h1
      go_enter Tryd.func39, Tryd.ntmps39
      go_wp2_with fail
      go_ret
      exact ⟨ret_bool HE.out.symm, Below.refl _ _⟩
  by_cases h0 : cs = 0
  · subst h0
    have Hr : Hd (Reads w ao len bs) := ⟨hr⟩
    clear h5 hr
    go_enter Tryd.func39, Tryd.ntmps39
    go_wp2_with fail
    by_cases hz : len = 0
    · subst hz
      refine (l6Utf_none ao cap _).mono ?_
      rintro e w1 ⟨rfl, hw⟩
      subst hw
      have HE : Hd (beg 0 bs = false) := ⟨by rw [beg_utf, List.eq_nil_of_length_eq_zero Hr.out.1]; exact utf_none⟩
      go_wp2_with fail
      go_ret
      exact ⟨ret_bool HE.out.symm, Below.refl _ _⟩
    · obtain ⟨b, off, rfl, hc⟩ := Hr.out.some (by omega)
      refine (l6Utf_some b off len cap bs _ Hr.out.1 hc hl (by omega)).mono ?_
      rintro e w1 ⟨rfl, hB⟩
      have HB : Hd (Below w.heap.size w w1) := ⟨hB⟩
      have HE : Hd (begU bs = beg 0 bs) := ⟨(beg_utf bs).symm⟩
      clear hc hB
      go_wp2_with fail
      go_ret
      exact ⟨ret_bool HE.out, HB.out⟩
  · have HE : Hd (beg cs bs = false) := ⟨beg_byte h0 h5 bs⟩
    have n5 : (cs == 5) = false := by simp; exact h5
    have n0 : (cs == 0) = false := by simp; exact h0
    clear hr h0 h5
    go_enter Tryd.func39, Tryd.ntmps39
    go_wp2_with fail
    go_ret
    exact ⟨ret_bool HE.out.symm, Below.refl _ _⟩

theorem sOk_out {cs : Int} {bs : List UInt8} {bad : Bool} (h : inB cs 0 5 = false) : sOk cs bs bad = false := by unfold sOk; rw [h]; rfl
theorem sOk_nil {cs : Int} {bad : Bool} (h : inB cs 0 5 = true) : sOk cs [] bad = true := by unfold sOk; rw [h]; rfl
theorem sOk_bad {cs : Int} {bs : List UInt8} (h : bs ≠ []) : sOk cs bs true = false := by unfold sOk; rw [decide_eq_false h]; simp
theorem sOk_beg {cs : Int} {bs : List UInt8} (h : inB cs 0 5 = true) (hb : bs ≠ []) : sOk cs bs false = beg cs bs := by unfold sOk; rw [h, decide_eq_false hb]; simp

set_option maxHeartbeats 1000000 in
theorem specDecOk_any (cs : Int) (ao : Option Addr) (len cap : Nat) (bad : Bool) (bs : List UInt8) (w : World) (hr : Reads w ao len bs) (hl : len ≤ 1073741824) :
    Calls Tryd.prog 14 #[.agg #[.int .i64 cs, .slice ao len cap, .bool bad]] w fun e w' => e = .returned (.bool (sOk cs bs bad)) ∧ Below w.heap.size w w' := by
  have Hr : Hd (Reads w ao len bs) := ⟨hr⟩
  clear hr
  go_enter Tryd.func14, Tryd.ntmps14
  go_wp2_with fail
  refine (l5Cs_any cs _).mono ?_
  rintro e w1 ⟨rfl, hw⟩
  replace hw := hw.symm
  subst hw
  cases hi : inB cs 0 5 with
  | false =>
    have HE : Hd (sOk cs bs bad = false) := ⟨sOk_out hi⟩
    clear hi
    go_wp2_with fail
    go_ret
    exact ⟨ret_bool HE.out.symm, below_lit w _⟩
  | true =>
    by_cases hz : len = 0
    · subst hz
      have HE : Hd (sOk cs bs bad = true) := ⟨by rw [List.eq_nil_of_length_eq_zero Hr.out.1]; exact sOk_nil hi⟩
      clear hi
      go_wp2_with fail
      go_ret
      exact ⟨ret_bool HE.out.symm, below_lit w _⟩
    · have n0 : ((len : Int) == 0) = false := by simp; exact hz
      have hne : bs ≠ [] := by intro e; have := Hr.out.1; rw [e] at this; exact hz this.symm
      cases bad with
      | true =>
        have HE : Hd (sOk cs bs true = false) := ⟨sOk_bad hne⟩
        clear hi hz hne
        go_wp2_with fail
        go_ret
        exact ⟨ret_bool HE.out.symm, below_lit w _⟩
      | false =>
        have HE : Hd (sOk cs bs false = beg cs bs) := ⟨sOk_beg hi hne⟩
        clear hi hz hne
        go_wp2_with fail
        refine (l6Begins_any cs ao len cap bs _ (Hr.out.below rfl (below_lit w _)) hl).mono ?_
        rintro e w2 ⟨rfl, hB⟩
        have HB : Hd (Below w.heap.size w w2) := ⟨Below.next (below_lit w _) hB⟩
        clear hB
        go_wp2_with fail
        go_ret
        exact ⟨ret_bool HE.out.symm, HB.out⟩

set_option maxHeartbeats 400000 in
theorem specDecNew_any (cs : Int) (w : World) :
    Calls Tryd.prog 15 #[.int .i64 cs] w fun e w' => e = .returned (.agg #[.int .i64 cs, .slice none 0 0, .bool false]) ∧ Below w.heap.size w w' := by
  go_enter Tryd.func15, Tryd.ntmps15
  go_wp2_with fail
  refine bodyPost_ret (results_cell_row rfl _ _ w.heap.size _ _ (0, 0) _ rfl (heap_alloc_new w _) Tryd.underlying30 rfl (by kernel_rfl)) rfl ?_
  exact ⟨rfl, below_lit w _⟩

set_option maxHeartbeats 1000000 in
theorem specDecEnd_any (cs : Int) (ao : Option Addr) (len cap : Nat) (bad : Bool) (bs : List UInt8) (w : World) (hr : Reads w ao len bs) (hl : len ≤ 1073741824) :
    Calls Tryd.prog 23 #[.agg #[.int .i64 cs, .slice ao len cap, .bool bad]] w fun e w' => e = .returned (.bool (sOk cs bs bad && !bad && decide (bs = []))) ∧ Below w.heap.size w w' := by
  have Hr : Hd (Reads w ao len bs) := ⟨hr⟩
  clear hr
  go_enter Tryd.func23, Tryd.ntmps23
  go_wp2_with fail
  generalize hA : Obj.cells #[Value.int IntKind.i64 cs, Value.slice ao len cap, Value.bool bad] 30 = A
  refine (specDecOk_any cs ao len cap bad bs _ (Hr.out.below rfl (below_lit w A)) hl).mono ?_
  rintro e w1 ⟨rfl, hb⟩
  subst hA
  obtain ⟨p0, p1, p2, _, _, _⟩ := cells3 w1 w.heap.size _ _ _ _ ((hb.block w.heap.size (by simp)).trans (alloc_new w _ rfl))
  have HB : Hd (Below w.heap.size w w1) := ⟨Below.next (below_lit w _) hb⟩
  have HZ : Hd (decide (bs = []) = ((len : Int) == 0)) := ⟨by
    by_cases h : len = 0
    · rw [h, List.eq_nil_of_length_eq_zero (Hr.out.1.trans h)]; rfl
    · have e : ((len : Int) == 0) = false := by simp; exact h
      rw [e]; exact decide_eq_false (fun q => h (by rw [← Hr.out.1, q]; rfl))⟩
  clear hb
  cases hs : sOk cs bs bad with
  | false =>
    have HS : Hd (sOk cs bs bad = false) := ⟨hs⟩
    clear hs
    go_wp2_with fail
    go_ret
    exact ⟨ret_bool (by rw [HS.out]; rfl), HB.out⟩
  | true =>
    have HS : Hd (sOk cs bs bad = true) := ⟨hs⟩
    clear hs
    cases bad with
    | true =>
      go_wp2_with fail
      go_ret
      exact ⟨ret_bool (by rw [HS.out]; rfl), HB.out⟩
    | false =>
      go_wp2_with fail
      go_ret
      exact ⟨ret_bool (by rw [HS.out, HZ.out]; rfl), HB.out⟩

theorem run_app (w : World) (ty : TypeId) (base q n c : Nat) (xs ys : List UInt8) (hown : Own w q c xs) (hxl : xs.length = n) (hbq : base ≤ q) (hbw : base ≤ w.heap.size) (ad : Addr) (m cc : Nat) (hl : ys.length = m) (hnews : ∀ j u, (ys.map cb)[j]? = some u → w.cell? (ad.add j) = some u) (hlim : n + m ≤ 2147483648) :
    ∃ g cap w', (Builtin.append_ #[22, 22] ty #[.slice (some ⟨q, 0, none⟩) n c, .slice (some ad) m cc]).run Tryd.prog w = .ok (.slice (some ⟨g, 0, none⟩) (n + m) cap) w' ∧ Own w' g cap (xs ++ ys) ∧ w.grownBy w' (some q) ∧ (g = q ∨ g = w.heap.size) ∧ base ≤ g := by
  obtain ⟨i0, hi, hz0, hz1, hz2⟩ := info_parts info8
  obtain ⟨v', w', hr, h2, h3, h4, h5⟩ := run_append_own_at (P := Tryd.prog) w base 22 ty 5 i0 (.int .u8 0) 1 1 Tryd.underlying22 hi hz0 hz1 hz2 rfl (by decide) (.slice (some ⟨q, 0, none⟩) n c) n (xs.map cb) (hown.owns hxl hbq) ad m cc (ys.map cb) (by simpa using hl) hnews (one_cb ys) (by unfold maxLen; omega) (by omega) hbw
  obtain ⟨g, c', hv, hg, hO, hw⟩ := own_app h2 (fun h => by simp [h4] at h) h5
  subst hv
  exact ⟨g, c', w', hr, hO, h3, hw, hg⟩

theorem wp_app {w : World} {o : Oper} {a : Act} {K : Act → World → Prop} {Q : Exit → Act → World → Prop} (s x : Operand)
    (ho : o.op = .call { callee := .builtin .append, args := #[s, x], argTypes := #[22, 22] })
    (base q n c : Nat) (xs ys : List UInt8) (hs : a.eval s = .slice (some ⟨q, 0, none⟩) n c) (hown : Own w q c xs) (hxl : xs.length = n) (hbq : base ≤ q) (hbw : base ≤ w.heap.size) (ad : Addr) (m cc : Nat) (hx : a.eval x = .slice (some ad) m cc) (hl : ys.length = m) (hnews : ∀ j u, (ys.map cb)[j]? = some u → w.cell? (ad.add j) = some u) (hlim : n + m ≤ 2147483648)
    (h : ∀ g cap w', Own w' g cap (xs ++ ys) → w.grownBy w' (some q) → (g = q ∨ g = w.heap.size) → base ≤ g → K (a.put o.dst (.slice (some ⟨g, 0, none⟩) (n + m) cap)) w') : o.wp Tryd.prog a w K Q := by
  obtain ⟨g, cap, w', hr, h1, h2, h3, h4⟩ := run_app w o.type base q n c xs ys hown hxl hbq hbw ad m cc hl hnews hlim
  unfold Oper.wp execOp
  simp only [ho, resolve, invoke, builtin, Sem.run_bind, Sem.run_pure, Result.andThen_ok, List.map_toArray, List.map_cons, List.map_nil, hs, hx, hr]
  exact h g cap w' h1 h2 h3 h4
theorem wpList_app {w : World} {ops : Array Oper} {rest : List Oper} {o : Oper} {a : Act} {Q : Exit → Act → World → Prop} (hgd : o.guard = none) (s x : Operand)
    (ho : o.op = .call { callee := .builtin .append, args := #[s, x], argTypes := #[22, 22] })
    (base q n c : Nat) (xs ys : List UInt8) (hs : a.eval s = .slice (some ⟨q, 0, none⟩) n c) (hown : Own w q c xs) (hxl : xs.length = n) (hbq : base ≤ q) (hbw : base ≤ w.heap.size) (ad : Addr) (m cc : Nat) (hx : a.eval x = .slice (some ad) m cc) (hl : ys.length = m) (hnews : ∀ j u, (ys.map cb)[j]? = some u → w.cell? (ad.add j) = some u) (hlim : n + m ≤ 2147483648)
    (h : ∀ g cap w', Own w' g cap (xs ++ ys) → w.grownBy w' (some q) → (g = q ∨ g = w.heap.size) → base ≤ g → wpList Tryd.prog ops Q rest (a.put o.dst (.slice (some ⟨g, 0, none⟩) (n + m) cap)) w') : wpList Tryd.prog ops Q (o :: rest) a w :=
  wpList_plain hgd fun _ hK => wp_app s x ho base q n c xs ys hs hown hxl hbq hbw ad m cc hx hl hnews hlim fun g cap w' h1 h2 h3 h4 => hK _ _ (h g cap w' h1 h2 h3 h4)
theorem step_app {w : World} {ops : Array Oper} {o : Oper} {a : Act} {K : Act → World → Prop} {Q : Exit → Act → World → Prop} {E : Prop} (hgd : o.guard = none) (s x : Operand)
    (ho : o.op = .call { callee := .builtin .append, args := #[s, x], argTypes := #[22, 22] })
    (base q n c : Nat) (xs ys : List UInt8) (hs : a.eval s = .slice (some ⟨q, 0, none⟩) n c) (hown : Own w q c xs) (hxl : xs.length = n) (hbq : base ≤ q) (hbw : base ≤ w.heap.size) (ad : Addr) (m cc : Nat) (hx : a.eval x = .slice (some ad) m cc) (hl : ys.length = m) (hnews : ∀ j u, (ys.map cb)[j]? = some u → w.cell? (ad.add j) = some u) (hlim : n + m ≤ 2147483648)
    (h : ∀ g cap w', Own w' g cap (xs ++ ys) → w.grownBy w' (some q) → (g = q ∨ g = w.heap.size) → base ≤ g → K (a.put o.dst (.slice (some ⟨g, 0, none⟩) (n + m) cap)) w') :
    if Region.wanted o (yielded ops a.tmps) = true then Oper.wp Tryd.prog o a w K Q else E := by
  have hw : Region.wanted o (yielded ops a.tmps) = true := by simp [Region.wanted, hgd]
  rw [if_pos hw]
  exact wp_app s x ho base q n c xs ys hs hown hxl hbq hbw ad m cc hx hl hnews hlim h

/-- append of a nil slice. -/
theorem run_app_nil (w : World) (ty : TypeId) (b : Addr) (n c : Nat) (h : n ≤ c) : (Builtin.append_ #[22, 22] ty #[.slice (some b) n c, .slice none 0 0]).run Tryd.prog w = .ok (.slice (some b) n c) w := by
  obtain ⟨i0, hi, hz0, hz1, hz2⟩ := info_parts info8
  simp [Builtin.append_, run_underlying Tryd.underlying22, sizeOf, typeInfo, hi, Builtin.lenOf, Builtin.firstCells, loadCells, h, storeCells]
theorem wp_app_nil {w : World} {o : Oper} {a : Act} {K : Act → World → Prop} {Q : Exit → Act → World → Prop} (s x : Operand)
    (ho : o.op = .call { callee := .builtin .append, args := #[s, x], argTypes := #[22, 22] })
    (b : Addr) (n c : Nat) (hs : a.eval s = .slice (some b) n c) (hx : a.eval x = .slice none 0 0) (hnc : n ≤ c)
    (h : K (a.put o.dst (.slice (some b) n c)) w) : o.wp Tryd.prog a w K Q := by
  have hr := run_app_nil w o.type b n c hnc
  unfold Oper.wp execOp
  simp only [ho, resolve, invoke, builtin, Sem.run_bind, Sem.run_pure, Result.andThen_ok, List.map_toArray, List.map_cons, List.map_nil, hs, hx, hr]
  exact h
theorem wpList_app_nil {w : World} {ops : Array Oper} {rest : List Oper} {o : Oper} {a : Act} {Q : Exit → Act → World → Prop} (hgd : o.guard = none) (s x : Operand)
    (ho : o.op = .call { callee := .builtin .append, args := #[s, x], argTypes := #[22, 22] })
    (b : Addr) (n c : Nat) (hs : a.eval s = .slice (some b) n c) (hx : a.eval x = .slice none 0 0) (hnc : n ≤ c)
    (h : wpList Tryd.prog ops Q rest (a.put o.dst (.slice (some b) n c)) w) : wpList Tryd.prog ops Q (o :: rest) a w :=
  wpList_plain hgd fun _ hK => wp_app_nil s x ho b n c hs hx hnc (hK _ _ h)
theorem step_app_nil {w : World} {ops : Array Oper} {o : Oper} {a : Act} {K : Act → World → Prop} {Q : Exit → Act → World → Prop} {E : Prop} (hgd : o.guard = none) (s x : Operand)
    (ho : o.op = .call { callee := .builtin .append, args := #[s, x], argTypes := #[22, 22] })
    (b : Addr) (n c : Nat) (hs : a.eval s = .slice (some b) n c) (hx : a.eval x = .slice none 0 0) (hnc : n ≤ c)
    (h : K (a.put o.dst (.slice (some b) n c)) w) :
    if Region.wanted o (yielded ops a.tmps) = true then Oper.wp Tryd.prog o a w K Q else E := by
  have hw : Region.wanted o (yielded ops a.tmps) = true := by simp [Region.wanted, hgd]
  rw [if_pos hw]
  exact wp_app_nil s x ho b n c hs hx hnc h

theorem own_emp (w : World) : Own (w.alloc (.cells #[] 5)) w.heap.size 0 [] := ⟨#[], heap_alloc_new w _, by simp, Nat.zero_le _, rfl, by simp⟩
theorem emp1 (X : World) (q : Nat) (hq : q = X.heap.size) : Own ((X.alloc (.cells #[] 5)).drew) q 0 [] := by subst hq; exact (own_emp X).of_block rfl
theorem emp2 (X : World) (o : Obj) (q : Nat) (hq : q = X.heap.size) : Own (((X.alloc (.cells #[] 5)).alloc o).drew) q 0 [] := by subst hq; exact ((own_emp X).below (below_lit _ o)).of_block rfl
theorem grown_cell {w w' : World} {q : Nat} {a : Addr} {v : Value} (h : w.grownBy w' (some q)) (hc : w.cell? a = some v) (hne : a.block ≠ q) : w'.cell? a = some v := by
  rw [h.cell_far a (World.block_lt_of_cell? w _ hc) (by simpa using hne)]; exact hc
theorem cell_set {w : World} {q j : Nat} {v x : Value} {a : Addr} (h : w.cell? a = some x) (hne : a.block ≠ q) : (w.setCell ⟨q, j, none⟩ v).cell? a = some x := by
  rw [World.cell?_of_block (w := w) (a := a) (heap_setCell_other w ⟨q, j, none⟩ a.block v hne)]; exact h
theorem cell_set3 {w : World} {q : Nat} {v0 v1 v2 x : Value} {a : Addr} (h : w.cell? a = some x) (hne : a.block ≠ q) : (((w.setCell ⟨q, 0, none⟩ v0).setCell ⟨q, 1, none⟩ v1).setCell ⟨q, 2, none⟩ v2).cell? a = some x := cell_set (cell_set (cell_set h hne) hne) hne
theorem grown_free {w w' : World} {q : Nat} {a : Addr} {v : Value} (h : w.grownBy w' (some q)) (hc : w.cell? a = some v) (hf : w.frozen? a = false) (hne : a.block ≠ q) : w'.frozen? a = false := by
  rw [h.frozen_far a (World.block_lt_of_cell? w _ hc) (by simpa using hne)]; exact hf
theorem grown_block {w w' : World} {q k : Nat} {o : Obj} (h : w.grownBy w' (some q)) (hc : w.heap[k]? = some o) (hne : k ≠ q) : w'.heap[k]? = some o := by
  rw [h.block k (Array.getElem?_eq_some_iff.1 hc).1 (by simpa using hne)]; exact hc

end Go.Proofs.YtjbideiifoadkaaDoor
