/- Signs and their bytes: plain facts. -/
import Derived.Test.YtlididoalekeoaaPlain
import Derived.Laws.RangeAny
namespace Go.Proofs.Ytlididoalekeoaa
set_option maxRecDepth 4000
open Go.RowKit

/-- Whether a number is a sign. -/
def isSign (n : Int) : Prop := (0 ≤ n ∧ n < 55296) ∨ (57343 < n ∧ n < 1114112)
/-- The same, as a flag. -/
def signOkB (n : Int) : Bool := decide ((0 ≤ n ∧ n < 55296) ∨ (57343 < n ∧ n < 1114112))
theorem sign_t {n : Int} (h : isSign n) : signOkB n = true := decide_eq_true h
theorem sign_f {n : Int} (h : ¬ isSign n) : signOkB n = false := decide_eq_false h

def bt (n : Nat) : UInt8 := UInt8.ofNat n
theorem bt_val (n : Nat) (h : n < 256) : (bt n).toNat = n := by simp [bt]; omega
theorem bt_self (b : UInt8) : bt b.toNat = b := by simp [bt]

def signN (n : Nat) : List UInt8 :=
  if n < 128 then [bt n]
  else if n < 2048 then [bt (192 + n / 64), bt (128 + n % 64)]
  else if n < 65536 then [bt (224 + n / 4096), bt (128 + n / 64 % 64), bt (128 + n % 64)]
  else [bt (240 + n / 262144), bt (128 + n / 4096 % 64), bt (128 + n / 64 % 64), bt (128 + n % 64)]

/-- The bytes of a sign; none of what is no sign. -/
def signB (n : Int) : List UInt8 := if signOkB n = true then signN n.toNat else []

theorem signB_not {n : Int} (h : ¬ isSign n) : signB n = [] := by rw [signB, sign_f h]; rfl
theorem signB_one {n : Nat} (h : n < 128) : signB (n : Int) = [bt n] := by
  rw [signB, if_pos (sign_t (show isSign (n : Int) from Or.inl ⟨by omega, by omega⟩)), Int.toNat_natCast, signN, if_pos h]
theorem signB_two {n : Nat} (h : 128 ≤ n) (h2 : n < 2048) : signB (n : Int) = [bt (192 + n / 64), bt (128 + n % 64)] := by
  rw [signB, if_pos (sign_t (show isSign (n : Int) from Or.inl ⟨by omega, by omega⟩)), Int.toNat_natCast, signN, if_neg (by omega), if_pos h2]
theorem signB_three {n : Nat} (h : 2048 ≤ n) (h2 : n < 65536) (hs : isSign (n : Int)) : signB (n : Int) = [bt (224 + n / 4096), bt (128 + n / 64 % 64), bt (128 + n % 64)] := by
  rw [signB, if_pos (sign_t hs), Int.toNat_natCast, signN, if_neg (by omega), if_neg (by omega), if_pos h2]
theorem signB_four {n : Nat} (h : 65536 ≤ n) (hs : isSign (n : Int)) : signB (n : Int) = [bt (240 + n / 262144), bt (128 + n / 4096 % 64), bt (128 + n / 64 % 64), bt (128 + n % 64)] := by
  rw [signB, if_pos (sign_t hs), Int.toNat_natCast, signN, if_neg (by omega), if_neg (by omega), if_neg (by omega)]

theorem signB_len (n : Int) : (signB n).length ≤ 4 := by
  unfold signB signN; repeat' split
  all_goals simp
theorem signB_pos {n : Int} (h : isSign n) : 0 < (signB n).length := by
  unfold signB signN; rw [if_pos (sign_t h)]; repeat' split
  all_goals simp

/-- The byte at a place, as a number (0 where there is none). -/
def gv (t : List UInt8) (k : Nat) : Nat := (t.getD k 0).toNat
theorem gv_lt (t : List UInt8) (k : Nat) : gv t k < 256 := UInt8.toNat_lt _
theorem gv_bt (t : List UInt8) (k : Nat) (h : k < t.length) : t[k] = bt (gv t k) := by
  simp [gv, bt, List.getD, List.getElem?_eq_getElem h]

/-- The sign n stands at the head of t. -/
def Got (t : List UInt8) (n : Int) : Prop := isSign n ∧ signB n <+: t

/-- What is read of a head, whatever it is. -/
def headSize (c : Nat) : Nat := if 240 ≤ c then 4 else if 224 ≤ c then 3 else if 192 ≤ c then 2 else 1
def headBits (c : Nat) : Nat := if 240 ≤ c then c - 240 else if 224 ≤ c then c - 224 else if 192 ≤ c then c - 192 else c
def cand (t : List UInt8) : Nat :=
  let c := gv t 0
  if 240 ≤ c then (c - 240) * 262144 + (gv t 1 % 64) * 4096 + (gv t 2 % 64) * 64 + gv t 3 % 64
  else if 224 ≤ c then (c - 224) * 4096 + (gv t 1 % 64) * 64 + gv t 2 % 64
  else if 192 ≤ c then (c - 192) * 64 + gv t 1 % 64
  else c

theorem got_cand {t : List UInt8} {n : Int} (h : Got t n) : n = (cand t : Int) ∧ headSize (gv t 0) = (signB n).length := by
  obtain ⟨hs, r, rfl⟩ := h
  have h0 : 0 ≤ n := by rcases hs with h | h <;> omega
  obtain ⟨m, rfl⟩ := Int.eq_ofNat_of_zero_le h0
  have hm : m < 1114112 := by rcases hs with h | h <;> omega
  by_cases h1 : m < 128
  · rw [signB_one h1]
    have e0 : gv ([bt m] ++ r) 0 = m := by simp [gv]; exact bt_val _ (by omega)
    simp only [cand, headSize, e0]
    constructor
    · repeat' split
      all_goals omega
    · repeat' split
      all_goals first | omega | simp
  by_cases h2 : m < 2048
  · rw [signB_two (by omega) h2]
    have e0 : gv ([bt (192 + m / 64), bt (128 + m % 64)] ++ r) 0 = 192 + m / 64 := by simp [gv]; exact bt_val _ (by omega)
    have e1 : gv ([bt (192 + m / 64), bt (128 + m % 64)] ++ r) 1 = 128 + m % 64 := by simp [gv]; exact bt_val _ (by omega)
    simp only [cand, headSize, e0, e1]
    constructor
    · repeat' split
      all_goals omega
    · repeat' split
      all_goals first | omega | simp
  by_cases h3 : m < 65536
  · rw [signB_three (by omega) h3 hs]
    have e0 : gv ([bt (224 + m / 4096), bt (128 + m / 64 % 64), bt (128 + m % 64)] ++ r) 0 = 224 + m / 4096 := by simp [gv]; exact bt_val _ (by omega)
    have e1 : gv ([bt (224 + m / 4096), bt (128 + m / 64 % 64), bt (128 + m % 64)] ++ r) 1 = 128 + m / 64 % 64 := by simp [gv]; exact bt_val _ (by omega)
    have e2 : gv ([bt (224 + m / 4096), bt (128 + m / 64 % 64), bt (128 + m % 64)] ++ r) 2 = 128 + m % 64 := by simp [gv]; exact bt_val _ (by omega)
    simp only [cand, headSize, e0, e1, e2]
    constructor
    · repeat' split
      all_goals omega
    · repeat' split
      all_goals first | omega | simp
  · rw [signB_four (by omega) hs]
    have e0 : gv ([bt (240 + m / 262144), bt (128 + m / 4096 % 64), bt (128 + m / 64 % 64), bt (128 + m % 64)] ++ r) 0 = 240 + m / 262144 := by simp [gv]; exact bt_val _ (by omega)
    have e1 : gv ([bt (240 + m / 262144), bt (128 + m / 4096 % 64), bt (128 + m / 64 % 64), bt (128 + m % 64)] ++ r) 1 = 128 + m / 4096 % 64 := by simp [gv]; exact bt_val _ (by omega)
    have e2 : gv ([bt (240 + m / 262144), bt (128 + m / 4096 % 64), bt (128 + m / 64 % 64), bt (128 + m % 64)] ++ r) 2 = 128 + m / 64 % 64 := by simp [gv]; exact bt_val _ (by omega)
    have e3 : gv ([bt (240 + m / 262144), bt (128 + m / 4096 % 64), bt (128 + m / 64 % 64), bt (128 + m % 64)] ++ r) 3 = 128 + m % 64 := by simp [gv]; exact bt_val _ (by omega)
    simp only [cand, headSize, e0, e1, e2, e3]
    constructor
    · repeat' split
      all_goals omega
    · repeat' split
      all_goals first | omega | simp

theorem got_unique {t : List UInt8} {n m : Int} (h : Got t n) (k : Got t m) : n = m := by
  rw [(got_cand h).1, (got_cand k).1]

/-- What GetSign answers of what stands at a place. -/
def GotAt (bs : List UInt8) (at_ : Int) (r : Int × Int × Bool) : Prop :=
  (r.2.2 = true ∧ 0 ≤ at_ ∧ at_ < (bs.length : Int) ∧ Got (bs.drop at_.toNat) r.1 ∧ r.2.1 = at_ + ((signB r.1).length : Int)) ∨
  (r = (0, 0, false) ∧ ¬ (0 ≤ at_ ∧ at_ < (bs.length : Int) ∧ ∃ n, Got (bs.drop at_.toNat) n))

theorem gotAt_unique {bs : List UInt8} {at_ : Int} {r s : Int × Int × Bool} (h : GotAt bs at_ r) (k : GotAt bs at_ s) : r = s := by
  rcases h with ⟨a1, a2, a3, a4, a5⟩ | ⟨rfl, a⟩ <;> rcases k with ⟨b1, b2, b3, b4, b5⟩ | ⟨rfl, b⟩
  · have e := got_unique a4 b4
    obtain ⟨r1, r2, r3⟩ := r
    obtain ⟨s1, s2, s3⟩ := s
    simp only at a1 a4 a5 b1 b4 b5 e
    subst e
    rw [a1, b1, a5, b5]
  · exact absurd ⟨a2, a3, _, a4⟩ b
  · exact absurd ⟨b2, b3, _, b4⟩ a
  · rfl

/-- l are the signs of t. -/
def Signed (t : List UInt8) (l : List Int) : Prop := (∀ n ∈ l, isSign n) ∧ l.flatMap signB = t

theorem signed_nil : Signed [] [] := ⟨by simp, rfl⟩
theorem signed_cons {t : List UInt8} {n : Int} {l : List Int} (h : isSign n) (k : Signed t l) : Signed (signB n ++ t) (n :: l) :=
  ⟨by intro m hm; rcases List.mem_cons.1 hm with rfl | hm
      · exact h
      · exact k.1 m hm, by rw [List.flatMap_cons, k.2]⟩
theorem signed_got {t : List UInt8} {l : List Int} (h : Signed t l) (ht : t ≠ []) : ∃ n l', l = n :: l' ∧ Got t n ∧ Signed (t.drop (signB n).length) l' := by
  obtain ⟨h1, rfl⟩ := h
  cases l with
  | nil => exact absurd rfl ht
  | cons n l' =>
    refine ⟨n, l', rfl, ⟨h1 n (by simp), ?_⟩, fun m hm => h1 m (by simp [hm]), ?_⟩
    · rw [List.flatMap_cons]; exact List.prefix_append _ _
    · rw [List.flatMap_cons, List.drop_left]
theorem signed_unique {l l' : List Int} : ∀ {t : List UInt8}, Signed t l → Signed t l' → l = l' := by
  induction l generalizing l' with
  | nil =>
    intro t h k
    obtain ⟨h1, h2⟩ := h
    cases l' with
    | nil => rfl
    | cons n r =>
      have := signB_pos (k.1 n (by simp))
      have e := k.2
      rw [← h2] at e
      simp at e
      rw [e.1] at this; simp at this
  | cons n r ih =>
    intro t h k
    have hp := signB_pos (h.1 n (by simp))
    have ht : t ≠ [] := by
      intro e
      have := h.2
      rw [e] at this
      simp at this
      rw [this.1] at hp; simp at hp
    obtain ⟨n1, l1, e1, g1, s1⟩ := signed_got h ht
    obtain ⟨n2, l2, rfl, g2, s2⟩ := signed_got k ht
    obtain ⟨rfl, rfl⟩ := List.cons.inj e1
    have e := got_unique g1 g2
    subst e
    rw [ih s1 s2]
/-- Where signs were read up to a place at which none stands, the whole has none. -/
theorem signed_stuck {l : List Int} : ∀ {t t' : List UInt8}, (∀ n ∈ l, isSign n) → t = l.flatMap signB ++ t' → t' ≠ [] → (¬ ∃ n, Got t' n) → ¬ ∃ k, Signed t k := by
  induction l with
  | nil =>
    rintro t t' _ rfl ht hn ⟨k, hk⟩
    obtain ⟨n, _, _, g, _⟩ := signed_got hk (by simpa using ht)
    exact hn ⟨n, by simpa using g⟩
  | cons n r ih =>
    rintro t t' hl rfl ht hn ⟨k, hk⟩
    have hg : Got ((n :: r).flatMap signB ++ t') n := ⟨hl n (by simp), by rw [List.flatMap_cons, List.append_assoc]; exact List.prefix_append _ _⟩
    obtain ⟨m, k', _, g, s⟩ := signed_got hk (by intro e; exact ht (List.append_eq_nil_iff.1 e).2)
    have e := got_unique hg g
    subst e
    rw [List.flatMap_cons, List.append_assoc, List.drop_left] at s
    exact ih (fun m hm => hl m (by simp [hm])) rfl ht hn ⟨k', s⟩

/-- What Signs answers. -/
def SignsAre (t : List UInt8) (l : List Int) (ok : Bool) : Prop := (ok = true ∧ Signed t l) ∨ (ok = false ∧ l = [] ∧ ¬ ∃ k, Signed t k)
theorem signsAre_unique {t : List UInt8} {l l' : List Int} {ok ok' : Bool} (h : SignsAre t l ok) (k : SignsAre t l' ok') : l = l' ∧ ok = ok' := by
  rcases h with ⟨rfl, a⟩ | ⟨rfl, rfl, a⟩ <;> rcases k with ⟨rfl, b⟩ | ⟨rfl, rfl, b⟩
  · exact ⟨signed_unique a b, rfl⟩
  · exact absurd ⟨_, a⟩ b
  · exact absurd ⟨_, b⟩ a
  · exact ⟨rfl, rfl⟩
theorem signsAre_len {t : List UInt8} {l : List Int} {ok : Bool} (h : SignsAre t l ok) : l.length ≤ t.length := by
  rcases h with ⟨_, a, rfl⟩ | ⟨_, rfl, _⟩
  · induction l with
    | nil => simp
    | cons n r ih =>
      have := signB_pos (a n (by simp))
      have := ih (fun m hm => a m (by simp [hm]))
      rw [List.flatMap_cons, List.length_append, List.length_cons]; omega
  · simp
theorem signsAre_text (l : List Int) : SignsAre (l.flatMap signB) (l.filter signOkB) true := by
  refine .inl ⟨rfl, ?_⟩
  induction l with
  | nil => exact signed_nil
  | cons n r ih =>
    by_cases h : isSign n
    · rw [List.flatMap_cons, List.filter_cons_of_pos (sign_t h)]
      exact signed_cons h ih
    · rw [List.flatMap_cons, List.filter_cons_of_neg (by rw [sign_f h]; simp), signB_not h]
      exact ih

end Go.Proofs.Ytlididoalekeoaa
