/- Parts of the proof, one behind the other. -/
import Derived.Test.YtlididoalekeoaaGreatDoorMxStoreOk5
import Derived.Test.YtlididoalekeoaaGreatDoorMxStoreOk6
import Derived.Test.YtlididoalekeoaaGreatDoorMxStoreOk7
import Derived.Deep.RegionHeld3
import Derived.Test.YtlididoalekeoaaGreatDoorMxStoreOk8
/- Parts of the proof, one behind the other. -/
/- Plain facts on sets: what stands at the head of bytes, all that they say, and the bytes of signs. Contracts of the program's sets: which one a number has, the sign at a place, the bytes of a sign. Contracts of what the program writes of signs: the bytes of a sign, of all signs. Contracts of writeAll, Encode, EncodeLossy and Fits, in the program. Contracts of readAll, Decode and DecodeLossy, in the program. Contracts of the specification's sets: the sign at a place, the bytes of a sign; Decode and DecodeLossy. Contracts of the specification's l5Put, Encode, EncodeLossy and Fits. Plain facts: a text as a list of its bytes; how long what bytes say can be. -/
namespace Go.Proofs.YtlididoalekeoaaGreatDoor
set_option maxRecDepth 4000
open Go.RowKit

theorem len_pos {t : List UInt8} (h : t ≠ []) : 0 < t.length := List.length_pos_iff.2 h
/-- Whether a sign of today stands at the head of t. -/
def gotB (t : List UInt8) : Bool := decide (headSize (gv t 0) ≤ t.length) && (signB (cand t : Int) == t.take (headSize (gv t 0)))
theorem gotB_t {t : List UInt8} (h : gotB t = true) : Got t (cand t : Int) ∧ (signB (cand t : Int)).length = headSize (gv t 0) := by
  simp only [gotB, Bool.and_eq_true, decide_eq_true_eq, beq_iff_eq] at h
  exact read_yes h.2 h.1
theorem gotB_f {t : List UInt8} (h : gotB t = false) : ¬ ∃ n, Got t n := by
  simp only [gotB, Bool.and_eq_false_iff, decide_eq_false_iff_not, beq_eq_false_iff_ne] at h
  rcases h with h | h
  · exact read_short (by omega)
  · exact read_no h
theorem gotB_of {t : List UInt8} {n : Int} (h : Got t n) : gotB t = true := by
  cases e : gotB t
  · exact absurd ⟨n, h⟩ (gotB_f e)
  · rfl

/-- The sign at the head of t in a set, how many bytes it takes, whether there is one. -/
def hdAt (cs : Int) (t : List UInt8) : Int × Nat × Bool :=
  if cs = 0 then (if gotB t = true then ((cand t : Int), headSize (gv t 0), true) else (0, 0, false))
  else if cs = 5 then (if gv t 0 < 128 then ((gv t 0 : Int), 1, true) else if 1 < t.length ∧ psOk (gv t 0 : Int) (gv t 1 : Int) = true then (psN (gv t 0 : Int) (gv t 1 : Int), 2, true) else (0, 0, false))
  else (bsN cs (gv t 0 : Int), 1, bsOk cs (gv t 0 : Int))
def hdN (cs : Int) (t : List UInt8) : Int := (hdAt cs t).1
def hdK (cs : Int) (t : List UInt8) : Nat := (hdAt cs t).2.1
def hdOk (cs : Int) (t : List UInt8) : Bool := (hdAt cs t).2.2

/-- The bytes of a sign in a set; whether it has some. -/
def putB (cs n : Int) : List UInt8 := if cs = 0 then signB n else if cs = 5 then eucB n else if sbOk cs n = true then [bt (sbN cs n).toNat] else []
def putOk (cs n : Int) : Bool := if cs = 0 then signOkB n else if cs = 5 then eucOk n else sbOk cs n

theorem hd_utf (t : List UInt8) : hdAt 0 t = if gotB t = true then ((cand t : Int), headSize (gv t 0), true) else (0, 0, false) := if_pos rfl
theorem hd_euc (t : List UInt8) : hdAt 5 t = if gv t 0 < 128 then ((gv t 0 : Int), 1, true) else if 1 < t.length ∧ psOk (gv t 0 : Int) (gv t 1 : Int) = true then (psN (gv t 0 : Int) (gv t 1 : Int), 2, true) else (0, 0, false) := by
  unfold hdAt; rw [if_neg (by omega), if_pos rfl]
theorem hd_byte {cs : Int} (h0 : cs ≠ 0) (h5 : cs ≠ 5) (t : List UInt8) : hdAt cs t = (bsN cs (gv t 0 : Int), 1, bsOk cs (gv t 0 : Int)) := by
  unfold hdAt; rw [if_neg h0, if_neg h5]
theorem hd_got {t : List UInt8} {n : Int} (h : Got t n) : hdAt 0 t = (n, (signB n).length, true) := by
  have e := gotB_of h
  rw [hd_utf, if_pos e, ← (got_cand h).1, (got_cand h).2]
theorem hd_ngot {t : List UInt8} (h : ¬ ∃ n, Got t n) : hdAt 0 t = (0, 0, false) := by
  rw [hd_utf, if_neg]
  intro e
  exact h ⟨_, (gotB_t e).1⟩

theorem bs_bound : ((List.range 6).all fun c => (List.range 256).all fun b => !bsOk (c : Int) (b : Int) || decide (0 ≤ bsN (c : Int) (b : Int) ∧ bsN (c : Int) (b : Int) < 55296)) = true := by kernel_rfl
theorem bs_sign {cs b : Int} (h : bsOk cs b = true) : isSign (bsN cs b) := by
  obtain ⟨h1, h2, h3, h4⟩ := ok_in h
  have h5 := List.all_eq_true.1 (List.all_eq_true.1 bs_bound cs.toNat (List.mem_range.2 (by omega))) b.toNat (List.mem_range.2 (by omega))
  rw [show ((cs.toNat : Nat) : Int) = cs from by omega, show ((b.toNat : Nat) : Int) = b from by omega, h] at h5
  simp at h5
  exact .inl h5
theorem look_told {cs n b : Int} : ∀ (k : Nat) (i : Int), look cs n k i = (b, true) → bsOk cs b = true ∧ bsN cs b = n
  | 0, i, h => by simp [look] at h
  | k + 1, i, h => by
    by_cases he : bsOk cs i = true ∧ bsN cs i = n
    · rw [look_yes he] at h
      simp at h
      subst h; exact he
    · rw [look_no he] at h
      exact look_told k (i + 1) h
theorem sb_told {cs n : Int} (h : sbOk cs n = true) : bsOk cs (sbN cs n) = true ∧ bsN cs (sbN cs n) = n :=
  look_told 256 0 (by show sbOf cs n = _; exact Prod.ext rfl h)

theorem gv_head (t : List UInt8) (ht : t ≠ []) : [bt (gv t 0)] = t.take 1 := by
  cases t with
  | nil => exact absurd rfl ht
  | cons a r => simp [gv, bt]
theorem gv_two (t : List UInt8) (ht : 1 < t.length) : [bt (gv t 0), bt (gv t 1)] = t.take 2 := by
  match t, ht with
  | a :: b :: r, _ => simp [gv, bt]

/-- What is read of a head: it fits, it is a sign, and has these bytes. -/
structure HdFits (cs : Int) (t : List UInt8) : Prop where
  pos : 1 ≤ hdK cs t
  le : hdK cs t ≤ t.length
  sg : isSign (hdN cs t)
  put : putB cs (hdN cs t) = t.take (hdK cs t)
  ok : putOk cs (hdN cs t) = true
theorem hd_fits {cs : Int} {t : List UInt8} (ht : t ≠ []) (h : hdOk cs t = true) : HdFits cs t := by
  have hl : 0 < t.length := len_pos ht
  unfold hdOk at h
  by_cases h0 : cs = 0
  · subst h0
    rw [hd_utf] at h
    by_cases hg : gotB t = true
    · obtain ⟨g1, g2⟩ := gotB_t hg
      have e : hdAt 0 t = ((cand t : Int), headSize (gv t 0), true) := by rw [hd_utf, if_pos hg]
      have hd1 : hdN 0 t = (cand t : Int) := by unfold hdN; rw [e]
      have hd2 : hdK 0 t = headSize (gv t 0) := by unfold hdK; rw [e]
      have hp := signB_pos g1.1
      have hle : (signB (cand t : Int)).length ≤ t.length := g1.2.length_le
      refine ⟨by rw [hd2]; omega, by rw [hd2, ← g2]; exact hle, by rw [hd1]; exact g1.1, ?_, ?_⟩
      · have e2 : putB 0 (cand t : Int) = signB (cand t : Int) := if_pos rfl
        rw [hd1, hd2, ← g2, e2]
        exact List.prefix_iff_eq_take.1 g1.2
      · have e2 : putOk 0 (cand t : Int) = signOkB (cand t : Int) := if_pos rfl
        rw [hd1, e2]; exact sign_t g1.1
    · rw [if_neg hg] at h; cases h
  by_cases h5 : cs = 5
  · subst h5
    rw [hd_euc] at h
    by_cases hg : gv t 0 < 128
    · have e : hdAt 5 t = ((gv t 0 : Int), 1, true) := by rw [hd_euc, if_pos hg]
      have hd1 : hdN 5 t = (gv t 0 : Int) := by unfold hdN; rw [e]
      have hd2 : hdK 5 t = 1 := by unfold hdK; rw [e]
      refine ⟨by omega, by omega, by rw [hd1]; exact .inl ⟨by omega, by omega⟩, ?_, ?_⟩
      · rw [hd1, hd2, ← gv_head t ht]; exact (eucB_one hg).1
      · rw [hd1]; exact (eucB_one hg).2
    · rw [if_neg hg] at h
      by_cases hp : 1 < t.length ∧ psOk (gv t 0 : Int) (gv t 1 : Int) = true
      · have e : hdAt 5 t = (psN (gv t 0 : Int) (gv t 1 : Int), 2, true) := by rw [hd_euc, if_neg hg, if_pos hp]
        have hd1 : hdN 5 t = psN (gv t 0 : Int) (gv t 1 : Int) := by unfold hdN; rw [e]
        have hd2 : hdK 5 t = 2 := by unfold hdK; rw [e]
        obtain ⟨b1, b2, _⟩ := ps_big hp.2
        obtain ⟨s1, s2, s3⟩ := sp_ps hp.2
        have e2 := eucB_two s3 s1 s2
        refine ⟨by omega, by omega, by rw [hd1]; exact .inl ⟨by omega, by omega⟩, ?_, ?_⟩
        · rw [hd1, hd2, ← gv_two t hp.1]; exact e2.1
        · rw [hd1]; exact e2.2
      · rw [if_neg hp] at h; cases h
  · have e := hd_byte h0 h5 t
    rw [e] at h
    have hd1 : hdN cs t = bsN cs (gv t 0 : Int) := by unfold hdN; rw [e]
    have hd2 : hdK cs t = 1 := by unfold hdK; rw [e]
    obtain ⟨s1, s2⟩ := sb_back h
    refine ⟨by omega, by omega, by rw [hd1]; exact bs_sign h, ?_, ?_⟩
    · rw [hd1, hd2, ← gv_head t ht]
      unfold putB
      rw [if_neg h0, if_neg h5, if_pos s2, s1, Int.toNat_natCast]
    · rw [hd1]; unfold putOk; rw [if_neg h0, if_neg h5, s2]

theorem gv_app {t u : List UInt8} {k : Nat} (h : k < t.length) : gv (t ++ u) k = gv t k := by
  simp [gv, List.getD, List.getElem?_append_left h]

/-- The bytes of a sign are read as that sign, whatever is behind them. -/
theorem hd_put {cs n : Int} (hc : 0 ≤ cs ∧ cs ≤ 5) (hs : isSign n) (h : putOk cs n = true) (t : List UInt8) : hdAt cs (putB cs n ++ t) = (n, (putB cs n).length, true) ∧ 1 ≤ (putB cs n).length := by
  by_cases h0 : cs = 0
  · subst h0
    have e : putB 0 n = signB n := if_pos rfl
    rw [e]
    exact ⟨hd_got ⟨hs, List.prefix_append _ _⟩, signB_pos hs⟩
  by_cases h5 : cs = 5
  · subst h5
    have e : putB 5 n = eucB n := by unfold putB; rw [if_neg (by omega), if_pos rfl]
    have e2 : putOk 5 n = eucOk n := by unfold putOk; rw [if_neg (by omega), if_pos rfl]
    rw [e2] at h
    rw [e]
    by_cases hn : 0 ≤ n ∧ n ≤ 127
    · obtain ⟨m, rfl⟩ := Int.eq_ofNat_of_zero_le hn.1
      have hm : m < 128 := by omega
      rw [(eucB_one hm).1]
      have g0 : gv ([bt m] ++ t) 0 = m := by simp [gv]; exact bt_val _ (by omega)
      rw [hd_euc, g0, if_pos hm]
      exact ⟨rfl, Nat.le_refl _⟩
    · have hsp : spOk n = true := by unfold eucOk at h; rw [if_neg hn] at h; exact h
      obtain ⟨i1, i2, i3, i4⟩ := sp_in n
      obtain ⟨a, ha⟩ := Int.eq_ofNat_of_zero_le i1
      obtain ⟨b, hb⟩ := Int.eq_ofNat_of_zero_le i3
      rw [(eucB_two hsp ha hb).1]
      have g0 : gv ([bt a, bt b] ++ t) 0 = a := by simp [gv]; exact bt_val _ (by omega)
      have g1 : gv ([bt a, bt b] ++ t) 1 = b := by simp [gv]; exact bt_val _ (by omega)
      have hps : psOk (a : Int) (b : Int) = true ∧ psN (a : Int) (b : Int) = n ∧ ¬ a < 128 := by
        rw [← ha, ← hb]
        unfold spOk at hsp
        by_cases c1 : 12353 ≤ n ∧ n ≤ 12435
        · obtain ⟨x1, x2, _⟩ := sp_one c1.1 c1.2
          have := ps_one (hi := spA n) (lo := spB n) x1 (by omega) (by omega)
          exact ⟨this.2, by rw [this.1]; omega, by omega⟩
        · rw [if_neg c1] at hsp
          by_cases c2 : 12449 ≤ n ∧ n ≤ 12534
          · obtain ⟨x1, x2, _⟩ := sp_two c2.1 c2.2
            have := ps_two (hi := spA n) (lo := spB n) x1 (by omega) (by omega)
            exact ⟨this.2, by rw [this.1]; omega, by omega⟩
          · rw [if_neg c2] at hsp; cases hsp
      rw [hd_euc, g0, g1, if_neg hps.2.2, if_pos ⟨by simp, hps.1⟩, hps.2.1]
      exact ⟨rfl, by simp⟩
  · have e2 : putOk cs n = sbOk cs n := by unfold putOk; rw [if_neg h0, if_neg h5]
    rw [e2] at h
    have e : putB cs n = [bt (sbN cs n).toNat] := by unfold putB; rw [if_neg h0, if_neg h5, if_pos h]
    obtain ⟨b1, b2⟩ := sb_told h
    obtain ⟨_, _, i3, i4⟩ := ok_in b1
    rw [e, hd_byte h0 h5]
    have g0 : gv ([bt (sbN cs n).toNat] ++ t) 0 = (sbN cs n).toNat := by simp [gv]; exact bt_val _ (by omega)
    rw [g0, show (((sbN cs n).toNat : Nat) : Int) = sbN cs n from by omega, b1, b2]
    exact ⟨rfl, Nat.le_refl _⟩

theorem hd_app {cs : Int} {t : List UInt8} (ht : t ≠ []) (h : hdOk cs t = true) (u : List UInt8) : hdAt cs (t ++ u) = hdAt cs t := by
  have hl : 0 < t.length := len_pos ht
  unfold hdOk at h
  by_cases h0 : cs = 0
  · subst h0
    by_cases hg : gotB t = true
    · obtain ⟨g1, _⟩ := gotB_t hg
      obtain ⟨r, hr⟩ := g1.2
      rw [hd_got g1, hd_got (t := t ++ u) ⟨g1.1, r ++ u, by rw [← List.append_assoc, hr]⟩]
    · rw [hd_utf, if_neg hg] at h; cases h
  by_cases h5 : cs = 5
  · subst h5
    rw [hd_euc] at h
    rw [hd_euc, hd_euc, gv_app hl]
    by_cases hg : gv t 0 < 128
    · rw [if_pos hg, if_pos hg]
    · rw [if_neg hg] at h
      by_cases hp : 1 < t.length ∧ psOk (gv t 0 : Int) (gv t 1 : Int) = true
      · rw [if_neg hg, if_neg hg, gv_app hp.1, if_pos hp, if_pos ⟨by rw [List.length_append]; omega, hp.2⟩]
      · rw [if_neg hp] at h; cases h
  · rw [hd_byte h0 h5, hd_byte h0 h5, gv_app hl]

/-- All that the bytes say, sign by sign; none: a byte at which no sign stands. -/
def items (cs : Int) : Nat → List UInt8 → List (Option Int)
  | 0, _ => []
  | f + 1, t => if t = [] then [] else if hdOk cs t = true then some (hdN cs t) :: items cs f (t.drop (hdK cs t)) else none :: items cs f (t.drop 1)
theorem items_nil (cs : Int) (f : Nat) : items cs f [] = [] := by cases f <;> simp [items]
theorem items_fuel (cs : Int) : ∀ (f g : Nat) (t : List UInt8), t.length ≤ f → t.length ≤ g → items cs f t = items cs g t
  | 0, g, t, hf, _ => by
    obtain rfl : t = [] := List.eq_nil_of_length_eq_zero (by omega)
    rw [items_nil, items_nil]
  | f + 1, 0, t, _, hg => by
    obtain rfl : t = [] := List.eq_nil_of_length_eq_zero (by omega)
    rw [items_nil, items_nil]
  | f + 1, g + 1, t, hf, hg => by
    unfold items
    by_cases ht : t = []
    · rw [if_pos ht, if_pos ht]
    · rw [if_neg ht, if_neg ht]
      have hl : 0 < t.length := len_pos ht
      by_cases h : hdOk cs t = true
      · have := (hd_fits ht h).pos
        rw [if_pos h, if_pos h, items_fuel cs f g (t.drop (hdK cs t)) (by simp; omega) (by simp; omega)]
      · rw [if_neg h, if_neg h, items_fuel cs f g (t.drop 1) (by simp; omega) (by simp; omega)]
def itemsOf (cs : Int) (t : List UInt8) : List (Option Int) := items cs t.length t
theorem itemsOf_nil (cs : Int) : itemsOf cs [] = [] := rfl
theorem itemsOf_yes {cs : Int} {t : List UInt8} (ht : t ≠ []) (h : hdOk cs t = true) : itemsOf cs t = some (hdN cs t) :: itemsOf cs (t.drop (hdK cs t)) := by
  have hp := (hd_fits ht h).pos
  have hl : 0 < t.length := len_pos ht
  unfold itemsOf
  obtain ⟨m, hm⟩ : ∃ m, t.length = m + 1 := ⟨t.length - 1, by omega⟩
  rw [hm, items, if_neg ht, if_pos h, items_fuel cs m (t.drop (hdK cs t)).length _ (by simp; omega) (Nat.le_refl _)]
theorem itemsOf_no {cs : Int} {t : List UInt8} (ht : t ≠ []) (h : hdOk cs t = false) : itemsOf cs t = none :: itemsOf cs (t.drop 1) := by
  have hl : 0 < t.length := len_pos ht
  unfold itemsOf
  obtain ⟨m, hm⟩ : ∃ m, t.length = m + 1 := ⟨t.length - 1, by omega⟩
  rw [hm, items, if_neg ht, if_neg (by rw [h]; simp), items_fuel cs m (t.drop 1).length _ (by simp; omega) (Nat.le_refl _)]

/-- The text of what was read, and how much of it was lost. -/
def signI (o : Option Int) : Int := o.getD 65533
def textI (l : List (Option Int)) : List UInt8 := l.flatMap fun o => signB (signI o)
def lostI (l : List (Option Int)) : Nat := (l.filter (·.isNone)).length
theorem textI_nil : textI [] = [] := rfl
theorem textI_cons (o : Option Int) (l : List (Option Int)) : textI (o :: l) = signB (signI o) ++ textI l := by simp [textI]
theorem textI_app (l m : List (Option Int)) : textI (l ++ m) = textI l ++ textI m := by simp [textI]
theorem lostI_some (n : Int) (l : List (Option Int)) : lostI (some n :: l) = lostI l := by simp [lostI]
theorem lostI_none (l : List (Option Int)) : lostI (none :: l) = lostI l + 1 := by simp [lostI]
theorem lostI_app (l m : List (Option Int)) : lostI (l ++ m) = lostI l + lostI m := by simp [lostI]
theorem lostI_map (ns : List Int) : lostI (ns.map some) = 0 := by
  induction ns with
  | nil => rfl
  | cons n r ih => rw [List.map_cons, lostI_some, ih]
theorem textI_map (ns : List Int) : textI (ns.map some) = ns.flatMap signB := by
  induction ns with
  | nil => rfl
  | cons n r ih => rw [List.map_cons, textI_cons, ih, List.flatMap_cons]; rfl

/-- Where nothing is lost: the signs, and these have the bytes. -/
theorem items_some (cs : Int) : ∀ (k : Nat) (t : List UInt8), t.length ≤ k → lostI (itemsOf cs t) = 0 → ∃ ns : List Int, itemsOf cs t = ns.map some ∧ (∀ n ∈ ns, isSign n ∧ putOk cs n = true) ∧ ns.flatMap (putB cs) = t
  | 0, t, hk, _ => by
    obtain rfl : t = [] := List.eq_nil_of_length_eq_zero (by omega)
    exact ⟨[], rfl, by simp, rfl⟩
  | k + 1, t, hk, h => by
    by_cases ht : t = []
    · subst ht; exact ⟨[], rfl, by simp, rfl⟩
    · cases ho : hdOk cs t
      · rw [itemsOf_no ht ho, lostI_none] at h; omega
      · have hf := hd_fits ht ho
        have hp := hf.pos
        rw [itemsOf_yes ht ho] at h ⊢
        rw [lostI_some] at h
        obtain ⟨ns, e1, e2, e3⟩ := items_some cs k (t.drop (hdK cs t)) (by simp; omega) h
        refine ⟨hdN cs t :: ns, by rw [e1]; rfl, ?_, ?_⟩
        · intro n hn
          rcases List.mem_cons.1 hn with rfl | hn
          · exact ⟨hf.sg, hf.ok⟩
          · exact e2 n hn
        · rw [List.flatMap_cons, e3, hf.put, List.take_append_drop]
theorem items_put {cs : Int} (hc : 0 ≤ cs ∧ cs ≤ 5) : ∀ ns : List Int, (∀ n ∈ ns, isSign n ∧ putOk cs n = true) → itemsOf cs (ns.flatMap (putB cs)) = ns.map some
  | [], _ => rfl
  | n :: r, h => by
    have hn := h n (by simp)
    obtain ⟨e, hp⟩ := hd_put hc hn.1 hn.2 (r.flatMap (putB cs))
    rw [List.flatMap_cons]
    have ht : putB cs n ++ r.flatMap (putB cs) ≠ [] := by intro e; have := (List.append_eq_nil_iff.1 e).1; rw [this] at hp; simp at hp
    rw [itemsOf_yes ht (by unfold hdOk; rw [e])]
    have e1 : hdN cs (putB cs n ++ r.flatMap (putB cs)) = n := by unfold hdN; rw [e]
    have e2 : hdK cs (putB cs n ++ r.flatMap (putB cs)) = (putB cs n).length := by unfold hdK; rw [e]
    rw [e1, e2, List.drop_left, items_put hc r (fun m hm => h m (by simp [hm]))]; rfl
theorem items_app (cs : Int) (b : List UInt8) : ∀ (k : Nat) (a : List UInt8), a.length ≤ k → lostI (itemsOf cs a) = 0 → itemsOf cs (a ++ b) = itemsOf cs a ++ itemsOf cs b
  | 0, a, hk, _ => by
    obtain rfl : a = [] := List.eq_nil_of_length_eq_zero (by omega)
    rfl
  | k + 1, a, hk, h => by
    by_cases ha : a = []
    · subst ha; rfl
    · cases ho : hdOk cs a
      · rw [itemsOf_no ha ho, lostI_none] at h; omega
      · have hf := hd_fits ha ho
        have hp := hf.pos
        have e := hd_app ha ho b
        have ho2 : hdOk cs (a ++ b) = true := by unfold hdOk; rw [e]; exact ho
        have e1 : hdN cs (a ++ b) = hdN cs a := by unfold hdN; rw [e]
        have e2 : hdK cs (a ++ b) = hdK cs a := by unfold hdK; rw [e]
        rw [itemsOf_yes ha ho, lostI_some] at h
        rw [itemsOf_yes ha ho, itemsOf_yes (by simp [ha]) ho2, e1, e2, List.drop_append_of_le_length hf.le, items_app cs b k (a.drop (hdK cs a)) (by simp; omega) h]
        rfl

theorem put_utf : putB 0 = signB := by funext n; exact if_pos rfl
theorem putOk_utf (n : Int) : putOk 0 n = signOkB n := if_pos rfl
theorem sign_sign {n : Int} (h : signOkB n = true) : isSign n := by
  have h2 : (0 ≤ n ∧ n < 55296) ∨ (57343 < n ∧ n < 1114112) := of_decide_eq_true h
  exact h2
/-- A text's signs, read as a set's. -/
theorem signed_items {t : List UInt8} {l : List Int} (h : Signed t l) : itemsOf 0 t = l.map some := by
  have := items_put (cs := 0) (by omega) l (fun n hn => ⟨h.1 n hn, by rw [putOk_utf]; exact sign_t (h.1 n hn)⟩)
  rw [put_utf, h.2] at this; exact this
theorem items_signed {t : List UInt8} (h : lostI (itemsOf 0 t) = 0) : ∃ l : List Int, itemsOf 0 t = l.map some ∧ Signed t l := by
  obtain ⟨ns, e1, e2, e3⟩ := items_some 0 t.length t (Nat.le_refl _) h
  rw [put_utf] at e3
  exact ⟨ns, e1, fun n hn => (e2 n hn).1, e3⟩
def signsOf (t : List UInt8) : List Int := (itemsOf 0 t).map signI
theorem signsOf_signed {t : List UInt8} {l : List Int} (h : Signed t l) : signsOf t = l := by
  unfold signsOf; rw [signed_items h]; simp [signI, Function.comp_def]
/-- What Signs answers, by the items. -/
theorem signsAre_items {t : List UInt8} {l : List Int} {ok : Bool} (h : SignsAre t l ok) : (ok = true ∧ Signed t l ∧ lostI (itemsOf 0 t) = 0 ∧ signsOf t = l) ∨ (ok = false ∧ l = [] ∧ lostI (itemsOf 0 t) ≠ 0) := by
  rcases h with ⟨rfl, h⟩ | ⟨rfl, rfl, h⟩
  · exact .inl ⟨rfl, h, by rw [signed_items h, lostI_map], signsOf_signed h⟩
  · refine .inr ⟨rfl, rfl, fun e => h ?_⟩
    obtain ⟨l, _, hl⟩ := items_signed e
    exact ⟨l, hl⟩

/-- The bytes of signs in a set, a question mark for each that has none; how many have none. -/
def oneW (cs n : Int) : List UInt8 := if putOk cs n = true then putB cs n else [63]
def writeB (cs : Int) (l : List Int) : List UInt8 := l.flatMap (oneW cs)
def lostW (cs : Int) (l : List Int) : Nat := (l.filter fun n => !putOk cs n).length
theorem lostW_app (cs : Int) (l m : List Int) : lostW cs (l ++ m) = lostW cs l + lostW cs m := by simp [lostW]
theorem writeB_app (cs : Int) (l m : List Int) : writeB cs (l ++ m) = writeB cs l ++ writeB cs m := by simp [writeB]
theorem lostW_one (cs n : Int) : lostW cs [n] = if putOk cs n = true then 0 else 1 := by
  cases h : putOk cs n <;> simp [lostW, h]
theorem writeB_one (cs n : Int) : writeB cs [n] = oneW cs n := by simp [writeB]
theorem put_len (cs n : Int) : (putB cs n).length ≤ 4 := by
  unfold putB
  split
  · exact signB_len n
  · split
    · have := eucB_len n; omega
    · split <;> simp
theorem oneW_len (cs n : Int) : (oneW cs n).length ≤ 4 := by
  unfold oneW
  split
  · exact put_len cs n
  · simp
theorem writeB_len (cs : Int) (l : List Int) : (writeB cs l).length ≤ 4 * l.length := by
  induction l with
  | nil => simp [writeB]
  | cons n r ih =>
    have := oneW_len cs n
    have e : writeB cs (n :: r) = oneW cs n ++ writeB cs r := by simp [writeB]
    rw [e, List.length_append, List.length_cons]; omega
theorem lostW_zero {cs : Int} {l : List Int} (h : lostW cs l = 0) : (∀ n ∈ l, putOk cs n = true) ∧ writeB cs l = l.flatMap (putB cs) := by
  have h1 : ∀ n ∈ l, putOk cs n = true := by
    intro n hn
    unfold lostW at h
    have := List.filter_eq_nil_iff.1 (List.eq_nil_of_length_eq_zero h) n hn
    simpa using this
  refine ⟨h1, ?_⟩
  clear h
  induction l with
  | nil => rfl
  | cons n r ih =>
    have := ih (fun m hm => h1 m (by simp [hm]))
    have hn := h1 n (by simp)
    simp only [writeB, List.flatMap_cons] at this ⊢
    rw [this]; unfold oneW; rw [if_pos hn]
theorem lostW_put {cs : Int} {l : List Int} (h : ∀ n ∈ l, putOk cs n = true) : lostW cs l = 0 := by
  unfold lostW
  rw [List.length_eq_zero_iff, List.filter_eq_nil_iff]
  intro n hn; rw [h n hn]; simp

/-- What Decode, Encode and their lossy kin answer. -/
def decOk (cs : Int) (t : List UInt8) : Bool := inB cs 0 5 && decide (lostI (itemsOf cs t) = 0)
def decS (cs : Int) (t : List UInt8) : List UInt8 := if decOk cs t = true then textI (itemsOf cs t) else []
def decLS (cs : Int) (t : List UInt8) : List UInt8 := if inB cs 0 5 = true then textI (itemsOf cs t) else []
def decLN (cs : Int) (t : List UInt8) : Nat := if inB cs 0 5 = true then lostI (itemsOf cs t) else 0
def encIn (cs : Int) (t : List UInt8) : Bool := inB cs 0 5 && decide (lostI (itemsOf 0 t) = 0)
def encOk (cs : Int) (t : List UInt8) : Bool := encIn cs t && decide (lostW cs (signsOf t) = 0)
def encS (cs : Int) (t : List UInt8) : List UInt8 := if encOk cs t = true then writeB cs (signsOf t) else []
def encLS (cs : Int) (t : List UInt8) : List UInt8 := if encIn cs t = true then writeB cs (signsOf t) else []
def encLN (cs : Int) (t : List UInt8) : Nat := if encIn cs t = true then lostW cs (signsOf t) else 0

theorem in_cs {cs : Int} (h : inB cs 0 5 = true) : 0 ≤ cs ∧ cs ≤ 5 := of_decide_eq_true h
/-- What is read is written as it was. -/
theorem dec_enc {cs : Int} {b : List UInt8} (h : decOk cs b = true) : encOk cs (decS cs b) = true ∧ encS cs (decS cs b) = b ∧ ∃ l, Signed (decS cs b) l := by
  have h' := h
  simp only [decOk, Bool.and_eq_true, decide_eq_true_eq] at h'
  obtain ⟨h1, h2⟩ := h'
  obtain ⟨ns, e1, e2, e3⟩ := items_some cs b.length b (Nat.le_refl _) h2
  have es : decS cs b = ns.flatMap signB := by unfold decS; rw [if_pos h, e1, textI_map]
  have sg : Signed (decS cs b) ns := ⟨fun n hn => (e2 n hn).1, es.symm⟩
  have so := signsOf_signed sg
  have li : lostI (itemsOf 0 (decS cs b)) = 0 := by rw [signed_items sg, lostI_map]
  have lw : lostW cs ns = 0 := lostW_put fun n hn => (e2 n hn).2
  have ok : encOk cs (decS cs b) = true := by
    simp only [encOk, encIn, Bool.and_eq_true, decide_eq_true_eq]
    exact ⟨⟨h1, li⟩, by rw [so]; exact lw⟩
  refine ⟨ok, ?_, ns, sg⟩
  unfold encS; rw [if_pos ok, so, (lostW_zero lw).2, e3]
/-- What is written is read as it was. -/
theorem enc_dec {cs : Int} {u : List UInt8} (h : encOk cs u = true) : decOk cs (encS cs u) = true ∧ decS cs (encS cs u) = u := by
  have h' := h
  simp only [encOk, encIn, Bool.and_eq_true, decide_eq_true_eq] at h'
  obtain ⟨⟨h1, h2⟩, h3⟩ := h'
  obtain ⟨l, e1, sg⟩ := items_signed h2
  have so := signsOf_signed sg
  rw [so] at h3
  obtain ⟨p1, p2⟩ := lostW_zero h3
  have es : encS cs u = l.flatMap (putB cs) := by unfold encS; rw [if_pos h, so, p2]
  have it : itemsOf cs (encS cs u) = l.map some := by rw [es]; exact items_put (in_cs h1) l (fun n hn => ⟨sg.1 n hn, p1 n hn⟩)
  have ok : decOk cs (encS cs u) = true := by
    simp only [decOk, Bool.and_eq_true, decide_eq_true_eq]
    exact ⟨h1, by rw [it, lostI_map]⟩
  refine ⟨ok, ?_⟩
  unfold decS; rw [if_pos ok, it, textI_map, sg.2]
/-- What is read with loss is a text. -/
theorem signI_sign {cs : Int} : ∀ (k : Nat) (t : List UInt8), t.length ≤ k → ∀ o ∈ itemsOf cs t, isSign (signI o)
  | 0, t, hk, o, ho => by
    obtain rfl : t = [] := List.eq_nil_of_length_eq_zero (by omega)
    rw [itemsOf_nil] at ho; cases ho
  | k + 1, t, hk, o, ho => by
    by_cases ht : t = []
    · subst ht; rw [itemsOf_nil] at ho; cases ho
    · have hl : 0 < t.length := len_pos ht
      cases hh : hdOk cs t
      · rw [itemsOf_no ht hh] at ho
        rcases List.mem_cons.1 ho with rfl | ho
        · exact .inr ⟨by decide, by decide⟩
        · exact signI_sign k (t.drop 1) (by simp; omega) o ho
      · have hf := hd_fits ht hh
        have hp := hf.pos
        rw [itemsOf_yes ht hh] at ho
        rcases List.mem_cons.1 ho with rfl | ho
        · exact hf.sg
        · exact signI_sign k (t.drop (hdK cs t)) (by simp; omega) o ho
theorem textI_signed (cs : Int) (t : List UInt8) : Signed (textI (itemsOf cs t)) ((itemsOf cs t).map signI) := by
  refine ⟨fun n hn => ?_, ?_⟩
  · obtain ⟨o, ho, rfl⟩ := List.mem_map.1 hn
    exact signI_sign t.length t (Nat.le_refl _) o ho
  · unfold textI; rw [List.flatMap_map]
theorem decLS_signed (cs : Int) (t : List UInt8) : ∃ l, Signed (decLS cs t) l := by
  unfold decLS
  split
  · exact ⟨_, textI_signed cs t⟩
  · exact ⟨[], signed_nil⟩
theorem dec_lossy {cs : Int} {t : List UInt8} (h : decOk cs t = true) : decLN cs t = 0 ∧ decLS cs t = decS cs t := by
  have h' := h
  simp only [decOk, Bool.and_eq_true, decide_eq_true_eq] at h'
  unfold decLN decLS decS
  rw [if_pos h'.1, if_pos h'.1, if_pos h]
  exact ⟨h'.2, rfl⟩
theorem dec_lost {cs : Int} {t : List UInt8} (h : decOk cs t = false) : 0 < decLN cs t ∨ decLS cs t = [] := by
  simp only [decOk, Bool.and_eq_false_iff, decide_eq_false_iff_not] at h
  unfold decLN decLS
  cases hi : inB cs 0 5
  · exact .inr (if_neg (by simp))
  · rcases h with h | h
    · rw [hi] at h; cases h
    · exact .inl (by rw [if_pos rfl]; omega)
theorem enc_lossy {cs : Int} {t : List UInt8} (h : encOk cs t = true) : encLN cs t = 0 ∧ encLS cs t = encS cs t := by
  have h' := h
  simp only [encOk, Bool.and_eq_true, decide_eq_true_eq] at h'
  unfold encLN encLS encS
  rw [if_pos h'.1, if_pos h'.1, if_pos h]
  exact ⟨h'.2, rfl⟩
/-- What both say is what is said by one behind the other. -/
theorem dec_joined {cs : Int} {a b : List UInt8} (h : decOk cs a = true) (k : decOk cs b = true) : decOk cs (a ++ b) = true ∧ decS cs (a ++ b) = decS cs a ++ decS cs b := by
  have h' := h
  have k' := k
  simp only [decOk, Bool.and_eq_true, decide_eq_true_eq] at h' k'
  have e := items_app cs b a.length a (Nat.le_refl _) h'.2
  have ok : decOk cs (a ++ b) = true := by
    simp only [decOk, Bool.and_eq_true, decide_eq_true_eq]
    exact ⟨h'.1, by rw [e, lostI_app]; omega⟩
  refine ⟨ok, ?_⟩
  unfold decS; rw [if_pos ok, if_pos h, if_pos k, e, textI_app]

/-- Signs of two parts: each part has its own, or the second begins with a byte that goes on. -/
theorem signed_split {b : List UInt8} : ∀ (k : List Int) (a : List UInt8), Signed (a ++ b) k → (∃ l, Signed a l) ∨ (128 ≤ gv b 0 ∧ gv b 0 < 192)
  | [], a, h => by
    obtain ⟨_, h2⟩ := h
    have : a ++ b = [] := h2.symm
    obtain ⟨rfl, _⟩ := List.append_eq_nil_iff.1 this
    exact .inl ⟨[], signed_nil⟩
  | n :: k, a, h => by
    obtain ⟨h1, h2⟩ := h
    rw [List.flatMap_cons] at h2
    have hs := h1 n (by simp)
    by_cases hl : (signB n).length ≤ a.length
    · obtain ⟨a', rfl⟩ : ∃ a', a = signB n ++ a' := by
        have : signB n <+: a ++ b := ⟨_, h2⟩
        obtain ⟨c, hc⟩ := (List.prefix_append_right_inj []).1 (by simpa using List.prefix_of_prefix_length_le this (List.prefix_append a b) hl)
        exact ⟨c, hc.symm⟩
      rw [List.append_assoc] at h2
      have h3 := List.append_cancel_left h2
      rcases signed_split k a' ⟨fun m hm => h1 m (by simp [hm]), h3⟩ with ⟨l, sl⟩ | hg
      · exact .inl ⟨n :: l, signed_cons hs sl⟩
      · exact .inr hg
    · by_cases ha : a = []
      · subst ha; exact .inl ⟨[], signed_nil⟩
      · have hla : 0 < a.length := len_pos ha
        have hg : Got (a ++ b) n := ⟨hs, _, h2⟩
        have e := (got_cand hg).2
        have hc := got_cont hg a.length (by omega) (by omega)
        have eg : gv (a ++ b) a.length = gv b 0 := by simp [gv, List.getD, List.getElem?_append_right]
        rw [eg] at hc
        exact .inr hc
theorem got_first {t : List UInt8} {n : Int} (h : Got t n) : ¬ (128 ≤ gv t 0 ∧ gv t 0 < 192) := by
  intro hc
  have h1 := got_len h
  unfold l2len headSize at h1
  rw [if_neg (by omega), if_neg (by omega), if_neg (by omega), if_neg (by omega), if_neg (by omega), if_neg (by omega), if_neg (by omega)] at h1
  cases h1
theorem signed_twice {t : List UInt8} {k : List Int} (h : Signed (t ++ t) k) : ∃ l, Signed t l := by
  by_cases ht : t = []
  · subst ht; exact ⟨[], signed_nil⟩
  · rcases signed_split k t h with hl | hg
    · exact hl
    · obtain ⟨n, _, _, g, _⟩ := signed_got h (by simp [ht])
      have := got_first g
      rw [gv_app (len_pos ht)] at this
      exact absurd hg this
theorem signed_both {t : List UInt8} {l : List Int} (h : Signed t l) : Signed (t ++ t) (l ++ l) :=
  ⟨fun n hn => by rcases List.mem_append.1 hn with hn | hn <;> exact h.1 n hn, by rw [List.flatMap_append, h.2]⟩
theorem enc_twice (cs : Int) (t : List UInt8) : encOk cs (t ++ t) = encOk cs t ∧ (encOk cs t = true → encS cs (t ++ t) = encS cs t ++ encS cs t) := by
  by_cases h0 : lostI (itemsOf 0 t) = 0
  · obtain ⟨l, e, sg⟩ := items_signed h0
    have s2 := signed_both sg
    have o1 := signsOf_signed sg
    have o2 := signsOf_signed s2
    have l2 : lostI (itemsOf 0 (t ++ t)) = 0 := by rw [signed_items s2, lostI_map]
    have ek : encOk cs (t ++ t) = encOk cs t := by
      unfold encOk encIn
      rw [o1, o2, lostW_app, h0, l2]
      congr 1
      by_cases hw : lostW cs l = 0
      · rw [hw]
      · rw [decide_eq_false hw, decide_eq_false (by omega)]
    refine ⟨ek, fun h => ?_⟩
    unfold encS
    rw [if_pos (by rw [ek]; exact h), if_pos h, o1, o2, writeB_app]
  · have h2 : lostI (itemsOf 0 (t ++ t)) ≠ 0 := by
      intro e
      obtain ⟨k, _, sg⟩ := items_signed e
      obtain ⟨l, sl⟩ := signed_twice sg
      exact h0 (by rw [signed_items sl, lostI_map])
    have e1 : encOk cs t = false := by unfold encOk encIn; rw [decide_eq_false h0]; simp
    have e2 : encOk cs (t ++ t) = false := by unfold encOk encIn; rw [decide_eq_false h2]; simp
    rw [e1, e2]
    exact ⟨rfl, fun h => by cases h⟩

/-- How far reading has come: what is written so far and what is still to be written make the whole. -/
structure ReadAt (cs : Int) (bs : List UInt8) (k : Nat) (out : List UInt8) (lost : Nat) : Prop where
  le : k ≤ bs.length
  text : out ++ textI (itemsOf cs (bs.drop k)) = textI (itemsOf cs bs)
  miss : lost + lostI (itemsOf cs (bs.drop k)) = lostI (itemsOf cs bs)
  size : out.length ≤ 4 * k
  few : lost ≤ k
theorem readAt_zero (cs : Int) (bs : List UInt8) : ReadAt cs bs 0 [] 0 := ⟨Nat.zero_le _, rfl, by simp, Nat.zero_le _, Nat.le_refl _⟩
theorem drop_ne {bs : List UInt8} {k : Nat} (h : k < bs.length) : bs.drop k ≠ [] := by
  intro e; have := congrArg List.length e; simp at this; omega
theorem readAt_yes {cs : Int} {bs : List UInt8} {k : Nat} {out : List UInt8} {lost : Nat} (h : ReadAt cs bs k out lost) (hk : k < bs.length) (ho : hdOk cs (bs.drop k) = true) :
    ReadAt cs bs (k + hdK cs (bs.drop k)) (out ++ signB (hdN cs (bs.drop k))) lost := by
  have hn := drop_ne hk
  have hf := hd_fits hn ho
  have hp := hf.pos
  have hl := hf.le
  have ht := h.text
  have hz := h.miss
  rw [itemsOf_yes hn ho, List.drop_drop] at ht hz
  rw [textI_cons, ← List.append_assoc] at ht
  rw [lostI_some] at hz
  have h4 := signB_len (hdN cs (bs.drop k))
  have hs := h.size
  have hfw := h.few
  simp at hl
  exact ⟨by omega, ht, hz, by rw [List.length_append]; omega, by omega⟩
theorem readAt_no {cs : Int} {bs : List UInt8} {k : Nat} {out : List UInt8} {lost : Nat} (h : ReadAt cs bs k out lost) (hk : k < bs.length) (ho : hdOk cs (bs.drop k) = false) :
    ReadAt cs bs (k + 1) (out ++ signB 65533) (lost + 1) := by
  have hn := drop_ne hk
  have ht := h.text
  have hz := h.miss
  rw [itemsOf_no hn ho, List.drop_drop] at ht hz
  rw [textI_cons, ← List.append_assoc] at ht
  rw [lostI_none] at hz
  have h4 := signB_len 65533
  have hs := h.size
  have hfw := h.few
  exact ⟨by omega, ht, by omega, by rw [List.length_append]; omega, by omega⟩
theorem readAt_end {cs : Int} {bs : List UInt8} {k : Nat} {out : List UInt8} {lost : Nat} (h : ReadAt cs bs k out lost) (hk : ¬ k < bs.length) : out = textI (itemsOf cs bs) ∧ lost = lostI (itemsOf cs bs) := by
  have e : bs.drop k = [] := List.drop_eq_nil_of_le (by omega)
  have ht := h.text
  have hz := h.miss
  rw [e, itemsOf_nil] at ht hz
  exact ⟨by simpa [textI] using ht, by simpa [lostI] using hz⟩
theorem readAt_stuck {cs : Int} {bs : List UInt8} {k : Nat} {out : List UInt8} (h : ReadAt cs bs k out 0) (hk : k < bs.length) (ho : hdOk cs (bs.drop k) = false) : lostI (itemsOf cs bs) ≠ 0 := by
  have := (readAt_no h hk ho).miss
  omega

/-- What is answered of the sign at a place. -/
structure SignAt (cs : Int) (t : List UInt8) (k : Nat) (n next : Int) (ok : Bool) : Prop where
  ok : ok = hdOk cs t
  yes : hdOk cs t = true → n = hdN cs t ∧ next = (k : Int) + (hdK cs t : Int)
theorem gv_drop (bs : List UInt8) (k j : Nat) : gv (bs.drop k) j = (bs.getD (k + j) 0).toNat := by simp [gv, List.getD]
theorem signAt_utf {bs : List UInt8} {k : Nat} {r : Int × Int × Bool} (hk : k < bs.length) (h : GotAt bs (k : Int) r) : SignAt 0 (bs.drop k) k r.1 r.2.1 r.2.2 := by
  rcases h with ⟨h1, _, _, h4, h5⟩ | ⟨rfl, h⟩
  · rw [Int.toNat_natCast] at h4
    have e := hd_got h4
    have o : hdOk 0 (bs.drop k) = true := by unfold hdOk; rw [e]
    refine ⟨by rw [h1, o], fun _ => ⟨by unfold hdN; rw [e], by unfold hdK; rw [e, h5]⟩⟩
  · have hn : ¬ ∃ n, Got (bs.drop k) n := fun hg => h ⟨by omega, by omega, by rw [Int.toNat_natCast]; exact hg⟩
    have o : hdOk 0 (bs.drop k) = false := by unfold hdOk; rw [hd_ngot hn]
    exact ⟨o.symm, fun h => by rw [o] at h; cases h⟩
theorem signAt_euc {bs : List UInt8} {k : Nat} (hk : k < bs.length) : SignAt 5 (bs.drop k) k (eucAt bs (k : Int)).1 (eucAt bs (k : Int)).2.1 (eucAt bs (k : Int)).2.2 := by
  have g0 := gv_drop bs k 0
  have g1 := gv_drop bs k 1
  rw [Nat.add_zero] at g0
  have e := hd_euc (bs.drop k)
  by_cases h1 : gv (bs.drop k) 0 < 128
  · rw [if_pos h1] at e
    rw [euc_one hk g0.symm h1]
    have o : hdOk 5 (bs.drop k) = true := by unfold hdOk; rw [e]
    exact ⟨o.symm, fun _ => ⟨by unfold hdN; rw [e], by unfold hdK; rw [e]; rfl⟩⟩
  · rw [if_neg h1] at e
    by_cases h2 : 1 < (bs.drop k).length ∧ psOk (gv (bs.drop k) 0 : Int) (gv (bs.drop k) 1 : Int) = true
    · rw [if_pos h2] at e
      have hl := h2.1
      simp at hl
      rw [euc_yes (by omega) g0.symm g1.symm (by omega) h2.2]
      have o : hdOk 5 (bs.drop k) = true := by unfold hdOk; rw [e]
      exact ⟨o.symm, fun _ => ⟨by unfold hdN; rw [e], by unfold hdK; rw [e]; rfl⟩⟩
    · rw [if_neg h2] at e
      have o : hdOk 5 (bs.drop k) = false := by unfold hdOk; rw [e]
      have ee : eucAt bs (k : Int) = (0, 0, false) := by
        by_cases hl : k + 1 < bs.length
        · refine euc_no hl g0.symm g1.symm (by omega) ?_
          cases hp : psOk (gv (bs.drop k) 0 : Int) (gv (bs.drop k) 1 : Int)
          · rfl
          · exact absurd ⟨by simp; omega, hp⟩ h2
        · exact euc_last (by omega) g0.symm (by omega)
      rw [ee]
      exact ⟨o.symm, fun h => by rw [o] at h; cases h⟩
theorem signAt_byte {cs : Int} {bs : List UInt8} {k : Nat} (h0 : cs ≠ 0) (h5 : cs ≠ 5) : SignAt cs (bs.drop k) k (bsN cs ((bs.getD k 0).toNat : Int)) ((k : Int) + 1) (bsOk cs ((bs.getD k 0).toNat : Int)) := by
  have g0 := gv_drop bs k 0
  rw [Nat.add_zero] at g0
  have e := hd_byte h0 h5 (bs.drop k)
  rw [g0] at e
  exact ⟨by unfold hdOk; rw [e], fun _ => ⟨by unfold hdN; rw [e], by unfold hdK; rw [e]; rfl⟩⟩

/-- How far writing has come. -/
structure WriteAt (cs : Int) (l : List Int) (k : Nat) (out : List UInt8) (lost : Nat) : Prop where
  le : k ≤ l.length
  text : out = writeB cs (l.take k)
  miss : lost = lostW cs (l.take k)
theorem writeAt_zero (cs : Int) (l : List Int) : WriteAt cs l 0 [] 0 := ⟨Nat.zero_le _, rfl, rfl⟩
theorem WriteAt.size {cs : Int} {l : List Int} {k : Nat} {out : List UInt8} {lost : Nat} (h : WriteAt cs l k out lost) : out.length ≤ 4 * k ∧ lost ≤ k := by
  have h1 := writeB_len cs (l.take k)
  have h2 : (l.take k).length ≤ k := List.length_take_le _ _
  have h3 : lostW cs (l.take k) ≤ (l.take k).length := List.length_filter_le _ _
  rw [h.text, h.miss]; omega
theorem writeAt_next {cs : Int} {l : List Int} {k : Nat} {out : List UInt8} {lost : Nat} (h : WriteAt cs l k out lost) (hk : k < l.length) {n : Int} (hn : l.getD k 0 = n) :
    WriteAt cs l (k + 1) (out ++ oneW cs n) (lost + if putOk cs n = true then 0 else 1) := by
  have e : l.take (k + 1) = l.take k ++ [n] := by
    rw [List.take_succ_eq_append_getElem hk]
    simp [List.getD, List.getElem?_eq_getElem hk] at hn
    rw [hn]
  exact ⟨by omega, by rw [e, writeB_app, writeB_one, h.text], by rw [e, lostW_app, lostW_one, h.miss]⟩
theorem writeAt_end {cs : Int} {l : List Int} {k : Nat} {out : List UInt8} {lost : Nat} (h : WriteAt cs l k out lost) (hk : ¬ k < l.length) : out = writeB cs l ∧ lost = lostW cs l := by
  have e : l.take k = l := List.take_of_length_le (by omega)
  have h1 := h.text
  have h2 := h.miss
  rw [e] at h1 h2
  exact ⟨h1, h2⟩
theorem writeAt_stuck {cs : Int} {l : List Int} {k : Nat} {out : List UInt8} {lost : Nat} (h : WriteAt cs l k out lost) (hk : k < l.length) {n : Int} (hn : l.getD k 0 = n) (ho : putOk cs n = false) : lostW cs l ≠ 0 := by
  have h1 := (writeAt_next h hk hn).miss
  rw [ho] at h1
  have e : l = l.take (k + 1) ++ l.drop (k + 1) := (List.take_append_drop _ _).symm
  rw [e, lostW_app]
  simp at h1
  omega

/-- The set of a number, as the program holds it. -/
def setV (cs : Int) : Value := if cs = 0 then .iface 139 (.agg #[]) else if cs = 5 then .iface 142 (.agg #[]) else .iface 141 (.agg #[.int .i64 cs])
theorem setV_utf : setV 0 = .iface 139 (.agg #[]) := rfl
theorem setV_euc : setV 5 = .iface 142 (.agg #[]) := rfl
theorem setV_byte {cs : Int} (h0 : cs ≠ 0) (h5 : cs ≠ 5) : setV cs = .iface 141 (.agg #[.int .i64 cs]) := by
  unfold setV; rw [if_neg h0, if_neg h5]

set_option maxHeartbeats 400000 in
theorem setOf_yes (cs : Int) (w : World) (h : 0 ≤ cs ∧ cs ≤ 5) : Calls Tryz.prog 93 #[.int .i64 cs] w fun e w' => e = .returned (.tuple #[setV cs, .bool true]) ∧ w' = w := by
  rcases (show cs = 0 ∨ cs = 1 ∨ cs = 2 ∨ cs = 3 ∨ cs = 4 ∨ cs = 5 from by omega) with rfl | rfl | rfl | rfl | rfl | rfl
  all_goals
    go_enter Tryz.func93, Tryz.ntmps93
    go_wp2_with fail
    go_ret2
    exact ⟨rfl, rfl⟩

set_option maxHeartbeats 400000 in
theorem setOf_no (cs : Int) (w : World) (h : ¬ (0 ≤ cs ∧ cs ≤ 5)) : Calls Tryz.prog 93 #[.int .i64 cs] w fun e w' => e = .returned (.tuple #[.nilIface, .bool false]) ∧ w' = w := by
  have h0 : (cs == 0) = false := by simp; omega
  have h1 : (cs == 1) = false := by simp; omega
  have h2 : (cs == 2) = false := by simp; omega
  have h3 : (cs == 3) = false := by simp; omega
  have h4 : (cs == 4) = false := by simp; omega
  have h5 : (cs == 5) = false := by simp; omega
  clear h
  go_enter Tryz.func93, Tryz.ntmps93
  go_wp2_with fail
  go_ret2
  exact ⟨rfl, rfl⟩

/-- The sign at a place is answered. -/
structure SignOut (w : World) (cs : Int) (t : List UInt8) (k : Nat) (e : Ending) (w' : World) : Prop where
  out : ∃ (n next : Int) (ok : Bool), e = .returned (.tuple #[.int .i64 n, .int .i64 next, .bool ok]) ∧ SignAt cs t k n next ok ∧ Below w.heap.size w w'

theorem as_uu (w : World) : (Instr.typeAssert (.iface 139 (.agg #[])) 133 139 true).run Tryz.prog w = .ok (.tuple #[.agg #[], .bool true]) w := by kernel_rfl
theorem as_bu (w : World) (c : Int) : (Instr.typeAssert (.iface 141 (.agg #[.int .i64 c])) 133 139 true).run Tryz.prog w = .ok (.tuple #[.agg #[], .bool false]) w := by kernel_rfl
theorem as_bb (w : World) (c : Int) : (Instr.typeAssert (.iface 141 (.agg #[.int .i64 c])) 133 141 true).run Tryz.prog w = .ok (.tuple #[.agg #[.int .i64 c], .bool true]) w := by kernel_rfl
theorem as_eu (w : World) : (Instr.typeAssert (.iface 142 (.agg #[])) 133 139 true).run Tryz.prog w = .ok (.tuple #[.agg #[], .bool false]) w := by kernel_rfl
theorem as_eb (w : World) : (Instr.typeAssert (.iface 142 (.agg #[])) 133 141 true).run Tryz.prog w = .ok (.tuple #[.agg #[.int .i64 0], .bool false]) w := by kernel_rfl
theorem as_ee (w : World) : (Instr.typeAssert (.iface 142 (.agg #[])) 133 142 true).run Tryz.prog w = .ok (.tuple #[.agg #[], .bool true]) w := by kernel_rfl

set_option maxHeartbeats 400000 in
theorem signAt_0 (b off len cap k : Nat) (bs : List UInt8) (w : World) (hn : bs.length = len) (hlc : len ≤ cap) (hc : ∀ j, j < len → w.cell? ⟨b, off + j, none⟩ = some (.int .u8 ((bs.getD j 0).toNat : Int))) (hl : len ≤ 1073741824) (hk : k < len) :
    Calls Tryz.prog 101 #[setV 0, .slice (some ⟨b, off, none⟩) len cap, .int .i64 (k : Int)] w (SignOut w 0 (bs.drop k) k) := by
  have Hn : Hd (bs.length = len) := ⟨hn⟩
  have Hc : Hd (∀ j, j < len → w.cell? ⟨b, off + j, none⟩ = some (.int .u8 ((bs.getD j 0).toNat : Int))) := ⟨hc⟩
  have Hk : Hd (k < len) := ⟨hk⟩
  clear hn hc hk
  have a1 := fun w => as_uu w
  rewrite [setV_utf]
  go_enter Tryz.func101, Tryz.ntmps101
  go_wp2_with fail
  refine (implGetSign_any b off len cap bs (k : Int) _ Hn.out hlc (fun j hj => cell_below (Hc.out j hj) (below_lit _ _)) hl).mono ?_
  rintro e w1 ⟨⟨n, next, ok⟩, rfl, hG, hB⟩
  have HS : Hd (SignAt 0 (bs.drop k) k n next ok) := ⟨signAt_utf (by have := Hn.out; have := Hk.out; omega) hG⟩
  have HB : Hd (Below w.heap.size w w1) := ⟨Below.next (below_lit _ _) hB⟩
  clear hG hB Hc
  go_wp2_with fail
  go_ret3
  exact ⟨n, next, ok, rfl, HS.out, HB.out⟩

set_option maxHeartbeats 400000 in
theorem signAt_5 (b off len cap k : Nat) (bs : List UInt8) (w : World) (hn : bs.length = len) (hc : ∀ j, j < len → w.cell? ⟨b, off + j, none⟩ = some (.int .u8 ((bs.getD j 0).toNat : Int))) (hl : len ≤ 1073741824) (hk : k < len) (T : Hd (AllAt w)) :
    Calls Tryz.prog 101 #[setV 5, .slice (some ⟨b, off, none⟩) len cap, .int .i64 (k : Int)] w (SignOut w 5 (bs.drop k) k) := by
  have Hn : Hd (bs.length = len) := ⟨hn⟩
  have Hc : Hd (∀ j, j < len → w.cell? ⟨b, off + j, none⟩ = some (.int .u8 ((bs.getD j 0).toNat : Int))) := ⟨hc⟩
  have Hk : Hd (k < len) := ⟨hk⟩
  clear hn hc hk
  have a1 := fun w => as_eu w
  have a2 := fun w => as_eb w
  have a3 := fun w => as_ee w
  rewrite [setV_euc]
  go_enter Tryz.func101, Tryz.ntmps101
  go_wp2_with fail
  refine (implEucSign_any b off len cap bs (k : Int) _ Hn.out (fun j hj => cell_below (Hc.out j hj) (below_lit _ _)) hl ⟨T.out.pairs.below (below_lit _ _)⟩).mono ?_
  rintro e w1 ⟨rfl, hB⟩
  have HS : Hd (SignAt 5 (bs.drop k) k (eucAt bs (k : Int)).1 (eucAt bs (k : Int)).2.1 (eucAt bs (k : Int)).2.2) := ⟨signAt_euc (by have := Hn.out; have := Hk.out; omega)⟩
  have HB : Hd (Below w.heap.size w w1) := ⟨Below.next (below_lit _ _) hB⟩
  generalize (eucAt bs (k : Int)).1 = n at *
  generalize (eucAt bs (k : Int)).2.1 = next at *
  generalize (eucAt bs (k : Int)).2.2 = ok at *
  clear hB Hc
  go_wp2_with fail
  go_ret3
  exact ⟨n, next, ok, rfl, HS.out, HB.out⟩

set_option maxHeartbeats 400000 in
theorem signAt_b (cs : Int) (b off len cap k : Nat) (bs : List UInt8) (w : World) (h0 : cs ≠ 0) (h5 : cs ≠ 5) (hc : ∀ j, j < len → w.cell? ⟨b, off + j, none⟩ = some (.int .u8 ((bs.getD j 0).toNat : Int))) (hl : len ≤ 1073741824) (hk : k < len) (T : Hd (AllAt w)) :
    Calls Tryz.prog 101 #[setV cs, .slice (some ⟨b, off, none⟩) len cap, .int .i64 (k : Int)] w (SignOut w cs (bs.drop k) k) := by
  have c1 := hc k hk
  have hbl : b < w.heap.size := World.block_lt_of_cell? w _ c1
  have Hs : Hd (SignAt cs (bs.drop k) k (bsN cs ((bs.getD k 0).toNat : Int)) ((k : Int) + 1) (bsOk cs ((bs.getD k 0).toNat : Int))) := ⟨signAt_byte h0 h5⟩
  have hx : (bs.getD k 0).toNat < 256 := (bs.getD k 0).toNat_lt
  have hw0 := wrap64_in (n := ((bs.getD k 0).toNat : Int)) (by omega) (by omega)
  generalize (bs.getD k 0).toNat = x at *
  have a1 := fun w c => as_bu w c
  have a2 := fun w c => as_bb w c
  have hkI : (k : Int) < (len : Int) := by omega
  have hk0 : (0 : Int) ≤ (k : Int) := by omega
  have T1 : ∀ N, Hd (TabsAt ((w.alloc (.cells #[.int .i64 cs] 141)).drewN N)) := fun N => ⟨(T.out.tabs.below (below_lit _ _)).below (below_drewN' _ _ N)⟩
  have B1 : Hd (∀ N, Below w.heap.size w ((w.alloc (.cells #[.int .i64 cs] 141)).drewN N)) := ⟨fun N => Below.next (below_lit _ _) (below_drewN' _ _ N)⟩
  rewrite [setV_byte h0 h5]
  clear h0 h5 hc
  go_enter Tryz.func101, Tryz.ntmps101
  go_wp2_with fail
  go_quiet ((go_at_call 104; exact Calls.quiet_of_same (implByteSign_any _ _ _ (T1 _))))
  go_wp2_with fail
  go_ret3
  exact ⟨_, _, _, rfl, Hs.out, B1.out _⟩

/-- The sign at a place, in the program. -/
theorem implSignAt_any (cs : Int) (b off len cap k : Nat) (bs : List UInt8) (w : World) (hn : bs.length = len) (hlc : len ≤ cap) (hc : ∀ j, j < len → w.cell? ⟨b, off + j, none⟩ = some (.int .u8 ((bs.getD j 0).toNat : Int))) (hl : len ≤ 1073741824) (hk : k < len) (T : Hd (AllAt w)) :
    Calls Tryz.prog 101 #[setV cs, .slice (some ⟨b, off, none⟩) len cap, .int .i64 (k : Int)] w (SignOut w cs (bs.drop k) k) := by
  by_cases h0 : cs = 0
  · subst h0; exact signAt_0 b off len cap k bs w hn hlc hc hl hk
  by_cases h5 : cs = 5
  · subst h5; exact signAt_5 b off len cap k bs w hn hc hl hk T
  · exact signAt_b cs b off len cap k bs w h0 h5 hc hl hk T

/-- The bytes of a sign are answered, if it has some. -/
structure BytesOf (w : World) (cs n : Int) (e : Ending) (w' : World) : Prop where
  out : ∃ (v : Value), e = .returned (.tuple #[v, .bool (putOk cs n)]) ∧ (putOk cs n = true → ∃ g c, v = .slice (some ⟨g, 0, none⟩) (putB cs n).length c ∧ Own w' g c (putB cs n)) ∧ Below w.heap.size w w'

/-- The first bytes laid behind nil. -/
theorem nil_own (w : World) : w.ownsRow w.heap.size 5 1 (.slice none 0 0) 0 (([] : List UInt8).map cb) := ⟨rfl, .inl ⟨rfl, rfl⟩⟩

theorem own_lit (w : World) (y : UInt8) : Own (w.alloc (.cells #[cb y] 5)) w.heap.size 1 [y] := ⟨#[cb y], heap_alloc_new w _, by simp, by unfold maxLen; omega, rfl, by simp⟩
theorem size_alloc (w : World) (o : Obj) : (w.alloc o).heap.size = w.heap.size + 1 := by simp

/-- Signs lie in a row of numbers. -/
structure SignsLie (w : World) (lb L : Nat) (l : List Int) : Prop where
  size : l.length = L
  sg : ∀ n ∈ l, isSign n
  cell : ∀ j, j < L → w.cell? ⟨lb, 0 + j, none⟩ = some (.int .i64 (l.getD j 0))

/-- Where the loop of writeAll stands. -/
structure WAt (w : World) (cs : Int) (l : List Int) (k q c n lost : Nat) (wr : World) : Prop where
  out : ∃ bs : List UInt8, bs.length = n ∧ WriteAt cs l k bs lost ∧ w.heap.size ≤ q ∧ Own wr q c bs ∧ Below w.heap.size w wr
structure WriteOut (w : World) (cs : Int) (l : List Int) (e : Ending) (w' : World) : Prop where
  out : ∃ g c, e = .returned (.tuple #[.slice (some ⟨g, 0, none⟩) (writeB cs l).length c, .int .i64 (lostW cs l : Int)]) ∧ w.heap.size ≤ g ∧ Own w' g c (writeB cs l) ∧ Below w.heap.size w w'

theorem wAt_zero (w : World) (cs : Int) (l : List Int) (L : Nat) (hL : L ≤ maxLen) : WAt w cs l 0 w.heap.size L 0 0 (w.alloc (.cells (madeCells #[.int .u8 0] L) 5)) :=
  ⟨[], rfl, writeAt_zero cs l, Nat.le_refl _, ⟨madeCells #[.int .u8 0] L, heap_alloc_new w _, Nat.zero_le _, hL, by rw [← Array.length_toList, zeros_length], by simp⟩, below_lit _ _⟩
/-- A sign's bytes, or the mark, were appended. -/
theorem wAt_next {w wr wx w2 : World} {cs : Int} {l : List Int} {k q c n lost : Nat} {z : Int} {v : Value} {m : Nat} {ys : List UInt8} (h : WAt w cs l k q c n lost wr) (hk : k < l.length) (hz : l.getD k 0 = z)
    (hy : ys = oneW cs z) (hm : ys.length = m) (hx : Below wr.heap.size wr wx) (hown : w2.ownsRow w.heap.size 5 1 v (n + m) (((writeB cs (l.take k)) ++ ys).map cb)) (hgr : wx.grownBy w2 (some q)) (hne : v ≠ .slice none 0 0) :
    ∃ q' c', v = .slice (some ⟨q', 0, none⟩) (n + m) c' ∧ WAt w cs l (k + 1) q' c' (n + m) (lost + if putOk cs z = true then 0 else 1) w2 := by
  obtain ⟨bs, h1, h2, h3, h4, h5⟩ := h.out
  have hb : bs = writeB cs (l.take k) := h2.text
  obtain ⟨q', c', hv, hq, hO⟩ := own_row hown hne
  refine ⟨q', c', hv, _, ?_, writeAt_next h2 hk hz, hq, ?_, ?_⟩
  · rw [List.length_append, h1, ← hy, hm]
  · rw [hb, ← hy]; exact hO
  · exact (Below.next h5 hx).grown hgr (by have := h5.size; have := hx.size; omega) (fun i e => by simp at e; omega)

theorem WAt.fits {w : World} {cs : Int} {l : List Int} {k q c n lost : Nat} {wr : World} (h : WAt w cs l k q c n lost wr) : n ≤ 4 * k ∧ lost ≤ k ∧ k ≤ l.length ∧ q < wr.heap.size := by
  obtain ⟨bs, h1, h2, _, h4, _⟩ := h.out
  have := h2.size
  exact ⟨by omega, by omega, h2.le, h4.lt⟩
theorem WAt.bel {w : World} {cs : Int} {l : List Int} {k q c n lost : Nat} {wr : World} (h : WAt w cs l k q c n lost wr) : Below w.heap.size w wr := by
  obtain ⟨bs, _, _, _, _, h5⟩ := h.out; exact h5
theorem WAt.owns {w : World} {cs : Int} {l : List Int} {k q c n lost : Nat} {wr wx : World} (h : WAt w cs l k q c n lost wr) (hb : Below wr.heap.size wr wx) : wx.ownsRow w.heap.size 5 1 (.slice (some ⟨q, 0, none⟩) n c) n ((writeB cs (l.take k)).map cb) := by
  obtain ⟨bs, h1, h2, h3, h4, _⟩ := h.out
  have e : bs = writeB cs (l.take k) := h2.text
  rw [← e]
  exact (h4.below hb).owns h1 h3

theorem own_none (w : World) : Own (w.alloc (.cells #[] 5)) w.heap.size 0 [] := ⟨#[], heap_alloc_new w _, by simp, Nat.zero_le _, rfl, by simp⟩

/-- Bytes and a flag; bytes and a number; in new memory. -/
structure EncOut (w : World) (bs : List UInt8) (ok : Bool) (e : Ending) (w' : World) : Prop where
  out : ∃ g c, e = .returned (.tuple #[.slice (some ⟨g, 0, none⟩) bs.length c, .bool ok]) ∧ w.heap.size ≤ g ∧ Own w' g c bs ∧ Below w.heap.size w w'
structure EncLOut (w : World) (bs : List UInt8) (n : Nat) (e : Ending) (w' : World) : Prop where
  out : ∃ g c, e = .returned (.tuple #[.slice (some ⟨g, 0, none⟩) bs.length c, .int .i64 (n : Int)]) ∧ w.heap.size ≤ g ∧ Own w' g c bs ∧ Below w.heap.size w w'

theorem enc_out {cs : Int} {t : List UInt8} (h : encIn cs t = false) : encOk cs t = false ∧ encS cs t = [] ∧ encLS cs t = [] ∧ encLN cs t = 0 := by
  have h1 : encOk cs t = false := by unfold encOk; rw [h]; rfl
  exact ⟨h1, by unfold encS; rw [h1]; rfl, by unfold encLS; rw [h]; rfl, by unfold encLN; rw [h]; rfl⟩
theorem enc_no {cs : Int} {t : List UInt8} (hw : lostW cs (signsOf t) ≠ 0) : encOk cs t = false ∧ encS cs t = [] := by
  have h1 : encOk cs t = false := by unfold encOk; rw [decide_eq_false hw]; simp
  exact ⟨h1, by unfold encS; rw [h1]; rfl⟩
theorem enc_yes {cs : Int} {t : List UInt8} (h : encIn cs t = true) (hw : lostW cs (signsOf t) = 0) : encOk cs t = true ∧ encS cs t = writeB cs (signsOf t) := by
  have h1 : encOk cs t = true := by unfold encOk; rw [h, decide_eq_true hw]; rfl
  exact ⟨h1, by unfold encS; rw [if_pos h1]⟩
theorem enc_lin {cs : Int} {t : List UInt8} (h : encIn cs t = true) : encLS cs t = writeB cs (signsOf t) ∧ encLN cs t = lostW cs (signsOf t) :=
  ⟨if_pos h, if_pos h⟩
theorem encIn_t {cs : Int} {t : List UInt8} (hc : inB cs 0 5 = true) (h : lostI (itemsOf 0 t) = 0) : encIn cs t = true := by unfold encIn; rw [hc, decide_eq_true h]; rfl
theorem encIn_f {cs : Int} {t : List UInt8} (h : lostI (itemsOf 0 t) ≠ 0) : encIn cs t = false := by unfold encIn; rw [decide_eq_false h]; simp
theorem encIn_c {cs : Int} {t : List UInt8} (h : inB cs 0 5 = false) : encIn cs t = false := by unfold encIn; rw [h]; rfl
theorem size_list (s : ByteArray) : s.data.toList.length = s.size := by rw [Array.length_toList]; rfl

theorem signsOf_len (t : List UInt8) (h : lostI (itemsOf 0 t) = 0) : (signsOf t).length ≤ t.length := by
  obtain ⟨l, _, sg⟩ := items_signed h
  rw [signsOf_signed sg]
  exact signsAre_len (.inl ⟨rfl, sg⟩)
theorem encLS_len (cs : Int) (s : ByteArray) (hs : s.size ≤ 1048576) : (encLS cs s.data.toList).length ≤ 4194304 := by
  unfold encLS
  split
  · rename_i h
    simp only [encIn, Bool.and_eq_true, decide_eq_true_eq] at h
    have h1 := writeB_len cs (signsOf s.data.toList)
    have h2 := signsOf_len _ h.2
    rw [size_list] at h2
    omega
  · simp
theorem encS_len (cs : Int) (s : ByteArray) (hs : s.size ≤ 1048576) : (encS cs s.data.toList).length ≤ 4194304 := by
  cases h : encOk cs s.data.toList
  · unfold encS; rw [h]; simp
  · rw [← (enc_lossy h).2]; exact encLS_len cs s hs

/-- Where the loop of readAll stands. -/
structure RAt (w : World) (cs : Int) (bs : List UInt8) (k : Nat) (v : Value) (lost : Nat) (wr : World) : Prop where
  out : ∃ xs : List UInt8, ReadAt cs bs k xs lost ∧ wr.ownsRow w.heap.size 5 1 v xs.length (xs.map cb) ∧ Below w.heap.size w wr
theorem RAt.fits {w : World} {cs : Int} {bs : List UInt8} {k : Nat} {v : Value} {lost : Nat} {wr : World} (h : RAt w cs bs k v lost wr) : k ≤ bs.length ∧ lost ≤ k := by
  obtain ⟨xs, h1, _, _⟩ := h.out
  exact ⟨h1.le, h1.few⟩
theorem RAt.bel {w : World} {cs : Int} {bs : List UInt8} {k : Nat} {v : Value} {lost : Nat} {wr : World} (h : RAt w cs bs k v lost wr) : Below w.heap.size w wr := by
  obtain ⟨xs, _, _, h3⟩ := h.out; exact h3
theorem rAt_zero (w : World) (cs : Int) (bs : List UInt8) (L : Nat) (hL : L ≤ maxLen) : RAt w cs bs 0 (.slice (some ⟨w.heap.size, 0, none⟩) 0 L) 0 (w.alloc (.cells (madeCells #[.int .u8 0] L) 5)) := by
  refine ⟨[], readAt_zero cs bs, ?_, below_lit _ _⟩
  exact Own.owns (bs := []) ⟨madeCells #[.int .u8 0] L, heap_alloc_new w _, Nat.zero_le _, hL, by rw [← Array.length_toList, zeros_length], by simp⟩ rfl (Nat.le_refl _)

/-- A text and a number. -/
structure TextN (w : World) (bs : List UInt8) (n : Nat) (e : Ending) (w' : World) : Prop where
  out : e = .returned (.tuple #[.string ⟨bs.toArray⟩, .int .i64 (n : Int)]) ∧ Below w.heap.size w w'
structure TextB (w : World) (bs : List UInt8) (ok : Bool) (e : Ending) (w' : World) : Prop where
  out : e = .returned (.tuple #[.string ⟨bs.toArray⟩, .bool ok]) ∧ Below w.heap.size w w'

set_option maxHeartbeats 1000000 in
theorem readAll_any (cs : Int) (b off len cap : Nat) (bs : List UInt8) (w : World) (hn : bs.length = len) (hlc : len ≤ cap) (hc : ∀ j, j < len → w.cell? ⟨b, off + j, none⟩ = some (.int .u8 ((bs.getD j 0).toNat : Int))) (hl : len ≤ 1048576) (T : Hd (AllAt w)) :
    Calls Tryz.prog 100 #[setV cs, .slice (some ⟨b, off, none⟩) len cap] w (TextN w (textI (itemsOf cs bs)) (lostI (itemsOf cs bs))) := by
  obtain ⟨i0, hi, hz0, hz1, hz2⟩ := info_parts info8
  generalize hsv : setV cs = sv
  have HSV : Hd (setV cs = sv) := ⟨hsv⟩
  have Hn : Hd (bs.length = len) := ⟨hn⟩
  have Hc : Hd (∀ j, j < len → w.cell? ⟨b, off + j, none⟩ = some (.int .u8 ((bs.getD j 0).toNat : Int))) := ⟨hc⟩
  clear hsv hn hc
  go_enter Tryz.func100, Tryz.ntmps100
  go_wp2_with (at_make; refine wpList_make_both _ rfl _ _ 60 rfl 5 i0 (.int .u8 0) Tryz.underlying60 hi hz0 hz1 _ _ _ _ 0 len rfl rfl rfl ?C ?nm ?b2 ?b3 ?_)
  case C => rfl
  case nm => omega
  case b2 => rw [hz2]; omega
  case b3 => unfold maxLen; omega
  have W0 : Hd (RAt w cs bs 0 (.slice (some ⟨w.heap.size, 0, none⟩) 0 len) 0 (w.alloc (.cells (madeCells #[.int .u8 0] len) 5))) := ⟨rAt_zero w cs bs len (by unfold maxLen; omega)⟩
  go_wp2_with fail
  go_loopw [6, 7, 8] (fun v m i wr => ∃ (k lost : Nat), i = .int .i64 k ∧ m = .int .i64 lost ∧ Hd (RAt w cs bs k v lost wr)) (fun _ _ i _ => len - (intOf i).toNat)
  case atStart => exact ⟨0, 0, rfl, rfl, W0⟩
  case round =>
    clear W0
    obtain ⟨k, lost, rfl, rfl, R⟩ := hrel
    obtain ⟨f1, f2⟩ := R.out.fits
    rw [Hn.out] at f1
    by_cases hlt : k < len
    · have hkI : (k : Int) < (len : Int) := by omega
      go_wp2_with fail
      rewrite [← HSV.out]
      refine (implSignAt_any cs b off len cap k bs _ Hn.out hlc (fun j hj => cell_below (Hc.out j hj) R.out.bel) (by omega) hlt ⟨T.out.below R.out.bel⟩).mono ?_
      rintro e w1 ⟨n, next, ok, rfl, hS, hB⟩
      rewrite [HSV.out]
      have HB : Hd (Below wr.heap.size wr w1) := ⟨hB⟩
      have hk2 : k < bs.length := by rw [Hn.out]; exact hlt
      obtain ⟨xs, x1, x2, x3⟩ := R.out.out
      have hx4 : xs.length ≤ 4194304 := by have := x1.size; omega
      have X2 : Hd (w1.ownsRow w.heap.size 5 1 u6 xs.length (xs.map cb)) := ⟨by
        by_cases hv : u6 = .slice none 0 0
        · have := nil_len x2 rfl hv
          subst hv this
          exact ⟨rfl, .inl ⟨rfl, rfl⟩⟩
        · obtain ⟨q, c, rfl, hq, hO⟩ := own_row x2 hv
          exact (hO.below hB).owns rfl hq⟩
      have X3 : Hd (Below w.heap.size w w1) := ⟨Below.next x3 hB⟩
      have X1 : Hd (ReadAt cs bs k xs lost) := ⟨x1⟩
      cases ho : hdOk cs (bs.drop k) with
      | true =>
        obtain ⟨s1, s2⟩ := hS.yes ho
        obtain rfl : ok = true := hS.ok.trans ho
        subst s1 s2
        have hf := hd_fits (drop_ne hk2) ho
        have N1 := readAt_yes x1 hk2 ho
        have hp := hf.pos
        have hle := N1.le
        rw [Hn.out] at hle
        have NX : Hd (ReadAt cs bs (k + hdK cs (bs.drop k)) (xs ++ signB (hdN cs (bs.drop k))) lost) := ⟨N1⟩
        clear hS hf N1 x1 x2 x3 ho hB R
        generalize hdK cs (bs.drop k) = K at *
        generalize hdN cs (bs.drop k) = N at *
        go_wp2_with fail
        refine (addSign_any u6 xs xs.length N _ w.heap.size rfl X2.out X3.out.size (by omega)).mono ?_
        rintro e w2 ⟨v2, rfl, hO2, hG2, _⟩
        have R2 : Hd (RAt w cs bs (k + K) v2 lost w2) := ⟨⟨_, NX.out, hO2, X3.out.grown hG2 X3.out.size (fun i hi => own_block X2.out hi)⟩⟩
        clear hO2 hG2 X2 X3 X1
        go_wp2_with fail
        go_roundw
        case rel => exact ⟨k + K, lost, by go_num, rfl, R2⟩
        case measure => simp [intOf]; omega
      | false =>
        obtain rfl : ok = false := hS.ok.trans ho
        have N1 := readAt_no x1 hk2 ho
        have NX : Hd (ReadAt cs bs (k + 1) (xs ++ signB 65533) (lost + 1)) := ⟨N1⟩
        clear hS N1 x1 x2 x3 ho hB R
        go_wp2_with fail
        refine (addSign_any u6 xs xs.length 65533 _ w.heap.size rfl X2.out X3.out.size (by omega)).mono ?_
        rintro e w2 ⟨v2, rfl, hO2, hG2, _⟩
        have R2 : Hd (RAt w cs bs (k + 1) v2 (lost + 1) w2) := ⟨⟨_, NX.out, hO2, X3.out.grown hG2 X3.out.size (fun i hi => own_block X2.out hi)⟩⟩
        clear hO2 hG2 X2 X3 X1
        go_wp2_with fail
        go_roundw
        case rel => exact ⟨k + 1, lost + 1, by go_num, by go_num, R2⟩
        case measure => simp [intOf]; omega
    · have hkI : ¬ (k : Int) < (len : Int) := by omega
      obtain ⟨xs, x1, x2, x3⟩ := R.out.out
      obtain ⟨e1, e2⟩ := readAt_end x1 (by rw [Hn.out]; exact hlt)
      subst e1
      have hcv := conv_owned x2
      have X3 : Hd (Below w.heap.size w wr) := ⟨x3⟩
      have E2 : Hd ((lost : Int) = (lostI (itemsOf cs bs) : Int)) := ⟨by rw [e2]⟩
      obtain ⟨S, hS⟩ : ∃ S, (textI (itemsOf cs bs)).toArray = S := ⟨_, rfl⟩
      have HS : Hd ((textI (itemsOf cs bs)).toArray = S) := ⟨hS⟩
      rw [hS] at hcv
      clear x1 x2 x3 e2 R hS
      go_wp2_with fail
      go_ret2
      exact ⟨by rw [HS.out, ← E2.out]; rfl, X3.out⟩

theorem dec_out {cs : Int} {t : List UInt8} (h : inB cs 0 5 = false) : decOk cs t = false ∧ decS cs t = [] ∧ decLS cs t = [] ∧ decLN cs t = 0 := by
  have h1 : decOk cs t = false := by unfold decOk; rw [h]; rfl
  exact ⟨h1, by unfold decS; rw [h1]; rfl, by unfold decLS; rw [h]; rfl, by unfold decLN; rw [h]; rfl⟩
theorem dec_no {cs : Int} {t : List UInt8} (hw : lostI (itemsOf cs t) ≠ 0) : decOk cs t = false ∧ decS cs t = [] := by
  have h1 : decOk cs t = false := by unfold decOk; rw [decide_eq_false hw]; simp
  exact ⟨h1, by unfold decS; rw [h1]; rfl⟩
theorem dec_yes {cs : Int} {t : List UInt8} (h : inB cs 0 5 = true) (hw : lostI (itemsOf cs t) = 0) : decOk cs t = true ∧ decS cs t = textI (itemsOf cs t) := by
  have h1 : decOk cs t = true := by unfold decOk; rw [h, decide_eq_true hw]; rfl
  exact ⟨h1, by unfold decS; rw [if_pos h1]⟩
theorem dec_lin {cs : Int} {t : List UInt8} (h : inB cs 0 5 = true) : decLS cs t = textI (itemsOf cs t) ∧ decLN cs t = lostI (itemsOf cs t) := ⟨if_pos h, if_pos h⟩

set_option maxHeartbeats 400000 in
theorem implDecode_any (cs : Int) (b off len cap : Nat) (bs : List UInt8) (w : World) (hn : bs.length = len) (hlc : len ≤ cap) (hc : ∀ j, j < len → w.cell? ⟨b, off + j, none⟩ = some (.int .u8 ((bs.getD j 0).toNat : Int))) (hl : len ≤ 1048576) (T : Hd (AllAt w)) :
    Calls Tryz.prog 94 #[.int .i64 cs, .slice (some ⟨b, off, none⟩) len cap] w (TextB w (decS cs bs) (decOk cs bs)) := by
  have Hn : Hd (bs.length = len) := ⟨hn⟩
  have Hc : Hd (∀ j, j < len → w.cell? ⟨b, off + j, none⟩ = some (.int .u8 ((bs.getD j 0).toNat : Int))) := ⟨hc⟩
  clear hn hc
  cases hi : inB cs 0 5 with
  | false =>
    have hcs : ¬ (0 ≤ cs ∧ cs ≤ 5) := of_decide_eq_false hi
    obtain ⟨e1, e2, _, _⟩ := dec_out (t := bs) hi
    rw [e1, e2]
    clear e1 e2 hi
    go_enter Tryz.func94, Tryz.ntmps94
    go_wp2_with fail
    refine (setOf_no cs _ hcs).mono ?_
    rintro e w1 ⟨rfl, hw1⟩
    replace hw1 := hw1.symm
    subst hw1
    clear hcs
    go_wp2_with fail
    go_ret2
    exact ⟨rfl, Below.refl _ _⟩
  | true =>
    have hcs := in_cs hi
    have HI : Hd (inB cs 0 5 = true) := ⟨hi⟩
    clear hi
    go_enter Tryz.func94, Tryz.ntmps94
    go_wp2_with fail
    refine (setOf_yes cs _ hcs).mono ?_
    rintro e w1 ⟨rfl, hw1⟩
    replace hw1 := hw1.symm
    subst hw1
    generalize hsv : setV cs = sv
    have HSV : Hd (setV cs = sv) := ⟨hsv⟩
    clear hsv hcs
    go_wp2_with fail
    rewrite [← HSV.out]
    refine (readAll_any cs b off len cap bs _ Hn.out hlc Hc.out hl T).mono ?_
    rintro e w2 ⟨rfl, hB⟩
    have HB : Hd (Below w.heap.size w w2) := ⟨hB⟩
    clear hB
    by_cases hz : lostI (itemsOf cs bs) = 0
    · have Y : Hd (decOk cs bs = true ∧ decS cs bs = textI (itemsOf cs bs)) := ⟨dec_yes HI.out hz⟩
      rewrite [hz]
      clear hz
      generalize (textI (itemsOf cs bs)) = S at *
      go_wp2_with fail
      go_ret2
      exact ⟨by rw [Y.out.1, Y.out.2]; rfl, HB.out⟩
    · have Y : Hd (decOk cs bs = false ∧ decS cs bs = []) := ⟨dec_no hz⟩
      have hz1 : (0 : Int) < (lostI (itemsOf cs bs) : Int) := by omega
      generalize lostI (itemsOf cs bs) = m at *
      generalize (textI (itemsOf cs bs)) = S at *
      clear hz
      go_wp2_with fail
      go_ret2
      exact ⟨by rw [Y.out.1, Y.out.2]; rfl, HB.out⟩

set_option maxHeartbeats 400000 in
theorem l5Cs_any (cs : Int) (w : World) : Calls Tryz.prog 72 #[.int .i64 cs] w fun e w' => e = .returned (.bool (inB cs 0 5)) ∧ w' = w := by
  obtain ⟨ok, hok⟩ : ∃ ok, inB cs 0 5 = ok := ⟨_, rfl⟩
  have HK : Hd (inB cs 0 5 = ok) := ⟨hok⟩
  clear hok
  go_enter Tryz.func72, Tryz.ntmps72
  go_wp2_with fail
  refine (l1In_any cs 0 5 _).mono ?_
  rintro e w1 ⟨rfl, hw⟩
  replace hw := hw.symm
  subst hw
  rewrite [HK.out]
  go_wp2_with fail
  go_ret
  exact ⟨ret_bool HK.out.symm, rfl⟩

set_option maxHeartbeats 400000 in
theorem l5Get_0 (b off len cap k : Nat) (bs : List UInt8) (w : World) (hn : bs.length = len) (hlc : len ≤ cap) (hc : ∀ j, j < len → w.cell? ⟨b, off + j, none⟩ = some (.int .u8 ((bs.getD j 0).toNat : Int))) (hl : len ≤ 1073741824) (hk : k < len) :
    Calls Tryz.prog 81 #[.int .i64 0, .slice (some ⟨b, off, none⟩) len cap, .int .i64 (k : Int)] w (SignOut w 0 (bs.drop k) k) := by
  have Hn : Hd (bs.length = len) := ⟨hn⟩
  have Hc : Hd (∀ j, j < len → w.cell? ⟨b, off + j, none⟩ = some (.int .u8 ((bs.getD j 0).toNat : Int))) := ⟨hc⟩
  have Hk : Hd (k < len) := ⟨hk⟩
  clear hn hc hk
  go_enter Tryz.func81, Tryz.ntmps81
  go_wp2_with fail
  refine (specGetSign_any b off len cap bs (k : Int) _ Hn.out hlc Hc.out hl).mono ?_
  rintro e w1 ⟨⟨n, next, ok⟩, rfl, hG, hB⟩
  have HS : Hd (SignAt 0 (bs.drop k) k n next ok) := ⟨signAt_utf (by have := Hn.out; have := Hk.out; omega) hG⟩
  have HB : Hd (Below w.heap.size w w1) := ⟨hB⟩
  clear hG hB Hc
  go_wp2_with fail
  go_ret3
  exact ⟨n, next, ok, rfl, HS.out, HB.out⟩

set_option maxHeartbeats 400000 in
theorem l5Get_5 (b off len cap k : Nat) (bs : List UInt8) (w : World) (hn : bs.length = len) (hc : ∀ j, j < len → w.cell? ⟨b, off + j, none⟩ = some (.int .u8 ((bs.getD j 0).toNat : Int))) (hl : len ≤ 1073741824) (hk : k < len) :
    Calls Tryz.prog 81 #[.int .i64 5, .slice (some ⟨b, off, none⟩) len cap, .int .i64 (k : Int)] w (SignOut w 5 (bs.drop k) k) := by
  have Hn : Hd (bs.length = len) := ⟨hn⟩
  have Hc : Hd (∀ j, j < len → w.cell? ⟨b, off + j, none⟩ = some (.int .u8 ((bs.getD j 0).toNat : Int))) := ⟨hc⟩
  have Hk : Hd (k < len) := ⟨hk⟩
  clear hn hc hk
  go_enter Tryz.func81, Tryz.ntmps81
  go_wp2_with fail
  refine (specEucSign_any b off len cap bs (k : Int) _ Hn.out Hc.out hl).mono ?_
  rintro e w1 ⟨rfl, hB⟩
  have HS : Hd (SignAt 5 (bs.drop k) k (eucAt bs (k : Int)).1 (eucAt bs (k : Int)).2.1 (eucAt bs (k : Int)).2.2) := ⟨signAt_euc (by have := Hn.out; have := Hk.out; omega)⟩
  have HB : Hd (Below w.heap.size w w1) := ⟨hB⟩
  generalize (eucAt bs (k : Int)).1 = n at *
  generalize (eucAt bs (k : Int)).2.1 = next at *
  generalize (eucAt bs (k : Int)).2.2 = ok at *
  clear hB Hc
  go_wp2_with fail
  go_ret3
  exact ⟨n, next, ok, rfl, HS.out, HB.out⟩

set_option maxHeartbeats 400000 in
theorem l5Get_b (cs : Int) (b off len cap k : Nat) (bs : List UInt8) (w : World) (h0 : cs ≠ 0) (h5 : cs ≠ 5) (hc : ∀ j, j < len → w.cell? ⟨b, off + j, none⟩ = some (.int .u8 ((bs.getD j 0).toNat : Int))) (hl : len ≤ 1073741824) (hk : k < len) :
    Calls Tryz.prog 81 #[.int .i64 cs, .slice (some ⟨b, off, none⟩) len cap, .int .i64 (k : Int)] w (SignOut w cs (bs.drop k) k) := by
  have c1 := hc k hk
  have Hs : Hd (SignAt cs (bs.drop k) k (bsN cs ((bs.getD k 0).toNat : Int)) ((k : Int) + 1) (bsOk cs ((bs.getD k 0).toNat : Int))) := ⟨signAt_byte h0 h5⟩
  have hx : (bs.getD k 0).toNat < 256 := (bs.getD k 0).toNat_lt
  have hw0 := wrap64_in (n := ((bs.getD k 0).toNat : Int)) (by omega) (by omega)
  generalize (bs.getD k 0).toNat = x at *
  have hkI : (k : Int) < (len : Int) := by omega
  have e0 : (cs == 0) = false := by simpa using h0
  have e5 : (cs == 5) = false := by simpa using h5
  clear h0 h5 hc
  go_enter Tryz.func81, Tryz.ntmps81
  go_wp2_with fail
  refine (specByteSign_any cs (x : Int) _).mono ?_
  rintro e w1 ⟨rfl, hB⟩
  have HB : Hd (Below w.heap.size w w1) := ⟨hB⟩
  clear hB c1
  generalize bsN cs (x : Int) = n at *
  generalize bsOk cs (x : Int) = ok at *
  go_wp2_with fail
  go_ret3
  exact ⟨_, _, _, rfl, Hs.out, HB.out⟩

theorem specSignAt_any (cs : Int) (b off len cap k : Nat) (bs : List UInt8) (w : World) (hn : bs.length = len) (hlc : len ≤ cap) (hc : ∀ j, j < len → w.cell? ⟨b, off + j, none⟩ = some (.int .u8 ((bs.getD j 0).toNat : Int))) (hl : len ≤ 1073741824) (hk : k < len) :
    Calls Tryz.prog 81 #[.int .i64 cs, .slice (some ⟨b, off, none⟩) len cap, .int .i64 (k : Int)] w (SignOut w cs (bs.drop k) k) := by
  by_cases h0 : cs = 0
  · subst h0; exact l5Get_0 b off len cap k bs w hn hlc hc hl hk
  by_cases h5 : cs = 5
  · subst h5; exact l5Get_5 b off len cap k bs w hn hc hl hk
  · exact l5Get_b cs b off len cap k bs w h0 h5 hc hl hk

/-- Where the loops of the specification's Decode and DecodeLossy stand. -/
structure SAt (w : World) (cs : Int) (bs : List UInt8) (k q c n lost : Nat) (wr : World) : Prop where
  out : ∃ xs : List UInt8, xs.length = n ∧ ReadAt cs bs k xs lost ∧ w.heap.size ≤ q ∧ Own wr q c xs ∧ Below w.heap.size w wr
theorem SAt.fits {w : World} {cs : Int} {bs : List UInt8} {k q c n lost : Nat} {wr : World} (h : SAt w cs bs k q c n lost wr) : k ≤ bs.length ∧ lost ≤ k ∧ n ≤ 4 * k := by
  obtain ⟨xs, h0, h1, _, _, _⟩ := h.out
  exact ⟨h1.le, h1.few, by have := h1.size; omega⟩
theorem SAt.bel {w : World} {cs : Int} {bs : List UInt8} {k q c n lost : Nat} {wr : World} (h : SAt w cs bs k q c n lost wr) : Below w.heap.size w wr := by
  obtain ⟨xs, _, _, _, _, h5⟩ := h.out; exact h5
theorem sAt_zero (w : World) (cs : Int) (bs : List UInt8) : SAt w cs bs 0 w.heap.size 0 0 0 (w.alloc (.cells #[] 5)) :=
  ⟨[], rfl, readAt_zero cs bs, Nat.le_refl _, own_none w, below_lit _ _⟩

set_option maxHeartbeats 1000000 in
theorem specDecode_any (cs : Int) (b off len cap : Nat) (bs : List UInt8) (w : World) (hn : bs.length = len) (hlc : len ≤ cap) (hc : ∀ j, j < len → w.cell? ⟨b, off + j, none⟩ = some (.int .u8 ((bs.getD j 0).toNat : Int))) (hl : len ≤ 1048576) :
    Calls Tryz.prog 71 #[.int .i64 cs, .slice (some ⟨b, off, none⟩) len cap] w (TextB w (decS cs bs) (decOk cs bs)) := by
  have Hn : Hd (bs.length = len) := ⟨hn⟩
  have Hc : Hd (∀ j, j < len → w.cell? ⟨b, off + j, none⟩ = some (.int .u8 ((bs.getD j 0).toNat : Int))) := ⟨hc⟩
  clear hn hc
  cases hi : inB cs 0 5 with
  | false =>
    obtain ⟨e1, e2, _, _⟩ := dec_out (t := bs) hi
    rw [e1, e2]
    have HI : Hd (inB cs 0 5 = false) := ⟨hi⟩
    clear e1 e2 hi
    go_enter Tryz.func71, Tryz.ntmps71
    go_wp2_with fail
    refine (l5Cs_any cs _).mono ?_
    rintro e w1 ⟨rfl, hw1⟩
    replace hw1 := hw1.symm
    subst hw1
    rewrite [HI.out]
    go_wp2_with fail
    go_ret2
    exact ⟨rfl, below_lit _ _⟩
  | true =>
    have HI : Hd (inB cs 0 5 = true) := ⟨hi⟩
    have W0 : Hd (SAt w cs bs 0 w.heap.size 0 0 0 (w.alloc (.cells #[] 5))) := ⟨sAt_zero w cs bs⟩
    clear hi
    go_enter Tryz.func71, Tryz.ntmps71
    go_wp2_with fail
    refine (l5Cs_any cs _).mono ?_
    rintro e w1 ⟨rfl, hw1⟩
    replace hw1 := hw1.symm
    subst hw1
    rewrite [HI.out]
    go_wp2_with fail
    go_loopw [6, 7] (fun v i wr => ∃ (k q c n : Nat), i = .int .i64 k ∧ v = .slice (some ⟨q, 0, none⟩) n c ∧ Hd (SAt w cs bs k q c n 0 wr)) (fun _ i _ => len - (intOf i).toNat)
    case atStart => exact ⟨0, w.heap.size, 0, 0, rfl, rfl, W0⟩
    case round =>
      clear W0
      obtain ⟨k, q, c, n, rfl, rfl, R⟩ := hrel
      obtain ⟨f1, f2, f3⟩ := R.out.fits
      rw [Hn.out] at f1
      by_cases hlt : k < len
      · have hkI : (k : Int) < (len : Int) := by omega
        go_wp2_with fail
        refine (specSignAt_any cs b off len cap k bs _ Hn.out hlc (fun j hj => cell_below (Hc.out j hj) R.out.bel) (by omega) hlt).mono ?_
        rintro e w1 ⟨z, next, ok, rfl, hS, hB⟩
        have hk2 : k < bs.length := by rw [Hn.out]; exact hlt
        obtain ⟨xs, x0, x1, x2, x3, x4⟩ := R.out.out
        cases ho : hdOk cs (bs.drop k) with
        | true =>
          obtain ⟨s1, s2⟩ := hS.yes ho
          obtain rfl : ok = true := hS.ok.trans ho
          subst s1 s2
          have hf := hd_fits (drop_ne hk2) ho
          have N1 := readAt_yes x1 hk2 ho
          have hp := hf.pos
          have hle := N1.le
          rw [Hn.out] at hle
          have NX : Hd (ReadAt cs bs (k + hdK cs (bs.drop k)) (xs ++ signB (hdN cs (bs.drop k))) 0) := ⟨N1⟩
          have X0 : Hd (xs.length = n) := ⟨x0⟩
          have X2 : Hd (w.heap.size ≤ q) := ⟨x2⟩
          have X3 : Hd (Own w1 q c xs) := ⟨x3.below hB⟩
          have X4 : Hd (Below w.heap.size w w1) := ⟨Below.next x4 hB⟩
          clear hS hf N1 x0 x1 x2 x3 x4 ho hB R
          generalize hdK cs (bs.drop k) = K at *
          generalize hdN cs (bs.drop k) = N at *
          go_wp2_with fail
          refine (specPutSign_some q 0 n c xs N _ X0.out (X3.out.cell X0.out) X3.out.lt (by omega)).mono ?_
          rintro e w2 ⟨q2, c2, rfl, hq2, hO2, hB2⟩
          have R2 : Hd (SAt w cs bs (k + K) q2 c2 (xs ++ signB N).length 0 w2) := ⟨⟨_, rfl, NX.out, by have := X4.out.size; omega, hO2, Below.next X4.out hB2⟩⟩
          generalize (xs ++ signB N).length = n2 at *
          clear hO2 hq2 hB2 X2 X3 X4 X0
          go_wp2_with fail
          go_roundw
          case rel => exact ⟨k + K, q2, c2, n2, by go_num, rfl, R2⟩
          case measure => simp [intOf]; omega
        | false =>
          obtain rfl : ok = false := hS.ok.trans ho
          have Y : Hd (decOk cs bs = false ∧ decS cs bs = []) := ⟨dec_no (readAt_stuck x1 hk2 ho)⟩
          have X4 : Hd (Below w.heap.size w w1) := ⟨Below.next x4 hB⟩
          clear hS x0 x1 x2 x3 x4 ho hB R
          go_wp2_with fail
          go_ret2
          exact ⟨by rw [Y.out.1, Y.out.2]; rfl, X4.out⟩
      · have hkI : ¬ (k : Int) < (len : Int) := by omega
        obtain ⟨xs, x0, x1, x2, x3, x4⟩ := R.out.out
        obtain ⟨e1, e2⟩ := readAt_end x1 (by rw [Hn.out]; exact hlt)
        have Y : Hd (decOk cs bs = true ∧ decS cs bs = textI (itemsOf cs bs)) := ⟨dec_yes HI.out e2.symm⟩
        subst e1
        have hcv := conv_owned (x3.owns x0 (Nat.le_refl q))
        have X4 : Hd (Below w.heap.size w wr) := ⟨x4⟩
        obtain ⟨S, hS⟩ : ∃ S, (textI (itemsOf cs bs)).toArray = S := ⟨_, rfl⟩
        have HS : Hd ((textI (itemsOf cs bs)).toArray = S) := ⟨hS⟩
        rw [hS] at hcv
        clear x0 x1 x2 x3 x4 e2 R hS
        go_wp2_with fail
        go_ret2
        exact ⟨by rw [Y.out.1, Y.out.2, HS.out]; rfl, X4.out⟩

theorem put_euc (n : Int) : putB 5 n = eucB n ∧ putOk 5 n = eucOk n := by
  unfold putB putOk
  rw [if_neg (by omega), if_pos rfl, if_neg (by omega), if_pos rfl]
  exact ⟨rfl, rfl⟩
theorem put_byte {cs n : Int} (h0 : cs ≠ 0) (h5 : cs ≠ 5) : putB cs n = (if sbOk cs n = true then [bt (sbN cs n).toNat] else []) ∧ putOk cs n = sbOk cs n := by
  unfold putB putOk
  rw [if_neg h0, if_neg h5, if_neg h0, if_neg h5]
  exact ⟨rfl, rfl⟩

theorem wAt_one (w : World) (cs : Int) (l : List Int) : WAt w cs l 0 w.heap.size 0 0 0 (w.alloc (.cells #[] 5)) := ⟨[], rfl, writeAt_zero cs l, Nat.le_refl _, own_none w, below_lit _ _⟩
theorem WAt.below {w : World} {cs : Int} {l m : List Int} {q c : Nat} {wr wx : World} (h : WAt w cs l 0 q c 0 0 wr) (hb : Below wr.heap.size wr wx) : WAt w cs m 0 q c 0 0 wx := by
  obtain ⟨bs, h1, h2, h3, h4, h5⟩ := h.out
  exact ⟨bs, h1, ⟨Nat.zero_le _, h2.text, h2.miss⟩, h3, h4.below hb, Below.next h5 hb⟩
theorem wAt_put {w wr w2 : World} {cs : Int} {l : List Int} {k lost : Nat} {z : Int} {bs : List UInt8} {q' c' m : Nat} (hx : WriteAt cs l k bs lost) (h5 : Below w.heap.size w wr) (hk : k < l.length) (hz : l.getD k 0 = z) (ho : putOk cs z = true)
    (hO : Own w2 q' c' (bs ++ putB cs z)) (hm : (bs ++ putB cs z).length = m) (hq : wr.heap.size ≤ q') (hB : Below wr.heap.size wr w2) : WAt w cs l (k + 1) q' c' m lost w2 := by
  have hn := writeAt_next hx hk hz
  unfold oneW at hn
  rw [if_pos ho, if_pos ho, Nat.add_zero] at hn
  exact ⟨_, hm, hn, by have := h5.size; omega, hO, Below.next h5 hB⟩

theorem list_of (bs : List UInt8) : (⟨bs.toArray⟩ : ByteArray).data.toList = bs := rfl
theorem arr_of (s : ByteArray) : (⟨s.data.toList.toArray⟩ : ByteArray) = s := by
  obtain ⟨⟨l⟩⟩ := s
  rfl
theorem app_list (a b : ByteArray) : (a ++ b).data.toList = a.data.toList ++ b.data.toList := by
  rw [ByteArray.data_append, Array.toList_append]
theorem app_bytes (a b : List UInt8) : (⟨a.toArray⟩ : ByteArray) ++ (⟨b.toArray⟩ : ByteArray) = ⟨(a ++ b).toArray⟩ := by
  have h := app_list ⟨a.toArray⟩ ⟨b.toArray⟩
  rw [list_of, list_of] at h
  rw [← h, arr_of]
theorem size_of (bs : List UInt8) : (⟨bs.toArray⟩ : ByteArray).size = bs.length := by
  show bs.toArray.size = _
  rw [List.size_toArray]
theorem textI_len {cs : Int} : ∀ (k : Nat) (t : List UInt8), t.length ≤ k → (textI (itemsOf cs t)).length ≤ 4 * t.length
  | 0, t, hk => by
    obtain rfl : t = [] := List.eq_nil_of_length_eq_zero (by omega)
    rw [itemsOf_nil]; simp [textI]
  | k + 1, t, hk => by
    by_cases ht : t = []
    · subst ht; rw [itemsOf_nil]; simp [textI]
    · have hl := len_pos ht
      cases hh : hdOk cs t
      · have ih := textI_len (cs := cs) k (t.drop 1) (by simp; omega)
        have := signB_len (signI none)
        rw [itemsOf_no ht hh, textI_cons, List.length_append]
        rw [List.length_drop] at ih
        omega
      · have hf := hd_fits ht hh
        have hp := hf.pos
        have hle := hf.le
        have ih := textI_len (cs := cs) k (t.drop (hdK cs t)) (by simp; omega)
        have := signB_len (signI (some (hdN cs t)))
        rw [itemsOf_yes ht hh, textI_cons, List.length_append]
        rw [List.length_drop] at ih
        omega
theorem decS_len (cs : Int) (t : List UInt8) : (decS cs t).length ≤ 4 * t.length := by
  unfold decS
  split
  · exact textI_len t.length t (Nat.le_refl _)
  · simp
theorem decLS_len (cs : Int) (t : List UInt8) : (decLS cs t).length ≤ 4 * t.length := by
  unfold decLS
  split
  · exact textI_len t.length t (Nat.le_refl _)
  · simp

end Go.Proofs.YtlididoalekeoaaGreatDoor
