/- Plain facts on sets: what stands at the head of bytes, all that they say, and the bytes of signs. -/
import Derived.Test.YtjbideiifoadkaaDoorGetSpec
import Derived.Test.YtjbideiifoadkaaDoorEuc
import Derived.Test.YtjbideiifoadkaaDoorPutEucP
import Derived.Test.YtjbideiifoadkaaDoorSetsB
namespace Go.Proofs.YtjbideiifoadkaaDoor
set_option maxRecDepth 4000
open Go.RowKit

theorem len_pos {t : List UInt8} (h : t ≠ []) : 0 < t.length := List.length_pos_iff.2 h
/-- Whether a sign of today stands at the head of t. -/
def gotB (t : List UInt8) : Bool := decide (headSize (gv t 0) ≤ t.length) && (signB (cand t : Int) == t.take (headSize (gv t 0)))
theorem gotB_t {t : List UInt8} (h : gotB t = true) : Got t (cand t : Int) ∧ (signB (cand t : Int)).length = headSize (gv t 0) := by
  simp only [gotB, Bool.and_eq_true, decide_eq_true_eq, beq_iff_eq] at h
  exact read_yes h.2 h.1
theorem gotB_f {t : List UInt8} (h : gotB t = false) : ¬ ∃ n, Got t n := by
  simp only [gotB, Bool.and_eq_false_iff, decide_eq_false_iff_not, beq_eq_false_iff_ne] at h
  rcases h with h | h
  · exact read_short (by omega)
  · exact read_no h
theorem gotB_of {t : List UInt8} {n : Int} (h : Got t n) : gotB t = true := by
  cases e : gotB t
  · exact absurd ⟨n, h⟩ (gotB_f e)
  · rfl

/-- The sign at the head of t in a set, how many bytes it takes, whether there is one. -/
def hdAt (cs : Int) (t : List UInt8) : Int × Nat × Bool :=
  if cs = 0 then (if gotB t = true then ((cand t : Int), headSize (gv t 0), true) else (0, 0, false))
  else if cs = 5 then (if gv t 0 < 128 then ((gv t 0 : Int), 1, true) else if 1 < t.length ∧ psOk (gv t 0 : Int) (gv t 1 : Int) = true then (psN (gv t 0 : Int) (gv t 1 : Int), 2, true) else (0, 0, false))
  else (bsN cs (gv t 0 : Int), 1, bsOk cs (gv t 0 : Int))
def hdN (cs : Int) (t : List UInt8) : Int := (hdAt cs t).1
def hdK (cs : Int) (t : List UInt8) : Nat := (hdAt cs t).2.1
def hdOk (cs : Int) (t : List UInt8) : Bool := (hdAt cs t).2.2

/-- The bytes of a sign in a set; whether it has some. -/
def putB (cs n : Int) : List UInt8 := if cs = 0 then signB n else if cs = 5 then eucB n else if sbOk cs n = true then [bt (sbN cs n).toNat] else []
def putOk (cs n : Int) : Bool := if cs = 0 then signOkB n else if cs = 5 then eucOk n else sbOk cs n

theorem hd_utf (t : List UInt8) : hdAt 0 t = if gotB t = true then ((cand t : Int), headSize (gv t 0), true) else (0, 0, false) := if_pos rfl
theorem hd_euc (t : List UInt8) : hdAt 5 t = if gv t 0 < 128 then ((gv t 0 : Int), 1, true) else if 1 < t.length ∧ psOk (gv t 0 : Int) (gv t 1 : Int) = true then (psN (gv t 0 : Int) (gv t 1 : Int), 2, true) else (0, 0, false) := by
  unfold hdAt; rw [if_neg (by omega), if_pos rfl]
theorem hd_byte {cs : Int} (h0 : cs ≠ 0) (h5 : cs ≠ 5) (t : List UInt8) : hdAt cs t = (bsN cs (gv t 0 : Int), 1, bsOk cs (gv t 0 : Int)) := by
  unfold hdAt; rw [if_neg h0, if_neg h5]
theorem hd_got {t : List UInt8} {n : Int} (h : Got t n) : hdAt 0 t = (n, (signB n).length, true) := by
  have e := gotB_of h
  rw [hd_utf, if_pos e, ← (got_cand h).1, (got_cand h).2]
theorem hd_ngot {t : List UInt8} (h : ¬ ∃ n, Got t n) : hdAt 0 t = (0, 0, false) := by
  rw [hd_utf, if_neg]
  intro e
  exact h ⟨_, (gotB_t e).1⟩

theorem bs_bound : ((List.range 6).all fun c => (List.range 256).all fun b => !bsOk (c : Int) (b : Int) || decide (0 ≤ bsN (c : Int) (b : Int) ∧ bsN (c : Int) (b : Int) < 55296)) = true := by kernel_rfl
theorem bs_sign {cs b : Int} (h : bsOk cs b = true) : isSign (bsN cs b) := by
  obtain ⟨h1, h2, h3, h4⟩ := ok_in h
  have h5 := List.all_eq_true.1 (List.all_eq_true.1 bs_bound cs.toNat (List.mem_range.2 (by omega))) b.toNat (List.mem_range.2 (by omega))
  rw [show ((cs.toNat : Nat) : Int) = cs from by omega, show ((b.toNat : Nat) : Int) = b from by omega, h] at h5
  simp at h5
  exact .inl h5
theorem look_told {cs n b : Int} : ∀ (k : Nat) (i : Int), look cs n k i = (b, true) → bsOk cs b = true ∧ bsN cs b = n
  | 0, i, h => by simp [look] at h
  | k + 1, i, h => by
    by_cases he : bsOk cs i = true ∧ bsN cs i = n
    · rw [look_yes he] at h
      simp at h
      subst h; exact he
    · rw [look_no he] at h
      exact look_told k (i + 1) h
theorem sb_told {cs n : Int} (h : sbOk cs n = true) : bsOk cs (sbN cs n) = true ∧ bsN cs (sbN cs n) = n :=
  look_told 256 0 (by show sbOf cs n = _; exact Prod.ext rfl h)

theorem gv_head (t : List UInt8) (ht : t ≠ []) : [bt (gv t 0)] = t.take 1 := by
  cases t with
  | nil => exact absurd rfl ht
  | cons a r => simp [gv, bt]
theorem gv_two (t : List UInt8) (ht : 1 < t.length) : [bt (gv t 0), bt (gv t 1)] = t.take 2 := by
  match t, ht with
  | a :: b :: r, _ => simp [gv, bt]

/-- What is read of a head: it fits, it is a sign, and has these bytes. -/
structure HdFits (cs : Int) (t : List UInt8) : Prop where
  pos : 1 ≤ hdK cs t
  le : hdK cs t ≤ t.length
  sg : isSign (hdN cs t)
  put : putB cs (hdN cs t) = t.take (hdK cs t)
  ok : putOk cs (hdN cs t) = true
theorem hd_fits {cs : Int} {t : List UInt8} (ht : t ≠ []) (h : hdOk cs t = true) : HdFits cs t := by
  have hl : 0 < t.length := len_pos ht
  unfold hdOk at h
  by_cases h0 : cs = 0
  · subst h0
    rw [hd_utf] at h
    by_cases hg : gotB t = true
    · obtain ⟨g1, g2⟩ := gotB_t hg
      have e : hdAt 0 t = ((cand t : Int), headSize (gv t 0), true) := by rw [hd_utf, if_pos hg]
      have hd1 : hdN 0 t = (cand t : Int) := by unfold hdN; rw [e]
      have hd2 : hdK 0 t = headSize (gv t 0) := by unfold hdK; rw [e]
      have hp := signB_pos g1.1
      have hle : (signB (cand t : Int)).length ≤ t.length := g1.2.length_le
      refine ⟨by rw [hd2]; omega, by rw [hd2, ← g2]; exact hle, by rw [hd1]; exact g1.1, ?_, ?_⟩
      · have e2 : putB 0 (cand t : Int) = signB (cand t : Int) := if_pos rfl
        rw [hd1, hd2, ← g2, e2]
        exact List.prefix_iff_eq_take.1 g1.2
      · have e2 : putOk 0 (cand t : Int) = signOkB (cand t : Int) := if_pos rfl
        rw [hd1, e2]; exact sign_t g1.1
    · rw [if_neg hg] at h; cases h
  by_cases h5 : cs = 5
  · subst h5
    rw [hd_euc] at h
    by_cases hg : gv t 0 < 128
    · have e : hdAt 5 t = ((gv t 0 : Int), 1, true) := by rw [hd_euc, if_pos hg]
      have hd1 : hdN 5 t = (gv t 0 : Int) := by unfold hdN; rw [e]
      have hd2 : hdK 5 t = 1 := by unfold hdK; rw [e]
      refine ⟨by omega, by omega, by rw [hd1]; exact .inl ⟨by omega, by omega⟩, ?_, ?_⟩
      · rw [hd1, hd2, ← gv_head t ht]; exact (eucB_one hg).1
      · rw [hd1]; exact (eucB_one hg).2
    · rw [if_neg hg] at h
      by_cases hp : 1 < t.length ∧ psOk (gv t 0 : Int) (gv t 1 : Int) = true
      · have e : hdAt 5 t = (psN (gv t 0 : Int) (gv t 1 : Int), 2, true) := by rw [hd_euc, if_neg hg, if_pos hp]
        have hd1 : hdN 5 t = psN (gv t 0 : Int) (gv t 1 : Int) := by unfold hdN; rw [e]
        have hd2 : hdK 5 t = 2 := by unfold hdK; rw [e]
        obtain ⟨b1, b2, _⟩ := ps_big hp.2
        obtain ⟨s1, s2, s3⟩ := sp_ps hp.2
        have e2 := eucB_two s3 s1 s2
        refine ⟨by omega, by omega, by rw [hd1]; exact .inl ⟨by omega, by omega⟩, ?_, ?_⟩
        · rw [hd1, hd2, ← gv_two t hp.1]; exact e2.1
        · rw [hd1]; exact e2.2
      · rw [if_neg hp] at h; cases h
  · have e := hd_byte h0 h5 t
    rw [e] at h
    have hd1 : hdN cs t = bsN cs (gv t 0 : Int) := by unfold hdN; rw [e]
    have hd2 : hdK cs t = 1 := by unfold hdK; rw [e]
    obtain ⟨s1, s2⟩ := sb_back h
    refine ⟨by omega, by omega, by rw [hd1]; exact bs_sign h, ?_, ?_⟩
    · rw [hd1, hd2, ← gv_head t ht]
      unfold putB
      rw [if_neg h0, if_neg h5, if_pos s2, s1, Int.toNat_natCast]
    · rw [hd1]; unfold putOk; rw [if_neg h0, if_neg h5, s2]

theorem gv_app {t u : List UInt8} {k : Nat} (h : k < t.length) : gv (t ++ u) k = gv t k := by
  simp [gv, List.getD, List.getElem?_append_left h]

/-- The bytes of a sign are read as that sign, whatever is behind them. -/
theorem hd_put {cs n : Int} (hc : 0 ≤ cs ∧ cs ≤ 5) (hs : isSign n) (h : putOk cs n = true) (t : List UInt8) : hdAt cs (putB cs n ++ t) = (n, (putB cs n).length, true) ∧ 1 ≤ (putB cs n).length := by
  by_cases h0 : cs = 0
  · subst h0
    have e : putB 0 n = signB n := if_pos rfl
    rw [e]
    exact ⟨hd_got ⟨hs, List.prefix_append _ _⟩, signB_pos hs⟩
  by_cases h5 : cs = 5
  · subst h5
    have e : putB 5 n = eucB n := by unfold putB; rw [if_neg (by omega), if_pos rfl]
    have e2 : putOk 5 n = eucOk n := by unfold putOk; rw [if_neg (by omega), if_pos rfl]
    rw [e2] at h
    rw [e]
    by_cases hn : 0 ≤ n ∧ n ≤ 127
    · obtain ⟨m, rfl⟩ := Int.eq_ofNat_of_zero_le hn.1
      have hm : m < 128 := by omega
      rw [(eucB_one hm).1]
      have g0 : gv ([bt m] ++ t) 0 = m := by simp [gv]; exact bt_val _ (by omega)
      rw [hd_euc, g0, if_pos hm]
      exact ⟨rfl, Nat.le_refl _⟩
    · have hsp : spOk n = true := by unfold eucOk at h; rw [if_neg hn] at h; exact h
      obtain ⟨i1, i2, i3, i4⟩ := sp_in n
      obtain ⟨a, ha⟩ := Int.eq_ofNat_of_zero_le i1
      obtain ⟨b, hb⟩ := Int.eq_ofNat_of_zero_le i3
      rw [(eucB_two hsp ha hb).1]
      have g0 : gv ([bt a, bt b] ++ t) 0 = a := by simp [gv]; exact bt_val _ (by omega)
      have g1 : gv ([bt a, bt b] ++ t) 1 = b := by simp [gv]; exact bt_val _ (by omega)
      have hps : psOk (a : Int) (b : Int) = true ∧ psN (a : Int) (b : Int) = n ∧ ¬ a < 128 := by
        rw [← ha, ← hb]
        unfold spOk at hsp
        by_cases c1 : 12353 ≤ n ∧ n ≤ 12435
        · obtain ⟨x1, x2, _⟩ := sp_one c1.1 c1.2
          have := ps_one (hi := spA n) (lo := spB n) x1 (by omega) (by omega)
          exact ⟨this.2, by rw [this.1]; omega, by omega⟩
        · rw [if_neg c1] at hsp
          by_cases c2 : 12449 ≤ n ∧ n ≤ 12534
          · obtain ⟨x1, x2, _⟩ := sp_two c2.1 c2.2
            have := ps_two (hi := spA n) (lo := spB n) x1 (by omega) (by omega)
            exact ⟨this.2, by rw [this.1]; omega, by omega⟩
          · rw [if_neg c2] at hsp; cases hsp
      rw [hd_euc, g0, g1, if_neg hps.2.2, if_pos ⟨by simp, hps.1⟩, hps.2.1]
      exact ⟨rfl, by simp⟩
  · have e2 : putOk cs n = sbOk cs n := by unfold putOk; rw [if_neg h0, if_neg h5]
    rw [e2] at h
    have e : putB cs n = [bt (sbN cs n).toNat] := by unfold putB; rw [if_neg h0, if_neg h5, if_pos h]
    obtain ⟨b1, b2⟩ := sb_told h
    obtain ⟨_, _, i3, i4⟩ := ok_in b1
    rw [e, hd_byte h0 h5]
    have g0 : gv ([bt (sbN cs n).toNat] ++ t) 0 = (sbN cs n).toNat := by simp [gv]; exact bt_val _ (by omega)
    rw [g0, show (((sbN cs n).toNat : Nat) : Int) = sbN cs n from by omega, b1, b2]
    exact ⟨rfl, Nat.le_refl _⟩

theorem hd_app {cs : Int} {t : List UInt8} (ht : t ≠ []) (h : hdOk cs t = true) (u : List UInt8) : hdAt cs (t ++ u) = hdAt cs t := by
  have hl : 0 < t.length := len_pos ht
  unfold hdOk at h
  by_cases h0 : cs = 0
  · subst h0
    by_cases hg : gotB t = true
    · obtain ⟨g1, _⟩ := gotB_t hg
      obtain ⟨r, hr⟩ := g1.2
      rw [hd_got g1, hd_got (t := t ++ u) ⟨g1.1, r ++ u, by rw [← List.append_assoc, hr]⟩]
    · rw [hd_utf, if_neg hg] at h; cases h
  by_cases h5 : cs = 5
  · subst h5
    rw [hd_euc] at h
    rw [hd_euc, hd_euc, gv_app hl]
    by_cases hg : gv t 0 < 128
    · rw [if_pos hg, if_pos hg]
    · rw [if_neg hg] at h
      by_cases hp : 1 < t.length ∧ psOk (gv t 0 : Int) (gv t 1 : Int) = true
      · rw [if_neg hg, if_neg hg, gv_app hp.1, if_pos hp, if_pos ⟨by rw [List.length_append]; omega, hp.2⟩]
      · rw [if_neg hp] at h; cases h
  · rw [hd_byte h0 h5, hd_byte h0 h5, gv_app hl]

/-- All that the bytes say, sign by sign; none: a byte at which no sign stands. -/
def items (cs : Int) : Nat → List UInt8 → List (Option Int)
  | 0, _ => []
  | f + 1, t => if t = [] then [] else if hdOk cs t = true then some (hdN cs t) :: items cs f (t.drop (hdK cs t)) else none :: items cs f (t.drop 1)
theorem items_nil (cs : Int) (f : Nat) : items cs f [] = [] := by cases f <;> simp [items]
theorem items_fuel (cs : Int) : ∀ (f g : Nat) (t : List UInt8), t.length ≤ f → t.length ≤ g → items cs f t = items cs g t
  | 0, g, t, hf, _ => by
    obtain rfl : t = [] := List.eq_nil_of_length_eq_zero (by omega)
    rw [items_nil, items_nil]
  | f + 1, 0, t, _, hg => by
    obtain rfl : t = [] := List.eq_nil_of_length_eq_zero (by omega)
    rw [items_nil, items_nil]
  | f + 1, g + 1, t, hf, hg => by
    unfold items
    by_cases ht : t = []
    · rw [if_pos ht, if_pos ht]
    · rw [if_neg ht, if_neg ht]
      have hl : 0 < t.length := len_pos ht
      by_cases h : hdOk cs t = true
      · have := (hd_fits ht h).pos
        rw [if_pos h, if_pos h, items_fuel cs f g (t.drop (hdK cs t)) (by simp; omega) (by simp; omega)]
      · rw [if_neg h, if_neg h, items_fuel cs f g (t.drop 1) (by simp; omega) (by simp; omega)]
def itemsOf (cs : Int) (t : List UInt8) : List (Option Int) := items cs t.length t
theorem itemsOf_nil (cs : Int) : itemsOf cs [] = [] := rfl
theorem itemsOf_yes {cs : Int} {t : List UInt8} (ht : t ≠ []) (h : hdOk cs t = true) : itemsOf cs t = some (hdN cs t) :: itemsOf cs (t.drop (hdK cs t)) := by
  have hp := (hd_fits ht h).pos
  have hl : 0 < t.length := len_pos ht
  unfold itemsOf
  obtain ⟨m, hm⟩ : ∃ m, t.length = m + 1 := ⟨t.length - 1, by omega⟩
  rw [hm, items, if_neg ht, if_pos h, items_fuel cs m (t.drop (hdK cs t)).length _ (by simp; omega) (Nat.le_refl _)]
theorem itemsOf_no {cs : Int} {t : List UInt8} (ht : t ≠ []) (h : hdOk cs t = false) : itemsOf cs t = none :: itemsOf cs (t.drop 1) := by
  have hl : 0 < t.length := len_pos ht
  unfold itemsOf
  obtain ⟨m, hm⟩ : ∃ m, t.length = m + 1 := ⟨t.length - 1, by omega⟩
  rw [hm, items, if_neg ht, if_neg (by rw [h]; simp), items_fuel cs m (t.drop 1).length _ (by simp; omega) (Nat.le_refl _)]

/-- The text of what was read, and how much of it was lost. -/
def signI (o : Option Int) : Int := o.getD 65533
def textI (l : List (Option Int)) : List UInt8 := l.flatMap fun o => signB (signI o)
def lostI (l : List (Option Int)) : Nat := (l.filter (·.isNone)).length
theorem textI_nil : textI [] = [] := rfl
theorem textI_cons (o : Option Int) (l : List (Option Int)) : textI (o :: l) = signB (signI o) ++ textI l := by simp [textI]
theorem textI_app (l m : List (Option Int)) : textI (l ++ m) = textI l ++ textI m := by simp [textI]
theorem lostI_some (n : Int) (l : List (Option Int)) : lostI (some n :: l) = lostI l := by simp [lostI]
theorem lostI_none (l : List (Option Int)) : lostI (none :: l) = lostI l + 1 := by simp [lostI]
theorem lostI_app (l m : List (Option Int)) : lostI (l ++ m) = lostI l + lostI m := by simp [lostI]
theorem lostI_map (ns : List Int) : lostI (ns.map some) = 0 := by
  induction ns with
  | nil => rfl
  | cons n r ih => rw [List.map_cons, lostI_some, ih]
theorem textI_map (ns : List Int) : textI (ns.map some) = ns.flatMap signB := by
  induction ns with
  | nil => rfl
  | cons n r ih => rw [List.map_cons, textI_cons, ih, List.flatMap_cons]; rfl

/-- Where nothing is lost: the signs, and these have the bytes. -/
theorem items_some (cs : Int) : ∀ (k : Nat) (t : List UInt8), t.length ≤ k → lostI (itemsOf cs t) = 0 → ∃ ns : List Int, itemsOf cs t = ns.map some ∧ (∀ n ∈ ns, isSign n ∧ putOk cs n = true) ∧ ns.flatMap (putB cs) = t
  | 0, t, hk, _ => by
    obtain rfl : t = [] := List.eq_nil_of_length_eq_zero (by omega)
    exact ⟨[], rfl, by simp, rfl⟩
  | k + 1, t, hk, h => by
    by_cases ht : t = []
    · subst ht; exact ⟨[], rfl, by simp, rfl⟩
    · cases ho : hdOk cs t
      · rw [itemsOf_no ht ho, lostI_none] at h; omega
      · have hf := hd_fits ht ho
        have hp := hf.pos
        rw [itemsOf_yes ht ho] at h ⊢
        rw [lostI_some] at h
        obtain ⟨ns, e1, e2, e3⟩ := items_some cs k (t.drop (hdK cs t)) (by simp; omega) h
        refine ⟨hdN cs t :: ns, by rw [e1]; rfl, ?_, ?_⟩
        · intro n hn
          rcases List.mem_cons.1 hn with rfl | hn
          · exact ⟨hf.sg, hf.ok⟩
          · exact e2 n hn
        · rw [List.flatMap_cons, e3, hf.put, List.take_append_drop]
theorem items_put {cs : Int} (hc : 0 ≤ cs ∧ cs ≤ 5) : ∀ ns : List Int, (∀ n ∈ ns, isSign n ∧ putOk cs n = true) → itemsOf cs (ns.flatMap (putB cs)) = ns.map some
  | [], _ => rfl
  | n :: r, h => by
    have hn := h n (by simp)
    obtain ⟨e, hp⟩ := hd_put hc hn.1 hn.2 (r.flatMap (putB cs))
    rw [List.flatMap_cons]
    have ht : putB cs n ++ r.flatMap (putB cs) ≠ [] := by intro e; have := (List.append_eq_nil_iff.1 e).1; rw [this] at hp; simp at hp
    rw [itemsOf_yes ht (by unfold hdOk; rw [e])]
    have e1 : hdN cs (putB cs n ++ r.flatMap (putB cs)) = n := by unfold hdN; rw [e]
    have e2 : hdK cs (putB cs n ++ r.flatMap (putB cs)) = (putB cs n).length := by unfold hdK; rw [e]
    rw [e1, e2, List.drop_left, items_put hc r (fun m hm => h m (by simp [hm]))]; rfl
theorem items_app (cs : Int) (b : List UInt8) : ∀ (k : Nat) (a : List UInt8), a.length ≤ k → lostI (itemsOf cs a) = 0 → itemsOf cs (a ++ b) = itemsOf cs a ++ itemsOf cs b
  | 0, a, hk, _ => by
    obtain rfl : a = [] := List.eq_nil_of_length_eq_zero (by omega)
    rfl
  | k + 1, a, hk, h => by
    by_cases ha : a = []
    · subst ha; rfl
    · cases ho : hdOk cs a
      · rw [itemsOf_no ha ho, lostI_none] at h; omega
      · have hf := hd_fits ha ho
        have hp := hf.pos
        have e := hd_app ha ho b
        have ho2 : hdOk cs (a ++ b) = true := by unfold hdOk; rw [e]; exact ho
        have e1 : hdN cs (a ++ b) = hdN cs a := by unfold hdN; rw [e]
        have e2 : hdK cs (a ++ b) = hdK cs a := by unfold hdK; rw [e]
        rw [itemsOf_yes ha ho, lostI_some] at h
        rw [itemsOf_yes ha ho, itemsOf_yes (by simp [ha]) ho2, e1, e2, List.drop_append_of_le_length hf.le, items_app cs b k (a.drop (hdK cs a)) (by simp; omega) h]
        rfl

theorem put_utf : putB 0 = signB := by funext n; exact if_pos rfl
theorem putOk_utf (n : Int) : putOk 0 n = signOkB n := if_pos rfl
theorem sign_sign {n : Int} (h : signOkB n = true) : isSign n := by
  have h2 : (0 ≤ n ∧ n < 55296) ∨ (57343 < n ∧ n < 1114112) := of_decide_eq_true h
  exact h2
/-- A text's signs, read as a set's. -/
theorem signed_items {t : List UInt8} {l : List Int} (h : Signed t l) : itemsOf 0 t = l.map some := by
  have := items_put (cs := 0) (by omega) l (fun n hn => ⟨h.1 n hn, by rw [putOk_utf]; exact sign_t (h.1 n hn)⟩)
  rw [put_utf, h.2] at this; exact this
theorem items_signed {t : List UInt8} (h : lostI (itemsOf 0 t) = 0) : ∃ l : List Int, itemsOf 0 t = l.map some ∧ Signed t l := by
  obtain ⟨ns, e1, e2, e3⟩ := items_some 0 t.length t (Nat.le_refl _) h
  rw [put_utf] at e3
  exact ⟨ns, e1, fun n hn => (e2 n hn).1, e3⟩
def signsOf (t : List UInt8) : List Int := (itemsOf 0 t).map signI
theorem signsOf_signed {t : List UInt8} {l : List Int} (h : Signed t l) : signsOf t = l := by
  unfold signsOf; rw [signed_items h]; simp [signI, Function.comp_def]
/-- What Signs answers, by the items. -/
theorem signsAre_items {t : List UInt8} {l : List Int} {ok : Bool} (h : SignsAre t l ok) : (ok = true ∧ Signed t l ∧ lostI (itemsOf 0 t) = 0 ∧ signsOf t = l) ∨ (ok = false ∧ l = [] ∧ lostI (itemsOf 0 t) ≠ 0) := by
  rcases h with ⟨rfl, h⟩ | ⟨rfl, rfl, h⟩
  · exact .inl ⟨rfl, h, by rw [signed_items h, lostI_map], signsOf_signed h⟩
  · refine .inr ⟨rfl, rfl, fun e => h ?_⟩
    obtain ⟨l, _, hl⟩ := items_signed e
    exact ⟨l, hl⟩

/-- The bytes of signs in a set, a question mark for each that has none; how many have none. -/
def oneW (cs n : Int) : List UInt8 := if putOk cs n = true then putB cs n else [63]
def writeB (cs : Int) (l : List Int) : List UInt8 := l.flatMap (oneW cs)
def lostW (cs : Int) (l : List Int) : Nat := (l.filter fun n => !putOk cs n).length
theorem lostW_app (cs : Int) (l m : List Int) : lostW cs (l ++ m) = lostW cs l + lostW cs m := by simp [lostW]
theorem writeB_app (cs : Int) (l m : List Int) : writeB cs (l ++ m) = writeB cs l ++ writeB cs m := by simp [writeB]
theorem lostW_one (cs n : Int) : lostW cs [n] = if putOk cs n = true then 0 else 1 := by
  cases h : putOk cs n <;> simp [lostW, h]
theorem writeB_one (cs n : Int) : writeB cs [n] = oneW cs n := by simp [writeB]
theorem put_len (cs n : Int) : (putB cs n).length ≤ 4 := by
  unfold putB
  split
  · exact signB_len n
  · split
    · have := eucB_len n; omega
    · split <;> simp
theorem oneW_len (cs n : Int) : (oneW cs n).length ≤ 4 := by
  unfold oneW
  split
  · exact put_len cs n
  · simp
theorem writeB_len (cs : Int) (l : List Int) : (writeB cs l).length ≤ 4 * l.length := by
  induction l with
  | nil => simp [writeB]
  | cons n r ih =>
    have := oneW_len cs n
    have e : writeB cs (n :: r) = oneW cs n ++ writeB cs r := by simp [writeB]
    rw [e, List.length_append, List.length_cons]; omega
theorem lostW_zero {cs : Int} {l : List Int} (h : lostW cs l = 0) : (∀ n ∈ l, putOk cs n = true) ∧ writeB cs l = l.flatMap (putB cs) := by
  have h1 : ∀ n ∈ l, putOk cs n = true := by
    intro n hn
    unfold lostW at h
    have := List.filter_eq_nil_iff.1 (List.eq_nil_of_length_eq_zero h) n hn
    simpa using this
  refine ⟨h1, ?_⟩
  clear h
  induction l with
  | nil => rfl
  | cons n r ih =>
    have := ih (fun m hm => h1 m (by simp [hm]))
    have hn := h1 n (by simp)
    simp only [writeB, List.flatMap_cons] at this ⊢
    rw [this]; unfold oneW; rw [if_pos hn]
theorem lostW_put {cs : Int} {l : List Int} (h : ∀ n ∈ l, putOk cs n = true) : lostW cs l = 0 := by
  unfold lostW
  rw [List.length_eq_zero_iff, List.filter_eq_nil_iff]
  intro n hn; rw [h n hn]; simp

/-- What Decode, Encode and their lossy kin answer. -/
def decOk (cs : Int) (t : List UInt8) : Bool := inB cs 0 5 && decide (lostI (itemsOf cs t) = 0)
def decS (cs : Int) (t : List UInt8) : List UInt8 := if decOk cs t = true then textI (itemsOf cs t) else []
def decLS (cs : Int) (t : List UInt8) : List UInt8 := if inB cs 0 5 = true then textI (itemsOf cs t) else []
def decLN (cs : Int) (t : List UInt8) : Nat := if inB cs 0 5 = true then lostI (itemsOf cs t) else 0
def encIn (cs : Int) (t : List UInt8) : Bool := inB cs 0 5 && decide (lostI (itemsOf 0 t) = 0)
def encOk (cs : Int) (t : List UInt8) : Bool := encIn cs t && decide (lostW cs (signsOf t) = 0)
def encS (cs : Int) (t : List UInt8) : List UInt8 := if encOk cs t = true then writeB cs (signsOf t) else []
def encLS (cs : Int) (t : List UInt8) : List UInt8 := if encIn cs t = true then writeB cs (signsOf t) else []
def encLN (cs : Int) (t : List UInt8) : Nat := if encIn cs t = true then lostW cs (signsOf t) else 0

theorem in_cs {cs : Int} (h : inB cs 0 5 = true) : 0 ≤ cs ∧ cs ≤ 5 := of_decide_eq_true h
/-- What is read is written as it was. -/
theorem dec_enc {cs : Int} {b : List UInt8} (h : decOk cs b = true) : encOk cs (decS cs b) = true ∧ encS cs (decS cs b) = b ∧ ∃ l, Signed (decS cs b) l := by
  have h' := h
  simp only [decOk, Bool.and_eq_true, decide_eq_true_eq] at h'
  obtain ⟨h1, h2⟩ := h'
  obtain ⟨ns, e1, e2, e3⟩ := items_some cs b.length b (Nat.le_refl _) h2
  have es : decS cs b = ns.flatMap signB := by unfold decS; rw [if_pos h, e1, textI_map]
  have sg : Signed (decS cs b) ns := ⟨fun n hn => (e2 n hn).1, es.symm⟩
  have so := signsOf_signed sg
  have li : lostI (itemsOf 0 (decS cs b)) = 0 := by rw [signed_items sg, lostI_map]
  have lw : lostW cs ns = 0 := lostW_put fun n hn => (e2 n hn).2
  have ok : encOk cs (decS cs b) = true := by
    simp only [encOk, encIn, Bool.and_eq_true, decide_eq_true_eq]
    exact ⟨⟨h1, li⟩, by rw [so]; exact lw⟩
  refine ⟨ok, ?_, ns, sg⟩
  unfold encS; rw [if_pos ok, so, (lostW_zero lw).2, e3]
/-- What is written is read as it was. -/
theorem enc_dec {cs : Int} {u : List UInt8} (h : encOk cs u = true) : decOk cs (encS cs u) = true ∧ decS cs (encS cs u) = u := by
  have h' := h
  simp only [encOk, encIn, Bool.and_eq_true, decide_eq_true_eq] at h'
  obtain ⟨⟨h1, h2⟩, h3⟩ := h'
  obtain ⟨l, e1, sg⟩ := items_signed h2
  have so := signsOf_signed sg
  rw [so] at h3
  obtain ⟨p1, p2⟩ := lostW_zero h3
  have es : encS cs u = l.flatMap (putB cs) := by unfold encS; rw [if_pos h, so, p2]
  have it : itemsOf cs (encS cs u) = l.map some := by rw [es]; exact items_put (in_cs h1) l (fun n hn => ⟨sg.1 n hn, p1 n hn⟩)
  have ok : decOk cs (encS cs u) = true := by
    simp only [decOk, Bool.and_eq_true, decide_eq_true_eq]
    exact ⟨h1, by rw [it, lostI_map]⟩
  refine ⟨ok, ?_⟩
  unfold decS; rw [if_pos ok, it, textI_map, sg.2]
/-- What is read with loss is a text. -/
theorem signI_sign {cs : Int} : ∀ (k : Nat) (t : List UInt8), t.length ≤ k → ∀ o ∈ itemsOf cs t, isSign (signI o)
  | 0, t, hk, o, ho => by
    obtain rfl : t = [] := List.eq_nil_of_length_eq_zero (by omega)
    rw [itemsOf_nil] at ho; cases ho
  | k + 1, t, hk, o, ho => by
    by_cases ht : t = []
    · subst ht; rw [itemsOf_nil] at ho; cases ho
    · have hl : 0 < t.length := len_pos ht
      cases hh : hdOk cs t
      · rw [itemsOf_no ht hh] at ho
        rcases List.mem_cons.1 ho with rfl | ho
        · exact .inr ⟨by decide, by decide⟩
        · exact signI_sign k (t.drop 1) (by simp; omega) o ho
      · have hf := hd_fits ht hh
        have hp := hf.pos
        rw [itemsOf_yes ht hh] at ho
        rcases List.mem_cons.1 ho with rfl | ho
        · exact hf.sg
        · exact signI_sign k (t.drop (hdK cs t)) (by simp; omega) o ho
theorem textI_signed (cs : Int) (t : List UInt8) : Signed (textI (itemsOf cs t)) ((itemsOf cs t).map signI) := by
  refine ⟨fun n hn => ?_, ?_⟩
  · obtain ⟨o, ho, rfl⟩ := List.mem_map.1 hn
    exact signI_sign t.length t (Nat.le_refl _) o ho
  · unfold textI; rw [List.flatMap_map]
theorem decLS_signed (cs : Int) (t : List UInt8) : ∃ l, Signed (decLS cs t) l := by
  unfold decLS
  split
  · exact ⟨_, textI_signed cs t⟩
  · exact ⟨[], signed_nil⟩
theorem dec_lossy {cs : Int} {t : List UInt8} (h : decOk cs t = true) : decLN cs t = 0 ∧ decLS cs t = decS cs t := by
  have h' := h
  simp only [decOk, Bool.and_eq_true, decide_eq_true_eq] at h'
  unfold decLN decLS decS
  rw [if_pos h'.1, if_pos h'.1, if_pos h]
  exact ⟨h'.2, rfl⟩
theorem dec_lost {cs : Int} {t : List UInt8} (h : decOk cs t = false) : 0 < decLN cs t ∨ decLS cs t = [] := by
  simp only [decOk, Bool.and_eq_false_iff, decide_eq_false_iff_not] at h
  unfold decLN decLS
  cases hi : inB cs 0 5
  · exact .inr (if_neg (by simp))
  · rcases h with h | h
    · rw [hi] at h; cases h
    · exact .inl (by rw [if_pos rfl]; omega)
theorem enc_lossy {cs : Int} {t : List UInt8} (h : encOk cs t = true) : encLN cs t = 0 ∧ encLS cs t = encS cs t := by
  have h' := h
  simp only [encOk, Bool.and_eq_true, decide_eq_true_eq] at h'
  unfold encLN encLS encS
  rw [if_pos h'.1, if_pos h'.1, if_pos h]
  exact ⟨h'.2, rfl⟩
/-- What both say is what is said by one behind the other. -/
theorem dec_joined {cs : Int} {a b : List UInt8} (h : decOk cs a = true) (k : decOk cs b = true) : decOk cs (a ++ b) = true ∧ decS cs (a ++ b) = decS cs a ++ decS cs b := by
  have h' := h
  have k' := k
  simp only [decOk, Bool.and_eq_true, decide_eq_true_eq] at h' k'
  have e := items_app cs b a.length a (Nat.le_refl _) h'.2
  have ok : decOk cs (a ++ b) = true := by
    simp only [decOk, Bool.and_eq_true, decide_eq_true_eq]
    exact ⟨h'.1, by rw [e, lostI_app]; omega⟩
  refine ⟨ok, ?_⟩
  unfold decS; rw [if_pos ok, if_pos h, if_pos k, e, textI_app]

/-- Signs of two parts: each part has its own, or the second begins with a byte that goes on. -/
theorem signed_split {b : List UInt8} : ∀ (k : List Int) (a : List UInt8), Signed (a ++ b) k → (∃ l, Signed a l) ∨ (128 ≤ gv b 0 ∧ gv b 0 < 192)
  | [], a, h => by
    obtain ⟨_, h2⟩ := h
    have : a ++ b = [] := h2.symm
    obtain ⟨rfl, _⟩ := List.append_eq_nil_iff.1 this
    exact .inl ⟨[], signed_nil⟩
  | n :: k, a, h => by
    obtain ⟨h1, h2⟩ := h
    rw [List.flatMap_cons] at h2
    have hs := h1 n (by simp)
    by_cases hl : (signB n).length ≤ a.length
    · obtain ⟨a', rfl⟩ : ∃ a', a = signB n ++ a' := by
        have : signB n <+: a ++ b := ⟨_, h2⟩
        obtain ⟨c, hc⟩ := (List.prefix_append_right_inj []).1 (by simpa using List.prefix_of_prefix_length_le this (List.prefix_append a b) hl)
        exact ⟨c, hc.symm⟩
      rw [List.append_assoc] at h2
      have h3 := List.append_cancel_left h2
      rcases signed_split k a' ⟨fun m hm => h1 m (by simp [hm]), h3⟩ with ⟨l, sl⟩ | hg
      · exact .inl ⟨n :: l, signed_cons hs sl⟩
      · exact .inr hg
    · by_cases ha : a = []
      · subst ha; exact .inl ⟨[], signed_nil⟩
      · have hla : 0 < a.length := len_pos ha
        have hg : Got (a ++ b) n := ⟨hs, _, h2⟩
        have e := (got_cand hg).2
        have hc := got_cont hg a.length (by omega) (by omega)
        have eg : gv (a ++ b) a.length = gv b 0 := by simp [gv, List.getD, List.getElem?_append_right]
        rw [eg] at hc
        exact .inr hc
theorem got_first {t : List UInt8} {n : Int} (h : Got t n) : ¬ (128 ≤ gv t 0 ∧ gv t 0 < 192) := by
  intro hc
  have h1 := got_len h
  unfold l2len headSize at h1
  rw [if_neg (by omega), if_neg (by omega), if_neg (by omega), if_neg (by omega), if_neg (by omega), if_neg (by omega), if_neg (by omega)] at h1
  cases h1
theorem signed_twice {t : List UInt8} {k : List Int} (h : Signed (t ++ t) k) : ∃ l, Signed t l := by
  by_cases ht : t = []
  · subst ht; exact ⟨[], signed_nil⟩
  · rcases signed_split k t h with hl | hg
    · exact hl
    · obtain ⟨n, _, _, g, _⟩ := signed_got h (by simp [ht])
      have := got_first g
      rw [gv_app (len_pos ht)] at this
      exact absurd hg this
theorem signed_both {t : List UInt8} {l : List Int} (h : Signed t l) : Signed (t ++ t) (l ++ l) :=
  ⟨fun n hn => by rcases List.mem_append.1 hn with hn | hn <;> exact h.1 n hn, by rw [List.flatMap_append, h.2]⟩
theorem enc_twice (cs : Int) (t : List UInt8) : encOk cs (t ++ t) = encOk cs t ∧ (encOk cs t = true → encS cs (t ++ t) = encS cs t ++ encS cs t) := by
  by_cases h0 : lostI (itemsOf 0 t) = 0
  · obtain ⟨l, e, sg⟩ := items_signed h0
    have s2 := signed_both sg
    have o1 := signsOf_signed sg
    have o2 := signsOf_signed s2
    have l2 : lostI (itemsOf 0 (t ++ t)) = 0 := by rw [signed_items s2, lostI_map]
    have ek : encOk cs (t ++ t) = encOk cs t := by
      unfold encOk encIn
      rw [o1, o2, lostW_app, h0, l2]
      congr 1
      by_cases hw : lostW cs l = 0
      · rw [hw]
      · rw [decide_eq_false hw, decide_eq_false (by omega)]
    refine ⟨ek, fun h => ?_⟩
    unfold encS
    rw [if_pos (by rw [ek]; exact h), if_pos h, o1, o2, writeB_app]
  · have h2 : lostI (itemsOf 0 (t ++ t)) ≠ 0 := by
      intro e
      obtain ⟨k, _, sg⟩ := items_signed e
      obtain ⟨l, sl⟩ := signed_twice sg
      exact h0 (by rw [signed_items sl, lostI_map])
    have e1 : encOk cs t = false := by unfold encOk encIn; rw [decide_eq_false h0]; simp
    have e2 : encOk cs (t ++ t) = false := by unfold encOk encIn; rw [decide_eq_false h2]; simp
    rw [e1, e2]
    exact ⟨rfl, fun h => by cases h⟩

/-- How far reading has come: what is written so far and what is still to be written make the whole. -/
structure ReadAt (cs : Int) (bs : List UInt8) (k : Nat) (out : List UInt8) (lost : Nat) : Prop where
  le : k ≤ bs.length
  text : out ++ textI (itemsOf cs (bs.drop k)) = textI (itemsOf cs bs)
  miss : lost + lostI (itemsOf cs (bs.drop k)) = lostI (itemsOf cs bs)
  size : out.length ≤ 4 * k
  few : lost ≤ k
theorem readAt_zero (cs : Int) (bs : List UInt8) : ReadAt cs bs 0 [] 0 := ⟨Nat.zero_le _, rfl, by simp, Nat.zero_le _, Nat.le_refl _⟩
theorem drop_ne {bs : List UInt8} {k : Nat} (h : k < bs.length) : bs.drop k ≠ [] := by
  intro e; have := congrArg List.length e; simp at this; omega
theorem readAt_yes {cs : Int} {bs : List UInt8} {k : Nat} {out : List UInt8} {lost : Nat} (h : ReadAt cs bs k out lost) (hk : k < bs.length) (ho : hdOk cs (bs.drop k) = true) :
    ReadAt cs bs (k + hdK cs (bs.drop k)) (out ++ signB (hdN cs (bs.drop k))) lost := by
  have hn := drop_ne hk
  have hf := hd_fits hn ho
  have hp := hf.pos
  have hl := hf.le
  have ht := h.text
  have hz := h.miss
  rw [itemsOf_yes hn ho, List.drop_drop] at ht hz
  rw [textI_cons, ← List.append_assoc] at ht
  rw [lostI_some] at hz
  have h4 := signB_len (hdN cs (bs.drop k))
  have hs := h.size
  have hfw := h.few
  simp at hl
  exact ⟨by omega, ht, hz, by rw [List.length_append]; omega, by omega⟩
theorem readAt_no {cs : Int} {bs : List UInt8} {k : Nat} {out : List UInt8} {lost : Nat} (h : ReadAt cs bs k out lost) (hk : k < bs.length) (ho : hdOk cs (bs.drop k) = false) :
    ReadAt cs bs (k + 1) (out ++ signB 65533) (lost + 1) := by
  have hn := drop_ne hk
  have ht := h.text
  have hz := h.miss
  rw [itemsOf_no hn ho, List.drop_drop] at ht hz
  rw [textI_cons, ← List.append_assoc] at ht
  rw [lostI_none] at hz
  have h4 := signB_len 65533
  have hs := h.size
  have hfw := h.few
  exact ⟨by omega, ht, by omega, by rw [List.length_append]; omega, by omega⟩
theorem readAt_end {cs : Int} {bs : List UInt8} {k : Nat} {out : List UInt8} {lost : Nat} (h : ReadAt cs bs k out lost) (hk : ¬ k < bs.length) : out = textI (itemsOf cs bs) ∧ lost = lostI (itemsOf cs bs) := by
  have e : bs.drop k = [] := List.drop_eq_nil_of_le (by omega)
  have ht := h.text
  have hz := h.miss
  rw [e, itemsOf_nil] at ht hz
  exact ⟨by simpa [textI] using ht, by simpa [lostI] using hz⟩
theorem readAt_stuck {cs : Int} {bs : List UInt8} {k : Nat} {out : List UInt8} (h : ReadAt cs bs k out 0) (hk : k < bs.length) (ho : hdOk cs (bs.drop k) = false) : lostI (itemsOf cs bs) ≠ 0 := by
  have := (readAt_no h hk ho).miss
  omega

/-- What is answered of the sign at a place. -/
structure SignAt (cs : Int) (t : List UInt8) (k : Nat) (n next : Int) (ok : Bool) : Prop where
  ok : ok = hdOk cs t
  yes : hdOk cs t = true → n = hdN cs t ∧ next = (k : Int) + (hdK cs t : Int)
theorem gv_drop (bs : List UInt8) (k j : Nat) : gv (bs.drop k) j = (bs.getD (k + j) 0).toNat := by simp [gv, List.getD]
theorem signAt_utf {bs : List UInt8} {k : Nat} {r : Int × Int × Bool} (hk : k < bs.length) (h : GotAt bs (k : Int) r) : SignAt 0 (bs.drop k) k r.1 r.2.1 r.2.2 := by
  rcases h with ⟨h1, _, _, h4, h5⟩ | ⟨rfl, h⟩
  · rw [Int.toNat_natCast] at h4
    have e := hd_got h4
    have o : hdOk 0 (bs.drop k) = true := by unfold hdOk; rw [e]
    refine ⟨by rw [h1, o], fun _ => ⟨by unfold hdN; rw [e], by unfold hdK; rw [e, h5]⟩⟩
  · have hn : ¬ ∃ n, Got (bs.drop k) n := fun hg => h ⟨by omega, by omega, by rw [Int.toNat_natCast]; exact hg⟩
    have o : hdOk 0 (bs.drop k) = false := by unfold hdOk; rw [hd_ngot hn]
    exact ⟨o.symm, fun h => by rw [o] at h; cases h⟩
theorem signAt_euc {bs : List UInt8} {k : Nat} (hk : k < bs.length) : SignAt 5 (bs.drop k) k (eucAt bs (k : Int)).1 (eucAt bs (k : Int)).2.1 (eucAt bs (k : Int)).2.2 := by
  have g0 := gv_drop bs k 0
  have g1 := gv_drop bs k 1
  rw [Nat.add_zero] at g0
  have e := hd_euc (bs.drop k)
  by_cases h1 : gv (bs.drop k) 0 < 128
  · rw [if_pos h1] at e
    rw [euc_one hk g0.symm h1]
    have o : hdOk 5 (bs.drop k) = true := by unfold hdOk; rw [e]
    exact ⟨o.symm, fun _ => ⟨by unfold hdN; rw [e], by unfold hdK; rw [e]; rfl⟩⟩
  · rw [if_neg h1] at e
    by_cases h2 : 1 < (bs.drop k).length ∧ psOk (gv (bs.drop k) 0 : Int) (gv (bs.drop k) 1 : Int) = true
    · rw [if_pos h2] at e
      have hl := h2.1
      simp at hl
      rw [euc_yes (by omega) g0.symm g1.symm (by omega) h2.2]
      have o : hdOk 5 (bs.drop k) = true := by unfold hdOk; rw [e]
      exact ⟨o.symm, fun _ => ⟨by unfold hdN; rw [e], by unfold hdK; rw [e]; rfl⟩⟩
    · rw [if_neg h2] at e
      have o : hdOk 5 (bs.drop k) = false := by unfold hdOk; rw [e]
      have ee : eucAt bs (k : Int) = (0, 0, false) := by
        by_cases hl : k + 1 < bs.length
        · refine euc_no hl g0.symm g1.symm (by omega) ?_
          cases hp : psOk (gv (bs.drop k) 0 : Int) (gv (bs.drop k) 1 : Int)
          · rfl
          · exact absurd ⟨by simp; omega, hp⟩ h2
        · exact euc_last (by omega) g0.symm (by omega)
      rw [ee]
      exact ⟨o.symm, fun h => by rw [o] at h; cases h⟩
theorem signAt_byte {cs : Int} {bs : List UInt8} {k : Nat} (h0 : cs ≠ 0) (h5 : cs ≠ 5) : SignAt cs (bs.drop k) k (bsN cs ((bs.getD k 0).toNat : Int)) ((k : Int) + 1) (bsOk cs ((bs.getD k 0).toNat : Int)) := by
  have g0 := gv_drop bs k 0
  rw [Nat.add_zero] at g0
  have e := hd_byte h0 h5 (bs.drop k)
  rw [g0] at e
  exact ⟨by unfold hdOk; rw [e], fun _ => ⟨by unfold hdN; rw [e], by unfold hdK; rw [e]; rfl⟩⟩

/-- How far writing has come. -/
structure WriteAt (cs : Int) (l : List Int) (k : Nat) (out : List UInt8) (lost : Nat) : Prop where
  le : k ≤ l.length
  text : out = writeB cs (l.take k)
  miss : lost = lostW cs (l.take k)
theorem writeAt_zero (cs : Int) (l : List Int) : WriteAt cs l 0 [] 0 := ⟨Nat.zero_le _, rfl, rfl⟩
theorem WriteAt.size {cs : Int} {l : List Int} {k : Nat} {out : List UInt8} {lost : Nat} (h : WriteAt cs l k out lost) : out.length ≤ 4 * k ∧ lost ≤ k := by
  have h1 := writeB_len cs (l.take k)
  have h2 : (l.take k).length ≤ k := List.length_take_le _ _
  have h3 : lostW cs (l.take k) ≤ (l.take k).length := List.length_filter_le _ _
  rw [h.text, h.miss]; omega
theorem writeAt_next {cs : Int} {l : List Int} {k : Nat} {out : List UInt8} {lost : Nat} (h : WriteAt cs l k out lost) (hk : k < l.length) {n : Int} (hn : l.getD k 0 = n) :
    WriteAt cs l (k + 1) (out ++ oneW cs n) (lost + if putOk cs n = true then 0 else 1) := by
  have e : l.take (k + 1) = l.take k ++ [n] := by
    rw [List.take_succ_eq_append_getElem hk]
    simp [List.getD, List.getElem?_eq_getElem hk] at hn
    rw [hn]
  exact ⟨by omega, by rw [e, writeB_app, writeB_one, h.text], by rw [e, lostW_app, lostW_one, h.miss]⟩
theorem writeAt_end {cs : Int} {l : List Int} {k : Nat} {out : List UInt8} {lost : Nat} (h : WriteAt cs l k out lost) (hk : ¬ k < l.length) : out = writeB cs l ∧ lost = lostW cs l := by
  have e : l.take k = l := List.take_of_length_le (by omega)
  have h1 := h.text
  have h2 := h.miss
  rw [e] at h1 h2
  exact ⟨h1, h2⟩
theorem writeAt_stuck {cs : Int} {l : List Int} {k : Nat} {out : List UInt8} {lost : Nat} (h : WriteAt cs l k out lost) (hk : k < l.length) {n : Int} (hn : l.getD k 0 = n) (ho : putOk cs n = false) : lostW cs l ≠ 0 := by
  have h1 := (writeAt_next h hk hn).miss
  rw [ho] at h1
  have e : l = l.take (k + 1) ++ l.drop (k + 1) := (List.take_append_drop _ _).symm
  rw [e, lostW_app]
  simp at h1
  omega

end Go.Proofs.YtjbideiifoadkaaDoor
