/- Plain facts on rows: what is right, what a row says, what is written in a phase, rows that are filled, cut and turned back. -/
import Derived.Test.YtpafjehphajbhaaGreatDoorCellP
import Derived.Test.YtpafjehphajbhaaGreatDoorName
namespace Go.Proofs.YtpafjehphajbhaaGreatDoor
set_option maxRecDepth 4000
open Go.RowKit

theorem and_case (h : Int) (m : Nat) (hm : m < 4611686018427387904) : bits .and .i64 h (m : Int) = ((((BitVec.ofInt 64 h).toNat &&& m : Nat)) : Int) := by
  have hx : (BitVec.ofInt 64 h).toNat &&& m < 2 ^ 62 := Nat.and_lt_two_pow _ (by omega)
  show IntKind.i64.wrap ((BitVec.ofInt 64 h &&& BitVec.ofInt 64 (m : Int)).toNat : Int) = _
  rw [BitVec.toNat_and, ofInt_u64 m (by omega), IntKind.wrap_i64]
  omega
/-- Whether there is an old one, a new one. -/
def oldB (h : Int) : Bool := bits .and .i64 h 1 == 1
def newB (h : Int) : Bool := bits .and .i64 h 2 == 2
theorem and_one (h : Int) : bits .and .i64 h 1 = 1 ∨ bits .and .i64 h 1 = 0 := by
  have e := and_case h 1 (by omega)
  have h2 : (BitVec.ofInt 64 h).toNat &&& 1 = (BitVec.ofInt 64 h).toNat % 2 := Nat.and_one_is_mod _
  rw [show ((1 : Nat) : Int) = 1 from rfl, h2] at e
  omega
theorem and_two (h : Int) : bits .and .i64 h 2 = 2 ∨ bits .and .i64 h 2 = 0 := by
  have e := and_case h 2 (by omega)
  rw [show ((2 : Nat) : Int) = 2 from rfl] at e
  have hb : (BitVec.ofInt 64 h).toNat &&& 2 ≤ 2 := Nat.and_le_right
  have h1 : ((BitVec.ofInt 64 h).toNat &&& 2) % 2 = 0 := by
    have := Nat.and_mod_two_pow (a := (BitVec.ofInt 64 h).toNat) (b := 2) (n := 1)
    simpa using this
  omega
theorem has_one : oldB 1 = true ∧ newB 1 = false := by constructor <;> kernel_rfl
theorem has_two : oldB 2 = false ∧ newB 2 = true := by constructor <;> kernel_rfl
theorem has_three : oldB 3 = true ∧ newB 3 = true := by constructor <;> kernel_rfl
theorem has_cases {h : Int} (hi : inB h 1 3 = true) : h = 1 ∨ h = 2 ∨ h = 3 := by have := of_decide_eq_true hi; omega

/-- A row. -/
structure RowD where
  key : ByteArray
  t1 : Int
  b1 : List UInt8
  t2 : Int
  b2 : List UInt8
  has : Int
  aside : Bool
def zeroRow : RowD := ⟨⟨#[]⟩, 0, [], 0, [], 0, false⟩
def noneB (t : Int) (n : Nat) : Bool := (t == 0) && ((n : Int) == 0)
def rOk (r : RowD) : Bool :=
  nameOkB r.key && inB r.has 1 3 && (oldB r.has || noneB r.t1 r.b1.length) && (newB r.has || noneB r.t2 r.b2.length) &&
  (!oldB r.has || (inB r.t1 1 5 && cOk r.t1 r.b1.length)) && (!newB r.has || ((r.t2 == 0) && tOk r.t2 r.b2)) &&
  (!oldB r.has || tOk r.t1 r.b1 || (r.aside && !newB r.has)) && (r.has != 3 || mOk r.t1 r.b1 r.t2 r.b2)
def rS (r : RowD) : List UInt8 := if newB r.has = true then tS r.t2 r.b2 else tS r.t1 r.b1
def rT (r : RowD) : Bool := if newB r.has = true then tOk r.t2 r.b2 else tOk r.t1 r.b1
/-- What is written in a phase; its code. -/
def oldRow (key : ByteArray) (cs : Int) (s : List UInt8) : RowD := ⟨key, cs, encS cs s, 0, [], 1, false⟩
def newRow (key : ByteArray) (s : List UInt8) (aside : Bool) : RowD := ⟨key, 0, [], 0, encS 0 s, 2, aside⟩
def bothRow (key : ByteArray) (cs : Int) (s : List UInt8) : RowD := ⟨key, cs, encS cs s, 0, encS 0 s, 3, false⟩
def formB (p : Int) (key : ByteArray) (cs : Int) (s : List UInt8) : Bool := inB p 0 7 && nameOkB key && inB cs 1 5 && oOk 0 s
def rowC (p : Int) (key : ByteArray) (cs : Int) (s : List UInt8) : Int :=
  if formB p key cs s = false then 1 else if (p = 0 ∨ p = 7) ∧ oOk cs s = false then 3 else 0
def rowV (p : Int) (key : ByteArray) (cs : Int) (s : List UInt8) : RowD :=
  if formB p key cs s = false then zeroRow
  else if p = 0 ∨ p = 7 then (if oOk cs s = true then oldRow key cs s else zeroRow)
  else if p = 4 ∨ p = 5 then newRow key s false
  else if p = 6 then (if oOk cs s = true then oldRow key cs s else newRow key s true)
  else if oOk cs s = true then bothRow key cs s else newRow key s true
def fillR (r : RowD) : RowD :=
  if rOk r = false ∨ newB r.has = true then r
  else if nOk r.t1 r.b1 0 = true then { r with t2 := 0, b2 := nB r.t1 r.b1 0, has := 3 } else { r with aside := true }
def cutR (r : RowD) : RowD :=
  if rOk r = false ∨ newB r.has = false then r else ⟨r.key, 0, [], r.t2, r.b2, 2, false⟩
def backR (r : RowD) : RowD :=
  if rOk r = false ∨ newB r.has = false then r
  else if oldB r.has = true then ⟨r.key, r.t1, r.b1, 0, [], 1, false⟩ else { r with aside := true }

theorem none_zero : noneB 0 0 = true := rfl
theorem mOk_parts {t1 t2 : Int} {b1 b2 : List UInt8} (h : mOk t1 b1 t2 b2 = true) : tOk t1 b1 = true ∧ tOk t2 b2 = true ∧ tS t1 b1 = tS t2 b2 := by
  simp only [mOk, Bool.and_eq_true, beq_iff_eq] at h
  exact ⟨h.1.1, h.1.2, h.2⟩
theorem mOk_of {t1 t2 : Int} {b1 b2 : List UInt8} (h1 : tOk t1 b1 = true) (h2 : tOk t2 b2 = true) (h3 : tS t1 b1 = tS t2 b2) : mOk t1 b1 t2 b2 = true := by
  simp only [mOk, Bool.and_eq_true, beq_iff_eq]
  exact ⟨⟨h1, h2⟩, h3⟩

/-- A row that is right, by what it has. -/
theorem rOk_old {key : ByteArray} {t1 : Int} {b1 : List UInt8} {aside : Bool} : rOk ⟨key, t1, b1, 0, [], 1, aside⟩ = (nameOkB key && (inB t1 1 5 && cOk t1 b1.length) && (tOk t1 b1 || aside)) := by
  simp [rOk, has_one, none_zero, in_t (x := 1) (lo := 1) (hi := 3) (by omega)]
theorem rOk_new {key : ByteArray} {b2 : List UInt8} {aside : Bool} : rOk ⟨key, 0, [], 0, b2, 2, aside⟩ = (nameOkB key && tOk 0 b2) := by
  simp [rOk, has_two, none_zero, in_t (x := 2) (lo := 1) (hi := 3) (by omega)]
theorem rOk_both {key : ByteArray} {t1 : Int} {b1 b2 : List UInt8} {aside : Bool} (h : mOk t1 b1 0 b2 = true) : rOk ⟨key, t1, b1, 0, b2, 3, aside⟩ = (nameOkB key && (inB t1 1 5 && cOk t1 b1.length)) := by
  obtain ⟨h1, h2, _⟩ := mOk_parts h
  simp [rOk, has_three, in_t (x := 3) (lo := 1) (hi := 3) (by omega), h, h1, h2]
theorem list_nil {n : Nat} {l : List UInt8} (h : noneB n l.length = true) : l = [] := by
  simp only [noneB, Bool.and_eq_true, beq_iff_eq] at h
  exact List.eq_nil_of_length_eq_zero (by omega)
theorem none_parts {t : Int} {l : List UInt8} (h : noneB t l.length = true) : t = 0 ∧ l = [] := by
  simp only [noneB, Bool.and_eq_true, beq_iff_eq] at h
  exact ⟨h.1, List.eq_nil_of_length_eq_zero (by omega)⟩
/-- What a right row is. -/
theorem rOk_is {r : RowD} (h : rOk r = true) : nameOkB r.key = true ∧
    ((∃ t1 b1 aside, r = ⟨r.key, t1, b1, 0, [], 1, aside⟩ ∧ (inB t1 1 5 && cOk t1 b1.length) = true ∧ (tOk t1 b1 || aside) = true) ∨
     (∃ b2 aside, r = ⟨r.key, 0, [], 0, b2, 2, aside⟩ ∧ tOk 0 b2 = true) ∨
     (∃ t1 b1 b2 aside, r = ⟨r.key, t1, b1, 0, b2, 3, aside⟩ ∧ (inB t1 1 5 && cOk t1 b1.length) = true ∧ mOk t1 b1 0 b2 = true)) := by
  obtain ⟨key, t1, b1, t2, b2, has, aside⟩ := r
  have h' := h
  simp only [rOk, Bool.and_eq_true] at h'
  obtain ⟨⟨⟨⟨⟨⟨⟨hk, hh⟩, ho⟩, hn⟩, ho2⟩, hn2⟩, ho3⟩, hm⟩ := h'
  refine ⟨hk, ?_⟩
  rcases has_cases hh with rfl | rfl | rfl
  · rw [has_one.2] at hn ho3
    rw [has_one.1] at ho2 ho3
    obtain ⟨rfl, rfl⟩ := none_parts (by simpa using hn)
    exact .inl ⟨t1, b1, aside, rfl, by simpa using ho2, by simpa using ho3⟩
  · rw [has_two.1] at ho
    rw [has_two.2] at hn2
    obtain ⟨rfl, rfl⟩ := none_parts (by simpa using ho)
    have hn3 : t2 = 0 ∧ tOk t2 b2 = true := by simpa using hn2
    obtain ⟨rfl, h5⟩ := hn3
    exact .inr (.inl ⟨b2, aside, rfl, h5⟩)
  · rw [has_three.1] at ho2
    rw [has_three.2] at hn2
    have hn3 : t2 = 0 ∧ tOk t2 b2 = true := by simpa using hn2
    obtain ⟨rfl, h5⟩ := hn3
    exact .inr (.inr ⟨t1, b1, b2, aside, rfl, by simpa using ho2, by simpa using hm⟩)

/-- What is written is right, and says what was written. -/
theorem wrote {p : Int} {key : ByteArray} {cs : Int} {s : List UInt8} (h : rowC p key cs s = 0) : rOk (rowV p key cs s) = true ∧ rS (rowV p key cs s) = s ∧ rT (rowV p key cs s) = true ∧ (rowV p key cs s).key = key := by
  have hf : formB p key cs s = true := by
    cases hf : formB p key cs s
    · unfold rowC at h; rw [hf] at h; simp at h
    · rfl
  have hf' := hf
  simp only [formB, Bool.and_eq_true] at hf'
  obtain ⟨⟨⟨_, hk⟩, hc⟩, hu⟩ := hf'
  obtain ⟨_, u1, u2⟩ := cell_back hu
  have hnew : ∀ a, rOk (newRow key s a) = true ∧ rS (newRow key s a) = s ∧ rT (newRow key s a) = true ∧ (newRow key s a).key = key := fun a =>
    ⟨by unfold newRow; rw [rOk_new, hk, u1]; rfl, by simp [rS, newRow, has_two, u2], by simp [rT, newRow, has_two, u1], rfl⟩
  have hold : oOk cs s = true → rOk (oldRow key cs s) = true ∧ rS (oldRow key cs s) = s ∧ rT (oldRow key cs s) = true ∧ (oldRow key cs s).key = key := fun ho => by
    obtain ⟨o1, o2, o3⟩ := cell_back ho
    exact ⟨by unfold oldRow; rw [rOk_old, hk, hc, o1, o2]; rfl, by simp [rS, oldRow, has_one, o3], by simp [rT, oldRow, has_one, o2], rfl⟩
  have hboth : oOk cs s = true → rOk (bothRow key cs s) = true ∧ rS (bothRow key cs s) = s ∧ rT (bothRow key cs s) = true ∧ (bothRow key cs s).key = key := fun ho => by
    obtain ⟨o1, o2, o3⟩ := cell_back ho
    exact ⟨by unfold bothRow; rw [rOk_both (mOk_of o2 u1 (o3.trans u2.symm)), hk, hc, o1]; rfl, by simp [rS, bothRow, has_three, u2], by simp [rT, bothRow, has_three, u1], rfl⟩
  unfold rowV
  rw [hf]
  simp only [Bool.true_eq_false, if_false]
  unfold rowC at h
  rw [hf] at h
  simp only [Bool.true_eq_false, if_false] at h
  by_cases h1 : p = 0 ∨ p = 7
  · rw [if_pos h1]
    cases ho : oOk cs s
    · rw [ho] at h; simp [h1] at h
    · exact hold ho
  · rw [if_neg h1]
    by_cases h2 : p = 4 ∨ p = 5
    · rw [if_pos h2]; exact hnew false
    · rw [if_neg h2]
      by_cases h3 : p = 6
      · rw [if_pos h3]
        cases ho : oOk cs s
        · exact hnew true
        · exact hold ho
      · rw [if_neg h3]
        cases ho : oOk cs s
        · exact hnew true
        · exact hboth ho

end Go.Proofs.YtpafjehphajbhaaGreatDoor
