/- Parts of the proof, one behind the other. -/
import Derived.Test.YtlididoalekeoaaGreatDoorMxStoreOk12
import Derived.Test.YtlididoalekeoaaGreatDoorMxStoreOk10
import Derived.Test.YtlididoalekeoaaGreatDoorMxStoreOk17
import Derived.Test.YtlididoalekeoaaGreatDoorMxStoreOk2
import Derived.Deep.RegionHeld3
/- Parts of the proof, one behind the other. -/
/- Plain facts on rows: what is right, what a row says, what is written in a phase, rows that are filled, cut and turned back. Contracts of what the laws do with a row: its size, a copy of it, whether two are alike, and the marks of its memory. Contracts of l9Old, l9New, l9None and RowText, in the specification. Contracts of l9Copy and RowOk, in the specification; rows as answers. The bytes of a cell, nil ones too, as a text. -/
namespace Go.Proofs.YtlididoalekeoaaGreatDoor
set_option maxRecDepth 4000
open Go.RowKit

theorem and_case (h : Int) (m : Nat) (hm : m < 4611686018427387904) : bits .and .i64 h (m : Int) = ((((BitVec.ofInt 64 h).toNat &&& m : Nat)) : Int) := by
  have hx : (BitVec.ofInt 64 h).toNat &&& m < 2 ^ 62 := Nat.and_lt_two_pow _ (by omega)
  show IntKind.i64.wrap ((BitVec.ofInt 64 h &&& BitVec.ofInt 64 (m : Int)).toNat : Int) = _
  rw [BitVec.toNat_and, ofInt_u64 m (by omega), IntKind.wrap_i64]
  omega
/-- Whether there is an old one, a new one. -/
def oldB (h : Int) : Bool := bits .and .i64 h 1 == 1
def newB (h : Int) : Bool := bits .and .i64 h 2 == 2
theorem and_one (h : Int) : bits .and .i64 h 1 = 1 ∨ bits .and .i64 h 1 = 0 := by
  have e := and_case h 1 (by omega)
  have h2 : (BitVec.ofInt 64 h).toNat &&& 1 = (BitVec.ofInt 64 h).toNat % 2 := Nat.and_one_is_mod _
  rw [show ((1 : Nat) : Int) = 1 from rfl, h2] at e
  omega
theorem and_two (h : Int) : bits .and .i64 h 2 = 2 ∨ bits .and .i64 h 2 = 0 := by
  have e := and_case h 2 (by omega)
  rw [show ((2 : Nat) : Int) = 2 from rfl] at e
  have hb : (BitVec.ofInt 64 h).toNat &&& 2 ≤ 2 := Nat.and_le_right
  have h1 : ((BitVec.ofInt 64 h).toNat &&& 2) % 2 = 0 := by
    have := Nat.and_mod_two_pow (a := (BitVec.ofInt 64 h).toNat) (b := 2) (n := 1)
    simpa using this
  omega
theorem has_one : oldB 1 = true ∧ newB 1 = false := by constructor <;> kernel_rfl
theorem has_two : oldB 2 = false ∧ newB 2 = true := by constructor <;> kernel_rfl
theorem has_three : oldB 3 = true ∧ newB 3 = true := by constructor <;> kernel_rfl
theorem has_cases {h : Int} (hi : inB h 1 3 = true) : h = 1 ∨ h = 2 ∨ h = 3 := by have := of_decide_eq_true hi; omega

def noneB (t : Int) (n : Nat) : Bool := (t == 0) && ((n : Int) == 0)
def rOk (r : RowD) : Bool :=
  nameOkB r.key && inB r.has 1 3 && (oldB r.has || noneB r.t1 r.b1.length) && (newB r.has || noneB r.t2 r.b2.length) &&
  (!oldB r.has || (inB r.t1 1 5 && cOk r.t1 r.b1.length)) && (!newB r.has || ((r.t2 == 0) && tOk r.t2 r.b2)) &&
  (!oldB r.has || tOk r.t1 r.b1 || (r.aside && !newB r.has)) && (r.has != 3 || mOk r.t1 r.b1 r.t2 r.b2)
def rS (r : RowD) : List UInt8 := if newB r.has = true then tS r.t2 r.b2 else tS r.t1 r.b1
def rT (r : RowD) : Bool := if newB r.has = true then tOk r.t2 r.b2 else tOk r.t1 r.b1
/-- What is written in a phase; its code. -/
def oldRow (key : ByteArray) (cs : Int) (s : List UInt8) : RowD := ⟨key, cs, encS cs s, 0, [], 1, false⟩
def newRow (key : ByteArray) (s : List UInt8) (aside : Bool) : RowD := ⟨key, 0, [], 0, encS 0 s, 2, aside⟩
def bothRow (key : ByteArray) (cs : Int) (s : List UInt8) : RowD := ⟨key, cs, encS cs s, 0, encS 0 s, 3, false⟩
def formB (p : Int) (key : ByteArray) (cs : Int) (s : List UInt8) : Bool := inB p 0 7 && nameOkB key && inB cs 1 5 && oOk 0 s
def rowC (p : Int) (key : ByteArray) (cs : Int) (s : List UInt8) : Int :=
  if formB p key cs s = false then 1 else if (p = 0 ∨ p = 7) ∧ oOk cs s = false then 3 else 0
def rowV (p : Int) (key : ByteArray) (cs : Int) (s : List UInt8) : RowD :=
  if formB p key cs s = false then zeroRow
  else if p = 0 ∨ p = 7 then (if oOk cs s = true then oldRow key cs s else zeroRow)
  else if p = 4 ∨ p = 5 then newRow key s false
  else if p = 6 then (if oOk cs s = true then oldRow key cs s else newRow key s true)
  else if oOk cs s = true then bothRow key cs s else newRow key s true
def fillR (r : RowD) : RowD :=
  if rOk r = false ∨ newB r.has = true then r
  else if nOk r.t1 r.b1 0 = true then { r with t2 := 0, b2 := nB r.t1 r.b1 0, has := 3 } else { r with aside := true }
def cutR (r : RowD) : RowD :=
  if rOk r = false ∨ newB r.has = false then r else ⟨r.key, 0, [], r.t2, r.b2, 2, false⟩
def backR (r : RowD) : RowD :=
  if rOk r = false ∨ newB r.has = false then r
  else if oldB r.has = true then ⟨r.key, r.t1, r.b1, 0, [], 1, false⟩ else { r with aside := true }

theorem none_zero : noneB 0 0 = true := rfl
theorem mOk_parts {t1 t2 : Int} {b1 b2 : List UInt8} (h : mOk t1 b1 t2 b2 = true) : tOk t1 b1 = true ∧ tOk t2 b2 = true ∧ tS t1 b1 = tS t2 b2 := by
  simp only [mOk, Bool.and_eq_true, beq_iff_eq] at h
  exact ⟨h.1.1, h.1.2, h.2⟩
theorem mOk_of {t1 t2 : Int} {b1 b2 : List UInt8} (h1 : tOk t1 b1 = true) (h2 : tOk t2 b2 = true) (h3 : tS t1 b1 = tS t2 b2) : mOk t1 b1 t2 b2 = true := by
  simp only [mOk, Bool.and_eq_true, beq_iff_eq]
  exact ⟨⟨h1, h2⟩, h3⟩

/-- A row that is right, by what it has. -/
theorem rOk_old {key : ByteArray} {t1 : Int} {b1 : List UInt8} {aside : Bool} : rOk ⟨key, t1, b1, 0, [], 1, aside⟩ = (nameOkB key && (inB t1 1 5 && cOk t1 b1.length) && (tOk t1 b1 || aside)) := by
  simp [rOk, has_one, none_zero, in_t (x := 1) (lo := 1) (hi := 3) (by omega)]
theorem rOk_new {key : ByteArray} {b2 : List UInt8} {aside : Bool} : rOk ⟨key, 0, [], 0, b2, 2, aside⟩ = (nameOkB key && tOk 0 b2) := by
  simp [rOk, has_two, none_zero, in_t (x := 2) (lo := 1) (hi := 3) (by omega)]
theorem rOk_both {key : ByteArray} {t1 : Int} {b1 b2 : List UInt8} {aside : Bool} (h : mOk t1 b1 0 b2 = true) : rOk ⟨key, t1, b1, 0, b2, 3, aside⟩ = (nameOkB key && (inB t1 1 5 && cOk t1 b1.length)) := by
  obtain ⟨h1, h2, _⟩ := mOk_parts h
  simp [rOk, has_three, in_t (x := 3) (lo := 1) (hi := 3) (by omega), h, h1, h2]
theorem list_nil {n : Nat} {l : List UInt8} (h : noneB n l.length = true) : l = [] := by
  simp only [noneB, Bool.and_eq_true, beq_iff_eq] at h
  exact List.eq_nil_of_length_eq_zero (by omega)
theorem none_parts {t : Int} {l : List UInt8} (h : noneB t l.length = true) : t = 0 ∧ l = [] := by
  simp only [noneB, Bool.and_eq_true, beq_iff_eq] at h
  exact ⟨h.1, List.eq_nil_of_length_eq_zero (by omega)⟩
/-- What a right row is. -/
theorem rOk_is {r : RowD} (h : rOk r = true) : nameOkB r.key = true ∧
    ((∃ t1 b1 aside, r = ⟨r.key, t1, b1, 0, [], 1, aside⟩ ∧ (inB t1 1 5 && cOk t1 b1.length) = true ∧ (tOk t1 b1 || aside) = true) ∨
     (∃ b2 aside, r = ⟨r.key, 0, [], 0, b2, 2, aside⟩ ∧ tOk 0 b2 = true) ∨
     (∃ t1 b1 b2 aside, r = ⟨r.key, t1, b1, 0, b2, 3, aside⟩ ∧ (inB t1 1 5 && cOk t1 b1.length) = true ∧ mOk t1 b1 0 b2 = true)) := by
  obtain ⟨key, t1, b1, t2, b2, has, aside⟩ := r
  have h' := h
  simp only [rOk, Bool.and_eq_true] at h'
  obtain ⟨⟨⟨⟨⟨⟨⟨hk, hh⟩, ho⟩, hn⟩, ho2⟩, hn2⟩, ho3⟩, hm⟩ := h'
  refine ⟨hk, ?_⟩
  rcases has_cases hh with rfl | rfl | rfl
  · rw [has_one.2] at hn ho3
    rw [has_one.1] at ho2 ho3
    obtain ⟨rfl, rfl⟩ := none_parts (by simpa using hn)
    exact .inl ⟨t1, b1, aside, rfl, by simpa using ho2, by simpa using ho3⟩
  · rw [has_two.1] at ho
    rw [has_two.2] at hn2
    obtain ⟨rfl, rfl⟩ := none_parts (by simpa using ho)
    have hn3 : t2 = 0 ∧ tOk t2 b2 = true := by simpa using hn2
    obtain ⟨rfl, h5⟩ := hn3
    exact .inr (.inl ⟨b2, aside, rfl, h5⟩)
  · rw [has_three.1] at ho2
    rw [has_three.2] at hn2
    have hn3 : t2 = 0 ∧ tOk t2 b2 = true := by simpa using hn2
    obtain ⟨rfl, h5⟩ := hn3
    exact .inr (.inr ⟨t1, b1, b2, aside, rfl, by simpa using ho2, by simpa using hm⟩)

/-- What is written is right, and says what was written. -/
theorem wrote {p : Int} {key : ByteArray} {cs : Int} {s : List UInt8} (h : rowC p key cs s = 0) : rOk (rowV p key cs s) = true ∧ rS (rowV p key cs s) = s ∧ rT (rowV p key cs s) = true ∧ (rowV p key cs s).key = key := by
  have hf : formB p key cs s = true := by
    cases hf : formB p key cs s
    · unfold rowC at h; rw [hf] at h; simp at h
    · rfl
  have hf' := hf
  simp only [formB, Bool.and_eq_true] at hf'
  obtain ⟨⟨⟨_, hk⟩, hc⟩, hu⟩ := hf'
  obtain ⟨_, u1, u2⟩ := cell_back hu
  have hnew : ∀ a, rOk (newRow key s a) = true ∧ rS (newRow key s a) = s ∧ rT (newRow key s a) = true ∧ (newRow key s a).key = key := fun a =>
    ⟨by unfold newRow; rw [rOk_new, hk, u1]; rfl, by simp [rS, newRow, has_two, u2], by simp [rT, newRow, has_two, u1], rfl⟩
  have hold : oOk cs s = true → rOk (oldRow key cs s) = true ∧ rS (oldRow key cs s) = s ∧ rT (oldRow key cs s) = true ∧ (oldRow key cs s).key = key := fun ho => by
    obtain ⟨o1, o2, o3⟩ := cell_back ho
    exact ⟨by unfold oldRow; rw [rOk_old, hk, hc, o1, o2]; rfl, by simp [rS, oldRow, has_one, o3], by simp [rT, oldRow, has_one, o2], rfl⟩
  have hboth : oOk cs s = true → rOk (bothRow key cs s) = true ∧ rS (bothRow key cs s) = s ∧ rT (bothRow key cs s) = true ∧ (bothRow key cs s).key = key := fun ho => by
    obtain ⟨o1, o2, o3⟩ := cell_back ho
    exact ⟨by unfold bothRow; rw [rOk_both (mOk_of o2 u1 (o3.trans u2.symm)), hk, hc, o1]; rfl, by simp [rS, bothRow, has_three, u2], by simp [rT, bothRow, has_three, u1], rfl⟩
  unfold rowV
  rw [hf]
  simp only [Bool.true_eq_false, if_false]
  unfold rowC at h
  rw [hf] at h
  simp only [Bool.true_eq_false, if_false] at h
  by_cases h1 : p = 0 ∨ p = 7
  · rw [if_pos h1]
    cases ho : oOk cs s
    · rw [ho] at h; simp [h1] at h
    · exact hold ho
  · rw [if_neg h1]
    by_cases h2 : p = 4 ∨ p = 5
    · rw [if_pos h2]; exact hnew false
    · rw [if_neg h2]
      by_cases h3 : p = 6
      · rw [if_pos h3]
        cases ho : oOk cs s
        · exact hnew true
        · exact hold ho
      · rw [if_neg h3]
        cases ho : oOk cs s
        · exact hnew true
        · exact hboth ho

/-- What is left of a size. -/
def leftRow (ks n1 n2 : Nat) : Int := if (1048576 : Int) < (ks : Int) + (n1 : Int) + (n2 : Int) then -1 else 1048576 - (ks : Int) - (n1 : Int) - (n2 : Int)
set_option maxHeartbeats 400000 in
theorem szRow_n (k : ByteArray) (t1 : Int) (a1 : Option Addr) (n1 c1 : Nat) (t2 : Int) (a2 : Option Addr) (n2 c2 : Nat) (has : Int) (asd : Bool) (w : World) (hk : Hd (k.size ≤ maxLen)) (h1 : Hd (n1 ≤ maxLen)) (h2 : Hd (n2 ≤ maxLen)) :
    Calls Tryz.prog 47 #[.agg #[.string k, .int .i64 t1, .slice a1 n1 c1, .int .i64 t2, .slice a2 n2 c2, .int .i64 has, .bool asd], .int .i64 1048576] w fun e w' => e = .returned (.int .i64 (leftRow k.size n1 n2)) ∧ Below w.heap.size w w' := by
  have hw : wrap64 (1048576 - (k.size : Int)) = 1048576 - (k.size : Int) := by have := hk.out; unfold maxLen at *; exact wrap64_in (by omega) (by omega)
  by_cases hA : (1048576 : Int) < (k.size : Int)
  · have E : leftRow k.size n1 n2 = -1 := if_pos (by omega)
    rw [E]
    have hz : (1048576 : Int) - (k.size : Int) < 0 := by omega
    clear hk h1 h2 E hA
    go_enter Tryz.func47, Tryz.ntmps47
    go_wp2_with fail
    go_ret
    exact ⟨rfl, below_lit w _⟩
  · have hz : ¬ (1048576 : Int) - (k.size : Int) < 0 := by omega
    by_cases hB : (1048576 : Int) - (k.size : Int) < (n1 : Int)
    · have E : leftRow k.size n1 n2 = -1 := if_pos (by omega)
      rw [E]
      have F : Hd (leftOf (1048576 - (k.size : Int)) n1 = -1) := ⟨if_pos hB⟩
      have G : Hd (0 ≤ (1048576 : Int) - (k.size : Int) ∧ (1048576 : Int) - (k.size : Int) ≤ 1048576) := ⟨by omega, by omega⟩
      clear E hB hA
      go_enter Tryz.func47, Tryz.ntmps47
      go_wp2_with fail
      refine (szCell_n t1 a1 n1 c1 (1048576 - (k.size : Int)) _ h1 G).mono ?_
      rintro e w1 ⟨rfl, hB1⟩
      rewrite [F.out]
      have B1 : Hd (Below w.heap.size w w1) := ⟨Below.next (below_lit w _) hB1⟩
      clear hB1
      go_wp2_with fail
      go_ret
      exact ⟨rfl, B1.out⟩
    · have F : Hd (leftOf (1048576 - (k.size : Int)) n1 = 1048576 - (k.size : Int) - (n1 : Int)) := ⟨if_neg hB⟩
      have G : Hd (0 ≤ (1048576 : Int) - (k.size : Int) ∧ (1048576 : Int) - (k.size : Int) ≤ 1048576) := ⟨by omega, by omega⟩
      have G2 : Hd (0 ≤ (1048576 : Int) - (k.size : Int) - (n1 : Int) ∧ (1048576 : Int) - (k.size : Int) - (n1 : Int) ≤ 1048576) := ⟨by omega, by omega⟩
      have hz2 : ¬ (1048576 : Int) - (k.size : Int) - (n1 : Int) < 0 := by omega
      have F2 : Hd (leftOf (1048576 - (k.size : Int) - (n1 : Int)) n2 = leftRow k.size n1 n2) := ⟨by
        unfold leftOf leftRow
        by_cases hC : (1048576 : Int) - (k.size : Int) - (n1 : Int) < (n2 : Int)
        · rw [if_pos hC, if_pos (by omega)]
        · rw [if_neg hC, if_neg (by omega)]⟩
      obtain ⟨l, hl⟩ : ∃ l, leftRow k.size n1 n2 = l := ⟨_, rfl⟩
      have HL : Hd (leftRow k.size n1 n2 = l) := ⟨hl⟩
      rw [hl]
      have hd : l = -1 ∨ ¬ l < 0 := by
        rw [← hl]; unfold leftRow
        by_cases hC : (1048576 : Int) < (k.size : Int) + (n1 : Int) + (n2 : Int)
        · rw [if_pos hC]; exact .inl rfl
        · rw [if_neg hC]; exact .inr (by omega)
      clear hl hB hA
      go_enter Tryz.func47, Tryz.ntmps47
      go_wp2_with fail
      refine (szCell_n t1 a1 n1 c1 (1048576 - (k.size : Int)) _ h1 G).mono ?_
      rintro e w1 ⟨rfl, hB1⟩
      rewrite [F.out]
      have B1 : Hd (Below w.heap.size w w1) := ⟨Below.next (below_lit w _) hB1⟩
      obtain ⟨_, _, _, x3, x4, _, _⟩ := cells7 w1 w.heap.size _ _ _ _ _ _ _ _ ((hB1.block w.heap.size (by simp)).trans (heap_alloc_new w _))
      clear hB1
      go_wp2_with fail
      refine (szCell_n t2 a2 n2 c2 (1048576 - (k.size : Int) - (n1 : Int)) _ h2 G2).mono ?_
      rintro e w2 ⟨rfl, hB2⟩
      rewrite [F2.out, HL.out]
      have B2 : Hd (Below w.heap.size w w2) := ⟨Below.next B1.out hB2⟩
      clear hB2 x3 x4 B1
      rcases hd with rfl | hd
      · go_wp2_with fail
        go_ret
        exact ⟨rfl, B2.out⟩
      · go_wp2_with fail
        go_ret
        exact ⟨rfl, B2.out⟩

set_option maxHeartbeats 400000 in
theorem eqRow_true (k : ByteArray) (t1 : Int) (a1 : Option Addr) (n1 c1 : Nat) (t2 : Int) (a2 : Option Addr) (n2 c2 : Nat) (has : Int) (asd : Bool) (d1 : Option Addr) (e1 : Nat) (d2 : Option Addr) (e2 : Nat) (b1 b2 : List UInt8) (w : World)
    (hl1 : n1 ≤ 1073741824) (hl2 : n2 ≤ 1073741824) (h1 : Reads w a1 n1 b1) (h2 : Reads w a2 n2 b2) (h3 : Reads w d1 n1 b1) (h4 : Reads w d2 n2 b2) :
    Calls Tryz.prog 68 #[.agg #[.string k, .int .i64 t1, .slice a1 n1 c1, .int .i64 t2, .slice a2 n2 c2, .int .i64 has, .bool asd], .agg #[.string k, .int .i64 t1, .slice d1 n1 e1, .int .i64 t2, .slice d2 n2 e2, .int .i64 has, .bool asd]] w fun e w' => e = .returned (.bool true) ∧ Below w.heap.size w w' := by
  have H1 : Hd (Reads w a1 n1 b1) := ⟨h1⟩
  have H2 : Hd (Reads w a2 n2 b2) := ⟨h2⟩
  have H3 : Hd (Reads w d1 n1 b1) := ⟨h3⟩
  have H4 : Hd (Reads w d2 n2 b2) := ⟨h4⟩
  clear h1 h2 h3 h4
  have f1 : (k.toList != k.toList) = false := by simp
  have f2 : (has != has) = false := by simp
  have f3 : (asd != asd) = false := by simp
  go_enter Tryz.func68, Tryz.ntmps68
  go_wp2_with fail
  generalize hA : Obj.cells #[Value.string k, .int .i64 t1, .slice a1 n1 c1, .int .i64 t2, .slice a2 n2 c2, .int .i64 has, .bool asd] 67 = A
  generalize hB : Obj.cells #[Value.string k, .int .i64 t1, .slice d1 n1 e1, .int .i64 t2, .slice d2 n2 e2, .int .i64 has, .bool asd] 67 = B
  have h0 : Below w.heap.size w ((w.alloc A).alloc B) := below_lit2 w A B
  refine (eqCell_true t1 a1 d1 c1 e1 n1 b1 _ hl1 (H1.out.below rfl h0) (H3.out.below rfl h0)).mono ?_
  rintro e w1 ⟨rfl, hb⟩
  obtain ⟨l1, l2⟩ := laid2 w A B
  subst hA hB
  have K1 : Hd (w1.heap[w.heap.size]? = some (.cells #[.string k, .int .i64 t1, .slice a1 n1 c1, .int .i64 t2, .slice a2 n2 c2, .int .i64 has, .bool asd] 67 (0, 0))) := ⟨(hb.block _ (by simp; omega)).trans l1⟩
  have K2 : Hd (w1.heap[w.heap.size + 1]? = some (.cells #[.string k, .int .i64 t1, .slice d1 n1 e1, .int .i64 t2, .slice d2 n2 e2, .int .i64 has, .bool asd] 67 (0, 0))) := ⟨(hb.block _ (by simp)).trans l2⟩
  have B1 : Hd (Below w.heap.size w w1) := ⟨Below.next h0 hb⟩
  obtain ⟨_, _, _, x3, x4, _, _⟩ := cells7 w1 w.heap.size _ _ _ _ _ _ _ _ K1.out
  obtain ⟨_, _, _, y3, y4, _, _⟩ := cells7 w1 (w.heap.size + 1) _ _ _ _ _ _ _ _ K2.out
  clear hb h0 l1 l2
  go_wp2_with fail
  refine (eqCell_true t2 a2 d2 c2 e2 n2 b2 _ hl2 (H2.out.below rfl B1.out) (H4.out.below rfl B1.out)).mono ?_
  rintro e w2 ⟨rfl, hb⟩
  obtain ⟨_, _, _, _, _, x5, x6⟩ := cells7 w2 w.heap.size _ _ _ _ _ _ _ _ ((hb.block _ (lt_of_block K1.out)).trans K1.out)
  obtain ⟨_, _, _, _, _, y5, y6⟩ := cells7 w2 (w.heap.size + 1) _ _ _ _ _ _ _ _ ((hb.block _ (lt_of_block K2.out)).trans K2.out)
  have B2 : Hd (Below w.heap.size w w2) := ⟨Below.next B1.out hb⟩
  clear hb x3 x4 y3 y4 K1 K2 B1
  go_wp2_with fail
  go_ret
  exact ⟨rfl, B2.out⟩

/-- What marks leave: two blocks were written. -/
structure Marked2 (w : World) (g1 g2 : Nat) (w' : World) : Prop where
  two : ∃ wm, w.grownBy wm (some g1) ∧ wm.grownBy w' (some g2)

/-- A row in its box. -/
structure RBox (w : World) (d : Nat) (k : ByteArray) (t1 : Int) (a1 : Option Addr) (n1 c1 : Nat) (t2 : Int) (a2 : Option Addr) (n2 c2 : Nat) (has : Int) (asd : Bool) (wx : World) : Prop where
  box : wx.heap[d]? = some (.cells #[.string k, .int .i64 t1, .slice a1 n1 c1, .int .i64 t2, .slice a2 n2 c2, .int .i64 has, .bool asd] 67 (0, 0))
  bel : Below w.heap.size w wx
theorem RBox.below {w : World} {d : Nat} {k : ByteArray} {t1 : Int} {a1 : Option Addr} {n1 c1 : Nat} {t2 : Int} {a2 : Option Addr} {n2 c2 : Nat} {has : Int} {asd : Bool} {wx wy : World} (h : RBox w d k t1 a1 n1 c1 t2 a2 n2 c2 has asd wx) (hB : Below wx.heap.size wx wy) : RBox w d k t1 a1 n1 c1 t2 a2 n2 c2 has asd wy :=
  ⟨(hB.block _ (lt_of_block h.box)).trans h.box, Below.next h.bel hB⟩
theorem rBox_new (w : World) (k : ByteArray) (t1 : Int) (a1 : Option Addr) (n1 c1 : Nat) (t2 : Int) (a2 : Option Addr) (n2 c2 : Nat) (has : Int) (asd : Bool) :
    RBox w w.heap.size k t1 a1 n1 c1 t2 a2 n2 c2 has asd (w.alloc (.cells #[.string k, .int .i64 t1, .slice a1 n1 c1, .int .i64 t2, .slice a2 n2 c2, .int .i64 has, .bool asd] 67)) := ⟨alloc_new w _ rfl, below_lit w _⟩

set_option maxHeartbeats 400000 in
theorem l9Old_any (k : ByteArray) (t1 : Int) (a1 : Option Addr) (n1 c1 : Nat) (t2 : Int) (a2 : Option Addr) (n2 c2 : Nat) (has : Int) (asd : Bool) (w : World) :
    Calls Tryz.prog 49 #[.agg #[.string k, .int .i64 t1, .slice a1 n1 c1, .int .i64 t2, .slice a2 n2 c2, .int .i64 has, .bool asd]] w fun e w' => e = .returned (.bool (oldB has)) ∧ Below w.heap.size w w' := by
  unfold oldB
  go_enter Tryz.func49, Tryz.ntmps49
  go_wp2_with fail
  go_ret
  exact ⟨rfl, below_lit w _⟩
set_option maxHeartbeats 400000 in
theorem l9New_any (k : ByteArray) (t1 : Int) (a1 : Option Addr) (n1 c1 : Nat) (t2 : Int) (a2 : Option Addr) (n2 c2 : Nat) (has : Int) (asd : Bool) (w : World) :
    Calls Tryz.prog 51 #[.agg #[.string k, .int .i64 t1, .slice a1 n1 c1, .int .i64 t2, .slice a2 n2 c2, .int .i64 has, .bool asd]] w fun e w' => e = .returned (.bool (newB has)) ∧ Below w.heap.size w w' := by
  unfold newB
  go_enter Tryz.func51, Tryz.ntmps51
  go_wp2_with fail
  go_ret
  exact ⟨rfl, below_lit w _⟩

set_option maxHeartbeats 400000 in
theorem l9None_any (t : Int) (ao : Option Addr) (n c : Nat) (w : World) :
    Calls Tryz.prog 50 #[.agg #[.int .i64 t, .slice ao n c]] w fun e w' => e = .returned (.bool (noneB t n)) ∧ Below w.heap.size w w' := by
  unfold noneB
  cases ht : (t == 0) with
  | false =>
    go_enter Tryz.func50, Tryz.ntmps50
    go_wp2_with fail
    go_ret
    exact ⟨rfl, below_lit w _⟩
  | true =>
    go_enter Tryz.func50, Tryz.ntmps50
    go_wp2_with fail
    go_ret
    exact ⟨rfl, below_lit w _⟩

theorem same_below {w w' : World} (h : w' = w) : Below w.heap.size w w' := by subst h; exact Below.refl _ _
theorem hO1 : Hd (oldB 1 = true) := ⟨has_one.1⟩
theorem hN1 : Hd (newB 1 = false) := ⟨has_one.2⟩
theorem hO2 : Hd (oldB 2 = false) := ⟨has_two.1⟩
theorem hN2 : Hd (newB 2 = true) := ⟨has_two.2⟩
theorem hO3 : Hd (oldB 3 = true) := ⟨has_three.1⟩
theorem hN3 : Hd (newB 3 = true) := ⟨has_three.2⟩

set_option maxHeartbeats 4000000 in
theorem specRowOk_any (k : ByteArray) (t1 : Int) (a1 : Option Addr) (n1 c1 : Nat) (t2 : Int) (a2 : Option Addr) (n2 c2 : Nat) (has : Int) (asd : Bool) (b1 b2 : List UInt8) (w : World) (hk : k.size ≤ 1048576) (h1 : CellAt w a1 n1 c1 b1) (h2 : CellAt w a2 n2 c2 b2) (hl1 : n1 ≤ 1048576) (hl2 : n2 ≤ 1048576) :
    Calls Tryz.prog 26 #[.agg #[.string k, .int .i64 t1, .slice a1 n1 c1, .int .i64 t2, .slice a2 n2 c2, .int .i64 has, .bool asd]] w fun e w' => e = .returned (.bool (rOk ⟨k, t1, b1, t2, b2, has, asd⟩)) ∧ Below w.heap.size w w' := by
  have H1 : Hd (CellAt w a1 n1 c1 b1) := ⟨h1⟩
  have H2 : Hd (CellAt w a2 n2 c2 b2) := ⟨h2⟩
  have F0 : Hd (RBox w w.heap.size k t1 a1 n1 c1 t2 a2 n2 c2 has asd (w.alloc (.cells #[.string k, .int .i64 t1, .slice a1 n1 c1, .int .i64 t2, .slice a2 n2 c2, .int .i64 has, .bool asd] 67))) := ⟨rBox_new w k t1 a1 n1 c1 t2 a2 n2 c2 has asd⟩
  obtain ⟨nk, hnk⟩ : ∃ x, nameOkB k = x := ⟨_, rfl⟩
  have HNK : Hd (nameOkB k = nk) := ⟨hnk⟩
  obtain ⟨ih, hih⟩ : ∃ x, inB has 1 3 = x := ⟨_, rfl⟩
  have HIH : Hd (inB has 1 3 = ih) := ⟨hih⟩
  obtain ⟨z1, hz1⟩ : ∃ x, noneB t1 n1 = x := ⟨_, rfl⟩
  have HZ1 : Hd (noneB t1 n1 = z1) := ⟨hz1⟩
  obtain ⟨z2, hz2⟩ : ∃ x, noneB t2 n2 = x := ⟨_, rfl⟩
  have HZ2 : Hd (noneB t2 n2 = z2) := ⟨hz2⟩
  obtain ⟨i1, hi1⟩ : ∃ x, inB t1 1 5 = x := ⟨_, rfl⟩
  have HI1 : Hd (inB t1 1 5 = i1) := ⟨hi1⟩
  obtain ⟨c1k, hc1⟩ : ∃ x, cOk t1 n1 = x := ⟨_, rfl⟩
  have HC1 : Hd (cOk t1 n1 = c1k) := ⟨hc1⟩
  obtain ⟨e2, he2⟩ : ∃ x, (t2 == 0) = x := ⟨_, rfl⟩
  obtain ⟨k1, hk1⟩ : ∃ x, tOk t1 b1 = x := ⟨_, rfl⟩
  have HK1 : Hd (tOk t1 b1 = k1) := ⟨hk1⟩
  obtain ⟨k2, hk2⟩ : ∃ x, tOk t2 b2 = x := ⟨_, rfl⟩
  have HK2 : Hd (tOk t2 b2 = k2) := ⟨hk2⟩
  obtain ⟨S1, hs1⟩ : ∃ x, (tS t1 b1).toArray = x := ⟨_, rfl⟩
  have HS1 : Hd ((tS t1 b1).toArray = S1) := ⟨hs1⟩
  obtain ⟨S2, hs2⟩ : ∃ x, (tS t2 b2).toArray = x := ⟨_, rfl⟩
  have HS2 : Hd ((tS t2 b2).toArray = S2) := ⟨hs2⟩
  obtain ⟨m, hm⟩ : ∃ x, mOk t1 b1 t2 b2 = x := ⟨_, rfl⟩
  have HM : Hd (mOk t1 b1 t2 b2 = m) := ⟨hm⟩
  have E : Hd (rOk ⟨k, t1, b1, t2, b2, has, asd⟩ = (nk && ih && (oldB has || z1) && (newB has || z2) && (!oldB has || (i1 && c1k)) && (!newB has || (e2 && k2)) && (!oldB has || k1 || (asd && !newB has)) && (has != 3 || m))) := ⟨by
    simp only [rOk, h1.size, h2.size, hnk, hih, hz1, hz2, hi1, hc1, he2, hk1, hk2, hm]⟩
  rewrite [E.out]
  have he2n : (t2 != 0) = !e2 := by rw [← he2]; rfl
  clear h1 h2 hnk hih hz1 hz2 hi1 hc1 he2 hk1 hk2 hs1 hs2 hm E
  go_enter Tryz.func26, Tryz.ntmps26
  go_wp2_with fail
  refine (specNameOk_any k _ hk).mono ?_
  rintro e v1 ⟨rfl, hB⟩
  replace hB := same_below hB
  rewrite [HNK.out]
  have F1 : Hd (RBox w w.heap.size k t1 a1 n1 c1 t2 a2 n2 c2 has asd v1) := ⟨F0.out.below hB⟩
  obtain ⟨x0, x1, x2, x3, x4, x5, x6⟩ := cells7 v1 w.heap.size _ _ _ _ _ _ _ _ F1.out.box
  clear hB F0
  cases nk with
  | false =>
    go_wp2_with fail
    go_ret
    exact ⟨rfl, F1.out.bel⟩
  | true =>
    go_wp2_with fail
    clear x0 x1 x2 x3 x4 x5 x6
    refine (l1In_any has 1 3 _).mono ?_
    rintro e v2 ⟨rfl, hB⟩
    replace hB := same_below hB
    rewrite [HIH.out]
    have F2 : Hd (RBox w w.heap.size k t1 a1 n1 c1 t2 a2 n2 c2 has asd v2) := ⟨F1.out.below hB⟩
    obtain ⟨x0, x1, x2, x3, x4, x5, x6⟩ := cells7 v2 w.heap.size _ _ _ _ _ _ _ _ F2.out.box
    clear hB F1
    cases ih with
    | false =>
      go_wp2_with fail
      go_ret
      exact ⟨rfl, F2.out.bel⟩
    | true =>
      rcases has_cases HIH.out with rfl | rfl | rfl
      · go_wp2_with fail
        clear x0 x1 x2 x3 x4 x5 x6
        refine (l9Old_any k t1 a1 n1 c1 t2 a2 n2 c2 1 asd _).mono ?_
        rintro e v3 ⟨rfl, hB⟩
        rewrite [hO1.out]
        have F3 : Hd (RBox w w.heap.size k t1 a1 n1 c1 t2 a2 n2 c2 1 asd v3) := ⟨F2.out.below hB⟩
        obtain ⟨x0, x1, x2, x3, x4, x5, x6⟩ := cells7 v3 w.heap.size _ _ _ _ _ _ _ _ F3.out.box
        clear hB F2
        go_wp2_with fail
        clear x0 x1 x2 x3 x4 x5 x6
        refine (l9New_any k t1 a1 n1 c1 t2 a2 n2 c2 1 asd _).mono ?_
        rintro e v4 ⟨rfl, hB⟩
        rewrite [hN1.out]
        have F4 : Hd (RBox w w.heap.size k t1 a1 n1 c1 t2 a2 n2 c2 1 asd v4) := ⟨F3.out.below hB⟩
        obtain ⟨x0, x1, x2, x3, x4, x5, x6⟩ := cells7 v4 w.heap.size _ _ _ _ _ _ _ _ F4.out.box
        clear hB F3
        go_wp2_with fail
        clear x0 x1 x2 x3 x4 x5 x6
        refine (l9None_any t2 a2 n2 c2 _).mono ?_
        rintro e v5 ⟨rfl, hB⟩
        rewrite [HZ2.out]
        have F5 : Hd (RBox w w.heap.size k t1 a1 n1 c1 t2 a2 n2 c2 1 asd v5) := ⟨F4.out.below hB⟩
        obtain ⟨x0, x1, x2, x3, x4, x5, x6⟩ := cells7 v5 w.heap.size _ _ _ _ _ _ _ _ F5.out.box
        clear hB F4
        cases z2 with
        | false =>
          go_wp2_with fail
          go_ret
          exact ⟨by rw [has_one.1, has_one.2]; rfl, F5.out.bel⟩
        | true =>
          go_wp2_with fail
          clear x0 x1 x2 x3 x4 x5 x6
          refine (specCellText_any t1 a1 n1 c1 b1 _ (H1.out.below F5.out.bel) hl1).mono ?_
          rintro e v6 ⟨rfl, hB⟩
          rewrite [HS1.out, HK1.out]
          have F6 : Hd (RBox w w.heap.size k t1 a1 n1 c1 t2 a2 n2 c2 1 asd v6) := ⟨F5.out.below hB⟩
          obtain ⟨x0, x1, x2, x3, x4, x5, x6⟩ := cells7 v6 w.heap.size _ _ _ _ _ _ _ _ F6.out.box
          clear hB F5
          go_wp2_with fail
          clear x0 x1 x2 x3 x4 x5 x6
          refine (specCellText_any t2 a2 n2 c2 b2 _ (H2.out.below F6.out.bel) hl2).mono ?_
          rintro e v7 ⟨rfl, hB⟩
          rewrite [HS2.out, HK2.out]
          have F7 : Hd (RBox w w.heap.size k t1 a1 n1 c1 t2 a2 n2 c2 1 asd v7) := ⟨F6.out.below hB⟩
          obtain ⟨x0, x1, x2, x3, x4, x5, x6⟩ := cells7 v7 w.heap.size _ _ _ _ _ _ _ _ F7.out.box
          clear hB F6
          go_wp2_with fail
          clear x0 x1 x2 x3 x4 x5 x6
          refine (l9Old_any k t1 a1 n1 c1 t2 a2 n2 c2 1 asd _).mono ?_
          rintro e v8 ⟨rfl, hB⟩
          rewrite [hO1.out]
          have F8 : Hd (RBox w w.heap.size k t1 a1 n1 c1 t2 a2 n2 c2 1 asd v8) := ⟨F7.out.below hB⟩
          obtain ⟨x0, x1, x2, x3, x4, x5, x6⟩ := cells7 v8 w.heap.size _ _ _ _ _ _ _ _ F8.out.box
          clear hB F7
          go_wp2_with fail
          clear x0 x1 x2 x3 x4 x5 x6
          refine (l1In_any t1 1 5 _).mono ?_
          rintro e v9 ⟨rfl, hB⟩
          replace hB := same_below hB
          rewrite [HI1.out]
          have F9 : Hd (RBox w w.heap.size k t1 a1 n1 c1 t2 a2 n2 c2 1 asd v9) := ⟨F8.out.below hB⟩
          obtain ⟨x0, x1, x2, x3, x4, x5, x6⟩ := cells7 v9 w.heap.size _ _ _ _ _ _ _ _ F9.out.box
          clear hB F8
          cases i1 with
          | false =>
            go_wp2_with fail
            go_ret
            exact ⟨by rw [has_one.1, has_one.2]; rfl, F9.out.bel⟩
          | true =>
            go_wp2_with fail
            clear x0 x1 x2 x3 x4 x5 x6
            refine (specCellOk_any t1 a1 n1 c1 _).mono ?_
            rintro e v10 ⟨rfl, hB⟩
            rewrite [HC1.out]
            have F10 : Hd (RBox w w.heap.size k t1 a1 n1 c1 t2 a2 n2 c2 1 asd v10) := ⟨F9.out.below hB⟩
            obtain ⟨x0, x1, x2, x3, x4, x5, x6⟩ := cells7 v10 w.heap.size _ _ _ _ _ _ _ _ F10.out.box
            clear hB F9
            cases c1k with
            | false =>
              go_wp2_with fail
              go_ret
              exact ⟨by rw [has_one.1, has_one.2]; rfl, F10.out.bel⟩
            | true =>
              go_wp2_with fail
              clear x0 x1 x2 x3 x4 x5 x6
              refine (l9New_any k t1 a1 n1 c1 t2 a2 n2 c2 1 asd _).mono ?_
              rintro e v11 ⟨rfl, hB⟩
              rewrite [hN1.out]
              have F11 : Hd (RBox w w.heap.size k t1 a1 n1 c1 t2 a2 n2 c2 1 asd v11) := ⟨F10.out.below hB⟩
              obtain ⟨x0, x1, x2, x3, x4, x5, x6⟩ := cells7 v11 w.heap.size _ _ _ _ _ _ _ _ F11.out.box
              clear hB F10
              go_wp2_with fail
              clear x0 x1 x2 x3 x4 x5 x6
              refine (l9Old_any k t1 a1 n1 c1 t2 a2 n2 c2 1 asd _).mono ?_
              rintro e v12 ⟨rfl, hB⟩
              rewrite [hO1.out]
              have F12 : Hd (RBox w w.heap.size k t1 a1 n1 c1 t2 a2 n2 c2 1 asd v12) := ⟨F11.out.below hB⟩
              obtain ⟨x0, x1, x2, x3, x4, x5, x6⟩ := cells7 v12 w.heap.size _ _ _ _ _ _ _ _ F12.out.box
              clear hB F11
              cases k1 with
              | true =>
                go_wp2_with fail
                go_ret
                exact ⟨by rw [has_one.1, has_one.2]; rfl, F12.out.bel⟩
              | false =>
                cases asd with
                | false =>
                  go_wp2_with fail
                  go_ret
                  exact ⟨by rw [has_one.1, has_one.2]; rfl, F12.out.bel⟩
                | true =>
                  go_wp2_with fail
                  clear x0 x1 x2 x3 x4 x5 x6
                  refine (l9New_any k t1 a1 n1 c1 t2 a2 n2 c2 1 true _).mono ?_
                  rintro e v13 ⟨rfl, hB⟩
                  rewrite [hN1.out]
                  have F13 : Hd (RBox w w.heap.size k t1 a1 n1 c1 t2 a2 n2 c2 1 true v13) := ⟨F12.out.below hB⟩
                  obtain ⟨x0, x1, x2, x3, x4, x5, x6⟩ := cells7 v13 w.heap.size _ _ _ _ _ _ _ _ F13.out.box
                  clear hB F12
                  go_wp2_with fail
                  go_ret
                  exact ⟨by rw [has_one.1, has_one.2]; rfl, F13.out.bel⟩
      · go_wp2_with fail
        clear x0 x1 x2 x3 x4 x5 x6
        refine (l9Old_any k t1 a1 n1 c1 t2 a2 n2 c2 2 asd _).mono ?_
        rintro e v3 ⟨rfl, hB⟩
        rewrite [hO2.out]
        have F3 : Hd (RBox w w.heap.size k t1 a1 n1 c1 t2 a2 n2 c2 2 asd v3) := ⟨F2.out.below hB⟩
        obtain ⟨x0, x1, x2, x3, x4, x5, x6⟩ := cells7 v3 w.heap.size _ _ _ _ _ _ _ _ F3.out.box
        clear hB F2
        go_wp2_with fail
        clear x0 x1 x2 x3 x4 x5 x6
        refine (l9None_any t1 a1 n1 c1 _).mono ?_
        rintro e v4 ⟨rfl, hB⟩
        rewrite [HZ1.out]
        have F4 : Hd (RBox w w.heap.size k t1 a1 n1 c1 t2 a2 n2 c2 2 asd v4) := ⟨F3.out.below hB⟩
        obtain ⟨x0, x1, x2, x3, x4, x5, x6⟩ := cells7 v4 w.heap.size _ _ _ _ _ _ _ _ F4.out.box
        clear hB F3
        cases z1 with
        | false =>
          go_wp2_with fail
          go_ret
          exact ⟨by rw [has_two.1, has_two.2]; rfl, F4.out.bel⟩
        | true =>
          go_wp2_with fail
          clear x0 x1 x2 x3 x4 x5 x6
          refine (l9New_any k t1 a1 n1 c1 t2 a2 n2 c2 2 asd _).mono ?_
          rintro e v5 ⟨rfl, hB⟩
          rewrite [hN2.out]
          have F5 : Hd (RBox w w.heap.size k t1 a1 n1 c1 t2 a2 n2 c2 2 asd v5) := ⟨F4.out.below hB⟩
          obtain ⟨x0, x1, x2, x3, x4, x5, x6⟩ := cells7 v5 w.heap.size _ _ _ _ _ _ _ _ F5.out.box
          clear hB F4
          go_wp2_with fail
          clear x0 x1 x2 x3 x4 x5 x6
          refine (specCellText_any t1 a1 n1 c1 b1 _ (H1.out.below F5.out.bel) hl1).mono ?_
          rintro e v6 ⟨rfl, hB⟩
          rewrite [HS1.out, HK1.out]
          have F6 : Hd (RBox w w.heap.size k t1 a1 n1 c1 t2 a2 n2 c2 2 asd v6) := ⟨F5.out.below hB⟩
          obtain ⟨x0, x1, x2, x3, x4, x5, x6⟩ := cells7 v6 w.heap.size _ _ _ _ _ _ _ _ F6.out.box
          clear hB F5
          go_wp2_with fail
          clear x0 x1 x2 x3 x4 x5 x6
          refine (specCellText_any t2 a2 n2 c2 b2 _ (H2.out.below F6.out.bel) hl2).mono ?_
          rintro e v7 ⟨rfl, hB⟩
          rewrite [HS2.out, HK2.out]
          have F7 : Hd (RBox w w.heap.size k t1 a1 n1 c1 t2 a2 n2 c2 2 asd v7) := ⟨F6.out.below hB⟩
          obtain ⟨x0, x1, x2, x3, x4, x5, x6⟩ := cells7 v7 w.heap.size _ _ _ _ _ _ _ _ F7.out.box
          clear hB F6
          go_wp2_with fail
          clear x0 x1 x2 x3 x4 x5 x6
          refine (l9Old_any k t1 a1 n1 c1 t2 a2 n2 c2 2 asd _).mono ?_
          rintro e v8 ⟨rfl, hB⟩
          rewrite [hO2.out]
          have F8 : Hd (RBox w w.heap.size k t1 a1 n1 c1 t2 a2 n2 c2 2 asd v8) := ⟨F7.out.below hB⟩
          obtain ⟨x0, x1, x2, x3, x4, x5, x6⟩ := cells7 v8 w.heap.size _ _ _ _ _ _ _ _ F8.out.box
          clear hB F7
          go_wp2_with fail
          clear x0 x1 x2 x3 x4 x5 x6
          refine (l9New_any k t1 a1 n1 c1 t2 a2 n2 c2 2 asd _).mono ?_
          rintro e v9 ⟨rfl, hB⟩
          rewrite [hN2.out]
          have F9 : Hd (RBox w w.heap.size k t1 a1 n1 c1 t2 a2 n2 c2 2 asd v9) := ⟨F8.out.below hB⟩
          obtain ⟨x0, x1, x2, x3, x4, x5, x6⟩ := cells7 v9 w.heap.size _ _ _ _ _ _ _ _ F9.out.box
          clear hB F8
          cases e2 with
          | false =>
            go_wp2_with fail
            go_ret
            exact ⟨by rw [has_two.1, has_two.2]; rfl, F9.out.bel⟩
          | true =>
            cases k2 with
            | false =>
              go_wp2_with fail
              go_ret
              exact ⟨by rw [has_two.1, has_two.2]; rfl, F9.out.bel⟩
            | true =>
              go_wp2_with fail
              clear x0 x1 x2 x3 x4 x5 x6
              refine (l9Old_any k t1 a1 n1 c1 t2 a2 n2 c2 2 asd _).mono ?_
              rintro e v10 ⟨rfl, hB⟩
              rewrite [hO2.out]
              have F10 : Hd (RBox w w.heap.size k t1 a1 n1 c1 t2 a2 n2 c2 2 asd v10) := ⟨F9.out.below hB⟩
              obtain ⟨x0, x1, x2, x3, x4, x5, x6⟩ := cells7 v10 w.heap.size _ _ _ _ _ _ _ _ F10.out.box
              clear hB F9
              go_wp2_with fail
              go_ret
              exact ⟨by rw [has_two.1, has_two.2]; rfl, F10.out.bel⟩
      · go_wp2_with fail
        clear x0 x1 x2 x3 x4 x5 x6
        refine (l9Old_any k t1 a1 n1 c1 t2 a2 n2 c2 3 asd _).mono ?_
        rintro e v3 ⟨rfl, hB⟩
        rewrite [hO3.out]
        have F3 : Hd (RBox w w.heap.size k t1 a1 n1 c1 t2 a2 n2 c2 3 asd v3) := ⟨F2.out.below hB⟩
        obtain ⟨x0, x1, x2, x3, x4, x5, x6⟩ := cells7 v3 w.heap.size _ _ _ _ _ _ _ _ F3.out.box
        clear hB F2
        go_wp2_with fail
        clear x0 x1 x2 x3 x4 x5 x6
        refine (l9New_any k t1 a1 n1 c1 t2 a2 n2 c2 3 asd _).mono ?_
        rintro e v4 ⟨rfl, hB⟩
        rewrite [hN3.out]
        have F4 : Hd (RBox w w.heap.size k t1 a1 n1 c1 t2 a2 n2 c2 3 asd v4) := ⟨F3.out.below hB⟩
        obtain ⟨x0, x1, x2, x3, x4, x5, x6⟩ := cells7 v4 w.heap.size _ _ _ _ _ _ _ _ F4.out.box
        clear hB F3
        go_wp2_with fail
        clear x0 x1 x2 x3 x4 x5 x6
        refine (specCellText_any t1 a1 n1 c1 b1 _ (H1.out.below F4.out.bel) hl1).mono ?_
        rintro e v5 ⟨rfl, hB⟩
        rewrite [HS1.out, HK1.out]
        have F5 : Hd (RBox w w.heap.size k t1 a1 n1 c1 t2 a2 n2 c2 3 asd v5) := ⟨F4.out.below hB⟩
        obtain ⟨x0, x1, x2, x3, x4, x5, x6⟩ := cells7 v5 w.heap.size _ _ _ _ _ _ _ _ F5.out.box
        clear hB F4
        go_wp2_with fail
        clear x0 x1 x2 x3 x4 x5 x6
        refine (specCellText_any t2 a2 n2 c2 b2 _ (H2.out.below F5.out.bel) hl2).mono ?_
        rintro e v6 ⟨rfl, hB⟩
        rewrite [HS2.out, HK2.out]
        have F6 : Hd (RBox w w.heap.size k t1 a1 n1 c1 t2 a2 n2 c2 3 asd v6) := ⟨F5.out.below hB⟩
        obtain ⟨x0, x1, x2, x3, x4, x5, x6⟩ := cells7 v6 w.heap.size _ _ _ _ _ _ _ _ F6.out.box
        clear hB F5
        go_wp2_with fail
        clear x0 x1 x2 x3 x4 x5 x6
        refine (l9Old_any k t1 a1 n1 c1 t2 a2 n2 c2 3 asd _).mono ?_
        rintro e v7 ⟨rfl, hB⟩
        rewrite [hO3.out]
        have F7 : Hd (RBox w w.heap.size k t1 a1 n1 c1 t2 a2 n2 c2 3 asd v7) := ⟨F6.out.below hB⟩
        obtain ⟨x0, x1, x2, x3, x4, x5, x6⟩ := cells7 v7 w.heap.size _ _ _ _ _ _ _ _ F7.out.box
        clear hB F6
        go_wp2_with fail
        clear x0 x1 x2 x3 x4 x5 x6
        refine (l1In_any t1 1 5 _).mono ?_
        rintro e v8 ⟨rfl, hB⟩
        replace hB := same_below hB
        rewrite [HI1.out]
        have F8 : Hd (RBox w w.heap.size k t1 a1 n1 c1 t2 a2 n2 c2 3 asd v8) := ⟨F7.out.below hB⟩
        obtain ⟨x0, x1, x2, x3, x4, x5, x6⟩ := cells7 v8 w.heap.size _ _ _ _ _ _ _ _ F8.out.box
        clear hB F7
        cases i1 with
        | false =>
          go_wp2_with fail
          go_ret
          exact ⟨by rw [has_three.1, has_three.2]; rfl, F8.out.bel⟩
        | true =>
          go_wp2_with fail
          clear x0 x1 x2 x3 x4 x5 x6
          refine (specCellOk_any t1 a1 n1 c1 _).mono ?_
          rintro e v9 ⟨rfl, hB⟩
          rewrite [HC1.out]
          have F9 : Hd (RBox w w.heap.size k t1 a1 n1 c1 t2 a2 n2 c2 3 asd v9) := ⟨F8.out.below hB⟩
          obtain ⟨x0, x1, x2, x3, x4, x5, x6⟩ := cells7 v9 w.heap.size _ _ _ _ _ _ _ _ F9.out.box
          clear hB F8
          cases c1k with
          | false =>
            go_wp2_with fail
            go_ret
            exact ⟨by rw [has_three.1, has_three.2]; rfl, F9.out.bel⟩
          | true =>
            go_wp2_with fail
            clear x0 x1 x2 x3 x4 x5 x6
            refine (l9New_any k t1 a1 n1 c1 t2 a2 n2 c2 3 asd _).mono ?_
            rintro e v10 ⟨rfl, hB⟩
            rewrite [hN3.out]
            have F10 : Hd (RBox w w.heap.size k t1 a1 n1 c1 t2 a2 n2 c2 3 asd v10) := ⟨F9.out.below hB⟩
            obtain ⟨x0, x1, x2, x3, x4, x5, x6⟩ := cells7 v10 w.heap.size _ _ _ _ _ _ _ _ F10.out.box
            clear hB F9
            cases e2 with
            | false =>
              go_wp2_with fail
              go_ret
              exact ⟨by rw [has_three.1, has_three.2]; rfl, F10.out.bel⟩
            | true =>
              cases k2 with
              | false =>
                go_wp2_with fail
                go_ret
                exact ⟨by rw [has_three.1, has_three.2]; rfl, F10.out.bel⟩
              | true =>
                go_wp2_with fail
                clear x0 x1 x2 x3 x4 x5 x6
                refine (l9Old_any k t1 a1 n1 c1 t2 a2 n2 c2 3 asd _).mono ?_
                rintro e v11 ⟨rfl, hB⟩
                rewrite [hO3.out]
                have F11 : Hd (RBox w w.heap.size k t1 a1 n1 c1 t2 a2 n2 c2 3 asd v11) := ⟨F10.out.below hB⟩
                obtain ⟨x0, x1, x2, x3, x4, x5, x6⟩ := cells7 v11 w.heap.size _ _ _ _ _ _ _ _ F11.out.box
                clear hB F10
                cases k1 with
                | false =>
                  cases asd with
                  | false =>
                    go_wp2_with fail
                    go_ret
                    exact ⟨by rw [has_three.1, has_three.2]; rfl, F11.out.bel⟩
                  | true =>
                    go_wp2_with fail
                    clear x0 x1 x2 x3 x4 x5 x6
                    refine (l9New_any k t1 a1 n1 c1 t2 a2 n2 c2 3 true _).mono ?_
                    rintro e v12 ⟨rfl, hB⟩
                    rewrite [hN3.out]
                    have F12 : Hd (RBox w w.heap.size k t1 a1 n1 c1 t2 a2 n2 c2 3 true v12) := ⟨F11.out.below hB⟩
                    obtain ⟨x0, x1, x2, x3, x4, x5, x6⟩ := cells7 v12 w.heap.size _ _ _ _ _ _ _ _ F12.out.box
                    clear hB F11
                    go_wp2_with fail
                    go_ret
                    exact ⟨by rw [has_three.1, has_three.2]; rfl, F12.out.bel⟩
                | true =>
                  go_wp2_with fail
                  clear x0 x1 x2 x3 x4 x5 x6
                  refine (specSameText_any t1 a1 n1 c1 b1 t2 a2 n2 c2 b2 _ (H1.out.below F11.out.bel) hl1 (H2.out.below F11.out.bel) hl2).mono ?_
                  rintro e v12 ⟨rfl, hB⟩
                  rewrite [HM.out]
                  have F12 : Hd (RBox w w.heap.size k t1 a1 n1 c1 t2 a2 n2 c2 3 asd v12) := ⟨F11.out.below hB⟩
                  obtain ⟨x0, x1, x2, x3, x4, x5, x6⟩ := cells7 v12 w.heap.size _ _ _ _ _ _ _ _ F12.out.box
                  clear hB F11
                  go_wp2_with fail
                  go_ret
                  exact ⟨by rw [has_three.1, has_three.2]; rfl, F12.out.bel⟩

/-- A row that is answered: its cells' bytes are new memory, or nil, and not the same. -/
structure RowOut (w : World) (r : RowD) (e : Ending) (w' : World) : Prop where
  out : ∃ a1 n1 c1 a2 n2 c2, e = .returned (.agg #[.string r.key, .int .i64 r.t1, .slice a1 n1 c1, .int .i64 r.t2, .slice a2 n2 c2, .int .i64 r.has, .bool r.aside]) ∧ r.b1.length = n1 ∧ r.b2.length = n2 ∧ Apart w' (w.heap.size + 2) a1 c1 r.b1 a2 c2 r.b2 ∧ w.heap.size + 1 < w'.heap.size ∧ Below w.heap.size w w'

theorem CellAt.conv {w : World} {ao : Option Addr} {n c : Nat} {bs : List UInt8} (h : CellAt w ao n c bs) : (convert 60 9 (.slice ao n c)).run Tryz.prog w = .ok (.string ⟨bs.toArray⟩) w := by
  rcases h with ⟨rfl, rfl, rfl, rfl⟩ | ⟨q, rfl, _, h3⟩
  · exact run_convert_bytes_nil w 60 5 Tryz.underlying60 Tryz.underlying5 0 0 9 Tryz.underlying9
  · exact h3.whole c

end Go.Proofs.YtlididoalekeoaaGreatDoor
