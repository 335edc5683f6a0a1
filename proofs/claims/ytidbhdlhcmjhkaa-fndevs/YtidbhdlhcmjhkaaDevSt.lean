/- The program: settle: what waits is put into the sectors, in whatever order it came. -/
import Derived.Test.YtidbhdlhcmjhkaaDevMr
namespace Go.Proofs.Ytidbhdlhcmjhkaa
set_option maxRecDepth 4000
open Go.RowKit Go.Maps

/-- The sectors when the first k are settled. -/
def setK (secs : List (List UInt8)) (c : List WrD) (k : Nat) : List (List UInt8) := secs.mapIdx (fun j s => if j < k then readL (j : Int) s c else s)
theorem setK_len (secs : List (List UInt8)) (c : List WrD) (k : Nat) : (setK secs c k).length = secs.length := by simp [setK]
theorem setK_get (secs : List (List UInt8)) (c : List WrD) (k j : Nat) : (setK secs c k)[j]? = (secs[j]?).map (fun s => if j < k then readL (j : Int) s c else s) := by simp [setK]
theorem setK_zero (secs : List (List UInt8)) (c : List WrD) : setK secs c 0 = secs := by
  apply List.ext_getElem?
  intro j
  rw [setK_get]
  simp
theorem setK_put {secs : List (List UInt8)} {c : List WrD} {k : Nat} {b : List UInt8} (h : ∀ s, readL (k : Int) s c = b) (hk : k < secs.length) : (setK secs c k).set k b = setK secs c (k + 1) := by
  apply List.ext_getElem?
  intro j
  rw [setK_get]
  by_cases e : j = k
  · subst e
    rw [List.getElem?_set_self (by rw [setK_len]; exact hk)]
    obtain ⟨s, hs⟩ := get_some hk
    rw [hs]
    simp [h]
  · rw [List.getElem?_set_ne (fun e2 => e e2.symm), setK_get]
    congr 1
    funext s
    by_cases h1 : j < k
    · rw [if_pos h1, if_pos (by omega)]
    · rw [if_neg h1, if_neg (by omega)]
theorem setK_same {secs : List (List UInt8)} {c : List WrD} {k : Nat} (h : ∀ s, readL (k : Int) s c = s) : setK secs c k = setK secs c (k + 1) := by
  apply List.ext_getElem?
  intro j
  rw [setK_get, setK_get]
  congr 1
  funext s
  by_cases e : j = k
  · subst e
    rw [if_neg (by omega), if_pos (by omega), h]
  · by_cases h1 : j < k
    · rw [if_pos h1, if_pos (by omega)]
    · rw [if_neg h1, if_neg (by omega)]
theorem setK_all {secs : List (List UInt8)} {c : List WrD} {k : Nat} (h : ∀ n : Nat, k ≤ n → ∀ s, readL (n : Int) s c = s) (h0 : ∀ x ∈ c, 0 ≤ x.n) : setK secs c k = putL secs c := by
  apply List.ext_getElem?
  intro j
  rw [setK_get]
  by_cases hj : j < secs.length
  · obtain ⟨s, hs⟩ := get_some hj
    have h1 := put_read j c secs hj h0
    rw [show secs.getD j [] = s by simp [List.getD, hs]] at h1
    obtain ⟨t, ht⟩ := get_some (l := putL secs c) (j := j) (by rw [putL_len]; exact hj)
    rw [show (putL secs c).getD j [] = t by simp [List.getD, ht]] at h1
    rw [hs, ht, h1]
    simp only [Option.map_some, Option.some.injEq]
    by_cases e : j < k
    · rw [if_pos e]
    · rw [if_neg e, h j (by omega)]
  · rw [List.getElem?_eq_none (by omega), List.getElem?_eq_none (by rw [putL_len]; omega)]; rfl

theorem any_sorted {H : Type} (f : Lit × DataW H → Bool) : ∀ l : List (Lit × DataW H), (l.foldr DataW.insert []).any f = l.any f
  | [] => rfl
  | x :: r => by rw [List.foldr_cons, Maps.any_insert, any_sorted f r, List.any_cons]
/-- A map that is not empty has a key. -/
theorem has_some {w : World} {b n : Nat} {D : DataW Value} (h : w.ownsMap Try.prog 3 wrElem b n D) (hs : Maps.size D ≠ 0) : ∃ i : Int, Maps.has D (.int .i64 i) = true := by
  obtain ⟨es, clock, _, F, _, rfl⟩ := h
  have hk := Maps.fit_keys F
  have e1 : Maps.size (DataW.map ((es.toList.map (WideElems.rg Try.prog 3 wrElem)).foldr DataW.insert [])) = (es.toList.map (WideElems.rg Try.prog 3 wrElem)).length := by rw [Maps.size_eq, length_sorted]
  rw [e1] at hs
  obtain ⟨p, hp⟩ := get_some (l := es.toList.map (WideElems.rg Try.prog 3 wrElem)) (j := 0) (by omega)
  have hm := List.mem_of_getElem? hp
  obtain ⟨v, hv⟩ := hk p hm
  obtain ⟨i, hi⟩ : ∃ i, p.1 = .int .i64 i := by
    simp only [keyOf, mapKey, Try.underlying3] at hv
    cases v
    case int q a =>
      simp at hv
      exact ⟨a, hv.2.symm⟩
    all_goals cases hv
  refine ⟨i, ?_⟩
  rw [Maps.has_eq, any_sorted, List.any_eq_true]
  exact ⟨p, hm, by rw [hi]; simp [Lit.sameKey]⟩

end Go.Proofs.Ytidbhdlhcmjhkaa
