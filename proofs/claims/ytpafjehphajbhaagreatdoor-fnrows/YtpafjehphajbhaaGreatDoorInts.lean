/- Contracts of the helpers by which the exact laws copy, compare, mark and look through a slice of numbers. -/
import Derived.Test.YtpafjehphajbhaaGreatDoorPut
namespace Go.Proofs.YtpafjehphajbhaaGreatDoor
set_option maxRecDepth 4000
open Go.RowKit

def ci (z : Int) : Value := .int .i64 z

/-- The slice at address ao, of len elements, reads as the bytes bs. -/
def ReadsI (w : World) (ao : Option Addr) (len : Nat) (bs : List Int) : Prop :=
  bs.length = len ∧ (len = 0 ∨ ∃ b off, ao = some ⟨b, off, none⟩ ∧ ∀ j, j < len → w.cell? ⟨b, off + j, none⟩ = some (.int .i64 (bs.getD j 0)))

/-- Block g is a row of bytes that may be written, and its first ones are bs. -/
def RowI (w : World) (g : Nat) (bs : List Int) : Prop :=
  ∃ cur, w.heap[g]? = some (.cells cur 3 (0, 0)) ∧ bs.length ≤ cur.size ∧ cur.size ≤ maxLen ∧ cur.toList.take bs.length = bs.map ci

theorem RowI.lt {w : World} {g : Nat} {bs : List Int} (h : RowI w g bs) : g < w.heap.size := by
  obtain ⟨cur, hg, _⟩ := h
  exact (Array.getElem?_eq_some_iff.1 hg).1
theorem RowI.of_block {w w' : World} {g : Nat} {bs : List Int} (h : RowI w g bs) (e : w'.heap[g]? = w.heap[g]?) : RowI w' g bs := by
  obtain ⟨cur, hg, r⟩ := h
  exact ⟨cur, e.trans hg, r⟩
theorem RowI.below {w w' : World} {g : Nat} {bs : List Int} (h : RowI w g bs) (hb : Below w.heap.size w w') : RowI w' g bs :=
  h.of_block (hb.block g h.lt)
theorem RowI.grown {w w' : World} {g k : Nat} {bs : List Int} (h : RowI w g bs) (hg : w.grownBy w' (some k)) (hne : g ≠ k) : RowI w' g bs :=
  h.of_block (hg.block g h.lt (by simpa using hne))
theorem RowI.cell {w : World} {g : Nat} {bs : List Int} (h : RowI w g bs) (j : Nat) (hj : j < bs.length) : w.cell? ⟨g, j, none⟩ = some (.int .i64 (bs.getD j 0)) := by
  obtain ⟨cur, hg, hl, _, ht⟩ := h
  rw [cell_of_row w g j cur _ (0, 0) hg]
  have : (cur.toList.take bs.length)[j]? = (bs.map ci)[j]? := by rw [ht]
  rw [List.getElem?_take, if_pos hj] at this
  simp only [Array.getElem?_toList, List.getElem?_map, List.getElem?_eq_getElem hj, Option.map_some] at this
  rw [this]; simp [ci, List.getD, List.getElem?_eq_getElem hj]
theorem RowI.reads {w : World} {g : Nat} {bs : List Int} {n : Nat} (h : RowI w g bs) (hn : bs.length = n) : ReadsI w (some ⟨g, 0, none⟩) n bs :=
  ⟨hn, .inr ⟨g, 0, rfl, fun j hj => by rw [Nat.zero_add]; exact h.cell j (by omega)⟩⟩
theorem RowI.owns {w : World} {g cap : Nat} {bs : List Int} {base : Nat} (h : w.ownsRow base 3 1 (.slice (some ⟨g, 0, none⟩) bs.length cap) bs.length (bs.map ci)) : base ≤ g ∧ RowI w g bs := by
  rcases h.2 with ⟨h', _⟩ | ⟨g', cap', cur, h', hb, hg, hnc, hm, hcs, htake⟩
  · simp at h'
  · simp only [Value.slice.injEq, Option.some.injEq, Addr.mk.injEq, and_true, true_and] at h'
    obtain ⟨rfl, rfl⟩ := h'
    exact ⟨hb, cur, hg, by omega, by omega, by simpa using htake⟩
theorem ReadsI.below {w w' : World} {ao : Option Addr} {len : Nat} {bs : List Int} (h : ReadsI w ao len bs) {B : Nat} (hB : B = w.heap.size) (hb : Below B w w') : ReadsI w' ao len bs := by
  subst hB
  obtain ⟨h1, h2⟩ := h
  refine ⟨h1, ?_⟩
  rcases h2 with h2 | ⟨b, off, h2, h3⟩
  · exact .inl h2
  · refine .inr ⟨b, off, h2, fun j hj => ?_⟩
    have hc := h3 j hj
    have hlt := World.block_lt_of_cell? w _ hc
    rw [hb.cell (p := ⟨b, off + j, none⟩) hlt]; exact hc
def mixI (bs : List Int) (k : Nat) : List Value := (bs.take k).map ci ++ List.replicate (bs.length - k) (ci 0)
theorem mixI_zero (bs : List Int) : mixI bs 0 = List.replicate bs.length (ci 0) := by simp [mixI]
theorem mixI_all (bs : List Int) : mixI bs bs.length = bs.map ci := by simp [mixI]
theorem mixI_set (bs : List Int) (k : Nat) (h : k < bs.length) : (mixI bs k).set k (.int .i64 (bs.getD k 0)) = mixI bs (k + 1) := by
  have e1 : ((bs.take k).map ci).length = k := by simp; omega
  unfold mixI
  rw [List.set_append_right _ _ (by omega), e1, Nat.sub_self]
  obtain ⟨m, hm⟩ : ∃ m, bs.length - k = m + 1 := ⟨bs.length - k - 1, by omega⟩
  have hm' : bs.length - (k + 1) = m := by omega
  rw [hm, hm', List.replicate_succ, List.set_cons_zero, List.take_succ_eq_append_getElem h, List.map_append, List.append_assoc]
  congr 1
  simp [ci, List.getD, List.getElem?_eq_getElem h]
theorem mixI_get (bs : List Int) (k : Nat) (h : k < bs.length) : ∃ v, (mixI bs k)[k]? = some v := by
  refine ⟨_, List.getElem?_eq_getElem ?_⟩
  simp [mixI]; omega

/-- What marking writes: the bytes of k, k + 1 and so on. -/
def marksI (k n : Nat) : List Int := (List.range n).map fun i => ((k + i : Nat) : Int)
theorem marksI_length (k n : Nat) : (marksI k n).length = n := by simp [marksI]
theorem marksI_get (k n j : Nat) (h : j < n) : (marksI k n).getD j 0 = ((k + j : Nat) : Int) := by simp [marksI, List.getD, h]
def markedI (bs : List Int) (k j : Nat) : List Int := marksI k j ++ bs.drop j
theorem markedI_zero (bs : List Int) (k : Nat) : markedI bs k 0 = bs := by simp [markedI, marksI]
theorem markedI_all (bs : List Int) (k n : Nat) (h : bs.length = n) : markedI bs k n = marksI k n := by simp [markedI, ← h]
theorem markedI_set (bs : List Int) (k j : Nat) (h : j < bs.length) : (markedI bs k j).set j (((k + j : Nat) : Int)) = markedI bs k (j + 1) := by
  unfold markedI
  rw [List.set_append_right _ _ (by rw [marksI_length]; exact Nat.le_refl _), marksI_length, Nat.sub_self, List.drop_eq_getElem_cons h, List.set_cons_zero]
  simp [marksI, List.range_succ]
theorem markedI_length (bs : List Int) (k j : Nat) (h : j ≤ bs.length) : (markedI bs k j).length = bs.length := by
  simp [markedI, marksI_length]; omega

theorem RowI.store {w : World} {g : Nat} {bs : List Int} (h : RowI w g bs) (j : Nat) (x : Int) :
    RowI (w.setCell ⟨g, j, none⟩ (ci x)) g (bs.set j x) ∧ w.grownBy (w.setCell ⟨g, j, none⟩ (ci x)) (some g) := by
  obtain ⟨cur, hg, hl, hm, ht⟩ := h
  refine ⟨⟨cur.setIfInBounds j (ci x), heap_setCell_same w g j cur _ (ci x) hg, by simpa using hl, by simpa using hm, ?_⟩, ⟨rfl, rfl, rfl, by simp, fun k _ hk => heap_setCell_other w ⟨g, j, none⟩ k (ci x) (fun e => hk (by simp [e]))⟩⟩
  rw [Array.toList_setIfInBounds, List.length_set, List.take_set, ht, List.map_set]
theorem RowI.free {w : World} {g : Nat} {bs : List Int} (h : RowI w g bs) (j : Nat) : w.frozen? ⟨g, j, none⟩ = false := by
  obtain ⟨cur, hg, _⟩ := h
  exact frozen_of_row w g j cur _ hg

/-- Block g is a row of c bytes that may be written; the first ones are bs. -/
def OwnI (w : World) (g c : Nat) (bs : List Int) : Prop :=
  ∃ cur, w.heap[g]? = some (.cells cur 3 (0, 0)) ∧ bs.length ≤ c ∧ c ≤ maxLen ∧ cur.size = c ∧ cur.toList.take bs.length = bs.map ci
theorem OwnI.row {w : World} {g c : Nat} {bs : List Int} (h : OwnI w g c bs) : RowI w g bs := by
  obtain ⟨cur, hg, h1, h2, h3, h4⟩ := h
  exact ⟨cur, hg, by omega, by omega, h4⟩
theorem OwnI.of_block {w w' : World} {g c : Nat} {bs : List Int} (h : OwnI w g c bs) (e : w'.heap[g]? = w.heap[g]?) : OwnI w' g c bs := by
  obtain ⟨cur, hg, r⟩ := h
  exact ⟨cur, e.trans hg, r⟩
theorem OwnI.lt {w : World} {g c : Nat} {bs : List Int} (h : OwnI w g c bs) : g < w.heap.size := h.row.lt
theorem OwnI.below {w w' : World} {g c : Nat} {bs : List Int} (h : OwnI w g c bs) (hb : Below w.heap.size w w') : OwnI w' g c bs := h.of_block (hb.block g h.lt)
theorem OwnI.grown {w w' : World} {g c k : Nat} {bs : List Int} (h : OwnI w g c bs) (hg : w.grownBy w' (some k)) (hne : g ≠ k) : OwnI w' g c bs := h.of_block (hg.block g h.lt (by simpa using hne))
theorem OwnI.cell {w : World} {g c : Nat} {bs : List Int} (h : OwnI w g c bs) {n : Nat} (hn : bs.length = n) : ∀ j, j < n → w.cell? ⟨g, 0 + j, none⟩ = some (.int .i64 (bs.getD j 0)) := fun j hj => by rw [Nat.zero_add]; exact h.row.cell j (by omega)
theorem OwnI.le {w : World} {g c : Nat} {bs : List Int} (h : OwnI w g c bs) : bs.length ≤ c := by obtain ⟨cur, _, h1, _⟩ := h; exact h1
/-- The first bytes of a row. -/
theorem OwnI.take {w : World} {g c : Nat} {bs : List Int} (h : OwnI w g c bs) (k : Nat) : OwnI w g c (bs.take k) := by
  obtain ⟨cur, hg, h1, h2, h3, h4⟩ := h
  refine ⟨cur, hg, by simp; omega, h2, h3, ?_⟩
  have : (bs.take k).length = min k bs.length := by simp
  rw [this, List.map_take, ← h4, List.take_take]
theorem OwnI.owns {w : World} {g c n : Nat} {bs : List Int} (h : OwnI w g c bs) (hn : bs.length = n) {base : Nat} (hb : base ≤ g) : w.ownsRow base 3 1 (.slice (some ⟨g, 0, none⟩) n c) n (bs.map ci) := by
  obtain ⟨cur, hg, h1, h2, h3, h4⟩ := h
  subst hn
  exact ⟨by simp, .inr ⟨g, c, cur, rfl, hb, hg, h1, h2, by omega, by simpa using h4⟩⟩
/-- What is owned is a row. -/
theorem own_rowI {w : World} {base : Nat} {v : Value} {n : Nat} {bs : List Int} (h : w.ownsRow base 3 1 v n (bs.map ci)) (hv : v ≠ .slice none 0 0) :
    ∃ g c, v = .slice (some ⟨g, 0, none⟩) n c ∧ base ≤ g ∧ OwnI w g c bs := by
  have hlen : bs.length = n := by simpa using h.1
  rcases h.2 with ⟨h', _⟩ | ⟨g', cap', cur, h', hb, hg, hnc, hm, hcs, htake⟩
  · exact absurd h' hv
  · exact ⟨g', cap', h', hb, cur, hg, by omega, hm, by omega, by rw [hlen]; simpa using htake⟩
theorem map_ci_cell {w : World} {b off len : Nat} {bs : List Int} (hn : bs.length = len) (hc : ∀ j, j < len → w.cell? ⟨b, off + j, none⟩ = some (.int .i64 (bs.getD j 0))) :
    ∀ j u, (bs.map ci)[j]? = some u → w.cell? ((⟨b, off, none⟩ : Addr).add j) = some u := by
  intro j u hu
  have hj : j < bs.length := by
    have := (List.getElem?_eq_some_iff.1 hu).1
    simpa using this
  rw [Addr.add_lit, hc j (by omega), ← hu]
  simp [ci, List.getD, List.getElem?_eq_getElem hj]
theorem one_ci (bs : List Int) : ∀ u ∈ bs.map ci, u.oneCell' = true := by
  intro u hu
  obtain ⟨_, _, rfl⟩ := List.mem_map.1 hu
  rfl

theorem readsI_of_row {w : World} {a : Option Addr} {len cap : Nat} {zs : List Int}
    (h : (a = none ∧ len = 0 ∧ cap = 0 ∧ zs = []) ∨ ∃ x, a = some x ∧ len ≤ cap ∧ cap ≤ maxLen ∧ zs.length = cap ∧ (∀ i, i < zs.length → w.cell? (x.add i) = some (.int .i64 (zs.getD i 0))) ∧ ∀ n ∈ zs, (Lit.int .i64 n).wf = true) :
    ∃ bs, ReadsI w a len bs := by
  rcases h with ⟨rfl, rfl, rfl, rfl⟩ | ⟨x, rfl, hl, hm, hz, hc, hw⟩
  · exact ⟨[], rfl, .inl rfl⟩
  · by_cases h0 : len = 0
    · subst h0; exact ⟨[], rfl, .inl rfl⟩
    · obtain ⟨b, off, spot⟩ := x
      have hc0 := hc 0 (by omega)
      have hspot : spot = none := by simpa [Addr.add] using World.cell?_spot hc0
      subst hspot
      refine ⟨zs.take len, by simp; omega, .inr ⟨b, off, rfl, fun j hj => ?_⟩⟩
      have hj' : j < zs.length := by omega
      have h1 := hc j hj'
      rw [Addr.add_lit] at h1
      rw [h1]
      simp [List.getD, hj', hj]

end Go.Proofs.YtpafjehphajbhaaGreatDoor
