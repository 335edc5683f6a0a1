/- Contracts of the helpers by which the exact laws copy, compare, mark and look through a slice of bytes. -/
import Derived.Test.YtjpfkjehlaepbaaDoorRows
import Derived.Test.YtjpfkjehlaepbaaDoorPlain
import Derived.WalkKit
import Derived.ProofKit
import Derived.Below
import Derived.WalkSpells
import Derived.RegionTactic
import Derived.Deep.QuietTactic
import Derived.BigQuiet
import Derived.OpenShut
namespace Go.Proofs.YtjpfkjehlaepbaaDoor
set_option maxRecDepth 4000
open Go.RowKit

theorem ret_bool {a b : Bool} (h : a = b) : Ending.returned (.bool a) = .returned (.bool b) := by rw [h]
theorem ret_int {k : IntKind} {a b : Int} (h : a = b) : Ending.returned (.int k a) = .returned (.int k b) := by rw [h]

def cb (b : UInt8) : Value := .int .u8 (b.toNat : Int)

/-- The slice at address ao, of len elements, reads as the bytes bs. -/
def Reads (w : World) (ao : Option Addr) (len : Nat) (bs : List UInt8) : Prop :=
  bs.length = len ∧ (len = 0 ∨ ∃ b off, ao = some ⟨b, off, none⟩ ∧ ∀ j, j < len → w.cell? ⟨b, off + j, none⟩ = some (.int .u8 ((bs.getD j 0).toNat : Int)))

/-- Block g is a row of bytes that may be written, and its first ones are bs. -/
def Row (w : World) (g : Nat) (bs : List UInt8) : Prop :=
  ∃ cur, w.heap[g]? = some (.cells cur 5 (0, 0)) ∧ bs.length ≤ cur.size ∧ cur.size ≤ maxLen ∧ cur.toList.take bs.length = bs.map cb

theorem Row.lt {w : World} {g : Nat} {bs : List UInt8} (h : Row w g bs) : g < w.heap.size := by
  obtain ⟨cur, hg, _⟩ := h
  exact (Array.getElem?_eq_some_iff.1 hg).1
theorem Row.of_block {w w' : World} {g : Nat} {bs : List UInt8} (h : Row w g bs) (e : w'.heap[g]? = w.heap[g]?) : Row w' g bs := by
  obtain ⟨cur, hg, r⟩ := h
  exact ⟨cur, e.trans hg, r⟩
theorem Row.below {w w' : World} {g : Nat} {bs : List UInt8} (h : Row w g bs) (hb : Below w.heap.size w w') : Row w' g bs :=
  h.of_block (hb.block g h.lt)
theorem Row.grown {w w' : World} {g k : Nat} {bs : List UInt8} (h : Row w g bs) (hg : w.grownBy w' (some k)) (hne : g ≠ k) : Row w' g bs :=
  h.of_block (hg.block g h.lt (by simpa using hne))
theorem Row.cell {w : World} {g : Nat} {bs : List UInt8} (h : Row w g bs) (j : Nat) (hj : j < bs.length) : w.cell? ⟨g, j, none⟩ = some (.int .u8 ((bs.getD j 0).toNat : Int)) := by
  obtain ⟨cur, hg, hl, _, ht⟩ := h
  rw [cell_of_row w g j cur _ (0, 0) hg]
  have : (cur.toList.take bs.length)[j]? = (bs.map cb)[j]? := by rw [ht]
  rw [List.getElem?_take, if_pos hj] at this
  simp only [Array.getElem?_toList, List.getElem?_map, List.getElem?_eq_getElem hj, Option.map_some] at this
  rw [this]; simp [cb, List.getD, List.getElem?_eq_getElem hj]
theorem Row.reads {w : World} {g : Nat} {bs : List UInt8} {n : Nat} (h : Row w g bs) (hn : bs.length = n) : Reads w (some ⟨g, 0, none⟩) n bs :=
  ⟨hn, .inr ⟨g, 0, rfl, fun j hj => by rw [Nat.zero_add]; exact h.cell j (by omega)⟩⟩
theorem Row.owns {w : World} {g cap : Nat} {bs : List UInt8} {base : Nat} (h : w.ownsRow base 5 1 (.slice (some ⟨g, 0, none⟩) bs.length cap) bs.length (bs.map cb)) : base ≤ g ∧ Row w g bs := by
  rcases h.2 with ⟨h', _⟩ | ⟨g', cap', cur, h', hb, hg, hnc, hm, hcs, htake⟩
  · simp at h'
  · simp only [Value.slice.injEq, Option.some.injEq, Addr.mk.injEq, and_true, true_and] at h'
    obtain ⟨rfl, rfl⟩ := h'
    exact ⟨hb, cur, hg, by omega, by omega, by simpa using htake⟩
theorem Reads.below {w w' : World} {ao : Option Addr} {len : Nat} {bs : List UInt8} (h : Reads w ao len bs) {B : Nat} (hB : B = w.heap.size) (hb : Below B w w') : Reads w' ao len bs := by
  subst hB
  obtain ⟨h1, h2⟩ := h
  refine ⟨h1, ?_⟩
  rcases h2 with h2 | ⟨b, off, h2, h3⟩
  · exact .inl h2
  · refine .inr ⟨b, off, h2, fun j hj => ?_⟩
    have hc := h3 j hj
    have hlt := World.block_lt_of_cell? w _ hc
    rw [hb.cell (p := ⟨b, off + j, none⟩) hlt]; exact hc
theorem below_drewN' (B : Nat) (w : World) (n : Nat) : Below B w (w.drewN n) := ⟨rfl, rfl, rfl, Nat.le_refl _, fun _ _ => rfl⟩
theorem Below.next {a b c : World} (h : Below a.heap.size a b) (k : Below b.heap.size b c) : Below a.heap.size a c := h.trans (k.mono h.size)

def mix (bs : List UInt8) (k : Nat) : List Value := (bs.take k).map cb ++ List.replicate (bs.length - k) (cb 0)
theorem mix_zero (bs : List UInt8) : mix bs 0 = List.replicate bs.length (cb 0) := by simp [mix]
theorem mix_all (bs : List UInt8) : mix bs bs.length = bs.map cb := by simp [mix]
theorem mix_set (bs : List UInt8) (k : Nat) (h : k < bs.length) : (mix bs k).set k (.int .u8 ((bs.getD k 0).toNat : Int)) = mix bs (k + 1) := by
  have e1 : ((bs.take k).map cb).length = k := by simp; omega
  unfold mix
  rw [List.set_append_right _ _ (by omega), e1, Nat.sub_self]
  obtain ⟨m, hm⟩ : ∃ m, bs.length - k = m + 1 := ⟨bs.length - k - 1, by omega⟩
  have hm' : bs.length - (k + 1) = m := by omega
  rw [hm, hm', List.replicate_succ, List.set_cons_zero, List.take_succ_eq_append_getElem h, List.map_append, List.append_assoc]
  congr 1
  simp [cb, List.getD, List.getElem?_eq_getElem h]
theorem mix_get (bs : List UInt8) (k : Nat) (h : k < bs.length) : ∃ v, (mix bs k)[k]? = some v := by
  refine ⟨_, List.getElem?_eq_getElem ?_⟩
  simp [mix]; omega

theorem info8 : (Tryd.prog.info? 5).map (fun i => (i.zero, i.size, i.bytes)) = some (some (.int .u8 0), 1, 1) := by kernel_rfl

/-- What marking writes: the bytes of k, k + 1 and so on. -/
def marks (k n : Nat) : List UInt8 := (List.range n).map fun i => UInt8.ofNat (k + i)
theorem marks_length (k n : Nat) : (marks k n).length = n := by simp [marks]
theorem marks_get (k n j : Nat) (h : j < n) : (marks k n).getD j 0 = UInt8.ofNat (k + j) := by simp [marks, List.getD, h]
theorem mark_val (m : Nat) : IntKind.u8.wrap ((m : Nat) : Int) = (((UInt8.ofNat m).toNat : Nat) : Int) := by
  rw [IntKind.wrap_u8]; simp
def marked (bs : List UInt8) (k j : Nat) : List UInt8 := marks k j ++ bs.drop j
theorem marked_zero (bs : List UInt8) (k : Nat) : marked bs k 0 = bs := by simp [marked, marks]
theorem marked_all (bs : List UInt8) (k n : Nat) (h : bs.length = n) : marked bs k n = marks k n := by simp [marked, ← h]
theorem marked_set (bs : List UInt8) (k j : Nat) (h : j < bs.length) : (marked bs k j).set j (UInt8.ofNat (k + j)) = marked bs k (j + 1) := by
  unfold marked
  rw [List.set_append_right _ _ (by rw [marks_length]; exact Nat.le_refl _), marks_length, Nat.sub_self, List.drop_eq_getElem_cons h, List.set_cons_zero]
  simp [marks, List.range_succ]
theorem marked_length (bs : List UInt8) (k j : Nat) (h : j ≤ bs.length) : (marked bs k j).length = bs.length := by
  simp [marked, marks_length]; omega

theorem Row.store {w : World} {g : Nat} {bs : List UInt8} (h : Row w g bs) (j : Nat) (x : UInt8) :
    Row (w.setCell ⟨g, j, none⟩ (cb x)) g (bs.set j x) ∧ w.grownBy (w.setCell ⟨g, j, none⟩ (cb x)) (some g) := by
  obtain ⟨cur, hg, hl, hm, ht⟩ := h
  refine ⟨⟨cur.setIfInBounds j (cb x), heap_setCell_same w g j cur _ (cb x) hg, by simpa using hl, by simpa using hm, ?_⟩, ⟨rfl, rfl, rfl, by simp, fun k _ hk => heap_setCell_other w ⟨g, j, none⟩ k (cb x) (fun e => hk (by simp [e]))⟩⟩
  rw [Array.toList_setIfInBounds, List.length_set, List.take_set, ht, List.map_set]
theorem Row.free {w : World} {g : Nat} {bs : List UInt8} (h : Row w g bs) (j : Nat) : w.frozen? ⟨g, j, none⟩ = false := by
  obtain ⟨cur, hg, _⟩ := h
  exact frozen_of_row w g j cur _ hg
theorem grown_next {a b c : World} {g : Nat} (h : a.grownBy b (some g)) (k : b.grownBy c (some g)) : a.grownBy c (some g) :=
  ⟨k.os.trans h.os, k.tape.trans h.tape, k.output.trans h.output, Nat.le_trans h.size k.size, fun i hi hne => (k.block i (Nat.lt_of_lt_of_le hi h.size) hne).trans (h.block i hi hne)⟩

theorem reads_of_row {w : World} {a : Option Addr} {len cap : Nat} {zs : List Int}
    (h : (a = none ∧ len = 0 ∧ cap = 0 ∧ zs = []) ∨ ∃ x, a = some x ∧ len ≤ cap ∧ cap ≤ maxLen ∧ zs.length = cap ∧ (∀ i, i < zs.length → w.cell? (x.add i) = some (.int .u8 (zs.getD i 0))) ∧ ∀ n ∈ zs, (Lit.int .u8 n).wf = true) :
    ∃ bs, Reads w a len bs := by
  rcases h with ⟨rfl, rfl, rfl, rfl⟩ | ⟨x, rfl, hl, hm, hz, hc, hw⟩
  · exact ⟨[], rfl, .inl rfl⟩
  · by_cases h0 : len = 0
    · subst h0; exact ⟨[], rfl, .inl rfl⟩
    · obtain ⟨b, off, spot⟩ := x
      have hc0 := hc 0 (by omega)
      have hspot : spot = none := by simpa [Addr.add] using World.cell?_spot hc0
      subst hspot
      refine ⟨(zs.take len).map fun n => UInt8.ofNat n.toNat, by simp; omega, .inr ⟨b, off, rfl, fun j hj => ?_⟩⟩
      have hj' : j < zs.length := by omega
      have h1 := hc j hj'
      rw [Addr.add_lit] at h1
      rw [h1]
      have hmem : zs.getD j 0 ∈ zs := by
        rw [show zs.getD j 0 = zs[j] from by simp [List.getD, List.getElem?_eq_getElem hj']]
        exact List.getElem_mem hj'
      have hwf := bounds_u8 (hw _ hmem)
      have e : ((zs.take len).map fun n => UInt8.ofNat n.toNat).getD j 0 = UInt8.ofNat (zs.getD j 0).toNat := by
        simp [List.getD, hj', hj]
      rw [e]
      congr 2
      rw [UInt8.toNat_ofNat']
      omega

set_option maxHeartbeats 400000 in
theorem l1In_any (x lo hi : Int) (w : World) : Calls Tryd.prog 29 #[.int .i64 x, .int .i64 lo, .int .i64 hi] w fun e w' => e = .returned (.bool (inB x lo hi)) ∧ w' = w := by
  by_cases h1 : lo ≤ x
  · by_cases h2 : x ≤ hi
    · go_enter Tryd.func29, Tryd.ntmps29
      go_wp2
      go_ret
      exact ⟨ret_bool (by simp [inB, h1, h2]), rfl⟩
    · go_enter Tryd.func29, Tryd.ntmps29
      go_wp2
      go_ret
      exact ⟨ret_bool (by simp [inB, h1]; omega), rfl⟩
  · go_enter Tryd.func29, Tryd.ntmps29
    go_wp2
    go_ret
    exact ⟨ret_bool (by simp [inB]; omega), rfl⟩

end Go.Proofs.YtjpfkjehlaepbaaDoor
