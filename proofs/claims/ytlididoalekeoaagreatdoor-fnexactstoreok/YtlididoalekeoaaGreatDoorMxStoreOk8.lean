/- Parts of the proof, one behind the other. -/
import Derived.Test.YtlididoalekeoaaGreatDoorMxStoreOk1
import Derived.Lib.Strings
import Derived.Test.YtlididoalekeoaaGreatDoorMxStoreOk3
import Derived.Lib.OthersKept
import Derived.Test.YtlididoalekeoaaGreatDoorMxStoreOk5
import Derived.Lib.ConvBytes
/- Parts of the proof, one behind the other. -/
/- Contracts of the helpers by which the exact laws copy, compare, mark and look through a slice of numbers. What a range over a text reads is the sign that stands there. The contract of Signs in the program. The contract of Signs in the specification. -/
namespace Go.Proofs.YtlididoalekeoaaGreatDoor
set_option maxRecDepth 4000
open Go.RowKit

def ci (z : Int) : Value := .int .i64 z

/-- The slice at address ao, of len elements, reads as the bytes bs. -/
def ReadsI (w : World) (ao : Option Addr) (len : Nat) (bs : List Int) : Prop :=
  bs.length = len ∧ (len = 0 ∨ ∃ b off, ao = some ⟨b, off, none⟩ ∧ ∀ j, j < len → w.cell? ⟨b, off + j, none⟩ = some (.int .i64 (bs.getD j 0)))

/-- Block g is a row of bytes that may be written, and its first ones are bs. -/
def RowI (w : World) (g : Nat) (bs : List Int) : Prop :=
  ∃ cur, w.heap[g]? = some (.cells cur 3 (0, 0)) ∧ bs.length ≤ cur.size ∧ cur.size ≤ maxLen ∧ cur.toList.take bs.length = bs.map ci

theorem RowI.lt {w : World} {g : Nat} {bs : List Int} (h : RowI w g bs) : g < w.heap.size := by
  obtain ⟨cur, hg, _⟩ := h
  exact (Array.getElem?_eq_some_iff.1 hg).1
theorem RowI.of_block {w w' : World} {g : Nat} {bs : List Int} (h : RowI w g bs) (e : w'.heap[g]? = w.heap[g]?) : RowI w' g bs := by
  obtain ⟨cur, hg, r⟩ := h
  exact ⟨cur, e.trans hg, r⟩
theorem RowI.below {w w' : World} {g : Nat} {bs : List Int} (h : RowI w g bs) (hb : Below w.heap.size w w') : RowI w' g bs :=
  h.of_block (hb.block g h.lt)
theorem RowI.grown {w w' : World} {g k : Nat} {bs : List Int} (h : RowI w g bs) (hg : w.grownBy w' (some k)) (hne : g ≠ k) : RowI w' g bs :=
  h.of_block (hg.block g h.lt (by simpa using hne))
theorem RowI.cell {w : World} {g : Nat} {bs : List Int} (h : RowI w g bs) (j : Nat) (hj : j < bs.length) : w.cell? ⟨g, j, none⟩ = some (.int .i64 (bs.getD j 0)) := by
  obtain ⟨cur, hg, hl, _, ht⟩ := h
  rw [cell_of_row w g j cur _ (0, 0) hg]
  have : (cur.toList.take bs.length)[j]? = (bs.map ci)[j]? := by rw [ht]
  rw [List.getElem?_take, if_pos hj] at this
  simp only [Array.getElem?_toList, List.getElem?_map, List.getElem?_eq_getElem hj, Option.map_some] at this
  rw [this]; simp [ci, List.getD, List.getElem?_eq_getElem hj]
theorem RowI.reads {w : World} {g : Nat} {bs : List Int} {n : Nat} (h : RowI w g bs) (hn : bs.length = n) : ReadsI w (some ⟨g, 0, none⟩) n bs :=
  ⟨hn, .inr ⟨g, 0, rfl, fun j hj => by rw [Nat.zero_add]; exact h.cell j (by omega)⟩⟩
theorem RowI.owns {w : World} {g cap : Nat} {bs : List Int} {base : Nat} (h : w.ownsRow base 3 1 (.slice (some ⟨g, 0, none⟩) bs.length cap) bs.length (bs.map ci)) : base ≤ g ∧ RowI w g bs := by
  rcases h.2 with ⟨h', _⟩ | ⟨g', cap', cur, h', hb, hg, hnc, hm, hcs, htake⟩
  · simp at h'
  · simp only [Value.slice.injEq, Option.some.injEq, Addr.mk.injEq, and_true, true_and] at h'
    obtain ⟨rfl, rfl⟩ := h'
    exact ⟨hb, cur, hg, by omega, by omega, by simpa using htake⟩
theorem ReadsI.below {w w' : World} {ao : Option Addr} {len : Nat} {bs : List Int} (h : ReadsI w ao len bs) {B : Nat} (hB : B = w.heap.size) (hb : Below B w w') : ReadsI w' ao len bs := by
  subst hB
  obtain ⟨h1, h2⟩ := h
  refine ⟨h1, ?_⟩
  rcases h2 with h2 | ⟨b, off, h2, h3⟩
  · exact .inl h2
  · refine .inr ⟨b, off, h2, fun j hj => ?_⟩
    have hc := h3 j hj
    have hlt := World.block_lt_of_cell? w _ hc
    rw [hb.cell (p := ⟨b, off + j, none⟩) hlt]; exact hc
def mixI (bs : List Int) (k : Nat) : List Value := (bs.take k).map ci ++ List.replicate (bs.length - k) (ci 0)
theorem mixI_zero (bs : List Int) : mixI bs 0 = List.replicate bs.length (ci 0) := by simp [mixI]
theorem mixI_all (bs : List Int) : mixI bs bs.length = bs.map ci := by simp [mixI]
theorem mixI_set (bs : List Int) (k : Nat) (h : k < bs.length) : (mixI bs k).set k (.int .i64 (bs.getD k 0)) = mixI bs (k + 1) := by
  have e1 : ((bs.take k).map ci).length = k := by simp; omega
  unfold mixI
  rw [List.set_append_right _ _ (by omega), e1, Nat.sub_self]
  obtain ⟨m, hm⟩ : ∃ m, bs.length - k = m + 1 := ⟨bs.length - k - 1, by omega⟩
  have hm' : bs.length - (k + 1) = m := by omega
  rw [hm, hm', List.replicate_succ, List.set_cons_zero, List.take_succ_eq_append_getElem h, List.map_append, List.append_assoc]
  congr 1
  simp [ci, List.getD, List.getElem?_eq_getElem h]
theorem mixI_get (bs : List Int) (k : Nat) (h : k < bs.length) : ∃ v, (mixI bs k)[k]? = some v := by
  refine ⟨_, List.getElem?_eq_getElem ?_⟩
  simp [mixI]; omega

/-- What marking writes: the bytes of k, k + 1 and so on. -/
def marksI (k n : Nat) : List Int := (List.range n).map fun i => ((k + i : Nat) : Int)
theorem marksI_length (k n : Nat) : (marksI k n).length = n := by simp [marksI]
theorem marksI_get (k n j : Nat) (h : j < n) : (marksI k n).getD j 0 = ((k + j : Nat) : Int) := by simp [marksI, List.getD, h]
def markedI (bs : List Int) (k j : Nat) : List Int := marksI k j ++ bs.drop j
theorem markedI_zero (bs : List Int) (k : Nat) : markedI bs k 0 = bs := by simp [markedI, marksI]
theorem markedI_all (bs : List Int) (k n : Nat) (h : bs.length = n) : markedI bs k n = marksI k n := by simp [markedI, ← h]
theorem markedI_set (bs : List Int) (k j : Nat) (h : j < bs.length) : (markedI bs k j).set j (((k + j : Nat) : Int)) = markedI bs k (j + 1) := by
  unfold markedI
  rw [List.set_append_right _ _ (by rw [marksI_length]; exact Nat.le_refl _), marksI_length, Nat.sub_self, List.drop_eq_getElem_cons h, List.set_cons_zero]
  simp [marksI, List.range_succ]
theorem markedI_length (bs : List Int) (k j : Nat) (h : j ≤ bs.length) : (markedI bs k j).length = bs.length := by
  simp [markedI, marksI_length]; omega

theorem RowI.store {w : World} {g : Nat} {bs : List Int} (h : RowI w g bs) (j : Nat) (x : Int) :
    RowI (w.setCell ⟨g, j, none⟩ (ci x)) g (bs.set j x) ∧ w.grownBy (w.setCell ⟨g, j, none⟩ (ci x)) (some g) := by
  obtain ⟨cur, hg, hl, hm, ht⟩ := h
  refine ⟨⟨cur.setIfInBounds j (ci x), heap_setCell_same w g j cur _ (ci x) hg, by simpa using hl, by simpa using hm, ?_⟩, ⟨rfl, rfl, rfl, by simp, fun k _ hk => heap_setCell_other w ⟨g, j, none⟩ k (ci x) (fun e => hk (by simp [e]))⟩⟩
  rw [Array.toList_setIfInBounds, List.length_set, List.take_set, ht, List.map_set]
theorem RowI.free {w : World} {g : Nat} {bs : List Int} (h : RowI w g bs) (j : Nat) : w.frozen? ⟨g, j, none⟩ = false := by
  obtain ⟨cur, hg, _⟩ := h
  exact frozen_of_row w g j cur _ hg

/-- Block g is a row of c bytes that may be written; the first ones are bs. -/
def OwnI (w : World) (g c : Nat) (bs : List Int) : Prop :=
  ∃ cur, w.heap[g]? = some (.cells cur 3 (0, 0)) ∧ bs.length ≤ c ∧ c ≤ maxLen ∧ cur.size = c ∧ cur.toList.take bs.length = bs.map ci
theorem OwnI.row {w : World} {g c : Nat} {bs : List Int} (h : OwnI w g c bs) : RowI w g bs := by
  obtain ⟨cur, hg, h1, h2, h3, h4⟩ := h
  exact ⟨cur, hg, by omega, by omega, h4⟩
theorem OwnI.of_block {w w' : World} {g c : Nat} {bs : List Int} (h : OwnI w g c bs) (e : w'.heap[g]? = w.heap[g]?) : OwnI w' g c bs := by
  obtain ⟨cur, hg, r⟩ := h
  exact ⟨cur, e.trans hg, r⟩
theorem OwnI.lt {w : World} {g c : Nat} {bs : List Int} (h : OwnI w g c bs) : g < w.heap.size := h.row.lt
theorem OwnI.below {w w' : World} {g c : Nat} {bs : List Int} (h : OwnI w g c bs) (hb : Below w.heap.size w w') : OwnI w' g c bs := h.of_block (hb.block g h.lt)
theorem OwnI.grown {w w' : World} {g c k : Nat} {bs : List Int} (h : OwnI w g c bs) (hg : w.grownBy w' (some k)) (hne : g ≠ k) : OwnI w' g c bs := h.of_block (hg.block g h.lt (by simpa using hne))
theorem OwnI.cell {w : World} {g c : Nat} {bs : List Int} (h : OwnI w g c bs) {n : Nat} (hn : bs.length = n) : ∀ j, j < n → w.cell? ⟨g, 0 + j, none⟩ = some (.int .i64 (bs.getD j 0)) := fun j hj => by rw [Nat.zero_add]; exact h.row.cell j (by omega)
theorem OwnI.le {w : World} {g c : Nat} {bs : List Int} (h : OwnI w g c bs) : bs.length ≤ c := by obtain ⟨cur, _, h1, _⟩ := h; exact h1
/-- The first bytes of a row. -/
theorem OwnI.take {w : World} {g c : Nat} {bs : List Int} (h : OwnI w g c bs) (k : Nat) : OwnI w g c (bs.take k) := by
  obtain ⟨cur, hg, h1, h2, h3, h4⟩ := h
  refine ⟨cur, hg, by simp; omega, h2, h3, ?_⟩
  have : (bs.take k).length = min k bs.length := by simp
  rw [this, List.map_take, ← h4, List.take_take]
theorem OwnI.owns {w : World} {g c n : Nat} {bs : List Int} (h : OwnI w g c bs) (hn : bs.length = n) {base : Nat} (hb : base ≤ g) : w.ownsRow base 3 1 (.slice (some ⟨g, 0, none⟩) n c) n (bs.map ci) := by
  obtain ⟨cur, hg, h1, h2, h3, h4⟩ := h
  subst hn
  exact ⟨by simp, .inr ⟨g, c, cur, rfl, hb, hg, h1, h2, by omega, by simpa using h4⟩⟩
/-- What is owned is a row. -/
theorem own_rowI {w : World} {base : Nat} {v : Value} {n : Nat} {bs : List Int} (h : w.ownsRow base 3 1 v n (bs.map ci)) (hv : v ≠ .slice none 0 0) :
    ∃ g c, v = .slice (some ⟨g, 0, none⟩) n c ∧ base ≤ g ∧ OwnI w g c bs := by
  have hlen : bs.length = n := by simpa using h.1
  rcases h.2 with ⟨h', _⟩ | ⟨g', cap', cur, h', hb, hg, hnc, hm, hcs, htake⟩
  · exact absurd h' hv
  · exact ⟨g', cap', h', hb, cur, hg, by omega, hm, by omega, by rw [hlen]; simpa using htake⟩
theorem map_ci_cell {w : World} {b off len : Nat} {bs : List Int} (hn : bs.length = len) (hc : ∀ j, j < len → w.cell? ⟨b, off + j, none⟩ = some (.int .i64 (bs.getD j 0))) :
    ∀ j u, (bs.map ci)[j]? = some u → w.cell? ((⟨b, off, none⟩ : Addr).add j) = some u := by
  intro j u hu
  have hj : j < bs.length := by
    have := (List.getElem?_eq_some_iff.1 hu).1
    simpa using this
  rw [Addr.add_lit, hc j (by omega), ← hu]
  simp [ci, List.getD, List.getElem?_eq_getElem hj]
theorem one_ci (bs : List Int) : ∀ u ∈ bs.map ci, u.oneCell' = true := by
  intro u hu
  obtain ⟨_, _, rfl⟩ := List.mem_map.1 hu
  rfl

theorem readsI_of_row {w : World} {a : Option Addr} {len cap : Nat} {zs : List Int}
    (h : (a = none ∧ len = 0 ∧ cap = 0 ∧ zs = []) ∨ ∃ x, a = some x ∧ len ≤ cap ∧ cap ≤ maxLen ∧ zs.length = cap ∧ (∀ i, i < zs.length → w.cell? (x.add i) = some (.int .i64 (zs.getD i 0))) ∧ ∀ n ∈ zs, (Lit.int .i64 n).wf = true) :
    ∃ bs, ReadsI w a len bs := by
  rcases h with ⟨rfl, rfl, rfl, rfl⟩ | ⟨x, rfl, hl, hm, hz, hc, hw⟩
  · exact ⟨[], rfl, .inl rfl⟩
  · by_cases h0 : len = 0
    · subst h0; exact ⟨[], rfl, .inl rfl⟩
    · obtain ⟨b, off, spot⟩ := x
      have hc0 := hc 0 (by omega)
      have hspot : spot = none := by simpa [Addr.add] using World.cell?_spot hc0
      subst hspot
      refine ⟨zs.take len, by simp; omega, .inr ⟨b, off, rfl, fun j hj => ?_⟩⟩
      have hj' : j < zs.length := by omega
      have h1 := hc j hj'
      rw [Addr.add_lit] at h1
      rw [h1]
      simp [List.getD, hj', hj]

theorem get_gv (s : ByteArray) (pos k : Nat) : (s.get! (pos + k)).toNat = gv (s.data.toList.drop pos) k := by
  have e : s.get! (pos + k) = (s.data.toList.drop pos).getD k 0 := by
    simp [ByteArray.get!, List.getD]
    rw [getElem!_def]
    cases s.data[pos + k]? <;> rfl
  rw [e]; rfl
theorem len_drop (s : ByteArray) (pos : Nat) : (s.data.toList.drop pos).length = s.size - pos := by rw [List.length_drop, Array.length_toList]; rfl

/-- What is read at the head of t. -/
def decT (t : List UInt8) : Nat × Nat :=
  let cont (k : Nat) : Bool := decide (k < t.length) && gv t k / 64 == 2
  let b0 := gv t 0
  if b0 < 0x80 then (b0, 1)
  else if b0 / 32 == 6 && cont 1 then
    let c := (b0 % 32) * 64 + gv t 1 % 64
    if c ≥ 0x80 then (c, 2) else (Utf8.runeError, 1)
  else if b0 / 16 == 14 && cont 1 && cont 2 then
    let c := (b0 % 16) * 4096 + (gv t 1 % 64) * 64 + gv t 2 % 64
    if c ≥ 0x800 && Utf8.valid c then (c, 3) else (Utf8.runeError, 1)
  else if b0 / 8 == 30 && cont 1 && cont 2 && cont 3 then
    let c := (b0 % 8) * 262144 + (gv t 1 % 64) * 4096 + (gv t 2 % 64) * 64 + gv t 3 % 64
    if c ≥ 0x10000 && Utf8.valid c then (c, 4) else (Utf8.runeError, 1)
  else (Utf8.runeError, 1)

theorem decode_decT (s : ByteArray) (pos : Nat) : Utf8.decode s pos = decT (s.data.toList.drop pos) := by
  have hk : ∀ k, decide (pos + k < s.size) = decide (k < (s.data.toList.drop pos).length) := by
    intro k
    rw [len_drop]
    congr 1
    apply propext
    omega
  simp only [Utf8.decode, decT, get_gv, hk]

theorem valid_sign (c : Nat) (h : isSign (c : Int)) : Utf8.valid (c : Int) = true := by
  unfold Utf8.valid isSign at *
  simp; omega
theorem sign_valid (c : Nat) (h : Utf8.valid (c : Int) = true) : isSign (c : Int) := by
  unfold Utf8.valid isSign at *
  simp at h; omega

theorem decT_got {t : List UInt8} {n : Int} (h : Got t n) : decT t = (n.toNat, (signB n).length) := by
  obtain ⟨hs, r, rfl⟩ := h
  have h0 : 0 ≤ n := by rcases hs with h | h <;> omega
  obtain ⟨m, rfl⟩ := Int.eq_ofNat_of_zero_le h0
  have hm : m < 1114112 := by rcases hs with h | h <;> omega
  rw [Int.toNat_natCast]
  by_cases h1 : m < 128
  · rw [signB_one h1]
    have e0 : gv ([bt m] ++ r) 0 = m := by simp [gv]; exact bt_val _ (by omega)
    simp only [decT, e0]
    rw [if_pos h1]; rfl
  by_cases h2 : m < 2048
  · rw [signB_two (by omega) h2]
    obtain ⟨t, ht⟩ : ∃ t, t = [bt (192 + m / 64), bt (128 + m % 64)] ++ r := ⟨_, rfl⟩
    have e0 : gv t 0 = 192 + m / 64 := by rw [ht]; simp [gv]; exact bt_val _ (by omega)
    have e1 : gv t 1 = 128 + m % 64 := by rw [ht]; simp [gv]; exact bt_val _ (by omega)
    have l1 : decide (1 < t.length) = true := by rw [ht]; simp
    have hc : (192 + m / 64) % 32 * 64 + (128 + m % 64) % 64 = m := by omega
    rw [← ht]
    simp only [decT, e0, e1, l1, hc]
    rw [if_neg (by omega), if_pos (by simp; omega), if_pos (by omega)]
    simp
  by_cases h3 : m < 65536
  · rw [signB_three (by omega) h3 hs]
    obtain ⟨t, ht⟩ : ∃ t, t = [bt (224 + m / 4096), bt (128 + m / 64 % 64), bt (128 + m % 64)] ++ r := ⟨_, rfl⟩
    have e0 : gv t 0 = 224 + m / 4096 := by rw [ht]; simp [gv]; exact bt_val _ (by omega)
    have e1 : gv t 1 = 128 + m / 64 % 64 := by rw [ht]; simp [gv]; exact bt_val _ (by omega)
    have e2 : gv t 2 = 128 + m % 64 := by rw [ht]; simp [gv]; exact bt_val _ (by omega)
    have l1 : decide (1 < t.length) = true := by rw [ht]; simp
    have l2 : decide (2 < t.length) = true := by rw [ht]; simp
    have hc : (224 + m / 4096) % 16 * 4096 + (128 + m / 64 % 64) % 64 * 64 + (128 + m % 64) % 64 = m := by omega
    rw [← ht]
    simp only [decT, e0, e1, e2, l1, l2, hc, valid_sign m hs]
    rw [if_neg (by omega), if_neg (by simp; omega), if_pos (by simp; omega), if_pos (by simp; omega)]
    simp
  · rw [signB_four (by omega) hs]
    obtain ⟨t, ht⟩ : ∃ t, t = [bt (240 + m / 262144), bt (128 + m / 4096 % 64), bt (128 + m / 64 % 64), bt (128 + m % 64)] ++ r := ⟨_, rfl⟩
    have e0 : gv t 0 = 240 + m / 262144 := by rw [ht]; simp [gv]; exact bt_val _ (by omega)
    have e1 : gv t 1 = 128 + m / 4096 % 64 := by rw [ht]; simp [gv]; exact bt_val _ (by omega)
    have e2 : gv t 2 = 128 + m / 64 % 64 := by rw [ht]; simp [gv]; exact bt_val _ (by omega)
    have e3 : gv t 3 = 128 + m % 64 := by rw [ht]; simp [gv]; exact bt_val _ (by omega)
    have l1 : decide (1 < t.length) = true := by rw [ht]; simp
    have l2 : decide (2 < t.length) = true := by rw [ht]; simp
    have l3 : decide (3 < t.length) = true := by rw [ht]; simp
    have hc : (240 + m / 262144) % 8 * 262144 + (128 + m / 4096 % 64) % 64 * 4096 + (128 + m / 64 % 64) % 64 * 64 + (128 + m % 64) % 64 = m := by omega
    rw [← ht]
    simp only [decT, e0, e1, e2, e3, l1, l2, l3, hc, valid_sign m hs]
    rw [if_neg (by omega), if_neg (by simp; omega), if_neg (by simp; omega), if_pos (by simp; omega), if_pos (by simp; omega)]
    simp

theorem pre_one {t : List UInt8} {a : Nat} (h : 0 < t.length) (ha : gv t 0 = a) : [bt a] <+: t := by
  match t, h with
  | x :: r, _ => exact ⟨r, by rw [← ha]; simp [gv, bt]⟩
theorem pre_two {t : List UInt8} {a b : Nat} (h : 1 < t.length) (ha : gv t 0 = a) (hb : gv t 1 = b) : [bt a, bt b] <+: t := by
  match t, h with
  | x :: y :: r, _ => exact ⟨r, by rw [← ha, ← hb]; simp [gv, bt]⟩
theorem pre_three {t : List UInt8} {a b c : Nat} (h : 2 < t.length) (ha : gv t 0 = a) (hb : gv t 1 = b) (hc : gv t 2 = c) : [bt a, bt b, bt c] <+: t := by
  match t, h with
  | x :: y :: z :: r, _ => exact ⟨r, by rw [← ha, ← hb, ← hc]; simp [gv, bt]⟩
theorem pre_four {t : List UInt8} {a b c d : Nat} (h : 3 < t.length) (ha : gv t 0 = a) (hb : gv t 1 = b) (hc : gv t 2 = c) (hd : gv t 3 = d) : [bt a, bt b, bt c, bt d] <+: t := by
  match t, h with
  | x :: y :: z :: u :: r, _ => exact ⟨r, by rw [← ha, ← hb, ← hc, ← hd]; simp [gv, bt]⟩

theorem decT_not {t : List UInt8} (ht : 0 < t.length) (h : ¬ ∃ n, Got t n) : decT t = (65533, 1) := by
  have b0 := gv_lt t 0; have b1 := gv_lt t 1; have b2 := gv_lt t 2; have b3 := gv_lt t 3
  simp only [decT]
  by_cases h1 : gv t 0 < 128
  · exact absurd ⟨(gv t 0 : Int), Or.inl ⟨by omega, by omega⟩, by rw [signB_one h1]; exact pre_one ht rfl⟩ h
  rw [if_neg h1]
  by_cases h2 : (gv t 0 / 32 == 6 && (decide (1 < t.length) && gv t 1 / 64 == 2)) = true
  · rw [if_pos h2]
    simp at h2
    obtain ⟨q0, q1, q2⟩ := h2
    by_cases h3 : gv t 0 % 32 * 64 + gv t 1 % 64 ≥ 128
    · exact absurd ⟨((gv t 0 % 32 * 64 + gv t 1 % 64 : Nat) : Int), Or.inl ⟨by omega, by omega⟩, by rw [signB_two h3 (by omega)]; exact pre_two q1 (by omega) (by omega)⟩ h
    · rw [if_neg h3]; rfl
  rw [if_neg h2]
  by_cases h4 : (gv t 0 / 16 == 14 && (decide (1 < t.length) && gv t 1 / 64 == 2) && (decide (2 < t.length) && gv t 2 / 64 == 2)) = true
  · rw [if_pos h4]
    simp at h4
    obtain ⟨⟨q0, q1, q2⟩, q3, q4⟩ := h4
    by_cases h5 : (decide (gv t 0 % 16 * 4096 + gv t 1 % 64 * 64 + gv t 2 % 64 ≥ 2048) && Utf8.valid ((gv t 0 % 16 * 4096 + gv t 1 % 64 * 64 + gv t 2 % 64 : Nat) : Int)) = true
    · rw [Bool.and_eq_true] at h5
      have hs := sign_valid _ h5.2
      have h6 : gv t 0 % 16 * 4096 + gv t 1 % 64 * 64 + gv t 2 % 64 ≥ 2048 := by simpa using h5.1
      exact absurd ⟨_, hs, by rw [signB_three h6 (by omega) hs]; exact pre_three q3 (by omega) (by omega) (by omega)⟩ h
    · rw [if_neg h5]; rfl
  rw [if_neg h4]
  by_cases h7 : (gv t 0 / 8 == 30 && (decide (1 < t.length) && gv t 1 / 64 == 2) && (decide (2 < t.length) && gv t 2 / 64 == 2) && (decide (3 < t.length) && gv t 3 / 64 == 2)) = true
  · rw [if_pos h7]
    simp at h7
    obtain ⟨⟨⟨q0, q1, q2⟩, q3, q4⟩, q5, q6⟩ := h7
    by_cases h5 : (decide (gv t 0 % 8 * 262144 + gv t 1 % 64 * 4096 + gv t 2 % 64 * 64 + gv t 3 % 64 ≥ 65536) && Utf8.valid ((gv t 0 % 8 * 262144 + gv t 1 % 64 * 4096 + gv t 2 % 64 * 64 + gv t 3 % 64 : Nat) : Int)) = true
    · rw [Bool.and_eq_true] at h5
      have hs := sign_valid _ h5.2
      have h6 : gv t 0 % 8 * 262144 + gv t 1 % 64 * 4096 + gv t 2 % 64 * 64 + gv t 3 % 64 ≥ 65536 := by simpa using h5.1
      exact absurd ⟨_, hs, by rw [signB_four h6 hs]; exact pre_four q5 (by omega) (by omega) (by omega) (by omega)⟩ h
    · rw [if_neg h5]; rfl
  rw [if_neg h7]; rfl

theorem decode_got (s : ByteArray) (pos : Nat) {n : Int} (h : Got (s.data.toList.drop pos) n) : Utf8.decode s pos = (n.toNat, (signB n).length) := by rw [decode_decT, decT_got h]
theorem decode_not (s : ByteArray) (pos : Nat) (hp : pos < s.size) (h : ¬ ∃ n, Got (s.data.toList.drop pos) n) : Utf8.decode s pos = (65533, 1) := by
  rw [decode_decT, decT_not (by rw [len_drop]; omega) h]
theorem got_unread (t : List UInt8) : Got t 65533 ↔ [239, 191, 189] <+: t := by
  have e : signB 65533 = [239, 191, 189] := by decide
  constructor
  · intro h; have := h.2; rw [e] at this; exact this
  · intro h; exact ⟨Or.inr ⟨by omega, by omega⟩, by rw [e]; exact h⟩

/-- What Signs answers. -/
structure SignsOut (w : World) (t : List UInt8) (e : Ending) (w' : World) : Prop where
  out : ∃ (g c : Nat) (l : List Int) (ok : Bool), e = .returned (.tuple #[.slice (some ⟨g, 0, none⟩) l.length c, .bool ok]) ∧ SignsAre t l ok ∧ w.heap.size ≤ g ∧ OwnI w' g c l ∧ Below w.heap.size w w'

theorem ext_list (s : ByteArray) (a b : Nat) : (s.extract a b).toList = (s.data.toList.drop a).take (b - a) := Lib.extract_toList s a b

/-- Where the loop over a text stands. -/
structure ReadTo (s : ByteArray) (l : List Int) (pos : Nat) : Prop where
  sg : ∀ n ∈ l, isSign n
  eq : s.data.toList = l.flatMap signB ++ s.data.toList.drop pos
  at_ : (l.flatMap signB).length = pos
  le : pos ≤ s.size
  len : l.length ≤ pos
theorem readTo_zero (s : ByteArray) : ReadTo s [] 0 := ⟨by simp, by simp, rfl, Nat.zero_le _, Nat.le_refl _⟩
theorem readTo_next {s : ByteArray} {l : List Int} {pos : Nat} {n : Int} (h : ReadTo s l pos) (hg : Got (s.data.toList.drop pos) n) : ReadTo s (l ++ [n]) (pos + (signB n).length) := by
  have hlen : s.data.toList.length = s.size := by rw [Array.length_toList]; rfl
  obtain ⟨hs, r, hr⟩ := hg
  have hp := signB_pos hs
  have e : s.data.toList.drop (pos + (signB n).length) = r := by rw [← List.drop_drop, ← hr, List.drop_left]
  refine ⟨?_, ?_, ?_, ?_, ?_⟩
  · intro m hm
    rcases List.mem_append.1 hm with hm | hm
    · exact h.sg m hm
    · rw [List.mem_singleton.1 hm]; exact hs
  · rw [e, List.flatMap_append, List.append_assoc]
    have h2 : ([n] : List Int).flatMap signB = signB n := by simp
    rw [h2, hr]; exact h.eq
  · rw [List.flatMap_append, List.length_append, h.at_]; simp
  · have := congrArg List.length hr
    rw [List.length_append, List.length_drop, hlen] at this
    have := h.le; omega
  · have := h.len
    rw [List.length_append]; simp; omega
theorem readTo_end {s : ByteArray} {l : List Int} {pos : Nat} (h : ReadTo s l pos) (hp : ¬ pos < s.size) : SignsAre s.data.toList l true := by
  refine .inl ⟨rfl, h.sg, ?_⟩
  have hlen : s.data.toList.length = s.size := by rw [Array.length_toList]; rfl
  have e : s.data.toList.drop pos = [] := List.drop_eq_nil_of_le (by omega)
  have := h.eq
  rw [e, List.append_nil] at this; exact this.symm
theorem readTo_stuck {s : ByteArray} {l : List Int} {pos : Nat} (h : ReadTo s l pos) (hp : pos < s.size) (hn : ¬ ∃ n, Got (s.data.toList.drop pos) n) : SignsAre s.data.toList [] false := by
  have hlen : s.data.toList.length = s.size := by rw [Array.length_toList]; rfl
  refine .inr ⟨rfl, rfl, signed_stuck h.sg h.eq ?_ hn⟩
  intro e
  have := congrArg List.length e
  rw [List.length_drop, hlen] at this; simp at this; omega

structure ImplAt (w : World) (s : ByteArray) (l : List Int) (pos : Nat) (wr : World) : Prop where
  own : OwnI wr w.heap.size s.size l
  it : wr.heap[w.heap.size + 1]? = some (.stringIter s pos)
  bel : Below w.heap.size w wr
  rd : ReadTo s l pos

theorem OwnI.iterAt {wr : World} {g c k : Nat} {l : List Int} (h : OwnI wr g c l) (hne : g ≠ k) (s : ByteArray) (pos : Nat) : OwnI (wr.iterAt k s pos) g c l := h.of_block (Lib.iterAt_other wr k g s pos hne)

theorem next_is (wr : World) (k : Nat) (s : ByteArray) (pos n L : Nat) (ty : TypeId) (hk : wr.heap[k]? = some (.stringIter s pos)) (h : pos < s.size) (hdec : Utf8.decode s pos = (n, L)) :
    (Instr.next (.pointer (some ⟨k, 0, none⟩)) true ty).run Tryz.prog wr = .ok (.tuple #[.bool true, .int .i64 pos, .int .i32 (n : Int)]) (wr.iterAt k s (pos + L)) := by
  have e := Lib.run_next_any_at (P := Tryz.prog) wr k s pos ty hk h
  simp only [hdec] at e
  exact e
theorem implAt_zero (w : World) (s : ByteArray) (hs : s.size ≤ maxLen) : ImplAt w s [] 0 ((w.alloc (.cells (madeCells #[.int .i64 0] s.size) 3)).iter s 0) := by
  have hO : OwnI (w.alloc (.cells (madeCells #[.int .i64 0] s.size) 3)) w.heap.size s.size [] :=
    ⟨madeCells #[.int .i64 0] s.size, heap_alloc_new w _, Nat.zero_le _, hs, by rw [← Array.length_toList, toList_madeCells_one]; simp, by simp⟩
  have hB : Below w.heap.size w (w.alloc (.cells (madeCells #[.int .i64 0] s.size) 3)) := (Below.refl _ w).alloc (Nat.le_refl _) _
  refine ⟨hO.of_block (Below.heap_alloc _ _ _ (by simp)), ?_, hB.alloc (by simp) _, readTo_zero s⟩
  have := World.iter_heap (w.alloc (.cells (madeCells #[.int .i64 0] s.size) 3)) s 0
  simpa using this
/-- Behind 'next'. -/
structure ImplMid (w : World) (s : ByteArray) (l : List Int) (pos : Nat) (wr : World) : Prop where
  own : OwnI wr w.heap.size s.size l
  it : wr.heap[w.heap.size + 1]? = some (.stringIter s pos)
  bel : Below w.heap.size w wr
theorem implMid {w wr : World} {s : ByteArray} {l : List Int} {pos : Nat} (h : ImplAt w s l pos wr) (p : Nat) : ImplMid w s l p (wr.iterAt (w.heap.size + 1) s p) :=
  ⟨h.own.iterAt (by omega) s p, Lib.iterAt_heap wr _ s pos p h.it, Lib.below_iterAt h.bel (by omega) s p⟩
theorem implNext {w W1 w3 : World} {s : ByteArray} {l : List Int} {p : Nat} {z : Int} {o : Obj} (h : ImplMid w s l p W1) (hown : w3.ownsRow w.heap.size 3 1 (.slice (some ⟨w.heap.size, 0, none⟩) (l.length + 1) s.size) (l.length + 1) (l.map ci ++ [.int .i64 z])) (hgr : (W1.alloc o).grownBy w3 (some w.heap.size)) (hr : ReadTo s (l ++ [z]) p) : ImplAt w s (l ++ [z]) p w3 := by
  have hsz : w.heap.size + 1 < W1.heap.size := (Array.getElem?_eq_some_iff.1 h.it).1
  have hown' : w3.ownsRow w.heap.size 3 1 (.slice (some ⟨w.heap.size, 0, none⟩) (l.length + 1) s.size) (l.length + 1) ((l ++ [z]).map ci) := by rw [List.map_append]; exact hown
  obtain ⟨g, c, hv, _, hO⟩ := own_rowI hown' (by simp)
  simp only [Value.slice.injEq, Option.some.injEq, Addr.mk.injEq, and_true, true_and] at hv
  refine ⟨by rw [hv.1, hv.2]; exact hO, ?_, (h.bel.alloc (by have := h.bel.size; omega) o).grown hgr (by simp; omega) (fun q hq => by simp at hq; omega), hr⟩
  rw [hgr.block _ (by simp; omega) (by simp), Below.heap_alloc W1 o _ hsz]
  exact h.it

/-- The bytes of a text, in new memory. -/
structure Bytes (w W : World) (s : ByteArray) (cap : Nat) : Prop where
  cap : s.size ≤ cap
  cell : ∀ j, j < s.size → W.cell? ⟨w.heap.size, 0 + j, none⟩ = some (.int .u8 ((s.data.toList.getD j 0).toNat : Int))
  bel : Below w.heap.size w W
  size : W.heap.size = w.heap.size + 1
  typ : ∃ cs fz, W.heap[w.heap.size]? = some (.cells cs 5 fz)
theorem conv_string (s : ByteArray) (w : World) : ∃ (cap : Nat) (W : World), (convert 9 60 (.string s)).run Tryz.prog w = .ok (.slice (some ⟨w.heap.size, 0, none⟩) s.size cap) W ∧ Bytes w W s cap := by
  refine ⟨_, _, Lib.run_convert_string_bytes w _ _ 5 s Tryz.underlying9 Tryz.underlying60 Tryz.underlying5, ⟨grownCap_ge _ _ _ _, fun j hj => by rw [Nat.zero_add]; exact Lib.bytesWorld_cell w _ s j hj, ?_, Lib.bytesWorld_size w _ s, _, _, Lib.bytesWorld_at_new w _ s⟩⟩
  refine ⟨?_, ?_, ?_, by rw [Lib.bytesWorld_size]; omega, fun k hk => Lib.bytesWorld_at_old w _ s k hk⟩
  all_goals
    unfold Lib.bytesWorld World.freeze
    rw [if_neg (by decide)]
    rfl

/-- Where the loop over the bytes stands. -/
structure SpecAt (w : World) (gb : Nat) (s : ByteArray) (l : List Int) (pos q c : Nat) (wr : World) : Prop where
  own : OwnI wr q c l
  qg : w.heap.size ≤ q
  byt : ∀ j, j < s.size → wr.cell? ⟨gb, 0 + j, none⟩ = some (.int .u8 ((s.data.toList.getD j 0).toNat : Int))
  typ : ∃ cs fz, wr.heap[gb]? = some (.cells cs 5 fz)
  bel : Below w.heap.size w wr
  rd : ReadTo s l pos

theorem SpecAt.gbl {w : World} {gb : Nat} {s : ByteArray} {l : List Int} {pos q c : Nat} {wr : World} (h : SpecAt w gb s l pos q c wr) : gb < wr.heap.size := by
  obtain ⟨cs, fz, hg⟩ := h.typ
  exact (Array.getElem?_eq_some_iff.1 hg).1
theorem own_ne {wr : World} {gb q c : Nat} {l : List Int} (h : OwnI wr q c l) (ht : ∃ cs fz, wr.heap[gb]? = some (.cells cs 5 fz)) : q ≠ gb := by
  rintro rfl
  obtain ⟨cs, fz, hg⟩ := ht
  obtain ⟨cur, hq, _⟩ := h
  rw [hg] at hq
  simp at hq
theorem SpecAt.below {w : World} {gb : Nat} {s : ByteArray} {l : List Int} {pos q c : Nat} {wr wr' : World} (h : SpecAt w gb s l pos q c wr) (hb : Below wr.heap.size wr wr') : SpecAt w gb s l pos q c wr' :=
  ⟨h.own.below hb, h.qg, fun j hj => (hb.cell (p := ⟨gb, 0 + j, none⟩) h.gbl).trans (h.byt j hj), by obtain ⟨cs, fz, hg⟩ := h.typ; exact ⟨cs, fz, (hb.block gb h.gbl).trans hg⟩, Below.next h.bel hb, h.rd⟩
theorem SpecAt.next {w : World} {gb : Nat} {s : ByteArray} {l : List Int} {pos q c : Nat} {wr w3 : World} {z : Int} {v : Value} {o : Obj} (h : SpecAt w gb s l pos q c wr) (hown : w3.ownsRow q 3 1 v (l.length + 1) (l.map ci ++ [.int .i64 z])) (hgr : (wr.alloc o).grownBy w3 (some q)) (hne : v ≠ .slice none 0 0) (hg : Got (s.data.toList.drop pos) z) : ∃ q' c', v = .slice (some ⟨q', 0, none⟩) (l ++ [z]).length c' ∧ SpecAt w gb s (l ++ [z]) (pos + (signB z).length) q' c' w3 := by
  have hown' : w3.ownsRow q 3 1 v (l.length + 1) ((l ++ [z]).map ci) := by rw [List.map_append]; exact hown
  obtain ⟨q', c', hv, hq', hO⟩ := own_rowI hown' hne
  have hgb := h.gbl
  have hqb := own_ne h.own h.typ
  have hb : w3.heap[gb]? = wr.heap[gb]? := by
    rw [hgr.block gb (by simp; omega) (by simp; omega), Below.heap_alloc wr o gb hgb]
  have hbs := h.bel.size
  exact ⟨q', c', by rw [hv, List.length_append]; rfl, ⟨hO, Nat.le_trans h.qg hq', fun j hj => (World.cell?_of_block (w := wr) (a := ⟨gb, 0 + j, none⟩) hb).trans (h.byt j hj), by obtain ⟨cs, fz, hg⟩ := h.typ; exact ⟨cs, fz, hb.trans hg⟩, (h.bel.alloc hbs o).grown hgr (by simp; omega) (fun k hk => by simp at hk; have := h.qg; omega), readTo_next h.rd hg⟩⟩

end Go.Proofs.YtlididoalekeoaaGreatDoor
