/- Parts of the proof, one behind the other. -/
import Derived.WalkKit
import Derived.Laws.BitsAllLaws
import Derived.Test.YtlididoalekeoaaGreatDoorRows
import Derived.ProofKit
import Derived.Below
import Derived.WalkSpells
import Derived.RegionTactic
import Derived.Deep.QuietTactic
import Derived.BigQuiet
import Derived.OpenShut
import Derived.Laws.CopyOwn
import Derived.Laws.RangeAny
/- Parts of the proof, one behind the other. -/
/- Plain facts on numbers: bitwise operations of int at numbers that are not negative. Contracts of the helpers by which the exact laws copy, compare, mark and look through a slice of bytes. Contracts of PutW, in the specification and in the program. Small facts that many of the texts share. Signs and their bytes: plain facts. -/
namespace Go.Proofs.YtlididoalekeoaaGreatDoor
set_option maxRecDepth 4000
open Go.RowKit

/-- A fact that the walk does not look into: a structure, so that nothing unfolds it. -/
structure Hd (p : Prop) : Prop where
  out : p

theorem i64_or (a b : Nat) (ha : a < 4611686018427387904) (hb : b < 4611686018427387904) : bits .or .i64 (a : Int) (b : Int) = ((a ||| b : Nat) : Int) := by
  have hx : a ||| b < 2 ^ 62 := Nat.or_lt_two_pow (by omega) (by omega)
  show IntKind.i64.wrap ((BitVec.ofInt 64 (a : Int) ||| BitVec.ofInt 64 (b : Int)).toNat : Int) = _
  rw [BitVec.toNat_or, ofInt_u64 a (by omega), ofInt_u64 b (by omega), IntKind.wrap_i64]
  omega
theorem i64_xor (a b : Nat) (ha : a < 4611686018427387904) (hb : b < 4611686018427387904) : bits .xor .i64 (a : Int) (b : Int) = ((a ^^^ b : Nat) : Int) := by
  have hx : a ^^^ b < 2 ^ 62 := Nat.xor_lt_two_pow (by omega) (by omega)
  show IntKind.i64.wrap ((BitVec.ofInt 64 (a : Int) ^^^ BitVec.ofInt 64 (b : Int)).toNat : Int) = _
  rw [BitVec.toNat_xor, ofInt_u64 a (by omega), ofInt_u64 b (by omega), IntKind.wrap_i64]
  omega
theorem i64_and (a b : Nat) (ha : a < 4611686018427387904) (hb : b < 4611686018427387904) : bits .and .i64 (a : Int) (b : Int) = ((a &&& b : Nat) : Int) := by
  have hx : a &&& b < 2 ^ 62 := Nat.and_lt_two_pow _ (by omega)
  show IntKind.i64.wrap ((BitVec.ofInt 64 (a : Int) &&& BitVec.ofInt 64 (b : Int)).toNat : Int) = _
  rw [BitVec.toNat_and, ofInt_u64 a (by omega), ofInt_u64 b (by omega), IntKind.wrap_i64]
  omega
theorem wrap64_in {n : Int} (h0 : -9223372036854775808 ≤ n) (h1 : n ≤ 9223372036854775807) : wrap64 n = n := by unfold wrap64; omega
theorem wrap_byte (b : UInt8) : wrap64 (b.toNat : Int) = (b.toNat : Int) := by
  have := b.toNat_lt; exact wrap64_in (by omega) (by omega)
def inB (x lo hi : Int) : Bool := decide (lo ≤ x ∧ x ≤ hi)
theorem in_t {x lo hi : Int} (h : lo ≤ x ∧ x ≤ hi) : inB x lo hi = true := decide_eq_true h
theorem in_f {x lo hi : Int} (h : ¬(lo ≤ x ∧ x ≤ hi)) : inB x lo hi = false := decide_eq_false h
/-- Two bytes as a word, the higher one first. -/
def wordOf (x y : UInt8) : Nat := 256 * x.toNat + y.toNat
theorem wordOf_lt (x y : UInt8) : wordOf x y < 65536 := by
  have := x.toNat_lt; have := y.toNat_lt; unfold wordOf; omega
theorem word_bits (x y : UInt8) : bits .or .i64 (wrap64 (wrap64 (x.toNat : Int) * 256)) (wrap64 (y.toNat : Int)) = (wordOf x y : Int) := by
  have hx := x.toNat_lt; have hy := y.toNat_lt
  rw [wrap_byte, wrap_byte, wrap64_in (by omega) (by omega)]
  have e : (x.toNat : Int) * 256 = ((x.toNat * 256 : Nat) : Int) := by omega
  rw [e, i64_or _ _ (by omega) (by omega), nat_join 8 _ _ (by omega) (by omega)]
  unfold wordOf; omega

theorem ret_bool {a b : Bool} (h : a = b) : Ending.returned (.bool a) = .returned (.bool b) := by rw [h]
theorem ret_int {k : IntKind} {a b : Int} (h : a = b) : Ending.returned (.int k a) = .returned (.int k b) := by rw [h]

def cb (b : UInt8) : Value := .int .u8 (b.toNat : Int)

/-- The slice at address ao, of len elements, reads as the bytes bs. -/
def Reads (w : World) (ao : Option Addr) (len : Nat) (bs : List UInt8) : Prop :=
  bs.length = len ∧ (len = 0 ∨ ∃ b off, ao = some ⟨b, off, none⟩ ∧ ∀ j, j < len → w.cell? ⟨b, off + j, none⟩ = some (.int .u8 ((bs.getD j 0).toNat : Int)))

/-- Block g is a row of bytes that may be written, and its first ones are bs. -/
def Row (w : World) (g : Nat) (bs : List UInt8) : Prop :=
  ∃ cur, w.heap[g]? = some (.cells cur 5 (0, 0)) ∧ bs.length ≤ cur.size ∧ cur.size ≤ maxLen ∧ cur.toList.take bs.length = bs.map cb

theorem Row.lt {w : World} {g : Nat} {bs : List UInt8} (h : Row w g bs) : g < w.heap.size := by
  obtain ⟨cur, hg, _⟩ := h
  exact (Array.getElem?_eq_some_iff.1 hg).1
theorem Row.of_block {w w' : World} {g : Nat} {bs : List UInt8} (h : Row w g bs) (e : w'.heap[g]? = w.heap[g]?) : Row w' g bs := by
  obtain ⟨cur, hg, r⟩ := h
  exact ⟨cur, e.trans hg, r⟩
theorem Row.below {w w' : World} {g : Nat} {bs : List UInt8} (h : Row w g bs) (hb : Below w.heap.size w w') : Row w' g bs :=
  h.of_block (hb.block g h.lt)
theorem Row.grown {w w' : World} {g k : Nat} {bs : List UInt8} (h : Row w g bs) (hg : w.grownBy w' (some k)) (hne : g ≠ k) : Row w' g bs :=
  h.of_block (hg.block g h.lt (by simpa using hne))
theorem Row.cell {w : World} {g : Nat} {bs : List UInt8} (h : Row w g bs) (j : Nat) (hj : j < bs.length) : w.cell? ⟨g, j, none⟩ = some (.int .u8 ((bs.getD j 0).toNat : Int)) := by
  obtain ⟨cur, hg, hl, _, ht⟩ := h
  rw [cell_of_row w g j cur _ (0, 0) hg]
  have : (cur.toList.take bs.length)[j]? = (bs.map cb)[j]? := by rw [ht]
  rw [List.getElem?_take, if_pos hj] at this
  simp only [Array.getElem?_toList, List.getElem?_map, List.getElem?_eq_getElem hj, Option.map_some] at this
  rw [this]; simp [cb, List.getD, List.getElem?_eq_getElem hj]
theorem Row.reads {w : World} {g : Nat} {bs : List UInt8} {n : Nat} (h : Row w g bs) (hn : bs.length = n) : Reads w (some ⟨g, 0, none⟩) n bs :=
  ⟨hn, .inr ⟨g, 0, rfl, fun j hj => by rw [Nat.zero_add]; exact h.cell j (by omega)⟩⟩
theorem Row.owns {w : World} {g cap : Nat} {bs : List UInt8} {base : Nat} (h : w.ownsRow base 5 1 (.slice (some ⟨g, 0, none⟩) bs.length cap) bs.length (bs.map cb)) : base ≤ g ∧ Row w g bs := by
  rcases h.2 with ⟨h', _⟩ | ⟨g', cap', cur, h', hb, hg, hnc, hm, hcs, htake⟩
  · simp at h'
  · simp only [Value.slice.injEq, Option.some.injEq, Addr.mk.injEq, and_true, true_and] at h'
    obtain ⟨rfl, rfl⟩ := h'
    exact ⟨hb, cur, hg, by omega, by omega, by simpa using htake⟩
theorem Reads.below {w w' : World} {ao : Option Addr} {len : Nat} {bs : List UInt8} (h : Reads w ao len bs) {B : Nat} (hB : B = w.heap.size) (hb : Below B w w') : Reads w' ao len bs := by
  subst hB
  obtain ⟨h1, h2⟩ := h
  refine ⟨h1, ?_⟩
  rcases h2 with h2 | ⟨b, off, h2, h3⟩
  · exact .inl h2
  · refine .inr ⟨b, off, h2, fun j hj => ?_⟩
    have hc := h3 j hj
    have hlt := World.block_lt_of_cell? w _ hc
    rw [hb.cell (p := ⟨b, off + j, none⟩) hlt]; exact hc
theorem below_drewN' (B : Nat) (w : World) (n : Nat) : Below B w (w.drewN n) := ⟨rfl, rfl, rfl, Nat.le_refl _, fun _ _ => rfl⟩
theorem Below.next {a b c : World} (h : Below a.heap.size a b) (k : Below b.heap.size b c) : Below a.heap.size a c := h.trans (k.mono h.size)

def mix (bs : List UInt8) (k : Nat) : List Value := (bs.take k).map cb ++ List.replicate (bs.length - k) (cb 0)
theorem mix_zero (bs : List UInt8) : mix bs 0 = List.replicate bs.length (cb 0) := by simp [mix]
theorem mix_all (bs : List UInt8) : mix bs bs.length = bs.map cb := by simp [mix]
theorem mix_set (bs : List UInt8) (k : Nat) (h : k < bs.length) : (mix bs k).set k (.int .u8 ((bs.getD k 0).toNat : Int)) = mix bs (k + 1) := by
  have e1 : ((bs.take k).map cb).length = k := by simp; omega
  unfold mix
  rw [List.set_append_right _ _ (by omega), e1, Nat.sub_self]
  obtain ⟨m, hm⟩ : ∃ m, bs.length - k = m + 1 := ⟨bs.length - k - 1, by omega⟩
  have hm' : bs.length - (k + 1) = m := by omega
  rw [hm, hm', List.replicate_succ, List.set_cons_zero, List.take_succ_eq_append_getElem h, List.map_append, List.append_assoc]
  congr 1
  simp [cb, List.getD, List.getElem?_eq_getElem h]
theorem mix_get (bs : List UInt8) (k : Nat) (h : k < bs.length) : ∃ v, (mix bs k)[k]? = some v := by
  refine ⟨_, List.getElem?_eq_getElem ?_⟩
  simp [mix]; omega

theorem info8 : (Tryz.prog.info? 5).map (fun i => (i.zero, i.size, i.bytes)) = some (some (.int .u8 0), 1, 1) := by kernel_rfl

set_option maxHeartbeats 400000 in
theorem toByteS_some (b off len cap : Nat) (bs : List UInt8) (w : World) (hn : bs.length = len) (hc : ∀ j, j < len → w.cell? ⟨b, off + j, none⟩ = some (.int .u8 ((bs.getD j 0).toNat : Int))) (hl : len ≤ 1073741824) :
    Calls Tryz.prog 56 #[.slice (some ⟨b, off, none⟩) len cap] w fun e w' => e = .returned (.slice (some ⟨w.heap.size, 0, none⟩) len len) ∧ Row w' w.heap.size bs ∧ Below w.heap.size w w' := by
  obtain ⟨i0, hi, hz0, hz1, hz2⟩ := info_parts info8
  have hn' : Hid (bs.length = len) := hn
  have hc' : Hid (∀ j, j < len → w.cell? ⟨b, off + j, none⟩ = some (.int .u8 ((bs.getD j 0).toNat : Int))) := hc
  clear hn hc
  go_enter Tryz.func56, Tryz.ntmps56
  go_wp2_with (at_make; refine wpList_make_full _ rfl _ _ 60 rfl w.heap.size 5 i0 (.int .u8 0) 1 Tryz.underlying60 hi hz0 hz1 _ _ _ _ len rfl rfl rfl rfl ?b1 ?b2 ?b3 ?_)
  case b1 => rw [hz2]; omega
  case b2 => unfold maxLen; omega
  case b3 => exact Nat.le_refl _
  intro w1 hown hgrow
  have h0 : Hid (w1.ownsRow w.heap.size 5 1 (.slice (some ⟨w.heap.size, 0, none⟩) len len) len (mix bs 0)) := by
    show World.ownsRow _ _ _ _ _ _ _
    rw [mix_zero, hn'.out]
    have e := toList_madeCells_one (.int .u8 0) len
    have e2 : (cb 0 : Value) = .int .u8 0 := rfl
    rw [e2, ← e]; exact hown
  have hB1 : Hid (Below w.heap.size w w1) := (Below.refl _ w).grown hgrow (Nat.le_refl _) (fun _ h => by cases h)
  clear hown hgrow
  go_wp2_with fail
  go_loopw [4] (fun i wr => ∃ k : Nat, k ≤ len ∧ i = .int .i64 k ∧ Hid (wr.ownsRow w.heap.size 5 1 (.slice (some ⟨w.heap.size, 0, none⟩) len len) len (mix bs k)) ∧ Hid (Below w.heap.size w wr)) (fun i _ => len - (intOf i).toNat)
  case atStart => exact ⟨0, Nat.zero_le _, rfl, h0, hB1⟩
  case round =>
    obtain ⟨k, hk, rfl, hown, hbel⟩ := hrel
    by_cases hlt : k < len
    · have hlt' : k < bs.length := by rw [hn'.out]; exact hlt
      have hcw := hc'.out k hlt
      have hbl := World.block_lt_of_cell? w _ hcw
      have hcr : wr.cell? ⟨b, off + k, none⟩ = some (.int .u8 ((bs.getD k 0).toNat : Int)) := (hbel.out.cell (p := ⟨b, off + k, none⟩) hbl).trans hcw
      have hfz : wr.frozen? ⟨w.heap.size, k, none⟩ = false := hown.out.frozenAt k
      obtain ⟨vo, hvo⟩ := mix_get bs k hlt'
      have hco : wr.cell? ⟨w.heap.size, k, none⟩ = some vo := (hown.out.cellAt k (by omega)).trans hvo
      have hnext : Hid ((wr.setCell ⟨w.heap.size, k, none⟩ (.int .u8 ((bs.getD k 0).toNat : Int))).ownsRow w.heap.size 5 1 (.slice (some ⟨w.heap.size, 0, none⟩) len len) len (mix bs (k + 1))) := by
        have := (hown.out.stored k (.int .u8 ((bs.getD k 0).toNat : Int))).1
        rw [mix_set bs k hlt'] at this; exact this
      have hbn : Hid (Below w.heap.size w (wr.setCell ⟨w.heap.size, k, none⟩ (.int .u8 ((bs.getD k 0).toNat : Int)))) := hbel.out.setCell (p := ⟨w.heap.size, k, none⟩) (Nat.le_refl _) _
      clear hcw hbl hvo hown hbel hlt'
      generalize (bs.getD k 0).toNat = x at *
      go_wp2
      go_roundw
      case rel => exact ⟨k + 1, by omega, by go_num, hnext, hbn⟩
      case measure => simp [intOf]; omega
    · have hke : k = len := by omega
      have hR : Hid (Row wr w.heap.size bs) := by
        have h1 := hown.out
        rw [hke, ← hn'.out, mix_all] at h1
        exact (Row.owns h1).2
      clear hke hown
      go_wp2
      go_ret
      exact ⟨rfl, hR.out, hbel.out⟩

set_option maxHeartbeats 400000 in
theorem toByteS_none (ao : Option Addr) (cap : Nat) (w : World) :
    Calls Tryz.prog 56 #[.slice ao 0 cap] w fun e w' => e = .returned (.slice (some ⟨w.heap.size, 0, none⟩) 0 0) ∧ Row w' w.heap.size [] ∧ Below w.heap.size w w' := by
  obtain ⟨i0, hi, hz0, hz1, hz2⟩ := info_parts info8
  go_enter Tryz.func56, Tryz.ntmps56
  go_wp2_with (at_make; refine wpList_make_full _ rfl _ _ 60 rfl w.heap.size 5 i0 (.int .u8 0) 1 Tryz.underlying60 hi hz0 hz1 _ _ _ _ 0 rfl rfl rfl rfl ?b1 ?b2 ?b3 ?_)
  case b1 => rw [hz2]; omega
  case b2 => unfold maxLen; omega
  case b3 => exact Nat.le_refl _
  intro w1 hown hgrow
  have hR : Hid (Row w1 w.heap.size []) := by
    have e := toList_madeCells_one (.int .u8 0) 0
    have h : w1.ownsRow w.heap.size 5 1 (.slice (some ⟨w.heap.size, 0, none⟩) ([] : List UInt8).length 0) ([] : List UInt8).length (([] : List UInt8).map cb) := by
      have h2 : ([] : List UInt8).map cb = (madeCells #[.int .u8 0] 0).toList := by rw [e]; rfl
      rw [h2]; exact hown
    exact (Row.owns h).2
  have hB1 : Hid (Below w.heap.size w w1) := (Below.refl _ w).grown hgrow (Nat.le_refl _) (fun _ h => by cases h)
  clear hown hgrow
  go_wp2_with fail
  refine wp_loop_rounds 1 ?_
  rw [rounds_succ]
  go_wp2
  go_ret
  exact ⟨rfl, hR.out, hB1.out⟩

theorem toByteS_any (ao : Option Addr) (len cap : Nat) (bs : List UInt8) (w : World) (hr : Reads w ao len bs) (hl : len ≤ 1073741824) :
    Calls Tryz.prog 56 #[.slice ao len cap] w fun e w' => e = .returned (.slice (some ⟨w.heap.size, 0, none⟩) len len) ∧ Row w' w.heap.size bs ∧ Below w.heap.size w w' := by
  obtain ⟨hn, h0 | ⟨b, off, rfl, hc⟩⟩ := hr
  · subst h0
    obtain rfl : bs = [] := List.eq_nil_of_length_eq_zero hn
    exact toByteS_none ao cap w
  · exact toByteS_some b off len cap bs w hn hc hl

set_option maxHeartbeats 400000 in
theorem eqByteS_zero (a1 a2 : Option Addr) (c1 c2 : Nat) (w : World) :
    Calls Tryz.prog 66 #[.slice a1 0 c1, .slice a2 0 c2] w fun e w' => e = .returned (.bool true) ∧ ∃ n, w' = w.drewN n := by
  go_enter Tryz.func66, Tryz.ntmps66
  go_wp2_with fail
  refine wp_loop_rounds 1 ?_
  rw [rounds_succ]
  go_wp2
  go_ret
  exact ⟨rfl, 0, rfl⟩

set_option maxHeartbeats 400000 in
theorem eqByteS_some (b1 o1 c1 b2 o2 c2 len : Nat) (bs : List UInt8) (w : World) (hl : len ≤ 1073741824)
    (h1 : ∀ j, j < len → w.cell? ⟨b1, o1 + j, none⟩ = some (.int .u8 ((bs.getD j 0).toNat : Int))) (h2 : ∀ j, j < len → w.cell? ⟨b2, o2 + j, none⟩ = some (.int .u8 ((bs.getD j 0).toNat : Int))) :
    Calls Tryz.prog 66 #[.slice (some ⟨b1, o1, none⟩) len c1, .slice (some ⟨b2, o2, none⟩) len c2] w fun e w' => e = .returned (.bool true) ∧ ∃ n, w' = w.drewN n := by
  have H1 : Hid (∀ j, j < len → w.cell? ⟨b1, o1 + j, none⟩ = some (.int .u8 ((bs.getD j 0).toNat : Int))) := h1
  have H2 : Hid (∀ j, j < len → w.cell? ⟨b2, o2 + j, none⟩ = some (.int .u8 ((bs.getD j 0).toNat : Int))) := h2
  clear h1 h2
  have heq : ((len : Int) != (len : Int)) = false := by simp
  go_enter Tryz.func66, Tryz.ntmps66
  go_wp2_with fail
  go_loopw [5] (fun i wr => ∃ k n : Nat, k ≤ len ∧ i = .int .i64 k ∧ wr = w.drewN n) (fun i _ => len - (intOf i).toNat)
  case atStart => exact ⟨0, 0, Nat.zero_le _, rfl, rfl⟩
  case round =>
    obtain ⟨k, n, hk, rfl, rfl⟩ := hrel
    by_cases hlt : k < len
    · have g1 := H1.out k hlt
      have g2 := H2.out k hlt
      have hlt' : (k : Int) < (len : Int) := by omega
      have h0 : (0 : Int) ≤ (k : Int) := by omega
      generalize (bs.getD k 0).toNat = x at *
      have hx : ((x : Int) != (x : Int)) = false := by simp
      go_wp2_with fail
      go_quiet (fail)
      go_wp2
      go_roundw
      case rel => exact ⟨k + 1, _, by omega, by go_num, rfl⟩
      case measure => simp [intOf]; omega
    · go_wp2
      go_ret
      exact ⟨rfl, _, rfl⟩

/-- Two slices that read alike: true; nothing turns. -/
theorem eqByteS_true (a1 a2 : Option Addr) (c1 c2 len : Nat) (bs : List UInt8) (w : World) (hl : len ≤ 1073741824) (h1 : Reads w a1 len bs) (h2 : Reads w a2 len bs) :
    Calls Tryz.prog 66 #[.slice a1 len c1, .slice a2 len c2] w fun e w' => e = .returned (.bool true) ∧ Below w.heap.size w w' := by
  have fin : ∀ (e : Ending) (w' : World), (e = .returned (.bool true) ∧ ∃ n, w' = w.drewN n) → (e = .returned (.bool true) ∧ Below w.heap.size w w') := by
    rintro e w' ⟨rfl, n, rfl⟩
    exact ⟨rfl, below_drewN' _ _ _⟩
  by_cases h0 : len = 0
  · subst h0
    exact (eqByteS_zero a1 a2 c1 c2 w).mono fin
  · obtain ⟨_, h | ⟨b1, o1, rfl, g1⟩⟩ := h1
    · exact absurd h h0
    · obtain ⟨_, h | ⟨b2, o2, rfl, g2⟩⟩ := h2
      · exact absurd h h0
      · exact (eqByteS_some b1 o1 c1 b2 o2 c2 len bs w hl g1 g2).mono fin

/-- What marking writes: the bytes of k, k + 1 and so on. -/
def marks (k n : Nat) : List UInt8 := (List.range n).map fun i => UInt8.ofNat (k + i)
theorem marks_length (k n : Nat) : (marks k n).length = n := by simp [marks]
theorem marks_get (k n j : Nat) (h : j < n) : (marks k n).getD j 0 = UInt8.ofNat (k + j) := by simp [marks, List.getD, h]
theorem mark_val (m : Nat) : IntKind.u8.wrap ((m : Nat) : Int) = (((UInt8.ofNat m).toNat : Nat) : Int) := by
  rw [IntKind.wrap_u8]; simp
def marked (bs : List UInt8) (k j : Nat) : List UInt8 := marks k j ++ bs.drop j
theorem marked_zero (bs : List UInt8) (k : Nat) : marked bs k 0 = bs := by simp [marked, marks]
theorem marked_all (bs : List UInt8) (k n : Nat) (h : bs.length = n) : marked bs k n = marks k n := by simp [marked, ← h]
theorem marked_set (bs : List UInt8) (k j : Nat) (h : j < bs.length) : (marked bs k j).set j (UInt8.ofNat (k + j)) = marked bs k (j + 1) := by
  unfold marked
  rw [List.set_append_right _ _ (by rw [marks_length]; exact Nat.le_refl _), marks_length, Nat.sub_self, List.drop_eq_getElem_cons h, List.set_cons_zero]
  simp [marks, List.range_succ]
theorem marked_length (bs : List UInt8) (k j : Nat) (h : j ≤ bs.length) : (marked bs k j).length = bs.length := by
  simp [marked, marks_length]; omega

theorem Row.store {w : World} {g : Nat} {bs : List UInt8} (h : Row w g bs) (j : Nat) (x : UInt8) :
    Row (w.setCell ⟨g, j, none⟩ (cb x)) g (bs.set j x) ∧ w.grownBy (w.setCell ⟨g, j, none⟩ (cb x)) (some g) := by
  obtain ⟨cur, hg, hl, hm, ht⟩ := h
  refine ⟨⟨cur.setIfInBounds j (cb x), heap_setCell_same w g j cur _ (cb x) hg, by simpa using hl, by simpa using hm, ?_⟩, ⟨rfl, rfl, rfl, by simp, fun k _ hk => heap_setCell_other w ⟨g, j, none⟩ k (cb x) (fun e => hk (by simp [e]))⟩⟩
  rw [Array.toList_setIfInBounds, List.length_set, List.take_set, ht, List.map_set]
theorem Row.free {w : World} {g : Nat} {bs : List UInt8} (h : Row w g bs) (j : Nat) : w.frozen? ⟨g, j, none⟩ = false := by
  obtain ⟨cur, hg, _⟩ := h
  exact frozen_of_row w g j cur _ hg
theorem grown_next {a b c : World} {g : Nat} (h : a.grownBy b (some g)) (k : b.grownBy c (some g)) : a.grownBy c (some g) :=
  ⟨k.os.trans h.os, k.tape.trans h.tape, k.output.trans h.output, Nat.le_trans h.size k.size, fun i hi hne => (k.block i (Nat.lt_of_lt_of_le hi h.size) hne).trans (h.block i hi hne)⟩

theorem reads_of_row {w : World} {a : Option Addr} {len cap : Nat} {zs : List Int}
    (h : (a = none ∧ len = 0 ∧ cap = 0 ∧ zs = []) ∨ ∃ x, a = some x ∧ len ≤ cap ∧ cap ≤ maxLen ∧ zs.length = cap ∧ (∀ i, i < zs.length → w.cell? (x.add i) = some (.int .u8 (zs.getD i 0))) ∧ ∀ n ∈ zs, (Lit.int .u8 n).wf = true) :
    ∃ bs, Reads w a len bs := by
  rcases h with ⟨rfl, rfl, rfl, rfl⟩ | ⟨x, rfl, hl, hm, hz, hc, hw⟩
  · exact ⟨[], rfl, .inl rfl⟩
  · by_cases h0 : len = 0
    · subst h0; exact ⟨[], rfl, .inl rfl⟩
    · obtain ⟨b, off, spot⟩ := x
      have hc0 := hc 0 (by omega)
      have hspot : spot = none := by simpa [Addr.add] using World.cell?_spot hc0
      subst hspot
      refine ⟨(zs.take len).map fun n => UInt8.ofNat n.toNat, by simp; omega, .inr ⟨b, off, rfl, fun j hj => ?_⟩⟩
      have hj' : j < zs.length := by omega
      have h1 := hc j hj'
      rw [Addr.add_lit] at h1
      rw [h1]
      have hmem : zs.getD j 0 ∈ zs := by
        rw [show zs.getD j 0 = zs[j] from by simp [List.getD, List.getElem?_eq_getElem hj']]
        exact List.getElem_mem hj'
      have hwf := bounds_u8 (hw _ hmem)
      have e : ((zs.take len).map fun n => UInt8.ofNat n.toNat).getD j 0 = UInt8.ofNat (zs.getD j 0).toNat := by
        simp [List.getD, hj', hj]
      rw [e]
      congr 2
      rw [UInt8.toNat_ofNat']
      omega

set_option maxHeartbeats 400000 in
theorem l1In_any (x lo hi : Int) (w : World) : Calls Tryz.prog 13 #[.int .i64 x, .int .i64 lo, .int .i64 hi] w fun e w' => e = .returned (.bool (inB x lo hi)) ∧ w' = w := by
  by_cases h1 : lo ≤ x
  · by_cases h2 : x ≤ hi
    · go_enter Tryz.func13, Tryz.ntmps13
      go_wp2
      go_ret
      exact ⟨ret_bool (by simp [inB, h1, h2]), rfl⟩
    · go_enter Tryz.func13, Tryz.ntmps13
      go_wp2
      go_ret
      exact ⟨ret_bool (by simp [inB, h1]; omega), rfl⟩
  · go_enter Tryz.func13, Tryz.ntmps13
    go_wp2
    go_ret
    exact ⟨ret_bool (by simp [inB]; omega), rfl⟩

def hiB (n : Int) : UInt8 := UInt8.ofNat ((n / 256) % 256).toNat
def loB (n : Int) : UInt8 := UInt8.ofNat (n % 256).toNat
theorem hiB_val (n : Int) : n / 256 % 256 = ((hiB n).toNat : Int) := by
  unfold hiB; rw [UInt8.toNat_ofNat']; omega
theorem loB_val (n : Int) : n % 256 = ((loB n).toNat : Int) := by
  unfold loB; rw [UInt8.toNat_ofNat']; omega

/-- Block g is a row of c bytes that may be written; the first ones are bs. -/
def Own (w : World) (g c : Nat) (bs : List UInt8) : Prop :=
  ∃ cur, w.heap[g]? = some (.cells cur 5 (0, 0)) ∧ bs.length ≤ c ∧ c ≤ maxLen ∧ cur.size = c ∧ cur.toList.take bs.length = bs.map cb
theorem Own.row {w : World} {g c : Nat} {bs : List UInt8} (h : Own w g c bs) : Row w g bs := by
  obtain ⟨cur, hg, h1, h2, h3, h4⟩ := h
  exact ⟨cur, hg, by omega, by omega, h4⟩
theorem Own.of_block {w w' : World} {g c : Nat} {bs : List UInt8} (h : Own w g c bs) (e : w'.heap[g]? = w.heap[g]?) : Own w' g c bs := by
  obtain ⟨cur, hg, r⟩ := h
  exact ⟨cur, e.trans hg, r⟩
theorem Own.lt {w : World} {g c : Nat} {bs : List UInt8} (h : Own w g c bs) : g < w.heap.size := h.row.lt
theorem Own.below {w w' : World} {g c : Nat} {bs : List UInt8} (h : Own w g c bs) (hb : Below w.heap.size w w') : Own w' g c bs := h.of_block (hb.block g h.lt)
theorem Own.grown {w w' : World} {g c k : Nat} {bs : List UInt8} (h : Own w g c bs) (hg : w.grownBy w' (some k)) (hne : g ≠ k) : Own w' g c bs := h.of_block (hg.block g h.lt (by simpa using hne))
theorem Own.cell {w : World} {g c : Nat} {bs : List UInt8} (h : Own w g c bs) {n : Nat} (hn : bs.length = n) : ∀ j, j < n → w.cell? ⟨g, 0 + j, none⟩ = some (.int .u8 ((bs.getD j 0).toNat : Int)) := fun j hj => by rw [Nat.zero_add]; exact h.row.cell j (by omega)
theorem Own.le {w : World} {g c : Nat} {bs : List UInt8} (h : Own w g c bs) : bs.length ≤ c := by obtain ⟨cur, _, h1, _⟩ := h; exact h1
/-- The first bytes of a row. -/
theorem Own.take {w : World} {g c : Nat} {bs : List UInt8} (h : Own w g c bs) (k : Nat) : Own w g c (bs.take k) := by
  obtain ⟨cur, hg, h1, h2, h3, h4⟩ := h
  refine ⟨cur, hg, by simp; omega, h2, h3, ?_⟩
  have : (bs.take k).length = min k bs.length := by simp
  rw [this, List.map_take, ← h4, List.take_take]
theorem Own.owns {w : World} {g c n : Nat} {bs : List UInt8} (h : Own w g c bs) (hn : bs.length = n) {base : Nat} (hb : base ≤ g) : w.ownsRow base 5 1 (.slice (some ⟨g, 0, none⟩) n c) n (bs.map cb) := by
  obtain ⟨cur, hg, h1, h2, h3, h4⟩ := h
  subst hn
  exact ⟨by simp, .inr ⟨g, c, cur, rfl, hb, hg, h1, h2, by omega, by simpa using h4⟩⟩
/-- What is owned is a row. -/
theorem own_row {w : World} {base : Nat} {v : Value} {n : Nat} {bs : List UInt8} (h : w.ownsRow base 5 1 v n (bs.map cb)) (hv : v ≠ .slice none 0 0) :
    ∃ g c, v = .slice (some ⟨g, 0, none⟩) n c ∧ base ≤ g ∧ Own w g c bs := by
  have hlen : bs.length = n := by simpa using h.1
  rcases h.2 with ⟨h', _⟩ | ⟨g', cap', cur, h', hb, hg, hnc, hm, hcs, htake⟩
  · exact absurd h' hv
  · exact ⟨g', cap', h', hb, cur, hg, by omega, hm, by omega, by rw [hlen]; simpa using htake⟩
theorem map_cb_cell {w : World} {b off len : Nat} {bs : List UInt8} (hn : bs.length = len) (hc : ∀ j, j < len → w.cell? ⟨b, off + j, none⟩ = some (.int .u8 ((bs.getD j 0).toNat : Int))) :
    ∀ j u, (bs.map cb)[j]? = some u → w.cell? ((⟨b, off, none⟩ : Addr).add j) = some u := by
  intro j u hu
  have hj : j < bs.length := by
    have := (List.getElem?_eq_some_iff.1 hu).1
    simpa using this
  rw [Addr.add_lit, hc j (by omega), ← hu]
  simp [cb, List.getD, List.getElem?_eq_getElem hj]
theorem cb_cell {w : World} {b off len : Nat} {bs : List UInt8} (hn : bs.length = len) (hc : ∀ j, j < len → w.cell? ⟨b, off + j, none⟩ = some (.int .u8 ((bs.getD j 0).toNat : Int))) :
    ∀ j a, bs[j]? = some a → w.cell? ⟨b, off + j, none⟩ = some (cb a) := by
  intro j a ha
  have hj : j < bs.length := (List.getElem?_eq_some_iff.1 ha).1
  rw [hc j (by omega)]
  simp [cb, List.getD, ha]
theorem one_cb (bs : List UInt8) : ∀ u ∈ bs.map cb, u.oneCell' = true := by
  intro u hu
  obtain ⟨_, _, rfl⟩ := List.mem_map.1 hu
  rfl

theorem info64 : (Tryz.prog.info? 3).map (fun i => (i.zero, i.size, i.bytes)) = some (some (.int .i64 0), 1, 8) := by kernel_rfl

/-- 'make([]byte, n, c)': a row of c noughts, of which the slice shows n. -/
theorem wpList_make_both {P : Program} (w : World) {ops : Array Oper} {rest : List Oper} {o : Oper} {a : Act} {Q : Exit → Act → World → Prop}
    (hg : o.guard = none) (l c : Operand) (t : TypeId) (hop : o.op = Op.makeSlice t l c)
    (e : TypeId) (i : TypeInfo) (z : Value) (h1 : P.underlying t = some (.slice e)) (h2 : P.info? e = some i) (h3 : i.zero = some z) (h4 : i.size = 1)
    (kl kc : IntKind) (L C : Int) (n m : Nat) (hl : a.eval l = .int kl L) (hc : a.eval c = .int kc C) (hL : L = (n : Int)) (hC : C = (m : Int)) (hnm : n ≤ m) (b2 : i.bytes * m ≤ 281474976710656) (b3 : m ≤ maxLen)
    (hK : wpList P ops Q rest (a.put o.dst (.slice (some ⟨w.heap.size, 0, none⟩) n m)) (w.alloc (.cells (madeCells z.cells m) e))) :
    wpList P ops Q (o :: rest) a w := by
  refine wpList_plain hg fun K hK' => ?_
  have h63 : (m : Int) ≤ 9223372036854775807 := by simp [maxLen] at b3; omega
  have hb' : (i.bytes : Int) * (m : Int) ≤ 281474976710656 := by
    have h : ((i.bytes * m : Nat) : Int) ≤ 281474976710656 := by omega
    rwa [Int.natCast_mul] at h
  have hrun := run_make (P := P) w t e i z h1 h2 h3 kl kc n m (by omega) (by omega) hb' h63
  simp only [Int.toNat_natCast, h4, Nat.mul_one] at hrun
  subst hL
  subst hC
  unfold Oper.wp
  simp [execOp, hop, hl, hc, hrun, Result.andThen]
  exact hK' _ _ hK

/-- The bytes of words. -/
def wordBytes : List Int → List UInt8
  | [] => []
  | n :: r => hiB n :: loB n :: wordBytes r
theorem wordBytes_length (ws : List Int) : (wordBytes ws).length = 2 * ws.length := by
  induction ws with
  | nil => rfl
  | cons n r ih => simp [wordBytes, ih]; omega
theorem wordBytes_snoc (ws : List Int) (n : Int) : wordBytes (ws ++ [n]) = wordBytes ws ++ [hiB n, loB n] := by
  induction ws with
  | nil => rfl
  | cons m r ih => simp [wordBytes, ih]

theorem size8 : (Tryz.prog.info? 5).map (·.size) = some 1 := by kernel_rfl
theorem zeros_length (n : Nat) : (madeCells #[.int .u8 0] n).toList.length = n := by rw [toList_madeCells_one]; simp
/-- A row of which the first cells were copied. -/
theorem own_splice {w : World} {g cap : Nat} {L : List Value} {bs : List UInt8} (hL : L.length = cap) (hle : bs.length ≤ cap) (hm : cap ≤ maxLen)
    (hg : w.heap[g]? = some (.cells (splice L 0 (bs.map cb)).toArray 5 (0, 0))) :
    w.ownsRow g 5 1 (.slice (some ⟨g, 0, none⟩) bs.length cap) bs.length (bs.map cb) := by
  refine ⟨by simp, .inr ⟨g, cap, _, rfl, Nat.le_refl _, hg, hle, hm, ?_, ?_⟩⟩
  · rw [List.size_toArray, length_splice _ _ _ (by simp; omega)]; omega
  · simp [splice]

theorem cell_below {w w' : World} {a : Addr} {v : Value} (h : w.cell? a = some v) (hb : Below w.heap.size w w') : w'.cell? a = some v := by
  rw [hb.cell (World.block_lt_of_cell? w _ h)]; exact h
theorem ret_pair {a b : Int} {x y : Bool} (h : a = b) (h2 : x = y) : Ending.returned (.tuple #[.int .i64 a, .bool x]) = .returned (.tuple #[.int .i64 b, .bool y]) := by rw [h, h2]
theorem ret3_int {a b c d : Int} {p q : Bool} (h1 : a = b) (h2 : c = d) (h3 : p = q) : Ending.returned (.tuple #[.int .i64 a, .int .i64 c, .bool p]) = .returned (.tuple #[.int .i64 b, .int .i64 d, .bool q]) := by rw [h1, h2, h3]
theorem below_lit (w : World) (o : Obj) : Below w.heap.size w (w.alloc o) := (Below.refl _ w).alloc (Nat.le_refl _) _
theorem below_lit2 (w : World) (o p : Obj) : Below w.heap.size w ((w.alloc o).alloc p) := ((Below.refl _ w).alloc (Nat.le_refl _) _).alloc (by simp) _
theorem lit_ints (w : World) (zs : List Int) (T : TypeId) : ∀ j, j < zs.length → (w.alloc (.cells (zs.map (Value.int .i64)).toArray T)).cell? ⟨w.heap.size, j, none⟩ = some (.int .i64 (zs.getD j 0)) := by
  intro j hj
  rw [cell_of_row (w.alloc _) _ j _ _ (0, 0) (heap_alloc_new w _)]
  simp [List.getD, List.getElem?_eq_getElem hj]
theorem lit_strs (w : World) (zs : List ByteArray) (T : TypeId) : ∀ j, j < zs.length → (w.alloc (.cells (zs.map Value.string).toArray T)).cell? ⟨w.heap.size, j, none⟩ = some (.string (zs.getD j ⟨#[]⟩)) := by
  intro j hj
  rw [cell_of_row (w.alloc _) _ j _ _ (0, 0) (heap_alloc_new w _)]
  simp [List.getD, List.getElem?_eq_getElem hj]
theorem grown_of_alloc {w w' : World} {o : Obj} {r : Option Nat} (h : (w.alloc o).grownBy w' r) : w.grownBy w' r :=
  ⟨h.os, h.tape, h.output, by have := h.size; simp at this; omega, fun k hk hne => (h.block k (by simp; omega) hne).trans (Below.heap_alloc w o k hk)⟩
theorem below_grows {B : Nat} {a w w' : World} {g : Nat} (h : Below B a w) (hg : w.grownBy w' (some g)) (hB : B ≤ w.heap.size) (hr : B ≤ g) : Below B a w' := h.grown hg hB (fun k e => by simp at e; omega)
theorem grown_below {w w' : World} (h : Below w.heap.size w w') (r : Option Nat) : w.grownBy w' r := ⟨h.os, h.tape, h.output, h.size, fun k hk _ => h.block k hk⟩
theorem cast_byte {x : Nat} (h : x < 256) : wrap64 (x : Int) = (x : Int) := wrap64_in (by omega) (by omega)
theorem own_block {w : World} {B n : Nat} {T : TypeId} {v : Value} {xs : List Value} (h : w.ownsRow B T 1 v n xs) {k : Nat} (hk : v.ownBlock = some k) : B ≤ k := by
  rcases h.2 with ⟨rfl, _⟩ | ⟨g, cap, cur, rfl, hb, _⟩
  · simp [Value.ownBlock] at hk
  · simp [Value.ownBlock] at hk; omega

/-- Whether a number is a sign. -/
def isSign (n : Int) : Prop := (0 ≤ n ∧ n < 55296) ∨ (57343 < n ∧ n < 1114112)
/-- The same, as a flag. -/
def signOkB (n : Int) : Bool := decide ((0 ≤ n ∧ n < 55296) ∨ (57343 < n ∧ n < 1114112))
theorem sign_t {n : Int} (h : isSign n) : signOkB n = true := decide_eq_true h
theorem sign_f {n : Int} (h : ¬ isSign n) : signOkB n = false := decide_eq_false h

def bt (n : Nat) : UInt8 := UInt8.ofNat n
theorem bt_val (n : Nat) (h : n < 256) : (bt n).toNat = n := by simp [bt]; omega
theorem bt_self (b : UInt8) : bt b.toNat = b := by simp [bt]

def signN (n : Nat) : List UInt8 :=
  if n < 128 then [bt n]
  else if n < 2048 then [bt (192 + n / 64), bt (128 + n % 64)]
  else if n < 65536 then [bt (224 + n / 4096), bt (128 + n / 64 % 64), bt (128 + n % 64)]
  else [bt (240 + n / 262144), bt (128 + n / 4096 % 64), bt (128 + n / 64 % 64), bt (128 + n % 64)]

/-- The bytes of a sign; none of what is no sign. -/
def signB (n : Int) : List UInt8 := if signOkB n = true then signN n.toNat else []

theorem signB_not {n : Int} (h : ¬ isSign n) : signB n = [] := by rw [signB, sign_f h]; rfl
theorem signB_one {n : Nat} (h : n < 128) : signB (n : Int) = [bt n] := by
  rw [signB, if_pos (sign_t (show isSign (n : Int) from Or.inl ⟨by omega, by omega⟩)), Int.toNat_natCast, signN, if_pos h]
theorem signB_two {n : Nat} (h : 128 ≤ n) (h2 : n < 2048) : signB (n : Int) = [bt (192 + n / 64), bt (128 + n % 64)] := by
  rw [signB, if_pos (sign_t (show isSign (n : Int) from Or.inl ⟨by omega, by omega⟩)), Int.toNat_natCast, signN, if_neg (by omega), if_pos h2]
theorem signB_three {n : Nat} (h : 2048 ≤ n) (h2 : n < 65536) (hs : isSign (n : Int)) : signB (n : Int) = [bt (224 + n / 4096), bt (128 + n / 64 % 64), bt (128 + n % 64)] := by
  rw [signB, if_pos (sign_t hs), Int.toNat_natCast, signN, if_neg (by omega), if_neg (by omega), if_pos h2]
theorem signB_four {n : Nat} (h : 65536 ≤ n) (hs : isSign (n : Int)) : signB (n : Int) = [bt (240 + n / 262144), bt (128 + n / 4096 % 64), bt (128 + n / 64 % 64), bt (128 + n % 64)] := by
  rw [signB, if_pos (sign_t hs), Int.toNat_natCast, signN, if_neg (by omega), if_neg (by omega), if_neg (by omega)]

theorem signB_len (n : Int) : (signB n).length ≤ 4 := by
  unfold signB signN; repeat' split
  all_goals simp
theorem signB_pos {n : Int} (h : isSign n) : 0 < (signB n).length := by
  unfold signB signN; rw [if_pos (sign_t h)]; repeat' split
  all_goals simp

/-- The byte at a place, as a number (0 where there is none). -/
def gv (t : List UInt8) (k : Nat) : Nat := (t.getD k 0).toNat
theorem gv_lt (t : List UInt8) (k : Nat) : gv t k < 256 := UInt8.toNat_lt _
theorem gv_bt (t : List UInt8) (k : Nat) (h : k < t.length) : t[k] = bt (gv t k) := by
  simp [gv, bt, List.getD, List.getElem?_eq_getElem h]

/-- The sign n stands at the head of t. -/
def Got (t : List UInt8) (n : Int) : Prop := isSign n ∧ signB n <+: t

/-- What is read of a head, whatever it is. -/
def headSize (c : Nat) : Nat := if 240 ≤ c then 4 else if 224 ≤ c then 3 else if 192 ≤ c then 2 else 1
def headBits (c : Nat) : Nat := if 240 ≤ c then c - 240 else if 224 ≤ c then c - 224 else if 192 ≤ c then c - 192 else c
def cand (t : List UInt8) : Nat :=
  let c := gv t 0
  if 240 ≤ c then (c - 240) * 262144 + (gv t 1 % 64) * 4096 + (gv t 2 % 64) * 64 + gv t 3 % 64
  else if 224 ≤ c then (c - 224) * 4096 + (gv t 1 % 64) * 64 + gv t 2 % 64
  else if 192 ≤ c then (c - 192) * 64 + gv t 1 % 64
  else c

theorem got_cand {t : List UInt8} {n : Int} (h : Got t n) : n = (cand t : Int) ∧ headSize (gv t 0) = (signB n).length := by
  obtain ⟨hs, r, rfl⟩ := h
  have h0 : 0 ≤ n := by rcases hs with h | h <;> omega
  obtain ⟨m, rfl⟩ := Int.eq_ofNat_of_zero_le h0
  have hm : m < 1114112 := by rcases hs with h | h <;> omega
  by_cases h1 : m < 128
  · rw [signB_one h1]
    have e0 : gv ([bt m] ++ r) 0 = m := by simp [gv]; exact bt_val _ (by omega)
    simp only [cand, headSize, e0]
    constructor
    · repeat' split
      all_goals omega
    · repeat' split
      all_goals first | omega | simp
  by_cases h2 : m < 2048
  · rw [signB_two (by omega) h2]
    have e0 : gv ([bt (192 + m / 64), bt (128 + m % 64)] ++ r) 0 = 192 + m / 64 := by simp [gv]; exact bt_val _ (by omega)
    have e1 : gv ([bt (192 + m / 64), bt (128 + m % 64)] ++ r) 1 = 128 + m % 64 := by simp [gv]; exact bt_val _ (by omega)
    simp only [cand, headSize, e0, e1]
    constructor
    · repeat' split
      all_goals omega
    · repeat' split
      all_goals first | omega | simp
  by_cases h3 : m < 65536
  · rw [signB_three (by omega) h3 hs]
    have e0 : gv ([bt (224 + m / 4096), bt (128 + m / 64 % 64), bt (128 + m % 64)] ++ r) 0 = 224 + m / 4096 := by simp [gv]; exact bt_val _ (by omega)
    have e1 : gv ([bt (224 + m / 4096), bt (128 + m / 64 % 64), bt (128 + m % 64)] ++ r) 1 = 128 + m / 64 % 64 := by simp [gv]; exact bt_val _ (by omega)
    have e2 : gv ([bt (224 + m / 4096), bt (128 + m / 64 % 64), bt (128 + m % 64)] ++ r) 2 = 128 + m % 64 := by simp [gv]; exact bt_val _ (by omega)
    simp only [cand, headSize, e0, e1, e2]
    constructor
    · repeat' split
      all_goals omega
    · repeat' split
      all_goals first | omega | simp
  · rw [signB_four (by omega) hs]
    have e0 : gv ([bt (240 + m / 262144), bt (128 + m / 4096 % 64), bt (128 + m / 64 % 64), bt (128 + m % 64)] ++ r) 0 = 240 + m / 262144 := by simp [gv]; exact bt_val _ (by omega)
    have e1 : gv ([bt (240 + m / 262144), bt (128 + m / 4096 % 64), bt (128 + m / 64 % 64), bt (128 + m % 64)] ++ r) 1 = 128 + m / 4096 % 64 := by simp [gv]; exact bt_val _ (by omega)
    have e2 : gv ([bt (240 + m / 262144), bt (128 + m / 4096 % 64), bt (128 + m / 64 % 64), bt (128 + m % 64)] ++ r) 2 = 128 + m / 64 % 64 := by simp [gv]; exact bt_val _ (by omega)
    have e3 : gv ([bt (240 + m / 262144), bt (128 + m / 4096 % 64), bt (128 + m / 64 % 64), bt (128 + m % 64)] ++ r) 3 = 128 + m % 64 := by simp [gv]; exact bt_val _ (by omega)
    simp only [cand, headSize, e0, e1, e2, e3]
    constructor
    · repeat' split
      all_goals omega
    · repeat' split
      all_goals first | omega | simp

theorem got_unique {t : List UInt8} {n m : Int} (h : Got t n) (k : Got t m) : n = m := by
  rw [(got_cand h).1, (got_cand k).1]

/-- What GetSign answers of what stands at a place. -/
def GotAt (bs : List UInt8) (at_ : Int) (r : Int × Int × Bool) : Prop :=
  (r.2.2 = true ∧ 0 ≤ at_ ∧ at_ < (bs.length : Int) ∧ Got (bs.drop at_.toNat) r.1 ∧ r.2.1 = at_ + ((signB r.1).length : Int)) ∨
  (r = (0, 0, false) ∧ ¬ (0 ≤ at_ ∧ at_ < (bs.length : Int) ∧ ∃ n, Got (bs.drop at_.toNat) n))

theorem gotAt_unique {bs : List UInt8} {at_ : Int} {r s : Int × Int × Bool} (h : GotAt bs at_ r) (k : GotAt bs at_ s) : r = s := by
  rcases h with ⟨a1, a2, a3, a4, a5⟩ | ⟨rfl, a⟩ <;> rcases k with ⟨b1, b2, b3, b4, b5⟩ | ⟨rfl, b⟩
  · have e := got_unique a4 b4
    obtain ⟨r1, r2, r3⟩ := r
    obtain ⟨s1, s2, s3⟩ := s
    simp only at a1 a4 a5 b1 b4 b5 e
    subst e
    rw [a1, b1, a5, b5]
  · exact absurd ⟨a2, a3, _, a4⟩ b
  · exact absurd ⟨b2, b3, _, b4⟩ a
  · rfl

/-- l are the signs of t. -/
def Signed (t : List UInt8) (l : List Int) : Prop := (∀ n ∈ l, isSign n) ∧ l.flatMap signB = t

theorem signed_nil : Signed [] [] := ⟨by simp, rfl⟩
theorem signed_cons {t : List UInt8} {n : Int} {l : List Int} (h : isSign n) (k : Signed t l) : Signed (signB n ++ t) (n :: l) :=
  ⟨by intro m hm; rcases List.mem_cons.1 hm with rfl | hm
      · exact h
      · exact k.1 m hm, by rw [List.flatMap_cons, k.2]⟩
theorem signed_got {t : List UInt8} {l : List Int} (h : Signed t l) (ht : t ≠ []) : ∃ n l', l = n :: l' ∧ Got t n ∧ Signed (t.drop (signB n).length) l' := by
  obtain ⟨h1, rfl⟩ := h
  cases l with
  | nil => exact absurd rfl ht
  | cons n l' =>
    refine ⟨n, l', rfl, ⟨h1 n (by simp), ?_⟩, fun m hm => h1 m (by simp [hm]), ?_⟩
    · rw [List.flatMap_cons]; exact List.prefix_append _ _
    · rw [List.flatMap_cons, List.drop_left]
theorem signed_unique {l l' : List Int} : ∀ {t : List UInt8}, Signed t l → Signed t l' → l = l' := by
  induction l generalizing l' with
  | nil =>
    intro t h k
    obtain ⟨h1, h2⟩ := h
    cases l' with
    | nil => rfl
    | cons n r =>
      have := signB_pos (k.1 n (by simp))
      have e := k.2
      rw [← h2] at e
      simp at e
      rw [e.1] at this; simp at this
  | cons n r ih =>
    intro t h k
    have hp := signB_pos (h.1 n (by simp))
    have ht : t ≠ [] := by
      intro e
      have := h.2
      rw [e] at this
      simp at this
      rw [this.1] at hp; simp at hp
    obtain ⟨n1, l1, e1, g1, s1⟩ := signed_got h ht
    obtain ⟨n2, l2, rfl, g2, s2⟩ := signed_got k ht
    obtain ⟨rfl, rfl⟩ := List.cons.inj e1
    have e := got_unique g1 g2
    subst e
    rw [ih s1 s2]
/-- Where signs were read up to a place at which none stands, the whole has none. -/
theorem signed_stuck {l : List Int} : ∀ {t t' : List UInt8}, (∀ n ∈ l, isSign n) → t = l.flatMap signB ++ t' → t' ≠ [] → (¬ ∃ n, Got t' n) → ¬ ∃ k, Signed t k := by
  induction l with
  | nil =>
    rintro t t' _ rfl ht hn ⟨k, hk⟩
    obtain ⟨n, _, _, g, _⟩ := signed_got hk (by simpa using ht)
    exact hn ⟨n, by simpa using g⟩
  | cons n r ih =>
    rintro t t' hl rfl ht hn ⟨k, hk⟩
    have hg : Got ((n :: r).flatMap signB ++ t') n := ⟨hl n (by simp), by rw [List.flatMap_cons, List.append_assoc]; exact List.prefix_append _ _⟩
    obtain ⟨m, k', _, g, s⟩ := signed_got hk (by intro e; exact ht (List.append_eq_nil_iff.1 e).2)
    have e := got_unique hg g
    subst e
    rw [List.flatMap_cons, List.append_assoc, List.drop_left] at s
    exact ih (fun m hm => hl m (by simp [hm])) rfl ht hn ⟨k', s⟩

/-- What Signs answers. -/
def SignsAre (t : List UInt8) (l : List Int) (ok : Bool) : Prop := (ok = true ∧ Signed t l) ∨ (ok = false ∧ l = [] ∧ ¬ ∃ k, Signed t k)
theorem signsAre_unique {t : List UInt8} {l l' : List Int} {ok ok' : Bool} (h : SignsAre t l ok) (k : SignsAre t l' ok') : l = l' ∧ ok = ok' := by
  rcases h with ⟨rfl, a⟩ | ⟨rfl, rfl, a⟩ <;> rcases k with ⟨rfl, b⟩ | ⟨rfl, rfl, b⟩
  · exact ⟨signed_unique a b, rfl⟩
  · exact absurd ⟨_, a⟩ b
  · exact absurd ⟨_, b⟩ a
  · exact ⟨rfl, rfl⟩
theorem signsAre_len {t : List UInt8} {l : List Int} {ok : Bool} (h : SignsAre t l ok) : l.length ≤ t.length := by
  rcases h with ⟨_, a, rfl⟩ | ⟨_, rfl, _⟩
  · induction l with
    | nil => simp
    | cons n r ih =>
      have := signB_pos (a n (by simp))
      have := ih (fun m hm => a m (by simp [hm]))
      rw [List.flatMap_cons, List.length_append, List.length_cons]; omega
  · simp
theorem signsAre_text (l : List Int) : SignsAre (l.flatMap signB) (l.filter signOkB) true := by
  refine .inl ⟨rfl, ?_⟩
  induction l with
  | nil => exact signed_nil
  | cons n r ih =>
    by_cases h : isSign n
    · rw [List.flatMap_cons, List.filter_cons_of_pos (sign_t h)]
      exact signed_cons h ih
    · rw [List.flatMap_cons, List.filter_cons_of_neg (by rw [sign_f h]; simp), signB_not h]
      exact ih

end Go.Proofs.YtlididoalekeoaaGreatDoor
