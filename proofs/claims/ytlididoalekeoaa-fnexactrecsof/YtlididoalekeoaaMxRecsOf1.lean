/- Parts of the proof, one behind the other. -/
import Derived.WalkKit
import Derived.Laws.BitsAllLaws
import Derived.Test.YtlididoalekeoaaRows
import Derived.ProofKit
import Derived.Below
import Derived.WalkSpells
import Derived.RegionTactic
import Derived.Deep.QuietTactic
import Derived.BigQuiet
import Derived.OpenShut
/- Plain facts on numbers: bitwise operations of int at numbers that are not negative. -/
namespace Go.Proofs.Ytlididoalekeoaa
set_option maxRecDepth 4000
open Go.RowKit

/-- A fact that the walk does not look into: a structure, so that nothing unfolds it. -/
structure Hd (p : Prop) : Prop where
  out : p

theorem i64_or (a b : Nat) (ha : a < 4611686018427387904) (hb : b < 4611686018427387904) : bits .or .i64 (a : Int) (b : Int) = ((a ||| b : Nat) : Int) := by
  have hx : a ||| b < 2 ^ 62 := Nat.or_lt_two_pow (by omega) (by omega)
  show IntKind.i64.wrap ((BitVec.ofInt 64 (a : Int) ||| BitVec.ofInt 64 (b : Int)).toNat : Int) = _
  rw [BitVec.toNat_or, ofInt_u64 a (by omega), ofInt_u64 b (by omega), IntKind.wrap_i64]
  omega
theorem i64_xor (a b : Nat) (ha : a < 4611686018427387904) (hb : b < 4611686018427387904) : bits .xor .i64 (a : Int) (b : Int) = ((a ^^^ b : Nat) : Int) := by
  have hx : a ^^^ b < 2 ^ 62 := Nat.xor_lt_two_pow (by omega) (by omega)
  show IntKind.i64.wrap ((BitVec.ofInt 64 (a : Int) ^^^ BitVec.ofInt 64 (b : Int)).toNat : Int) = _
  rw [BitVec.toNat_xor, ofInt_u64 a (by omega), ofInt_u64 b (by omega), IntKind.wrap_i64]
  omega
theorem i64_and (a b : Nat) (ha : a < 4611686018427387904) (hb : b < 4611686018427387904) : bits .and .i64 (a : Int) (b : Int) = ((a &&& b : Nat) : Int) := by
  have hx : a &&& b < 2 ^ 62 := Nat.and_lt_two_pow _ (by omega)
  show IntKind.i64.wrap ((BitVec.ofInt 64 (a : Int) &&& BitVec.ofInt 64 (b : Int)).toNat : Int) = _
  rw [BitVec.toNat_and, ofInt_u64 a (by omega), ofInt_u64 b (by omega), IntKind.wrap_i64]
  omega
theorem wrap64_in {n : Int} (h0 : -9223372036854775808 ≤ n) (h1 : n ≤ 9223372036854775807) : wrap64 n = n := by unfold wrap64; omega
theorem wrap_byte (b : UInt8) : wrap64 (b.toNat : Int) = (b.toNat : Int) := by
  have := b.toNat_lt; exact wrap64_in (by omega) (by omega)
def inB (x lo hi : Int) : Bool := decide (lo ≤ x ∧ x ≤ hi)
theorem in_t {x lo hi : Int} (h : lo ≤ x ∧ x ≤ hi) : inB x lo hi = true := decide_eq_true h
theorem in_f {x lo hi : Int} (h : ¬(lo ≤ x ∧ x ≤ hi)) : inB x lo hi = false := decide_eq_false h
/-- Two bytes as a word, the higher one first. -/
def wordOf (x y : UInt8) : Nat := 256 * x.toNat + y.toNat
theorem wordOf_lt (x y : UInt8) : wordOf x y < 65536 := by
  have := x.toNat_lt; have := y.toNat_lt; unfold wordOf; omega
theorem word_bits (x y : UInt8) : bits .or .i64 (wrap64 (wrap64 (x.toNat : Int) * 256)) (wrap64 (y.toNat : Int)) = (wordOf x y : Int) := by
  have hx := x.toNat_lt; have hy := y.toNat_lt
  rw [wrap_byte, wrap_byte, wrap64_in (by omega) (by omega)]
  have e : (x.toNat : Int) * 256 = ((x.toNat * 256 : Nat) : Int) := by omega
  rw [e, i64_or _ _ (by omega) (by omega), nat_join 8 _ _ (by omega) (by omega)]
  unfold wordOf; omega

end Go.Proofs.Ytlididoalekeoaa
/- Contracts of the helpers by which the exact laws copy, compare, mark and look through a slice of bytes. -/
namespace Go.Proofs.Ytlididoalekeoaa
set_option maxRecDepth 4000
open Go.RowKit

theorem ret_bool {a b : Bool} (h : a = b) : Ending.returned (.bool a) = .returned (.bool b) := by rw [h]
theorem ret_int {k : IntKind} {a b : Int} (h : a = b) : Ending.returned (.int k a) = .returned (.int k b) := by rw [h]

def cb (b : UInt8) : Value := .int .u8 (b.toNat : Int)

/-- The slice at address ao, of len elements, reads as the bytes bs. -/
def Reads (w : World) (ao : Option Addr) (len : Nat) (bs : List UInt8) : Prop :=
  bs.length = len ∧ (len = 0 ∨ ∃ b off, ao = some ⟨b, off, none⟩ ∧ ∀ j, j < len → w.cell? ⟨b, off + j, none⟩ = some (.int .u8 ((bs.getD j 0).toNat : Int)))

/-- Block g is a row of bytes that may be written, and its first ones are bs. -/
def Row (w : World) (g : Nat) (bs : List UInt8) : Prop :=
  ∃ cur, w.heap[g]? = some (.cells cur 5 (0, 0)) ∧ bs.length ≤ cur.size ∧ cur.size ≤ maxLen ∧ cur.toList.take bs.length = bs.map cb

theorem Row.lt {w : World} {g : Nat} {bs : List UInt8} (h : Row w g bs) : g < w.heap.size := by
  obtain ⟨cur, hg, _⟩ := h
  exact (Array.getElem?_eq_some_iff.1 hg).1
theorem Row.of_block {w w' : World} {g : Nat} {bs : List UInt8} (h : Row w g bs) (e : w'.heap[g]? = w.heap[g]?) : Row w' g bs := by
  obtain ⟨cur, hg, r⟩ := h
  exact ⟨cur, e.trans hg, r⟩
theorem Row.below {w w' : World} {g : Nat} {bs : List UInt8} (h : Row w g bs) (hb : Below w.heap.size w w') : Row w' g bs :=
  h.of_block (hb.block g h.lt)
theorem Row.grown {w w' : World} {g k : Nat} {bs : List UInt8} (h : Row w g bs) (hg : w.grownBy w' (some k)) (hne : g ≠ k) : Row w' g bs :=
  h.of_block (hg.block g h.lt (by simpa using hne))
theorem Row.cell {w : World} {g : Nat} {bs : List UInt8} (h : Row w g bs) (j : Nat) (hj : j < bs.length) : w.cell? ⟨g, j, none⟩ = some (.int .u8 ((bs.getD j 0).toNat : Int)) := by
  obtain ⟨cur, hg, hl, _, ht⟩ := h
  rw [cell_of_row w g j cur _ (0, 0) hg]
  have : (cur.toList.take bs.length)[j]? = (bs.map cb)[j]? := by rw [ht]
  rw [List.getElem?_take, if_pos hj] at this
  simp only [Array.getElem?_toList, List.getElem?_map, List.getElem?_eq_getElem hj, Option.map_some] at this
  rw [this]; simp [cb, List.getD, List.getElem?_eq_getElem hj]
theorem Row.reads {w : World} {g : Nat} {bs : List UInt8} {n : Nat} (h : Row w g bs) (hn : bs.length = n) : Reads w (some ⟨g, 0, none⟩) n bs :=
  ⟨hn, .inr ⟨g, 0, rfl, fun j hj => by rw [Nat.zero_add]; exact h.cell j (by omega)⟩⟩
theorem Row.owns {w : World} {g cap : Nat} {bs : List UInt8} {base : Nat} (h : w.ownsRow base 5 1 (.slice (some ⟨g, 0, none⟩) bs.length cap) bs.length (bs.map cb)) : base ≤ g ∧ Row w g bs := by
  rcases h.2 with ⟨h', _⟩ | ⟨g', cap', cur, h', hb, hg, hnc, hm, hcs, htake⟩
  · simp at h'
  · simp only [Value.slice.injEq, Option.some.injEq, Addr.mk.injEq, and_true, true_and] at h'
    obtain ⟨rfl, rfl⟩ := h'
    exact ⟨hb, cur, hg, by omega, by omega, by simpa using htake⟩
theorem Reads.below {w w' : World} {ao : Option Addr} {len : Nat} {bs : List UInt8} (h : Reads w ao len bs) {B : Nat} (hB : B = w.heap.size) (hb : Below B w w') : Reads w' ao len bs := by
  subst hB
  obtain ⟨h1, h2⟩ := h
  refine ⟨h1, ?_⟩
  rcases h2 with h2 | ⟨b, off, h2, h3⟩
  · exact .inl h2
  · refine .inr ⟨b, off, h2, fun j hj => ?_⟩
    have hc := h3 j hj
    have hlt := World.block_lt_of_cell? w _ hc
    rw [hb.cell (p := ⟨b, off + j, none⟩) hlt]; exact hc
theorem below_drewN' (B : Nat) (w : World) (n : Nat) : Below B w (w.drewN n) := ⟨rfl, rfl, rfl, Nat.le_refl _, fun _ _ => rfl⟩
theorem Below.next {a b c : World} (h : Below a.heap.size a b) (k : Below b.heap.size b c) : Below a.heap.size a c := h.trans (k.mono h.size)

def mix (bs : List UInt8) (k : Nat) : List Value := (bs.take k).map cb ++ List.replicate (bs.length - k) (cb 0)
theorem mix_zero (bs : List UInt8) : mix bs 0 = List.replicate bs.length (cb 0) := by simp [mix]
theorem mix_all (bs : List UInt8) : mix bs bs.length = bs.map cb := by simp [mix]
theorem mix_set (bs : List UInt8) (k : Nat) (h : k < bs.length) : (mix bs k).set k (.int .u8 ((bs.getD k 0).toNat : Int)) = mix bs (k + 1) := by
  have e1 : ((bs.take k).map cb).length = k := by simp; omega
  unfold mix
  rw [List.set_append_right _ _ (by omega), e1, Nat.sub_self]
  obtain ⟨m, hm⟩ : ∃ m, bs.length - k = m + 1 := ⟨bs.length - k - 1, by omega⟩
  have hm' : bs.length - (k + 1) = m := by omega
  rw [hm, hm', List.replicate_succ, List.set_cons_zero, List.take_succ_eq_append_getElem h, List.map_append, List.append_assoc]
  congr 1
  simp [cb, List.getD, List.getElem?_eq_getElem h]
theorem mix_get (bs : List UInt8) (k : Nat) (h : k < bs.length) : ∃ v, (mix bs k)[k]? = some v := by
  refine ⟨_, List.getElem?_eq_getElem ?_⟩
  simp [mix]; omega

theorem info8 : (Try.prog.info? 5).map (fun i => (i.zero, i.size, i.bytes)) = some (some (.int .u8 0), 1, 1) := by kernel_rfl

set_option maxHeartbeats 400000 in
theorem toByteS_some (b off len cap : Nat) (bs : List UInt8) (w : World) (hn : bs.length = len) (hc : ∀ j, j < len → w.cell? ⟨b, off + j, none⟩ = some (.int .u8 ((bs.getD j 0).toNat : Int))) (hl : len ≤ 1073741824) :
    Calls Try.prog 14 #[.slice (some ⟨b, off, none⟩) len cap] w fun e w' => e = .returned (.slice (some ⟨w.heap.size, 0, none⟩) len len) ∧ Row w' w.heap.size bs ∧ Below w.heap.size w w' := by
  obtain ⟨i0, hi, hz0, hz1, hz2⟩ := info_parts info8
  have hn' : Hid (bs.length = len) := hn
  have hc' : Hid (∀ j, j < len → w.cell? ⟨b, off + j, none⟩ = some (.int .u8 ((bs.getD j 0).toNat : Int))) := hc
  clear hn hc
  go_enter Try.func14, Try.ntmps14
  go_wp2_with (at_make; refine wpList_make_full _ rfl _ _ 22 rfl w.heap.size 5 i0 (.int .u8 0) 1 Try.underlying22 hi hz0 hz1 _ _ _ _ len rfl rfl rfl rfl ?b1 ?b2 ?b3 ?_)
  case b1 => rw [hz2]; omega
  case b2 => unfold maxLen; omega
  case b3 => exact Nat.le_refl _
  intro w1 hown hgrow
  have h0 : Hid (w1.ownsRow w.heap.size 5 1 (.slice (some ⟨w.heap.size, 0, none⟩) len len) len (mix bs 0)) := by
    show World.ownsRow _ _ _ _ _ _ _
    rw [mix_zero, hn'.out]
    have e := toList_madeCells_one (.int .u8 0) len
    have e2 : (cb 0 : Value) = .int .u8 0 := rfl
    rw [e2, ← e]; exact hown
  have hB1 : Hid (Below w.heap.size w w1) := (Below.refl _ w).grown hgrow (Nat.le_refl _) (fun _ h => by cases h)
  clear hown hgrow
  go_wp2_with fail
  go_loopw [4] (fun i wr => ∃ k : Nat, k ≤ len ∧ i = .int .i64 k ∧ Hid (wr.ownsRow w.heap.size 5 1 (.slice (some ⟨w.heap.size, 0, none⟩) len len) len (mix bs k)) ∧ Hid (Below w.heap.size w wr)) (fun i _ => len - (intOf i).toNat)
  case atStart => exact ⟨0, Nat.zero_le _, rfl, h0, hB1⟩
  case round =>
    obtain ⟨k, hk, rfl, hown, hbel⟩ := hrel
    by_cases hlt : k < len
    · have hlt' : k < bs.length := by rw [hn'.out]; exact hlt
      have hcw := hc'.out k hlt
      have hbl := World.block_lt_of_cell? w _ hcw
      have hcr : wr.cell? ⟨b, off + k, none⟩ = some (.int .u8 ((bs.getD k 0).toNat : Int)) := (hbel.out.cell (p := ⟨b, off + k, none⟩) hbl).trans hcw
      have hfz : wr.frozen? ⟨w.heap.size, k, none⟩ = false := hown.out.frozenAt k
      obtain ⟨vo, hvo⟩ := mix_get bs k hlt'
      have hco : wr.cell? ⟨w.heap.size, k, none⟩ = some vo := (hown.out.cellAt k (by omega)).trans hvo
      have hnext : Hid ((wr.setCell ⟨w.heap.size, k, none⟩ (.int .u8 ((bs.getD k 0).toNat : Int))).ownsRow w.heap.size 5 1 (.slice (some ⟨w.heap.size, 0, none⟩) len len) len (mix bs (k + 1))) := by
        have := (hown.out.stored k (.int .u8 ((bs.getD k 0).toNat : Int))).1
        rw [mix_set bs k hlt'] at this; exact this
      have hbn : Hid (Below w.heap.size w (wr.setCell ⟨w.heap.size, k, none⟩ (.int .u8 ((bs.getD k 0).toNat : Int)))) := hbel.out.setCell (p := ⟨w.heap.size, k, none⟩) (Nat.le_refl _) _
      clear hcw hbl hvo hown hbel hlt'
      generalize (bs.getD k 0).toNat = x at *
      go_wp2
      go_roundw
      case rel => exact ⟨k + 1, by omega, by go_num, hnext, hbn⟩
      case measure => simp [intOf]; omega
    · have hke : k = len := by omega
      have hR : Hid (Row wr w.heap.size bs) := by
        have h1 := hown.out
        rw [hke, ← hn'.out, mix_all] at h1
        exact (Row.owns h1).2
      clear hke hown
      go_wp2
      go_ret
      exact ⟨rfl, hR.out, hbel.out⟩

set_option maxHeartbeats 400000 in
theorem toByteS_none (ao : Option Addr) (cap : Nat) (w : World) :
    Calls Try.prog 14 #[.slice ao 0 cap] w fun e w' => e = .returned (.slice (some ⟨w.heap.size, 0, none⟩) 0 0) ∧ Row w' w.heap.size [] ∧ Below w.heap.size w w' := by
  obtain ⟨i0, hi, hz0, hz1, hz2⟩ := info_parts info8
  go_enter Try.func14, Try.ntmps14
  go_wp2_with (at_make; refine wpList_make_full _ rfl _ _ 22 rfl w.heap.size 5 i0 (.int .u8 0) 1 Try.underlying22 hi hz0 hz1 _ _ _ _ 0 rfl rfl rfl rfl ?b1 ?b2 ?b3 ?_)
  case b1 => rw [hz2]; omega
  case b2 => unfold maxLen; omega
  case b3 => exact Nat.le_refl _
  intro w1 hown hgrow
  have hR : Hid (Row w1 w.heap.size []) := by
    have e := toList_madeCells_one (.int .u8 0) 0
    have h : w1.ownsRow w.heap.size 5 1 (.slice (some ⟨w.heap.size, 0, none⟩) ([] : List UInt8).length 0) ([] : List UInt8).length (([] : List UInt8).map cb) := by
      have h2 : ([] : List UInt8).map cb = (madeCells #[.int .u8 0] 0).toList := by rw [e]; rfl
      rw [h2]; exact hown
    exact (Row.owns h).2
  have hB1 : Hid (Below w.heap.size w w1) := (Below.refl _ w).grown hgrow (Nat.le_refl _) (fun _ h => by cases h)
  clear hown hgrow
  go_wp2_with fail
  refine wp_loop_rounds 1 ?_
  rw [rounds_succ]
  go_wp2
  go_ret
  exact ⟨rfl, hR.out, hB1.out⟩

theorem toByteS_any (ao : Option Addr) (len cap : Nat) (bs : List UInt8) (w : World) (hr : Reads w ao len bs) (hl : len ≤ 1073741824) :
    Calls Try.prog 14 #[.slice ao len cap] w fun e w' => e = .returned (.slice (some ⟨w.heap.size, 0, none⟩) len len) ∧ Row w' w.heap.size bs ∧ Below w.heap.size w w' := by
  obtain ⟨hn, h0 | ⟨b, off, rfl, hc⟩⟩ := hr
  · subst h0
    obtain rfl : bs = [] := List.eq_nil_of_length_eq_zero hn
    exact toByteS_none ao cap w
  · exact toByteS_some b off len cap bs w hn hc hl

set_option maxHeartbeats 400000 in
theorem eqByteS_zero (a1 a2 : Option Addr) (c1 c2 : Nat) (w : World) :
    Calls Try.prog 10 #[.slice a1 0 c1, .slice a2 0 c2] w fun e w' => e = .returned (.bool true) ∧ ∃ n, w' = w.drewN n := by
  go_enter Try.func10, Try.ntmps10
  go_wp2_with fail
  refine wp_loop_rounds 1 ?_
  rw [rounds_succ]
  go_wp2
  go_ret
  exact ⟨rfl, 0, rfl⟩

set_option maxHeartbeats 400000 in
theorem eqByteS_some (b1 o1 c1 b2 o2 c2 len : Nat) (bs : List UInt8) (w : World) (hl : len ≤ 1073741824)
    (h1 : ∀ j, j < len → w.cell? ⟨b1, o1 + j, none⟩ = some (.int .u8 ((bs.getD j 0).toNat : Int))) (h2 : ∀ j, j < len → w.cell? ⟨b2, o2 + j, none⟩ = some (.int .u8 ((bs.getD j 0).toNat : Int))) :
    Calls Try.prog 10 #[.slice (some ⟨b1, o1, none⟩) len c1, .slice (some ⟨b2, o2, none⟩) len c2] w fun e w' => e = .returned (.bool true) ∧ ∃ n, w' = w.drewN n := by
  have H1 : Hid (∀ j, j < len → w.cell? ⟨b1, o1 + j, none⟩ = some (.int .u8 ((bs.getD j 0).toNat : Int))) := h1
  have H2 : Hid (∀ j, j < len → w.cell? ⟨b2, o2 + j, none⟩ = some (.int .u8 ((bs.getD j 0).toNat : Int))) := h2
  clear h1 h2
  have heq : ((len : Int) != (len : Int)) = false := by simp
  go_enter Try.func10, Try.ntmps10
  go_wp2_with fail
  go_loopw [5] (fun i wr => ∃ k n : Nat, k ≤ len ∧ i = .int .i64 k ∧ wr = w.drewN n) (fun i _ => len - (intOf i).toNat)
  case atStart => exact ⟨0, 0, Nat.zero_le _, rfl, rfl⟩
  case round =>
    obtain ⟨k, n, hk, rfl, rfl⟩ := hrel
    by_cases hlt : k < len
    · have g1 := H1.out k hlt
      have g2 := H2.out k hlt
      have hlt' : (k : Int) < (len : Int) := by omega
      have h0 : (0 : Int) ≤ (k : Int) := by omega
      generalize (bs.getD k 0).toNat = x at *
      have hx : ((x : Int) != (x : Int)) = false := by simp
      go_wp2_with fail
      go_quiet (fail)
      go_wp2
      go_roundw
      case rel => exact ⟨k + 1, _, by omega, by go_num, rfl⟩
      case measure => simp [intOf]; omega
    · go_wp2
      go_ret
      exact ⟨rfl, _, rfl⟩

/-- Two slices that read alike: true; nothing turns. -/
theorem eqByteS_true (a1 a2 : Option Addr) (c1 c2 len : Nat) (bs : List UInt8) (w : World) (hl : len ≤ 1073741824) (h1 : Reads w a1 len bs) (h2 : Reads w a2 len bs) :
    Calls Try.prog 10 #[.slice a1 len c1, .slice a2 len c2] w fun e w' => e = .returned (.bool true) ∧ Below w.heap.size w w' := by
  have fin : ∀ (e : Ending) (w' : World), (e = .returned (.bool true) ∧ ∃ n, w' = w.drewN n) → (e = .returned (.bool true) ∧ Below w.heap.size w w') := by
    rintro e w' ⟨rfl, n, rfl⟩
    exact ⟨rfl, below_drewN' _ _ _⟩
  by_cases h0 : len = 0
  · subst h0
    exact (eqByteS_zero a1 a2 c1 c2 w).mono fin
  · obtain ⟨_, h | ⟨b1, o1, rfl, g1⟩⟩ := h1
    · exact absurd h h0
    · obtain ⟨_, h | ⟨b2, o2, rfl, g2⟩⟩ := h2
      · exact absurd h h0
      · exact (eqByteS_some b1 o1 c1 b2 o2 c2 len bs w hl g1 g2).mono fin

/-- What marking writes: the bytes of k, k + 1 and so on. -/
def marks (k n : Nat) : List UInt8 := (List.range n).map fun i => UInt8.ofNat (k + i)
theorem marks_length (k n : Nat) : (marks k n).length = n := by simp [marks]
theorem marks_get (k n j : Nat) (h : j < n) : (marks k n).getD j 0 = UInt8.ofNat (k + j) := by simp [marks, List.getD, h]
theorem mark_val (m : Nat) : IntKind.u8.wrap ((m : Nat) : Int) = (((UInt8.ofNat m).toNat : Nat) : Int) := by
  rw [IntKind.wrap_u8]; simp
def marked (bs : List UInt8) (k j : Nat) : List UInt8 := marks k j ++ bs.drop j
theorem marked_zero (bs : List UInt8) (k : Nat) : marked bs k 0 = bs := by simp [marked, marks]
theorem marked_all (bs : List UInt8) (k n : Nat) (h : bs.length = n) : marked bs k n = marks k n := by simp [marked, ← h]
theorem marked_set (bs : List UInt8) (k j : Nat) (h : j < bs.length) : (marked bs k j).set j (UInt8.ofNat (k + j)) = marked bs k (j + 1) := by
  unfold marked
  rw [List.set_append_right _ _ (by rw [marks_length]; exact Nat.le_refl _), marks_length, Nat.sub_self, List.drop_eq_getElem_cons h, List.set_cons_zero]
  simp [marks, List.range_succ]
theorem marked_length (bs : List UInt8) (k j : Nat) (h : j ≤ bs.length) : (marked bs k j).length = bs.length := by
  simp [marked, marks_length]; omega

theorem Row.store {w : World} {g : Nat} {bs : List UInt8} (h : Row w g bs) (j : Nat) (x : UInt8) :
    Row (w.setCell ⟨g, j, none⟩ (cb x)) g (bs.set j x) ∧ w.grownBy (w.setCell ⟨g, j, none⟩ (cb x)) (some g) := by
  obtain ⟨cur, hg, hl, hm, ht⟩ := h
  refine ⟨⟨cur.setIfInBounds j (cb x), heap_setCell_same w g j cur _ (cb x) hg, by simpa using hl, by simpa using hm, ?_⟩, ⟨rfl, rfl, rfl, by simp, fun k _ hk => heap_setCell_other w ⟨g, j, none⟩ k (cb x) (fun e => hk (by simp [e]))⟩⟩
  rw [Array.toList_setIfInBounds, List.length_set, List.take_set, ht, List.map_set]
theorem Row.free {w : World} {g : Nat} {bs : List UInt8} (h : Row w g bs) (j : Nat) : w.frozen? ⟨g, j, none⟩ = false := by
  obtain ⟨cur, hg, _⟩ := h
  exact frozen_of_row w g j cur _ hg
theorem grown_next {a b c : World} {g : Nat} (h : a.grownBy b (some g)) (k : b.grownBy c (some g)) : a.grownBy c (some g) :=
  ⟨k.os.trans h.os, k.tape.trans h.tape, k.output.trans h.output, Nat.le_trans h.size k.size, fun i hi hne => (k.block i (Nat.lt_of_lt_of_le hi h.size) hne).trans (h.block i hi hne)⟩

set_option maxHeartbeats 400000 in
theorem markByteS_any (g len cap m : Nat) (bs : List UInt8) (w : World) (hn : bs.length = len) (hR : Row w g bs) (hl : len ≤ 1073741824) (hm : m ≤ 1099511627776) :
    Calls Try.prog 11 #[.slice (some ⟨g, 0, none⟩) len cap, .int .i64 m] w fun e w' => e = .returned (.int .i64 ((m + len : Nat) : Int)) ∧ Row w' g (marks m len) ∧ w.grownBy w' (some g) := by
  have hn' : Hid (bs.length = len) := hn
  clear hn
  go_enter Try.func11, Try.ntmps11
  go_wp2_with fail
  go_loopw [1, 5] (fun q i wr => ∃ k : Nat, k ≤ len ∧ i = .int .i64 k ∧ q = .int .i64 ((m + k : Nat) : Int) ∧ Hid (Row wr g (marked bs m k)) ∧ Hid (w.grownBy wr (some g))) (fun _ i _ => len - (intOf i).toNat)
  case atStart => exact ⟨0, Nat.zero_le _, rfl, rfl, by rw [marked_zero]; exact hR, World.grownBy.refl _ _⟩
  case round =>
    obtain ⟨k, hk, rfl, rfl, hrow, hgr⟩ := hrel
    by_cases hlt : k < len
    · have hlt' : k < bs.length := by rw [hn'.out]; exact hlt
      have hlt2 : k < (marked bs m k).length := by rw [marked_length _ _ _ (by omega)]; exact hlt'
      have hfz : wr.frozen? ⟨g, k, none⟩ = false := hrow.out.free k
      have hco := hrow.out.cell k hlt2
      have hst := hrow.out.store k (UInt8.ofNat (m + k))
      rw [marked_set bs m k hlt'] at hst
      have hval : cb (UInt8.ofNat (m + k)) = .int .u8 (IntKind.u8.wrap ((m + k : Nat) : Int)) := by rw [mark_val]; rfl
      rw [hval] at hst
      have hnext := hst.1
      have hgn := grown_next hgr.out hst.2
      generalize ((marked bs m k).getD k 0).toNat = x at *
      have HN : Hid (Row (wr.setCell ⟨g, k, none⟩ (.int .u8 (IntKind.u8.wrap ((m + k : Nat) : Int)))) g (marked bs m (k + 1))) := hnext
      have HG : Hid (w.grownBy (wr.setCell ⟨g, k, none⟩ (.int .u8 (IntKind.u8.wrap ((m + k : Nat) : Int)))) (some g)) := hgn
      clear hst hval hnext hgn hgr hrow hlt' hlt2
      go_wp2
      go_roundw
      case rel => exact ⟨k + 1, by omega, by go_num, by go_num, HN, HG⟩
      case measure => simp [intOf]; omega
    · have hke : k = len := by omega
      have hR2 : Hid (Row wr g (marks m len)) := by
        have h1 := hrow.out
        rw [hke, marked_all bs m len hn'.out] at h1
        exact h1
      have hfin : Hid (((m + k : Nat) : Int) = ((m + len : Nat) : Int)) := by show _ = _; rw [hke]
      clear hke hrow
      go_wp2
      go_ret
      exact ⟨ret_int hfin.out, hR2.out, hgr.out⟩

set_option maxHeartbeats 400000 in
theorem heldByteS_any (g len cap m : Nat) (w : World) (hR : Row w g (marks m len)) (hl : len ≤ 1073741824) (hm : m ≤ 1099511627776) :
    Calls Try.prog 12 #[.slice (some ⟨g, 0, none⟩) len cap, .int .i64 m] w fun e w' => e = .returned (.int .i64 ((m + len : Nat) : Int)) ∧ w' = w := by
  have HR : Hid (Row w g (marks m len)) := hR
  clear hR
  go_enter Try.func12, Try.ntmps12
  go_wp2_with fail
  go_loop [1, 5] (fun q i => ∃ k : Nat, k ≤ len ∧ i = .int .i64 k ∧ q = .int .i64 ((m + k : Nat) : Int)) (fun _ i => len - (intOf i).toNat)
  case atStart => exact ⟨0, Nat.zero_le _, rfl, rfl⟩
  case round =>
    obtain ⟨k, hk, rfl, rfl⟩ := hrel
    by_cases hlt : k < len
    · have hco := HR.out.cell k (by rw [marks_length]; exact hlt)
      rw [marks_get m len k hlt, ← mark_val] at hco
      have hne : (IntKind.u8.wrap ((m + k : Nat) : Int) != IntKind.u8.wrap ((m + k : Nat) : Int)) = false := by simp
      go_wp2
      go_round
      case rel => exact ⟨k + 1, by omega, by go_num, by go_num⟩
      case measure => simp [intOf]; omega
    · have hfin : Hid (((m + k : Nat) : Int) = ((m + len : Nat) : Int)) := by show _ = _; rw [show k = len from by omega]
      go_wp2
      go_ret
      exact ⟨ret_int hfin.out, rfl⟩

theorem reads_of_row {w : World} {a : Option Addr} {len cap : Nat} {zs : List Int}
    (h : (a = none ∧ len = 0 ∧ cap = 0 ∧ zs = []) ∨ ∃ x, a = some x ∧ len ≤ cap ∧ cap ≤ maxLen ∧ zs.length = cap ∧ (∀ i, i < zs.length → w.cell? (x.add i) = some (.int .u8 (zs.getD i 0))) ∧ ∀ n ∈ zs, (Lit.int .u8 n).wf = true) :
    ∃ bs, Reads w a len bs := by
  rcases h with ⟨rfl, rfl, rfl, rfl⟩ | ⟨x, rfl, hl, hm, hz, hc, hw⟩
  · exact ⟨[], rfl, .inl rfl⟩
  · by_cases h0 : len = 0
    · subst h0; exact ⟨[], rfl, .inl rfl⟩
    · obtain ⟨b, off, spot⟩ := x
      have hc0 := hc 0 (by omega)
      have hspot : spot = none := by simpa [Addr.add] using World.cell?_spot hc0
      subst hspot
      refine ⟨(zs.take len).map fun n => UInt8.ofNat n.toNat, by simp; omega, .inr ⟨b, off, rfl, fun j hj => ?_⟩⟩
      have hj' : j < zs.length := by omega
      have h1 := hc j hj'
      rw [Addr.add_lit] at h1
      rw [h1]
      have hmem : zs.getD j 0 ∈ zs := by
        rw [show zs.getD j 0 = zs[j] from by simp [List.getD, List.getElem?_eq_getElem hj']]
        exact List.getElem_mem hj'
      have hwf := bounds_u8 (hw _ hmem)
      have e : ((zs.take len).map fun n => UInt8.ofNat n.toNat).getD j 0 = UInt8.ofNat (zs.getD j 0).toNat := by
        simp [List.getD, hj', hj]
      rw [e]
      congr 2
      rw [UInt8.toNat_ofNat']
      omega

set_option maxHeartbeats 400000 in
theorem l1In_any (x lo hi : Int) (w : World) : Calls Try.prog 48 #[.int .i64 x, .int .i64 lo, .int .i64 hi] w fun e w' => e = .returned (.bool (inB x lo hi)) ∧ w' = w := by
  by_cases h1 : lo ≤ x
  · by_cases h2 : x ≤ hi
    · go_enter Try.func48, Try.ntmps48
      go_wp2
      go_ret
      exact ⟨ret_bool (by simp [inB, h1, h2]), rfl⟩
    · go_enter Try.func48, Try.ntmps48
      go_wp2
      go_ret
      exact ⟨ret_bool (by simp [inB, h1]; omega), rfl⟩
  · go_enter Try.func48, Try.ntmps48
    go_wp2
    go_ret
    exact ⟨ret_bool (by simp [inB]; omega), rfl⟩

end Go.Proofs.Ytlididoalekeoaa
/- Small facts that many of the texts share. -/
namespace Go.Proofs.Ytlididoalekeoaa
set_option maxRecDepth 4000
open Go.RowKit

theorem cell_below {w w' : World} {a : Addr} {v : Value} (h : w.cell? a = some v) (hb : Below w.heap.size w w') : w'.cell? a = some v := by
  rw [hb.cell (World.block_lt_of_cell? w _ h)]; exact h
theorem ret_pair {a b : Int} {x y : Bool} (h : a = b) (h2 : x = y) : Ending.returned (.tuple #[.int .i64 a, .bool x]) = .returned (.tuple #[.int .i64 b, .bool y]) := by rw [h, h2]
theorem ret3_int {a b c d : Int} {p q : Bool} (h1 : a = b) (h2 : c = d) (h3 : p = q) : Ending.returned (.tuple #[.int .i64 a, .int .i64 c, .bool p]) = .returned (.tuple #[.int .i64 b, .int .i64 d, .bool q]) := by rw [h1, h2, h3]
theorem below_lit (w : World) (o : Obj) : Below w.heap.size w (w.alloc o) := (Below.refl _ w).alloc (Nat.le_refl _) _
theorem below_lit2 (w : World) (o p : Obj) : Below w.heap.size w ((w.alloc o).alloc p) := ((Below.refl _ w).alloc (Nat.le_refl _) _).alloc (by simp) _
theorem lit_ints (w : World) (zs : List Int) (T : TypeId) : ∀ j, j < zs.length → (w.alloc (.cells (zs.map (Value.int .i64)).toArray T)).cell? ⟨w.heap.size, j, none⟩ = some (.int .i64 (zs.getD j 0)) := by
  intro j hj
  rw [cell_of_row (w.alloc _) _ j _ _ (0, 0) (heap_alloc_new w _)]
  simp [List.getD, List.getElem?_eq_getElem hj]
theorem lit_strs (w : World) (zs : List ByteArray) (T : TypeId) : ∀ j, j < zs.length → (w.alloc (.cells (zs.map Value.string).toArray T)).cell? ⟨w.heap.size, j, none⟩ = some (.string (zs.getD j ⟨#[]⟩)) := by
  intro j hj
  rw [cell_of_row (w.alloc _) _ j _ _ (0, 0) (heap_alloc_new w _)]
  simp [List.getD, List.getElem?_eq_getElem hj]
theorem grown_of_alloc {w w' : World} {o : Obj} {r : Option Nat} (h : (w.alloc o).grownBy w' r) : w.grownBy w' r :=
  ⟨h.os, h.tape, h.output, by have := h.size; simp at this; omega, fun k hk hne => (h.block k (by simp; omega) hne).trans (Below.heap_alloc w o k hk)⟩
theorem below_grows {B : Nat} {a w w' : World} {g : Nat} (h : Below B a w) (hg : w.grownBy w' (some g)) (hB : B ≤ w.heap.size) (hr : B ≤ g) : Below B a w' := h.grown hg hB (fun k e => by simp at e; omega)
theorem grown_below {w w' : World} (h : Below w.heap.size w w') (r : Option Nat) : w.grownBy w' r := ⟨h.os, h.tape, h.output, h.size, fun k hk _ => h.block k hk⟩
theorem cast_byte {x : Nat} (h : x < 256) : wrap64 (x : Int) = (x : Int) := wrap64_in (by omega) (by omega)
theorem own_block {w : World} {B n : Nat} {T : TypeId} {v : Value} {xs : List Value} (h : w.ownsRow B T 1 v n xs) {k : Nat} (hk : v.ownBlock = some k) : B ≤ k := by
  rcases h.2 with ⟨rfl, _⟩ | ⟨g, cap, cur, rfl, hb, _⟩
  · simp [Value.ownBlock] at hk
  · simp [Value.ownBlock] at hk; omega

end Go.Proofs.Ytlididoalekeoaa
/- A slice of bytes that may be nil: what it holds, and the marks of its memory. -/
namespace Go.Proofs.Ytlididoalekeoaa
set_option maxRecDepth 4000
open Go.RowKit

/-- A slice that is nil, or the row of block g. -/
def RowO (w : World) (ao : Option Addr) (g : Nat) (bs : List UInt8) : Prop := (ao = none ∧ bs = []) ∨ (ao = some ⟨g, 0, none⟩ ∧ Row w g bs)
theorem RowO.reads {w : World} {ao : Option Addr} {g n : Nat} {bs : List UInt8} (h : RowO w ao g bs) (hn : bs.length = n) : Reads w ao n bs := by
  rcases h with ⟨rfl, rfl⟩ | ⟨rfl, hR⟩
  · exact ⟨hn, .inl (by simpa using hn.symm)⟩
  · exact hR.reads hn
theorem RowO.below {w w' : World} {ao : Option Addr} {g : Nat} {bs : List UInt8} (h : RowO w ao g bs) (hB : Below w.heap.size w w') : RowO w' ao g bs := by
  rcases h with h | ⟨h, hR⟩
  · exact .inl h
  · exact .inr ⟨h, hR.below hB⟩
theorem RowO.grown {w w' : World} {ao : Option Addr} {g k : Nat} {bs : List UInt8} (h : RowO w ao g bs) (hG : w.grownBy w' (some k)) (hg : g ≠ k) : RowO w' ao g bs := by
  rcases h with h | ⟨h, hR⟩
  · exact .inl h
  · exact .inr ⟨h, hR.grown hG hg⟩

set_option maxHeartbeats 400000 in
theorem markByteS_nil (c : Nat) (m : Int) (w : World) : Calls Try.prog 11 #[.slice none 0 c, .int .i64 m] w fun e w' => e = .returned (.int .i64 m) ∧ w = w' := by
  go_enter Try.func11, Try.ntmps11
  go_wp2_with fail
  refine wp_loop_rounds 1 ?_
  rewrite [rounds_succ]
  go_wp2_with fail
  go_ret
  exact ⟨rfl, rfl⟩

set_option maxHeartbeats 400000 in
theorem heldByteS_nil (c : Nat) (m : Int) (w : World) : Calls Try.prog 12 #[.slice none 0 c, .int .i64 m] w fun e w' => e = .returned (.int .i64 m) ∧ w = w' := by
  go_enter Try.func12, Try.ntmps12
  go_wp2_with fail
  refine wp_loop_rounds 1 ?_
  rewrite [rounds_succ]
  go_wp2_with fail
  go_ret
  exact ⟨rfl, rfl⟩

end Go.Proofs.Ytlididoalekeoaa
