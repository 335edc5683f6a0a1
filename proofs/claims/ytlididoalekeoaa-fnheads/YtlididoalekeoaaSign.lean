/- Contracts of SignOk and PutSign, in the specification and in the program. -/
import Derived.Test.YtlididoalekeoaaCommon
import Derived.Test.YtlididoalekeoaaPut
import Derived.Test.YtlididoalekeoaaUni
import Derived.Lib.SliceRun
namespace Go.Proofs.Ytlididoalekeoaa
set_option maxRecDepth 4000
open Go.RowKit

theorem u8_or128 (x : Nat) (h : x < 64) : bits .or .u8 128 (x : Int) = ((128 + x : Nat) : Int) := by
  have e : (128 : Int) = ((128 : Nat) : Int) := rfl
  rw [e]
  show IntKind.u8.wrap ((BitVec.ofInt 8 ((128 : Nat) : Int) ||| BitVec.ofInt 8 (x : Int)).toNat : Int) = _
  rw [BitVec.toNat_or]
  have h1 : (BitVec.ofInt 8 ((128 : Nat) : Int)).toNat = 128 := by decide
  have h2 : (BitVec.ofInt 8 (x : Int)).toNat = x := by simp; omega
  rw [h1, h2, IntKind.wrap_u8]
  have h3 : 2 ^ 7 * 1 + x = 2 ^ 7 * 1 ||| x := Nat.two_pow_add_eq_or_of_lt (by omega) 1
  have h4 : 128 ||| x = 128 + x := by simpa using h3.symm
  rw [h4]; omega
theorem on_bits (k : Nat) (hk : k < 4611686018427387904) : bits .or .u8 128 (bits .and .i64 (k : Int) 63 % 256) = ((bt (128 + k % 64)).toNat : Int) := by
  have e : (63 : Int) = ((63 : Nat) : Int) := rfl
  rw [e, i64_and k 63 hk (by omega)]
  have h : k &&& 63 = k % 64 := by
    have := Nat.and_two_pow_sub_one_eq_mod k 6
    simpa using this
  rw [h, show (((k % 64 : Nat) : Int) % 256) = ((k % 64 : Nat) : Int) from by omega, u8_or128 _ (by omega), bt_val _ (by omega)]

theorem and63 {X : Int} (k : Nat) (hX : X = (k : Int)) (hk : k < 4611686018427387904) : bits .and .i64 X 63 = ((k % 64 : Nat) : Int) := by
  have e : (63 : Int) = ((63 : Nat) : Int) := rfl
  rw [hX, e, i64_and k 63 hk (by omega)]
  have h : k &&& 63 = k % 64 := by
    have := Nat.and_two_pow_sub_one_eq_mod k 6
    simpa using this
  rw [h]
theorem or_mark {M X : Int} (k a x : Nat) (hM : M = ((2 ^ k * a : Nat) : Int)) (hX : X = (x : Int)) (hx : x < 2 ^ k) (hb : 2 ^ k * a + x < 256) : bits .or .i64 M X % 256 = ((2 ^ k * a + x : Nat) : Int) := by
  rw [hM, hX, i64_or _ _ (by omega) (by omega), ← Nat.two_pow_add_eq_or_of_lt hx a]; omega
theorem or_on {X : Int} (k : Nat) (hX : X = (k : Int)) (hk : k < 4611686018427387904) : bits .or .i64 128 (bits .and .i64 X 63) % 256 = ((128 + k % 64 : Nat) : Int) := or_mark 6 2 (k % 64) rfl (and63 k hX hk) (by omega) (by omega)
theorem or_two {X : Int} (k : Nat) (hX : X = (k : Int)) (hk : k < 32) : bits .or .i64 192 X % 256 = ((192 + k : Nat) : Int) := or_mark 5 6 k rfl hX (by omega) (by omega)
theorem or_three {X : Int} (k : Nat) (hX : X = (k : Int)) (hk : k < 16) : bits .or .i64 224 X % 256 = ((224 + k : Nat) : Int) := or_mark 4 14 k rfl hX (by omega) (by omega)
theorem or_four {X : Int} (k : Nat) (hX : X = (k : Int)) (hk : k < 8) : bits .or .i64 240 X % 256 = ((240 + k : Nat) : Int) := or_mark 3 30 k rfl hX (by omega) (by omega)

theorem built_cells (w : World) (cs : Array Value) (T : TypeId) (xs : List Value) (h : cs.toList = xs) : ∀ j u, xs[j]? = some u → (w.alloc (.cells cs T)).cell? ((⟨w.heap.size, 0, none⟩ : Addr).add j) = some u := by
  intro j u hj
  subst h
  rw [Addr.add_lit, Nat.zero_add, cell_of_row _ _ j cs T (0, 0) (heap_alloc_new w _)]
  simpa using hj
theorem cb_int {x : Int} {b : UInt8} (h : x = (b.toNat : Int)) : Value.int .u8 x = cb b := by rw [h]; rfl

theorem put_one {n : Nat} (h : n < 128) : ([.int .u8 (n : Int)] : List Value) = (signB (n : Int)).map cb := by
  rw [signB_one h]
  simp only [List.map_cons, List.map_nil]
  rw [← cb_int (x := (n : Int)) (by rw [bt_val _ (by omega)])]
theorem put_two {n : Nat} {a b : Int} (h : 128 ≤ n) (h2 : n < 2048) (ha : a = ((192 + n / 64 : Nat) : Int)) (hb : b = ((128 + n % 64 : Nat) : Int)) : ([.int .u8 a, .int .u8 b] : List Value) = (signB (n : Int)).map cb := by
  rw [signB_two h h2]
  simp only [List.map_cons, List.map_nil]
  rw [← cb_int (x := a) (by rw [bt_val _ (by omega)]; exact ha), ← cb_int (x := b) (by rw [bt_val _ (by omega)]; exact hb)]
theorem put_three {n : Nat} {a b c : Int} (h : 2048 ≤ n) (h2 : n < 65536) (hs : isSign (n : Int)) (ha : a = ((224 + n / 4096 : Nat) : Int)) (hb : b = ((128 + n / 64 % 64 : Nat) : Int)) (hc : c = ((128 + n % 64 : Nat) : Int)) : ([.int .u8 a, .int .u8 b, .int .u8 c] : List Value) = (signB (n : Int)).map cb := by
  rw [signB_three h h2 hs]
  simp only [List.map_cons, List.map_nil]
  rw [← cb_int (x := a) (by rw [bt_val _ (by omega)]; exact ha), ← cb_int (x := b) (by rw [bt_val _ (by omega)]; exact hb), ← cb_int (x := c) (by rw [bt_val _ (by omega)]; exact hc)]
theorem put_four {n : Nat} {a b c d : Int} (h : 65536 ≤ n) (hs : isSign (n : Int)) (ha : a = ((240 + n / 262144 : Nat) : Int)) (hb : b = ((128 + n / 4096 % 64 : Nat) : Int)) (hc : c = ((128 + n / 64 % 64 : Nat) : Int)) (hd : d = ((128 + n % 64 : Nat) : Int)) : ([.int .u8 a, .int .u8 b, .int .u8 c, .int .u8 d] : List Value) = (signB (n : Int)).map cb := by
  have hn : n < 1114112 := by rcases hs with k | k <;> omega
  rw [signB_four h hs]
  simp only [List.map_cons, List.map_nil]
  rw [← cb_int (x := a) (by rw [bt_val _ (by omega)]; exact ha), ← cb_int (x := b) (by rw [bt_val _ (by omega)]; exact hb), ← cb_int (x := c) (by rw [bt_val _ (by omega)]; exact hc), ← cb_int (x := d) (by rw [bt_val _ (by omega)]; exact hd)]

theorem nil_len {w : World} {B n : Nat} {v : Value} {bs : List UInt8} (h : w.ownsRow B 5 1 v n (bs.map cb)) (hn : bs.length = n) (hv : v = .slice none 0 0) : bs = [] := by
  rcases h.2 with ⟨_, h0⟩ | ⟨g, cap, cur, h', _⟩
  · exact List.eq_nil_of_length_eq_zero (by omega)
  · rw [hv] at h'; simp at h'
/-- A slice of its own, with a sign's bytes behind. -/
structure Added (w : World) (B : Nat) (bs : List UInt8) (v : Value) (e : Ending) (w' : World) : Prop where
  out : ∃ v', e = .returned v' ∧ w'.ownsRow B 5 1 v' bs.length (bs.map cb) ∧ w.grownBy w' v.ownBlock ∧ (v' = .slice none 0 0 → v = .slice none 0 0 ∧ bs = [])

/-- What PutSign answers: b and the sign's bytes behind it, in new memory. -/
structure PutSigned (w : World) (bs : List UInt8) (e : Ending) (w' : World) : Prop where
  out : ∃ g c, e = .returned (.slice (some ⟨g, 0, none⟩) bs.length c) ∧ w.heap.size ≤ g ∧ Own w' g c bs ∧ Below w.heap.size w w'

set_option maxHeartbeats 400000 in
theorem clone_some (b off len cap : Nat) (bs : List UInt8) (w : World) (hn : bs.length = len) (hc : ∀ j, j < len → w.cell? ⟨b, off + j, none⟩ = some (.int .u8 ((bs.getD j 0).toNat : Int))) (hb : b < w.heap.size) (hl : len ≤ 1073741824) :
    Calls Try.prog 82 #[.slice (some ⟨b, off, none⟩) len cap] w (PutSigned w bs) := by
  obtain ⟨i0, hi, hz0, hz1, hz2⟩ := info_parts info8
  have hn' : Hd (bs.length = len) := ⟨hn⟩
  have hc' : Hd (∀ j, j < len → w.cell? ⟨b, off + j, none⟩ = some (.int .u8 ((bs.getD j 0).toNat : Int))) := ⟨hc⟩
  clear hn hc
  have q : ∀ (w : World) (a : Option Addr) (n c n' c' : Nat), (binOp .eql 22 (.slice a n c) (.slice none n' c')).run Try.prog w = .ok (.bool a.isNone) w := fun w a n c n' c' => Lib.run_eql_slice_nil w _ _ a n c n' c' Try.underlying22
  go_enter Try.func82, Try.ntmps82
  go_wp2_with (at_builtin; refine wpList_append_own _ rfl (.tmp 5) (.tmp 6) 22 rfl w.heap.size 5 i0 (.int .u8 0) 1 1 Try.underlying22 hi hz0 hz1 hz2 rfl (by decide) _ 0 [] rfl ?hown ⟨b, off, none⟩ len cap (bs.map cb) rfl ?hl ?hn ?h1 ?h63 ?hby ?hbase ?_)
  case hown => exact World.ownsRow_made w #[] 0 (Nat.le_refl _) (by unfold maxLen; omega) rfl
  case hl => simpa using hn'.out
  case hn => exact map_cb_cell hn'.out (fun j hj => (((Below.refl w.heap.size w).alloc (Nat.le_refl _) _).cell (p := ⟨b, off + j, none⟩) hb).trans (hc'.out j hj))
  case h1 => exact one_cb bs
  case h63 => unfold maxLen; omega
  case hby => omega
  case hbase => simp
  intro v1 w1 hown1 hgr1 hne1
  obtain ⟨g1, c1, hv1, hg1, hR1⟩ := own_row hown1 hne1
  have hB1 : Hd (Below w.heap.size w w1) := ⟨((Below.refl _ w).alloc (Nat.le_refl _) _).grown hgr1 (by simp) (fun k h => by simp [Value.ownBlock] at h; omega)⟩
  have HR1 : Hd (Own w1 g1 c1 bs) := ⟨hR1⟩
  have hg1' : Hd (w.heap.size ≤ g1) := ⟨hg1⟩
  rw [hv1]
  clear hown1 hgr1 hne1 hv1 hR1 hc' hg1
  go_wp2
  go_ret
  exact ⟨g1, c1, by rw [hn'.out]; rfl, hg1'.out, HR1.out, hB1.out⟩

set_option maxHeartbeats 400000 in
theorem clone_nil (w : World) : Calls Try.prog 82 #[.slice none 0 0] w fun e w' => e = .returned (.slice none 0 0) ∧ w = w' := by
  have q : ∀ (w : World) (a : Option Addr) (n c n' c' : Nat), (binOp .eql 22 (.slice a n c) (.slice none n' c')).run Try.prog w = .ok (.bool a.isNone) w := fun w a n c n' c' => Lib.run_eql_slice_nil w _ _ a n c n' c' Try.underlying22
  go_enter Try.func82, Try.ntmps82
  go_wp2
  go_ret
  exact ⟨rfl, rfl⟩

end Go.Proofs.Ytlididoalekeoaa
