/- Parts of the proof, one behind the other. -/
import Derived.Test.YtlididoalekeoaaGreatDoorMxStoreOk1
import Derived.Lib.SliceRun
/- Parts of the proof, one behind the other. -/
/- Contracts of SignOk and PutSign, in the specification and in the program. -/
namespace Go.Proofs.YtlididoalekeoaaGreatDoor
set_option maxRecDepth 4000
open Go.RowKit

set_option maxHeartbeats 400000 in
theorem implSignOk_any (n : Int) (w : World) : Calls Tryz.prog 106 #[.int .i64 n] w fun e w' => e = .returned (.bool (signOkB n)) ∧ w' = w := by
  by_cases h0 : n < 0
  · have h : Hd (¬ isSign n) := ⟨by unfold isSign; omega⟩
    go_enter Tryz.func106, Tryz.ntmps106
    go_wp2_with fail
    go_ret
    exact ⟨ret_bool (sign_f h.out).symm, rfl⟩
  by_cases h1 : 1114111 < n
  · have h : Hd (¬ isSign n) := ⟨by unfold isSign; omega⟩
    go_enter Tryz.func106, Tryz.ntmps106
    go_wp2_with fail
    go_ret
    exact ⟨ret_bool (sign_f h.out).symm, rfl⟩
  by_cases h2 : n < 55296
  · have h : Hd (isSign n) := ⟨by unfold isSign; omega⟩
    go_enter Tryz.func106, Tryz.ntmps106
    go_wp2_with fail
    go_ret
    exact ⟨ret_bool (sign_t h.out).symm, rfl⟩
  by_cases h3 : 57343 < n
  · have h : Hd (isSign n) := ⟨by unfold isSign; omega⟩
    go_enter Tryz.func106, Tryz.ntmps106
    go_wp2_with fail
    go_ret
    exact ⟨ret_bool (sign_t h.out).symm, rfl⟩
  · have h : Hd (¬ isSign n) := ⟨by unfold isSign; omega⟩
    go_enter Tryz.func106, Tryz.ntmps106
    go_wp2_with fail
    go_ret
    exact ⟨ret_bool (sign_f h.out).symm, rfl⟩

set_option maxHeartbeats 400000 in
theorem specSignOk_any (n : Int) (w : World) : Calls Tryz.prog 92 #[.int .i64 n] w fun e w' => e = .returned (.bool (signOkB n)) ∧ w' = w := by
  by_cases h0 : n < 0
  · have h : Hd (¬ isSign n) := ⟨by unfold isSign; omega⟩
    go_enter Tryz.func92, Tryz.ntmps92
    go_wp2
    go_ret
    exact ⟨ret_bool (sign_f h.out).symm, rfl⟩
  by_cases h1 : 1114111 < n
  · have h : Hd (¬ isSign n) := ⟨by unfold isSign; omega⟩
    go_enter Tryz.func92, Tryz.ntmps92
    go_wp2
    go_ret
    exact ⟨ret_bool (sign_f h.out).symm, rfl⟩
  by_cases h2 : n < 55296
  · have h : Hd (isSign n) := ⟨by unfold isSign; omega⟩
    go_enter Tryz.func92, Tryz.ntmps92
    go_wp2
    go_ret
    exact ⟨ret_bool (sign_t h.out).symm, rfl⟩
  by_cases h3 : 57343 < n
  · have h : Hd (isSign n) := ⟨by unfold isSign; omega⟩
    go_enter Tryz.func92, Tryz.ntmps92
    go_wp2
    go_ret
    exact ⟨ret_bool (by rw [sign_t h.out]; simp; omega), rfl⟩
  · have h : Hd (¬ isSign n) := ⟨by unfold isSign; omega⟩
    go_enter Tryz.func92, Tryz.ntmps92
    go_wp2
    go_ret
    exact ⟨ret_bool (sign_f h.out).symm, rfl⟩

theorem implSignOk_yes {n : Int} (h : Hd (isSign n)) (w : World) : Calls Tryz.prog 106 #[.int .i64 n] w fun e w' => e = .returned (.bool true) ∧ w' = w := by
  have k := implSignOk_any n w
  rw [sign_t h.out] at k; exact k
theorem implSignOk_no {n : Int} (h : Hd (¬ isSign n)) (w : World) : Calls Tryz.prog 106 #[.int .i64 n] w fun e w' => e = .returned (.bool false) ∧ w' = w := by
  have k := implSignOk_any n w
  rw [sign_f h.out] at k; exact k

theorem specSignOk_yes {n : Int} (h : Hd (isSign n)) (w : World) : Calls Tryz.prog 92 #[.int .i64 n] w fun e w' => e = .returned (.bool true) ∧ w' = w := by
  have k := specSignOk_any n w
  rw [sign_t h.out] at k; exact k
theorem specSignOk_no {n : Int} (h : Hd (¬ isSign n)) (w : World) : Calls Tryz.prog 92 #[.int .i64 n] w fun e w' => e = .returned (.bool false) ∧ w' = w := by
  have k := specSignOk_any n w
  rw [sign_f h.out] at k; exact k

theorem u8_or128 (x : Nat) (h : x < 64) : bits .or .u8 128 (x : Int) = ((128 + x : Nat) : Int) := by
  have e : (128 : Int) = ((128 : Nat) : Int) := rfl
  rw [e]
  show IntKind.u8.wrap ((BitVec.ofInt 8 ((128 : Nat) : Int) ||| BitVec.ofInt 8 (x : Int)).toNat : Int) = _
  rw [BitVec.toNat_or]
  have h1 : (BitVec.ofInt 8 ((128 : Nat) : Int)).toNat = 128 := by decide
  have h2 : (BitVec.ofInt 8 (x : Int)).toNat = x := by simp; omega
  rw [h1, h2, IntKind.wrap_u8]
  have h3 : 2 ^ 7 * 1 + x = 2 ^ 7 * 1 ||| x := Nat.two_pow_add_eq_or_of_lt (by omega) 1
  have h4 : 128 ||| x = 128 + x := by simpa using h3.symm
  rw [h4]; omega
theorem on_bits (k : Nat) (hk : k < 4611686018427387904) : bits .or .u8 128 (bits .and .i64 (k : Int) 63 % 256) = ((bt (128 + k % 64)).toNat : Int) := by
  have e : (63 : Int) = ((63 : Nat) : Int) := rfl
  rw [e, i64_and k 63 hk (by omega)]
  have h : k &&& 63 = k % 64 := by
    have := Nat.and_two_pow_sub_one_eq_mod k 6
    simpa using this
  rw [h, show (((k % 64 : Nat) : Int) % 256) = ((k % 64 : Nat) : Int) from by omega, u8_or128 _ (by omega), bt_val _ (by omega)]

theorem and63 {X : Int} (k : Nat) (hX : X = (k : Int)) (hk : k < 4611686018427387904) : bits .and .i64 X 63 = ((k % 64 : Nat) : Int) := by
  have e : (63 : Int) = ((63 : Nat) : Int) := rfl
  rw [hX, e, i64_and k 63 hk (by omega)]
  have h : k &&& 63 = k % 64 := by
    have := Nat.and_two_pow_sub_one_eq_mod k 6
    simpa using this
  rw [h]
theorem or_mark {M X : Int} (k a x : Nat) (hM : M = ((2 ^ k * a : Nat) : Int)) (hX : X = (x : Int)) (hx : x < 2 ^ k) (hb : 2 ^ k * a + x < 256) : bits .or .i64 M X % 256 = ((2 ^ k * a + x : Nat) : Int) := by
  rw [hM, hX, i64_or _ _ (by omega) (by omega), ← Nat.two_pow_add_eq_or_of_lt hx a]; omega
theorem or_on {X : Int} (k : Nat) (hX : X = (k : Int)) (hk : k < 4611686018427387904) : bits .or .i64 128 (bits .and .i64 X 63) % 256 = ((128 + k % 64 : Nat) : Int) := or_mark 6 2 (k % 64) rfl (and63 k hX hk) (by omega) (by omega)
theorem or_two {X : Int} (k : Nat) (hX : X = (k : Int)) (hk : k < 32) : bits .or .i64 192 X % 256 = ((192 + k : Nat) : Int) := or_mark 5 6 k rfl hX (by omega) (by omega)
theorem or_three {X : Int} (k : Nat) (hX : X = (k : Int)) (hk : k < 16) : bits .or .i64 224 X % 256 = ((224 + k : Nat) : Int) := or_mark 4 14 k rfl hX (by omega) (by omega)
theorem or_four {X : Int} (k : Nat) (hX : X = (k : Int)) (hk : k < 8) : bits .or .i64 240 X % 256 = ((240 + k : Nat) : Int) := or_mark 3 30 k rfl hX (by omega) (by omega)

set_option maxHeartbeats 400000 in
theorem onByte_is {m : Int} (k : Nat) (w : World) (hm : m = (k : Int)) (hk : k < 4611686018427387904) : Calls Tryz.prog 107 #[.int .i64 m] w fun e w' => e = .returned (.int .u8 ((bt (128 + k % 64)).toNat : Int)) ∧ w = w' := by
  subst hm
  go_enter Tryz.func107, Tryz.ntmps107
  go_wp2_with fail
  go_ret
  exact ⟨ret_int (on_bits k hk), rfl⟩

theorem built_cells (w : World) (cs : Array Value) (T : TypeId) (xs : List Value) (h : cs.toList = xs) : ∀ j u, xs[j]? = some u → (w.alloc (.cells cs T)).cell? ((⟨w.heap.size, 0, none⟩ : Addr).add j) = some u := by
  intro j u hj
  subst h
  rw [Addr.add_lit, Nat.zero_add, cell_of_row _ _ j cs T (0, 0) (heap_alloc_new w _)]
  simpa using hj
theorem cb_int {x : Int} {b : UInt8} (h : x = (b.toNat : Int)) : Value.int .u8 x = cb b := by rw [h]; rfl

theorem put_one {n : Nat} (h : n < 128) : ([.int .u8 (n : Int)] : List Value) = (signB (n : Int)).map cb := by
  rw [signB_one h]
  simp only [List.map_cons, List.map_nil]
  rw [← cb_int (x := (n : Int)) (by rw [bt_val _ (by omega)])]
theorem put_two {n : Nat} {a b : Int} (h : 128 ≤ n) (h2 : n < 2048) (ha : a = ((192 + n / 64 : Nat) : Int)) (hb : b = ((128 + n % 64 : Nat) : Int)) : ([.int .u8 a, .int .u8 b] : List Value) = (signB (n : Int)).map cb := by
  rw [signB_two h h2]
  simp only [List.map_cons, List.map_nil]
  rw [← cb_int (x := a) (by rw [bt_val _ (by omega)]; exact ha), ← cb_int (x := b) (by rw [bt_val _ (by omega)]; exact hb)]
theorem put_three {n : Nat} {a b c : Int} (h : 2048 ≤ n) (h2 : n < 65536) (hs : isSign (n : Int)) (ha : a = ((224 + n / 4096 : Nat) : Int)) (hb : b = ((128 + n / 64 % 64 : Nat) : Int)) (hc : c = ((128 + n % 64 : Nat) : Int)) : ([.int .u8 a, .int .u8 b, .int .u8 c] : List Value) = (signB (n : Int)).map cb := by
  rw [signB_three h h2 hs]
  simp only [List.map_cons, List.map_nil]
  rw [← cb_int (x := a) (by rw [bt_val _ (by omega)]; exact ha), ← cb_int (x := b) (by rw [bt_val _ (by omega)]; exact hb), ← cb_int (x := c) (by rw [bt_val _ (by omega)]; exact hc)]
theorem put_four {n : Nat} {a b c d : Int} (h : 65536 ≤ n) (hs : isSign (n : Int)) (ha : a = ((240 + n / 262144 : Nat) : Int)) (hb : b = ((128 + n / 4096 % 64 : Nat) : Int)) (hc : c = ((128 + n / 64 % 64 : Nat) : Int)) (hd : d = ((128 + n % 64 : Nat) : Int)) : ([.int .u8 a, .int .u8 b, .int .u8 c, .int .u8 d] : List Value) = (signB (n : Int)).map cb := by
  have hn : n < 1114112 := by rcases hs with k | k <;> omega
  rw [signB_four h hs]
  simp only [List.map_cons, List.map_nil]
  rw [← cb_int (x := a) (by rw [bt_val _ (by omega)]; exact ha), ← cb_int (x := b) (by rw [bt_val _ (by omega)]; exact hb), ← cb_int (x := c) (by rw [bt_val _ (by omega)]; exact hc), ← cb_int (x := d) (by rw [bt_val _ (by omega)]; exact hd)]

theorem nil_len {w : World} {B n : Nat} {v : Value} {bs : List UInt8} (h : w.ownsRow B 5 1 v n (bs.map cb)) (hn : bs.length = n) (hv : v = .slice none 0 0) : bs = [] := by
  rcases h.2 with ⟨_, h0⟩ | ⟨g, cap, cur, h', _⟩
  · exact List.eq_nil_of_length_eq_zero (by omega)
  · rw [hv] at h'; simp at h'
/-- A slice of its own, with a sign's bytes behind. -/
structure Added (w : World) (B : Nat) (bs : List UInt8) (v : Value) (e : Ending) (w' : World) : Prop where
  out : ∃ v', e = .returned v' ∧ w'.ownsRow B 5 1 v' bs.length (bs.map cb) ∧ w.grownBy w' v.ownBlock ∧ (v' = .slice none 0 0 → v = .slice none 0 0 ∧ bs = [])

set_option maxHeartbeats 1000000 in
theorem addSign_no (v : Value) (bs : List UInt8) (len : Nat) (n : Int) (w : World) (B : Nat) (hn : bs.length = len) (hown : w.ownsRow B 5 1 v len (bs.map cb)) (_ : B ≤ w.heap.size) (_ : len ≤ 1073741824) (hs : Hd (¬ isSign n)) :
    Calls Tryz.prog 102 #[v, .int .i64 n] w (Added w B (bs ++ signB n) v) := by
  obtain ⟨i0, hi, hz0, hz1, hz2⟩ := info_parts info8
  have Hn : Hd (bs.length = len) := ⟨hn⟩
  have Hown : Hd (w.ownsRow B 5 1 v len (bs.map cb)) := ⟨hown⟩
  have hv : Hd (bs ++ signB n = bs) := ⟨by rw [signB_not hs.out, List.append_nil]⟩
  clear hown hn
  go_enter Tryz.func102, Tryz.ntmps102
  go_wp2_with fail
  refine (implSignOk_no hs _).mono ?_
  rintro e w1 ⟨rfl, hw1⟩
  replace hw1 := hw1.symm
  subst hw1
  go_wp2_with fail
  go_ret
  exact ⟨v, rfl, by rw [hv.out, Hn.out]; exact Hown.out, World.grownBy.refl _ _, fun h => ⟨h, by rw [hv.out]; exact nil_len Hown.out Hn.out h⟩⟩

set_option maxHeartbeats 1000000 in
theorem addSign_one (v : Value) (bs : List UInt8) (len : Nat) (n : Nat) (w : World) (B : Nat) (hn : bs.length = len) (hown : w.ownsRow B 5 1 v len (bs.map cb)) (hB : B ≤ w.heap.size) (hl : len ≤ 1073741824) (h1 : n < 128) :
    Calls Tryz.prog 102 #[v, .int .i64 (n : Int)] w (Added w B (bs ++ signB (n : Int)) v) := by
  obtain ⟨i0, hi, hz0, hz1, hz2⟩ := info_parts info8
  have Hn : Hd (bs.length = len) := ⟨hn⟩
  have Hown : Hd (w.ownsRow B 5 1 v len (bs.map cb)) := ⟨hown⟩
  have hs : Hd (isSign (n : Int)) := ⟨Or.inl ⟨by omega, by omega⟩⟩
  clear hown hn
  go_enter Tryz.func102, Tryz.ntmps102
  go_wp2_with fail
  refine (implSignOk_yes hs _).mono ?_
  rintro e w1 ⟨rfl, hw1⟩
  replace hw1 := hw1.symm
  subst hw1
  have hp : Hd ([.int .u8 (n : Int)] = (signB (n : Int)).map cb) := ⟨put_one h1⟩
  have hlen : Hd (((signB (n : Int)).map cb).length = 1) := ⟨by rw [← hp.out]; rfl⟩
  have hlen2 : Hd ((bs ++ signB (n : Int)).length = len + 1) := ⟨by have := hlen.out; have := Hn.out; simp at *; omega⟩
  go_wp2_with (at_builtin; refine wpList_append_own _ rfl (.tmp 13) (.tmp 16) 60 rfl B 5 i0 (.int .u8 0) 1 1 Tryz.underlying60 hi hz0 hz1 hz2 rfl (by decide) _ len (bs.map cb) rfl ?hown ⟨w.heap.size, 0, none⟩ 1 1 ((signB (n : Int)).map cb) rfl ?hl ?hn ?h1 ?h63 ?hby ?hbase ?_)
  case hown => exact Hown.out.alloc _
  case hl => rw [hlen.out]
  case hn => exact built_cells w _ _ _ hp.out
  case h1 => exact one_cb _
  case h63 => unfold maxLen; omega
  case hby => omega
  case hbase => simp; omega
  intro v2 w2 hown2 hgr2 hne2
  have HO : Hd (w2.ownsRow B 5 1 v2 (bs ++ signB (n : Int)).length ((bs ++ signB (n : Int)).map cb)) := ⟨by rw [hlen2.out, List.map_append]; exact hown2⟩
  have HG : Hd (w.grownBy w2 v.ownBlock) := ⟨grown_of_alloc hgr2⟩
  have HN : Hd (v2 ≠ .slice none 0 0) := ⟨hne2⟩
  clear hown2 hgr2 hne2 Hown
  go_wp2_with fail
  go_ret
  exact ⟨v2, rfl, HO.out, HG.out, fun h => absurd h HN.out⟩

set_option maxHeartbeats 1000000 in
theorem addSign_two (v : Value) (bs : List UInt8) (len : Nat) (n : Nat) (w : World) (B : Nat) (hn : bs.length = len) (hown : w.ownsRow B 5 1 v len (bs.map cb)) (hB : B ≤ w.heap.size) (hl : len ≤ 1073741824) (h1 : 128 ≤ n) (h2 : n < 2048) :
    Calls Tryz.prog 102 #[v, .int .i64 (n : Int)] w (Added w B (bs ++ signB (n : Int)) v) := by
  obtain ⟨i0, hi, hz0, hz1, hz2⟩ := info_parts info8
  have Hn : Hd (bs.length = len) := ⟨hn⟩
  have Hown : Hd (w.ownsRow B 5 1 v len (bs.map cb)) := ⟨hown⟩
  have hs : Hd (isSign (n : Int)) := ⟨Or.inl ⟨by omega, by omega⟩⟩
  clear hown hn
  go_enter Tryz.func102, Tryz.ntmps102
  go_wp2_with fail
  refine (implSignOk_yes hs _).mono ?_
  rintro e w1 ⟨rfl, hw1⟩
  replace hw1 := hw1.symm
  subst hw1
  go_wp2_with fail
  refine (onByte_is (n) _ (by omega) (by omega)).mono ?_
  rintro e w2 ⟨rfl, hw2⟩
  subst hw2
  have hp : Hd ([.int .u8 (192 + (n : Int) / 64), .int .u8 ((bt (128 + n % 64)).toNat : Int)] = (signB (n : Int)).map cb) := ⟨put_two h1 h2 (by omega) (by rw [bt_val _ (by omega)])⟩
  have hlen : Hd (((signB (n : Int)).map cb).length = 2) := ⟨by rw [← hp.out]; rfl⟩
  have hlen2 : Hd ((bs ++ signB (n : Int)).length = len + 2) := ⟨by have := hlen.out; have := Hn.out; simp at *; omega⟩
  go_wp2_with (at_builtin; refine wpList_append_own _ rfl (.tmp 21) (.tmp 28) 60 rfl B 5 i0 (.int .u8 0) 1 1 Tryz.underlying60 hi hz0 hz1 hz2 rfl (by decide) _ len (bs.map cb) rfl ?hown ⟨w.heap.size, 0, none⟩ 2 2 ((signB (n : Int)).map cb) rfl ?hl ?hn ?h1 ?h63 ?hby ?hbase ?_)
  case hown => exact Hown.out.alloc _
  case hl => rw [hlen.out]
  case hn => exact built_cells w _ _ _ hp.out
  case h1 => exact one_cb _
  case h63 => unfold maxLen; omega
  case hby => omega
  case hbase => simp; omega
  intro v2 w2 hown2 hgr2 hne2
  have HO : Hd (w2.ownsRow B 5 1 v2 (bs ++ signB (n : Int)).length ((bs ++ signB (n : Int)).map cb)) := ⟨by rw [hlen2.out, List.map_append]; exact hown2⟩
  have HG : Hd (w.grownBy w2 v.ownBlock) := ⟨grown_of_alloc hgr2⟩
  have HN : Hd (v2 ≠ .slice none 0 0) := ⟨hne2⟩
  clear hown2 hgr2 hne2 Hown
  go_wp2_with fail
  go_ret
  exact ⟨v2, rfl, HO.out, HG.out, fun h => absurd h HN.out⟩

set_option maxHeartbeats 1000000 in
theorem addSign_three (v : Value) (bs : List UInt8) (len : Nat) (n : Nat) (w : World) (B : Nat) (hn : bs.length = len) (hown : w.ownsRow B 5 1 v len (bs.map cb)) (hB : B ≤ w.heap.size) (hl : len ≤ 1073741824) (h1 : 2048 ≤ n) (h2 : n < 65536) (hs : Hd (isSign (n : Int))) :
    Calls Tryz.prog 102 #[v, .int .i64 (n : Int)] w (Added w B (bs ++ signB (n : Int)) v) := by
  obtain ⟨i0, hi, hz0, hz1, hz2⟩ := info_parts info8
  have Hn : Hd (bs.length = len) := ⟨hn⟩
  have Hown : Hd (w.ownsRow B 5 1 v len (bs.map cb)) := ⟨hown⟩

  clear hown hn
  go_enter Tryz.func102, Tryz.ntmps102
  go_wp2_with fail
  refine (implSignOk_yes hs _).mono ?_
  rintro e w1 ⟨rfl, hw1⟩
  replace hw1 := hw1.symm
  subst hw1
  go_wp2_with fail
  refine (onByte_is (n / 64) _ (by omega) (by omega)).mono ?_
  rintro e w2 ⟨rfl, hw2⟩
  subst hw2
  go_wp2_with fail
  refine (onByte_is (n) _ (by omega) (by omega)).mono ?_
  rintro e w2 ⟨rfl, hw2⟩
  subst hw2
  have hp : Hd ([.int .u8 (224 + (n : Int) / 4096), .int .u8 ((bt (128 + n / 64 % 64)).toNat : Int), .int .u8 ((bt (128 + n % 64)).toNat : Int)] = (signB (n : Int)).map cb) := ⟨put_three h1 h2 hs.out (by omega) (by rw [bt_val _ (by omega)]) (by rw [bt_val _ (by omega)])⟩
  have hlen : Hd (((signB (n : Int)).map cb).length = 3) := ⟨by rw [← hp.out]; rfl⟩
  have hlen2 : Hd ((bs ++ signB (n : Int)).length = len + 3) := ⟨by have := hlen.out; have := Hn.out; simp at *; omega⟩
  go_wp2_with (at_builtin; refine wpList_append_own _ rfl (.tmp 33) (.tmp 43) 60 rfl B 5 i0 (.int .u8 0) 1 1 Tryz.underlying60 hi hz0 hz1 hz2 rfl (by decide) _ len (bs.map cb) rfl ?hown ⟨w.heap.size, 0, none⟩ 3 3 ((signB (n : Int)).map cb) rfl ?hl ?hn ?h1 ?h63 ?hby ?hbase ?_)
  case hown => exact Hown.out.alloc _
  case hl => rw [hlen.out]
  case hn => exact built_cells w _ _ _ hp.out
  case h1 => exact one_cb _
  case h63 => unfold maxLen; omega
  case hby => omega
  case hbase => simp; omega
  intro v2 w2 hown2 hgr2 hne2
  have HO : Hd (w2.ownsRow B 5 1 v2 (bs ++ signB (n : Int)).length ((bs ++ signB (n : Int)).map cb)) := ⟨by rw [hlen2.out, List.map_append]; exact hown2⟩
  have HG : Hd (w.grownBy w2 v.ownBlock) := ⟨grown_of_alloc hgr2⟩
  have HN : Hd (v2 ≠ .slice none 0 0) := ⟨hne2⟩
  clear hown2 hgr2 hne2 Hown
  go_wp2_with fail
  go_ret
  exact ⟨v2, rfl, HO.out, HG.out, fun h => absurd h HN.out⟩

set_option maxHeartbeats 1000000 in
theorem addSign_four (v : Value) (bs : List UInt8) (len : Nat) (n : Nat) (w : World) (B : Nat) (hn : bs.length = len) (hown : w.ownsRow B 5 1 v len (bs.map cb)) (hB : B ≤ w.heap.size) (hl : len ≤ 1073741824) (h1 : 65536 ≤ n) (h2 : n < 1114112) (hs : Hd (isSign (n : Int))) :
    Calls Tryz.prog 102 #[v, .int .i64 (n : Int)] w (Added w B (bs ++ signB (n : Int)) v) := by
  obtain ⟨i0, hi, hz0, hz1, hz2⟩ := info_parts info8
  have Hn : Hd (bs.length = len) := ⟨hn⟩
  have Hown : Hd (w.ownsRow B 5 1 v len (bs.map cb)) := ⟨hown⟩

  clear hown hn
  go_enter Tryz.func102, Tryz.ntmps102
  go_wp2_with fail
  refine (implSignOk_yes hs _).mono ?_
  rintro e w1 ⟨rfl, hw1⟩
  replace hw1 := hw1.symm
  subst hw1
  go_wp2_with fail
  refine (onByte_is (n / 4096) _ (by omega) (by omega)).mono ?_
  rintro e w2 ⟨rfl, hw2⟩
  subst hw2
  go_wp2_with fail
  refine (onByte_is (n / 64) _ (by omega) (by omega)).mono ?_
  rintro e w2 ⟨rfl, hw2⟩
  subst hw2
  go_wp2_with fail
  refine (onByte_is (n) _ (by omega) (by omega)).mono ?_
  rintro e w2 ⟨rfl, hw2⟩
  subst hw2
  have hp : Hd ([.int .u8 (240 + (n : Int) / 262144), .int .u8 ((bt (128 + n / 4096 % 64)).toNat : Int), .int .u8 ((bt (128 + n / 64 % 64)).toNat : Int), .int .u8 ((bt (128 + n % 64)).toNat : Int)] = (signB (n : Int)).map cb) := ⟨put_four h1 hs.out (by omega) (by rw [bt_val _ (by omega)]) (by rw [bt_val _ (by omega)]) (by rw [bt_val _ (by omega)])⟩
  have hlen : Hd (((signB (n : Int)).map cb).length = 4) := ⟨by rw [← hp.out]; rfl⟩
  have hlen2 : Hd ((bs ++ signB (n : Int)).length = len + 4) := ⟨by have := hlen.out; have := Hn.out; simp at *; omega⟩
  go_wp2_with (at_builtin; refine wpList_append_own _ rfl (.tmp 45) (.tmp 58) 60 rfl B 5 i0 (.int .u8 0) 1 1 Tryz.underlying60 hi hz0 hz1 hz2 rfl (by decide) _ len (bs.map cb) rfl ?hown ⟨w.heap.size, 0, none⟩ 4 4 ((signB (n : Int)).map cb) rfl ?hl ?hn ?h1 ?h63 ?hby ?hbase ?_)
  case hown => exact Hown.out.alloc _
  case hl => rw [hlen.out]
  case hn => exact built_cells w _ _ _ hp.out
  case h1 => exact one_cb _
  case h63 => unfold maxLen; omega
  case hby => omega
  case hbase => simp; omega
  intro v2 w2 hown2 hgr2 hne2
  have HO : Hd (w2.ownsRow B 5 1 v2 (bs ++ signB (n : Int)).length ((bs ++ signB (n : Int)).map cb)) := ⟨by rw [hlen2.out, List.map_append]; exact hown2⟩
  have HG : Hd (w.grownBy w2 v.ownBlock) := ⟨grown_of_alloc hgr2⟩
  have HN : Hd (v2 ≠ .slice none 0 0) := ⟨hne2⟩
  clear hown2 hgr2 hne2 Hown
  go_wp2_with fail
  go_ret
  exact ⟨v2, rfl, HO.out, HG.out, fun h => absurd h HN.out⟩

theorem addSign_any (v : Value) (bs : List UInt8) (len : Nat) (n : Int) (w : World) (B : Nat) (hn : bs.length = len) (hown : w.ownsRow B 5 1 v len (bs.map cb)) (hB : B ≤ w.heap.size) (hl : len ≤ 1073741824) :
    Calls Tryz.prog 102 #[v, .int .i64 n] w (Added w B (bs ++ signB n) v) := by
  by_cases hs : isSign n
  · have h0 : 0 ≤ n := by rcases hs with h | h <;> omega
    obtain ⟨m, rfl⟩ := Int.eq_ofNat_of_zero_le h0
    have hm : m < 1114112 := by rcases hs with h | h <;> omega
    by_cases h1 : m < 128
    · exact addSign_one v bs len m w B hn hown hB hl h1
    by_cases h2 : m < 2048
    · exact addSign_two v bs len m w B hn hown hB hl (by omega) h2
    by_cases h3 : m < 65536
    · exact addSign_three v bs len m w B hn hown hB hl (by omega) h3 ⟨hs⟩
    · exact addSign_four v bs len m w B hn hown hB hl (by omega) hm ⟨hs⟩
  · exact addSign_no v bs len n w B hn hown hB hl ⟨hs⟩

/-- What PutSign answers: b and the sign's bytes behind it, in new memory. -/
structure PutSigned (w : World) (bs : List UInt8) (e : Ending) (w' : World) : Prop where
  out : ∃ g c, e = .returned (.slice (some ⟨g, 0, none⟩) bs.length c) ∧ w.heap.size ≤ g ∧ Own w' g c bs ∧ Below w.heap.size w w'

set_option maxHeartbeats 400000 in
theorem clone_some (b off len cap : Nat) (bs : List UInt8) (w : World) (hn : bs.length = len) (hc : ∀ j, j < len → w.cell? ⟨b, off + j, none⟩ = some (.int .u8 ((bs.getD j 0).toNat : Int))) (hb : b < w.heap.size) (hl : len ≤ 1073741824) :
    Calls Tryz.prog 113 #[.slice (some ⟨b, off, none⟩) len cap] w (PutSigned w bs) := by
  obtain ⟨i0, hi, hz0, hz1, hz2⟩ := info_parts info8
  have hn' : Hd (bs.length = len) := ⟨hn⟩
  have hc' : Hd (∀ j, j < len → w.cell? ⟨b, off + j, none⟩ = some (.int .u8 ((bs.getD j 0).toNat : Int))) := ⟨hc⟩
  clear hn hc
  have q : ∀ (w : World) (a : Option Addr) (n c n' c' : Nat), (binOp .eql 60 (.slice a n c) (.slice none n' c')).run Tryz.prog w = .ok (.bool a.isNone) w := fun w a n c n' c' => Lib.run_eql_slice_nil w _ _ a n c n' c' Tryz.underlying60
  go_enter Tryz.func113, Tryz.ntmps113
  go_wp2_with (at_builtin; refine wpList_append_own _ rfl (.tmp 5) (.tmp 6) 60 rfl w.heap.size 5 i0 (.int .u8 0) 1 1 Tryz.underlying60 hi hz0 hz1 hz2 rfl (by decide) _ 0 [] rfl ?hown ⟨b, off, none⟩ len cap (bs.map cb) rfl ?hl ?hn ?h1 ?h63 ?hby ?hbase ?_)
  case hown => exact World.ownsRow_made w #[] 0 (Nat.le_refl _) (by unfold maxLen; omega) rfl
  case hl => simpa using hn'.out
  case hn => exact map_cb_cell hn'.out (fun j hj => (((Below.refl w.heap.size w).alloc (Nat.le_refl _) _).cell (p := ⟨b, off + j, none⟩) hb).trans (hc'.out j hj))
  case h1 => exact one_cb bs
  case h63 => unfold maxLen; omega
  case hby => omega
  case hbase => simp
  intro v1 w1 hown1 hgr1 hne1
  obtain ⟨g1, c1, hv1, hg1, hR1⟩ := own_row hown1 hne1
  have hB1 : Hd (Below w.heap.size w w1) := ⟨((Below.refl _ w).alloc (Nat.le_refl _) _).grown hgr1 (by simp) (fun k h => by simp [Value.ownBlock] at h; omega)⟩
  have HR1 : Hd (Own w1 g1 c1 bs) := ⟨hR1⟩
  have hg1' : Hd (w.heap.size ≤ g1) := ⟨hg1⟩
  rw [hv1]
  clear hown1 hgr1 hne1 hv1 hR1 hc' hg1
  go_wp2
  go_ret
  exact ⟨g1, c1, by rw [hn'.out]; rfl, hg1'.out, HR1.out, hB1.out⟩

set_option maxHeartbeats 400000 in
theorem clone_nil (w : World) : Calls Tryz.prog 113 #[.slice none 0 0] w fun e w' => e = .returned (.slice none 0 0) ∧ w = w' := by
  have q : ∀ (w : World) (a : Option Addr) (n c n' c' : Nat), (binOp .eql 60 (.slice a n c) (.slice none n' c')).run Tryz.prog w = .ok (.bool a.isNone) w := fun w a n c n' c' => Lib.run_eql_slice_nil w _ _ a n c n' c' Tryz.underlying60
  go_enter Tryz.func113, Tryz.ntmps113
  go_wp2
  go_ret
  exact ⟨rfl, rfl⟩

/-- PutSign, in the program, of a slice that is not nil. -/
theorem implPutSign_some (b off len cap : Nat) (bs : List UInt8) (n : Int) (w : World) (hn : bs.length = len) (hc : ∀ j, j < len → w.cell? ⟨b, off + j, none⟩ = some (.int .u8 ((bs.getD j 0).toNat : Int))) (hb : b < w.heap.size) (hl : len ≤ 1073741824) :
    Calls Tryz.prog 110 #[.slice (some ⟨b, off, none⟩) len cap, .int .i64 n] w (PutSigned w (bs ++ signB n)) := by
  have hn' : Hd (bs.length = len) := ⟨hn⟩
  have hc' : Hd (∀ j, j < len → w.cell? ⟨b, off + j, none⟩ = some (.int .u8 ((bs.getD j 0).toNat : Int))) := ⟨hc⟩
  clear hn hc
  go_enter Tryz.func110, Tryz.ntmps110
  go_wp2_with fail
  refine (clone_some b off len cap bs _ hn'.out hc'.out hb hl).mono ?_
  rintro e w1 ⟨g, c, rfl, hg, hO, hB⟩
  have HB : Hd (Below w.heap.size w w1) := ⟨hB⟩
  have Hown : Hd (w1.ownsRow g 5 1 (.slice (some ⟨g, 0, none⟩) len c) len (bs.map cb)) := ⟨hO.owns hn'.out (Nat.le_refl _)⟩
  have hlt : Hd (g ≤ w1.heap.size) := ⟨Nat.le_of_lt hO.lt⟩
  have hg' : Hd (w.heap.size ≤ g) := ⟨hg⟩
  rw [hn'.out]
  clear hO hB hc' hg
  go_wp2_with fail
  refine (addSign_any _ bs len n _ g hn'.out Hown.out hlt.out hl).mono ?_
  rintro e w2 ⟨v2, rfl, hown2, hgr2, hne2⟩
  obtain ⟨g2, c2, hv2, hg2, hO2⟩ := own_row hown2 (fun h => by have := (hne2 h).1; simp at this)
  have HO : Hd (Own w2 g2 c2 (bs ++ signB n)) := ⟨hO2⟩
  have HB2 : Hd (Below w.heap.size w w2) := ⟨HB.out.grown hgr2 HB.out.size (fun k h => by simp [Value.ownBlock] at h; have := hg'.out; omega)⟩
  have hg2' : Hd (w.heap.size ≤ g2) := ⟨Nat.le_trans hg'.out hg2⟩
  rw [hv2]
  clear hown2 hgr2 hne2 hv2 hg2 hO2 Hown HB
  go_wp2_with fail
  go_ret
  exact ⟨g2, c2, by rw [List.length_append]; rfl, hg2'.out, HO.out, HB2.out⟩

/-- PutSign, in the program, of nil. -/
theorem implPutSign_nil (n : Int) (w : World) :
    Calls Tryz.prog 110 #[.slice none 0 0, .int .i64 n] w (Added w w.heap.size (signB n) (.slice none 0 0)) := by
  go_enter Tryz.func110, Tryz.ntmps110
  go_wp2_with fail
  refine (clone_nil _).mono ?_
  rintro e w1 ⟨rfl, hw1⟩
  subst hw1
  go_wp2_with fail
  refine (addSign_any _ [] 0 n _ w.heap.size rfl ⟨rfl, .inl ⟨rfl, rfl⟩⟩ (Nat.le_refl _) (by omega)).mono ?_
  rintro e w2 ⟨v2, rfl, hown2, hgr2, hne2⟩
  have HO : Hd (w2.ownsRow w.heap.size 5 1 v2 (signB n).length ((signB n).map cb)) := ⟨by simpa using hown2⟩
  have HG : Hd (w.grownBy w2 (Value.slice none 0 0).ownBlock) := ⟨hgr2⟩
  have HN : Hd (v2 = .slice none 0 0 → signB n = []) := ⟨fun h => by simpa using (hne2 h).2⟩
  clear hown2 hgr2 hne2
  go_wp2_with fail
  go_ret
  exact ⟨v2, rfl, HO.out, HG.out, fun h => ⟨rfl, HN.out h⟩⟩

set_option maxHeartbeats 1000000 in
theorem specPutSign_no (b off len cap : Nat) (bs : List UInt8) (n : Int) (w : World) (hn : bs.length = len) (hc : ∀ j, j < len → w.cell? ⟨b, off + j, none⟩ = some (.int .u8 ((bs.getD j 0).toNat : Int))) (hb : b < w.heap.size) (hl : len ≤ 1073741824) (hs : Hd (¬ isSign n)) :
    Calls Tryz.prog 82 #[.slice (some ⟨b, off, none⟩) len cap, .int .i64 n] w (PutSigned w (bs ++ signB n)) := by
  obtain ⟨i0, hi, hz0, hz1, hz2⟩ := info_parts info8
  have hn' : Hd (bs.length = len) := ⟨hn⟩
  have hc' : Hd (∀ j, j < len → w.cell? ⟨b, off + j, none⟩ = some (.int .u8 ((bs.getD j 0).toNat : Int))) := ⟨hc⟩
  have hv : Hd (bs ++ signB n = bs) := ⟨by rw [signB_not hs.out, List.append_nil]⟩
  clear hn hc
  go_enter Tryz.func82, Tryz.ntmps82
  go_wp2_with (at_builtin; refine wpList_append_own _ rfl (.tmp 6) (.tmp 7) 60 rfl w.heap.size 5 i0 (.int .u8 0) 1 1 Tryz.underlying60 hi hz0 hz1 hz2 rfl (by decide) _ 0 [] rfl ?hown ⟨b, off, none⟩ len cap (bs.map cb) rfl ?hl ?hn ?h1 ?h63 ?hby ?hbase ?_)
  case hown => exact World.ownsRow_made w #[] 0 (Nat.le_refl _) (by unfold maxLen; omega) rfl
  case hl => simpa using hn'.out
  case hn => exact map_cb_cell hn'.out (fun j hj => (((Below.refl w.heap.size w).alloc (Nat.le_refl _) _).cell (p := ⟨b, off + j, none⟩) hb).trans (hc'.out j hj))
  case h1 => exact one_cb bs
  case h63 => unfold maxLen; omega
  case hby => omega
  case hbase => simp
  intro v1 w1 hown1 hgr1 hne1
  obtain ⟨g1, c1, hv1, hg1, hR1⟩ := own_row hown1 hne1
  have hB1 : Hd (Below w.heap.size w w1) := ⟨((Below.refl _ w).alloc (Nat.le_refl _) _).grown hgr1 (by simp) (fun k h => by simp [Value.ownBlock] at h; omega)⟩
  have HR1 : Hd (Own w1 g1 c1 bs) := ⟨hR1⟩
  have hg1' : Hd (w.heap.size ≤ g1) := ⟨hg1⟩
  rw [hv1]
  clear hown1 hgr1 hne1 hv1 hR1 hc' hg1
  go_wp2_with fail
  refine (specSignOk_no hs _).mono ?_
  rintro e w2 ⟨rfl, hw2⟩
  replace hw2 := hw2.symm
  subst hw2
  go_wp2_with fail
  go_ret
  exact ⟨g1, c1, by rw [hv.out, hn'.out]; rfl, hg1'.out, by rw [hv.out]; exact HR1.out, hB1.out⟩

set_option maxHeartbeats 1000000 in
theorem specPutSign_one (b off len cap : Nat) (bs : List UInt8) (n : Nat) (w : World) (hn : bs.length = len) (hc : ∀ j, j < len → w.cell? ⟨b, off + j, none⟩ = some (.int .u8 ((bs.getD j 0).toNat : Int))) (hb : b < w.heap.size) (hl : len ≤ 1073741824) (h1 : n < 128) :
    Calls Tryz.prog 82 #[.slice (some ⟨b, off, none⟩) len cap, .int .i64 (n : Int)] w (PutSigned w (bs ++ signB (n : Int))) := by
  obtain ⟨i0, hi, hz0, hz1, hz2⟩ := info_parts info8
  have hn' : Hd (bs.length = len) := ⟨hn⟩
  have hc' : Hd (∀ j, j < len → w.cell? ⟨b, off + j, none⟩ = some (.int .u8 ((bs.getD j 0).toNat : Int))) := ⟨hc⟩
  have hs : Hd (isSign (n : Int)) := ⟨Or.inl ⟨by omega, by omega⟩⟩
  clear hn hc
  go_enter Tryz.func82, Tryz.ntmps82
  go_wp2_with (at_builtin; refine wpList_append_own _ rfl (.tmp 6) (.tmp 7) 60 rfl w.heap.size 5 i0 (.int .u8 0) 1 1 Tryz.underlying60 hi hz0 hz1 hz2 rfl (by decide) _ 0 [] rfl ?hown ⟨b, off, none⟩ len cap (bs.map cb) rfl ?hl ?hn ?h1 ?h63 ?hby ?hbase ?_)
  case hown => exact World.ownsRow_made w #[] 0 (Nat.le_refl _) (by unfold maxLen; omega) rfl
  case hl => simpa using hn'.out
  case hn => exact map_cb_cell hn'.out (fun j hj => (((Below.refl w.heap.size w).alloc (Nat.le_refl _) _).cell (p := ⟨b, off + j, none⟩) hb).trans (hc'.out j hj))
  case h1 => exact one_cb bs
  case h63 => unfold maxLen; omega
  case hby => omega
  case hbase => simp
  intro v1 w1 hown1 hgr1 hne1
  obtain ⟨g1, c1, hv1, hg1, hR1⟩ := own_row hown1 hne1
  have hB1 : Hd (Below w.heap.size w w1) := ⟨((Below.refl _ w).alloc (Nat.le_refl _) _).grown hgr1 (by simp) (fun k h => by simp [Value.ownBlock] at h; omega)⟩
  have HR1 : Hd (Own w1 g1 c1 bs) := ⟨hR1⟩
  have hg1' : Hd (w.heap.size ≤ g1) := ⟨hg1⟩
  rw [hv1]
  clear hown1 hgr1 hne1 hv1 hR1 hc' hg1
  go_wp2_with fail
  refine (specSignOk_yes hs _).mono ?_
  rintro e w2 ⟨rfl, hw2⟩
  replace hw2 := hw2.symm
  subst hw2
  have hown : Hd (w1.ownsRow g1 5 1 (.slice (some ⟨g1, 0, none⟩) len c1) len (bs.map cb)) := ⟨HR1.out.owns hn'.out (Nat.le_refl _)⟩
  have hlt : Hd (g1 < w1.heap.size) := ⟨HR1.out.lt⟩
  have hp : Hd ([.int .u8 (n : Int)] = (signB (n : Int)).map cb) := ⟨put_one h1⟩
  have hlen : Hd (((signB (n : Int)).map cb).length = 1) := ⟨by rw [← hp.out]; rfl⟩
  have hlen2 : Hd ((bs ++ signB (n : Int)).length = len + 1) := ⟨by have := hlen.out; have := hn'.out; simp at *; omega⟩
  clear HR1
  go_wp2_with (at_builtin; refine wpList_append_own _ rfl (.tmp 17) (.tmp 20) 60 rfl g1 5 i0 (.int .u8 0) 1 1 Tryz.underlying60 hi hz0 hz1 hz2 rfl (by decide) _ len (bs.map cb) rfl ?hown ⟨w1.heap.size, 0, none⟩ 1 1 ((signB (n : Int)).map cb) rfl ?hl ?hn ?h1 ?h63 ?hby ?hbase ?_)
  case hown => exact hown.out.alloc _
  case hl => rw [hlen.out]
  case hn => exact built_cells w1 _ _ _ hp.out
  case h1 => exact one_cb _
  case h63 => unfold maxLen; omega
  case hby => omega
  case hbase => have := hlt.out; simp; omega
  intro v2 w2 hown2 hgr2 hne2
  rw [← List.map_append] at hown2
  obtain ⟨g2, c2, hv2, hg2, hO2⟩ := own_row hown2 (by simpa using hne2)
  have HO : Hd (Own w2 g2 c2 (bs ++ signB (n : Int))) := ⟨hO2⟩
  have HB2 : Hd (Below w.heap.size w w2) := ⟨hB1.out.grown (grown_of_alloc hgr2) hB1.out.size (fun k h => by simp [Value.ownBlock] at h; have := hg1'.out; omega)⟩
  have hg2' : Hd (w.heap.size ≤ g2) := ⟨Nat.le_trans hg1'.out hg2⟩
  rw [hv2]
  clear hown2 hgr2 hne2 hv2 hg2 hO2 hown hB1
  go_wp2_with fail
  go_ret
  exact ⟨g2, c2, by rw [hlen2.out]; rfl, hg2'.out, HO.out, HB2.out⟩

set_option maxHeartbeats 1000000 in
theorem specPutSign_two (b off len cap : Nat) (bs : List UInt8) (n : Nat) (w : World) (hn : bs.length = len) (hc : ∀ j, j < len → w.cell? ⟨b, off + j, none⟩ = some (.int .u8 ((bs.getD j 0).toNat : Int))) (hb : b < w.heap.size) (hl : len ≤ 1073741824) (h1 : 128 ≤ n) (h2 : n < 2048) :
    Calls Tryz.prog 82 #[.slice (some ⟨b, off, none⟩) len cap, .int .i64 (n : Int)] w (PutSigned w (bs ++ signB (n : Int))) := by
  obtain ⟨i0, hi, hz0, hz1, hz2⟩ := info_parts info8
  have hn' : Hd (bs.length = len) := ⟨hn⟩
  have hc' : Hd (∀ j, j < len → w.cell? ⟨b, off + j, none⟩ = some (.int .u8 ((bs.getD j 0).toNat : Int))) := ⟨hc⟩
  have hs : Hd (isSign (n : Int)) := ⟨Or.inl ⟨by omega, by omega⟩⟩
  clear hn hc
  go_enter Tryz.func82, Tryz.ntmps82
  go_wp2_with (at_builtin; refine wpList_append_own _ rfl (.tmp 6) (.tmp 7) 60 rfl w.heap.size 5 i0 (.int .u8 0) 1 1 Tryz.underlying60 hi hz0 hz1 hz2 rfl (by decide) _ 0 [] rfl ?hown ⟨b, off, none⟩ len cap (bs.map cb) rfl ?hl ?hn ?h1 ?h63 ?hby ?hbase ?_)
  case hown => exact World.ownsRow_made w #[] 0 (Nat.le_refl _) (by unfold maxLen; omega) rfl
  case hl => simpa using hn'.out
  case hn => exact map_cb_cell hn'.out (fun j hj => (((Below.refl w.heap.size w).alloc (Nat.le_refl _) _).cell (p := ⟨b, off + j, none⟩) hb).trans (hc'.out j hj))
  case h1 => exact one_cb bs
  case h63 => unfold maxLen; omega
  case hby => omega
  case hbase => simp
  intro v1 w1 hown1 hgr1 hne1
  obtain ⟨g1, c1, hv1, hg1, hR1⟩ := own_row hown1 hne1
  have hB1 : Hd (Below w.heap.size w w1) := ⟨((Below.refl _ w).alloc (Nat.le_refl _) _).grown hgr1 (by simp) (fun k h => by simp [Value.ownBlock] at h; omega)⟩
  have HR1 : Hd (Own w1 g1 c1 bs) := ⟨hR1⟩
  have hg1' : Hd (w.heap.size ≤ g1) := ⟨hg1⟩
  rw [hv1]
  clear hown1 hgr1 hne1 hv1 hR1 hc' hg1
  go_wp2_with fail
  refine (specSignOk_yes hs _).mono ?_
  rintro e w2 ⟨rfl, hw2⟩
  replace hw2 := hw2.symm
  subst hw2
  have hown : Hd (w1.ownsRow g1 5 1 (.slice (some ⟨g1, 0, none⟩) len c1) len (bs.map cb)) := ⟨HR1.out.owns hn'.out (Nat.le_refl _)⟩
  have hlt : Hd (g1 < w1.heap.size) := ⟨HR1.out.lt⟩
  have hp : Hd ([.int .u8 (bits .or .i64 192 ((n : Int) / 64) % 256), .int .u8 (bits .or .i64 128 (bits .and .i64 ((n : Int)) 63) % 256)] = (signB (n : Int)).map cb) := ⟨put_two h1 h2 (or_two (n / 64) (by omega) (by omega)) (or_on n rfl (by omega))⟩
  have hlen : Hd (((signB (n : Int)).map cb).length = 2) := ⟨by rw [← hp.out]; rfl⟩
  have hlen2 : Hd ((bs ++ signB (n : Int)).length = len + 2) := ⟨by have := hlen.out; have := hn'.out; simp at *; omega⟩
  clear HR1
  go_wp2_with (at_builtin; refine wpList_append_own _ rfl (.tmp 25) (.tmp 34) 60 rfl g1 5 i0 (.int .u8 0) 1 1 Tryz.underlying60 hi hz0 hz1 hz2 rfl (by decide) _ len (bs.map cb) rfl ?hown ⟨w1.heap.size, 0, none⟩ 2 2 ((signB (n : Int)).map cb) rfl ?hl ?hn ?h1 ?h63 ?hby ?hbase ?_)
  case hown => exact hown.out.alloc _
  case hl => rw [hlen.out]
  case hn => exact built_cells w1 _ _ _ hp.out
  case h1 => exact one_cb _
  case h63 => unfold maxLen; omega
  case hby => omega
  case hbase => have := hlt.out; simp; omega
  intro v2 w2 hown2 hgr2 hne2
  rw [← List.map_append] at hown2
  obtain ⟨g2, c2, hv2, hg2, hO2⟩ := own_row hown2 (by simpa using hne2)
  have HO : Hd (Own w2 g2 c2 (bs ++ signB (n : Int))) := ⟨hO2⟩
  have HB2 : Hd (Below w.heap.size w w2) := ⟨hB1.out.grown (grown_of_alloc hgr2) hB1.out.size (fun k h => by simp [Value.ownBlock] at h; have := hg1'.out; omega)⟩
  have hg2' : Hd (w.heap.size ≤ g2) := ⟨Nat.le_trans hg1'.out hg2⟩
  rw [hv2]
  clear hown2 hgr2 hne2 hv2 hg2 hO2 hown hB1
  go_wp2_with fail
  go_ret
  exact ⟨g2, c2, by rw [hlen2.out]; rfl, hg2'.out, HO.out, HB2.out⟩

set_option maxHeartbeats 1000000 in
theorem specPutSign_three (b off len cap : Nat) (bs : List UInt8) (n : Nat) (w : World) (hn : bs.length = len) (hc : ∀ j, j < len → w.cell? ⟨b, off + j, none⟩ = some (.int .u8 ((bs.getD j 0).toNat : Int))) (hb : b < w.heap.size) (hl : len ≤ 1073741824) (h1 : 2048 ≤ n) (h2 : n < 65536) (hs : Hd (isSign (n : Int))) :
    Calls Tryz.prog 82 #[.slice (some ⟨b, off, none⟩) len cap, .int .i64 (n : Int)] w (PutSigned w (bs ++ signB (n : Int))) := by
  obtain ⟨i0, hi, hz0, hz1, hz2⟩ := info_parts info8
  have hn' : Hd (bs.length = len) := ⟨hn⟩
  have hc' : Hd (∀ j, j < len → w.cell? ⟨b, off + j, none⟩ = some (.int .u8 ((bs.getD j 0).toNat : Int))) := ⟨hc⟩

  clear hn hc
  go_enter Tryz.func82, Tryz.ntmps82
  go_wp2_with (at_builtin; refine wpList_append_own _ rfl (.tmp 6) (.tmp 7) 60 rfl w.heap.size 5 i0 (.int .u8 0) 1 1 Tryz.underlying60 hi hz0 hz1 hz2 rfl (by decide) _ 0 [] rfl ?hown ⟨b, off, none⟩ len cap (bs.map cb) rfl ?hl ?hn ?h1 ?h63 ?hby ?hbase ?_)
  case hown => exact World.ownsRow_made w #[] 0 (Nat.le_refl _) (by unfold maxLen; omega) rfl
  case hl => simpa using hn'.out
  case hn => exact map_cb_cell hn'.out (fun j hj => (((Below.refl w.heap.size w).alloc (Nat.le_refl _) _).cell (p := ⟨b, off + j, none⟩) hb).trans (hc'.out j hj))
  case h1 => exact one_cb bs
  case h63 => unfold maxLen; omega
  case hby => omega
  case hbase => simp
  intro v1 w1 hown1 hgr1 hne1
  obtain ⟨g1, c1, hv1, hg1, hR1⟩ := own_row hown1 hne1
  have hB1 : Hd (Below w.heap.size w w1) := ⟨((Below.refl _ w).alloc (Nat.le_refl _) _).grown hgr1 (by simp) (fun k h => by simp [Value.ownBlock] at h; omega)⟩
  have HR1 : Hd (Own w1 g1 c1 bs) := ⟨hR1⟩
  have hg1' : Hd (w.heap.size ≤ g1) := ⟨hg1⟩
  rw [hv1]
  clear hown1 hgr1 hne1 hv1 hR1 hc' hg1
  go_wp2_with fail
  refine (specSignOk_yes hs _).mono ?_
  rintro e w2 ⟨rfl, hw2⟩
  replace hw2 := hw2.symm
  subst hw2
  have hown : Hd (w1.ownsRow g1 5 1 (.slice (some ⟨g1, 0, none⟩) len c1) len (bs.map cb)) := ⟨HR1.out.owns hn'.out (Nat.le_refl _)⟩
  have hlt : Hd (g1 < w1.heap.size) := ⟨HR1.out.lt⟩
  have hp : Hd ([.int .u8 (bits .or .i64 224 ((n : Int) / 4096) % 256), .int .u8 (bits .or .i64 128 (bits .and .i64 ((n : Int) / 64) 63) % 256), .int .u8 (bits .or .i64 128 (bits .and .i64 ((n : Int)) 63) % 256)] = (signB (n : Int)).map cb) := ⟨put_three h1 h2 hs.out (or_three (n / 4096) (by omega) (by omega)) (or_on (n / 64) (by omega) (by omega)) (or_on n rfl (by omega))⟩
  have hlen : Hd (((signB (n : Int)).map cb).length = 3) := ⟨by rw [← hp.out]; rfl⟩
  have hlen2 : Hd ((bs ++ signB (n : Int)).length = len + 3) := ⟨by have := hlen.out; have := hn'.out; simp at *; omega⟩
  clear HR1
  go_wp2_with (at_builtin; refine wpList_append_own _ rfl (.tmp 39) (.tmp 53) 60 rfl g1 5 i0 (.int .u8 0) 1 1 Tryz.underlying60 hi hz0 hz1 hz2 rfl (by decide) _ len (bs.map cb) rfl ?hown ⟨w1.heap.size, 0, none⟩ 3 3 ((signB (n : Int)).map cb) rfl ?hl ?hn ?h1 ?h63 ?hby ?hbase ?_)
  case hown => exact hown.out.alloc _
  case hl => rw [hlen.out]
  case hn => exact built_cells w1 _ _ _ hp.out
  case h1 => exact one_cb _
  case h63 => unfold maxLen; omega
  case hby => omega
  case hbase => have := hlt.out; simp; omega
  intro v2 w2 hown2 hgr2 hne2
  rw [← List.map_append] at hown2
  obtain ⟨g2, c2, hv2, hg2, hO2⟩ := own_row hown2 (by simpa using hne2)
  have HO : Hd (Own w2 g2 c2 (bs ++ signB (n : Int))) := ⟨hO2⟩
  have HB2 : Hd (Below w.heap.size w w2) := ⟨hB1.out.grown (grown_of_alloc hgr2) hB1.out.size (fun k h => by simp [Value.ownBlock] at h; have := hg1'.out; omega)⟩
  have hg2' : Hd (w.heap.size ≤ g2) := ⟨Nat.le_trans hg1'.out hg2⟩
  rw [hv2]
  clear hown2 hgr2 hne2 hv2 hg2 hO2 hown hB1
  go_wp2_with fail
  go_ret
  exact ⟨g2, c2, by rw [hlen2.out]; rfl, hg2'.out, HO.out, HB2.out⟩

set_option maxHeartbeats 1000000 in
theorem specPutSign_four (b off len cap : Nat) (bs : List UInt8) (n : Nat) (w : World) (hn : bs.length = len) (hc : ∀ j, j < len → w.cell? ⟨b, off + j, none⟩ = some (.int .u8 ((bs.getD j 0).toNat : Int))) (hb : b < w.heap.size) (hl : len ≤ 1073741824) (h1 : 65536 ≤ n) (h2 : n < 1114112) (hs : Hd (isSign (n : Int))) :
    Calls Tryz.prog 82 #[.slice (some ⟨b, off, none⟩) len cap, .int .i64 (n : Int)] w (PutSigned w (bs ++ signB (n : Int))) := by
  obtain ⟨i0, hi, hz0, hz1, hz2⟩ := info_parts info8
  have hn' : Hd (bs.length = len) := ⟨hn⟩
  have hc' : Hd (∀ j, j < len → w.cell? ⟨b, off + j, none⟩ = some (.int .u8 ((bs.getD j 0).toNat : Int))) := ⟨hc⟩

  clear hn hc
  go_enter Tryz.func82, Tryz.ntmps82
  go_wp2_with (at_builtin; refine wpList_append_own _ rfl (.tmp 6) (.tmp 7) 60 rfl w.heap.size 5 i0 (.int .u8 0) 1 1 Tryz.underlying60 hi hz0 hz1 hz2 rfl (by decide) _ 0 [] rfl ?hown ⟨b, off, none⟩ len cap (bs.map cb) rfl ?hl ?hn ?h1 ?h63 ?hby ?hbase ?_)
  case hown => exact World.ownsRow_made w #[] 0 (Nat.le_refl _) (by unfold maxLen; omega) rfl
  case hl => simpa using hn'.out
  case hn => exact map_cb_cell hn'.out (fun j hj => (((Below.refl w.heap.size w).alloc (Nat.le_refl _) _).cell (p := ⟨b, off + j, none⟩) hb).trans (hc'.out j hj))
  case h1 => exact one_cb bs
  case h63 => unfold maxLen; omega
  case hby => omega
  case hbase => simp
  intro v1 w1 hown1 hgr1 hne1
  obtain ⟨g1, c1, hv1, hg1, hR1⟩ := own_row hown1 hne1
  have hB1 : Hd (Below w.heap.size w w1) := ⟨((Below.refl _ w).alloc (Nat.le_refl _) _).grown hgr1 (by simp) (fun k h => by simp [Value.ownBlock] at h; omega)⟩
  have HR1 : Hd (Own w1 g1 c1 bs) := ⟨hR1⟩
  have hg1' : Hd (w.heap.size ≤ g1) := ⟨hg1⟩
  rw [hv1]
  clear hown1 hgr1 hne1 hv1 hR1 hc' hg1
  go_wp2_with fail
  refine (specSignOk_yes hs _).mono ?_
  rintro e w2 ⟨rfl, hw2⟩
  replace hw2 := hw2.symm
  subst hw2
  have hown : Hd (w1.ownsRow g1 5 1 (.slice (some ⟨g1, 0, none⟩) len c1) len (bs.map cb)) := ⟨HR1.out.owns hn'.out (Nat.le_refl _)⟩
  have hlt : Hd (g1 < w1.heap.size) := ⟨HR1.out.lt⟩
  have hp : Hd ([.int .u8 (bits .or .i64 240 ((n : Int) / 262144) % 256), .int .u8 (bits .or .i64 128 (bits .and .i64 ((n : Int) / 4096) 63) % 256), .int .u8 (bits .or .i64 128 (bits .and .i64 ((n : Int) / 64) 63) % 256), .int .u8 (bits .or .i64 128 (bits .and .i64 ((n : Int)) 63) % 256)] = (signB (n : Int)).map cb) := ⟨put_four h1 hs.out (or_four (n / 262144) (by omega) (by omega)) (or_on (n / 4096) (by omega) (by omega)) (or_on (n / 64) (by omega) (by omega)) (or_on n rfl (by omega))⟩
  have hlen : Hd (((signB (n : Int)).map cb).length = 4) := ⟨by rw [← hp.out]; rfl⟩
  have hlen2 : Hd ((bs ++ signB (n : Int)).length = len + 4) := ⟨by have := hlen.out; have := hn'.out; simp at *; omega⟩
  clear HR1
  go_wp2_with (at_builtin; refine wpList_append_own _ rfl (.tmp 55) (.tmp 74) 60 rfl g1 5 i0 (.int .u8 0) 1 1 Tryz.underlying60 hi hz0 hz1 hz2 rfl (by decide) _ len (bs.map cb) rfl ?hown ⟨w1.heap.size, 0, none⟩ 4 4 ((signB (n : Int)).map cb) rfl ?hl ?hn ?h1 ?h63 ?hby ?hbase ?_)
  case hown => exact hown.out.alloc _
  case hl => rw [hlen.out]
  case hn => exact built_cells w1 _ _ _ hp.out
  case h1 => exact one_cb _
  case h63 => unfold maxLen; omega
  case hby => omega
  case hbase => have := hlt.out; simp; omega
  intro v2 w2 hown2 hgr2 hne2
  rw [← List.map_append] at hown2
  obtain ⟨g2, c2, hv2, hg2, hO2⟩ := own_row hown2 (by simpa using hne2)
  have HO : Hd (Own w2 g2 c2 (bs ++ signB (n : Int))) := ⟨hO2⟩
  have HB2 : Hd (Below w.heap.size w w2) := ⟨hB1.out.grown (grown_of_alloc hgr2) hB1.out.size (fun k h => by simp [Value.ownBlock] at h; have := hg1'.out; omega)⟩
  have hg2' : Hd (w.heap.size ≤ g2) := ⟨Nat.le_trans hg1'.out hg2⟩
  rw [hv2]
  clear hown2 hgr2 hne2 hv2 hg2 hO2 hown hB1
  go_wp2_with fail
  go_ret
  exact ⟨g2, c2, by rw [hlen2.out]; rfl, hg2'.out, HO.out, HB2.out⟩

theorem specPutSign_some (b off len cap : Nat) (bs : List UInt8) (n : Int) (w : World) (hn : bs.length = len) (hc : ∀ j, j < len → w.cell? ⟨b, off + j, none⟩ = some (.int .u8 ((bs.getD j 0).toNat : Int))) (hb : b < w.heap.size) (hl : len ≤ 1073741824) :
    Calls Tryz.prog 82 #[.slice (some ⟨b, off, none⟩) len cap, .int .i64 n] w (PutSigned w (bs ++ signB n)) := by
  by_cases hs : isSign n
  · have h0 : 0 ≤ n := by rcases hs with h | h <;> omega
    obtain ⟨m, rfl⟩ := Int.eq_ofNat_of_zero_le h0
    have hm : m < 1114112 := by rcases hs with h | h <;> omega
    by_cases h1 : m < 128
    · exact specPutSign_one b off len cap bs m w hn hc hb hl h1
    by_cases h2 : m < 2048
    · exact specPutSign_two b off len cap bs m w hn hc hb hl (by omega) h2
    by_cases h3 : m < 65536
    · exact specPutSign_three b off len cap bs m w hn hc hb hl (by omega) h3 ⟨hs⟩
    · exact specPutSign_four b off len cap bs m w hn hc hb hl (by omega) hm ⟨hs⟩
  · exact specPutSign_no b off len cap bs n w hn hc hb hl ⟨hs⟩

end Go.Proofs.YtlididoalekeoaaGreatDoor
