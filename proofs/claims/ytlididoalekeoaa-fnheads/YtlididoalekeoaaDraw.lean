/- Contracts of what draws numbers, bytes and texts out of a code: what is drawn lies within its bounds, in new memory. -/
import Derived.Test.YtlididoalekeoaaBase
import Derived.Test.YtlididoalekeoaaPlain
import Derived.Test.YtlididoalekeoaaPut
namespace Go.Proofs.Ytlididoalekeoaa
set_option maxRecDepth 4000
open Go.RowKit

theorem and_mask (a : Int) : ∃ x : Nat, x < 256 ∧ bits .and .i64 a 255 = (x : Int) := by
  refine ⟨(BitVec.ofInt 64 a &&& BitVec.ofInt 64 255).toNat, ?_, ?_⟩
  · rw [BitVec.toNat_and]
    have : (BitVec.ofInt 64 255).toNat = 255 := by decide
    rw [this]
    have h := Nat.and_le_right (n := (BitVec.ofInt 64 a).toNat) (m := 255)
    omega
  · have h : (BitVec.ofInt 64 a &&& BitVec.ofInt 64 255).toNat ≤ 255 := by
      rw [BitVec.toNat_and]
      have : (BitVec.ofInt 64 255).toNat = 255 := by decide
      rw [this]
      exact Nat.and_le_right
    show IntKind.i64.wrap ((BitVec.ofInt 64 a &&& BitVec.ofInt 64 255).toNat : Int) = _
    rw [IntKind.wrap_i64]; omega

/-- Block g is a cursor over the code at ao. -/
structure Cursor (w : World) (g : Nat) (ao : Option Addr) (len cap : Nat) (bs : List UInt8) : Prop where
  cur : ∃ (i : Nat) (h : Int), w.heap[g]? = some (.cells #[.slice ao len cap, .int .i64 (i : Int), .int .i64 h] 118 (0, 0))
  code : Reads w ao len bs
  old : len = 0 ∨ ∃ b off, ao = some ⟨b, off, none⟩ ∧ b < g

theorem Cursor.lt {w : World} {g : Nat} {ao : Option Addr} {len cap : Nat} {bs : List UInt8} (h : Cursor w g ao len cap bs) : g < w.heap.size := by
  obtain ⟨i, q, hg⟩ := h.cur
  exact (Array.getElem?_eq_some_iff.1 hg).1

/-- What leaves the cursor's block and the code's alone leaves the cursor. -/
theorem Cursor.kept {w w' : World} {g : Nat} {ao : Option Addr} {len cap : Nat} {bs : List UInt8} (h : Cursor w g ao len cap bs) (hb : ∀ k, k ≤ g → w'.heap[k]? = w.heap[k]?) : Cursor w' g ao len cap bs := by
  obtain ⟨i, q, hg⟩ := h.cur
  refine ⟨⟨i, q, (hb g (Nat.le_refl _)).trans hg⟩, ⟨h.code.1, ?_⟩, h.old⟩
  rcases h.code.2 with h0 | ⟨b, off, hao, hc⟩
  · exact .inl h0
  · by_cases h0 : len = 0
    · exact .inl h0
    · refine .inr ⟨b, off, hao, fun j hj => ?_⟩
      rcases h.old with h1 | ⟨b', off', hao', hlt⟩
      · exact absurd h1 h0
      · rw [hao] at hao'
        simp only [Option.some.injEq, Addr.mk.injEq, and_true] at hao'
        rw [← hc j hj]
        exact World.cell?_of_block (w := w) (hb b (by omega))
theorem Cursor.below {w w' : World} {g : Nat} {ao : Option Addr} {len cap : Nat} {bs : List UInt8} (h : Cursor w g ao len cap bs) (hb : Below w.heap.size w w') : Cursor w' g ao len cap bs :=
  h.kept fun k hk => hb.block k (by have := h.lt; omega)

theorem three_cells (w : World) (g : Nat) (a b c : Value) (T : TypeId) (hg : w.heap[g]? = some (.cells #[a, b, c] T (0, 0))) :
    w.cell? ⟨g, 0, none⟩ = some a ∧ w.cell? ⟨g, 1, none⟩ = some b ∧ w.cell? ⟨g, 2, none⟩ = some c ∧ w.frozen? ⟨g, 1, none⟩ = false ∧ w.frozen? ⟨g, 2, none⟩ = false := by
  refine ⟨?_, ?_, ?_, frozen_of_row w g 1 _ _ hg, frozen_of_row w g 2 _ _ hg⟩
  · rw [cell_of_row w g 0 _ _ (0, 0) hg]; rfl
  · rw [cell_of_row w g 1 _ _ (0, 0) hg]; rfl
  · rw [cell_of_row w g 2 _ _ (0, 0) hg]; rfl

set_option maxHeartbeats 400000 in
theorem l1Byte_end (g : Nat) (ao : Option Addr) (len cap : Nat) (i : Nat) (h : Int) (w : World) (hg : w.heap[g]? = some (.cells #[.slice ao len cap, .int .i64 (i : Int), .int .i64 h] 118 (0, 0))) (hi : ¬ (i : Int) < (len : Int)) :
    Calls Try.prog 91 #[.pointer (some ⟨g, 0, none⟩)] w fun e w' => ∃ (x : Nat) (h' : Int) (n : Nat), x < 256 ∧ e = .returned (.int .i64 (x : Int)) ∧ w' = (w.setCell ⟨g, 2, none⟩ (.int .i64 h')).drewN n := by
  obtain ⟨c0, c1, c2, f1, f2⟩ := three_cells w g _ _ _ _ hg
  clear hg
  go_enter Try.func91, Try.ntmps91
  go_wp2_with fail
  generalize wrap64 (wrap64 (h * 6364136223846793005) + 1442695040888963407) = h'
  go_quiet (fail)
  go_wp2_with fail
  go_quiet (fail)
  go_wp2_with fail
  go_ret
  obtain ⟨x, hx, he⟩ := and_mask (bits .xor .i64 (h' / 8589934592) (h' / 140737488355328))
  exact ⟨x, h', _, hx, ret_int he, by rw [World.drewN_drewN]⟩

set_option maxHeartbeats 400000 in
theorem l1Byte_in (g b off len cap : Nat) (i : Nat) (h : Int) (y : UInt8) (w : World) (hg : w.heap[g]? = some (.cells #[.slice (some ⟨b, off, none⟩) len cap, .int .i64 (i : Int), .int .i64 h] 118 (0, 0))) (hi : (i : Int) < (len : Int)) (hl : len ≤ 1073741824)
    (hb : b < g) (hc : w.cell? ⟨b, off + i, none⟩ = some (.int .u8 (y.toNat : Int))) :
    Calls Try.prog 91 #[.pointer (some ⟨g, 0, none⟩)] w fun e w' => ∃ (x : Nat) (h' : Int) (n : Nat), x < 256 ∧ e = .returned (.int .i64 (x : Int)) ∧ w' = ((w.setCell ⟨g, 2, none⟩ (.int .i64 h')).setCell ⟨g, 1, none⟩ (.int .i64 (i + 1 : Int))).drewN n := by
  obtain ⟨c0, c1, c2, f1, f2⟩ := three_cells w g _ _ _ _ hg
  have hcs : ∀ v, (w.setCell ⟨g, 2, none⟩ v).cell? ⟨b, off + i, none⟩ = some (.int .u8 (y.toNat : Int)) := by
    intro v
    rw [World.cell?_of_block (w := w) (a := ⟨b, off + i, none⟩) (Below.heap_setCell w ⟨g, 2, none⟩ v b (by show b ≠ g; omega))]
    exact hc
  clear hg hc
  go_enter Try.func91, Try.ntmps91
  go_wp2_with fail
  generalize wrap64 (wrap64 (h * 6364136223846793005) + 1442695040888963407) = h'
  go_quiet (fail)
  go_wp2_with fail
  go_quiet (fail)
  go_wp2_with fail
  go_quiet (fail)
  go_wp2_with fail
  go_ret
  obtain ⟨x, hx, he⟩ := and_mask (wrap64 (bits .and .i64 (bits .xor .i64 (h' / 8589934592) (h' / 140737488355328)) 255 + wrap64 (y.toNat : Int)))
  exact ⟨x, h', _, hx, ret_int he, rfl⟩

theorem grown_draws {w w' : World} {g n : Nat} (h : w.grownBy w' (some g)) : w.grownBy (w'.drewN n) (some g) := ⟨h.os, h.tape, h.output, h.size, h.block⟩
theorem grown_set (w : World) (g j : Nat) (v : Value) : w.grownBy (w.setCell ⟨g, j, none⟩ v) (some g) :=
  ⟨rfl, rfl, rfl, by simp, fun k _ hk => heap_setCell_other w ⟨g, j, none⟩ k v (fun e => hk (by simp [e]))⟩

/-- What only writes into the cursor's block, and leaves a cursor there. -/
theorem Cursor.moved {w w' : World} {g : Nat} {ao : Option Addr} {len cap : Nat} {bs : List UInt8} (h : Cursor w g ao len cap bs) (hg : w.grownBy w' (some g))
    (hc : ∃ (i : Nat) (q : Int), w'.heap[g]? = some (.cells #[.slice ao len cap, .int .i64 (i : Int), .int .i64 q] 118 (0, 0))) : Cursor w' g ao len cap bs := by
  have hlt := h.lt
  refine ⟨hc, ⟨h.code.1, ?_⟩, h.old⟩
  rcases h.code.2 with h0 | ⟨b, off, hao, hcell⟩
  · exact .inl h0
  · by_cases h0 : len = 0
    · exact .inl h0
    · refine .inr ⟨b, off, hao, fun j hj => ?_⟩
      rcases h.old with h1 | ⟨b', off', hao', hb⟩
      · exact absurd h1 h0
      · rw [hao] at hao'
        simp only [Option.some.injEq, Addr.mk.injEq, and_true] at hao'
        rw [← hcell j hj]
        exact World.cell?_of_block (w := w) (hg.block b (by omega) (by simp; omega))

/-- A byte is drawn: 0 .. 255; the cursor goes on. -/
theorem l1Byte_any (g : Nat) (ao : Option Addr) (len cap : Nat) (bs : List UInt8) (w : World) (hl : len ≤ 1073741824) (h : Cursor w g ao len cap bs) :
    Calls Try.prog 91 #[.pointer (some ⟨g, 0, none⟩)] w fun e w' => ∃ x : Nat, x < 256 ∧ e = .returned (.int .i64 (x : Int)) ∧ Cursor w' g ao len cap bs ∧ w.grownBy w' (some g) := by
  obtain ⟨i, q, hg⟩ := h.cur
  by_cases hi : (i : Int) < (len : Int)
  · rcases h.old with h0 | ⟨b, off, rfl, hb⟩
    · omega
    · rcases h.code.2 with h0 | ⟨b', off', hao, hc⟩
      · omega
      · simp only [Option.some.injEq, Addr.mk.injEq, and_true] at hao
        obtain ⟨rfl, rfl⟩ := hao
        refine (l1Byte_in g b off len cap i q (bs.getD i 0) w hg hi hl hb (hc i (by omega))).mono ?_
        rintro e w' ⟨x, h', n, hx, rfl, rfl⟩
        have hgr : w.grownBy (((w.setCell ⟨g, 2, none⟩ (.int .i64 h')).setCell ⟨g, 1, none⟩ (.int .i64 (i + 1 : Int))).drewN n) (some g) := grown_draws (grown_next (grown_set w g 2 _) (grown_set _ g 1 _))
        refine ⟨x, hx, rfl, h.moved hgr ⟨i + 1, h', ?_⟩, hgr⟩
        show ((w.setCell ⟨g, 2, none⟩ (.int .i64 h')).setCell ⟨g, 1, none⟩ (.int .i64 (i + 1 : Int))).heap[g]? = _
        rw [heap_setCell_same _ g 1 _ _ _ (heap_setCell_same w g 2 _ _ _ hg)]
        simp
  · refine (l1Byte_end g ao len cap i q w hg hi).mono ?_
    rintro e w' ⟨x, h', n, hx, rfl, rfl⟩
    have hgr : w.grownBy ((w.setCell ⟨g, 2, none⟩ (.int .i64 h')).drewN n) (some g) := grown_draws (grown_set w g 2 _)
    refine ⟨x, hx, rfl, h.moved hgr ⟨i, h', ?_⟩, hgr⟩
    show (w.setCell ⟨g, 2, none⟩ (.int .i64 h')).heap[g]? = _
    rw [heap_setCell_same w g 2 _ _ _ hg]
    simp

set_option maxHeartbeats 400000 in
/-- Below n: 0 .. n - 1. -/
theorem l1Below_any (g : Nat) (ao : Option Addr) (len cap : Nat) (bs : List UInt8) (n : Nat) (w : World) (hl : len ≤ 1073741824) (hn : 0 < n) (hn2 : n ≤ 256) (h : Cursor w g ao len cap bs) :
    Calls Try.prog 62 #[.pointer (some ⟨g, 0, none⟩), .int .i64 (n : Int)] w fun e w' => ∃ x : Nat, x < n ∧ e = .returned (.int .i64 (x : Int)) ∧ Cursor w' g ao len cap bs ∧ w.grownBy w' (some g) := by
  have H : Hd (Cursor w g ao len cap bs) := ⟨h⟩
  have h1 : ¬ ((n : Int) ≤ 0) := by omega
  have h2 : (n : Int) ≤ 256 := by omega
  have h3 : ((n : Int) == 0) = false := by simp; omega
  clear h
  go_enter Try.func62, Try.ntmps62
  go_wp2_with fail
  refine (l1Byte_any g ao len cap bs _ hl H.out).mono ?_
  rintro e w1 ⟨x, hx, rfl, hC, hG⟩
  have HC : Hd (Cursor w1 g ao len cap bs) := ⟨hC⟩
  have HG : Hd (w.grownBy w1 (some g)) := ⟨hG⟩
  have hmod : Hd (x % n < n) := ⟨Nat.mod_lt _ hn⟩
  clear hC hG
  go_wp2_with fail
  go_ret
  exact ⟨x % n, hmod.out, ret_int (by simp), HC.out, HG.out⟩

set_option maxHeartbeats 400000 in
theorem l1Once_any (g : Nat) (ao : Option Addr) (len cap : Nat) (bs : List UInt8) (n : Nat) (w : World) (hl : len ≤ 1073741824) (hn : 0 < n) (hn2 : n ≤ 256) (h : Cursor w g ao len cap bs) :
    Calls Try.prog 63 #[.pointer (some ⟨g, 0, none⟩), .int .i64 (n : Int)] w fun e w' => ∃ b : Bool, e = .returned (.bool b) ∧ Cursor w' g ao len cap bs ∧ w.grownBy w' (some g) := by
  have H : Hd (Cursor w g ao len cap bs) := ⟨h⟩
  clear h
  go_enter Try.func63, Try.ntmps63
  go_wp2_with fail
  refine (l1Below_any g ao len cap bs n _ hl hn hn2 H.out).mono ?_
  rintro e w1 ⟨x, hx, rfl, hC, hG⟩
  have HC : Hd (Cursor w1 g ao len cap bs) := ⟨hC⟩
  have HG : Hd (w.grownBy w1 (some g)) := ⟨hG⟩
  clear hC hG
  go_wp2_with fail
  go_ret
  exact ⟨_, rfl, HC.out, HG.out⟩

set_option maxHeartbeats 400000 in
theorem l1Int_any (g q m c : Nat) (ao : Option Addr) (len cap : Nat) (bs : List UInt8) (zs : List Int) (w : World) (hl : len ≤ 1073741824) (hm : 0 < m) (hm2 : m ≤ 256) (hz : zs.length = m) (hq : q ≠ g)
    (hc : ∀ j, j < m → w.cell? ⟨q, j, none⟩ = some (.int .i64 (zs.getD j 0))) (h : Cursor w g ao len cap bs) :
    Calls Try.prog 60 #[.pointer (some ⟨g, 0, none⟩), .slice (some ⟨q, 0, none⟩) m c] w fun e w' => ∃ z ∈ zs, e = .returned (.int .i64 z) ∧ Cursor w' g ao len cap bs ∧ w.grownBy w' (some g) := by
  have H : Hd (Cursor w g ao len cap bs) := ⟨h⟩
  have Hz : Hd (zs.length = m) := ⟨hz⟩
  have Hc : Hd (∀ j, j < m → w.cell? ⟨q, j, none⟩ = some (.int .i64 (zs.getD j 0))) := ⟨hc⟩
  clear h hz hc
  go_enter Try.func60, Try.ntmps60
  go_wp2_with fail
  refine (l1Below_any g ao len cap bs m _ hl hm hm2 H.out).mono ?_
  rintro e w1 ⟨x, hx, rfl, hC, hG⟩
  have HC : Hd (Cursor w1 g ao len cap bs) := ⟨hC⟩
  have HG : Hd (w.grownBy w1 (some g)) := ⟨hG⟩
  have hcx : w1.cell? ⟨q, x, none⟩ = some (.int .i64 (zs.getD x 0)) := hG.cell (Hc.out x hx) (by simpa using hq)
  have hmem : Hd (zs.getD x 0 ∈ zs) := ⟨by
    have hx' : x < zs.length := by rw [Hz.out]; exact hx
    rw [show zs.getD x 0 = zs[x] from by simp [List.getD, List.getElem?_eq_getElem hx']]
    exact List.getElem_mem hx'⟩
  have hx2 : (x : Int) < (m : Int) := by omega
  clear hC hG Hc
  generalize zs.getD x 0 = z at *
  go_wp2_with fail
  go_ret
  exact ⟨z, hmem.out, rfl, HC.out, HG.out⟩

set_option maxHeartbeats 400000 in
theorem l1New_some (b off len cap : Nat) (bs : List UInt8) (w : World) (hl : len ≤ 1073741824) (hc : ∀ j, j < len → w.cell? ⟨b, off + j, none⟩ = some (.int .u8 ((bs.getD j 0).toNat : Int))) :
    Calls Try.prog 59 #[.slice (some ⟨b, off, none⟩) len cap] w fun e w' => e = .returned (.pointer (some ⟨w.heap.size, 0, none⟩)) ∧ ∃ h : Int, w' = w.alloc (.cells #[.slice (some ⟨b, off, none⟩) len cap, .int .i64 0, .int .i64 h] 118) := by
  have Hc : Hd (∀ j, j < len → w.cell? ⟨b, off + j, none⟩ = some (.int .u8 ((bs.getD j 0).toNat : Int))) := ⟨hc⟩
  clear hc
  go_enter Try.func59, Try.ntmps59
  go_wp2_with fail
  go_loop [3, 4] (fun s i => ∃ (k : Nat) (h : Int), k ≤ len ∧ i = .int .i64 k ∧ s = .int .i64 h) (fun _ i => len - (intOf i).toNat)
  case atStart => exact ⟨0, _, Nat.zero_le _, rfl, rfl⟩
  case round =>
    obtain ⟨k, h, hk, rfl, rfl⟩ := hrel
    by_cases hlt : (k : Int) < (len : Int)
    · by_cases h4 : (k : Int) < 4000
      · have hcell := Hc.out k (by omega)
        generalize (bs.getD k 0).toNat = x at *
        go_wp2_with fail
        go_round
        case rel => exact ⟨k + 1, _, by omega, by go_num, rfl⟩
        case measure => simp [intOf]; omega
      · go_wp2_with fail
        go_ret
        exact ⟨rfl, h, rfl⟩
    · go_wp2_with fail
      go_ret
      exact ⟨rfl, h, rfl⟩

set_option maxHeartbeats 400000 in
theorem l1New_none (ao : Option Addr) (cap : Nat) (w : World) :
    Calls Try.prog 59 #[.slice ao 0 cap] w fun e w' => e = .returned (.pointer (some ⟨w.heap.size, 0, none⟩)) ∧ ∃ h : Int, w' = w.alloc (.cells #[.slice ao 0 cap, .int .i64 0, .int .i64 h] 118) := by
  go_enter Try.func59, Try.ntmps59
  go_wp2_with fail
  refine wp_loop_rounds 1 ?_
  rw [rounds_succ]
  go_wp2_with fail
  go_ret
  exact ⟨rfl, _, rfl⟩

theorem Cursor.made {w : World} {ao : Option Addr} {len cap : Nat} {bs : List UInt8} (hr : Reads w ao len bs) (h : Int) : Cursor (w.alloc (.cells #[.slice ao len cap, .int .i64 0, .int .i64 h] 118)) w.heap.size ao len cap bs := by
  refine ⟨⟨0, h, heap_alloc_new w _⟩, hr.below rfl ((Below.refl _ w).alloc (Nat.le_refl _) _), ?_⟩
  rcases hr.2 with h0 | ⟨b, off, hao, hc⟩
  · exact .inl h0
  · by_cases h0 : len = 0
    · exact .inl h0
    · exact .inr ⟨b, off, hao, World.block_lt_of_cell? w _ (hc 0 (by omega))⟩

/-- A cursor over the code, in new memory. -/
theorem l1New_any (ao : Option Addr) (len cap : Nat) (bs : List UInt8) (w : World) (hl : len ≤ 1073741824) (hr : Reads w ao len bs) :
    Calls Try.prog 59 #[.slice ao len cap] w fun e w' => e = .returned (.pointer (some ⟨w.heap.size, 0, none⟩)) ∧ Cursor w' w.heap.size ao len cap bs ∧ Below w.heap.size w w' := by
  have fin : ∀ (e : Ending) (w' : World), (e = .returned (.pointer (some ⟨w.heap.size, 0, none⟩)) ∧ ∃ h : Int, w' = w.alloc (.cells #[.slice ao len cap, .int .i64 0, .int .i64 h] 118)) → e = .returned (.pointer (some ⟨w.heap.size, 0, none⟩)) ∧ Cursor w' w.heap.size ao len cap bs ∧ Below w.heap.size w w' := by
    rintro e w' ⟨rfl, h, rfl⟩
    exact ⟨rfl, Cursor.made hr h, (Below.refl _ w).alloc (Nat.le_refl _) _⟩
  rcases hr.2 with h0 | ⟨b, off, hao, hc⟩
  · subst h0
    exact (l1New_none ao cap w).mono fin
  · subst hao
    exact (l1New_some b off len cap bs w hl hc).mono fin

structure BytesOut (w : World) (g : Nat) (ao : Option Addr) (len cap : Nat) (bs : List UInt8) (n : Nat) (e : Ending) (w' : World) : Prop where
  out : ∃ q c ds, e = .returned (.slice (some ⟨q, 0, none⟩) n c) ∧ ds.length = n ∧ w.heap.size ≤ q ∧ Own w' q c ds ∧ Cursor w' g ao len cap bs ∧ w.grownBy w' (some g)

set_option maxHeartbeats 400000 in
/-- n bytes are drawn, in new memory. -/
theorem l1Bytes_any (g : Nat) (ao : Option Addr) (len cap : Nat) (bs : List UInt8) (n : Nat) (w : World) (hl : len ≤ 1073741824) (hn : n ≤ 1048576) (h : Cursor w g ao len cap bs) :
    Calls Try.prog 78 #[.pointer (some ⟨g, 0, none⟩), .int .i64 (n : Int)] w (BytesOut w g ao len cap bs n) := by
  obtain ⟨i0, hi, hz0, hz1, hz2⟩ := info_parts info8
  have H : Hd (Cursor w g ao len cap bs) := ⟨h⟩
  have hgl : Hd (g < w.heap.size) := ⟨h.lt⟩
  clear h
  go_enter Try.func78, Try.ntmps78
  go_wp2_with fail
  go_loopw [5, 6] (fun v i wr => ∃ (k q c : Nat) (ds : List UInt8), k ≤ n ∧ i = .int .i64 k ∧ v = .slice (some ⟨q, 0, none⟩) k c ∧ w.heap.size ≤ q ∧ Hd (ds.length = k) ∧ Hd (Own wr q c ds) ∧ Hd (Cursor wr g ao len cap bs) ∧ Hd (w.grownBy wr (some g))) (fun _ i _ => n - (intOf i).toNat)
  case atStart =>
    obtain ⟨q, c, hv, hq, hO⟩ := own_row (bs := []) (World.ownsRow_made (base := w.heap.size) (e := 5) (size := 1) w #[] 0 (Nat.le_refl _) (by unfold maxLen; omega) rfl) (by simp)
    exact ⟨0, q, c, [], Nat.zero_le _, rfl, hv, hq, ⟨rfl⟩, ⟨hO⟩, ⟨H.out.below ((Below.refl _ w).alloc (Nat.le_refl _) _)⟩, ⟨World.grownBy_alloc w _ _⟩⟩
  case round =>
    obtain ⟨k, q, c, ds, hk, rfl, rfl, hq, hds, hown, hcur, hgr⟩ := hrel
    by_cases hlt : (k : Int) < (n : Int)
    · go_wp2_with fail
      refine (l1Byte_any g ao len cap bs _ hl hcur.out).mono ?_
      rintro e w1 ⟨x, hx, rfl, hC, hG⟩
      have hqg : Hd (q ≠ g) := ⟨by have := hgl.out; omega⟩
      have hO1 : Hd (Own w1 q c ds) := ⟨hown.out.grown hG hqg.out⟩
      have hC1 : Hd (Cursor w1 g ao len cap bs) := ⟨hC⟩
      have hG1 : Hd (w.grownBy w1 (some g)) := ⟨grown_next hgr.out hG⟩
      have hs1 : w.heap.size ≤ w1.heap.size := hG1.out.size
      have hx2 : (x : Int) < 256 := by omega
      clear hC hG hown hcur hgr
      go_wp2_with (at_builtin; refine wpList_append_own _ rfl (.tmp 13) (.tmp 17) 22 rfl w.heap.size 5 i0 (.int .u8 0) 1 1 Try.underlying22 hi hz0 hz1 hz2 rfl (by decide) _ k (ds.map cb) rfl ?hown ⟨w1.heap.size, 0, none⟩ 1 1 [.int .u8 (x : Int)] rfl ?hl ?hn ?h1 ?h63 ?hby ?hbase ?_)
      case hown => exact (hO1.out.owns hds.out hq).alloc _
      case hl => rfl
      case hn =>
        intro j u hj
        match j, hj with
        | 0, hj => simp at hj; subst hj; simp [Addr.add]
      case h1 => intro u hu; simp at hu; subst hu; rfl
      case h63 => unfold maxLen; omega
      case hby => omega
      case hbase => simp; omega
      intro v2 w2 hown2 hgr2 hne2
      have e2 : ds.map cb ++ [.int .u8 (x : Int)] = (ds ++ [UInt8.ofNat x]).map cb := by
        simp [cb, Nat.mod_eq_of_lt hx]
      rw [e2] at hown2
      obtain ⟨q2, c2, hv2, hq2, hR2⟩ := own_row hown2 (by simpa using hne2)
      have hO2 : Hd (Own w2 q2 c2 (ds ++ [UInt8.ofNat x])) := ⟨hR2⟩
      have hd2 : Hd ((ds ++ [UInt8.ofNat x]).length = k + 1) := ⟨by simp [hds.out]⟩
      have hblk : ∀ j, j < w1.heap.size → j ≠ q → w2.heap[j]? = w1.heap[j]? := fun j hj hne => (hgr2.block j (by simp; omega) (by simp [Value.ownBlock]; exact hne)).trans (Below.heap_alloc w1 _ j hj)
      have hC2 : Hd (Cursor w2 g ao len cap bs) := ⟨hC1.out.kept fun j hj => hblk j (by have := hC1.out.lt; omega) (by have := hgl.out; omega)⟩
      have hG2 : Hd (w.grownBy w2 (some g)) := ⟨⟨hgr2.os.trans hG1.out.os, hgr2.tape.trans hG1.out.tape, hgr2.output.trans hG1.out.output, Nat.le_trans hs1 (Nat.le_trans (by simp) hgr2.size), fun j hj hne => (hblk j (by omega) (by omega)).trans (hG1.out.block j hj hne)⟩⟩
      rw [hv2]
      clear hown2 hgr2 hne2 e2 hv2 hR2 hblk hO1 hC1 hG1
      go_wp2_with fail
      go_roundw
      case rel => exact ⟨k + 1, q2, c2, ds ++ [UInt8.ofNat x], by omega, by go_num, rfl, hq2, hd2, hO2, hC2, hG2⟩
      case measure => simp [intOf]; omega
    · have hke : Hd (k = n) := ⟨by omega⟩
      go_wp2_with fail
      go_ret
      exact ⟨q, c, ds, by rw [← hke.out]; rfl, hds.out.trans hke.out, hq, hown.out, hcur.out, hgr.out⟩

end Go.Proofs.Ytlididoalekeoaa
