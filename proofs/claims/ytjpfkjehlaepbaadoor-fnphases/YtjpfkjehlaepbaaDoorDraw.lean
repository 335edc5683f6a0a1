/- Contracts of what draws numbers, bytes and texts out of a code: what is drawn lies within its bounds, in new memory. -/
import Derived.Test.YtjpfkjehlaepbaaDoorBase
import Derived.Test.YtjpfkjehlaepbaaDoorPlain
import Derived.Test.YtjpfkjehlaepbaaDoorPut
namespace Go.Proofs.YtjpfkjehlaepbaaDoor
set_option maxRecDepth 4000
open Go.RowKit

theorem and_mask (a : Int) : ∃ x : Nat, x < 256 ∧ bits .and .i64 a 255 = (x : Int) := by
  refine ⟨(BitVec.ofInt 64 a &&& BitVec.ofInt 64 255).toNat, ?_, ?_⟩
  · rw [BitVec.toNat_and]
    have : (BitVec.ofInt 64 255).toNat = 255 := by decide
    rw [this]
    have h := Nat.and_le_right (n := (BitVec.ofInt 64 a).toNat) (m := 255)
    omega
  · have h : (BitVec.ofInt 64 a &&& BitVec.ofInt 64 255).toNat ≤ 255 := by
      rw [BitVec.toNat_and]
      have : (BitVec.ofInt 64 255).toNat = 255 := by decide
      rw [this]
      exact Nat.and_le_right
    show IntKind.i64.wrap ((BitVec.ofInt 64 a &&& BitVec.ofInt 64 255).toNat : Int) = _
    rw [IntKind.wrap_i64]; omega

/-- Block g is a cursor over the code at ao. -/
structure Cursor (w : World) (g : Nat) (ao : Option Addr) (len cap : Nat) (bs : List UInt8) : Prop where
  cur : ∃ (i : Nat) (h : Int), w.heap[g]? = some (.cells #[.slice ao len cap, .int .i64 (i : Int), .int .i64 h] 42 (0, 0))
  code : Reads w ao len bs
  old : len = 0 ∨ ∃ b off, ao = some ⟨b, off, none⟩ ∧ b < g

theorem Cursor.lt {w : World} {g : Nat} {ao : Option Addr} {len cap : Nat} {bs : List UInt8} (h : Cursor w g ao len cap bs) : g < w.heap.size := by
  obtain ⟨i, q, hg⟩ := h.cur
  exact (Array.getElem?_eq_some_iff.1 hg).1

/-- What leaves the cursor's block and the code's alone leaves the cursor. -/
theorem Cursor.kept {w w' : World} {g : Nat} {ao : Option Addr} {len cap : Nat} {bs : List UInt8} (h : Cursor w g ao len cap bs) (hb : ∀ k, k ≤ g → w'.heap[k]? = w.heap[k]?) : Cursor w' g ao len cap bs := by
  obtain ⟨i, q, hg⟩ := h.cur
  refine ⟨⟨i, q, (hb g (Nat.le_refl _)).trans hg⟩, ⟨h.code.1, ?_⟩, h.old⟩
  rcases h.code.2 with h0 | ⟨b, off, hao, hc⟩
  · exact .inl h0
  · by_cases h0 : len = 0
    · exact .inl h0
    · refine .inr ⟨b, off, hao, fun j hj => ?_⟩
      rcases h.old with h1 | ⟨b', off', hao', hlt⟩
      · exact absurd h1 h0
      · rw [hao] at hao'
        simp only [Option.some.injEq, Addr.mk.injEq, and_true] at hao'
        rw [← hc j hj]
        exact World.cell?_of_block (w := w) (hb b (by omega))
theorem Cursor.below {w w' : World} {g : Nat} {ao : Option Addr} {len cap : Nat} {bs : List UInt8} (h : Cursor w g ao len cap bs) (hb : Below w.heap.size w w') : Cursor w' g ao len cap bs :=
  h.kept fun k hk => hb.block k (by have := h.lt; omega)

theorem three_cells (w : World) (g : Nat) (a b c : Value) (T : TypeId) (hg : w.heap[g]? = some (.cells #[a, b, c] T (0, 0))) :
    w.cell? ⟨g, 0, none⟩ = some a ∧ w.cell? ⟨g, 1, none⟩ = some b ∧ w.cell? ⟨g, 2, none⟩ = some c ∧ w.frozen? ⟨g, 1, none⟩ = false ∧ w.frozen? ⟨g, 2, none⟩ = false := by
  refine ⟨?_, ?_, ?_, frozen_of_row w g 1 _ _ hg, frozen_of_row w g 2 _ _ hg⟩
  · rw [cell_of_row w g 0 _ _ (0, 0) hg]; rfl
  · rw [cell_of_row w g 1 _ _ (0, 0) hg]; rfl
  · rw [cell_of_row w g 2 _ _ (0, 0) hg]; rfl

set_option maxHeartbeats 400000 in
theorem l1Byte_end (g : Nat) (ao : Option Addr) (len cap : Nat) (i : Nat) (h : Int) (w : World) (hg : w.heap[g]? = some (.cells #[.slice ao len cap, .int .i64 (i : Int), .int .i64 h] 42 (0, 0))) (hi : ¬ (i : Int) < (len : Int)) :
    Calls Tryd.prog 32 #[.pointer (some ⟨g, 0, none⟩)] w fun e w' => ∃ (x : Nat) (h' : Int) (n : Nat), x < 256 ∧ e = .returned (.int .i64 (x : Int)) ∧ w' = (w.setCell ⟨g, 2, none⟩ (.int .i64 h')).drewN n := by
  obtain ⟨c0, c1, c2, f1, f2⟩ := three_cells w g _ _ _ _ hg
  clear hg
  go_enter Tryd.func32, Tryd.ntmps32
  go_wp2_with fail
  generalize wrap64 (wrap64 (h * 6364136223846793005) + 1442695040888963407) = h'
  go_quiet (fail)
  go_wp2_with fail
  go_quiet (fail)
  go_wp2_with fail
  go_ret
  obtain ⟨x, hx, he⟩ := and_mask (bits .xor .i64 (h' / 8589934592) (h' / 140737488355328))
  exact ⟨x, h', _, hx, ret_int he, by rw [World.drewN_drewN]⟩

set_option maxHeartbeats 400000 in
theorem l1Byte_in (g b off len cap : Nat) (i : Nat) (h : Int) (y : UInt8) (w : World) (hg : w.heap[g]? = some (.cells #[.slice (some ⟨b, off, none⟩) len cap, .int .i64 (i : Int), .int .i64 h] 42 (0, 0))) (hi : (i : Int) < (len : Int)) (hl : len ≤ 1073741824)
    (hb : b < g) (hc : w.cell? ⟨b, off + i, none⟩ = some (.int .u8 (y.toNat : Int))) :
    Calls Tryd.prog 32 #[.pointer (some ⟨g, 0, none⟩)] w fun e w' => ∃ (x : Nat) (h' : Int) (n : Nat), x < 256 ∧ e = .returned (.int .i64 (x : Int)) ∧ w' = ((w.setCell ⟨g, 2, none⟩ (.int .i64 h')).setCell ⟨g, 1, none⟩ (.int .i64 (i + 1 : Int))).drewN n := by
  obtain ⟨c0, c1, c2, f1, f2⟩ := three_cells w g _ _ _ _ hg
  have hcs : ∀ v, (w.setCell ⟨g, 2, none⟩ v).cell? ⟨b, off + i, none⟩ = some (.int .u8 (y.toNat : Int)) := by
    intro v
    rw [World.cell?_of_block (w := w) (a := ⟨b, off + i, none⟩) (Below.heap_setCell w ⟨g, 2, none⟩ v b (by show b ≠ g; omega))]
    exact hc
  clear hg hc
  go_enter Tryd.func32, Tryd.ntmps32
  go_wp2_with fail
  generalize wrap64 (wrap64 (h * 6364136223846793005) + 1442695040888963407) = h'
  go_quiet (fail)
  go_wp2_with fail
  go_quiet (fail)
  go_wp2_with fail
  go_quiet (fail)
  go_wp2_with fail
  go_ret
  obtain ⟨x, hx, he⟩ := and_mask (wrap64 (bits .and .i64 (bits .xor .i64 (h' / 8589934592) (h' / 140737488355328)) 255 + wrap64 (y.toNat : Int)))
  exact ⟨x, h', _, hx, ret_int he, rfl⟩

theorem grown_draws {w w' : World} {g n : Nat} (h : w.grownBy w' (some g)) : w.grownBy (w'.drewN n) (some g) := ⟨h.os, h.tape, h.output, h.size, h.block⟩
theorem grown_set (w : World) (g j : Nat) (v : Value) : w.grownBy (w.setCell ⟨g, j, none⟩ v) (some g) :=
  ⟨rfl, rfl, rfl, by simp, fun k _ hk => heap_setCell_other w ⟨g, j, none⟩ k v (fun e => hk (by simp [e]))⟩

/-- What only writes into the cursor's block, and leaves a cursor there. -/
theorem Cursor.moved {w w' : World} {g : Nat} {ao : Option Addr} {len cap : Nat} {bs : List UInt8} (h : Cursor w g ao len cap bs) (hg : w.grownBy w' (some g))
    (hc : ∃ (i : Nat) (q : Int), w'.heap[g]? = some (.cells #[.slice ao len cap, .int .i64 (i : Int), .int .i64 q] 42 (0, 0))) : Cursor w' g ao len cap bs := by
  have hlt := h.lt
  refine ⟨hc, ⟨h.code.1, ?_⟩, h.old⟩
  rcases h.code.2 with h0 | ⟨b, off, hao, hcell⟩
  · exact .inl h0
  · by_cases h0 : len = 0
    · exact .inl h0
    · refine .inr ⟨b, off, hao, fun j hj => ?_⟩
      rcases h.old with h1 | ⟨b', off', hao', hb⟩
      · exact absurd h1 h0
      · rw [hao] at hao'
        simp only [Option.some.injEq, Addr.mk.injEq, and_true] at hao'
        rw [← hcell j hj]
        exact World.cell?_of_block (w := w) (hg.block b (by omega) (by simp; omega))

/-- A byte is drawn: 0 .. 255; the cursor goes on. -/
theorem l1Byte_any (g : Nat) (ao : Option Addr) (len cap : Nat) (bs : List UInt8) (w : World) (hl : len ≤ 1073741824) (h : Cursor w g ao len cap bs) :
    Calls Tryd.prog 32 #[.pointer (some ⟨g, 0, none⟩)] w fun e w' => ∃ x : Nat, x < 256 ∧ e = .returned (.int .i64 (x : Int)) ∧ Cursor w' g ao len cap bs ∧ w.grownBy w' (some g) := by
  obtain ⟨i, q, hg⟩ := h.cur
  by_cases hi : (i : Int) < (len : Int)
  · rcases h.old with h0 | ⟨b, off, rfl, hb⟩
    · omega
    · rcases h.code.2 with h0 | ⟨b', off', hao, hc⟩
      · omega
      · simp only [Option.some.injEq, Addr.mk.injEq, and_true] at hao
        obtain ⟨rfl, rfl⟩ := hao
        refine (l1Byte_in g b off len cap i q (bs.getD i 0) w hg hi hl hb (hc i (by omega))).mono ?_
        rintro e w' ⟨x, h', n, hx, rfl, rfl⟩
        have hgr : w.grownBy (((w.setCell ⟨g, 2, none⟩ (.int .i64 h')).setCell ⟨g, 1, none⟩ (.int .i64 (i + 1 : Int))).drewN n) (some g) := grown_draws (grown_next (grown_set w g 2 _) (grown_set _ g 1 _))
        refine ⟨x, hx, rfl, h.moved hgr ⟨i + 1, h', ?_⟩, hgr⟩
        show ((w.setCell ⟨g, 2, none⟩ (.int .i64 h')).setCell ⟨g, 1, none⟩ (.int .i64 (i + 1 : Int))).heap[g]? = _
        rw [heap_setCell_same _ g 1 _ _ _ (heap_setCell_same w g 2 _ _ _ hg)]
        simp
  · refine (l1Byte_end g ao len cap i q w hg hi).mono ?_
    rintro e w' ⟨x, h', n, hx, rfl, rfl⟩
    have hgr : w.grownBy ((w.setCell ⟨g, 2, none⟩ (.int .i64 h')).drewN n) (some g) := grown_draws (grown_set w g 2 _)
    refine ⟨x, hx, rfl, h.moved hgr ⟨i, h', ?_⟩, hgr⟩
    show (w.setCell ⟨g, 2, none⟩ (.int .i64 h')).heap[g]? = _
    rw [heap_setCell_same w g 2 _ _ _ hg]
    simp

set_option maxHeartbeats 400000 in
/-- Below n: 0 .. n - 1. -/
theorem l1Below_any (g : Nat) (ao : Option Addr) (len cap : Nat) (bs : List UInt8) (n : Nat) (w : World) (hl : len ≤ 1073741824) (hn : 0 < n) (hn2 : n ≤ 256) (h : Cursor w g ao len cap bs) :
    Calls Tryd.prog 31 #[.pointer (some ⟨g, 0, none⟩), .int .i64 (n : Int)] w fun e w' => ∃ x : Nat, x < n ∧ e = .returned (.int .i64 (x : Int)) ∧ Cursor w' g ao len cap bs ∧ w.grownBy w' (some g) := by
  have H : Hd (Cursor w g ao len cap bs) := ⟨h⟩
  have h1 : ¬ ((n : Int) ≤ 0) := by omega
  have h2 : (n : Int) ≤ 256 := by omega
  have h3 : ((n : Int) == 0) = false := by simp; omega
  clear h
  go_enter Tryd.func31, Tryd.ntmps31
  go_wp2_with fail
  refine (l1Byte_any g ao len cap bs _ hl H.out).mono ?_
  rintro e w1 ⟨x, hx, rfl, hC, hG⟩
  have HC : Hd (Cursor w1 g ao len cap bs) := ⟨hC⟩
  have HG : Hd (w.grownBy w1 (some g)) := ⟨hG⟩
  have hmod : Hd (x % n < n) := ⟨Nat.mod_lt _ hn⟩
  clear hC hG
  go_wp2_with fail
  go_ret
  exact ⟨x % n, hmod.out, ret_int (by simp), HC.out, HG.out⟩

set_option maxHeartbeats 400000 in
theorem l1Str_any (g q m c : Nat) (ao : Option Addr) (len cap : Nat) (bs : List UInt8) (zs : List ByteArray) (w : World) (hl : len ≤ 1073741824) (hm : 0 < m) (hm2 : m ≤ 256) (hz : zs.length = m) (hq : q ≠ g)
    (hc : ∀ j, j < m → w.cell? ⟨q, j, none⟩ = some (.string (zs.getD j ⟨#[]⟩))) (h : Cursor w g ao len cap bs) :
    Calls Tryd.prog 28 #[.pointer (some ⟨g, 0, none⟩), .slice (some ⟨q, 0, none⟩) m c] w fun e w' => ∃ z ∈ zs, e = .returned (.string z) ∧ Cursor w' g ao len cap bs ∧ w.grownBy w' (some g) := by
  have H : Hd (Cursor w g ao len cap bs) := ⟨h⟩
  have Hz : Hd (zs.length = m) := ⟨hz⟩
  have Hc : Hd (∀ j, j < m → w.cell? ⟨q, j, none⟩ = some (.string (zs.getD j ⟨#[]⟩))) := ⟨hc⟩
  clear h hz hc
  go_enter Tryd.func28, Tryd.ntmps28
  go_wp2_with fail
  refine (l1Below_any g ao len cap bs m _ hl hm hm2 H.out).mono ?_
  rintro e w1 ⟨x, hx, rfl, hC, hG⟩
  have HC : Hd (Cursor w1 g ao len cap bs) := ⟨hC⟩
  have HG : Hd (w.grownBy w1 (some g)) := ⟨hG⟩
  have hcx : w1.cell? ⟨q, x, none⟩ = some (.string (zs.getD x ⟨#[]⟩)) := hG.cell (Hc.out x hx) (by simpa using hq)
  have hmem : Hd (zs.getD x ⟨#[]⟩ ∈ zs) := ⟨by
    have hx' : x < zs.length := by rw [Hz.out]; exact hx
    rw [show zs.getD x ⟨#[]⟩ = zs[x] from by simp [List.getD, List.getElem?_eq_getElem hx']]
    exact List.getElem_mem hx'⟩
  have hx2 : (x : Int) < (m : Int) := by omega
  clear hC hG Hc
  generalize zs.getD x ⟨#[]⟩ = z at *
  go_wp2_with fail
  go_ret
  exact ⟨z, hmem.out, rfl, HC.out, HG.out⟩

set_option maxHeartbeats 400000 in
theorem l1New_some (b off len cap : Nat) (bs : List UInt8) (w : World) (hl : len ≤ 1073741824) (hc : ∀ j, j < len → w.cell? ⟨b, off + j, none⟩ = some (.int .u8 ((bs.getD j 0).toNat : Int))) :
    Calls Tryd.prog 26 #[.slice (some ⟨b, off, none⟩) len cap] w fun e w' => e = .returned (.pointer (some ⟨w.heap.size, 0, none⟩)) ∧ ∃ h : Int, w' = w.alloc (.cells #[.slice (some ⟨b, off, none⟩) len cap, .int .i64 0, .int .i64 h] 42) := by
  have Hc : Hd (∀ j, j < len → w.cell? ⟨b, off + j, none⟩ = some (.int .u8 ((bs.getD j 0).toNat : Int))) := ⟨hc⟩
  clear hc
  go_enter Tryd.func26, Tryd.ntmps26
  go_wp2_with fail
  go_loop [3, 4] (fun s i => ∃ (k : Nat) (h : Int), k ≤ len ∧ i = .int .i64 k ∧ s = .int .i64 h) (fun _ i => len - (intOf i).toNat)
  case atStart => exact ⟨0, _, Nat.zero_le _, rfl, rfl⟩
  case round =>
    obtain ⟨k, h, hk, rfl, rfl⟩ := hrel
    by_cases hlt : (k : Int) < (len : Int)
    · by_cases h4 : (k : Int) < 4000
      · have hcell := Hc.out k (by omega)
        generalize (bs.getD k 0).toNat = x at *
        go_wp2_with fail
        go_round
        case rel => exact ⟨k + 1, _, by omega, by go_num, rfl⟩
        case measure => simp [intOf]; omega
      · go_wp2_with fail
        go_ret
        exact ⟨rfl, h, rfl⟩
    · go_wp2_with fail
      go_ret
      exact ⟨rfl, h, rfl⟩

set_option maxHeartbeats 400000 in
theorem l1New_none (ao : Option Addr) (cap : Nat) (w : World) :
    Calls Tryd.prog 26 #[.slice ao 0 cap] w fun e w' => e = .returned (.pointer (some ⟨w.heap.size, 0, none⟩)) ∧ ∃ h : Int, w' = w.alloc (.cells #[.slice ao 0 cap, .int .i64 0, .int .i64 h] 42) := by
  go_enter Tryd.func26, Tryd.ntmps26
  go_wp2_with fail
  refine wp_loop_rounds 1 ?_
  rw [rounds_succ]
  go_wp2_with fail
  go_ret
  exact ⟨rfl, _, rfl⟩

theorem Cursor.made {w : World} {ao : Option Addr} {len cap : Nat} {bs : List UInt8} (hr : Reads w ao len bs) (h : Int) : Cursor (w.alloc (.cells #[.slice ao len cap, .int .i64 0, .int .i64 h] 42)) w.heap.size ao len cap bs := by
  refine ⟨⟨0, h, heap_alloc_new w _⟩, hr.below rfl ((Below.refl _ w).alloc (Nat.le_refl _) _), ?_⟩
  rcases hr.2 with h0 | ⟨b, off, hao, hc⟩
  · exact .inl h0
  · by_cases h0 : len = 0
    · exact .inl h0
    · exact .inr ⟨b, off, hao, World.block_lt_of_cell? w _ (hc 0 (by omega))⟩

/-- A cursor over the code, in new memory. -/
theorem l1New_any (ao : Option Addr) (len cap : Nat) (bs : List UInt8) (w : World) (hl : len ≤ 1073741824) (hr : Reads w ao len bs) :
    Calls Tryd.prog 26 #[.slice ao len cap] w fun e w' => e = .returned (.pointer (some ⟨w.heap.size, 0, none⟩)) ∧ Cursor w' w.heap.size ao len cap bs ∧ Below w.heap.size w w' := by
  have fin : ∀ (e : Ending) (w' : World), (e = .returned (.pointer (some ⟨w.heap.size, 0, none⟩)) ∧ ∃ h : Int, w' = w.alloc (.cells #[.slice ao len cap, .int .i64 0, .int .i64 h] 42)) → e = .returned (.pointer (some ⟨w.heap.size, 0, none⟩)) ∧ Cursor w' w.heap.size ao len cap bs ∧ Below w.heap.size w w' := by
    rintro e w' ⟨rfl, h, rfl⟩
    exact ⟨rfl, Cursor.made hr h, (Below.refl _ w).alloc (Nat.le_refl _) _⟩
  rcases hr.2 with h0 | ⟨b, off, hao, hc⟩
  · subst h0
    exact (l1New_none ao cap w).mono fin
  · subst hao
    exact (l1New_some b off len cap bs w hl hc).mono fin

structure BytesOut (w : World) (g : Nat) (ao : Option Addr) (len cap : Nat) (bs : List UInt8) (n : Nat) (e : Ending) (w' : World) : Prop where
  out : ∃ q c ds, e = .returned (.slice (some ⟨q, 0, none⟩) n c) ∧ ds.length = n ∧ w.heap.size ≤ q ∧ Own w' q c ds ∧ Cursor w' g ao len cap bs ∧ w.grownBy w' (some g)

end Go.Proofs.YtjpfkjehlaepbaaDoor
