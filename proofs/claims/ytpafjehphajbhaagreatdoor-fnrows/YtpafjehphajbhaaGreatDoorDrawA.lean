/- Contracts of what draws numbers, bytes and texts out of a code: what is drawn lies within its bounds, in new memory. Contracts of what draws numbers, signs and places out of a code. Contract of what bends bytes that were drawn. Bytes that lie there, to be read; and what they say as a text. Contracts of what draws texts and sets out of a code. Contracts of what is drawn for the laws of stage 5: texts of a set, their bytes, bent or not. -/
import Derived.Test.YtpafjehphajbhaaGreatDoorBase
import Derived.Test.YtpafjehphajbhaaGreatDoorPlain
import Derived.Test.YtpafjehphajbhaaGreatDoorPut
import Derived.Test.YtpafjehphajbhaaGreatDoorCommon
import Derived.Test.YtpafjehphajbhaaGreatDoorSign
import Derived.Deep.RegionWith
import Derived.Test.YtpafjehphajbhaaGreatDoorGetSign
import Derived.Test.YtpafjehphajbhaaGreatDoorSignsS
import Derived.Test.YtpafjehphajbhaaGreatDoorCodeA
namespace Go.Proofs.YtpafjehphajbhaaGreatDoor
set_option maxRecDepth 4000
open Go.RowKit

theorem and_mask (a : Int) : ∃ x : Nat, x < 256 ∧ bits .and .i64 a 255 = (x : Int) := by
  refine ⟨(BitVec.ofInt 64 a &&& BitVec.ofInt 64 255).toNat, ?_, ?_⟩
  · rw [BitVec.toNat_and]
    have : (BitVec.ofInt 64 255).toNat = 255 := by decide
    rw [this]
    have h := Nat.and_le_right (n := (BitVec.ofInt 64 a).toNat) (m := 255)
    omega
  · have h : (BitVec.ofInt 64 a &&& BitVec.ofInt 64 255).toNat ≤ 255 := by
      rw [BitVec.toNat_and]
      have : (BitVec.ofInt 64 255).toNat = 255 := by decide
      rw [this]
      exact Nat.and_le_right
    show IntKind.i64.wrap ((BitVec.ofInt 64 a &&& BitVec.ofInt 64 255).toNat : Int) = _
    rw [IntKind.wrap_i64]; omega

/-- Block g is a cursor over the code at ao. -/
structure Cursor (w : World) (g : Nat) (ao : Option Addr) (len cap : Nat) (bs : List UInt8) : Prop where
  cur : ∃ (i : Nat) (h : Int), w.heap[g]? = some (.cells #[.slice ao len cap, .int .i64 (i : Int), .int .i64 h] 60 (0, 0))
  code : Reads w ao len bs
  old : len = 0 ∨ ∃ b off, ao = some ⟨b, off, none⟩ ∧ b < g

theorem Cursor.lt {w : World} {g : Nat} {ao : Option Addr} {len cap : Nat} {bs : List UInt8} (h : Cursor w g ao len cap bs) : g < w.heap.size := by
  obtain ⟨i, q, hg⟩ := h.cur
  exact (Array.getElem?_eq_some_iff.1 hg).1

/-- What leaves the cursor's block and the code's alone leaves the cursor. -/
theorem Cursor.kept {w w' : World} {g : Nat} {ao : Option Addr} {len cap : Nat} {bs : List UInt8} (h : Cursor w g ao len cap bs) (hb : ∀ k, k ≤ g → w'.heap[k]? = w.heap[k]?) : Cursor w' g ao len cap bs := by
  obtain ⟨i, q, hg⟩ := h.cur
  refine ⟨⟨i, q, (hb g (Nat.le_refl _)).trans hg⟩, ⟨h.code.1, ?_⟩, h.old⟩
  rcases h.code.2 with h0 | ⟨b, off, hao, hc⟩
  · exact .inl h0
  · by_cases h0 : len = 0
    · exact .inl h0
    · refine .inr ⟨b, off, hao, fun j hj => ?_⟩
      rcases h.old with h1 | ⟨b', off', hao', hlt⟩
      · exact absurd h1 h0
      · rw [hao] at hao'
        simp only [Option.some.injEq, Addr.mk.injEq, and_true] at hao'
        rw [← hc j hj]
        exact World.cell?_of_block (w := w) (hb b (by omega))
theorem Cursor.below {w w' : World} {g : Nat} {ao : Option Addr} {len cap : Nat} {bs : List UInt8} (h : Cursor w g ao len cap bs) (hb : Below w.heap.size w w') : Cursor w' g ao len cap bs :=
  h.kept fun k hk => hb.block k (by have := h.lt; omega)

theorem three_cells (w : World) (g : Nat) (a b c : Value) (T : TypeId) (hg : w.heap[g]? = some (.cells #[a, b, c] T (0, 0))) :
    w.cell? ⟨g, 0, none⟩ = some a ∧ w.cell? ⟨g, 1, none⟩ = some b ∧ w.cell? ⟨g, 2, none⟩ = some c ∧ w.frozen? ⟨g, 1, none⟩ = false ∧ w.frozen? ⟨g, 2, none⟩ = false := by
  refine ⟨?_, ?_, ?_, frozen_of_row w g 1 _ _ hg, frozen_of_row w g 2 _ _ hg⟩
  · rw [cell_of_row w g 0 _ _ (0, 0) hg]; rfl
  · rw [cell_of_row w g 1 _ _ (0, 0) hg]; rfl
  · rw [cell_of_row w g 2 _ _ (0, 0) hg]; rfl

set_option maxHeartbeats 400000 in
theorem l1Byte_end (g : Nat) (ao : Option Addr) (len cap : Nat) (i : Nat) (h : Int) (w : World) (hg : w.heap[g]? = some (.cells #[.slice ao len cap, .int .i64 (i : Int), .int .i64 h] 60 (0, 0))) (hi : ¬ (i : Int) < (len : Int)) :
    Calls Tryz.prog 64 #[.pointer (some ⟨g, 0, none⟩)] w fun e w' => ∃ (x : Nat) (h' : Int) (n : Nat), x < 256 ∧ e = .returned (.int .i64 (x : Int)) ∧ w' = (w.setCell ⟨g, 2, none⟩ (.int .i64 h')).drewN n := by
  obtain ⟨c0, c1, c2, f1, f2⟩ := three_cells w g _ _ _ _ hg
  clear hg
  go_enter Tryz.func64, Tryz.ntmps64
  go_wp2_with fail
  generalize wrap64 (wrap64 (h * 6364136223846793005) + 1442695040888963407) = h'
  go_quiet (fail)
  go_wp2_with fail
  go_quiet (fail)
  go_wp2_with fail
  go_ret
  obtain ⟨x, hx, he⟩ := and_mask (bits .xor .i64 (h' / 8589934592) (h' / 140737488355328))
  exact ⟨x, h', _, hx, ret_int he, by rw [World.drewN_drewN]⟩

set_option maxHeartbeats 400000 in
theorem l1Byte_in (g b off len cap : Nat) (i : Nat) (h : Int) (y : UInt8) (w : World) (hg : w.heap[g]? = some (.cells #[.slice (some ⟨b, off, none⟩) len cap, .int .i64 (i : Int), .int .i64 h] 60 (0, 0))) (hi : (i : Int) < (len : Int)) (hl : len ≤ 1073741824)
    (hb : b < g) (hc : w.cell? ⟨b, off + i, none⟩ = some (.int .u8 (y.toNat : Int))) :
    Calls Tryz.prog 64 #[.pointer (some ⟨g, 0, none⟩)] w fun e w' => ∃ (x : Nat) (h' : Int) (n : Nat), x < 256 ∧ e = .returned (.int .i64 (x : Int)) ∧ w' = ((w.setCell ⟨g, 2, none⟩ (.int .i64 h')).setCell ⟨g, 1, none⟩ (.int .i64 (i + 1 : Int))).drewN n := by
  obtain ⟨c0, c1, c2, f1, f2⟩ := three_cells w g _ _ _ _ hg
  have hcs : ∀ v, (w.setCell ⟨g, 2, none⟩ v).cell? ⟨b, off + i, none⟩ = some (.int .u8 (y.toNat : Int)) := by
    intro v
    rw [World.cell?_of_block (w := w) (a := ⟨b, off + i, none⟩) (Below.heap_setCell w ⟨g, 2, none⟩ v b (by show b ≠ g; omega))]
    exact hc
  clear hg hc
  go_enter Tryz.func64, Tryz.ntmps64
  go_wp2_with fail
  generalize wrap64 (wrap64 (h * 6364136223846793005) + 1442695040888963407) = h'
  go_quiet (fail)
  go_wp2_with fail
  go_quiet (fail)
  go_wp2_with fail
  go_quiet (fail)
  go_wp2_with fail
  go_ret
  obtain ⟨x, hx, he⟩ := and_mask (wrap64 (bits .and .i64 (bits .xor .i64 (h' / 8589934592) (h' / 140737488355328)) 255 + wrap64 (y.toNat : Int)))
  exact ⟨x, h', _, hx, ret_int he, rfl⟩

theorem grown_draws {w w' : World} {g n : Nat} (h : w.grownBy w' (some g)) : w.grownBy (w'.drewN n) (some g) := ⟨h.os, h.tape, h.output, h.size, h.block⟩
theorem grown_set (w : World) (g j : Nat) (v : Value) : w.grownBy (w.setCell ⟨g, j, none⟩ v) (some g) :=
  ⟨rfl, rfl, rfl, by simp, fun k _ hk => heap_setCell_other w ⟨g, j, none⟩ k v (fun e => hk (by simp [e]))⟩

/-- What only writes into the cursor's block, and leaves a cursor there. -/
theorem Cursor.moved {w w' : World} {g : Nat} {ao : Option Addr} {len cap : Nat} {bs : List UInt8} (h : Cursor w g ao len cap bs) (hg : w.grownBy w' (some g))
    (hc : ∃ (i : Nat) (q : Int), w'.heap[g]? = some (.cells #[.slice ao len cap, .int .i64 (i : Int), .int .i64 q] 60 (0, 0))) : Cursor w' g ao len cap bs := by
  have hlt := h.lt
  refine ⟨hc, ⟨h.code.1, ?_⟩, h.old⟩
  rcases h.code.2 with h0 | ⟨b, off, hao, hcell⟩
  · exact .inl h0
  · by_cases h0 : len = 0
    · exact .inl h0
    · refine .inr ⟨b, off, hao, fun j hj => ?_⟩
      rcases h.old with h1 | ⟨b', off', hao', hb⟩
      · exact absurd h1 h0
      · rw [hao] at hao'
        simp only [Option.some.injEq, Addr.mk.injEq, and_true] at hao'
        rw [← hcell j hj]
        exact World.cell?_of_block (w := w) (hg.block b (by omega) (by simp; omega))

/-- A byte is drawn: 0 .. 255; the cursor goes on. -/
theorem l1Byte_any (g : Nat) (ao : Option Addr) (len cap : Nat) (bs : List UInt8) (w : World) (hl : len ≤ 1073741824) (h : Cursor w g ao len cap bs) :
    Calls Tryz.prog 64 #[.pointer (some ⟨g, 0, none⟩)] w fun e w' => ∃ x : Nat, x < 256 ∧ e = .returned (.int .i64 (x : Int)) ∧ Cursor w' g ao len cap bs ∧ w.grownBy w' (some g) := by
  obtain ⟨i, q, hg⟩ := h.cur
  by_cases hi : (i : Int) < (len : Int)
  · rcases h.old with h0 | ⟨b, off, rfl, hb⟩
    · omega
    · rcases h.code.2 with h0 | ⟨b', off', hao, hc⟩
      · omega
      · simp only [Option.some.injEq, Addr.mk.injEq, and_true] at hao
        obtain ⟨rfl, rfl⟩ := hao
        refine (l1Byte_in g b off len cap i q (bs.getD i 0) w hg hi hl hb (hc i (by omega))).mono ?_
        rintro e w' ⟨x, h', n, hx, rfl, rfl⟩
        have hgr : w.grownBy (((w.setCell ⟨g, 2, none⟩ (.int .i64 h')).setCell ⟨g, 1, none⟩ (.int .i64 (i + 1 : Int))).drewN n) (some g) := grown_draws (grown_next (grown_set w g 2 _) (grown_set _ g 1 _))
        refine ⟨x, hx, rfl, h.moved hgr ⟨i + 1, h', ?_⟩, hgr⟩
        show ((w.setCell ⟨g, 2, none⟩ (.int .i64 h')).setCell ⟨g, 1, none⟩ (.int .i64 (i + 1 : Int))).heap[g]? = _
        rw [heap_setCell_same _ g 1 _ _ _ (heap_setCell_same w g 2 _ _ _ hg)]
        simp
  · refine (l1Byte_end g ao len cap i q w hg hi).mono ?_
    rintro e w' ⟨x, h', n, hx, rfl, rfl⟩
    have hgr : w.grownBy ((w.setCell ⟨g, 2, none⟩ (.int .i64 h')).drewN n) (some g) := grown_draws (grown_set w g 2 _)
    refine ⟨x, hx, rfl, h.moved hgr ⟨i, h', ?_⟩, hgr⟩
    show (w.setCell ⟨g, 2, none⟩ (.int .i64 h')).heap[g]? = _
    rw [heap_setCell_same w g 2 _ _ _ hg]
    simp

set_option maxHeartbeats 400000 in
/-- Below n: 0 .. n - 1. -/
theorem l1Below_any (g : Nat) (ao : Option Addr) (len cap : Nat) (bs : List UInt8) (n : Nat) (w : World) (hl : len ≤ 1073741824) (hn : 0 < n) (hn2 : n ≤ 256) (h : Cursor w g ao len cap bs) :
    Calls Tryz.prog 35 #[.pointer (some ⟨g, 0, none⟩), .int .i64 (n : Int)] w fun e w' => ∃ x : Nat, x < n ∧ e = .returned (.int .i64 (x : Int)) ∧ Cursor w' g ao len cap bs ∧ w.grownBy w' (some g) := by
  have H : Hd (Cursor w g ao len cap bs) := ⟨h⟩
  have h1 : ¬ ((n : Int) ≤ 0) := by omega
  have h2 : (n : Int) ≤ 256 := by omega
  have h3 : ((n : Int) == 0) = false := by simp; omega
  clear h
  go_enter Tryz.func35, Tryz.ntmps35
  go_wp2_with fail
  refine (l1Byte_any g ao len cap bs _ hl H.out).mono ?_
  rintro e w1 ⟨x, hx, rfl, hC, hG⟩
  have HC : Hd (Cursor w1 g ao len cap bs) := ⟨hC⟩
  have HG : Hd (w.grownBy w1 (some g)) := ⟨hG⟩
  have hmod : Hd (x % n < n) := ⟨Nat.mod_lt _ hn⟩
  clear hC hG
  go_wp2_with fail
  go_ret
  exact ⟨x % n, hmod.out, ret_int (by simp), HC.out, HG.out⟩

set_option maxHeartbeats 400000 in
theorem l1Once_any (g : Nat) (ao : Option Addr) (len cap : Nat) (bs : List UInt8) (n : Nat) (w : World) (hl : len ≤ 1073741824) (hn : 0 < n) (hn2 : n ≤ 256) (h : Cursor w g ao len cap bs) :
    Calls Tryz.prog 30 #[.pointer (some ⟨g, 0, none⟩), .int .i64 (n : Int)] w fun e w' => ∃ b : Bool, e = .returned (.bool b) ∧ Cursor w' g ao len cap bs ∧ w.grownBy w' (some g) := by
  have H : Hd (Cursor w g ao len cap bs) := ⟨h⟩
  clear h
  go_enter Tryz.func30, Tryz.ntmps30
  go_wp2_with fail
  refine (l1Below_any g ao len cap bs n _ hl hn hn2 H.out).mono ?_
  rintro e w1 ⟨x, hx, rfl, hC, hG⟩
  have HC : Hd (Cursor w1 g ao len cap bs) := ⟨hC⟩
  have HG : Hd (w.grownBy w1 (some g)) := ⟨hG⟩
  clear hC hG
  go_wp2_with fail
  go_ret
  exact ⟨_, rfl, HC.out, HG.out⟩

set_option maxHeartbeats 400000 in
theorem l1Int_any (g q m c : Nat) (ao : Option Addr) (len cap : Nat) (bs : List UInt8) (zs : List Int) (w : World) (hl : len ≤ 1073741824) (hm : 0 < m) (hm2 : m ≤ 256) (hz : zs.length = m) (hq : q ≠ g)
    (hc : ∀ j, j < m → w.cell? ⟨q, j, none⟩ = some (.int .i64 (zs.getD j 0))) (h : Cursor w g ao len cap bs) :
    Calls Tryz.prog 33 #[.pointer (some ⟨g, 0, none⟩), .slice (some ⟨q, 0, none⟩) m c] w fun e w' => ∃ z ∈ zs, e = .returned (.int .i64 z) ∧ Cursor w' g ao len cap bs ∧ w.grownBy w' (some g) := by
  have H : Hd (Cursor w g ao len cap bs) := ⟨h⟩
  have Hz : Hd (zs.length = m) := ⟨hz⟩
  have Hc : Hd (∀ j, j < m → w.cell? ⟨q, j, none⟩ = some (.int .i64 (zs.getD j 0))) := ⟨hc⟩
  clear h hz hc
  go_enter Tryz.func33, Tryz.ntmps33
  go_wp2_with fail
  refine (l1Below_any g ao len cap bs m _ hl hm hm2 H.out).mono ?_
  rintro e w1 ⟨x, hx, rfl, hC, hG⟩
  have HC : Hd (Cursor w1 g ao len cap bs) := ⟨hC⟩
  have HG : Hd (w.grownBy w1 (some g)) := ⟨hG⟩
  have hcx : w1.cell? ⟨q, x, none⟩ = some (.int .i64 (zs.getD x 0)) := hG.cell (Hc.out x hx) (by simpa using hq)
  have hmem : Hd (zs.getD x 0 ∈ zs) := ⟨by
    have hx' : x < zs.length := by rw [Hz.out]; exact hx
    rw [show zs.getD x 0 = zs[x] from by simp [List.getD, List.getElem?_eq_getElem hx']]
    exact List.getElem_mem hx'⟩
  have hx2 : (x : Int) < (m : Int) := by omega
  clear hC hG Hc
  generalize zs.getD x 0 = z at *
  go_wp2_with fail
  go_ret
  exact ⟨z, hmem.out, rfl, HC.out, HG.out⟩

set_option maxHeartbeats 400000 in
theorem l1Str_any (g q m c : Nat) (ao : Option Addr) (len cap : Nat) (bs : List UInt8) (zs : List ByteArray) (w : World) (hl : len ≤ 1073741824) (hm : 0 < m) (hm2 : m ≤ 256) (hz : zs.length = m) (hq : q ≠ g)
    (hc : ∀ j, j < m → w.cell? ⟨q, j, none⟩ = some (.string (zs.getD j ⟨#[]⟩))) (h : Cursor w g ao len cap bs) :
    Calls Tryz.prog 59 #[.pointer (some ⟨g, 0, none⟩), .slice (some ⟨q, 0, none⟩) m c] w fun e w' => ∃ z ∈ zs, e = .returned (.string z) ∧ Cursor w' g ao len cap bs ∧ w.grownBy w' (some g) := by
  have H : Hd (Cursor w g ao len cap bs) := ⟨h⟩
  have Hz : Hd (zs.length = m) := ⟨hz⟩
  have Hc : Hd (∀ j, j < m → w.cell? ⟨q, j, none⟩ = some (.string (zs.getD j ⟨#[]⟩))) := ⟨hc⟩
  clear h hz hc
  go_enter Tryz.func59, Tryz.ntmps59
  go_wp2_with fail
  refine (l1Below_any g ao len cap bs m _ hl hm hm2 H.out).mono ?_
  rintro e w1 ⟨x, hx, rfl, hC, hG⟩
  have HC : Hd (Cursor w1 g ao len cap bs) := ⟨hC⟩
  have HG : Hd (w.grownBy w1 (some g)) := ⟨hG⟩
  have hcx : w1.cell? ⟨q, x, none⟩ = some (.string (zs.getD x ⟨#[]⟩)) := hG.cell (Hc.out x hx) (by simpa using hq)
  have hmem : Hd (zs.getD x ⟨#[]⟩ ∈ zs) := ⟨by
    have hx' : x < zs.length := by rw [Hz.out]; exact hx
    rw [show zs.getD x ⟨#[]⟩ = zs[x] from by simp [List.getD, List.getElem?_eq_getElem hx']]
    exact List.getElem_mem hx'⟩
  have hx2 : (x : Int) < (m : Int) := by omega
  clear hC hG Hc
  generalize zs.getD x ⟨#[]⟩ = z at *
  go_wp2_with fail
  go_ret
  exact ⟨z, hmem.out, rfl, HC.out, HG.out⟩

set_option maxHeartbeats 400000 in
theorem l1New_some (b off len cap : Nat) (bs : List UInt8) (w : World) (hl : len ≤ 1073741824) (hc : ∀ j, j < len → w.cell? ⟨b, off + j, none⟩ = some (.int .u8 ((bs.getD j 0).toNat : Int))) :
    Calls Tryz.prog 27 #[.slice (some ⟨b, off, none⟩) len cap] w fun e w' => e = .returned (.pointer (some ⟨w.heap.size, 0, none⟩)) ∧ ∃ h : Int, w' = w.alloc (.cells #[.slice (some ⟨b, off, none⟩) len cap, .int .i64 0, .int .i64 h] 60) := by
  have Hc : Hd (∀ j, j < len → w.cell? ⟨b, off + j, none⟩ = some (.int .u8 ((bs.getD j 0).toNat : Int))) := ⟨hc⟩
  clear hc
  go_enter Tryz.func27, Tryz.ntmps27
  go_wp2_with fail
  go_loop [3, 4] (fun s i => ∃ (k : Nat) (h : Int), k ≤ len ∧ i = .int .i64 k ∧ s = .int .i64 h) (fun _ i => len - (intOf i).toNat)
  case atStart => exact ⟨0, _, Nat.zero_le _, rfl, rfl⟩
  case round =>
    obtain ⟨k, h, hk, rfl, rfl⟩ := hrel
    by_cases hlt : (k : Int) < (len : Int)
    · by_cases h4 : (k : Int) < 4000
      · have hcell := Hc.out k (by omega)
        generalize (bs.getD k 0).toNat = x at *
        go_wp2_with fail
        go_round
        case rel => exact ⟨k + 1, _, by omega, by go_num, rfl⟩
        case measure => simp [intOf]; omega
      · go_wp2_with fail
        go_ret
        exact ⟨rfl, h, rfl⟩
    · go_wp2_with fail
      go_ret
      exact ⟨rfl, h, rfl⟩

set_option maxHeartbeats 400000 in
theorem l1New_none (ao : Option Addr) (cap : Nat) (w : World) :
    Calls Tryz.prog 27 #[.slice ao 0 cap] w fun e w' => e = .returned (.pointer (some ⟨w.heap.size, 0, none⟩)) ∧ ∃ h : Int, w' = w.alloc (.cells #[.slice ao 0 cap, .int .i64 0, .int .i64 h] 60) := by
  go_enter Tryz.func27, Tryz.ntmps27
  go_wp2_with fail
  refine wp_loop_rounds 1 ?_
  rw [rounds_succ]
  go_wp2_with fail
  go_ret
  exact ⟨rfl, _, rfl⟩

theorem Cursor.made {w : World} {ao : Option Addr} {len cap : Nat} {bs : List UInt8} (hr : Reads w ao len bs) (h : Int) : Cursor (w.alloc (.cells #[.slice ao len cap, .int .i64 0, .int .i64 h] 60)) w.heap.size ao len cap bs := by
  refine ⟨⟨0, h, heap_alloc_new w _⟩, hr.below rfl ((Below.refl _ w).alloc (Nat.le_refl _) _), ?_⟩
  rcases hr.2 with h0 | ⟨b, off, hao, hc⟩
  · exact .inl h0
  · by_cases h0 : len = 0
    · exact .inl h0
    · exact .inr ⟨b, off, hao, World.block_lt_of_cell? w _ (hc 0 (by omega))⟩

/-- A cursor over the code, in new memory. -/
theorem l1New_any (ao : Option Addr) (len cap : Nat) (bs : List UInt8) (w : World) (hl : len ≤ 1073741824) (hr : Reads w ao len bs) :
    Calls Tryz.prog 27 #[.slice ao len cap] w fun e w' => e = .returned (.pointer (some ⟨w.heap.size, 0, none⟩)) ∧ Cursor w' w.heap.size ao len cap bs ∧ Below w.heap.size w w' := by
  have fin : ∀ (e : Ending) (w' : World), (e = .returned (.pointer (some ⟨w.heap.size, 0, none⟩)) ∧ ∃ h : Int, w' = w.alloc (.cells #[.slice ao len cap, .int .i64 0, .int .i64 h] 60)) → e = .returned (.pointer (some ⟨w.heap.size, 0, none⟩)) ∧ Cursor w' w.heap.size ao len cap bs ∧ Below w.heap.size w w' := by
    rintro e w' ⟨rfl, h, rfl⟩
    exact ⟨rfl, Cursor.made hr h, (Below.refl _ w).alloc (Nat.le_refl _) _⟩
  rcases hr.2 with h0 | ⟨b, off, hao, hc⟩
  · subst h0
    exact (l1New_none ao cap w).mono fin
  · subst hao
    exact (l1New_some b off len cap bs w hl hc).mono fin

structure BytesOut (w : World) (g : Nat) (ao : Option Addr) (len cap : Nat) (bs : List UInt8) (n : Nat) (e : Ending) (w' : World) : Prop where
  out : ∃ q c ds, e = .returned (.slice (some ⟨q, 0, none⟩) n c) ∧ ds.length = n ∧ w.heap.size ≤ q ∧ Own w' q c ds ∧ Cursor w' g ao len cap bs ∧ w.grownBy w' (some g)

set_option maxHeartbeats 400000 in
theorem big_any (ao : Option Addr) (len cap : Nat) (w : World) : Calls Tryz.prog 5 #[.slice ao len cap] w fun e w' => e = .returned (.bool (decide (1048576 < (len : Int)))) ∧ w' = w := by
  go_enter Tryz.func5, Tryz.ntmps5
  go_wp2_with fail
  go_ret
  exact ⟨rfl, rfl⟩

/-- A number is drawn, and the cursor goes on. -/
structure IntDrawn (w : World) (g : Nat) (ao : Option Addr) (len cap : Nat) (bs : List UInt8) (e : Ending) (w' : World) : Prop where
  out : ∃ z : Int, e = .returned (.int .i64 z) ∧ z ≤ 9223372036854775807 ∧ Cursor w' g ao len cap bs ∧ w.grownBy w' (some g)
/-- Bytes are drawn, in new memory, and the cursor goes on. -/
structure BytesDrawn (w : World) (g : Nat) (ao : Option Addr) (len cap : Nat) (bs : List UInt8) (L : Nat) (e : Ending) (w' : World) : Prop where
  out : ∃ (q m c : Nat) (ds : List UInt8), e = .returned (.slice (some ⟨q, 0, none⟩) m c) ∧ ds.length = m ∧ m ≤ L ∧ w.heap.size ≤ q ∧ Own w' q c ds ∧ Cursor w' g ao len cap bs ∧ w.grownBy w' (some g)
/-- A number; two numbers; a text; bytes and a number. -/
structure DrawnInt (w : World) (e : Ending) (w' : World) : Prop where
  out : ∃ z : Int, e = .returned (.int .i64 z) ∧ z ≤ 9223372036854775807 ∧ Below w.heap.size w w'
structure DrawnTwo (w : World) (e : Ending) (w' : World) : Prop where
  out : ∃ y z : Int, e = .returned (.tuple #[.int .i64 y, .int .i64 z]) ∧ y ≤ 9223372036854775807 ∧ z ≤ 9223372036854775807 ∧ Below w.heap.size w w'
structure DrawnText (w : World) (e : Ending) (w' : World) : Prop where
  out : ∃ s : ByteArray, e = .returned (.string s) ∧ Below w.heap.size w w'
structure DrawnBytesInt (w : World) (L : Nat) (e : Ending) (w' : World) : Prop where
  out : ∃ (q m c : Nat) (ds : List UInt8) (z : Int), e = .returned (.tuple #[.slice (some ⟨q, 0, none⟩) m c, .int .i64 z]) ∧ ds.length = m ∧ m ≤ L ∧ z ≤ 9223372036854775807 ∧ w.heap.size ≤ q ∧ Own w' q c ds ∧ Below w.heap.size w w'

set_option maxHeartbeats 400000 in
theorem l2Sign_any (g : Nat) (ao : Option Addr) (len cap : Nat) (bs : List UInt8) (w : World) (hl : len ≤ 1073741824) (h : Cursor w g ao len cap bs) :
    Calls Tryz.prog 79 #[.pointer (some ⟨g, 0, none⟩)] w (IntDrawn w g ao len cap bs) := by
  have H : Hd (Cursor w g ao len cap bs) := ⟨h⟩
  have hlt := h.lt
  clear h
  go_enter Tryz.func79, Tryz.ntmps79
  go_wp2_with fail
  refine (l1Int_any g w.heap.size 19 19 ao len cap bs [0, 97, 90, 127, 128, 164, 233, 2047, 2048, 8364, 1072, 1102, 1025, 12354, 12450, 352, 65535, 65536, 1114111] _ hl (by omega) (by omega) rfl (by omega) ?cells (H.out.below ((Below.refl _ w).alloc (Nat.le_refl _) _))).mono ?_
  case cells => exact lit_ints w [0, 97, 90, 127, 128, 164, 233, 2047, 2048, 8364, 1072, 1102, 1025, 12354, 12450, 352, 65535, 65536, 1114111] _
  rintro e w1 ⟨z, hz, rfl, hC, hG⟩
  have HC : Hd (Cursor w1 g ao len cap bs) := ⟨hC⟩
  have HG : Hd (w.grownBy w1 (some g)) := ⟨grown_of_alloc hG⟩
  have HZ : Hd (z ≤ 9223372036854775807) := ⟨(by decide : ∀ z ∈ ([0, 97, 90, 127, 128, 164, 233, 2047, 2048, 8364, 1072, 1102, 1025, 12354, 12450, 352, 65535, 65536, 1114111] : List Int), z ≤ 9223372036854775807) z hz⟩
  clear hC hG hz
  go_wp2_with fail
  go_ret
  exact ⟨z, rfl, HZ.out, HC.out, HG.out⟩

/-- The bytes, the cursor and all else, while they are bent. -/
structure BendAt (w : World) (g : Nat) (ao : Option Addr) (len cap : Nat) (bs : List UInt8) (q c L : Nat) (xs : List UInt8) (w' : World) : Prop where
  own : Own w' q c xs
  size : xs.length = L
  cur : Cursor w' g ao len cap bs
  gr : w.grownBy w' (some g)
theorem bendS {w : World} {g : Nat} {ao : Option Addr} {len cap : Nat} {bs : List UInt8} {q c L : Nat} {xs : List UInt8} {w' : World} (h : Hd (BendAt w g ao len cap bs q c L xs w')) :
    Hd (BendAt w g ao len cap bs q c L xs w') ∧ (∀ i : Nat, i < L → w'.cell? ⟨q, i, none⟩ = some (.int .u8 ((xs.getD i 0).toNat : Int))) ∧ (∀ i : Nat, w'.frozen? ⟨q, i, none⟩ = false) :=
  ⟨h, fun i hi => h.out.own.row.cell i (by rw [h.out.size]; exact hi), fun i => h.out.own.row.free i⟩
theorem Own.store {w : World} {g c : Nat} {bs : List UInt8} (h : Own w g c bs) (j : Nat) (x : UInt8) : Own (w.setCell ⟨g, j, none⟩ (.int .u8 (x.toNat : Int))) g c (bs.set j x) := by
  obtain ⟨cur, hg, h1, h2, h3, h4⟩ := h
  refine ⟨cur.setIfInBounds j (cb x), heap_setCell_same w g j cur _ (cb x) hg, by simpa using h1, h2, by simpa using h3, ?_⟩
  rw [Array.toList_setIfInBounds, List.length_set, List.take_set, h4, List.map_set]
theorem BendAt.store {w : World} {g : Nat} {ao : Option Addr} {len cap : Nat} {bs : List UInt8} {q c L : Nat} {xs : List UInt8} {w' : World} (h : BendAt w g ao len cap bs q c L xs w') (hq : w.heap.size ≤ q) (hg : g < w.heap.size) (y : Nat) (v : UInt8) :
    BendAt w g ao len cap bs q c L (xs.set y v) (w'.setCell ⟨q, y, none⟩ (.int .u8 (v.toNat : Int))) :=
  ⟨h.own.store y v, by rw [List.length_set]; exact h.size, h.cur.kept (fun k hk => heap_setCell_other w' ⟨q, y, none⟩ k _ (by show k ≠ q; omega)),
   ⟨h.gr.os, h.gr.tape, h.gr.output, by have := h.gr.size; simp; omega, fun k hk hne => (heap_setCell_other w' ⟨q, y, none⟩ k _ (by show k ≠ q; omega)).trans (h.gr.block k hk hne)⟩⟩
theorem xor_byte (a b : Int) : ∃ v : UInt8, bits .xor .u8 a b = (v.toNat : Int) := by
  refine ⟨UInt8.ofNat (BitVec.ofInt 8 a ^^^ BitVec.ofInt 8 b).toNat, ?_⟩
  show IntKind.u8.wrap ((BitVec.ofInt 8 a ^^^ BitVec.ofInt 8 b).toNat : Int) = _
  rw [IntKind.wrap_u8, UInt8.toNat_ofNat']; omega
structure BelowBend (w : World) (g : Nat) (ao : Option Addr) (len cap : Nat) (bs : List UInt8) (q c L : Nat) (xs : List UInt8) (n : Nat) (e : Ending) (w' : World) : Prop where
  out : ∃ x : Nat, e = .returned (.int .i64 (x : Int)) ∧ x < n ∧ (x : Int) < (n : Int) ∧ Hd (BendAt w g ao len cap bs q c L xs w')
theorem l1Below_bend (w : World) (g : Nat) (ao : Option Addr) (len cap : Nat) (bs : List UInt8) (q c L : Nat) (xs : List UInt8) (n : Nat) (w' : World) (hl : len ≤ 1073741824) (hn : 0 < n) (hn2 : n ≤ 256) (hqg : q ≠ g) (h : Hd (BendAt w g ao len cap bs q c L xs w')) :
    Calls Tryz.prog 35 #[.pointer (some ⟨g, 0, none⟩), .int .i64 (n : Int)] w' (BelowBend w g ao len cap bs q c L xs n) := by
  refine (l1Below_any g ao len cap bs n w' hl hn hn2 h.out.cur).mono ?_
  rintro e w2 ⟨x, hx, rfl, hC, hG⟩
  exact ⟨x, rfl, hx, by omega, ⟨h.out.own.grown hG hqg, h.out.size, hC, grown_next h.out.gr hG⟩⟩

set_option maxHeartbeats 4000000 in
theorem l1Bend_any (g : Nat) (ao : Option Addr) (len cap : Nat) (bs : List UInt8) (b L C : Nat) (xs : List UInt8) (w : World) (hl : len ≤ 1073741824) (hL : L ≤ 255) (hn : xs.length = L) (hc : ∀ j, j < L → w.cell? ⟨b, 0 + j, none⟩ = some (.int .u8 ((xs.getD j 0).toNat : Int))) (hb : b < w.heap.size) (h : Cursor w g ao len cap bs) :
    Calls Tryz.prog 63 #[.pointer (some ⟨g, 0, none⟩), .slice (some ⟨b, 0, none⟩) L C] w (BytesDrawn w g ao len cap bs L) := by
  obtain ⟨i0, hi, hz0, hz1, hz2⟩ := info_parts info8
  have H : Hd (Cursor w g ao len cap bs) := ⟨h⟩
  have hlt := h.lt
  have Hn : Hd (xs.length = L) := ⟨hn⟩
  have Hc : Hd (∀ j, j < L → w.cell? ⟨b, 0 + j, none⟩ = some (.int .u8 ((xs.getD j 0).toNat : Int))) := ⟨hc⟩
  clear h hn hc
  go_enter Tryz.func63, Tryz.ntmps63
  go_wp2_with (at_builtin; refine wpList_append_own _ rfl (.tmp 6) (.tmp 7) 22 rfl w.heap.size 5 i0 (.int .u8 0) 1 1 Tryz.underlying22 hi hz0 hz1 hz2 rfl (by decide) _ 0 [] rfl ?hown ⟨b, 0, none⟩ L C (xs.map cb) rfl ?hl ?hn ?h1 ?h63 ?hby ?hbase ?_)
  case hown => exact World.ownsRow_made w #[] 0 (Nat.le_refl _) (by unfold maxLen; omega) rfl
  case hl => simpa using Hn.out
  case hn => exact map_cb_cell Hn.out (fun j hj => (((Below.refl w.heap.size w).alloc (Nat.le_refl _) _).cell (p := ⟨b, 0 + j, none⟩) hb).trans (Hc.out j hj))
  case h1 => exact one_cb xs
  case h63 => unfold maxLen; omega
  case hby => omega
  case hbase => simp
  intro v1 w1 hown1 hgr1 hne1
  obtain ⟨q, c, hv1, hq, hO⟩ := own_row hown1 hne1
  have hB1 : Below w.heap.size w w1 := ((Below.refl _ w).alloc (Nat.le_refl _) _).grown hgr1 (by simp) (fun k h => by simp [Value.ownBlock] at h; omega)
  have C1 : Hd (Cursor w1 g ao len cap bs) := ⟨H.out.below hB1⟩
  have G1 : Hd (w.grownBy w1 (some g)) := ⟨grown_below hB1 _⟩
  have O1 : Hd (Own w1 q c xs) := ⟨hO⟩
  have hLc : L ≤ c := by have := hO.le; have := Hn.out; omega
  have hqg : q ≠ g := by omega
  have Hq : Hd (w.heap.size ≤ q) := ⟨hq⟩
  rw [hv1]
  clear hown1 hgr1 hne1 hv1 hO hB1 H Hc hq
  go_wp2_with fail
  refine (l1Below_any g ao len cap bs 5 _ hl (by omega) (by omega) C1.out).mono ?_
  rintro e w2 ⟨x, hx, rfl, hC2, hG2⟩
  have C2 : Hd (Cursor w2 g ao len cap bs) := ⟨hC2⟩
  have G2 : Hd (w.grownBy w2 (some g)) := ⟨grown_next G1.out hG2⟩
  have O2 : Hd (Own w2 q c xs) := ⟨O1.out.grown hG2 hqg⟩
  clear hC2 hG2 C1 G1 O1
  by_cases x0 : x = 0
  · subst x0
    go_wp2_with fail
    refine (l1Below_any g ao len cap bs (L + 1) _ hl (by omega) (by omega) C2.out).mono ?_
    rintro e w3 ⟨y, hy, rfl, hC3, hG3⟩
    have C3 : Hd (Cursor w3 g ao len cap bs) := ⟨hC3⟩
    have G3 : Hd (w.grownBy w3 (some g)) := ⟨grown_next G2.out hG3⟩
    have O3 : Hd (Own w3 q c (xs.take y)) := ⟨(O2.out.grown hG3 hqg).take y⟩
    have D3 : Hd ((xs.take y).length = y) := ⟨by have := Hn.out; simp; omega⟩
    have hyc : (y : Int) ≤ (c : Int) := by omega
    have hyL : Hd (y ≤ L) := ⟨by omega⟩
    clear hC3 hG3 C2 G2 O2
    go_wp2_with fail
    go_ret
    exact ⟨q, y, c, xs.take y, rfl, D3.out, hyL.out, Hq.out, O3.out, C3.out, G3.out⟩
  · by_cases x1 : x = 1
    · subst x1
      by_cases hL0 : 0 < L
      · have hLI : (0 : Int) < (L : Int) := by omega
        have T2 : Hd (BendAt w g ao len cap bs q c L xs w2.drew) := ⟨⟨O2.out.of_block rfl, Hn.out, C2.out.kept fun _ _ => rfl, ⟨G2.out.os, G2.out.tape, G2.out.output, G2.out.size, G2.out.block⟩⟩⟩
        clear C2 G2 O2
        go_wp2_with fail
        go_region_with (first | (go_at_call_of 35 (Value.int IntKind.i64 255); refine (l1Below_bend w g ao len cap bs q c L xs 255 _ hl (by omega) (by omega) hqg T3).mono ?_; rintro e w4 ⟨z, rfl, hz, hzI, T4⟩; have cell4 := T4.out.own.row.cell y (by rw [T4.out.size]; exact hy); have free4 := T4.out.own.row.free y) | (go_at_call_of 35 (Value.int IntKind.i64 (L : Int)); refine (l1Below_bend w g ao len cap bs q c L xs L _ hl (by omega) (by omega) hqg T2).mono ?_; rintro e w3 ⟨y, rfl, hy, hyI, T3⟩; have cell3 := T3.out.own.row.cell y (by rw [T3.out.size]; exact hy); have free3 := T3.out.own.row.free y))
        all_goals
          obtain ⟨v, hv⟩ := xor_byte (((xs[y]?.getD 0).toNat : Nat) : Int) (IntKind.u8.wrap (IntKind.i64.wrap (1 + (z : Int))))
          rewrite [hv]
          have T5 : Hd (BendAt w g ao len cap bs q c L (xs.set y v) (w4.setCell ⟨q, y, none⟩ (.int .u8 (v.toNat : Int)))) := ⟨T4.out.store Hq.out (by omega) y v⟩
          have hLr : Hd (L ≤ L) := ⟨Nat.le_refl _⟩
          generalize w4.setCell ⟨q, y, none⟩ (.int .u8 (v.toNat : Int)) = w5 at *
          clear cell4 free4 cell3 free3 T4 T3 T2 hv
          go_wp2_with fail
          go_ret
          exact ⟨q, L, c, xs.set y v, rfl, T5.out.size, hLr.out, Hq.out, T5.out.own, T5.out.cur, T5.out.gr⟩
      · have hLI : ¬ (0 : Int) < (L : Int) := by omega
        have hLr : Hd (L ≤ L) := ⟨Nat.le_refl _⟩
        go_wp2_with fail
        go_ret
        exact ⟨q, L, c, xs, rfl, Hn.out, hLr.out, Hq.out, O2.out, C2.out, G2.out⟩
    · have e0 : ((x : Int) == 0) = false := by simp; omega
      have e1 : ((x : Int) == 1) = false := by simp; omega
      have hLr : Hd (L ≤ L) := ⟨Nat.le_refl _⟩
      go_wp2_with fail
      go_ret
      exact ⟨q, L, c, xs, rfl, Hn.out, hLr.out, Hq.out, O2.out, C2.out, G2.out⟩

/-- Bytes that lie there, to be read. -/
structure Lies (w : World) (q n : Nat) (es : List UInt8) : Prop where
  size : es.length = n
  lt : q < w.heap.size
  cell : ∀ j, j < n → w.cell? ⟨q, 0 + j, none⟩ = some (.int .u8 ((es.getD j 0).toNat : Int))
theorem Lies.below {w w' : World} {q n : Nat} {es : List UInt8} (h : Lies w q n es) (hb : Below w.heap.size w w') : Lies w' q n es :=
  ⟨h.size, by have := hb.size; have := h.lt; omega, fun j hj => (hb.cell (p := ⟨q, 0 + j, none⟩) h.lt).trans (h.cell j hj)⟩
theorem Lies.conv {w : World} {q n : Nat} {es : List UInt8} (h : Lies w q n es) (k m sz c : Nat) (hm : m = sz) (hk : k + sz ≤ n) :
    (convert 22 9 (.slice (some ⟨q, k, none⟩) m c)).run Tryz.prog w = .ok (.string ⟨((es.drop k).take sz).toArray⟩) w := by
  subst hm
  have := conv_from (c := c) (from_of (k := k) h.size h.cell) hk
  rw [Nat.zero_add] at this; exact this
theorem Lies.whole {w : World} {q n : Nat} {es : List UInt8} (h : Lies w q n es) (c : Nat) :
    (convert 22 9 (.slice (some ⟨q, 0, none⟩) n c)).run Tryz.prog w = .ok (.string ⟨es.toArray⟩) w := by
  have := h.conv 0 n n c rfl (by omega)
  rw [List.drop_zero, List.take_of_length_le (by rw [h.size]; exact Nat.le_refl _)] at this; exact this
theorem Lies.take {w : World} {q n : Nat} {es : List UInt8} (h : Lies w q n es) (k : Nat) (hk : k ≤ n) : Lies w q k (es.take k) :=
  ⟨by rw [List.length_take, h.size]; omega, h.lt, fun j hj => by rw [h.cell j (by omega)]; simp [List.getD, hj]⟩
theorem Own.lies {w : World} {g c n : Nat} {bs : List UInt8} (h : Own w g c bs) (hn : bs.length = n) : Lies w g n bs := ⟨hn, h.lt, h.cell hn⟩

/-- A text is drawn, and the cursor goes on. -/
structure TextDrawn (w : World) (g : Nat) (ao : Option Addr) (len cap : Nat) (bs : List UInt8) (m : Nat) (e : Ending) (w' : World) : Prop where
  out : ∃ s : ByteArray, e = .returned (.string s) ∧ s.size ≤ m ∧ Cursor w' g ao len cap bs ∧ w.grownBy w' (some g)

/-- Where the loop of l2Text stands. -/
structure TextAt (w : World) (g : Nat) (ao : Option Addr) (len cap : Nat) (bs : List UInt8) (m j q c n : Nat) (wr : World) : Prop where
  out : ∃ ds : List UInt8, ds.length = n ∧ n + 4 * j ≤ 4 * m ∧ w.heap.size ≤ q ∧ Own wr q c ds ∧ Cursor wr g ao len cap bs ∧ w.grownBy wr (some g)

set_option maxHeartbeats 1000000 in
theorem l2Text_any (g : Nat) (ao : Option Addr) (len cap : Nat) (bs : List UInt8) (m : Nat) (w : World) (hl : len ≤ 1073741824) (hm : m ≤ 255) (h : Cursor w g ao len cap bs) :
    Calls Tryz.prog 62 #[.pointer (some ⟨g, 0, none⟩), .int .i64 (m : Int)] w (TextDrawn w g ao len cap bs (4 * m)) := by
  have H : Hd (Cursor w g ao len cap bs) := ⟨h⟩
  have hlt := h.lt
  clear h
  go_enter Tryz.func62, Tryz.ntmps62
  go_wp2_with fail
  refine (l1Below_any g ao len cap bs (m + 1) _ hl (by omega) (by omega) (H.out.below ((Below.refl _ w).alloc (Nat.le_refl _) _))).mono ?_
  rintro e w1 ⟨x, hx, rfl, hC1, hG1⟩
  have T1 : Hd (TextAt w g ao len cap bs m x w.heap.size 0 0 w1) := ⟨by
    have hO : Own (w.alloc (.cells #[] 5)) w.heap.size 0 [] := ⟨#[], heap_alloc_new w _, by simp, Nat.zero_le _, rfl, by simp⟩
    exact ⟨[], rfl, by omega, Nat.le_refl _, hO.grown hG1 (by omega), hC1, grown_of_alloc hG1⟩⟩
  clear hC1 hG1 H
  go_wp2_with fail
  go_loopw [5, 6] (fun v i wr => ∃ (j q c n : Nat), i = .int .i64 j ∧ v = .slice (some ⟨q, 0, none⟩) n c ∧ Hd (TextAt w g ao len cap bs m j q c n wr)) (fun _ i _ => (intOf i).toNat)
  case atStart => exact ⟨x, w.heap.size, 0, 0, rfl, rfl, T1⟩
  case round =>
    clear T1
    obtain ⟨j, q, c, n, rfl, rfl, T⟩ := hrel
    have hj : n + 4 * j ≤ 1020 := by obtain ⟨ds, _, h2, _⟩ := T.out; omega
    by_cases h0 : 0 < j
    · have hjI : (0 : Int) < (j : Int) := by omega
      have C1 : Hd (Cursor wr g ao len cap bs) := ⟨by obtain ⟨ds, _, _, _, _, h5, _⟩ := T.out; exact h5⟩
      go_wp2_with fail
      refine (l2Sign_any g ao len cap bs _ hl C1.out).mono ?_
      rintro e w2 ⟨z, rfl, _, hC2, hG2⟩
      obtain ⟨ds, d1, d2, d3, d4, d5, d6⟩ := T.out
      have O2 : Hd (Own w2 q c ds) := ⟨d4.grown hG2 (by omega)⟩
      have C2 : Hd (Cursor w2 g ao len cap bs) := ⟨hC2⟩
      have G2 : Hd (w.grownBy w2 (some g)) := ⟨grown_next d6 hG2⟩
      have D1 : Hd (ds.length = n) := ⟨d1⟩
      have D2 : Hd (n + 4 * j ≤ 4 * m) := ⟨d2⟩
      clear hC2 hG2 d1 d2 d3 d4 d5 d6 T C1
      go_wp2_with fail
      refine (specPutSign_some q 0 n c ds z _ D1.out (O2.out.cell D1.out) O2.out.lt (by omega)).mono ?_
      rintro e w3 ⟨q3, c3, rfl, hq3, hO3, hB3⟩
      have T3 : Hd (TextAt w g ao len cap bs m (j - 1) q3 c3 (ds ++ signB z).length w3) := ⟨⟨ds ++ signB z, rfl, by have := signB_len z; have := D1.out; have := D2.out; rw [List.length_append]; omega, by have := G2.out.size; omega, hO3, C2.out.below hB3, grown_next G2.out (grown_below hB3 _)⟩⟩
      generalize (ds ++ signB z).length = n3 at *
      clear hq3 hO3 hB3 O2 C2 G2 D1 D2
      go_wp2_with fail
      go_roundw
      case rel => exact ⟨j - 1, q3, c3, n3, by go_num, rfl, T3⟩
      case measure => simp [intOf]; omega
    · have hjI : ¬ (0 : Int) < (j : Int) := by omega
      obtain ⟨ds, d1, d2, d3, d4, d5, d6⟩ := T.out
      have hcv := conv_owned (d4.owns d1 (Nat.le_refl q))
      have C2 : Hd (Cursor wr g ao len cap bs) := ⟨d5⟩
      have G2 : Hd (w.grownBy wr (some g)) := ⟨d6⟩
      have Hs : Hd ((⟨ds.toArray⟩ : ByteArray).size ≤ 4 * m) := ⟨by show ds.toArray.size ≤ _; rw [List.size_toArray]; omega⟩
      clear d1 d2 d3 d4 d5 d6 T
      generalize ds.toArray = S at *
      go_wp2_with fail
      go_ret
      exact ⟨_, rfl, Hs.out, C2.out, G2.out⟩

theorem bent_in : ∀ z ∈ ([⟨#[255]⟩, ⟨#[192, 128]⟩, ⟨#[224, 128, 128]⟩, ⟨#[237, 160, 128]⟩, ⟨#[244, 144, 128, 128]⟩, ⟨#[194]⟩, ⟨#[226, 130]⟩, ⟨#[128]⟩] : List ByteArray), z.size ≤ 4 := by
  intro z hz
  simp only [List.mem_cons, List.not_mem_nil, or_false] at hz
  rcases hz with rfl | rfl | rfl | rfl | rfl | rfl | rfl | rfl <;> decide

set_option maxHeartbeats 1000000 in
theorem l2Bent_any (g : Nat) (ao : Option Addr) (len cap : Nat) (bs : List UInt8) (w : World) (hl : len ≤ 1073741824) (h : Cursor w g ao len cap bs) :
    Calls Tryz.prog 34 #[.pointer (some ⟨g, 0, none⟩)] w (TextDrawn w g ao len cap bs 28) := by
  have H : Hd (Cursor w g ao len cap bs) := ⟨h⟩
  clear h
  go_enter Tryz.func34, Tryz.ntmps34
  go_wp2_with fail
  refine (l2Text_any g ao len cap bs 6 _ hl (by omega) H.out).mono ?_
  rintro e w1 ⟨s, rfl, hs, hC1, hG1⟩
  have C1 : Hd (Cursor w1 g ao len cap bs) := ⟨hC1⟩
  have G1 : Hd (w.grownBy w1 (some g)) := ⟨hG1⟩
  clear hC1 hG1 H
  go_wp2_with fail
  refine (l1Below_any g ao len cap bs 5 _ hl (by omega) (by omega) C1.out).mono ?_
  rintro e w2 ⟨x, hx, rfl, hC2, hG2⟩
  have C2 : Hd (Cursor w2 g ao len cap bs) := ⟨hC2⟩
  have G2 : Hd (w.grownBy w2 (some g)) := ⟨grown_next G1.out hG2⟩
  have hlt := hC2.lt
  clear hC2 hG2 C1 G1
  by_cases x0 : x = 0
  · subst x0
    go_wp2_with fail
    refine (l1Str_any g w2.heap.size 8 8 ao len cap bs [⟨#[255]⟩, ⟨#[192, 128]⟩, ⟨#[224, 128, 128]⟩, ⟨#[237, 160, 128]⟩, ⟨#[244, 144, 128, 128]⟩, ⟨#[194]⟩, ⟨#[226, 130]⟩, ⟨#[128]⟩] _ hl (by omega) (by omega) rfl (by omega) ?cells (C2.out.below ((Below.refl _ w2).alloc (Nat.le_refl _) _))).mono ?_
    case cells => exact lit_strs w2 [⟨#[255]⟩, ⟨#[192, 128]⟩, ⟨#[224, 128, 128]⟩, ⟨#[237, 160, 128]⟩, ⟨#[244, 144, 128, 128]⟩, ⟨#[194]⟩, ⟨#[226, 130]⟩, ⟨#[128]⟩] _
    rintro e w3 ⟨z, hz, rfl, hC3, hG3⟩
    have C3 : Hd (Cursor w3 g ao len cap bs) := ⟨hC3⟩
    have G3 : Hd (w.grownBy w3 (some g)) := ⟨grown_next G2.out (grown_of_alloc hG3)⟩
    have hz4 := bent_in z hz
    have Hsz : Hd ((s ++ z).size ≤ 28) := ⟨by rw [ByteArray.size_append]; omega⟩
    clear hC3 hG3 hz C2 G2
    go_wp2_with fail
    go_ret
    exact ⟨s ++ z, rfl, Hsz.out, C3.out, G3.out⟩
  · by_cases x1 : x = 1
    · subst x1
      obtain ⟨cp, W, hcv, hby⟩ := conv_string s w2
      have hCW : Hd (Cursor W g ao len cap bs) := ⟨C2.out.below hby.bel⟩
      have hGW : Hd (w.grownBy W (some g)) := ⟨grown_next G2.out (grown_below hby.bel _)⟩
      have hlen : s.data.toList.length = s.size := by rw [Array.length_toList]; rfl
      have Hb : Hd (Bytes w2 W s cp) := ⟨hby⟩
      have Hl : Hd (s.data.toList.length = s.size) := ⟨hlen⟩
      clear hby hlen C2 G2
      go_wp2_with fail
      refine (l1Bend_any g ao len cap bs w2.heap.size s.size cp s.data.toList _ hl (by omega) Hl.out Hb.out.cell (by rw [Hb.out.size]; omega) hCW.out).mono ?_
      rintro e w3 ⟨q, m, c, ds, rfl, d1, d2, d3, d4, d5, d6⟩
      have hcv3 := conv_owned (d4.owns d1 (Nat.le_refl q))
      have C3 : Hd (Cursor w3 g ao len cap bs) := ⟨d5⟩
      have G3 : Hd (w.grownBy w3 (some g)) := ⟨grown_next hGW.out d6⟩
      have Hsz : Hd ((⟨ds.toArray⟩ : ByteArray).size ≤ 28) := ⟨by show ds.toArray.size ≤ _; rw [List.size_toArray]; omega⟩
      clear d1 d2 d3 d4 d5 d6 hCW hGW hcv
      generalize ds.toArray = S at *
      go_wp2_with fail
      go_ret
      exact ⟨_, rfl, Hsz.out, C3.out, G3.out⟩
    · have e0 : ((x : Int) == 0) = false := by simp; omega
      have e1 : ((x : Int) == 1) = false := by simp; omega
      have Hsz : Hd (s.size ≤ 28) := ⟨by omega⟩
      go_wp2_with fail
      go_ret
      exact ⟨s, rfl, Hsz.out, C2.out, G2.out⟩

set_option maxHeartbeats 400000 in
theorem l3Any_any (g : Nat) (ao : Option Addr) (len cap : Nat) (bs : List UInt8) (w : World) (hl : len ≤ 1073741824) (h : Cursor w g ao len cap bs) :
    Calls Tryz.prog 28 #[.pointer (some ⟨g, 0, none⟩)] w (IntDrawn w g ao len cap bs) := by
  have H : Hd (Cursor w g ao len cap bs) := ⟨h⟩
  have hlt := h.lt
  clear h
  go_enter Tryz.func28, Tryz.ntmps28
  go_wp2_with fail
  refine (l1Int_any g w.heap.size 8 8 ao len cap bs [0, 1, 2, 3, 4, 5, 6, -1] _ hl (by omega) (by omega) rfl (by omega) ?cells (H.out.below ((Below.refl _ w).alloc (Nat.le_refl _) _))).mono ?_
  case cells => exact lit_ints w [0, 1, 2, 3, 4, 5, 6, -1] _
  rintro e w1 ⟨z, hz, rfl, hC, hG⟩
  have HC : Hd (Cursor w1 g ao len cap bs) := ⟨hC⟩
  have HG : Hd (w.grownBy w1 (some g)) := ⟨grown_of_alloc hG⟩
  have HZ : Hd (z ≤ 9223372036854775807) := ⟨(by decide : ∀ z ∈ ([0, 1, 2, 3, 4, 5, 6, -1] : List Int), z ≤ 9223372036854775807) z hz⟩
  clear hC hG hz
  go_wp2_with fail
  go_ret
  exact ⟨z, rfl, HZ.out, HC.out, HG.out⟩

theorem encS_len4 (cs : Int) (t : List UInt8) : (encS cs t).length ≤ 4 * t.length := by
  unfold encS
  split
  · rename_i h
    simp only [encOk, encIn, Bool.and_eq_true, decide_eq_true_eq] at h
    have h1 := writeB_len cs (signsOf t)
    have h2 := signsOf_len _ h.1.2
    omega
  · simp
theorem bsN_le {cs b : Int} (h : bsOk cs b = true) : bsN cs b ≤ 9223372036854775807 := by
  rcases bs_sign h with h | h <;> omega

set_option maxHeartbeats 400000 in
theorem l5Sign_any (cs : Int) (g : Nat) (ao : Option Addr) (len cap : Nat) (bs : List UInt8) (w : World) (hl : len ≤ 1073741824) (h : Cursor w g ao len cap bs) :
    Calls Tryz.prog 61 #[.pointer (some ⟨g, 0, none⟩), .int .i64 cs] w (IntDrawn w g ao len cap bs) := by
  have H : Hd (Cursor w g ao len cap bs) := ⟨h⟩
  have hlt := h.lt
  clear h
  by_cases h0 : cs = 0
  · subst h0
    go_enter Tryz.func61, Tryz.ntmps61
    go_wp2_with fail
    refine (l2Sign_any g ao len cap bs _ hl H.out).mono ?_
    rintro e w1 ⟨z, rfl, hz, hC, hG⟩
    have HC : Hd (Cursor w1 g ao len cap bs) := ⟨hC⟩
    have HG : Hd (w.grownBy w1 (some g)) := ⟨hG⟩
    have HZ : Hd (z ≤ 9223372036854775807) := ⟨hz⟩
    clear hC hG hz
    go_wp2_with fail
    go_ret
    exact ⟨z, rfl, HZ.out, HC.out, HG.out⟩
  have e0 : (cs == 0) = false := by simpa using h0
  by_cases h5 : cs = 5
  · subst h5
    go_enter Tryz.func61, Tryz.ntmps61
    go_wp2_with fail
    refine (l1Int_any g w.heap.size 7 7 ao len cap bs [97, 32, 12353, 12435, 12449, 12534, 12354] _ hl (by omega) (by omega) rfl (by omega) ?cells (H.out.below ((Below.refl _ w).alloc (Nat.le_refl _) _))).mono ?_
    case cells => exact lit_ints w [97, 32, 12353, 12435, 12449, 12534, 12354] _
    rintro e w1 ⟨z, hz, rfl, hC, hG⟩
    have HC : Hd (Cursor w1 g ao len cap bs) := ⟨hC⟩
    have HG : Hd (w.grownBy w1 (some g)) := ⟨grown_of_alloc hG⟩
    have HZ : Hd (z ≤ 9223372036854775807) := ⟨(by decide : ∀ z ∈ ([97, 32, 12353, 12435, 12449, 12534, 12354] : List Int), z ≤ 9223372036854775807) z hz⟩
    clear hC hG hz
    go_wp2_with fail
    go_ret
    exact ⟨z, rfl, HZ.out, HC.out, HG.out⟩
  have e5 : (cs == 5) = false := by simpa using h5
  clear h0 h5
  go_enter Tryz.func61, Tryz.ntmps61
  go_wp2_with fail
  refine (l1Int_any g w.heap.size 12 12 ao len cap bs [65, 97, 32, 164, 192, 200, 228, 255, 163, 128, 130, 189] _ hl (by omega) (by omega) rfl (by omega) ?cells (H.out.below ((Below.refl _ w).alloc (Nat.le_refl _) _))).mono ?_
  case cells => exact lit_ints w [65, 97, 32, 164, 192, 200, 228, 255, 163, 128, 130, 189] _
  rintro e w1 ⟨y, hy, rfl, hC, hG⟩
  have HC : Hd (Cursor w1 g ao len cap bs) := ⟨hC⟩
  have HG : Hd (w.grownBy w1 (some g)) := ⟨grown_of_alloc hG⟩
  clear hC hG hy
  obtain ⟨z, hz⟩ : ∃ z, bsN cs y = z := ⟨_, rfl⟩
  have HZ : Hd (bsN cs y = z) := ⟨hz⟩
  obtain ⟨ok, hok⟩ : ∃ ok, bsOk cs y = ok := ⟨_, rfl⟩
  have HK : Hd (bsOk cs y = ok) := ⟨hok⟩
  clear hz hok
  go_wp2_with fail
  refine (specByteSign_any cs y _).mono ?_
  rewrite [HZ.out, HK.out]
  rintro e w2 ⟨rfl, hB⟩
  have C2 : Hd (Cursor w2 g ao len cap bs) := ⟨HC.out.below hB⟩
  have G2 : Hd (w.grownBy w2 (some g)) := ⟨grown_next HG.out (grown_below hB _)⟩
  clear hB HC HG
  cases ok with
  | false =>
    have X1 : Hd ((120 : Int) ≤ 9223372036854775807) := ⟨by omega⟩
    go_wp2_with fail
    go_ret
    exact ⟨120, rfl, X1.out, C2.out, G2.out⟩
  | true =>
    have X1 : Hd (z ≤ 9223372036854775807) := ⟨by rw [← HZ.out]; exact bsN_le HK.out⟩
    go_wp2_with fail
    go_ret
    exact ⟨z, rfl, X1.out, C2.out, G2.out⟩

set_option maxHeartbeats 1000000 in
theorem l5Text_any (cs : Int) (g : Nat) (ao : Option Addr) (len cap : Nat) (bs : List UInt8) (m : Nat) (w : World) (hl : len ≤ 1073741824) (hm : m ≤ 255) (h : Cursor w g ao len cap bs) :
    Calls Tryz.prog 32 #[.pointer (some ⟨g, 0, none⟩), .int .i64 cs, .int .i64 (m : Int)] w (TextDrawn w g ao len cap bs (4 * m)) := by
  have H : Hd (Cursor w g ao len cap bs) := ⟨h⟩
  have hlt := h.lt
  clear h
  go_enter Tryz.func32, Tryz.ntmps32
  go_wp2_with fail
  refine (l1Below_any g ao len cap bs (m + 1) _ hl (by omega) (by omega) (H.out.below ((Below.refl _ w).alloc (Nat.le_refl _) _))).mono ?_
  rintro e w1 ⟨x, hx, rfl, hC1, hG1⟩
  have T1 : Hd (TextAt w g ao len cap bs m x w.heap.size 0 0 w1) := ⟨by
    have hO : Own (w.alloc (.cells #[] 5)) w.heap.size 0 [] := ⟨#[], heap_alloc_new w _, by simp, Nat.zero_le _, rfl, by simp⟩
    exact ⟨[], rfl, by omega, Nat.le_refl _, hO.grown hG1 (by omega), hC1, grown_of_alloc hG1⟩⟩
  clear hC1 hG1 H
  go_wp2_with fail
  go_loopw [7, 8] (fun v i wr => ∃ (j q c n : Nat), i = .int .i64 j ∧ v = .slice (some ⟨q, 0, none⟩) n c ∧ Hd (TextAt w g ao len cap bs m j q c n wr)) (fun _ i _ => (intOf i).toNat)
  case atStart => exact ⟨x, w.heap.size, 0, 0, rfl, rfl, T1⟩
  case round =>
    clear T1
    obtain ⟨j, q, c, n, rfl, rfl, T⟩ := hrel
    have hj : n + 4 * j ≤ 1020 := by obtain ⟨ds, _, h2, _⟩ := T.out; omega
    by_cases h0 : 0 < j
    · have hjI : (0 : Int) < (j : Int) := by omega
      have C1 : Hd (Cursor wr g ao len cap bs) := ⟨by obtain ⟨ds, _, _, _, _, h5, _⟩ := T.out; exact h5⟩
      go_wp2_with fail
      refine (l5Sign_any cs g ao len cap bs _ hl C1.out).mono ?_
      rintro e w2 ⟨z, rfl, _, hC2, hG2⟩
      obtain ⟨ds, d1, d2, d3, d4, d5, d6⟩ := T.out
      have O2 : Hd (Own w2 q c ds) := ⟨d4.grown hG2 (by omega)⟩
      have C2 : Hd (Cursor w2 g ao len cap bs) := ⟨hC2⟩
      have G2 : Hd (w.grownBy w2 (some g)) := ⟨grown_next d6 hG2⟩
      have D1 : Hd (ds.length = n) := ⟨d1⟩
      have D2 : Hd (n + 4 * j ≤ 4 * m) := ⟨d2⟩
      clear hC2 hG2 d1 d2 d3 d4 d5 d6 T C1
      go_wp2_with fail
      refine (specPutSign_some q 0 n c ds z _ D1.out (O2.out.cell D1.out) O2.out.lt (by omega)).mono ?_
      rintro e w3 ⟨q3, c3, rfl, hq3, hO3, hB3⟩
      have T3 : Hd (TextAt w g ao len cap bs m (j - 1) q3 c3 (ds ++ signB z).length w3) := ⟨⟨ds ++ signB z, rfl, by have := signB_len z; have := D1.out; have := D2.out; rw [List.length_append]; omega, by have := G2.out.size; omega, hO3, C2.out.below hB3, grown_next G2.out (grown_below hB3 _)⟩⟩
      generalize (ds ++ signB z).length = n3 at *
      clear hq3 hO3 hB3 O2 C2 G2 D1 D2
      go_wp2_with fail
      go_roundw
      case rel => exact ⟨j - 1, q3, c3, n3, by go_num, rfl, T3⟩
      case measure => simp [intOf]; omega
    · have hjI : ¬ (0 : Int) < (j : Int) := by omega
      obtain ⟨ds, d1, d2, d3, d4, d5, d6⟩ := T.out
      have hcv := conv_owned (d4.owns d1 (Nat.le_refl q))
      have C2 : Hd (Cursor wr g ao len cap bs) := ⟨d5⟩
      have G2 : Hd (w.grownBy wr (some g)) := ⟨d6⟩
      have Hs : Hd ((⟨ds.toArray⟩ : ByteArray).size ≤ 4 * m) := ⟨by show ds.toArray.size ≤ _; rw [List.size_toArray]; omega⟩
      clear d1 d2 d3 d4 d5 d6 T
      generalize ds.toArray = S at *
      go_wp2_with fail
      go_ret
      exact ⟨_, rfl, Hs.out, C2.out, G2.out⟩

set_option maxHeartbeats 1000000 in
theorem l5Bytes_any (cs : Int) (g : Nat) (ao : Option Addr) (len cap : Nat) (bs : List UInt8) (w : World) (hl : len ≤ 1073741824) (h : Cursor w g ao len cap bs) :
    Calls Tryz.prog 89 #[.pointer (some ⟨g, 0, none⟩), .int .i64 cs] w (BytesDrawn w g ao len cap bs 81) := by
  obtain ⟨i0, hi, hz0, hz1, hz2⟩ := info_parts info8
  have H : Hd (Cursor w g ao len cap bs) := ⟨h⟩
  have Hlt : Hd (g < w.heap.size) := ⟨h.lt⟩
  clear h
  go_enter Tryz.func89, Tryz.ntmps89
  go_wp2_with fail
  refine (l5Text_any cs g ao len cap bs 5 _ hl (by omega) H.out).mono ?_
  rintro e w1 ⟨s, rfl, hs, hC1, hG1⟩
  have C1 : Hd (Cursor w1 g ao len cap bs) := ⟨hC1⟩
  have G1 : Hd (w.grownBy w1 (some g)) := ⟨hG1⟩
  clear hC1 hG1 H
  obtain ⟨xs, hxs⟩ : ∃ xs, encS cs s.data.toList = xs := ⟨_, rfl⟩
  obtain ⟨ok, hok⟩ : ∃ ok, encOk cs s.data.toList = ok := ⟨_, rfl⟩
  obtain ⟨n, hn⟩ : ∃ n, xs.length = n := ⟨_, rfl⟩
  have HX : Hd (encS cs s.data.toList = xs) := ⟨hxs⟩
  have HK : Hd (encOk cs s.data.toList = ok) := ⟨hok⟩
  have HN : Hd (xs.length = n) := ⟨hn⟩
  have hn80 : n ≤ 80 := by
    have := encS_len4 cs s.data.toList
    rw [hxs, hn, size_list] at this
    omega
  clear hxs hok hn
  go_wp2_with fail
  refine (specEncode_any cs s _ (by omega)).mono ?_
  rewrite [HX.out, HK.out]
  rintro e w2 ⟨q, c, rfl, hq, hO, hB⟩
  rewrite [HN.out]
  have C2 : Hd (Cursor w2 g ao len cap bs) := ⟨C1.out.below hB⟩
  have G2 : Hd (w.grownBy w2 (some g)) := ⟨grown_next G1.out (grown_below hB _)⟩
  have O2 : Hd (Own w2 q c xs) := ⟨hO⟩
  have Q2 : Hd (w.heap.size ≤ q) := ⟨by have := G1.out.size; omega⟩
  have QG : Hd (q ≠ g) := ⟨by have := Q2.out; have := Hlt.out; omega⟩
  clear hB hO hq C1 G1 hs
  go_wp2_with fail
  refine (l1Below_any g ao len cap bs 5 _ hl (by omega) (by omega) C2.out).mono ?_
  rintro e w3 ⟨x, hx, rfl, hC3, hG3⟩
  have C3 : Hd (Cursor w3 g ao len cap bs) := ⟨hC3⟩
  have G3 : Hd (w.grownBy w3 (some g)) := ⟨grown_next G2.out hG3⟩
  have O3 : Hd (Own w3 q c xs) := ⟨O2.out.grown hG3 QG.out⟩
  clear hC3 hG3 C2 G2 O2
  by_cases x0 : x = 0
  · subst x0
    go_wp2_with fail
    refine (l1Bend_any g ao len cap bs q n c xs _ hl (by omega) HN.out (O3.out.cell HN.out) O3.out.lt C3.out).mono ?_
    rintro e w4 ⟨q4, m4, c4, ds, rfl, d1, d2, d3, d4, d5, d6⟩
    have R : Hd (ds.length = m4 ∧ m4 ≤ 81 ∧ w.heap.size ≤ q4 ∧ Own w4 q4 c4 ds ∧ Cursor w4 g ao len cap bs ∧ w.grownBy w4 (some g)) := ⟨d1, by omega, by have := G3.out.size; omega, d4, d5, grown_next G3.out d6⟩
    clear d1 d2 d3 d4 d5 d6 C3 G3 O3
    go_wp2_with fail
    go_ret
    exact ⟨q4, m4, c4, ds, rfl, R.out⟩
  · by_cases x1 : x = 1
    · subst x1
      have hlt3 := C3.out.lt
      go_wp2_with fail
      refine (l1Int_any g w3.heap.size 6 6 ao len cap bs [128, 129, 164, 255, 194, 157] _ hl (by omega) (by omega) rfl (by omega) ?cells (C3.out.below (below_lit _ _))).mono ?_
      case cells => exact lit_ints w3 [128, 129, 164, 255, 194, 157] _
      rintro e w4 ⟨z, hz, rfl, hC4, hG4⟩
      have C4 : Hd (Cursor w4 g ao len cap bs) := ⟨hC4⟩
      have G4 : Hd (w.grownBy w4 (some g)) := ⟨grown_next G3.out (grown_of_alloc hG4)⟩
      have O4 : Hd (Own w4 q c xs) := ⟨O3.out.grown (grown_of_alloc hG4) QG.out⟩
      have hz2' : 0 ≤ z ∧ z < 256 := (by decide : ∀ z ∈ ([128, 129, 164, 255, 194, 157] : List Int), 0 ≤ z ∧ z < 256) z hz
      have hp : Hd ([.int .u8 (z % 256)] = ([bt z.toNat] : List UInt8).map cb) := ⟨by
        simp only [List.map_cons, List.map_nil]
        rw [← cb_int (x := z % 256) (by rw [bt_val _ (by omega)]; omega)]⟩
      clear hC4 hG4 hz hz2' C3 G3 O3 hlt3
      have hown : Hd (w4.ownsRow w.heap.size 5 1 (.slice (some ⟨q, 0, none⟩) n c) n (xs.map cb)) := ⟨O4.out.owns HN.out Q2.out⟩
      go_wp2_with (at_builtin; refine wpList_append_own _ rfl (.tmp 24) (.tmp 29) 22 rfl w.heap.size 5 i0 (.int .u8 0) 1 1 Tryz.underlying22 hi hz0 hz1 hz2 rfl (by decide) _ n (xs.map cb) rfl ?hown ⟨w4.heap.size, 0, none⟩ 1 1 (([bt z.toNat] : List UInt8).map cb) rfl ?hl ?hn ?h1 ?h63 ?hby ?hbase ?_)
      case hown => exact hown.out.alloc _
      case hl => rfl
      case hn => exact built_cells w4 _ _ _ hp.out
      case h1 => exact one_cb _
      case h63 => unfold maxLen; omega
      case hby => omega
      case hbase => have := G4.out.size; simp; omega
      intro v5 w5 hown5 hgr5 hne5
      rw [show xs.map cb ++ [cb (bt z.toNat)] = (xs ++ [bt z.toNat]).map cb from by simp] at hown5
      obtain ⟨q5, c5, hv5, hq5, hO5⟩ := own_row hown5 (by simpa using hne5)
      have hgr : w4.grownBy w5 (some q) := grown_of_alloc hgr5
      have R : Hd ((xs ++ [bt z.toNat]).length = n + 1 ∧ n + 1 ≤ 81 ∧ w.heap.size ≤ q5 ∧ Own w5 q5 c5 (xs ++ [bt z.toNat]) ∧ Cursor w5 g ao len cap bs ∧ w.grownBy w5 (some g)) := ⟨by have := HN.out; simp; omega, by omega, hq5, hO5, C4.out.kept (fun k hk => hgr.block k (by have := C4.out.lt; omega) (by have := Q2.out; have := Hlt.out; simp; omega)), by
        refine ⟨hgr.os.trans G4.out.os, hgr.tape.trans G4.out.tape, hgr.output.trans G4.out.output, Nat.le_trans G4.out.size hgr.size, fun k hk hne => ?_⟩
        exact (hgr.block k (by have := G4.out.size; omega) (by have := Q2.out; simp; omega)).trans (G4.out.block k hk hne)⟩
      rw [hv5]
      clear hown5 hgr5 hne5 hv5 hq5 hO5 hgr hown C4 G4 O4
      go_wp2_with fail
      go_ret
      exact ⟨q5, n + 1, c5, xs ++ [bt z.toNat], rfl, R.out⟩
    · have e0 : ((x : Int) == 0) = false := by simp; omega
      have e1 : ((x : Int) == 1) = false := by simp; omega
      have R : Hd (xs.length = n ∧ n ≤ 81 ∧ w.heap.size ≤ q ∧ Own w3 q c xs ∧ Cursor w3 g ao len cap bs ∧ w.grownBy w3 (some g)) := ⟨HN.out, by omega, Q2.out, O3.out, C3.out, G3.out⟩
      clear C3 G3 O3
      go_wp2_with fail
      go_ret
      exact ⟨q, n, c, xs, rfl, R.out⟩

/-- A number and bytes; a number and a text. -/
structure DrawnIntBytes (w : World) (e : Ending) (w' : World) : Prop where
  out : ∃ (z : Int) (q m c : Nat) (ds : List UInt8), e = .returned (.tuple #[.int .i64 z, .slice (some ⟨q, 0, none⟩) m c]) ∧ ds.length = m ∧ m ≤ 81 ∧ w.heap.size ≤ q ∧ Own w' q c ds ∧ Below w.heap.size w w'
structure DrawnIntText (w : World) (e : Ending) (w' : World) : Prop where
  out : ∃ (z : Int) (s : ByteArray), e = .returned (.tuple #[.int .i64 z, .string s]) ∧ s.size ≤ 28 ∧ Below w.heap.size w w'

theorem tail_in : ∀ z ∈ ([⟨#[195, 169]⟩, ⟨#[226, 130, 172]⟩, ⟨#[255]⟩, ⟨#[208, 176]⟩] : List ByteArray), z.size ≤ 4 := by
  intro z hz
  simp only [List.mem_cons, List.not_mem_nil, or_false] at hz
  rcases hz with rfl | rfl | rfl | rfl <;> decide

end Go.Proofs.YtpafjehphajbhaaGreatDoor
