/- Contracts of what draws states for the laws of stage 6. The contract of what draws a state and bytes for the laws of stage 6. What the drawn laws of stage 5 carry along. Contract of what reads a code's byte at a place. -/
import Derived.Test.YtjbideiifoadkaaDoorFeedN
import Derived.Test.YtjbideiifoadkaaDoorDrawA
import Derived.Test.YtjbideiifoadkaaDoorText
import Derived.Test.YtjbideiifoadkaaDoorCommon
namespace Go.Proofs.YtjbideiifoadkaaDoor
set_option maxRecDepth 4000
open Go.RowKit

/-- A state is drawn, in new memory, and the cursor goes on. -/
structure DecDrawn (w : World) (g : Nat) (ao : Option Addr) (len cap : Nat) (bs : List UInt8) (e : Ending) (w' : World) : Prop where
  out : ∃ (cs : Int) (q m c : Nat) (bad : Bool) (ds : List UInt8), e = .returned (.agg #[.int .i64 cs, .slice (some ⟨q, 0, none⟩) m c, .bool bad]) ∧ m ≤ 3 ∧ Lies w' q m ds ∧ w.heap.size ≤ q ∧ m ≤ c ∧ Cursor w' g ao len cap bs ∧ w.grownBy w' (some g)

/-- While a state is drawn: the cursor, the result's box, and the state's own. -/
structure LD (w : World) (g : Nat) (ao : Option Addr) (len cap : Nat) (bs : List UInt8) (wi : World) : Prop where
  cur : Cursor wi g ao len cap bs
  gr : w.grownBy wi (some g)
  lt : g < w.heap.size
  b2 : wi.heap[w.heap.size]? = some (.cells #[.int .i64 0, .slice none 0 0, .bool false] 30 (0, 0))
theorem LD.below {w : World} {g : Nat} {ao : Option Addr} {len cap : Nat} {bs : List UInt8} {wi wj : World} (h : LD w g ao len cap bs wi) (hB : Below wi.heap.size wi wj) : LD w g ao len cap bs wj :=
  ⟨h.cur.below hB, grown_next h.gr (grown_below hB _), h.lt, (hB.block _ (lt_block h.b2)).trans h.b2⟩
theorem LD.grown {w : World} {g : Nat} {ao : Option Addr} {len cap : Nat} {bs : List UInt8} {wi wj : World} (h : LD w g ao len cap bs wi) (hC : Cursor wj g ao len cap bs) (hG : wi.grownBy wj (some g)) : LD w g ao len cap bs wj :=
  ⟨hC, grown_next h.gr hG, h.lt, grown_block hG h.b2 (by have := h.lt; omega)⟩
theorem LD.size {w : World} {g : Nat} {ao : Option Addr} {len cap : Nat} {bs : List UInt8} {wi : World} (h : LD w g ao len cap bs wi) : w.heap.size + 1 ≤ wi.heap.size := lt_block h.b2
theorem ld_first {w : World} {g : Nat} {ao : Option Addr} {len cap : Nat} {bs : List UInt8} (h : Cursor w g ao len cap bs) : LD w g ao len cap bs (w.alloc (.cells #[.int .i64 0, .slice none 0 0, .bool false] 30)) :=
  ⟨h.below (below_lit w _), grown_below (below_lit w _) _, h.lt, alloc_new w _ rfl⟩
theorem LD.set3 {w : World} {g : Nat} {ao : Option Addr} {len cap : Nat} {bs : List UInt8} {wi : World} (h : LD w g ao len cap bs wi) (d : Nat) (v0 v1 v2 : Value) (hd : w.heap.size < d) : LD w g ao len cap bs (((wi.setCell ⟨d, 0, none⟩ v0).setCell ⟨d, 1, none⟩ v1).setCell ⟨d, 2, none⟩ v2) := by
  have hl := h.lt
  have hk : ∀ k, k ≤ w.heap.size → (((wi.setCell ⟨d, 0, none⟩ v0).setCell ⟨d, 1, none⟩ v1).setCell ⟨d, 2, none⟩ v2).heap[k]? = wi.heap[k]? := fun k hk => block_set (block_set (block_set rfl (by omega)) (by omega)) (by omega)
  refine ⟨h.cur.kept (fun k hk' => hk k (by omega)), ?_, h.lt, (hk _ (Nat.le_refl _)).trans h.b2⟩
  refine ⟨h.gr.os, h.gr.tape, h.gr.output, by simpa using h.gr.size, fun k hk1 hk2 => (hk k (by omega)).trans (h.gr.block k hk1 hk2)⟩
/-- The result's box is filled: the state is handed back. -/
theorem LD.done {w : World} {g : Nat} {ao : Option Addr} {len cap : Nat} {bs : List UInt8} {wi : World} (h : LD w g ao len cap bs wi) {cs : Int} {q m c : Nat} {bad : Bool} {ds : List UInt8} (hm : m ≤ 3) (hL : Lies wi q m ds) (hq : w.heap.size < q) (hc : m ≤ c) :
    DecDrawn w g ao len cap bs (.returned (.agg #[.int .i64 cs, .slice (some ⟨q, 0, none⟩) m c, .bool bad])) (((wi.setCell ⟨w.heap.size, 0, none⟩ (.int .i64 cs)).setCell ⟨w.heap.size, 1, none⟩ (.slice (some ⟨q, 0, none⟩) m c)).setCell ⟨w.heap.size, 2, none⟩ (.bool bad)) := by
  have hl := h.lt
  have hk : ∀ k, k ≠ w.heap.size → (((wi.setCell ⟨w.heap.size, 0, none⟩ (.int .i64 cs)).setCell ⟨w.heap.size, 1, none⟩ (.slice (some ⟨q, 0, none⟩) m c)).setCell ⟨w.heap.size, 2, none⟩ (.bool bad)).heap[k]? = wi.heap[k]? := fun k hk => block_set (block_set (block_set rfl hk) hk) hk
  refine ⟨cs, q, m, c, bad, ds, rfl, hm, ⟨hL.size, by simpa using hL.lt, fun j hj => ?_⟩, by omega, hc, h.cur.kept (fun k hk' => hk k (by omega)), ⟨h.gr.os, h.gr.tape, h.gr.output, by simpa using h.gr.size, fun k hk1 hk2 => (hk k (by omega)).trans (h.gr.block k hk1 hk2)⟩⟩
  rw [World.cell?_of_block (w := wi) (a := ⟨q, 0 + j, none⟩) (hk q (by omega))]; exact hL.cell j hj

theorem fed_few (cs : Int) (b : List UInt8) : (fedH cs [] false b).length ≤ 3 := by
  unfold fedH
  split
  · exact (feed_held cs _ _ (Nat.le_refl _)).2.2.2
  · simp

set_option maxHeartbeats 1000000 in
theorem l6Draw_any (g : Nat) (ao : Option Addr) (len cap : Nat) (bs : List UInt8) (w : World) (hl : len ≤ 1073741824) (h : Cursor w g ao len cap bs) :
    Calls Tryd.prog 60 #[.pointer (some ⟨g, 0, none⟩)] w (DecDrawn w g ao len cap bs) := by
  have L0 : Hd (LD w g ao len cap bs (w.alloc (.cells #[.int .i64 0, .slice none 0 0, .bool false] 30))) := ⟨ld_first h⟩
  clear h
  go_enter Tryd.func60, Tryd.ntmps60
  go_wp2_with fail
  refine (l1Below_any g ao len cap bs 6 _ hl (by omega) (by omega) L0.out.cur).mono ?_
  rintro e w1 ⟨x, hx, rfl, hC1, hG1⟩
  have L1 : Hd (LD w g ao len cap bs w1) := ⟨L0.out.grown hC1 hG1⟩
  clear hC1 hG1 L0 hx
  go_wp2_with fail
  refine (specDecNew_any (x : Int) _).mono ?_
  rintro e w2 ⟨rfl, hB2⟩
  have L2 : Hd (LD w g ao len cap bs w2) := ⟨L1.out.below hB2⟩
  clear hB2 L1
  go_wp2_with fail
  have L3 : Hd (LD w g ao len cap bs (w2.alloc (.cells #[.int .i64 (x : Int), .slice none 0 0, .bool false] 30))) := ⟨L2.out.below (below_lit w2 _)⟩
  have K3 : Hd ((w2.alloc (.cells #[.int .i64 (x : Int), .slice none 0 0, .bool false] 30)).heap[w2.heap.size]? = some (.cells #[.int .i64 (x : Int), .slice none 0 0, .bool false] 30 (0, 0))) := ⟨alloc_new w2 _ rfl⟩
  have Hd3 : Hd (w.heap.size < w2.heap.size) := ⟨L2.out.size⟩
  refine (l5Bytes_any (x : Int) g ao len cap bs _ hl L3.out.cur).mono ?_
  rintro e w3 ⟨q, m, c, ds, rfl, d1, d2, d3, d4, d5, d6⟩
  have L4 : Hd (LD w g ao len cap bs w3) := ⟨L3.out.grown d5 d6⟩
  have K4 : Hd (w3.heap[w2.heap.size]? = some (.cells #[.int .i64 (x : Int), .slice none 0 0, .bool false] 30 (0, 0))) := ⟨grown_block d6 K3.out (by have := L3.out.lt; have := Hd3.out; omega)⟩
  have D4 : Hd (ds.length = m ∧ Own w3 q c ds ∧ q ≠ g) := ⟨d1, d4, by have := L3.out.cur.lt; omega⟩
  have hmc : m ≤ c := by have := d4.le; omega
  generalize w2.heap.size = d at *
  clear d1 d3 d4 d5 d6 L3 K3 L2
  go_wp2_with fail
  refine (l1Once_any g ao len cap bs 2 _ hl (by omega) (by omega) L4.out.cur).mono ?_
  rintro e w4 ⟨b, rfl, hC5, hG5⟩
  have L5 : Hd (LD w g ao len cap bs w4) := ⟨L4.out.grown hC5 hG5⟩
  have K5 : Hd (w4.heap[d]? = some (.cells #[.int .i64 (x : Int), .slice none 0 0, .bool false] 30 (0, 0))) := ⟨grown_block hG5 K4.out (by have := L4.out.lt; have := Hd3.out; omega)⟩
  have D5 : Hd (ds.length = m ∧ Own w4 q c ds ∧ q ≠ g) := ⟨D4.out.1, D4.out.2.1.grown hG5 D4.out.2.2, D4.out.2.2⟩
  clear hC5 hG5 L4 K4 D4
  cases b with
  | false =>
    obtain ⟨k0, k1, k2, _, _, _⟩ := cells3 w4 d _ _ _ _ K5.out
    go_wp2_with fail
    refine (specFeed_nil (x : Int) false q 0 m c ds _ D5.out.1 (fun j hj => by exact D5.out.2.1.cell D5.out.1 j hj) (by omega)).mono ?_
    rintro e w6 ⟨gq, gc, rfl, hg6, hO6, hB6⟩
    have L6 : Hd (LD w g ao len cap bs w6) := ⟨L5.out.below hB6⟩
    have K6 : Hd (w6.heap[d]? = some (.cells #[.int .i64 (x : Int), .slice none 0 0, .bool false] 30 (0, 0))) := ⟨(hB6.block _ (lt_block K5.out)).trans K5.out⟩
    have hnh : (fedH (x : Int) [] false ds).length ≤ 3 := fed_few _ _
    have O6 : Hd (Own w6 gq gc (fedH (x : Int) [] false ds)) := ⟨hO6⟩
    have Hg : Hd (w.heap.size < gq ∧ gq ≠ d) := ⟨by have := L5.out.size; omega, by have := lt_block K5.out; omega⟩
    generalize fedH (x : Int) [] false ds = hh at *
    generalize fedB (x : Int) [] false ds = fb at *
    generalize (fedT (x : Int) [] false ds).toArray = ft at *
    have HN : Hd (hh.length = hh.length) := ⟨rfl⟩
    obtain ⟨nh, hnn⟩ : ∃ nh, hh.length = nh := ⟨_, rfl⟩
    have HNN : Hd (hh.length = nh) := ⟨hnn⟩
    rw [hnn] at hnh ⊢
    clear hg6 hO6 hB6 k0 k1 k2 K5 hnn HN
    obtain ⟨k0, k1, k2, k3, k4, k5⟩ := cells3 w6 d _ _ _ _ K6.out
    obtain ⟨s0, s1, s2, s3, s4, s5⟩ := cells3 w6 w.heap.size _ _ _ _ L6.out.b2
    have hds : ¬ w.heap.size = d := by have := Hd3.out; omega
    have hds2 : ¬ d = w.heap.size := by have := Hd3.out; omega
    have s0' := cell_set3 (q := d) (v0 := .int .i64 (x : Int)) (v1 := .slice (some ⟨gq, 0, none⟩) nh gc) (v2 := .bool fb) s0 hds
    have s1' := cell_set3 (q := d) (v0 := .int .i64 (x : Int)) (v1 := .slice (some ⟨gq, 0, none⟩) nh gc) (v2 := .bool fb) s1 hds
    have s2' := cell_set3 (q := d) (v0 := .int .i64 (x : Int)) (v1 := .slice (some ⟨gq, 0, none⟩) nh gc) (v2 := .bool fb) s2 hds
    have L7 : Hd (LD w g ao len cap bs (((w6.setCell ⟨d, 0, none⟩ (.int .i64 (x : Int))).setCell ⟨d, 1, none⟩ (.slice (some ⟨gq, 0, none⟩) nh gc)).setCell ⟨d, 2, none⟩ (.bool fb))) := ⟨L6.out.set3 d _ _ _ Hd3.out⟩
    go_wp2_with fail
    refine bodyPost_ret (results_cell_row rfl _ _ w.heap.size _ _ (0, 0) _ rfl (set3 _ _ _ L7.out.b2) Tryd.underlying30 rfl (by kernel_rfl)) rfl ?_
    exact L7.out.done hnh ((own_set3 O6.out Hg.out.2).lies HNN.out) Hg.out.1 (by have := O6.out.le; rw [HNN.out] at this; exact this)
  | true =>
    by_cases hm : m = 0
    · subst hm
      obtain ⟨k0, k1, k2, _, _, _⟩ := cells3 w4 d _ _ _ _ K5.out
      go_wp2_with fail
      refine (specFeed_nil (x : Int) false q 0 0 c ds _ D5.out.1 (fun j hj => by exact D5.out.2.1.cell D5.out.1 j hj) (by omega)).mono ?_
      rintro e w6 ⟨gq, gc, rfl, hg6, hO6, hB6⟩
      have L6 : Hd (LD w g ao len cap bs w6) := ⟨L5.out.below hB6⟩
      have K6 : Hd (w6.heap[d]? = some (.cells #[.int .i64 (x : Int), .slice none 0 0, .bool false] 30 (0, 0))) := ⟨(hB6.block _ (lt_block K5.out)).trans K5.out⟩
      have hnh : (fedH (x : Int) [] false ds).length ≤ 3 := fed_few _ _
      have O6 : Hd (Own w6 gq gc (fedH (x : Int) [] false ds)) := ⟨hO6⟩
      have Hg : Hd (w.heap.size < gq ∧ gq ≠ d) := ⟨by have := L5.out.size; omega, by have := lt_block K5.out; omega⟩
      generalize fedH (x : Int) [] false ds = hh at *
      generalize fedB (x : Int) [] false ds = fb at *
      generalize (fedT (x : Int) [] false ds).toArray = ft at *
      have HN : Hd (hh.length = hh.length) := ⟨rfl⟩
      obtain ⟨nh, hnn⟩ : ∃ nh, hh.length = nh := ⟨_, rfl⟩
      have HNN : Hd (hh.length = nh) := ⟨hnn⟩
      rw [hnn] at hnh ⊢
      clear hg6 hO6 hB6 k0 k1 k2 K5 hnn HN
      obtain ⟨k0, k1, k2, k3, k4, k5⟩ := cells3 w6 d _ _ _ _ K6.out
      obtain ⟨s0, s1, s2, s3, s4, s5⟩ := cells3 w6 w.heap.size _ _ _ _ L6.out.b2
      have hds : ¬ w.heap.size = d := by have := Hd3.out; omega
      have hds2 : ¬ d = w.heap.size := by have := Hd3.out; omega
      have s0' := cell_set3 (q := d) (v0 := .int .i64 (x : Int)) (v1 := .slice (some ⟨gq, 0, none⟩) nh gc) (v2 := .bool fb) s0 hds
      have s1' := cell_set3 (q := d) (v0 := .int .i64 (x : Int)) (v1 := .slice (some ⟨gq, 0, none⟩) nh gc) (v2 := .bool fb) s1 hds
      have s2' := cell_set3 (q := d) (v0 := .int .i64 (x : Int)) (v1 := .slice (some ⟨gq, 0, none⟩) nh gc) (v2 := .bool fb) s2 hds
      have L7 : Hd (LD w g ao len cap bs (((w6.setCell ⟨d, 0, none⟩ (.int .i64 (x : Int))).setCell ⟨d, 1, none⟩ (.slice (some ⟨gq, 0, none⟩) nh gc)).setCell ⟨d, 2, none⟩ (.bool fb))) := ⟨L6.out.set3 d _ _ _ Hd3.out⟩
      go_wp2_with fail
      refine bodyPost_ret (results_cell_row rfl _ _ w.heap.size _ _ (0, 0) _ rfl (set3 _ _ _ L7.out.b2) Tryd.underlying30 rfl (by kernel_rfl)) rfl ?_
      exact L7.out.done hnh ((own_set3 O6.out Hg.out.2).lies HNN.out) Hg.out.1 (by have := O6.out.le; rw [HNN.out] at this; exact this)
    · have hmI : (0 : Int) < (m : Int) := by omega
      go_wp2_with fail
      refine (l1Below_any g ao len cap bs m _ hl (by omega) (by omega) L5.out.cur).mono ?_
      rintro e w5 ⟨y, hy, rfl, hC7, hG7⟩
      have L6 : Hd (LD w g ao len cap bs w5) := ⟨L5.out.grown hC7 hG7⟩
      have KK : Hd (w5.heap[d]? = some (.cells #[.int .i64 (x : Int), .slice none 0 0, .bool false] 30 (0, 0))) := ⟨grown_block hG7 K5.out (by have := L5.out.lt; have := Hd3.out; omega)⟩
      have D6 : Hd ((ds.take y).length = y ∧ Own w5 q c (ds.take y)) := ⟨by rw [List.length_take, D5.out.1]; omega, (D5.out.2.1.grown hG7 D5.out.2.2).take y⟩
      generalize ds.take y = es at *
      have hyI : (y : Int) ≤ (c : Int) := by omega
      clear hC7 hG7 L5 K5 D5
      obtain ⟨k0, k1, k2, _, _, _⟩ := cells3 w5 d _ _ _ _ KK.out
      go_wp2_with fail
      refine (specFeed_nil (x : Int) false q 0 y c es _ D6.out.1 (fun j hj => by exact D6.out.2.cell D6.out.1 j hj) (by omega)).mono ?_
      rintro e w6 ⟨gq, gc, rfl, hg6, hO6, hB6⟩
      have L8 : Hd (LD w g ao len cap bs w6) := ⟨L6.out.below hB6⟩
      have K6 : Hd (w6.heap[d]? = some (.cells #[.int .i64 (x : Int), .slice none 0 0, .bool false] 30 (0, 0))) := ⟨(hB6.block _ (lt_block KK.out)).trans KK.out⟩
      have hnh : (fedH (x : Int) [] false es).length ≤ 3 := fed_few _ _
      have O6 : Hd (Own w6 gq gc (fedH (x : Int) [] false es)) := ⟨hO6⟩
      have Hg : Hd (w.heap.size < gq ∧ gq ≠ d) := ⟨by have := L6.out.size; omega, by have := lt_block KK.out; omega⟩
      generalize fedH (x : Int) [] false es = hh at *
      generalize fedB (x : Int) [] false es = fb at *
      generalize (fedT (x : Int) [] false es).toArray = ft at *
      have HN : Hd (hh.length = hh.length) := ⟨rfl⟩
      obtain ⟨nh, hnn⟩ : ∃ nh, hh.length = nh := ⟨_, rfl⟩
      have HNN : Hd (hh.length = nh) := ⟨hnn⟩
      rw [hnn] at hnh ⊢
      clear hg6 hO6 hB6 k0 k1 k2 KK hnn HN
      obtain ⟨k0, k1, k2, k3, k4, k5⟩ := cells3 w6 d _ _ _ _ K6.out
      obtain ⟨s0, s1, s2, s3, s4, s5⟩ := cells3 w6 w.heap.size _ _ _ _ L8.out.b2
      have hds : ¬ w.heap.size = d := by have := Hd3.out; omega
      have hds2 : ¬ d = w.heap.size := by have := Hd3.out; omega
      have s0' := cell_set3 (q := d) (v0 := .int .i64 (x : Int)) (v1 := .slice (some ⟨gq, 0, none⟩) nh gc) (v2 := .bool fb) s0 hds
      have s1' := cell_set3 (q := d) (v0 := .int .i64 (x : Int)) (v1 := .slice (some ⟨gq, 0, none⟩) nh gc) (v2 := .bool fb) s1 hds
      have s2' := cell_set3 (q := d) (v0 := .int .i64 (x : Int)) (v1 := .slice (some ⟨gq, 0, none⟩) nh gc) (v2 := .bool fb) s2 hds
      have L7 : Hd (LD w g ao len cap bs (((w6.setCell ⟨d, 0, none⟩ (.int .i64 (x : Int))).setCell ⟨d, 1, none⟩ (.slice (some ⟨gq, 0, none⟩) nh gc)).setCell ⟨d, 2, none⟩ (.bool fb))) := ⟨L8.out.set3 d _ _ _ Hd3.out⟩
      go_wp2_with fail
      refine bodyPost_ret (results_cell_row rfl _ _ w.heap.size _ _ (0, 0) _ rfl (set3 _ _ _ L7.out.b2) Tryd.underlying30 rfl (by kernel_rfl)) rfl ?_
      exact L7.out.done hnh ((own_set3 O6.out Hg.out.2).lies HNN.out) Hg.out.1 (by have := O6.out.le; rw [HNN.out] at this; exact this)

/-- The box of a state that is being bent. -/
structure KD (w : World) (d : Nat) (cs : Int) (q m c : Nat) (bad : Bool) (ds : List UInt8) (wi : World) : Prop where
  box : wi.heap[d]? = some (.cells #[.int .i64 cs, .slice (some ⟨q, 0, none⟩) m c, .bool bad] 30 (0, 0))
  lies : Lies wi q m ds
  m3 : m ≤ 3
  hc : m ≤ c
  qd : q ≠ d
  wq : w.heap.size < q
  wd : w.heap.size < d
theorem KD.below {w : World} {d : Nat} {cs : Int} {q m c : Nat} {bad : Bool} {ds : List UInt8} {wi wj : World} (h : KD w d cs q m c bad ds wi) (hB : Below wi.heap.size wi wj) : KD w d cs q m c bad ds wj :=
  ⟨(hB.block _ (lt_block h.box)).trans h.box, h.lies.below hB, h.m3, h.hc, h.qd, h.wq, h.wd⟩
theorem Lies.grown {w w' : World} {q n g : Nat} {es : List UInt8} (h : Lies w q n es) (hG : w.grownBy w' (some g)) (hne : q ≠ g) : Lies w' q n es :=
  ⟨h.size, Nat.lt_of_lt_of_le h.lt hG.size, fun j hj => grown_cell hG (h.cell j hj) hne⟩
theorem KD.grown {w : World} {d : Nat} {cs : Int} {q m c g : Nat} {bad : Bool} {ds : List UInt8} {wi wj : World} (h : KD w d cs q m c bad ds wi) (hG : wi.grownBy wj (some g)) (hg : g < w.heap.size) : KD w d cs q m c bad ds wj :=
  ⟨grown_block hG h.box (by have := h.wd; omega), h.lies.grown hG (by have := h.wq; omega), h.m3, h.hc, h.qd, h.wq, h.wd⟩
theorem Lies.set {w : World} {q n g j : Nat} {v : Value} {es : List UInt8} (h : Lies w q n es) (hne : q ≠ g) : Lies (w.setCell ⟨g, j, none⟩ v) q n es :=
  ⟨h.size, by simpa using h.lt, fun k hk => cell_set (h.cell k hk) hne⟩
theorem set_first {w : World} {g : Nat} {a b c : Value} {T : TypeId} (y : Value) (hg : w.heap[g]? = some (.cells #[a, b, c] T (0, 0))) : (w.setCell ⟨g, 0, none⟩ y).heap[g]? = some (.cells #[y, b, c] T (0, 0)) := by
  rw [heap_setCell_same _ g 0 _ _ _ hg]; simp
theorem KD.setCs {w : World} {d : Nat} {cs : Int} {q m c : Nat} {bad : Bool} {ds : List UInt8} {wi : World} (h : KD w d cs q m c bad ds wi) (z : Int) : KD w d z q m c bad ds (wi.setCell ⟨d, 0, none⟩ (.int .i64 z)) :=
  ⟨set_first _ h.box, h.lies.set h.qd, h.m3, h.hc, h.qd, h.wq, h.wd⟩
theorem KD.setHeld {w : World} {d : Nat} {cs : Int} {q m c q' m' c' : Nat} {bad : Bool} {ds es : List UInt8} {wi : World} (h : KD w d cs q m c bad ds wi) (hL : Lies wi q' m' es) (h3 : m' ≤ 3) (hc : m' ≤ c') (hd : q' ≠ d) (hw : w.heap.size < q') : KD w d cs q' m' c' bad es (wi.setCell ⟨d, 1, none⟩ (.slice (some ⟨q', 0, none⟩) m' c')) :=
  ⟨set_mid _ h.box, hL.set hd, h3, hc, hd, hw, h.wd⟩
theorem LD.set {w : World} {g : Nat} {ao : Option Addr} {len cap : Nat} {bs : List UInt8} {wi : World} (h : LD w g ao len cap bs wi) (d j : Nat) (v : Value) (hd : w.heap.size < d) : LD w g ao len cap bs (wi.setCell ⟨d, j, none⟩ v) := by
  have hl := h.lt
  have hk : ∀ k, k ≤ w.heap.size → (wi.setCell ⟨d, j, none⟩ v).heap[k]? = wi.heap[k]? := fun k hk => block_set rfl (by omega)
  refine ⟨h.cur.kept (fun k hk' => hk k (by omega)), ?_, h.lt, (hk _ (Nat.le_refl _)).trans h.b2⟩
  exact ⟨h.gr.os, h.gr.tape, h.gr.output, by simpa using h.gr.size, fun k hk1 hk2 => (hk k (by omega)).trans (h.gr.block k hk1 hk2)⟩
theorem begs_in (z : ByteArray) (h : z ∈ ([⟨#[226, 130]⟩, ⟨#[224]⟩, ⟨#[224, 128]⟩, ⟨#[237, 160]⟩, ⟨#[240, 143]⟩, ⟨#[244, 143, 191]⟩, ⟨#[245]⟩, ⟨#[164]⟩] : List ByteArray)) : z.size ≤ 3 := by
  simp only [List.mem_cons, List.mem_nil_iff, or_false] at h
  rcases h with rfl | rfl | rfl | rfl | rfl | rfl | rfl | rfl <;> decide

set_option maxHeartbeats 1000000 in
theorem l6Any_any (g : Nat) (ao : Option Addr) (len cap : Nat) (bs : List UInt8) (w : World) (hl : len ≤ 1073741824) (h : Cursor w g ao len cap bs) :
    Calls Tryd.prog 42 #[.pointer (some ⟨g, 0, none⟩)] w (DecDrawn w g ao len cap bs) := by
  have L0 : Hd (LD w g ao len cap bs (w.alloc (.cells #[.int .i64 0, .slice none 0 0, .bool false] 30))) := ⟨ld_first h⟩
  clear h
  go_enter Tryd.func42, Tryd.ntmps42
  go_wp2_with fail
  refine (l6Draw_any g ao len cap bs _ hl L0.out.cur).mono ?_
  rintro e w1 ⟨cs, q, m, c, bad, ds, rfl, hm3, hLi, hq, hmc, hC1, hG1⟩
  have L1 : Hd (LD w g ao len cap bs (w1.alloc (.cells #[.int .i64 cs, .slice (some ⟨q, 0, none⟩) m c, .bool bad] 30))) := ⟨(L0.out.grown hC1 hG1).below (below_lit w1 _)⟩
  have K1 : Hd (KD w w1.heap.size cs q m c bad ds (w1.alloc (.cells #[.int .i64 cs, .slice (some ⟨q, 0, none⟩) m c, .bool bad] 30))) := ⟨alloc_new w1 _ rfl, hLi.below (below_lit w1 _), hm3, hmc, by have := hLi.lt; omega, by simp at hq; omega, (L0.out.grown hC1 hG1).size⟩
  generalize hd : w1.heap.size = d at *
  clear hm3 hLi hq hmc hC1 hG1 L0
  go_wp2_with fail
  clear hd
  refine (l1Below_any g ao len cap bs 6 _ hl (by omega) (by omega) L1.out.cur).mono ?_
  rintro e w2 ⟨x, hx, rfl, hC2, hG2⟩
  have L2 : Hd (LD w g ao len cap bs w2) := ⟨L1.out.grown hC2 hG2⟩
  have K2 : Hd (KD w d cs q m c bad ds w2) := ⟨K1.out.grown hG2 L1.out.lt⟩
  clear hC2 hG2 L1 K1
  by_cases x0 : x = 0
  · subst x0
    go_wp2_with fail
    refine (l3Any_any g ao len cap bs _ hl L2.out.cur).mono ?_
    rintro e w3 ⟨z, rfl, _, hC3, hG3⟩
    have L3 : Hd (LD w g ao len cap bs w3) := ⟨L2.out.grown hC3 hG3⟩
    have K3 : Hd (KD w d cs q m c bad ds w3) := ⟨K2.out.grown hG3 L2.out.lt⟩
    have L4 : Hd (LD w g ao len cap bs (w3.setCell ⟨d, 0, none⟩ (.int .i64 z))) := ⟨L3.out.set d 0 _ K3.out.wd⟩
    have K4 : Hd (KD w d z q m c bad ds (w3.setCell ⟨d, 0, none⟩ (.int .i64 z))) := ⟨K3.out.setCs z⟩
    obtain ⟨k0, k1, k2, k3, k4, k5⟩ := cells3 w3 d _ _ _ _ K3.out.box
    clear hC3 hG3 L2 K2
    obtain ⟨e0, e1, e2, _, _, _⟩ := cells3 (w3.setCell ⟨d, 0, none⟩ (.int .i64 z)) d _ _ _ _ K4.out.box
    obtain ⟨s0, s1, s2, s3, s4, s5⟩ := cells3 (w3.setCell ⟨d, 0, none⟩ (.int .i64 z)) w.heap.size _ _ _ _ L4.out.b2
    go_wp2_with fail
    refine bodyPost_ret (results_cell_row rfl _ _ w.heap.size _ _ (0, 0) _ rfl (set3 _ _ _ L4.out.b2) Tryd.underlying30 rfl (by kernel_rfl)) rfl ?_
    exact L4.out.done K4.out.m3 K4.out.lies K4.out.wq K4.out.hc
  by_cases x1 : x = 1
  · subst x1
    go_wp2_with fail
    refine (l1Below_any g ao len cap bs 3 _ hl (by omega) (by omega) L2.out.cur).mono ?_
    rintro e w3 ⟨y, hy, rfl, hC3, hG3⟩
    have L3 : Hd (LD w g ao len cap bs w3) := ⟨L2.out.grown hC3 hG3⟩
    have K3 : Hd (KD w d cs q m c bad ds w3) := ⟨K2.out.grown hG3 L2.out.lt⟩
    clear hC3 hG3 L2 K2
    have hw : wrap64 (1 + (y : Int)) = ((1 + y : Nat) : Int) := by rw [wrap64_in (by omega) (by omega)]; omega
    go_wp2_with fail
    refine (l1Bytes_any g ao len cap bs (1 + y) _ hl (by omega) L3.out.cur).mono ?_
    rintro e w4 ⟨q4, c4, es, rfl, d1, d2, d3, d4, d5⟩
    have L4 : Hd (LD w g ao len cap bs w4) := ⟨L3.out.grown d4 d5⟩
    have K4 : Hd (KD w d cs q m c bad ds w4) := ⟨K3.out.grown d5 L3.out.lt⟩
    have K5 : Hd (KD w d cs q4 (1 + y) c4 bad es (w4.setCell ⟨d, 1, none⟩ (.slice (some ⟨q4, 0, none⟩) (1 + y) c4))) := ⟨K4.out.setHeld (d3.lies d1) (by omega) (by have := d3.le; omega) (by have := lt_block K3.out.box; omega) (by have := L3.out.size; omega)⟩
    have L5 : Hd (LD w g ao len cap bs (w4.setCell ⟨d, 1, none⟩ (.slice (some ⟨q4, 0, none⟩) (1 + y) c4))) := ⟨L4.out.set d 1 _ K4.out.wd⟩
    obtain ⟨k0, k1, k2, k3, k4, k5⟩ := cells3 w4 d _ _ _ _ K4.out.box
    clear d1 d2 d3 d4 d5 L3 K3 hw
    obtain ⟨e0, e1, e2, _, _, _⟩ := cells3 (w4.setCell ⟨d, 1, none⟩ (.slice (some ⟨q4, 0, none⟩) (1 + y) c4)) d _ _ _ _ K5.out.box
    obtain ⟨s0, s1, s2, s3, s4, s5⟩ := cells3 (w4.setCell ⟨d, 1, none⟩ (.slice (some ⟨q4, 0, none⟩) (1 + y) c4)) w.heap.size _ _ _ _ L5.out.b2
    go_wp2_with fail
    refine bodyPost_ret (results_cell_row rfl _ _ w.heap.size _ _ (0, 0) _ rfl (set3 _ _ _ L5.out.b2) Tryd.underlying30 rfl (by kernel_rfl)) rfl ?_
    exact L5.out.done K5.out.m3 K5.out.lies K5.out.wq K5.out.hc
  by_cases x2 : x = 2
  · subst x2
    have hgl := L2.out.cur.lt
    go_wp2_with fail
    refine (l1Str_any g w2.heap.size 8 8 ao len cap bs [⟨#[226, 130]⟩, ⟨#[224]⟩, ⟨#[224, 128]⟩, ⟨#[237, 160]⟩, ⟨#[240, 143]⟩, ⟨#[244, 143, 191]⟩, ⟨#[245]⟩, ⟨#[164]⟩] _ hl (by omega) (by omega) rfl (by omega) ?cells (L2.out.cur.below (below_lit _ _))).mono ?_
    case cells => exact lit_strs w2 [⟨#[226, 130]⟩, ⟨#[224]⟩, ⟨#[224, 128]⟩, ⟨#[237, 160]⟩, ⟨#[240, 143]⟩, ⟨#[244, 143, 191]⟩, ⟨#[245]⟩, ⟨#[164]⟩] _
    rintro e w3 ⟨u, hu, rfl, hC3, hG3⟩
    have L3 : Hd (LD w g ao len cap bs w3) := ⟨(L2.out.below (below_lit w2 _)).grown hC3 hG3⟩
    have K3 : Hd (KD w d cs q m c bad ds w3) := ⟨(K2.out.below (below_lit w2 _)).grown hG3 L2.out.lt⟩
    have hu3 : u.size ≤ 3 := begs_in u hu
    obtain ⟨uc, W, hcv, hBy⟩ := conv_string u w3
    have L4 : Hd (LD w g ao len cap bs W) := ⟨L3.out.below hBy.bel⟩
    have K4 : Hd (KD w d cs q m c bad ds W) := ⟨K3.out.below hBy.bel⟩
    obtain ⟨q4, hq4⟩ : ∃ q4, w3.heap.size = q4 := ⟨_, rfl⟩
    rw [hq4] at hcv
    have K5 : Hd (KD w d cs q4 u.size uc bad u.data.toList (W.setCell ⟨d, 1, none⟩ (.slice (some ⟨q4, 0, none⟩) u.size uc))) := ⟨K4.out.setHeld ⟨(Array.length_toList : u.data.toList.length = u.data.size), by have := hBy.size; omega, by rw [← hq4]; exact hBy.cell⟩ hu3 hBy.cap (by have := lt_block K3.out.box; omega) (by have := L3.out.size; omega)⟩
    have L5 : Hd (LD w g ao len cap bs (W.setCell ⟨d, 1, none⟩ (.slice (some ⟨q4, 0, none⟩) u.size uc))) := ⟨L4.out.set d 1 _ K4.out.wd⟩
    obtain ⟨k0, k1, k2, k3, k4, k5⟩ := cells3 W d _ _ _ _ K4.out.box
    clear hu hC3 hG3 hBy L2 K2 L3 K3 hq4
    obtain ⟨e0, e1, e2, _, _, _⟩ := cells3 (W.setCell ⟨d, 1, none⟩ (.slice (some ⟨q4, 0, none⟩) u.size uc)) d _ _ _ _ K5.out.box
    obtain ⟨s0, s1, s2, s3, s4, s5⟩ := cells3 (W.setCell ⟨d, 1, none⟩ (.slice (some ⟨q4, 0, none⟩) u.size uc)) w.heap.size _ _ _ _ L5.out.b2
    go_wp2_with fail
    refine bodyPost_ret (results_cell_row rfl _ _ w.heap.size _ _ (0, 0) _ rfl (set3 _ _ _ L5.out.b2) Tryd.underlying30 rfl (by kernel_rfl)) rfl ?_
    exact L5.out.done K5.out.m3 K5.out.lies K5.out.wq K5.out.hc
  · have n0 : ((x : Int) == 0) = false := by simp; omega
    have n1 : ((x : Int) == 1) = false := by simp; omega
    have n2 : ((x : Int) == 2) = false := by simp; omega
    clear x0 x1 x2 hx
    obtain ⟨e0, e1, e2, _, _, _⟩ := cells3 (w2) d _ _ _ _ K2.out.box
    obtain ⟨s0, s1, s2, s3, s4, s5⟩ := cells3 (w2) w.heap.size _ _ _ _ L2.out.b2
    go_wp2_with fail
    refine bodyPost_ret (results_cell_row rfl _ _ w.heap.size _ _ (0, 0) _ rfl (set3 _ _ _ L2.out.b2) Tryd.underlying30 rfl (by kernel_rfl)) rfl ?_
    exact L2.out.done K2.out.m3 K2.out.lies K2.out.wq K2.out.hc

/-- A state; a state and bytes. -/
structure DrawnDec (w : World) (e : Ending) (w' : World) : Prop where
  out : ∃ (cs : Int) (q m c : Nat) (bad : Bool) (ds : List UInt8), e = .returned (.agg #[.int .i64 cs, .slice (some ⟨q, 0, none⟩) m c, .bool bad]) ∧ m ≤ 3 ∧ Lies w' q m ds ∧ w.heap.size ≤ q ∧ m ≤ c ∧ Below w.heap.size w w'

set_option maxHeartbeats 400000 in
theorem drawDecNew_any (ao : Option Addr) (len cap : Nat) (bs : List UInt8) (w : World) (hl : len ≤ 1073741824) (hr : Reads w ao len bs) :
    Calls Tryd.prog 22 #[.slice ao len cap] w (DrawnInt w) := by
  have H : Hd (Reads w ao len bs) := ⟨hr⟩
  clear hr
  go_enter Tryd.func22, Tryd.ntmps22
  go_wp2_with fail
  refine (l1New_any ao len cap bs _ hl H.out).mono ?_
  rintro e w1 ⟨rfl, hC1, hB1⟩
  have C1 : Hd (Cursor w1 w.heap.size ao len cap bs) := ⟨hC1⟩
  have B1 : Hd (Below w.heap.size w w1) := ⟨hB1⟩
  clear hC1 hB1
  go_wp2_with fail
  refine (l3Any_any w.heap.size ao len cap bs _ hl C1.out).mono ?_
  rintro e w2 ⟨z, rfl, hz, hC2, hG2⟩
  have R : Hd (z ≤ 9223372036854775807 ∧ Below w.heap.size w w2) := ⟨hz, below_grows B1.out hG2 B1.out.size (Nat.le_refl _)⟩
  clear hz hC2 hG2 C1 B1
  go_wp2_with fail
  go_ret
  exact ⟨z, rfl, R.out⟩

set_option maxHeartbeats 400000 in
theorem drawDecOk_any (ao : Option Addr) (len cap : Nat) (bs : List UInt8) (w : World) (hl : len ≤ 1073741824) (hr : Reads w ao len bs) :
    Calls Tryd.prog 18 #[.slice ao len cap] w (DrawnDec w) := by
  have H : Hd (Reads w ao len bs) := ⟨hr⟩
  clear hr
  go_enter Tryd.func18, Tryd.ntmps18
  go_wp2_with fail
  refine (l1New_any ao len cap bs _ hl (H.out.below rfl (below_lit w _))).mono ?_
  rintro e w1 ⟨rfl, hC1, hB1⟩
  have C1 : Hd (Cursor w1 (w.heap.size + 1) ao len cap bs) := ⟨by simpa using hC1⟩
  have Z1 : Hd (w1.heap[w.heap.size]? = some (.cells #[.int .i64 0, .slice none 0 0, .bool false] 30 (0, 0))) := ⟨(hB1.block _ (by simp)).trans (alloc_new w _ rfl)⟩
  have B1 : Hd (Below w.heap.size w w1) := ⟨Below.next (below_lit w _) hB1⟩
  clear hC1 hB1
  simp only [World.size_alloc]
  go_wp2_with fail
  refine (l6Any_any (w.heap.size + 1) ao len cap bs _ hl C1.out).mono ?_
  rintro e w2 ⟨cs, q, m, c, bad, ds, rfl, hm3, hLi, hq, hmc, hC2, hG2⟩
  have B2 : Hd (Below w.heap.size w w2) := ⟨below_grows B1.out hG2 B1.out.size (by omega)⟩
  have Z2 : Hd (w2.heap[w.heap.size]? = some (.cells #[.int .i64 0, .slice none 0 0, .bool false] 30 (0, 0))) := ⟨grown_block hG2 Z1.out (by omega)⟩
  have R : Hd (m ≤ 3 ∧ Lies w2 q m ds ∧ w.heap.size < q ∧ m ≤ c) := ⟨hm3, hLi, by have := lt_block Z1.out; omega, hmc⟩
  obtain ⟨s0, s1, s2, s3, s4, s5⟩ := cells3 w2 w.heap.size _ _ _ _ Z2.out
  clear hm3 hLi hq hmc hC2 hG2 C1 Z1 B1
  go_wp2_with fail
  refine bodyPost_ret (results_cell_row rfl _ _ w.heap.size _ _ (0, 0) _ rfl (set3 _ _ _ Z2.out) Tryd.underlying30 rfl (by kernel_rfl)) rfl ?_
  have hne : q ≠ w.heap.size := by have := R.out.2.2.1; omega
  exact ⟨cs, q, m, c, bad, ds, rfl, R.out.1, ((R.out.2.1.set hne).set hne).set hne, by have := R.out.2.2.1; omega, R.out.2.2.2, bset (bset (bset B2.out _ (Nat.le_refl _)) _ (Nat.le_refl _)) _ (Nat.le_refl _)⟩

set_option maxHeartbeats 400000 in
theorem drawDecEnd_any (ao : Option Addr) (len cap : Nat) (bs : List UInt8) (w : World) (hl : len ≤ 1073741824) (hr : Reads w ao len bs) :
    Calls Tryd.prog 21 #[.slice ao len cap] w (DrawnDec w) := by
  have H : Hd (Reads w ao len bs) := ⟨hr⟩
  clear hr
  go_enter Tryd.func21, Tryd.ntmps21
  go_wp2_with fail
  refine (l1New_any ao len cap bs _ hl (H.out.below rfl (below_lit w _))).mono ?_
  rintro e w1 ⟨rfl, hC1, hB1⟩
  have C1 : Hd (Cursor w1 (w.heap.size + 1) ao len cap bs) := ⟨by simpa using hC1⟩
  have Z1 : Hd (w1.heap[w.heap.size]? = some (.cells #[.int .i64 0, .slice none 0 0, .bool false] 30 (0, 0))) := ⟨(hB1.block _ (by simp)).trans (alloc_new w _ rfl)⟩
  have B1 : Hd (Below w.heap.size w w1) := ⟨Below.next (below_lit w _) hB1⟩
  clear hC1 hB1
  simp only [World.size_alloc]
  go_wp2_with fail
  refine (l6Any_any (w.heap.size + 1) ao len cap bs _ hl C1.out).mono ?_
  rintro e w2 ⟨cs, q, m, c, bad, ds, rfl, hm3, hLi, hq, hmc, hC2, hG2⟩
  have B2 : Hd (Below w.heap.size w w2) := ⟨below_grows B1.out hG2 B1.out.size (by omega)⟩
  have Z2 : Hd (w2.heap[w.heap.size]? = some (.cells #[.int .i64 0, .slice none 0 0, .bool false] 30 (0, 0))) := ⟨grown_block hG2 Z1.out (by omega)⟩
  have R : Hd (m ≤ 3 ∧ Lies w2 q m ds ∧ w.heap.size < q ∧ m ≤ c) := ⟨hm3, hLi, by have := lt_block Z1.out; omega, hmc⟩
  obtain ⟨s0, s1, s2, s3, s4, s5⟩ := cells3 w2 w.heap.size _ _ _ _ Z2.out
  clear hm3 hLi hq hmc hC2 hG2 C1 Z1 B1
  go_wp2_with fail
  refine bodyPost_ret (results_cell_row rfl _ _ w.heap.size _ _ (0, 0) _ rfl (set3 _ _ _ Z2.out) Tryd.underlying30 rfl (by kernel_rfl)) rfl ?_
  have hne : q ≠ w.heap.size := by have := R.out.2.2.1; omega
  exact ⟨cs, q, m, c, bad, ds, rfl, R.out.1, ((R.out.2.1.set hne).set hne).set hne, by have := R.out.2.2.1; omega, R.out.2.2.2, bset (bset (bset B2.out _ (Nat.le_refl _)) _ (Nat.le_refl _)) _ (Nat.le_refl _)⟩

/-- A state and bytes. -/
structure DrawnFeed (w : World) (e : Ending) (w' : World) : Prop where
  out : ∃ (cs : Int) (q m c : Nat) (bad : Bool) (ds : List UInt8) (q2 m2 c2 : Nat) (es : List UInt8), e = .returned (.tuple #[.agg #[.int .i64 cs, .slice (some ⟨q, 0, none⟩) m c, .bool bad], .slice (some ⟨q2, 0, none⟩) m2 c2]) ∧ m ≤ 3 ∧ Lies w' q m ds ∧ m ≤ c ∧ m2 ≤ 81 ∧ Lies w' q2 m2 es ∧ m2 ≤ c2 ∧ Below w.heap.size w w'

/-- Ahead of its answer. -/
structure DF (w : World) (ao : Option Addr) (len cap : Nat) (bs : List UInt8) (d : Nat) (cs : Int) (q m c : Nat) (bad : Bool) (ds : List UInt8) (wi : World) : Prop where
  cur : Cursor wi (w.heap.size + 1) ao len cap bs
  b2 : wi.heap[w.heap.size]? = some (.cells #[.int .i64 0, .slice none 0 0, .bool false] 30 (0, 0))
  box : wi.heap[d]? = some (.cells #[.int .i64 cs, .slice (some ⟨q, 0, none⟩) m c, .bool bad] 30 (0, 0))
  lies : Lies wi q m ds
  m3 : m ≤ 3
  hc : m ≤ c
  wq : w.heap.size + 1 < q
  wd : w.heap.size + 1 < d
  bel : Below w.heap.size w wi
theorem DF.drew {w : World} {ao : Option Addr} {len cap : Nat} {bs : List UInt8} {d : Nat} {cs : Int} {q m c : Nat} {bad : Bool} {ds : List UInt8} {wi : World} (h : DF w ao len cap bs d cs q m c bad ds wi) : DF w ao len cap bs d cs q m c bad ds wi.drew :=
  ⟨h.cur.kept (fun _ _ => rfl), h.b2, h.box, ⟨h.lies.size, h.lies.lt, h.lies.cell⟩, h.m3, h.hc, h.wq, h.wd, h.bel.drew⟩
theorem DF.answer {w : World} {ao : Option Addr} {len cap : Nat} {bs : List UInt8} {d : Nat} {cs : Int} {q m c : Nat} {bad : Bool} {ds : List UInt8} {wi wj : World} (h : DF w ao len cap bs d cs q m c bad ds wi) (hG : wi.grownBy wj (some (w.heap.size + 1))) {q2 m2 c2 : Nat} {es : List UInt8} (h1 : es.length = m2) (h2 : m2 ≤ 81) (hO : Own wj q2 c2 es) (hq : wi.heap.size ≤ q2) :
    DrawnFeed w (.returned (.tuple #[.agg #[.int .i64 cs, .slice (some ⟨q, 0, none⟩) m c, .bool bad], .slice (some ⟨q2, 0, none⟩) m2 c2])) (((wj.setCell ⟨w.heap.size, 0, none⟩ (.int .i64 cs)).setCell ⟨w.heap.size, 1, none⟩ (.slice (some ⟨q, 0, none⟩) m c)).setCell ⟨w.heap.size, 2, none⟩ (.bool bad)) := by
  have hl := lt_block h.b2
  have hwq := h.wq
  have hne : q ≠ w.heap.size := by omega
  have hne2 : q2 ≠ w.heap.size := by omega
  have hL : Lies wj q m ds := h.lies.grown hG (by omega)
  have hL2 : Lies wj q2 m2 es := hO.lies h1
  exact ⟨cs, q, m, c, bad, ds, q2, m2, c2, es, rfl, h.m3, ((hL.set hne).set hne).set hne, h.hc, h2, ((hL2.set hne2).set hne2).set hne2, by have := hO.le; omega, bset (bset (bset (below_grows h.bel hG h.bel.size (by omega)) _ (Nat.le_refl _)) _ (Nat.le_refl _)) _ (Nat.le_refl _)⟩

set_option maxHeartbeats 1000000 in
theorem drawFeed_any (ao : Option Addr) (len cap : Nat) (bs : List UInt8) (w : World) (hl : len ≤ 1073741824) (hr : Reads w ao len bs) :
    Calls Tryd.prog 19 #[.slice ao len cap] w (DrawnFeed w) := by
  have H : Hd (Reads w ao len bs) := ⟨hr⟩
  clear hr
  go_enter Tryd.func19, Tryd.ntmps19
  go_wp2_with fail
  refine (l1New_any ao len cap bs _ hl (H.out.below rfl (below_lit w _))).mono ?_
  rintro e w1 ⟨rfl, hC1, hB1⟩
  have C1 : Hd (Cursor w1 (w.heap.size + 1) ao len cap bs) := ⟨by simpa using hC1⟩
  have Z1 : Hd (w1.heap[w.heap.size]? = some (.cells #[.int .i64 0, .slice none 0 0, .bool false] 30 (0, 0))) := ⟨(hB1.block _ (by simp)).trans (alloc_new w _ rfl)⟩
  have B1 : Hd (Below w.heap.size w w1) := ⟨Below.next (below_lit w _) hB1⟩
  clear hC1 hB1
  simp only [World.size_alloc]
  go_wp2_with fail
  refine (l6Any_any (w.heap.size + 1) ao len cap bs _ hl C1.out).mono ?_
  rintro e w2 ⟨cs, q, m, c, bad, ds, rfl, hm3, hLi, hq, hmc, hC2, hG2⟩
  have D2 : Hd (DF w ao len cap bs w2.heap.size cs q m c bad ds (w2.alloc (.cells #[.int .i64 cs, .slice (some ⟨q, 0, none⟩) m c, .bool bad] 30))) := ⟨hC2.below (below_lit w2 _), (alloc_old w2 _ (lt_block (grown_block hG2 Z1.out (by omega)))).trans (grown_block hG2 Z1.out (by omega)), alloc_new w2 _ rfl, hLi.below (below_lit w2 _), hm3, hmc, by have := C1.out.lt; omega, hC2.lt, Below.next (below_grows B1.out hG2 B1.out.size (by omega)) (below_lit w2 _)⟩
  generalize hd : w2.heap.size = d at *
  clear hm3 hLi hq hmc hC2 hG2 C1 Z1 B1
  go_wp2_with fail
  generalize hw4 : w2.alloc (.cells #[.int .i64 cs, .slice (some ⟨q, 0, none⟩) m c, .bool bad] 30) = w4 at *
  clear hd hw4
  obtain ⟨e0, e1, e2, _, _, _⟩ := cells3 w4 d _ _ _ _ D2.out.box
  obtain ⟨s0, s1, s2, s3, s4, s5⟩ := cells3 w4 w.heap.size _ _ _ _ D2.out.b2
  have hds : ¬ d = w.heap.size := by have := D2.out.wd; omega
  go_region_held (fun w' => w'.cell? ⟨d, 0, none⟩ = some (.int .i64 cs) ∧ w'.cell? ⟨d, 1, none⟩ = some (.slice (some ⟨q, 0, none⟩) m c) ∧ w'.cell? ⟨d, 2, none⟩ = some (.bool bad)) (first | assumption | exact ⟨e0, e1, e2⟩ | exact ⟨f0, f1, f2⟩ | exact ⟨cell_set3 f0 hds, cell_set3 f1 hds, cell_set3 f2 hds⟩) (first | (go_at_call 34; refine (l5Bytes_any cs (w.heap.size + 1) ao len cap bs _ hl D2.out.drew.cur).mono ?_; rintro e w5 ⟨q2, m2, c2, es, rfl, d1, d2, d3, d4, d5, d6⟩; have hne : d ≠ w.heap.size + 1 := (by have := D2.out.wd; omega); have f0 := grown_cell d6 (a := ⟨d, 0, none⟩) e0 hne; have f1 := grown_cell d6 (a := ⟨d, 1, none⟩) e1 hne; have f2 := grown_cell d6 (a := ⟨d, 2, none⟩) e2 hne; have Z5 := grown_block d6 D2.out.drew.b2 (by omega); obtain ⟨t0, t1, t2, t3, t4, t5⟩ := cells3 w5 w.heap.size _ _ _ _ Z5; replace Z5 : Hd _ := ⟨Z5⟩; have R : Hd _ := ⟨D2.out.drew.answer d6 d1 d2 d4 d3⟩; clear d1 d2 d3 d4 d5 d6))
  all_goals
    go_wp2_with fail
    refine bodyPost_ret (results_row_tmp rfl _ _ w.heap.size _ _ (0, 0) _ rfl (set3 _ _ _ Z5.out) Tryd.underlying30 rfl (by kernel_rfl)) rfl ?_
    exact R.out

/-- What stays through a law: nothing old has turned, the code reads as before, the tables lie in their variables. -/
structure CStays (w : World) (a0 : Option Addr) (len0 : Nat) (bs : List UInt8) (W : World) : Prop where
  below : Below w.heap.size w W
  reads : Reads W a0 len0 bs
  tabs : AllAt W
theorem CStays.start {w : World} {a0 : Option Addr} {len0 : Nat} {bs : List UInt8} (h : AllAt w) (hr : Reads w a0 len0 bs) : CStays w a0 len0 bs w := ⟨Below.refl _ _, hr, h⟩
theorem CStays.next {w : World} {a0 : Option Addr} {len0 : Nat} {bs : List UInt8} {W V : World} (h : CStays w a0 len0 bs W) (hb : Below W.heap.size W V) : CStays w a0 len0 bs V :=
  ⟨Below.next h.below hb, h.reads.below rfl hb, h.tabs.below hb⟩

theorem list_of (bs : List UInt8) : (⟨bs.toArray⟩ : ByteArray).data.toList = bs := rfl
theorem arr_of (s : ByteArray) : (⟨s.data.toList.toArray⟩ : ByteArray) = s := by
  obtain ⟨⟨l⟩⟩ := s
  rfl
theorem app_list (a b : ByteArray) : (a ++ b).data.toList = a.data.toList ++ b.data.toList := by
  rw [ByteArray.data_append, Array.toList_append]
theorem app_bytes (a b : List UInt8) : (⟨a.toArray⟩ : ByteArray) ++ (⟨b.toArray⟩ : ByteArray) = ⟨(a ++ b).toArray⟩ := by
  have h := app_list ⟨a.toArray⟩ ⟨b.toArray⟩
  rw [list_of, list_of] at h
  rw [← h, arr_of]
theorem size_of (bs : List UInt8) : (⟨bs.toArray⟩ : ByteArray).size = bs.length := by
  show bs.toArray.size = _
  rw [List.size_toArray]
theorem textI_len {cs : Int} : ∀ (k : Nat) (t : List UInt8), t.length ≤ k → (textI (itemsOf cs t)).length ≤ 4 * t.length
  | 0, t, hk => by
    obtain rfl : t = [] := List.eq_nil_of_length_eq_zero (by omega)
    rw [itemsOf_nil]; simp [textI]
  | k + 1, t, hk => by
    by_cases ht : t = []
    · subst ht; rw [itemsOf_nil]; simp [textI]
    · have hl := len_pos ht
      cases hh : hdOk cs t
      · have ih := textI_len (cs := cs) k (t.drop 1) (by simp; omega)
        have := signB_len (signI none)
        rw [itemsOf_no ht hh, textI_cons, List.length_append]
        rw [List.length_drop] at ih
        omega
      · have hf := hd_fits ht hh
        have hp := hf.pos
        have hle := hf.le
        have ih := textI_len (cs := cs) k (t.drop (hdK cs t)) (by simp; omega)
        have := signB_len (signI (some (hdN cs t)))
        rw [itemsOf_yes ht hh, textI_cons, List.length_append]
        rw [List.length_drop] at ih
        omega
theorem decS_len (cs : Int) (t : List UInt8) : (decS cs t).length ≤ 4 * t.length := by
  unfold decS
  split
  · exact textI_len t.length t (Nat.le_refl _)
  · simp
theorem decLS_len (cs : Int) (t : List UInt8) : (decLS cs t).length ≤ 4 * t.length := by
  unfold decLS
  split
  · exact textI_len t.length t (Nat.le_refl _)
  · simp
theorem signs_true {t : List UInt8} {l k : List Int} {ok : Bool} (h : SignsAre t l ok) (hs : Signed t k) : ok = true := by
  rcases h with ⟨h, _⟩ | ⟨_, _, h⟩
  · exact h
  · exact absurd ⟨k, hs⟩ h

/-- The code's byte at a place, or a number of it. -/
def atV (bs : List UInt8) (i : Nat) : Nat := if i < bs.length then (bs.getD i 0).toNat else (i * 31 + bs.length * 7) % 256
theorem atV_lt (bs : List UInt8) (i : Nat) : atV bs i < 256 := by
  unfold atV; split
  · exact (bs.getD i 0).toNat_lt
  · exact Nat.mod_lt _ (by omega)

set_option maxHeartbeats 400000 in
theorem at_in (b off len cap : Nat) (y : UInt8) (i : Nat) (w : World) (hi : (i : Int) < (len : Int)) (hc : w.cell? ⟨b, off + i, none⟩ = some (.int .u8 (y.toNat : Int))) :
    Calls Tryd.prog 11 #[.slice (some ⟨b, off, none⟩) len cap, .int .i64 (i : Int)] w fun e w' => e = .returned (.int .i64 (y.toNat : Int)) ∧ w' = w := by
  have hx : Hd (y.toNat < 256) := ⟨y.toNat_lt⟩
  have hw := cast_byte hx.out
  generalize y.toNat = x at *
  go_enter Tryd.func11, Tryd.ntmps11
  go_wp2_with fail
  go_ret
  exact ⟨ret_int hw, rfl⟩

set_option maxHeartbeats 400000 in
theorem at_out (ao : Option Addr) (len cap : Nat) (i : Nat) (w : World) (hl : len ≤ 1073741824) (h100 : i ≤ 1000) (hi : ¬ (i : Int) < (len : Int)) :
    Calls Tryd.prog 11 #[.slice ao len cap, .int .i64 (i : Int)] w fun e w' => e = .returned (.int .i64 (((i * 31 + len * 7) % 256 : Nat) : Int)) ∧ w' = w := by
  go_enter Tryd.func11, Tryd.ntmps11
  go_wp2_with fail
  go_ret
  exact ⟨ret_int (by omega), rfl⟩

theorem at_any (ao : Option Addr) (len cap : Nat) (bs : List UInt8) (i : Nat) (w : World) (hl : len ≤ 1073741824) (h100 : i ≤ 1000) (hr : Reads w ao len bs) :
    Calls Tryd.prog 11 #[.slice ao len cap, .int .i64 (i : Int)] w fun e w' => e = .returned (.int .i64 (atV bs i : Int)) ∧ w' = w := by
  by_cases hi : (i : Int) < (len : Int)
  · rcases hr.2 with h0 | ⟨b, off, rfl, hc⟩
    · omega
    · have e : atV bs i = (bs.getD i 0).toNat := by unfold atV; rw [if_pos (by rw [hr.1]; omega)]
      rw [e]
      exact at_in b off len cap _ i w hi (hc i (by omega))
  · have e : atV bs i = (i * 31 + len * 7) % 256 := by unfold atV; rw [if_neg (by rw [hr.1]; omega), hr.1]
    rw [e]
    exact at_out ao len cap i w hl h100 hi
theorem at_two (ao : Option Addr) (len cap : Nat) (bs : List UInt8) (w : World) (hl : len ≤ 1073741824) (hr : Reads w ao len bs) :
    Calls Tryd.prog 11 #[.slice ao len cap, .int .i64 2] w fun e w' => e = .returned (.int .i64 (atV bs 2 : Int)) ∧ w' = w := at_any ao len cap bs 2 w hl (by omega) hr
theorem at_three (ao : Option Addr) (len cap : Nat) (bs : List UInt8) (w : World) (hl : len ≤ 1073741824) (hr : Reads w ao len bs) :
    Calls Tryd.prog 11 #[.slice ao len cap, .int .i64 3] w fun e w' => e = .returned (.int .i64 (atV bs 3 : Int)) ∧ w' = w := at_any ao len cap bs 3 w hl (by omega) hr

end Go.Proofs.YtjbideiifoadkaaDoor
