/- Contracts of copyRow, FillRow, CutRow and BackRow, in the program. -/
import Derived.Test.YtpafjehphajbhaaGreatDoorRowI
import Derived.Test.YtpafjehphajbhaaGreatDoorRowWa
import Derived.Deep.RegionHeld3
namespace Go.Proofs.YtpafjehphajbhaaGreatDoor
set_option maxRecDepth 4000
open Go.RowKit

/-- The row's box, the result's, and the copy's, that holds what the row holds. -/
structure CBoxes (w : World) (k : ByteArray) (t1 : Int) (a1 : Option Addr) (n1 c1 : Nat) (t2 : Int) (a2 : Option Addr) (n2 c2 : Nat) (has : Int) (asd : Bool) (wx : World) : Prop where
  two : RTwo w k t1 a1 n1 c1 t2 a2 n2 c2 has asd wx
  out : wx.heap[w.heap.size + 1 + 1]? = some (.cells #[.string k, .int .i64 t1, .slice a1 n1 c1, .int .i64 t2, .slice a2 n2 c2, .int .i64 has, .bool asd] 29 (0, 0))
theorem CBoxes.below {w : World} {k : ByteArray} {t1 : Int} {a1 : Option Addr} {n1 c1 : Nat} {t2 : Int} {a2 : Option Addr} {n2 c2 : Nat} {has : Int} {asd : Bool} {wx wy : World} (h : CBoxes w k t1 a1 n1 c1 t2 a2 n2 c2 has asd wx) (hB : Below wx.heap.size wx wy) : CBoxes w k t1 a1 n1 c1 t2 a2 n2 c2 has asd wy :=
  ⟨h.two.below hB, (hB.block _ (lt_of_block h.out)).trans h.out⟩
theorem cBoxes_new (w : World) (k : ByteArray) (t1 : Int) (a1 : Option Addr) (n1 c1 : Nat) (t2 : Int) (a2 : Option Addr) (n2 c2 : Nat) (has : Int) (asd : Bool) : CBoxes w k t1 a1 n1 c1 t2 a2 n2 c2 has asd (((w.alloc (.cells #[.string k, .int .i64 t1, .slice a1 n1 c1, .int .i64 t2, .slice a2 n2 c2, .int .i64 has, .bool asd] 29)).alloc (.cells #[.string ⟨#[]⟩, .int .i64 0, .slice none 0 0, .int .i64 0, .slice none 0 0, .int .i64 0, .bool false] 29)).alloc (.cells #[.string k, .int .i64 t1, .slice a1 n1 c1, .int .i64 t2, .slice a2 n2 c2, .int .i64 has, .bool asd] 29)) :=
  ⟨(rTwo_new w k t1 a1 n1 c1 t2 a2 n2 c2 has asd).below (below_lit _ _), (laid3 w _ _ _).2.2⟩
abbrev Cells4 (d : Nat) (t1 : Int) (a1 : Option Addr) (n1 c1 : Nat) (t2 : Int) (a2 : Option Addr) (n2 c2 : Nat) (w' : World) : Prop :=
  w'.cell? ⟨d, 1, none⟩ = some (.int .i64 t1) ∧ w'.cell? ⟨d, 2, none⟩ = some (.slice a1 n1 c1) ∧ w'.cell? ⟨d, 3, none⟩ = some (.int .i64 t2) ∧ w'.cell? ⟨d, 4, none⟩ = some (.slice a2 n2 c2)
theorem Cells4.set2 {d q i j : Nat} {t1 : Int} {a1 : Option Addr} {n1 c1 : Nat} {t2 : Int} {a2 : Option Addr} {n2 c2 : Nat} {w : World} {x y : Value} (h : Cells4 d t1 a1 n1 c1 t2 a2 n2 c2 w) (hne : d ≠ q) : Cells4 d t1 a1 n1 c1 t2 a2 n2 c2 ((w.setCell ⟨q, i, none⟩ x).setCell ⟨q, j, none⟩ y) :=
  ⟨cell_set (cell_set h.1 hne) hne, cell_set (cell_set h.2.1 hne) hne, cell_set (cell_set h.2.2.1 hne) hne, cell_set (cell_set h.2.2.2 hne) hne⟩

set_option maxHeartbeats 2000000 in
theorem copyRow_any (k : ByteArray) (t1 : Int) (a1 : Option Addr) (n1 c1 : Nat) (t2 : Int) (a2 : Option Addr) (n2 c2 : Nat) (has : Int) (asd : Bool) (b1 b2 : List UInt8) (w : World) (h1 : CellAt w a1 n1 c1 b1) (h2 : CellAt w a2 n2 c2 b2) (hl1 : n1 ≤ 1048576) (hl2 : n2 ≤ 1048576) :
    Calls Tryz.prog 48 #[.agg #[.string k, .int .i64 t1, .slice a1 n1 c1, .int .i64 t2, .slice a2 n2 c2, .int .i64 has, .bool asd]] w (CopyOut w k t1 n1 b1 t2 n2 b2 has asd) := by
  have H1 : Hd (CellAt w a1 n1 c1 b1) := ⟨h1⟩
  have H2 : Hd (CellAt w a2 n2 c2 b2) := ⟨h2⟩
  have F0 : Hd (CBoxes w k t1 a1 n1 c1 t2 a2 n2 c2 has asd (((w.alloc (.cells #[.string k, .int .i64 t1, .slice a1 n1 c1, .int .i64 t2, .slice a2 n2 c2, .int .i64 has, .bool asd] 29)).alloc (.cells #[.string ⟨#[]⟩, .int .i64 0, .slice none 0 0, .int .i64 0, .slice none 0 0, .int .i64 0, .bool false] 29)).alloc (.cells #[.string k, .int .i64 t1, .slice a1 n1 c1, .int .i64 t2, .slice a2 n2 c2, .int .i64 has, .bool asd] 29))) := ⟨cBoxes_new w k t1 a1 n1 c1 t2 a2 n2 c2 has asd⟩
  clear h1 h2
  go_enter Tryz.func48, Tryz.ntmps48
  go_wp2_with fail
  generalize ((w.alloc (.cells #[.string k, .int .i64 t1, .slice a1 n1 c1, .int .i64 t2, .slice a2 n2 c2, .int .i64 has, .bool asd] 29)).alloc (.cells #[.string ⟨#[]⟩, .int .i64 0, .slice none 0 0, .int .i64 0, .slice none 0 0, .int .i64 0, .bool false] 29)).alloc (.cells #[.string k, .int .i64 t1, .slice a1 n1 c1, .int .i64 t2, .slice a2 n2 c2, .int .i64 has, .bool asd] 29) = W at *
  have KK : Hd (∀ w', Below W.heap.size W w' → Cells4 w.heap.size t1 a1 n1 c1 t2 a2 n2 c2 w') := ⟨fun w' hb => by
    have h := cells7_at (F0.out.below hb).two.box
    exact ⟨h.2.1, h.2.2.1, h.2.2.2.1, h.2.2.2.2.1⟩⟩
  have KD : Hd (Below W.heap.size W W.drew) := ⟨(Below.refl _ W).drew⟩
  obtain ⟨p1, p2, p3, p4⟩ := KK.out _ (Below.refl _ W)
  go_region_held (fun w' => w'.cell? ⟨w.heap.size, 1, none⟩ = some (.int .i64 t1) ∧ w'.cell? ⟨w.heap.size, 2, none⟩ = some (.slice a1 n1 c1) ∧ w'.cell? ⟨w.heap.size, 3, none⟩ = some (.int .i64 t2) ∧ w'.cell? ⟨w.heap.size, 4, none⟩ = some (.slice a2 n2 c2)) (first | (with_reducible refine Cells4.set2 (Cells4.set2 (KK.out _ D2.out) ?_) ?_ <;> omega) | (with_reducible refine Cells4.set2 (KK.out _ D2.out) ?_; omega) | (with_reducible exact KK.out _ D2.out) | (with_reducible exact KK.out _ D1.out) | (with_reducible exact KK.out _ KD.out))
    (first | (have G1 := D1; clear G1; go_at_call 73; refine (copyCell_o t2 a2 n2 c2 b2 _ (H2.out.below (Below.next F0.out.two.bel D1.out)) hl2).mono ?_; rintro e v2 ⟨o2, d2, rfl, hO, hs, hB⟩; have D2 : Hd (Below W.heap.size W v2) := ⟨Below.next D1.out hB⟩; have F2 : Hd (CBoxes w k t1 a1 n1 c1 t2 a2 n2 c2 has asd v2) := ⟨F0.out.below D2.out⟩; have O2 : Hd (OwnO v2 (w.heap.size + 3) o2 d2 b2 ∧ OwnO v2 (w.heap.size + 3) o1 d1 b1 ∧ ∀ q, o1 = some ⟨q, 0, none⟩ → o2 ≠ some ⟨q, 0, none⟩) := ⟨hO.mono (by have := lt_of_block F0.out.out; have := D1.out.size; omega), O1.out.below hB, fun q hq h2 => by have := ownO_lt O1.out hq; have := ownO_ge hO h2; omega⟩; obtain ⟨q0, q1, q2, q3, q4, q5, q6⟩ := cells7 v2 (w.heap.size + 1 + 1) _ _ _ _ _ _ _ _ F2.out.out; obtain ⟨u0, u1, u2, u3, u4, u5, u6⟩ := free7 v2 (w.heap.size + 1 + 1) _ _ _ _ _ _ _ _ F2.out.out; clear hO hs hB) | (go_at_call 73; refine (copyCell_o t1 a1 n1 c1 b1 _ (H1.out.below F0.out.two.bel.drew) hl1).mono ?_; rintro e v1 ⟨o1, d1, rfl, hO, hs, hB⟩; have D1 : Hd (Below W.heap.size W v1) := ⟨Below.next KD.out hB⟩; have O1 : Hd (OwnO v1 (w.heap.size + 3) o1 d1 b1) := ⟨hO.mono (by have := lt_of_block F0.out.out; show w.heap.size + 3 ≤ W.heap.size + 2; omega)⟩; clear hO hs hB))
  all_goals
    obtain ⟨r0, r1, r2, r3, r4, r5, r6⟩ := cells7 v2 (w.heap.size + 1) _ _ _ _ _ _ _ _ F2.out.two.res
    obtain ⟨s0, s1, s2, s3, s4, s5, s6⟩ := free7 v2 (w.heap.size + 1) _ _ _ _ _ _ _ _ F2.out.two.res
    go_wp2_with fail
    refine bodyPost_ret (results_cell_row rfl _ _ (w.heap.size + 1) _ _ (0, 0) _ rfl (set7 _ _ _ _ _ _ _ (block_set (block_set (block_set (block_set F2.out.two.res (by omega)) (by omega)) (by omega)) (by omega))) Tryz.underlying29 rfl (by kernel_rfl)) rfl ?_
    refine ⟨o1, d1, o2, d2, rfl, Apart.of_set7 (B := w.heap.size + 2) ?_ (by omega), by have := lt_of_block F2.out.two.res; simp at this ⊢; omega, bset7 (bset (bset (bset (bset F2.out.two.bel _ (by omega)) _ (by omega)) _ (by omega)) _ (by omega)) (by omega)⟩
    exact ⟨((((O2.out.2.1.of_set (by omega)).of_set (by omega)).of_set (by omega)).of_set (by omega)).mono (by omega), ((((O2.out.1.of_set (by omega)).of_set (by omega)).of_set (by omega)).of_set (by omega)).mono (by omega), O2.out.2.2⟩

set_option maxHeartbeats 4000000 in
theorem implFillRow_any (k : ByteArray) (t1 : Int) (a1 : Option Addr) (n1 c1 : Nat) (t2 : Int) (a2 : Option Addr) (n2 c2 : Nat) (has : Int) (asd : Bool) (b1 b2 : List UInt8) (w : World) (hk : k.size ≤ 1048576) (h1 : CellAt w a1 n1 c1 b1) (h2 : CellAt w a2 n2 c2 b2) (hl1 : n1 ≤ 1048576) (hl2 : n2 ≤ 1048576) (T : Hd (AllAt w)) :
    Calls Tryz.prog 13 #[.agg #[.string k, .int .i64 t1, .slice a1 n1 c1, .int .i64 t2, .slice a2 n2 c2, .int .i64 has, .bool asd]] w (RowOut w (fillR ⟨k, t1, b1, t2, b2, has, asd⟩)) := by
  have H1 : Hd (CellAt w a1 n1 c1 b1) := ⟨h1⟩
  have H2 : Hd (CellAt w a2 n2 c2 b2) := ⟨h2⟩
  have HN1 : Hd (b1.length = n1) := ⟨h1.size⟩
  have HN2 : Hd (b2.length = n2) := ⟨h2.size⟩
  have F0 : Hd (RTwo w k t1 a1 n1 c1 t2 a2 n2 c2 has asd ((w.alloc (.cells #[.string k, .int .i64 t1, .slice a1 n1 c1, .int .i64 t2, .slice a2 n2 c2, .int .i64 has, .bool asd] 29)).alloc (.cells #[.string ⟨#[]⟩, .int .i64 0, .slice none 0 0, .int .i64 0, .slice none 0 0, .int .i64 0, .bool false] 29))) := ⟨rTwo_new w k t1 a1 n1 c1 t2 a2 n2 c2 has asd⟩
  obtain ⟨ok, hok⟩ : ∃ x, rOk ⟨k, t1, b1, t2, b2, has, asd⟩ = x := ⟨_, rfl⟩
  have HOK : Hd (rOk ⟨k, t1, b1, t2, b2, has, asd⟩ = ok) := ⟨hok⟩
  obtain ⟨nw, hnw⟩ : ∃ x, newB has = x := ⟨_, rfl⟩
  have HNW : Hd (newB has = nw) := ⟨hnw⟩
  have EA : Hd (ok = false ∨ nw = true → fillR ⟨k, t1, b1, t2, b2, has, asd⟩ = ⟨k, t1, b1, t2, b2, has, asd⟩) := ⟨fun h => if_pos (h.imp (fun e => hok.trans e) (fun e => hnw.trans e))⟩
  have EB : Hd (ok = true → nw = false → fillR ⟨k, t1, b1, t2, b2, has, asd⟩ = (if nOk t1 b1 0 = true then (⟨k, t1, b1, 0, nB t1 b1 0, 3, asd⟩ : RowD) else ⟨k, t1, b1, t2, b2, has, true⟩)) := ⟨fun e1 e2 => if_neg (fun h => h.elim (fun h => by rw [hok, e1] at h; cases h) (fun h => by have h : newB has = true := h; rw [hnw, e2] at h; cases h))⟩
  obtain ⟨tg, hT⟩ : ∃ x, nTag t1 b1 0 = x := ⟨_, rfl⟩
  have HT : Hd (nTag t1 b1 0 = tg) := ⟨hT⟩
  obtain ⟨ys, hys⟩ : ∃ x, nB t1 b1 0 = x := ⟨_, rfl⟩
  have HY : Hd (nB t1 b1 0 = ys) := ⟨hys⟩
  obtain ⟨tk, htk⟩ : ∃ x, nOk t1 b1 0 = x := ⟨_, rfl⟩
  have HTK : Hd (nOk t1 b1 0 = tk) := ⟨htk⟩
  have HT0 : Hd (tk = true → tg = 0) := ⟨fun e => by rw [← hT]; exact (nOk_t (htk.trans e)).2.2.1⟩
  clear hT hys htk
  clear h1 h2 hok hnw
  go_enter Tryz.func13, Tryz.ntmps13
  go_wp2_with fail
  refine (copyRow_any k t1 a1 n1 c1 t2 a2 n2 c2 has asd b1 b2 _ (H1.out.below F0.out.bel) (H2.out.below F0.out.bel) hl1 hl2).mono ?_
  rintro e v1 ⟨x1, y1, x2, y2, rfl, hA, _, hB⟩
  have W1 : Hd (KW w k t1 a1 n1 c1 t2 a2 n2 c2 has asd v1.heap.size k t1 x1 n1 y1 b1 t2 x2 n2 y2 b2 has asd (v1.alloc (.cells #[.string k, .int .i64 t1, .slice x1 n1 y1, .int .i64 t2, .slice x2 n2 y2, .int .i64 has, .bool asd] 29))) := ⟨kw_new (F0.out.below hB) (hA.mono (by simp)) HN1.out HN2.out⟩
  obtain ⟨p0, p1, p2, p3, p4, p5, p6⟩ := cells7 _ w.heap.size _ _ _ _ _ _ _ _ W1.out.two.box
  generalize hd : v1.heap.size = d at *
  clear hA hB F0
  go_wp2_with fail
  generalize hw : (v1.alloc (.cells #[.string k, .int .i64 t1, .slice x1 n1 y1, .int .i64 t2, .slice x2 n2 y2, .int .i64 has, .bool asd] 29)) = V1 at *
  clear hd hw
  refine (implRowOk_any k t1 a1 n1 c1 t2 a2 n2 c2 has asd b1 b2 _ hk (H1.out.below W1.out.two.bel) (H2.out.below W1.out.two.bel) hl1 hl2 ⟨T.out.below W1.out.two.bel⟩).mono ?_
  rintro e v2 ⟨rfl, hB⟩
  rewrite [HOK.out]
  have W2 : Hd (KW w k t1 a1 n1 c1 t2 a2 n2 c2 has asd d k t1 x1 n1 y1 b1 t2 x2 n2 y2 b2 has asd v2) := ⟨W1.out.below hB⟩
  clear hB p0 p1 p2 p3 p4 p5 p6 W1
  cases ok with
  | false =>
    obtain ⟨q0, q1, q2, q3, q4, q5, q6⟩ := cells7 _ d _ _ _ _ _ _ _ _ W2.out.out
    obtain ⟨u0, u1, u2, u3, u4, u5, u6⟩ := free7 _ d _ _ _ _ _ _ _ _ W2.out.out
    obtain ⟨r0, r1, r2, r3, r4, r5, r6⟩ := cells7 _ (w.heap.size + 1) _ _ _ _ _ _ _ _ W2.out.two.res
    obtain ⟨s0, s1, s2, s3, s4, s5, s6⟩ := free7 _ (w.heap.size + 1) _ _ _ _ _ _ _ _ W2.out.two.res
    have hd1 : ¬ w.heap.size + 1 = d := by have := W2.out.wd; omega
    have hd2 : ¬ d = w.heap.size + 1 := by have := W2.out.wd; omega
    have hd3 : ¬ w.heap.size = d := by have := W2.out.wd; omega
    go_wp2_with fail
    refine bodyPost_ret (results_cell_row rfl _ _ (w.heap.size + 1) _ _ (0, 0) _ rfl (set7 _ _ _ _ _ _ _ W2.out.two.res) Tryz.underlying29 rfl (by kernel_rfl)) rfl ?_
    rw [EA.out (by simp)]
    exact W2.out.done
  | true =>
    obtain ⟨p0, p1, p2, p3, p4, p5, p6⟩ := cells7 _ w.heap.size _ _ _ _ _ _ _ _ W2.out.two.box
    have hb2 : bits .and .i64 has 2 = if nw then 2 else 0 := by
      have h9 := HNW.out
      cases nw with
      | true => simpa [newB] using h9
      | false =>
        rcases and_two has with h | h
        · rw [newB, h] at h9; cases h9
        · exact h
    cases nw with
    | true =>
      obtain ⟨q0, q1, q2, q3, q4, q5, q6⟩ := cells7 _ d _ _ _ _ _ _ _ _ W2.out.out
      obtain ⟨u0, u1, u2, u3, u4, u5, u6⟩ := free7 _ d _ _ _ _ _ _ _ _ W2.out.out
      obtain ⟨r0, r1, r2, r3, r4, r5, r6⟩ := cells7 _ (w.heap.size + 1) _ _ _ _ _ _ _ _ W2.out.two.res
      obtain ⟨s0, s1, s2, s3, s4, s5, s6⟩ := free7 _ (w.heap.size + 1) _ _ _ _ _ _ _ _ W2.out.two.res
      have hd1 : ¬ w.heap.size + 1 = d := by have := W2.out.wd; omega
      have hd2 : ¬ d = w.heap.size + 1 := by have := W2.out.wd; omega
      have hd3 : ¬ w.heap.size = d := by have := W2.out.wd; omega
      go_wp2_with fail
      refine bodyPost_ret (results_cell_row rfl _ _ (w.heap.size + 1) _ _ (0, 0) _ rfl (set7 _ _ _ _ _ _ _ W2.out.two.res) Tryz.underlying29 rfl (by kernel_rfl)) rfl ?_
      rw [EA.out (by simp)]
      exact W2.out.done
    | false =>
      obtain ⟨p0, p1, p2, p3, p4, p5, p6⟩ := cells7 _ w.heap.size _ _ _ _ _ _ _ _ W2.out.two.box
      go_wp2_with fail
      refine (implTurn_any t1 a1 n1 c1 b1 0 _ (H1.out.below W2.out.two.bel) hl1 ⟨T.out.below W2.out.two.bel⟩).mono ?_
      rewrite [HT.out, HY.out, HTK.out]
      rintro e v4 ⟨ao, n4, c4, rfl, hn4, hO4, _, hB⟩
      have W4 : Hd (KW w k t1 a1 n1 c1 t2 a2 n2 c2 has asd d k t1 x1 n1 y1 b1 t2 x2 n2 y2 b2 has asd (v4.alloc (.cells #[.int .i64 tg, .slice ao n4 c4] 27))) := ⟨(W2.out.below hB).below (below_lit v4 _)⟩
      have O4 : Hd (OwnO (v4.alloc (.cells #[.int .i64 tg, .slice ao n4 c4] 27)) (w.heap.size + 2) ao c4 ys) := ⟨(hO4.below (below_lit v4 _)).mono (by have := lt_of_block W2.out.two.res; omega)⟩
      have N4 : Hd (ys.length = n4) := ⟨hn4⟩
      have X4 : Hd (∀ q, ao = some ⟨q, 0, none⟩ → q ≠ d) := ⟨fun q hq => by have := ownO_ge hO4 hq; have := lt_of_block W2.out.out; omega⟩
      have Y4 : Hd (∀ q, x1 = some ⟨q, 0, none⟩ → ao ≠ some ⟨q, 0, none⟩) := ⟨fun q hq h4 => by have := ownO_ge hO4 h4; have := ownO_lt W2.out.ap.one hq; omega⟩
      obtain ⟨j0, j1, _, _⟩ := cells2 (v4.alloc (.cells #[.int .i64 tg, .slice ao n4 c4] 27)) v4.heap.size _ _ _ (alloc_new v4 _ rfl)
      have hd4 : ¬ d = v4.heap.size := by have := lt_of_block W2.out.out; have := hB.size; omega
      have hd5 : ¬ v4.heap.size = d := fun h => hd4 h.symm
      have hd6 : ¬ w.heap.size + 1 = v4.heap.size := by have := lt_of_block W2.out.two.res; have := hB.size; omega
      generalize hv : v4.heap.size = d4 at *
      clear hB hO4 hn4 p0 p1 p2 p3 p4 p5 p6 W2
      cases tk with
      | false =>
        have hf := EB.out (by simp) (by simp)
        rewrite [if_neg (by rw [HTK.out]; simp)] at hf
        have HF : Hd _ := ⟨hf⟩
        clear hf
        obtain ⟨q0, q1, q2, q3, q4, q5, q6⟩ := cells7 _ d _ _ _ _ _ _ _ _ W4.out.out
        obtain ⟨u0, u1, u2, u3, u4, u5, u6⟩ := free7 _ d _ _ _ _ _ _ _ _ W4.out.out
        obtain ⟨r0, r1, r2, r3, r4, r5, r6⟩ := cells7 _ (w.heap.size + 1) _ _ _ _ _ _ _ _ W4.out.two.res
        obtain ⟨s0, s1, s2, s3, s4, s5, s6⟩ := free7 _ (w.heap.size + 1) _ _ _ _ _ _ _ _ W4.out.two.res
        have hd1 : ¬ w.heap.size + 1 = d := by have := W4.out.wd; omega
        have hd2 : ¬ d = w.heap.size + 1 := by have := W4.out.wd; omega
        have hd3 : ¬ w.heap.size = d := by have := W4.out.wd; omega
        have W5 : Hd (KW w k t1 a1 n1 c1 t2 a2 n2 c2 has asd d k t1 x1 n1 y1 b1 t2 x2 n2 y2 b2 has true ((v4.alloc (.cells #[.int .i64 tg, .slice ao n4 c4] 27)).setCell ⟨d, 6, none⟩ (.bool true))) := ⟨W4.out.setAside true⟩
        go_wp2_with fail
        refine bodyPost_ret (results_cell_row rfl _ _ (w.heap.size + 1) _ _ (0, 0) _ rfl (set7 _ _ _ _ _ _ _ W5.out.two.res) Tryz.underlying29 rfl (by kernel_rfl)) rfl ?_
        rw [HF.out]
        exact W5.out.done
      | true =>
        have hf := EB.out (by simp) (by simp)
        rewrite [if_pos HTK.out, HY.out] at hf
        have HF : Hd _ := ⟨hf⟩
        have hT0 := HT0.out rfl
        subst hT0
        clear hf
        obtain ⟨q0, q1, q2, q3, q4, q5, q6⟩ := cells7 _ d _ _ _ _ _ _ _ _ W4.out.out
        obtain ⟨u0, u1, u2, u3, u4, u5, u6⟩ := free7 _ d _ _ _ _ _ _ _ _ W4.out.out
        obtain ⟨r0, r1, r2, r3, r4, r5, r6⟩ := cells7 _ (w.heap.size + 1) _ _ _ _ _ _ _ _ W4.out.two.res
        obtain ⟨s0, s1, s2, s3, s4, s5, s6⟩ := free7 _ (w.heap.size + 1) _ _ _ _ _ _ _ _ W4.out.two.res
        have hd1 : ¬ w.heap.size + 1 = d := by have := W4.out.wd; omega
        have hd2 : ¬ d = w.heap.size + 1 := by have := W4.out.wd; omega
        have hd3 : ¬ w.heap.size = d := by have := W4.out.wd; omega
        have W5 : Hd (KW w k t1 a1 n1 c1 t2 a2 n2 c2 has asd d k t1 x1 n1 y1 b1 0 ao n4 c4 ys 3 asd ((((v4.alloc (.cells #[.int .i64 0, .slice ao n4 c4] 27)).setCell ⟨d, 3, none⟩ (.int .i64 0)).setCell ⟨d, 4, none⟩ (.slice ao n4 c4)).setCell ⟨d, 5, none⟩ (.int .i64 3))) := ⟨((W4.out.setT2 0).setB2 (ownO_far O4.out X4.out) N4.out X4.out Y4.out).setHas 3⟩
        go_wp2_with fail
        refine bodyPost_ret (results_cell_row rfl _ _ (w.heap.size + 1) _ _ (0, 0) _ rfl (set7 _ _ _ _ _ _ _ W5.out.two.res) Tryz.underlying29 rfl (by kernel_rfl)) rfl ?_
        rw [HF.out]
        exact W5.out.done

set_option maxHeartbeats 4000000 in
theorem implCutRow_any (k : ByteArray) (t1 : Int) (a1 : Option Addr) (n1 c1 : Nat) (t2 : Int) (a2 : Option Addr) (n2 c2 : Nat) (has : Int) (asd : Bool) (b1 b2 : List UInt8) (w : World) (hk : k.size ≤ 1048576) (h1 : CellAt w a1 n1 c1 b1) (h2 : CellAt w a2 n2 c2 b2) (hl1 : n1 ≤ 1048576) (hl2 : n2 ≤ 1048576) (T : Hd (AllAt w)) :
    Calls Tryz.prog 14 #[.agg #[.string k, .int .i64 t1, .slice a1 n1 c1, .int .i64 t2, .slice a2 n2 c2, .int .i64 has, .bool asd]] w (RowOut w (cutR ⟨k, t1, b1, t2, b2, has, asd⟩)) := by
  have H1 : Hd (CellAt w a1 n1 c1 b1) := ⟨h1⟩
  have H2 : Hd (CellAt w a2 n2 c2 b2) := ⟨h2⟩
  have HN1 : Hd (b1.length = n1) := ⟨h1.size⟩
  have HN2 : Hd (b2.length = n2) := ⟨h2.size⟩
  have F0 : Hd (RTwo w k t1 a1 n1 c1 t2 a2 n2 c2 has asd ((w.alloc (.cells #[.string k, .int .i64 t1, .slice a1 n1 c1, .int .i64 t2, .slice a2 n2 c2, .int .i64 has, .bool asd] 29)).alloc (.cells #[.string ⟨#[]⟩, .int .i64 0, .slice none 0 0, .int .i64 0, .slice none 0 0, .int .i64 0, .bool false] 29))) := ⟨rTwo_new w k t1 a1 n1 c1 t2 a2 n2 c2 has asd⟩
  obtain ⟨ok, hok⟩ : ∃ x, rOk ⟨k, t1, b1, t2, b2, has, asd⟩ = x := ⟨_, rfl⟩
  have HOK : Hd (rOk ⟨k, t1, b1, t2, b2, has, asd⟩ = ok) := ⟨hok⟩
  obtain ⟨nw, hnw⟩ : ∃ x, newB has = x := ⟨_, rfl⟩
  have HNW : Hd (newB has = nw) := ⟨hnw⟩
  have EA : Hd (ok = false ∨ nw = false → cutR ⟨k, t1, b1, t2, b2, has, asd⟩ = ⟨k, t1, b1, t2, b2, has, asd⟩) := ⟨fun h => if_pos (h.imp (fun e => hok.trans e) (fun e => hnw.trans e))⟩
  have EB : Hd (ok = true → nw = true → cutR ⟨k, t1, b1, t2, b2, has, asd⟩ = ⟨k, 0, [], t2, b2, 2, false⟩) := ⟨fun e1 e2 => if_neg (fun h => h.elim (fun h => by rw [hok, e1] at h; cases h) (fun h => by have h : newB has = false := h; rw [hnw, e2] at h; cases h))⟩
  
  clear h1 h2 hok hnw
  go_enter Tryz.func14, Tryz.ntmps14
  go_wp2_with fail
  refine (copyRow_any k t1 a1 n1 c1 t2 a2 n2 c2 has asd b1 b2 _ (H1.out.below F0.out.bel) (H2.out.below F0.out.bel) hl1 hl2).mono ?_
  rintro e v1 ⟨x1, y1, x2, y2, rfl, hA, _, hB⟩
  have W1 : Hd (KW w k t1 a1 n1 c1 t2 a2 n2 c2 has asd v1.heap.size k t1 x1 n1 y1 b1 t2 x2 n2 y2 b2 has asd (v1.alloc (.cells #[.string k, .int .i64 t1, .slice x1 n1 y1, .int .i64 t2, .slice x2 n2 y2, .int .i64 has, .bool asd] 29))) := ⟨kw_new (F0.out.below hB) (hA.mono (by simp)) HN1.out HN2.out⟩
  obtain ⟨p0, p1, p2, p3, p4, p5, p6⟩ := cells7 _ w.heap.size _ _ _ _ _ _ _ _ W1.out.two.box
  generalize hd : v1.heap.size = d at *
  clear hA hB F0
  go_wp2_with fail
  generalize hw : (v1.alloc (.cells #[.string k, .int .i64 t1, .slice x1 n1 y1, .int .i64 t2, .slice x2 n2 y2, .int .i64 has, .bool asd] 29)) = V1 at *
  clear hd hw
  refine (implRowOk_any k t1 a1 n1 c1 t2 a2 n2 c2 has asd b1 b2 _ hk (H1.out.below W1.out.two.bel) (H2.out.below W1.out.two.bel) hl1 hl2 ⟨T.out.below W1.out.two.bel⟩).mono ?_
  rintro e v2 ⟨rfl, hB⟩
  rewrite [HOK.out]
  have W2 : Hd (KW w k t1 a1 n1 c1 t2 a2 n2 c2 has asd d k t1 x1 n1 y1 b1 t2 x2 n2 y2 b2 has asd v2) := ⟨W1.out.below hB⟩
  clear hB p0 p1 p2 p3 p4 p5 p6 W1
  cases ok with
  | false =>
    obtain ⟨q0, q1, q2, q3, q4, q5, q6⟩ := cells7 _ d _ _ _ _ _ _ _ _ W2.out.out
    obtain ⟨u0, u1, u2, u3, u4, u5, u6⟩ := free7 _ d _ _ _ _ _ _ _ _ W2.out.out
    obtain ⟨r0, r1, r2, r3, r4, r5, r6⟩ := cells7 _ (w.heap.size + 1) _ _ _ _ _ _ _ _ W2.out.two.res
    obtain ⟨s0, s1, s2, s3, s4, s5, s6⟩ := free7 _ (w.heap.size + 1) _ _ _ _ _ _ _ _ W2.out.two.res
    have hd1 : ¬ w.heap.size + 1 = d := by have := W2.out.wd; omega
    have hd2 : ¬ d = w.heap.size + 1 := by have := W2.out.wd; omega
    have hd3 : ¬ w.heap.size = d := by have := W2.out.wd; omega
    go_wp2_with fail
    refine bodyPost_ret (results_cell_row rfl _ _ (w.heap.size + 1) _ _ (0, 0) _ rfl (set7 _ _ _ _ _ _ _ W2.out.two.res) Tryz.underlying29 rfl (by kernel_rfl)) rfl ?_
    rw [EA.out (by simp)]
    exact W2.out.done
  | true =>
    obtain ⟨p0, p1, p2, p3, p4, p5, p6⟩ := cells7 _ w.heap.size _ _ _ _ _ _ _ _ W2.out.two.box
    have hb2 : bits .and .i64 has 2 = if nw then 2 else 0 := by
      have h9 := HNW.out
      cases nw with
      | true => simpa [newB] using h9
      | false =>
        rcases and_two has with h | h
        · rw [newB, h] at h9; cases h9
        · exact h
    cases nw with
    | false =>
      obtain ⟨q0, q1, q2, q3, q4, q5, q6⟩ := cells7 _ d _ _ _ _ _ _ _ _ W2.out.out
      obtain ⟨u0, u1, u2, u3, u4, u5, u6⟩ := free7 _ d _ _ _ _ _ _ _ _ W2.out.out
      obtain ⟨r0, r1, r2, r3, r4, r5, r6⟩ := cells7 _ (w.heap.size + 1) _ _ _ _ _ _ _ _ W2.out.two.res
      obtain ⟨s0, s1, s2, s3, s4, s5, s6⟩ := free7 _ (w.heap.size + 1) _ _ _ _ _ _ _ _ W2.out.two.res
      have hd1 : ¬ w.heap.size + 1 = d := by have := W2.out.wd; omega
      have hd2 : ¬ d = w.heap.size + 1 := by have := W2.out.wd; omega
      have hd3 : ¬ w.heap.size = d := by have := W2.out.wd; omega
      go_wp2_with fail
      refine bodyPost_ret (results_cell_row rfl _ _ (w.heap.size + 1) _ _ (0, 0) _ rfl (set7 _ _ _ _ _ _ _ W2.out.two.res) Tryz.underlying29 rfl (by kernel_rfl)) rfl ?_
      rw [EA.out (by simp)]
      exact W2.out.done
    | true =>
      obtain ⟨q0, q1, q2, q3, q4, q5, q6⟩ := cells7 _ d _ _ _ _ _ _ _ _ W2.out.out
      obtain ⟨u0, u1, u2, u3, u4, u5, u6⟩ := free7 _ d _ _ _ _ _ _ _ _ W2.out.out
      obtain ⟨r0, r1, r2, r3, r4, r5, r6⟩ := cells7 _ (w.heap.size + 1) _ _ _ _ _ _ _ _ W2.out.two.res
      obtain ⟨s0, s1, s2, s3, s4, s5, s6⟩ := free7 _ (w.heap.size + 1) _ _ _ _ _ _ _ _ W2.out.two.res
      have hd1 : ¬ w.heap.size + 1 = d := by have := W2.out.wd; omega
      have hd2 : ¬ d = w.heap.size + 1 := by have := W2.out.wd; omega
      have hd3 : ¬ w.heap.size = d := by have := W2.out.wd; omega
      have W5 : Hd (KW w k t1 a1 n1 c1 t2 a2 n2 c2 has asd d k 0 none 0 0 [] t2 x2 n2 y2 b2 2 false ((((v2.setCell ⟨d, 1, none⟩ (.int .i64 0)).setCell ⟨d, 2, none⟩ (.slice none 0 0)).setCell ⟨d, 5, none⟩ (.int .i64 2)).setCell ⟨d, 6, none⟩ (.bool false))) := ⟨(W2.out.noOld.setHas 2).setAside false⟩
      go_wp2_with fail
      refine bodyPost_ret (results_cell_row rfl _ _ (w.heap.size + 1) _ _ (0, 0) _ rfl (set7 _ _ _ _ _ _ _ W5.out.two.res) Tryz.underlying29 rfl (by kernel_rfl)) rfl ?_
      rw [EB.out (by simp) (by simp)]
      exact W5.out.done

set_option maxHeartbeats 4000000 in
theorem implBackRow_any (k : ByteArray) (t1 : Int) (a1 : Option Addr) (n1 c1 : Nat) (t2 : Int) (a2 : Option Addr) (n2 c2 : Nat) (has : Int) (asd : Bool) (b1 b2 : List UInt8) (w : World) (hk : k.size ≤ 1048576) (h1 : CellAt w a1 n1 c1 b1) (h2 : CellAt w a2 n2 c2 b2) (hl1 : n1 ≤ 1048576) (hl2 : n2 ≤ 1048576) (T : Hd (AllAt w)) :
    Calls Tryz.prog 15 #[.agg #[.string k, .int .i64 t1, .slice a1 n1 c1, .int .i64 t2, .slice a2 n2 c2, .int .i64 has, .bool asd]] w (RowOut w (backR ⟨k, t1, b1, t2, b2, has, asd⟩)) := by
  have H1 : Hd (CellAt w a1 n1 c1 b1) := ⟨h1⟩
  have H2 : Hd (CellAt w a2 n2 c2 b2) := ⟨h2⟩
  have HN1 : Hd (b1.length = n1) := ⟨h1.size⟩
  have HN2 : Hd (b2.length = n2) := ⟨h2.size⟩
  have F0 : Hd (RTwo w k t1 a1 n1 c1 t2 a2 n2 c2 has asd ((w.alloc (.cells #[.string k, .int .i64 t1, .slice a1 n1 c1, .int .i64 t2, .slice a2 n2 c2, .int .i64 has, .bool asd] 29)).alloc (.cells #[.string ⟨#[]⟩, .int .i64 0, .slice none 0 0, .int .i64 0, .slice none 0 0, .int .i64 0, .bool false] 29))) := ⟨rTwo_new w k t1 a1 n1 c1 t2 a2 n2 c2 has asd⟩
  obtain ⟨ok, hok⟩ : ∃ x, rOk ⟨k, t1, b1, t2, b2, has, asd⟩ = x := ⟨_, rfl⟩
  have HOK : Hd (rOk ⟨k, t1, b1, t2, b2, has, asd⟩ = ok) := ⟨hok⟩
  obtain ⟨nw, hnw⟩ : ∃ x, newB has = x := ⟨_, rfl⟩
  have HNW : Hd (newB has = nw) := ⟨hnw⟩
  have EA : Hd (ok = false ∨ nw = false → backR ⟨k, t1, b1, t2, b2, has, asd⟩ = ⟨k, t1, b1, t2, b2, has, asd⟩) := ⟨fun h => if_pos (h.imp (fun e => hok.trans e) (fun e => hnw.trans e))⟩
  have EB : Hd (ok = true → nw = true → oldB has = true → backR ⟨k, t1, b1, t2, b2, has, asd⟩ = ⟨k, t1, b1, 0, [], 1, false⟩) := ⟨fun e1 e2 e3 => (if_neg (fun h => h.elim (fun h => by rw [hok, e1] at h; cases h) (fun h => by have h : newB has = false := h; rw [hnw, e2] at h; cases h))).trans (if_pos e3)⟩
  have EC : Hd (ok = true → nw = true → oldB has = false → backR ⟨k, t1, b1, t2, b2, has, asd⟩ = ⟨k, t1, b1, t2, b2, has, true⟩) := ⟨fun e1 e2 e3 => (if_neg (fun h => h.elim (fun h => by rw [hok, e1] at h; cases h) (fun h => by have h : newB has = false := h; rw [hnw, e2] at h; cases h))).trans (if_neg (by show ¬ oldB has = true; rw [e3]; simp))⟩
  have HH : Hd (ok = true → has = 1 ∨ has = 2 ∨ has = 3) := ⟨fun e => by
    have h9 := hok.trans e
    simp only [rOk, Bool.and_eq_true] at h9
    exact has_cases h9.1.1.1.1.1.1.2⟩
  clear h1 h2 hok hnw
  go_enter Tryz.func15, Tryz.ntmps15
  go_wp2_with fail
  refine (copyRow_any k t1 a1 n1 c1 t2 a2 n2 c2 has asd b1 b2 _ (H1.out.below F0.out.bel) (H2.out.below F0.out.bel) hl1 hl2).mono ?_
  rintro e v1 ⟨x1, y1, x2, y2, rfl, hA, _, hB⟩
  have W1 : Hd (KW w k t1 a1 n1 c1 t2 a2 n2 c2 has asd v1.heap.size k t1 x1 n1 y1 b1 t2 x2 n2 y2 b2 has asd (v1.alloc (.cells #[.string k, .int .i64 t1, .slice x1 n1 y1, .int .i64 t2, .slice x2 n2 y2, .int .i64 has, .bool asd] 29))) := ⟨kw_new (F0.out.below hB) (hA.mono (by simp)) HN1.out HN2.out⟩
  obtain ⟨p0, p1, p2, p3, p4, p5, p6⟩ := cells7 _ w.heap.size _ _ _ _ _ _ _ _ W1.out.two.box
  generalize hd : v1.heap.size = d at *
  clear hA hB F0
  go_wp2_with fail
  generalize hw : (v1.alloc (.cells #[.string k, .int .i64 t1, .slice x1 n1 y1, .int .i64 t2, .slice x2 n2 y2, .int .i64 has, .bool asd] 29)) = V1 at *
  clear hd hw
  refine (implRowOk_any k t1 a1 n1 c1 t2 a2 n2 c2 has asd b1 b2 _ hk (H1.out.below W1.out.two.bel) (H2.out.below W1.out.two.bel) hl1 hl2 ⟨T.out.below W1.out.two.bel⟩).mono ?_
  rintro e v2 ⟨rfl, hB⟩
  rewrite [HOK.out]
  have W2 : Hd (KW w k t1 a1 n1 c1 t2 a2 n2 c2 has asd d k t1 x1 n1 y1 b1 t2 x2 n2 y2 b2 has asd v2) := ⟨W1.out.below hB⟩
  clear hB p0 p1 p2 p3 p4 p5 p6 W1
  cases ok with
  | false =>
    obtain ⟨q0, q1, q2, q3, q4, q5, q6⟩ := cells7 _ d _ _ _ _ _ _ _ _ W2.out.out
    obtain ⟨u0, u1, u2, u3, u4, u5, u6⟩ := free7 _ d _ _ _ _ _ _ _ _ W2.out.out
    obtain ⟨r0, r1, r2, r3, r4, r5, r6⟩ := cells7 _ (w.heap.size + 1) _ _ _ _ _ _ _ _ W2.out.two.res
    obtain ⟨s0, s1, s2, s3, s4, s5, s6⟩ := free7 _ (w.heap.size + 1) _ _ _ _ _ _ _ _ W2.out.two.res
    have hd1 : ¬ w.heap.size + 1 = d := by have := W2.out.wd; omega
    have hd2 : ¬ d = w.heap.size + 1 := by have := W2.out.wd; omega
    have hd3 : ¬ w.heap.size = d := by have := W2.out.wd; omega
    go_wp2_with fail
    refine bodyPost_ret (results_cell_row rfl _ _ (w.heap.size + 1) _ _ (0, 0) _ rfl (set7 _ _ _ _ _ _ _ W2.out.two.res) Tryz.underlying29 rfl (by kernel_rfl)) rfl ?_
    rw [EA.out (by simp)]
    exact W2.out.done
  | true =>
    rcases HH.out rfl with rfl | rfl | rfl
    · have e1 : nw = false := HNW.out.symm.trans has_one.2
      subst e1
      obtain ⟨p0, p1, p2, p3, p4, p5, p6⟩ := cells7 _ w.heap.size _ _ _ _ _ _ _ _ W2.out.two.box
      obtain ⟨q0, q1, q2, q3, q4, q5, q6⟩ := cells7 _ d _ _ _ _ _ _ _ _ W2.out.out
      obtain ⟨u0, u1, u2, u3, u4, u5, u6⟩ := free7 _ d _ _ _ _ _ _ _ _ W2.out.out
      obtain ⟨r0, r1, r2, r3, r4, r5, r6⟩ := cells7 _ (w.heap.size + 1) _ _ _ _ _ _ _ _ W2.out.two.res
      obtain ⟨s0, s1, s2, s3, s4, s5, s6⟩ := free7 _ (w.heap.size + 1) _ _ _ _ _ _ _ _ W2.out.two.res
      have hd1 : ¬ w.heap.size + 1 = d := by have := W2.out.wd; omega
      have hd2 : ¬ d = w.heap.size + 1 := by have := W2.out.wd; omega
      have hd3 : ¬ w.heap.size = d := by have := W2.out.wd; omega
      go_wp2_with fail
      refine bodyPost_ret (results_cell_row rfl _ _ (w.heap.size + 1) _ _ (0, 0) _ rfl (set7 _ _ _ _ _ _ _ W2.out.two.res) Tryz.underlying29 rfl (by kernel_rfl)) rfl ?_
      rw [EA.out (by simp)]
      exact W2.out.done
    · have e1 : nw = true := HNW.out.symm.trans has_two.2
      subst e1
      obtain ⟨p0, p1, p2, p3, p4, p5, p6⟩ := cells7 _ w.heap.size _ _ _ _ _ _ _ _ W2.out.two.box
      obtain ⟨q0, q1, q2, q3, q4, q5, q6⟩ := cells7 _ d _ _ _ _ _ _ _ _ W2.out.out
      obtain ⟨u0, u1, u2, u3, u4, u5, u6⟩ := free7 _ d _ _ _ _ _ _ _ _ W2.out.out
      obtain ⟨r0, r1, r2, r3, r4, r5, r6⟩ := cells7 _ (w.heap.size + 1) _ _ _ _ _ _ _ _ W2.out.two.res
      obtain ⟨s0, s1, s2, s3, s4, s5, s6⟩ := free7 _ (w.heap.size + 1) _ _ _ _ _ _ _ _ W2.out.two.res
      have hd1 : ¬ w.heap.size + 1 = d := by have := W2.out.wd; omega
      have hd2 : ¬ d = w.heap.size + 1 := by have := W2.out.wd; omega
      have hd3 : ¬ w.heap.size = d := by have := W2.out.wd; omega
      have W5 : Hd (KW w k t1 a1 n1 c1 t2 a2 n2 c2 2 asd d k t1 x1 n1 y1 b1 t2 x2 n2 y2 b2 2 true (v2.setCell ⟨d, 6, none⟩ (.bool true))) := ⟨W2.out.setAside true⟩
      go_wp2_with fail
      refine bodyPost_ret (results_cell_row rfl _ _ (w.heap.size + 1) _ _ (0, 0) _ rfl (set7 _ _ _ _ _ _ _ W5.out.two.res) Tryz.underlying29 rfl (by kernel_rfl)) rfl ?_
      rw [EC.out (by simp) (by simp) has_two.1]
      exact W5.out.done
    · have e1 : nw = true := HNW.out.symm.trans has_three.2
      subst e1
      obtain ⟨p0, p1, p2, p3, p4, p5, p6⟩ := cells7 _ w.heap.size _ _ _ _ _ _ _ _ W2.out.two.box
      obtain ⟨q0, q1, q2, q3, q4, q5, q6⟩ := cells7 _ d _ _ _ _ _ _ _ _ W2.out.out
      obtain ⟨u0, u1, u2, u3, u4, u5, u6⟩ := free7 _ d _ _ _ _ _ _ _ _ W2.out.out
      obtain ⟨r0, r1, r2, r3, r4, r5, r6⟩ := cells7 _ (w.heap.size + 1) _ _ _ _ _ _ _ _ W2.out.two.res
      obtain ⟨s0, s1, s2, s3, s4, s5, s6⟩ := free7 _ (w.heap.size + 1) _ _ _ _ _ _ _ _ W2.out.two.res
      have hd1 : ¬ w.heap.size + 1 = d := by have := W2.out.wd; omega
      have hd2 : ¬ d = w.heap.size + 1 := by have := W2.out.wd; omega
      have hd3 : ¬ w.heap.size = d := by have := W2.out.wd; omega
      have W5 : Hd (KW w k t1 a1 n1 c1 t2 a2 n2 c2 3 asd d k t1 x1 n1 y1 b1 0 none 0 0 [] 1 false ((((v2.setCell ⟨d, 3, none⟩ (.int .i64 0)).setCell ⟨d, 4, none⟩ (.slice none 0 0)).setCell ⟨d, 5, none⟩ (.int .i64 1)).setCell ⟨d, 6, none⟩ (.bool false))) := ⟨(W2.out.noNew.setHas 1).setAside false⟩
      go_wp2_with fail
      refine bodyPost_ret (results_cell_row rfl _ _ (w.heap.size + 1) _ _ (0, 0) _ rfl (set7 _ _ _ _ _ _ _ W5.out.two.res) Tryz.underlying29 rfl (by kernel_rfl)) rfl ?_
      rw [EB.out (by simp) (by simp) has_three.1]
      exact W5.out.done

end Go.Proofs.YtpafjehphajbhaaGreatDoor
