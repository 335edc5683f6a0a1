/- Contracts of FillRow, CutRow and BackRow, in the specification. -/
import Derived.Test.YtpafjehphajbhaaGreatDoorRowWa
namespace Go.Proofs.YtpafjehphajbhaaGreatDoor
set_option maxRecDepth 4000
open Go.RowKit

set_option maxHeartbeats 4000000 in
theorem specFillRow_any (k : ByteArray) (t1 : Int) (a1 : Option Addr) (n1 c1 : Nat) (t2 : Int) (a2 : Option Addr) (n2 c2 : Nat) (has : Int) (asd : Bool) (b1 b2 : List UInt8) (w : World) (hk : k.size ≤ 1048576) (h1 : CellAt w a1 n1 c1 b1) (h2 : CellAt w a2 n2 c2 b2) (hl1 : n1 ≤ 1048576) (hl2 : n2 ≤ 1048576) :
    Calls Tryz.prog 22 #[.agg #[.string k, .int .i64 t1, .slice a1 n1 c1, .int .i64 t2, .slice a2 n2 c2, .int .i64 has, .bool asd]] w (RowOut w (fillR ⟨k, t1, b1, t2, b2, has, asd⟩)) := by
  have H1 : Hd (CellAt w a1 n1 c1 b1) := ⟨h1⟩
  have H2 : Hd (CellAt w a2 n2 c2 b2) := ⟨h2⟩
  have HN1 : Hd (b1.length = n1) := ⟨h1.size⟩
  have HN2 : Hd (b2.length = n2) := ⟨h2.size⟩
  have F0 : Hd (RTwo w k t1 a1 n1 c1 t2 a2 n2 c2 has asd ((w.alloc (.cells #[.string k, .int .i64 t1, .slice a1 n1 c1, .int .i64 t2, .slice a2 n2 c2, .int .i64 has, .bool asd] 29)).alloc (.cells #[.string ⟨#[]⟩, .int .i64 0, .slice none 0 0, .int .i64 0, .slice none 0 0, .int .i64 0, .bool false] 29))) := ⟨rTwo_new w k t1 a1 n1 c1 t2 a2 n2 c2 has asd⟩
  obtain ⟨ok, hok⟩ : ∃ x, rOk ⟨k, t1, b1, t2, b2, has, asd⟩ = x := ⟨_, rfl⟩
  have HOK : Hd (rOk ⟨k, t1, b1, t2, b2, has, asd⟩ = ok) := ⟨hok⟩
  obtain ⟨nw, hnw⟩ : ∃ x, newB has = x := ⟨_, rfl⟩
  have HNW : Hd (newB has = nw) := ⟨hnw⟩
  have EA : Hd (ok = false ∨ nw = true → fillR ⟨k, t1, b1, t2, b2, has, asd⟩ = ⟨k, t1, b1, t2, b2, has, asd⟩) := ⟨fun h => if_pos (h.imp (fun e => hok.trans e) (fun e => hnw.trans e))⟩
  have EB : Hd (ok = true → nw = false → fillR ⟨k, t1, b1, t2, b2, has, asd⟩ = (if nOk t1 b1 0 = true then (⟨k, t1, b1, 0, nB t1 b1 0, 3, asd⟩ : RowD) else ⟨k, t1, b1, t2, b2, has, true⟩)) := ⟨fun e1 e2 => if_neg (fun h => h.elim (fun h => by rw [hok, e1] at h; cases h) (fun h => by have h : newB has = true := h; rw [hnw, e2] at h; cases h))⟩
  obtain ⟨tg, hT⟩ : ∃ x, nTag t1 b1 0 = x := ⟨_, rfl⟩
  have HT : Hd (nTag t1 b1 0 = tg) := ⟨hT⟩
  obtain ⟨ys, hys⟩ : ∃ x, nB t1 b1 0 = x := ⟨_, rfl⟩
  have HY : Hd (nB t1 b1 0 = ys) := ⟨hys⟩
  obtain ⟨tk, htk⟩ : ∃ x, nOk t1 b1 0 = x := ⟨_, rfl⟩
  have HTK : Hd (nOk t1 b1 0 = tk) := ⟨htk⟩
  have HT0 : Hd (tk = true → tg = 0) := ⟨fun e => by rw [← hT]; exact (nOk_t (htk.trans e)).2.2.1⟩
  clear hT hys htk
  clear h1 h2 hok hnw
  go_enter Tryz.func22, Tryz.ntmps22
  go_wp2_with fail
  refine (l9Copy_any k t1 a1 n1 c1 t2 a2 n2 c2 has asd b1 b2 _ (H1.out.below F0.out.bel) (H2.out.below F0.out.bel) hl1 hl2).mono ?_
  rintro e v1 ⟨x1, y1, x2, y2, rfl, hA, _, hB⟩
  have W1 : Hd (KW w k t1 a1 n1 c1 t2 a2 n2 c2 has asd v1.heap.size k t1 x1 n1 y1 b1 t2 x2 n2 y2 b2 has asd (v1.alloc (.cells #[.string k, .int .i64 t1, .slice x1 n1 y1, .int .i64 t2, .slice x2 n2 y2, .int .i64 has, .bool asd] 29))) := ⟨kw_new (F0.out.below hB) (hA.mono (by simp)) HN1.out HN2.out⟩
  obtain ⟨p0, p1, p2, p3, p4, p5, p6⟩ := cells7 _ w.heap.size _ _ _ _ _ _ _ _ W1.out.two.box
  generalize hd : v1.heap.size = d at *
  clear hA hB F0
  go_wp2_with fail
  generalize hw : (v1.alloc (.cells #[.string k, .int .i64 t1, .slice x1 n1 y1, .int .i64 t2, .slice x2 n2 y2, .int .i64 has, .bool asd] 29)) = V1 at *
  clear hd hw
  refine (specRowOk_any k t1 a1 n1 c1 t2 a2 n2 c2 has asd b1 b2 _ hk (H1.out.below W1.out.two.bel) (H2.out.below W1.out.two.bel) hl1 hl2).mono ?_
  rintro e v2 ⟨rfl, hB⟩
  rewrite [HOK.out]
  have W2 : Hd (KW w k t1 a1 n1 c1 t2 a2 n2 c2 has asd d k t1 x1 n1 y1 b1 t2 x2 n2 y2 b2 has asd v2) := ⟨W1.out.below hB⟩
  clear hB p0 p1 p2 p3 p4 p5 p6 W1
  cases ok with
  | false =>
    obtain ⟨q0, q1, q2, q3, q4, q5, q6⟩ := cells7 _ d _ _ _ _ _ _ _ _ W2.out.out
    obtain ⟨u0, u1, u2, u3, u4, u5, u6⟩ := free7 _ d _ _ _ _ _ _ _ _ W2.out.out
    obtain ⟨r0, r1, r2, r3, r4, r5, r6⟩ := cells7 _ (w.heap.size + 1) _ _ _ _ _ _ _ _ W2.out.two.res
    obtain ⟨s0, s1, s2, s3, s4, s5, s6⟩ := free7 _ (w.heap.size + 1) _ _ _ _ _ _ _ _ W2.out.two.res
    have hd1 : ¬ w.heap.size + 1 = d := by have := W2.out.wd; omega
    have hd2 : ¬ d = w.heap.size + 1 := by have := W2.out.wd; omega
    have hd3 : ¬ w.heap.size = d := by have := W2.out.wd; omega
    go_wp2_with fail
    refine bodyPost_ret (results_cell_row rfl _ _ (w.heap.size + 1) _ _ (0, 0) _ rfl (set7 _ _ _ _ _ _ _ W2.out.two.res) Tryz.underlying29 rfl (by kernel_rfl)) rfl ?_
    rw [EA.out (by simp)]
    exact W2.out.done
  | true =>
    obtain ⟨p0, p1, p2, p3, p4, p5, p6⟩ := cells7 _ w.heap.size _ _ _ _ _ _ _ _ W2.out.two.box
    go_wp2_with fail
    refine (l9New_any k t1 a1 n1 c1 t2 a2 n2 c2 has asd _).mono ?_
    rintro e v3 ⟨rfl, hB⟩
    rewrite [HNW.out]
    have W3 : Hd (KW w k t1 a1 n1 c1 t2 a2 n2 c2 has asd d k t1 x1 n1 y1 b1 t2 x2 n2 y2 b2 has asd v3) := ⟨W2.out.below hB⟩
    clear hB p0 p1 p2 p3 p4 p5 p6 W2
    cases nw with
    | true =>
      obtain ⟨q0, q1, q2, q3, q4, q5, q6⟩ := cells7 _ d _ _ _ _ _ _ _ _ W3.out.out
      obtain ⟨u0, u1, u2, u3, u4, u5, u6⟩ := free7 _ d _ _ _ _ _ _ _ _ W3.out.out
      obtain ⟨r0, r1, r2, r3, r4, r5, r6⟩ := cells7 _ (w.heap.size + 1) _ _ _ _ _ _ _ _ W3.out.two.res
      obtain ⟨s0, s1, s2, s3, s4, s5, s6⟩ := free7 _ (w.heap.size + 1) _ _ _ _ _ _ _ _ W3.out.two.res
      have hd1 : ¬ w.heap.size + 1 = d := by have := W3.out.wd; omega
      have hd2 : ¬ d = w.heap.size + 1 := by have := W3.out.wd; omega
      have hd3 : ¬ w.heap.size = d := by have := W3.out.wd; omega
      go_wp2_with fail
      refine bodyPost_ret (results_cell_row rfl _ _ (w.heap.size + 1) _ _ (0, 0) _ rfl (set7 _ _ _ _ _ _ _ W3.out.two.res) Tryz.underlying29 rfl (by kernel_rfl)) rfl ?_
      rw [EA.out (by simp)]
      exact W3.out.done
    | false =>
      obtain ⟨p0, p1, p2, p3, p4, p5, p6⟩ := cells7 _ w.heap.size _ _ _ _ _ _ _ _ W3.out.two.box
      go_wp2_with fail
      refine (specTurn_any t1 a1 n1 c1 b1 0 _ (H1.out.below W3.out.two.bel) hl1).mono ?_
      rewrite [HT.out, HY.out, HTK.out]
      rintro e v4 ⟨ao, n4, c4, rfl, hn4, hO4, _, hB⟩
      have W4 : Hd (KW w k t1 a1 n1 c1 t2 a2 n2 c2 has asd d k t1 x1 n1 y1 b1 t2 x2 n2 y2 b2 has asd (v4.alloc (.cells #[.int .i64 tg, .slice ao n4 c4] 27))) := ⟨(W3.out.below hB).below (below_lit v4 _)⟩
      have O4 : Hd (OwnO (v4.alloc (.cells #[.int .i64 tg, .slice ao n4 c4] 27)) (w.heap.size + 2) ao c4 ys) := ⟨(hO4.below (below_lit v4 _)).mono (by have := lt_of_block W3.out.two.res; omega)⟩
      have N4 : Hd (ys.length = n4) := ⟨hn4⟩
      have X4 : Hd (∀ q, ao = some ⟨q, 0, none⟩ → q ≠ d) := ⟨fun q hq => by have := ownO_ge hO4 hq; have := lt_of_block W3.out.out; omega⟩
      have Y4 : Hd (∀ q, x1 = some ⟨q, 0, none⟩ → ao ≠ some ⟨q, 0, none⟩) := ⟨fun q hq h4 => by have := ownO_ge hO4 h4; have := ownO_lt W3.out.ap.one hq; omega⟩
      obtain ⟨j0, j1, _, _⟩ := cells2 (v4.alloc (.cells #[.int .i64 tg, .slice ao n4 c4] 27)) v4.heap.size _ _ _ (alloc_new v4 _ rfl)
      have hd4 : ¬ d = v4.heap.size := by have := lt_of_block W3.out.out; have := hB.size; omega
      have hd5 : ¬ v4.heap.size = d := fun h => hd4 h.symm
      have hd6 : ¬ w.heap.size + 1 = v4.heap.size := by have := lt_of_block W3.out.two.res; have := hB.size; omega
      generalize hv : v4.heap.size = d4 at *
      clear hB hO4 hn4 p0 p1 p2 p3 p4 p5 p6 W3
      cases tk with
      | false =>
        have hf := EB.out (by simp) (by simp)
        rewrite [if_neg (by rw [HTK.out]; simp)] at hf
        have HF : Hd _ := ⟨hf⟩
        clear hf
        obtain ⟨q0, q1, q2, q3, q4, q5, q6⟩ := cells7 _ d _ _ _ _ _ _ _ _ W4.out.out
        obtain ⟨u0, u1, u2, u3, u4, u5, u6⟩ := free7 _ d _ _ _ _ _ _ _ _ W4.out.out
        obtain ⟨r0, r1, r2, r3, r4, r5, r6⟩ := cells7 _ (w.heap.size + 1) _ _ _ _ _ _ _ _ W4.out.two.res
        obtain ⟨s0, s1, s2, s3, s4, s5, s6⟩ := free7 _ (w.heap.size + 1) _ _ _ _ _ _ _ _ W4.out.two.res
        have hd1 : ¬ w.heap.size + 1 = d := by have := W4.out.wd; omega
        have hd2 : ¬ d = w.heap.size + 1 := by have := W4.out.wd; omega
        have hd3 : ¬ w.heap.size = d := by have := W4.out.wd; omega
        have W5 : Hd (KW w k t1 a1 n1 c1 t2 a2 n2 c2 has asd d k t1 x1 n1 y1 b1 t2 x2 n2 y2 b2 has true ((v4.alloc (.cells #[.int .i64 tg, .slice ao n4 c4] 27)).setCell ⟨d, 6, none⟩ (.bool true))) := ⟨W4.out.setAside true⟩
        go_wp2_with fail
        refine bodyPost_ret (results_cell_row rfl _ _ (w.heap.size + 1) _ _ (0, 0) _ rfl (set7 _ _ _ _ _ _ _ W5.out.two.res) Tryz.underlying29 rfl (by kernel_rfl)) rfl ?_
        rw [HF.out]
        exact W5.out.done
      | true =>
        have hf := EB.out (by simp) (by simp)
        rewrite [if_pos HTK.out, HY.out] at hf
        have HF : Hd _ := ⟨hf⟩
        have hT0 := HT0.out rfl
        subst hT0
        clear hf
        obtain ⟨q0, q1, q2, q3, q4, q5, q6⟩ := cells7 _ d _ _ _ _ _ _ _ _ W4.out.out
        obtain ⟨u0, u1, u2, u3, u4, u5, u6⟩ := free7 _ d _ _ _ _ _ _ _ _ W4.out.out
        obtain ⟨r0, r1, r2, r3, r4, r5, r6⟩ := cells7 _ (w.heap.size + 1) _ _ _ _ _ _ _ _ W4.out.two.res
        obtain ⟨s0, s1, s2, s3, s4, s5, s6⟩ := free7 _ (w.heap.size + 1) _ _ _ _ _ _ _ _ W4.out.two.res
        have hd1 : ¬ w.heap.size + 1 = d := by have := W4.out.wd; omega
        have hd2 : ¬ d = w.heap.size + 1 := by have := W4.out.wd; omega
        have hd3 : ¬ w.heap.size = d := by have := W4.out.wd; omega
        have W5 : Hd (KW w k t1 a1 n1 c1 t2 a2 n2 c2 has asd d k t1 x1 n1 y1 b1 0 ao n4 c4 ys 3 asd ((((v4.alloc (.cells #[.int .i64 0, .slice ao n4 c4] 27)).setCell ⟨d, 3, none⟩ (.int .i64 0)).setCell ⟨d, 4, none⟩ (.slice ao n4 c4)).setCell ⟨d, 5, none⟩ (.int .i64 3))) := ⟨((W4.out.setT2 0).setB2 (ownO_far O4.out X4.out) N4.out X4.out Y4.out).setHas 3⟩
        go_wp2_with fail
        refine bodyPost_ret (results_cell_row rfl _ _ (w.heap.size + 1) _ _ (0, 0) _ rfl (set7 _ _ _ _ _ _ _ W5.out.two.res) Tryz.underlying29 rfl (by kernel_rfl)) rfl ?_
        rw [HF.out]
        exact W5.out.done

set_option maxHeartbeats 4000000 in
theorem specCutRow_any (k : ByteArray) (t1 : Int) (a1 : Option Addr) (n1 c1 : Nat) (t2 : Int) (a2 : Option Addr) (n2 c2 : Nat) (has : Int) (asd : Bool) (b1 b2 : List UInt8) (w : World) (hk : k.size ≤ 1048576) (h1 : CellAt w a1 n1 c1 b1) (h2 : CellAt w a2 n2 c2 b2) (hl1 : n1 ≤ 1048576) (hl2 : n2 ≤ 1048576) :
    Calls Tryz.prog 23 #[.agg #[.string k, .int .i64 t1, .slice a1 n1 c1, .int .i64 t2, .slice a2 n2 c2, .int .i64 has, .bool asd]] w (RowOut w (cutR ⟨k, t1, b1, t2, b2, has, asd⟩)) := by
  have H1 : Hd (CellAt w a1 n1 c1 b1) := ⟨h1⟩
  have H2 : Hd (CellAt w a2 n2 c2 b2) := ⟨h2⟩
  have HN1 : Hd (b1.length = n1) := ⟨h1.size⟩
  have HN2 : Hd (b2.length = n2) := ⟨h2.size⟩
  have F0 : Hd (RTwo w k t1 a1 n1 c1 t2 a2 n2 c2 has asd ((w.alloc (.cells #[.string k, .int .i64 t1, .slice a1 n1 c1, .int .i64 t2, .slice a2 n2 c2, .int .i64 has, .bool asd] 29)).alloc (.cells #[.string ⟨#[]⟩, .int .i64 0, .slice none 0 0, .int .i64 0, .slice none 0 0, .int .i64 0, .bool false] 29))) := ⟨rTwo_new w k t1 a1 n1 c1 t2 a2 n2 c2 has asd⟩
  obtain ⟨ok, hok⟩ : ∃ x, rOk ⟨k, t1, b1, t2, b2, has, asd⟩ = x := ⟨_, rfl⟩
  have HOK : Hd (rOk ⟨k, t1, b1, t2, b2, has, asd⟩ = ok) := ⟨hok⟩
  obtain ⟨nw, hnw⟩ : ∃ x, newB has = x := ⟨_, rfl⟩
  have HNW : Hd (newB has = nw) := ⟨hnw⟩
  have EA : Hd (ok = false ∨ nw = false → cutR ⟨k, t1, b1, t2, b2, has, asd⟩ = ⟨k, t1, b1, t2, b2, has, asd⟩) := ⟨fun h => if_pos (h.imp (fun e => hok.trans e) (fun e => hnw.trans e))⟩
  have EB : Hd (ok = true → nw = true → cutR ⟨k, t1, b1, t2, b2, has, asd⟩ = ⟨k, 0, [], t2, b2, 2, false⟩) := ⟨fun e1 e2 => if_neg (fun h => h.elim (fun h => by rw [hok, e1] at h; cases h) (fun h => by have h : newB has = false := h; rw [hnw, e2] at h; cases h))⟩
  
  clear h1 h2 hok hnw
  go_enter Tryz.func23, Tryz.ntmps23
  go_wp2_with fail
  refine (l9Copy_any k t1 a1 n1 c1 t2 a2 n2 c2 has asd b1 b2 _ (H1.out.below F0.out.bel) (H2.out.below F0.out.bel) hl1 hl2).mono ?_
  rintro e v1 ⟨x1, y1, x2, y2, rfl, hA, _, hB⟩
  have W1 : Hd (KW w k t1 a1 n1 c1 t2 a2 n2 c2 has asd v1.heap.size k t1 x1 n1 y1 b1 t2 x2 n2 y2 b2 has asd (v1.alloc (.cells #[.string k, .int .i64 t1, .slice x1 n1 y1, .int .i64 t2, .slice x2 n2 y2, .int .i64 has, .bool asd] 29))) := ⟨kw_new (F0.out.below hB) (hA.mono (by simp)) HN1.out HN2.out⟩
  obtain ⟨p0, p1, p2, p3, p4, p5, p6⟩ := cells7 _ w.heap.size _ _ _ _ _ _ _ _ W1.out.two.box
  generalize hd : v1.heap.size = d at *
  clear hA hB F0
  go_wp2_with fail
  generalize hw : (v1.alloc (.cells #[.string k, .int .i64 t1, .slice x1 n1 y1, .int .i64 t2, .slice x2 n2 y2, .int .i64 has, .bool asd] 29)) = V1 at *
  clear hd hw
  refine (specRowOk_any k t1 a1 n1 c1 t2 a2 n2 c2 has asd b1 b2 _ hk (H1.out.below W1.out.two.bel) (H2.out.below W1.out.two.bel) hl1 hl2).mono ?_
  rintro e v2 ⟨rfl, hB⟩
  rewrite [HOK.out]
  have W2 : Hd (KW w k t1 a1 n1 c1 t2 a2 n2 c2 has asd d k t1 x1 n1 y1 b1 t2 x2 n2 y2 b2 has asd v2) := ⟨W1.out.below hB⟩
  clear hB p0 p1 p2 p3 p4 p5 p6 W1
  cases ok with
  | false =>
    obtain ⟨q0, q1, q2, q3, q4, q5, q6⟩ := cells7 _ d _ _ _ _ _ _ _ _ W2.out.out
    obtain ⟨u0, u1, u2, u3, u4, u5, u6⟩ := free7 _ d _ _ _ _ _ _ _ _ W2.out.out
    obtain ⟨r0, r1, r2, r3, r4, r5, r6⟩ := cells7 _ (w.heap.size + 1) _ _ _ _ _ _ _ _ W2.out.two.res
    obtain ⟨s0, s1, s2, s3, s4, s5, s6⟩ := free7 _ (w.heap.size + 1) _ _ _ _ _ _ _ _ W2.out.two.res
    have hd1 : ¬ w.heap.size + 1 = d := by have := W2.out.wd; omega
    have hd2 : ¬ d = w.heap.size + 1 := by have := W2.out.wd; omega
    have hd3 : ¬ w.heap.size = d := by have := W2.out.wd; omega
    go_wp2_with fail
    refine bodyPost_ret (results_cell_row rfl _ _ (w.heap.size + 1) _ _ (0, 0) _ rfl (set7 _ _ _ _ _ _ _ W2.out.two.res) Tryz.underlying29 rfl (by kernel_rfl)) rfl ?_
    rw [EA.out (by simp)]
    exact W2.out.done
  | true =>
    obtain ⟨p0, p1, p2, p3, p4, p5, p6⟩ := cells7 _ w.heap.size _ _ _ _ _ _ _ _ W2.out.two.box
    go_wp2_with fail
    refine (l9New_any k t1 a1 n1 c1 t2 a2 n2 c2 has asd _).mono ?_
    rintro e v3 ⟨rfl, hB⟩
    rewrite [HNW.out]
    have W3 : Hd (KW w k t1 a1 n1 c1 t2 a2 n2 c2 has asd d k t1 x1 n1 y1 b1 t2 x2 n2 y2 b2 has asd v3) := ⟨W2.out.below hB⟩
    clear hB p0 p1 p2 p3 p4 p5 p6 W2
    cases nw with
    | false =>
      obtain ⟨q0, q1, q2, q3, q4, q5, q6⟩ := cells7 _ d _ _ _ _ _ _ _ _ W3.out.out
      obtain ⟨u0, u1, u2, u3, u4, u5, u6⟩ := free7 _ d _ _ _ _ _ _ _ _ W3.out.out
      obtain ⟨r0, r1, r2, r3, r4, r5, r6⟩ := cells7 _ (w.heap.size + 1) _ _ _ _ _ _ _ _ W3.out.two.res
      obtain ⟨s0, s1, s2, s3, s4, s5, s6⟩ := free7 _ (w.heap.size + 1) _ _ _ _ _ _ _ _ W3.out.two.res
      have hd1 : ¬ w.heap.size + 1 = d := by have := W3.out.wd; omega
      have hd2 : ¬ d = w.heap.size + 1 := by have := W3.out.wd; omega
      have hd3 : ¬ w.heap.size = d := by have := W3.out.wd; omega
      go_wp2_with fail
      refine bodyPost_ret (results_cell_row rfl _ _ (w.heap.size + 1) _ _ (0, 0) _ rfl (set7 _ _ _ _ _ _ _ W3.out.two.res) Tryz.underlying29 rfl (by kernel_rfl)) rfl ?_
      rw [EA.out (by simp)]
      exact W3.out.done
    | true =>
      obtain ⟨q0, q1, q2, q3, q4, q5, q6⟩ := cells7 _ d _ _ _ _ _ _ _ _ W3.out.out
      obtain ⟨u0, u1, u2, u3, u4, u5, u6⟩ := free7 _ d _ _ _ _ _ _ _ _ W3.out.out
      obtain ⟨r0, r1, r2, r3, r4, r5, r6⟩ := cells7 _ (w.heap.size + 1) _ _ _ _ _ _ _ _ W3.out.two.res
      obtain ⟨s0, s1, s2, s3, s4, s5, s6⟩ := free7 _ (w.heap.size + 1) _ _ _ _ _ _ _ _ W3.out.two.res
      obtain ⟨p0, p1, p2, p3, p4, p5, p6⟩ := cells7 _ w.heap.size _ _ _ _ _ _ _ _ W3.out.two.box
      have hd1 : ¬ w.heap.size + 1 = d := by have := W3.out.wd; omega
      have hd2 : ¬ d = w.heap.size + 1 := by have := W3.out.wd; omega
      have hd3 : ¬ w.heap.size = d := by have := W3.out.wd; omega
      go_wp2_with fail
      refine bodyPost_ret (results_cell_row rfl _ _ (w.heap.size + 1) _ _ (0, 0) _ rfl (set7 _ _ _ _ _ _ _ W3.out.two.res) Tryz.underlying29 rfl (by kernel_rfl)) rfl ?_
      rw [EB.out (by simp) (by simp)]
      exact rowOut_of W3.out.two ⟨.inl ⟨rfl, rfl, rfl⟩, W3.out.ap.two, fun q hq => by cases hq⟩ rfl W3.out.l2

set_option maxHeartbeats 4000000 in
theorem specBackRow_any (k : ByteArray) (t1 : Int) (a1 : Option Addr) (n1 c1 : Nat) (t2 : Int) (a2 : Option Addr) (n2 c2 : Nat) (has : Int) (asd : Bool) (b1 b2 : List UInt8) (w : World) (hk : k.size ≤ 1048576) (h1 : CellAt w a1 n1 c1 b1) (h2 : CellAt w a2 n2 c2 b2) (hl1 : n1 ≤ 1048576) (hl2 : n2 ≤ 1048576) :
    Calls Tryz.prog 24 #[.agg #[.string k, .int .i64 t1, .slice a1 n1 c1, .int .i64 t2, .slice a2 n2 c2, .int .i64 has, .bool asd]] w (RowOut w (backR ⟨k, t1, b1, t2, b2, has, asd⟩)) := by
  have H1 : Hd (CellAt w a1 n1 c1 b1) := ⟨h1⟩
  have H2 : Hd (CellAt w a2 n2 c2 b2) := ⟨h2⟩
  have HN1 : Hd (b1.length = n1) := ⟨h1.size⟩
  have HN2 : Hd (b2.length = n2) := ⟨h2.size⟩
  have F0 : Hd (RTwo w k t1 a1 n1 c1 t2 a2 n2 c2 has asd ((w.alloc (.cells #[.string k, .int .i64 t1, .slice a1 n1 c1, .int .i64 t2, .slice a2 n2 c2, .int .i64 has, .bool asd] 29)).alloc (.cells #[.string ⟨#[]⟩, .int .i64 0, .slice none 0 0, .int .i64 0, .slice none 0 0, .int .i64 0, .bool false] 29))) := ⟨rTwo_new w k t1 a1 n1 c1 t2 a2 n2 c2 has asd⟩
  obtain ⟨ok, hok⟩ : ∃ x, rOk ⟨k, t1, b1, t2, b2, has, asd⟩ = x := ⟨_, rfl⟩
  have HOK : Hd (rOk ⟨k, t1, b1, t2, b2, has, asd⟩ = ok) := ⟨hok⟩
  obtain ⟨nw, hnw⟩ : ∃ x, newB has = x := ⟨_, rfl⟩
  have HNW : Hd (newB has = nw) := ⟨hnw⟩
  have EA : Hd (ok = false ∨ nw = false → backR ⟨k, t1, b1, t2, b2, has, asd⟩ = ⟨k, t1, b1, t2, b2, has, asd⟩) := ⟨fun h => if_pos (h.imp (fun e => hok.trans e) (fun e => hnw.trans e))⟩
  have EB : Hd (ok = true → nw = true → oldB has = true → backR ⟨k, t1, b1, t2, b2, has, asd⟩ = ⟨k, t1, b1, 0, [], 1, false⟩) := ⟨fun e1 e2 e3 => (if_neg (fun h => h.elim (fun h => by rw [hok, e1] at h; cases h) (fun h => by have h : newB has = false := h; rw [hnw, e2] at h; cases h))).trans (if_pos e3)⟩
  have EC : Hd (ok = true → nw = true → oldB has = false → backR ⟨k, t1, b1, t2, b2, has, asd⟩ = ⟨k, t1, b1, t2, b2, has, true⟩) := ⟨fun e1 e2 e3 => (if_neg (fun h => h.elim (fun h => by rw [hok, e1] at h; cases h) (fun h => by have h : newB has = false := h; rw [hnw, e2] at h; cases h))).trans (if_neg (by show ¬ oldB has = true; rw [e3]; simp))⟩
  obtain ⟨od, hod⟩ : ∃ x, oldB has = x := ⟨_, rfl⟩
  have HOD : Hd (oldB has = od) := ⟨hod⟩
  clear hod
  clear h1 h2 hok hnw
  go_enter Tryz.func24, Tryz.ntmps24
  go_wp2_with fail
  refine (l9Copy_any k t1 a1 n1 c1 t2 a2 n2 c2 has asd b1 b2 _ (H1.out.below F0.out.bel) (H2.out.below F0.out.bel) hl1 hl2).mono ?_
  rintro e v1 ⟨x1, y1, x2, y2, rfl, hA, _, hB⟩
  have W1 : Hd (KW w k t1 a1 n1 c1 t2 a2 n2 c2 has asd v1.heap.size k t1 x1 n1 y1 b1 t2 x2 n2 y2 b2 has asd (v1.alloc (.cells #[.string k, .int .i64 t1, .slice x1 n1 y1, .int .i64 t2, .slice x2 n2 y2, .int .i64 has, .bool asd] 29))) := ⟨kw_new (F0.out.below hB) (hA.mono (by simp)) HN1.out HN2.out⟩
  obtain ⟨p0, p1, p2, p3, p4, p5, p6⟩ := cells7 _ w.heap.size _ _ _ _ _ _ _ _ W1.out.two.box
  generalize hd : v1.heap.size = d at *
  clear hA hB F0
  go_wp2_with fail
  generalize hw : (v1.alloc (.cells #[.string k, .int .i64 t1, .slice x1 n1 y1, .int .i64 t2, .slice x2 n2 y2, .int .i64 has, .bool asd] 29)) = V1 at *
  clear hd hw
  refine (specRowOk_any k t1 a1 n1 c1 t2 a2 n2 c2 has asd b1 b2 _ hk (H1.out.below W1.out.two.bel) (H2.out.below W1.out.two.bel) hl1 hl2).mono ?_
  rintro e v2 ⟨rfl, hB⟩
  rewrite [HOK.out]
  have W2 : Hd (KW w k t1 a1 n1 c1 t2 a2 n2 c2 has asd d k t1 x1 n1 y1 b1 t2 x2 n2 y2 b2 has asd v2) := ⟨W1.out.below hB⟩
  clear hB p0 p1 p2 p3 p4 p5 p6 W1
  cases ok with
  | false =>
    obtain ⟨q0, q1, q2, q3, q4, q5, q6⟩ := cells7 _ d _ _ _ _ _ _ _ _ W2.out.out
    obtain ⟨u0, u1, u2, u3, u4, u5, u6⟩ := free7 _ d _ _ _ _ _ _ _ _ W2.out.out
    obtain ⟨r0, r1, r2, r3, r4, r5, r6⟩ := cells7 _ (w.heap.size + 1) _ _ _ _ _ _ _ _ W2.out.two.res
    obtain ⟨s0, s1, s2, s3, s4, s5, s6⟩ := free7 _ (w.heap.size + 1) _ _ _ _ _ _ _ _ W2.out.two.res
    have hd1 : ¬ w.heap.size + 1 = d := by have := W2.out.wd; omega
    have hd2 : ¬ d = w.heap.size + 1 := by have := W2.out.wd; omega
    have hd3 : ¬ w.heap.size = d := by have := W2.out.wd; omega
    go_wp2_with fail
    refine bodyPost_ret (results_cell_row rfl _ _ (w.heap.size + 1) _ _ (0, 0) _ rfl (set7 _ _ _ _ _ _ _ W2.out.two.res) Tryz.underlying29 rfl (by kernel_rfl)) rfl ?_
    rw [EA.out (by simp)]
    exact W2.out.done
  | true =>
    obtain ⟨p0, p1, p2, p3, p4, p5, p6⟩ := cells7 _ w.heap.size _ _ _ _ _ _ _ _ W2.out.two.box
    go_wp2_with fail
    refine (l9New_any k t1 a1 n1 c1 t2 a2 n2 c2 has asd _).mono ?_
    rintro e v3 ⟨rfl, hB⟩
    rewrite [HNW.out]
    have W3 : Hd (KW w k t1 a1 n1 c1 t2 a2 n2 c2 has asd d k t1 x1 n1 y1 b1 t2 x2 n2 y2 b2 has asd v3) := ⟨W2.out.below hB⟩
    clear hB p0 p1 p2 p3 p4 p5 p6 W2
    cases nw with
    | false =>
      obtain ⟨q0, q1, q2, q3, q4, q5, q6⟩ := cells7 _ d _ _ _ _ _ _ _ _ W3.out.out
      obtain ⟨u0, u1, u2, u3, u4, u5, u6⟩ := free7 _ d _ _ _ _ _ _ _ _ W3.out.out
      obtain ⟨r0, r1, r2, r3, r4, r5, r6⟩ := cells7 _ (w.heap.size + 1) _ _ _ _ _ _ _ _ W3.out.two.res
      obtain ⟨s0, s1, s2, s3, s4, s5, s6⟩ := free7 _ (w.heap.size + 1) _ _ _ _ _ _ _ _ W3.out.two.res
      have hd1 : ¬ w.heap.size + 1 = d := by have := W3.out.wd; omega
      have hd2 : ¬ d = w.heap.size + 1 := by have := W3.out.wd; omega
      have hd3 : ¬ w.heap.size = d := by have := W3.out.wd; omega
      go_wp2_with fail
      refine bodyPost_ret (results_cell_row rfl _ _ (w.heap.size + 1) _ _ (0, 0) _ rfl (set7 _ _ _ _ _ _ _ W3.out.two.res) Tryz.underlying29 rfl (by kernel_rfl)) rfl ?_
      rw [EA.out (by simp)]
      exact W3.out.done
    | true =>
      obtain ⟨p0, p1, p2, p3, p4, p5, p6⟩ := cells7 _ w.heap.size _ _ _ _ _ _ _ _ W3.out.two.box
      go_wp2_with fail
      refine (l9Old_any k t1 a1 n1 c1 t2 a2 n2 c2 has asd _).mono ?_
      rintro e v4 ⟨rfl, hB⟩
      rewrite [HOD.out]
      have W4 : Hd (KW w k t1 a1 n1 c1 t2 a2 n2 c2 has asd d k t1 x1 n1 y1 b1 t2 x2 n2 y2 b2 has asd v4) := ⟨W3.out.below hB⟩
      clear hB p0 p1 p2 p3 p4 p5 p6 W3
      cases od with
      | true =>
        obtain ⟨q0, q1, q2, q3, q4, q5, q6⟩ := cells7 _ d _ _ _ _ _ _ _ _ W4.out.out
        obtain ⟨u0, u1, u2, u3, u4, u5, u6⟩ := free7 _ d _ _ _ _ _ _ _ _ W4.out.out
        obtain ⟨r0, r1, r2, r3, r4, r5, r6⟩ := cells7 _ (w.heap.size + 1) _ _ _ _ _ _ _ _ W4.out.two.res
        obtain ⟨s0, s1, s2, s3, s4, s5, s6⟩ := free7 _ (w.heap.size + 1) _ _ _ _ _ _ _ _ W4.out.two.res
        obtain ⟨p0, p1, p2, p3, p4, p5, p6⟩ := cells7 _ w.heap.size _ _ _ _ _ _ _ _ W4.out.two.box
        have hd1 : ¬ w.heap.size + 1 = d := by have := W4.out.wd; omega
        have hd2 : ¬ d = w.heap.size + 1 := by have := W4.out.wd; omega
        have hd3 : ¬ w.heap.size = d := by have := W4.out.wd; omega
        go_wp2_with fail
        refine bodyPost_ret (results_cell_row rfl _ _ (w.heap.size + 1) _ _ (0, 0) _ rfl (set7 _ _ _ _ _ _ _ W4.out.two.res) Tryz.underlying29 rfl (by kernel_rfl)) rfl ?_
        rw [EB.out (by simp) (by simp) HOD.out]
        exact rowOut_of W4.out.two ⟨W4.out.ap.one, .inl ⟨rfl, rfl, rfl⟩, fun q hq h2 => by cases h2⟩ W4.out.l1 rfl
      | false =>
        obtain ⟨q0, q1, q2, q3, q4, q5, q6⟩ := cells7 _ d _ _ _ _ _ _ _ _ W4.out.out
        obtain ⟨u0, u1, u2, u3, u4, u5, u6⟩ := free7 _ d _ _ _ _ _ _ _ _ W4.out.out
        obtain ⟨r0, r1, r2, r3, r4, r5, r6⟩ := cells7 _ (w.heap.size + 1) _ _ _ _ _ _ _ _ W4.out.two.res
        obtain ⟨s0, s1, s2, s3, s4, s5, s6⟩ := free7 _ (w.heap.size + 1) _ _ _ _ _ _ _ _ W4.out.two.res
        have hd1 : ¬ w.heap.size + 1 = d := by have := W4.out.wd; omega
        have hd2 : ¬ d = w.heap.size + 1 := by have := W4.out.wd; omega
        have hd3 : ¬ w.heap.size = d := by have := W4.out.wd; omega
        have W5 : Hd (KW w k t1 a1 n1 c1 t2 a2 n2 c2 has asd d k t1 x1 n1 y1 b1 t2 x2 n2 y2 b2 has true (v4.setCell ⟨d, 6, none⟩ (.bool true))) := ⟨W4.out.setAside true⟩
        go_wp2_with fail
        refine bodyPost_ret (results_cell_row rfl _ _ (w.heap.size + 1) _ _ (0, 0) _ rfl (set7 _ _ _ _ _ _ _ W5.out.two.res) Tryz.underlying29 rfl (by kernel_rfl)) rfl ?_
        rw [EC.out (by simp) (by simp) HOD.out]
        exact W5.out.done

end Go.Proofs.YtpafjehphajbhaaGreatDoor
