/- DevNew, of the program and of the specification. -/
import Derived.Test.YtidbhdlhcmjhkaaDevSp
import Derived.Test.YtidbhdlhcmjhkaaDevX
import Derived.Test.YtidbhdlhcmjhkaaExact
import Derived.Deep.RegionHeldLaw
namespace Go.Proofs.Ytidbhdlhcmjhkaa
set_option maxRecDepth 4000
open Go.RowKit

def devNew (n : Int) : DevD := if inB n 1 64 = true then ⟨List.replicate n.toNat [], [], -1, false⟩ else zeroDev
theorem owDev_zero (w : World) : OwDev w [.slice none 0 0, .slice none 0 0, .int .i64 0, .bool false] (fun _ => False) zeroDev :=
  ⟨none, 0, 0, none, 0, 0, _, _, rfl, owS_nil w 1 22 OwB, owS_nil w 2 35 OwWr, fun _ h => h.elim, fun x => by simp⟩
theorem four_at {w : World} {q : Nat} {T : TypeId} {a b c d : Value} (h : w.heap[q]? = some (.cells #[a, b, c, d] T (0, 0))) (v0 v1 v2 v3 : Value) :
    ((((w.setCell ⟨q, 0, none⟩ v0).setCell ⟨q, 1, none⟩ v1).setCell ⟨q, 2, none⟩ v2).setCell ⟨q, 3, none⟩ v3).heap[q]? = some (.cells #[v0, v1, v2, v3] T (0, 0)) := setA (setA (setA (setA h 0 _ rfl) 1 _ rfl) 2 _ rfl) 3 _ rfl
theorem four_ans {w wx : World} {q : Nat} {d : DevD} {v0 v1 v2 v3 : Value} (hb : Below w.heap.size w wx) (hq : w.heap.size ≤ q) {F : Fp} (hO : OwDev wx [v0, v1, v2, v3] F d) (hF : ∀ x, F x → w.heap.size ≤ x ∧ x ≠ q) :
    AnsAgg OwDev d w (.returned (.agg #[v0, v1, v2, v3])) ((((wx.setCell ⟨q, 0, none⟩ v0).setCell ⟨q, 1, none⟩ v1).setCell ⟨q, 2, none⟩ v2).setCell ⟨q, 3, none⟩ v3) :=
  ⟨⟨_, rfl, F, owDev_ok.keep hO (fun b h => block_set (block_set (block_set (block_set rfl (hF b h).2) (hF b h).2) (hF b h).2) (hF b h).2), fun x hx => (hF x hx).1⟩, bset (bset (bset (bset hb _ hq) _ hq) _ hq) _ hq⟩

set_option maxHeartbeats 1000000 in
theorem implDevNew_rd (n : Int) (w : World) : Calls Try.prog 25 #[.int .i64 n] w (AnsAgg OwDev (devNew n) w) := by
  obtain ⟨R, hR⟩ : ∃ R, devNew n = R := ⟨_, rfl⟩
  have HR : Hd (devNew n = R) := ⟨hR⟩
  rw [hR]
  clear hR
  have s0 := freeA (heap_alloc_new w (.cells #[.slice none 0 0, .slice none 0 0, .int .i64 0, .bool false] 27)) 0
  have s1 := freeA (heap_alloc_new w (.cells #[.slice none 0 0, .slice none 0 0, .int .i64 0, .bool false] 27)) 1
  have s2 := freeA (heap_alloc_new w (.cells #[.slice none 0 0, .slice none 0 0, .int .i64 0, .bool false] 27)) 2
  have s3 := freeA (heap_alloc_new w (.cells #[.slice none 0 0, .slice none 0 0, .int .i64 0, .bool false] 27)) 3
  by_cases h1 : n < 1
  · have h1' : decide (n < 1) = true := decide_eq_true h1
    have HE : Hd (R = zeroDev) := ⟨by rw [← HR.out]; unfold devNew; rw [if_neg (by rw [inB_is]; simp; omega)]⟩
    clear HR
    go_enter Try.func25, Try.ntmps25
    go_wp2_with fail
    refine bodyPost_ret (results_cell_row rfl _ _ w.heap.size _ _ (0, 0) _ rfl (heap_alloc_new w _) Try.underlying27 rfl (by kernel_rfl)) rfl ?_
    rw [HE.out]
    exact ⟨⟨[_, _, _, _], rfl, _, owDev_zero _, fun x h => h.elim⟩, below_lit w _⟩
  by_cases h2 : n > 64
  · have h1' : decide (n < 1) = false := decide_eq_false h1
    have h2' : decide (n > 64) = true := decide_eq_true h2
    have HE : Hd (R = zeroDev) := ⟨by rw [← HR.out]; unfold devNew; rw [if_neg (by rw [inB_is]; simp; omega)]⟩
    clear HR
    go_enter Try.func25, Try.ntmps25
    go_wp2_with fail
    refine bodyPost_ret (results_cell_row rfl _ _ w.heap.size _ _ (0, 0) _ rfl (heap_alloc_new w _) Try.underlying27 rfl (by kernel_rfl)) rfl ?_
    rw [HE.out]
    exact ⟨⟨[_, _, _, _], rfl, _, owDev_zero _, fun x h => h.elim⟩, below_lit w _⟩
  · have h1' : decide (n < 1) = false := decide_eq_false h1
    have h2' : decide (n > 64) = false := decide_eq_false h2
    obtain ⟨m, rfl⟩ : ∃ m : Nat, n = (m : Int) := ⟨n.toNat, by omega⟩
    have HE : Hd (R = ⟨List.replicate m [], [], -1, false⟩ ∧ m ≤ 64) := ⟨by rw [← HR.out]; unfold devNew; rw [if_pos (by rw [inB_is]; simp; omega), Int.toNat_natCast], by omega⟩
    obtain ⟨i0, hi0, hz0, hs0, hb0⟩ := info_parts infoByteSS
    have k0 := fun w => make_run 24 22 Try.underlying24 hi0 hz0 m hs0 hb0 (by omega) (by omega) w
    obtain ⟨M0, hM0⟩ : ∃ M0, madeCells (Value.slice none 0 0).cells (m * 1) = M0 := ⟨_, rfl⟩
    rw [hM0] at k0
    have HM : Hd (madeCells (Value.slice none 0 0).cells (m * 1) = M0) := ⟨hM0⟩
    clear HR hM0 hi0 hz0 hs0 hb0
    go_enter Try.func25, Try.ntmps25
    go_wp2_with fail
    refine bodyPost_ret (results_cell_row rfl _ _ w.heap.size _ _ (0, 0) _ rfl (laid2 w _ _).1 Try.underlying27 rfl (by kernel_rfl)) rfl ?_
    rw [HE.out.1]
    have e0 := made_flat ([.slice none 0 0] : List Value) (n := 1) rfl (by omega) m
    have o0 : ((w.alloc (.cells #[.slice (some ⟨w.heap.size + 1, 0, none⟩) m m, .slice none 0 0, .int .i64 (-1), .bool false] 27)).alloc (.cells M0 22)).ownsRow 0 22 1 (.slice (some ⟨w.heap.size + 1, 0, none⟩) m m) m (List.replicate m ([.slice none 0 0] : List Value)).flatten := by
      rw [← e0]
      exact ⟨by simp [madeCells], .inr ⟨w.heap.size + 1, m, _, rfl, Nat.zero_le _, by rw [← HM.out]; exact (laid2 w _ _).2, Nat.le_refl _, by have := HE.out.2; unfold maxLen; omega, by simp [madeCells], by rw [List.take_of_length_le (by simp [madeCells])]; rfl⟩⟩
    exact ⟨⟨[_, _, _, _], rfl, _, ⟨_, _, _, none, 0, 0, _, _, rfl, ⟨_, _, _, rfl, owP_made o0 rfl (by simp) (owB_nil _)⟩, owS_nil _ 2 35 OwWr, fun _ _ h => h, fun x => Iff.rfl⟩, fun x h => h.elim (fun h => by omega) (fun h => h.elim)⟩, below_lit2 w _ _⟩

/-- What the specification's DevNew has: the result's box, the device's. -/
structure DnAt (w : World) (k : Nat) (x : Option Addr) (d : Nat) (F : Fp) (wx : World) : Prop where
  bel : Below w.heap.size w wx
  res : wx.heap[w.heap.size]? = some (.cells #[.slice none 0 0, .slice none 0 0, .int .i64 0, .bool false] 27 (0, 0))
  box : wx.heap[w.heap.size + 1]? = some (.cells #[.slice x k d, .slice none 0 0, .int .i64 (-1), .bool false] 27 (0, 0))
  own : OwByteSS wx [.slice x k d] F (List.replicate k [])
  low : ∀ y, F y → w.heap.size + 2 ≤ y
theorem DnAt.below {w wx wy : World} {k : Nat} {x : Option Addr} {d : Nat} {F : Fp} (h : DnAt w k x d F wx) (hb : Below wx.heap.size wx wy) : DnAt w k x d F wy :=
  ⟨Below.next h.bel hb, (hb.block _ (lt_of_block h.res)).trans h.res, (hb.block _ (lt_of_block h.box)).trans h.box, owByteSS_ok.below h.own hb, h.low⟩
theorem DnAt.hown {w wx : World} {k : Nat} {x : Option Addr} {d : Nat} {F : Fp} (h : DnAt w k x d F wx) : ∀ y, (Value.slice x k d).ownBlock = some y → F y := by
  intro y hy
  obtain ⟨v, css, Fs, e, P⟩ := h.own
  simp only [List.cons.injEq, and_true] at e
  subst e
  exact P.blk y hy
theorem DnAt.grown {w wx wz : World} {k : Nat} {x : Option Addr} {d : Nat} {F : Fp} (h : DnAt w k x d F wx) (hg : wx.grownBy wz (Value.slice x k d).ownBlock) :
    wz.heap[w.heap.size + 1]? = some (.cells #[.slice x k d, .slice none 0 0, .int .i64 (-1), .bool false] 27 (0, 0)) := by
  rw [hg.block _ (lt_of_block h.box) (fun e => by have := h.low _ (h.hown _ e.symm); omega)]
  exact h.box
theorem DnAt.push {w wx wz : World} {k : Nat} {x : Option Addr} {d : Nat} {F F' : Fp} (h : DnAt w k x d F wx) (hg : wx.grownBy wz (Value.slice x k d).ownBlock) {x2 : Option Addr} {d2 : Nat}
    (hp : OwByteSS wz [.slice x2 (k + 1) d2] F' (List.replicate k [] ++ [[]])) (hF' : ∀ y, F' y → w.heap.size + 2 ≤ y) : DnAt w (k + 1) x2 d2 F' (wz.setCell ⟨w.heap.size + 1, 0, none⟩ (.slice x2 (k + 1) d2)) := by
  have hr := lt_of_block h.res
  have ho : ∀ y, y < wx.heap.size → ¬ F y → wz.heap[y]? = wx.heap[y]? := fun y hy hn => hg.block y hy (fun e => hn (h.hown y e.symm))
  refine ⟨bset ⟨hg.os.trans h.bel.os, hg.tape.trans h.bel.tape, hg.output.trans h.bel.output, Nat.le_trans h.bel.size hg.size, fun y hy => (ho y (by omega) (fun hx => by have := h.low y hx; omega)).trans (h.bel.block y hy)⟩ _ (by omega), block_set ((ho _ hr (fun hx => by have := h.low _ hx; omega)).trans h.res) (by omega), setA (h.grown hg) 0 _ rfl, ?_, hF'⟩
  have e : (List.replicate (k + 1) ([] : List UInt8)) = List.replicate k [] ++ [[]] := List.replicate_succ'
  rw [e]
  exact owByteSS_ok.keep hp (fun y hy => block_set rfl (by have := hF' y hy; omega))
theorem rdDev_zero (w : World) : RdDev w [.slice none 0 0, .slice none 0 0, .int .i64 0, .bool false] zeroDev := owDev_ok.rd (owDev_zero w)

set_option maxHeartbeats 2000000 in
theorem specDevNew_ow (n : Int) (w : World) : Calls Try.prog 26 #[.int .i64 n] w (AnsAgg OwDev (devNew n) w) := by
  obtain ⟨R, hR⟩ : ∃ R, devNew n = R := ⟨_, rfl⟩
  obtain ⟨V, hV⟩ : ∃ V, inB n 1 64 = V := ⟨_, rfl⟩
  have HV : Hd (inB n 1 64 = V ∧ devNew n = R) := ⟨hV, hR⟩
  rw [hR]
  clear hR hV
  go_enter Try.func26, Try.ntmps26
  go_wp2_with fail
  refine (l1In_is HV.out.1 _).mono ?_
  rintro e w' ⟨rfl, hw⟩
  replace hw := hw.symm
  subst hw
  cases V with
  | false =>
    have HE : Hd (R = zeroDev) := ⟨by rw [← HV.out.2]; unfold devNew; rw [if_neg (by rw [HV.out.1]; simp)]⟩
    clear HV
    go_wp2_with fail
    refine bodyPost_ret (results_cell_row rfl _ _ w.heap.size _ _ (0, 0) _ rfl (heap_alloc_new w _) Try.underlying27 rfl (by kernel_rfl)) rfl ?_
    rw [HE.out]
    exact ⟨⟨[_, _, _, _], rfl, _, owDev_zero _, fun x h => h.elim⟩, below_lit w _⟩
  | true =>
    have h9 := HV.out.1
    rw [inB_is, decide_eq_true_eq] at h9
    obtain ⟨m, rfl⟩ : ∃ m : Nat, n = (m : Int) := ⟨n.toNat, by omega⟩
    have HE : Hd (R = ⟨List.replicate m [], [], -1, false⟩ ∧ m ≤ 64) := ⟨by rw [← HV.out.2]; unfold devNew; rw [if_pos HV.out.1, Int.toNat_natCast], by omega⟩
    clear HV h9
    go_wp2_with fail
    have H0 : Hd (DnAt w 0 none 0 (fun _ => False) ((w.alloc (.cells #[.slice none 0 0, .slice none 0 0, .int .i64 0, .bool false] 27)).alloc (.cells #[.slice none 0 0, .slice none 0 0, .int .i64 (-1), .bool false] 27))) :=
      ⟨⟨below_lit2 w _ _, (laid2 w _ _).1, (laid2 w _ _).2, owS_nil _ 1 22 OwB, fun _ h => h.elim⟩⟩
    generalize (w.alloc (.cells #[.slice none 0 0, .slice none 0 0, .int .i64 0, .bool false] 27)).alloc (.cells #[.slice none 0 0, .slice none 0 0, .int .i64 (-1), .bool false] 27) = W0 at *
    go_loopw [4] (fun i wr => ∃ k : Nat, k ≤ m ∧ i = .int .i64 k ∧ Hd (∃ x d F, DnAt w k x d F wr)) (fun i _ => m - (intOf i).toNat)
    case atStart => exact ⟨0, Nat.zero_le _, rfl, ⟨⟨_, _, _, H0.out⟩⟩⟩
    case round =>
      obtain ⟨k, hk, rfl, HK⟩ := hrel
      obtain ⟨x, d, F, hD⟩ := HK.out
      have D : Hd (DnAt w k x d F wr) := ⟨hD⟩
      clear H0 HK hD
      have c0 := cellsA D.out.box 0 rfl
      by_cases hlt : k < m
      · have hlt' : (k : Int) < (m : Int) := by omega
        have hm64 : m ≤ 64 := HE.out.2
        obtain ⟨i0, hi0, hz0, hs0, hb0⟩ := info_parts infoByteSS
        have HX : Hd (OwByteSS ((wr.alloc (.cells #[] 5)).alloc (.cells #[.slice (some ⟨wr.heap.size, 0, none⟩) 0 0] 22)) [.slice x k d] F (List.replicate k []) ∧ OwB ((wr.alloc (.cells #[] 5)).alloc (.cells #[.slice (some ⟨wr.heap.size, 0, none⟩) 0 0] 22)) [.slice (some ⟨wr.heap.size, 0, none⟩) 0 0] (fun y => y = wr.heap.size) [] ∧ (∀ y, y = wr.heap.size → ¬ F y)) :=
          ⟨owByteSS_ok.below D.out.own (below_lit2 wr _ _), ⟨fun y hy => by rw [hy]; simp; omega, some ⟨wr.heap.size, 0, none⟩, 0, 0, rfl, rfl, .inr ⟨wr.heap.size, rfl, rfl, #[], (laid2 wr _ _).1, by simp, by unfold maxLen; simp, by simp⟩⟩, fun y hy hF => by have := owByteSS_ok.lt D.out.own y hF; omega⟩
        go_wp2_with (at_builtin; refine wpList_push rfl owB_ok (.tmp 16) (.tmp 18) 24 rfl Try.underlying24 hi0 hz0 hs0 hb0 rfl (by omega) (v := .slice x k d) rfl HX.out.1 (q := wr.heap.size + 1) (c' := [.slice (some ⟨wr.heap.size, 0, none⟩) 0 0]) (a' := []) (G := fun y => y = wr.heap.size) rfl (laid2 wr _ _).2 rfl (by intro u hu; simp only [List.mem_cons, List.not_mem_nil, or_false] at hu; rcases hu with rfl; rfl) HX.out.2.1 HX.out.2.2 (by have := HE.out.2; rw [List.length_replicate]; unfold maxLen; omega) (by have := HE.out.2; rw [List.length_replicate]; omega) ?_)
        intro v' wz F' hOw hF' hgrow
        obtain ⟨x2, d2, e, _⟩ := owS_slice hOw
        rw [List.length_append, List.length_replicate] at e
        replace e : v' = .slice x2 (k + 1) d2 := e
        subst e
        have hb7 := (D.out.below (below_lit2 wr (.cells #[] 5) (.cells #[.slice (some ⟨wr.heap.size, 0, none⟩) 0 0] 22))).grown hgrow
        have t5 := cellsA hb7 0 rfl
        have f5 := freeA hb7 0
        have HP : Hd (DnAt w (k + 1) x2 d2 F' (wz.setCell ⟨w.heap.size + 1, 0, none⟩ (.slice x2 (k + 1) d2))) := ⟨(D.out.below (below_lit2 wr _ _)).push hgrow hOw (fun y hy => by
          have h7 := lt_of_block D.out.box
          rcases hF' y hy with h | h | h
          · exact D.out.low y h
          · omega
          · omega)⟩
        clear hb7 hOw hF' hgrow D HX hi0 hz0 hs0 hb0 c0
        go_wp2_with fail
        go_roundw
        case rel => exact ⟨k + 1, by omega, by have := HE.out.2; go_num, ⟨⟨_, _, _, HP.out⟩⟩⟩
        case measure => have := HE.out.2; simp [intOf]; omega
      · have HE2 : Hd (R = ⟨List.replicate k [], [], -1, false⟩) := ⟨by rw [HE.out.1, show k = m by omega]⟩
        clear HE
        have c1 := cellsA D.out.box 1 rfl
        have c2 := cellsA D.out.box 2 rfl
        have c3 := cellsA D.out.box 3 rfl
        have z0 := cellsA D.out.res 0 rfl
        have z1 := cellsA D.out.res 1 rfl
        have z2 := cellsA D.out.res 2 rfl
        have z3 := cellsA D.out.res 3 rfl
        have s0 := freeA D.out.res 0
        have s1 := freeA D.out.res 1
        have s2 := freeA D.out.res 2
        have s3 := freeA D.out.res 3
        go_wp2_with fail
        refine bodyPost_ret (results_cell_row rfl _ _ w.heap.size _ _ (0, 0) _ rfl (four_at D.out.res _ _ _ _) Try.underlying27 rfl (by kernel_rfl)) rfl ?_
        rw [HE2.out]
        exact four_ans D.out.bel (Nat.le_refl _) (F := F) ⟨_, _, _, none, 0, 0, F, fun _ => False, rfl, D.out.own, owS_nil _ 2 35 OwWr, fun _ _ h => h, fun x => by simp⟩ (fun x h => by have := D.out.low x h; omega)

end Go.Proofs.Ytidbhdlhcmjhkaa
