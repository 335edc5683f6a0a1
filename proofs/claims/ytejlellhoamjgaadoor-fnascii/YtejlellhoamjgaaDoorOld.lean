/- The contract of oldSets, an iterator, and of bestOld, which ranges over it, in the program. -/
import Derived.Test.YtejlellhoamjgaaDoorOldP
import Derived.RangeFuncNested
import Derived.RangeFuncBound
import Derived.RangeFuncCalls
import Derived.RangeFuncLeaves
import Derived.Shelf.Abstract
import Derived.Shelf.RegionOpen
import Derived.WalkKit
import Derived.OwnWalkIn
import Derived.TacticsInMore
import Derived.LoopNIn
import Derived.LoopIn
namespace Go.Proofs.YtejlellhoamjgaaDoor
set_option maxRecDepth 4000
open Go.RowKit Go.Shelf

attribute [local go_sem] Oper.semAt_some

set_option maxHeartbeats 1000000 in
theorem oldSets_stops (F : Fence) (n : Nat) (h33 : F.fn 33) (hro : F.round = none) (hn : 1 ≤ n) (w : World) :
    SeqStopsK F n Tryd.prog 33 #[] (fun v : Int => #[Value.int .i64 v]) KeepsWalks (fun xs => xs = upto 5) (fun _ => True) 5 w := fun l J Jx W _ _ _ hY h0 => by
  refine callsIn_of_wp Tryd.func33 rfl h33 ?_ hro
  simp only [Tryd.ntmps33, List.size_toArray, List.length_cons, List.length_nil, Nat.reduceAdd, Nat.reduceSub, Array.replicate_succ, Array.replicate_zero, List.push_toArray, List.append_toArray, List.nil_append, List.cons_append]
  gi_wp2
  gi_loopw [2] (fun v wr => ∃ k : Nat, v = .int .i64 ((k : Int) + 1) ∧ k ≤ 5 ∧ J (upto k) wr) (fun v _ => 6 - (intOf v).toNat)
  case atStart => exact ⟨0, rfl, by omega, h0⟩
  case round =>
    obtain ⟨k, rfl, hk, hJs⟩ := hrel
    by_cases hlt : k < 5
    · have hkI : (k : Int) + 1 ≤ 5 := by omega
      obtain ⟨fn, tmps, assign, body, hy, hR⟩ := hY (upto k) ((k : Int) + 1) wr hJs (by rw [upto_len]; exact hlt)
      rw [← upto_succ] at hR
      gi_wp2
      refine hR.mono ?_
      rintro e W3 (⟨rfl, hJ3, _⟩ | ⟨rfl, hJx3⟩)
      · gi_wp2
        go_roundw
        case rel => exact ⟨k + 1, by go_num, by omega, hJ3⟩
        case measure => simp [intOf]; omega
      · gi_wp2
        refine bodyPost_ret (results_none rfl _ _ _) rfl ?_
        exact ⟨⟨_, rfl⟩, .inr ⟨_, trivial, hJx3⟩⟩
    · obtain rfl : k = 5 := by omega
      gi_wp2
      go_end0
      exact ⟨⟨_, rfl⟩, .inl ⟨upto 5, rfl, hJs⟩⟩

/-- What lies in the boxes of bestOld. -/
structure OldAt (v : Value) (h : Nat) (s : Best) (W : World) : Prop where
  box : Boxed W h 22 v
  set : Boxed W (h + 1) 3 (.int .i64 s.set)
  most : Boxed W (h + 1 + 1) 3 (.int .i64 s.most)
  found : Boxed W (h + 1 + 1 + 1) 4 (.bool s.found)
theorem OldAt.own (v : Value) (h : Nat) (f : List Int → Best) : Go.Own fun pre W => OldAt v h (f pre) W := fun s A B row hs hg hr => by
  have ne : ∀ {x : Nat} {t : TypeId} {u : Value}, Boxed A x t u → some x ≠ row := fun hb e => by
    obtain ⟨o, ho, hc⟩ := hr _ e.symm
    rw [show A.heap[_]? = _ from hb] at ho
    cases ho
    cases hc
  exact ⟨hs.box.kept hg (ne hs.box), hs.set.kept hg (ne hs.set), hs.most.kept hg (ne hs.most), hs.found.kept hg (ne hs.found)⟩
theorem OldAt.below {v : Value} {h : Nat} {s : Best} {W W' : World} (k : OldAt v h s W) (hb : Below W.heap.size W W') : OldAt v h s W' := by
  have go : ∀ {x : Nat} {t : TypeId} {u : Value}, Boxed W x t u → Boxed W' x t u := fun hx => (hb.block _ hx.lt).trans hx
  exact ⟨go k.box, go k.set, go k.most, go k.found⟩
theorem keeps_below {W W' : World} (hb : Below W.heap.size W W') : KeepsOthers W W' := ⟨hb.size, fun k _ hk _ => (hb.block k (Array.getElem?_eq_some_iff.1 hk).1).trans hk⟩

theorem OldAt.put {v : Value} {h : Nat} {s : Best} {W : World} (k : OldAt v h s W) (cs m : Int) (f : Bool) : OldAt v h ⟨cs, m, f⟩ (((W.setCell ⟨h + 1, 0, none⟩ (.int .i64 cs)).setCell ⟨h + 1 + 1, 0, none⟩ (.int .i64 m)).setCell ⟨h + 1 + 1 + 1, 0, none⟩ (.bool f)) :=
  ⟨((k.box.other (by omega) _).other (by omega) _).other (by omega) _, ((k.set.set _).other (by omega) _).other (by omega) _, (((k.most.other (by omega) _).set _)).other (by omega) _, ((k.found.other (by omega) _).other (by omega) _).set _⟩
theorem three_keep (W : World) (h : Nat) (a b c : Value) : KeepsOthers W (((W.setCell ⟨h + 1, 0, none⟩ a).setCell ⟨h + 1 + 1, 0, none⟩ b).setCell ⟨h + 1 + 1 + 1, 0, none⟩ c) :=
  ((KeepsOthers.setCell _ _ _).trans (KeepsOthers.setCell _ _ _)).trans (KeepsOthers.setCell _ _ _)
theorem three_below {n : Nat} {w W : World} (k : Below n w W) (h : Nat) (hn : n ≤ h) (a b c : Value) : Below n w (((W.setCell ⟨h + 1, 0, none⟩ a).setCell ⟨h + 1 + 1, 0, none⟩ b).setCell ⟨h + 1 + 1 + 1, 0, none⟩ c) :=
  ((k.setCell (p := ⟨h + 1, 0, none⟩) (by show n ≤ h + 1; omega) a).setCell (p := ⟨h + 1 + 1, 0, none⟩) (by show n ≤ h + 1 + 1; omega) b).setCell (p := ⟨h + 1 + 1 + 1, 0, none⟩) (by show n ≤ h + 1 + 1 + 1; omega) c

set_option maxRecDepth 100000 in
set_option maxHeartbeats 2000000 in
theorem bestOld_any (b off len cap : Nat) (bs : List UInt8) (w : World) (hn : bs.length = len) (hlc : len ≤ cap) (hc : ∀ j, j < len → w.cell? ⟨b, off + j, none⟩ = some (.int .u8 ((bs.getD j 0).toNat : Int))) (hl : len ≤ 1048576) (T : Hd (AllW w)) :
    Calls Tryd.prog 23 #[.slice (some ⟨b, off, none⟩) len cap] w (NumB w (bestOf bs (upto 5)).set (bestOf bs (upto 5)).found) := by
  have Hn : Hd (bs.length = len) := ⟨hn⟩
  have Hc : Hd (∀ j, j < len → w.cell? ⟨b, off + j, none⟩ = some (.int .u8 ((bs.getD j 0).toNat : Int))) := ⟨hc⟩
  clear hn hc
  refine (callsIn_wide (n := 3)).1 ?_
  refine callsIn_of_wp_marks Tryd.func23 rfl trivial ?_ rfl
  simp only [Tryd.ntmps23, List.size_toArray, List.length_cons, List.length_nil, Nat.reduceAdd, Nat.reduceSub, Array.replicate_succ, Array.replicate_zero, List.push_toArray, List.append_toArray, List.nil_append, List.cons_append]
  gi_wp2
  obtain ⟨W0, hW0⟩ : ∃ W0, ((((w.alloc (.cells #[Value.slice (some ⟨b, off, none⟩) len cap] 22)).alloc (.cells #[.int .i64 0] 3)).alloc (.cells #[.int .i64 0] 3)).alloc (.cells #[.bool false] 4)) = W0 := ⟨_, rfl⟩
  have hB0 : Below w.heap.size w W0 := by
    rw [← hW0]
    exact ((((Below.refl _ w).alloc (Nat.le_refl _) _).alloc (by simp) _).alloc (by simp; omega) _).alloc (by simp; omega) _
  have hO0 : OldAt (.slice (some ⟨b, off, none⟩) len cap) w.heap.size (bestOf bs []) W0 := by
    rw [← hW0]
    have b0 := Boxed.new w 22 (.slice (some ⟨b, off, none⟩) len cap)
    have b1 := Boxed.new (w.alloc (.cells #[Value.slice (some ⟨b, off, none⟩) len cap] 22)) 3 (.int .i64 0)
    have b2 := Boxed.new ((w.alloc (.cells #[Value.slice (some ⟨b, off, none⟩) len cap] 22)).alloc (.cells #[.int .i64 0] 3)) 3 (.int .i64 0)
    have b3 := Boxed.new (((w.alloc (.cells #[Value.slice (some ⟨b, off, none⟩) len cap] 22)).alloc (.cells #[.int .i64 0] 3)).alloc (.cells #[.int .i64 0] 3)) 4 (.bool false)
    simp only [World.size_alloc] at b1 b2 b3
    exact ⟨((b0.alloc _).alloc _).alloc _, (b1.alloc _).alloc _, b2.alloc _, b3⟩
  rw [hW0]
  refine wpIn_rangeFunc_ownF (F := Fence.wide) (n := 3) rfl (by omega) (gf := 33) (lb := #[]) rfl trivial (enters_of Tryd.func33 (by kernel_rfl) rfl)
    (oldSets_stops Fence.wide (3 - 1) trivial rfl (by omega) W0) walksK_t walksK_b (Below.refl _ _) (fun _ => rfl)
    (fun pre W => OldAt (.slice (some ⟨b, off, none⟩) len cap) w.heap.size (bestOf bs pre) W ∧ Below w.heap.size w W) (fun _ _ _ => False)
    (OwnFrom.and (Go.Own.from (OldAt.own (.slice (some ⟨b, off, none⟩) len cap) w.heap.size (bestOf bs)) _) (ownFrom_below (Nat.le_refl _) hB0.size))
    (fun _ _ _ _ _ hs _ _ => hs) ⟨hO0, hB0⟩
    (fun x => { tmps := #[.slice (some ⟨b, off, none⟩) len cap, .pointer (some ⟨w.heap.size, 0, none⟩), .int .i64 0, .bool false, .pointer (some ⟨w.heap.size + 1, 0, none⟩), .pointer (some ⟨w.heap.size + 1 + 1, 0, none⟩), .pointer (some ⟨w.heap.size + 1 + 1 + 1, 0, none⟩), .int .i64 x, undef, undef, .int .i64 x, undef, undef, undef, undef, undef, undef, undef, undef, undef, undef, undef, undef, undef, undef, undef, undef, undef, undef, undef, undef], defers := [] }) ?assign ?body ?done ?stop
  case assign =>
    intro l x W K hK
    gi_wp2
    exact hK
  case body =>
    rintro l pre x W ⟨hO', hB'⟩ _
    have hd : 1 ≤ 3 - 1 - 1 := by omega
    have HS : Hd (Calls Tryd.prog 15 #[.int .i64 x, .slice (some ⟨b, off, none⟩) len cap] W (NumB W (scoN x bs) (decOk x bs))) := ⟨implScore_any x b off len cap bs W Hn.out hlc (fun j hj => cell_below (Hc.out j hj) hB') hl ⟨T.out.below hB'⟩⟩
    have hB : Hd (Below w.heap.size w W) := ⟨hB'⟩
    have HF : Hd (bestOf bs (pre ++ [x]) = bestStep bs (bestOf bs pre) x) := ⟨bestOf_snoc bs pre x⟩
    have cb := hO'.box.cell
    generalize bestOf bs pre = s at *
    have hO : Hd (OldAt (.slice (some ⟨b, off, none⟩) len cap) w.heap.size s W) := ⟨hO'⟩
    clear hO' hB' hO0 hB0 hW0
    cases ho : decOk x bs with
    | false =>
      have HE : Hd (bestOf bs (pre ++ [x]) = s) := ⟨by rw [HF.out]; exact step_no ho⟩
      rw [ho] at HS
      gi_wp2_with (refine ⟨trivial, ?_⟩; gi_at_call 15; refine (CallsIn.inRound l (callsIn_wide.2 HS.out)).mono ?_; rintro e W1 ⟨rfl, hB1⟩; have K1 : Hd (Below W.heap.size W W1) := ⟨hB1⟩; clear hB1)
      exact ⟨keeps_below K1.out, (keeps_below K1.out).walks, by rw [HE.out]; exact hO.out.below K1.out, Below.next hB.out K1.out⟩
    | true =>
      rw [ho] at HS
      obtain ⟨st, mo, fo⟩ := s
      cases fo with
      | false =>
        have HE : Hd (bestOf bs (pre ++ [x]) = ⟨x, scoN x bs, true⟩) := ⟨by rw [HF.out]; exact step_first ho rfl⟩
        clear ho HF
        generalize scoN x bs = sc at *
        gi_wp2_with (refine ⟨trivial, ?_⟩; gi_at_call 15; refine (CallsIn.inRound l (callsIn_wide.2 HS.out)).mono ?_; rintro e W1 ⟨rfl, hB1⟩; have hO1 := hO.out.below hB1; have c1 : W1.cell? ⟨w.heap.size + 1, 0, none⟩ = some (.int .i64 st) := hO1.set.cell; have c2 : W1.cell? ⟨w.heap.size + 1 + 1, 0, none⟩ = some (.int .i64 mo) := hO1.most.cell; have c3 : W1.cell? ⟨w.heap.size + 1 + 1 + 1, 0, none⟩ = some (.bool false) := hO1.found.cell; have f1 := hO1.set.frozen; have f2 := hO1.most.frozen; have f3 := hO1.found.frozen; have K1 : Hd (Below W.heap.size W W1) := ⟨hB1⟩; clear hB1 hO1)
        exact ⟨(keeps_below K1.out).trans (three_keep _ _ _ _ _), ((keeps_below K1.out).trans (three_keep _ _ _ _ _)).walks, by rw [HE.out]; exact (hO.out.below K1.out).put _ _ _, three_below (Below.next hB.out K1.out) _ (Nat.le_refl _) _ _ _⟩
      | true =>
        by_cases hm : mo < scoN x bs
        · have HE : Hd (bestOf bs (pre ++ [x]) = ⟨x, scoN x bs, true⟩) := ⟨by rw [HF.out]; exact step_more ho hm⟩
          clear ho HF
          generalize scoN x bs = sc at *
          gi_wp2_with (refine ⟨trivial, ?_⟩; gi_at_call 15; refine (CallsIn.inRound l (callsIn_wide.2 HS.out)).mono ?_; rintro e W1 ⟨rfl, hB1⟩; have hO1 := hO.out.below hB1; have c1 : W1.cell? ⟨w.heap.size + 1, 0, none⟩ = some (.int .i64 st) := hO1.set.cell; have c2 : W1.cell? ⟨w.heap.size + 1 + 1, 0, none⟩ = some (.int .i64 mo) := hO1.most.cell; have c3 : W1.cell? ⟨w.heap.size + 1 + 1 + 1, 0, none⟩ = some (.bool true) := hO1.found.cell; have f1 := hO1.set.frozen; have f2 := hO1.most.frozen; have f3 := hO1.found.frozen; have K1 : Hd (Below W.heap.size W W1) := ⟨hB1⟩; clear hB1 hO1)
          exact ⟨(keeps_below K1.out).trans (three_keep _ _ _ _ _), ((keeps_below K1.out).trans (three_keep _ _ _ _ _)).walks, by rw [HE.out]; exact (hO.out.below K1.out).put _ _ _, three_below (Below.next hB.out K1.out) _ (Nat.le_refl _) _ _ _⟩
        · have HE : Hd (bestOf bs (pre ++ [x]) = ⟨st, mo, true⟩) := ⟨by rw [HF.out]; exact step_less rfl hm⟩
          clear ho HF
          generalize scoN x bs = sc at *
          gi_wp2_with (refine ⟨trivial, ?_⟩; gi_at_call 15; refine (CallsIn.inRound l (callsIn_wide.2 HS.out)).mono ?_; rintro e W1 ⟨rfl, hB1⟩; have hO1 := hO.out.below hB1; have c1 : W1.cell? ⟨w.heap.size + 1, 0, none⟩ = some (.int .i64 st) := hO1.set.cell; have c2 : W1.cell? ⟨w.heap.size + 1 + 1, 0, none⟩ = some (.int .i64 mo) := hO1.most.cell; have c3 : W1.cell? ⟨w.heap.size + 1 + 1 + 1, 0, none⟩ = some (.bool true) := hO1.found.cell; have f1 := hO1.set.frozen; have f2 := hO1.most.frozen; have f3 := hO1.found.frozen; have K1 : Hd (Below W.heap.size W W1) := ⟨hB1⟩; clear hB1 hO1)
          exact ⟨keeps_below K1.out, (keeps_below K1.out).walks, by rw [HE.out]; exact hO.out.below K1.out, Below.next hB.out K1.out⟩
  case done =>
    rintro D ys W hD rfl ⟨hO, hB⟩ hK
    have hmx : Tryd.prog.follows .mixedOrders = true := by kernel_rfl
    have c1 := hO.set.cell
    have c3 := hO.found.cell
    have HK : Hd (W.heap[D]? = some (.deferred (some []))) := ⟨hK⟩
    have HB : Hd (Below w.heap.size w W) := ⟨hB⟩
    have HD : Hd (w.heap.size ≤ D) := ⟨Nat.le_trans hB0.size hD⟩
    clear hO hB hK hD hO0 hB0 hW0
    generalize (bestOf bs (upto 5)).set = st at *
    generalize (bestOf bs (upto 5)).found = fo at *
    gi_wp2
    gi_region
    all_goals gi_wp2
    all_goals refine ⟨by simp, .inl ⟨_, _, rfl, run_takeDeferred (show W.drew.heap[D]? = _ from HK.out), ?_⟩⟩
    all_goals exact ⟨_, results_tmp2 rfl _ _ _, ⟨rfl, (HB.out.drew).trans (belowK_b (w := w) (Nat.le_refl _) W.drew D _ _ HD.out HK.out rfl rfl)⟩⟩
  case stop =>
    rintro D c pre W _ _ h _
    exact h.elim

end Go.Proofs.YtejlellhoamjgaaDoor
