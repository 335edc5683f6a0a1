/- Contracts of the library's slices.Grow of nil and slices.Concat of two slices of bytes. -/
import Derived.Test.YtjbideiifoadkaaDoorApp
import Derived.Lib.AppendZeros
namespace Go.Proofs.YtjbideiifoadkaaDoor
set_option maxRecDepth 4000
open Go.RowKit

/-- A slice of bytes of new memory, or nil where there is none. -/
def OwnO (w : World) (B : Nat) (ao : Option Addr) (c : Nat) (bs : List UInt8) : Prop :=
  (ao = none ∧ c = 0 ∧ bs = []) ∨ ∃ q, ao = some ⟨q, 0, none⟩ ∧ B ≤ q ∧ Own w q c bs
theorem ownO_of {w : World} {B n : Nat} {v : Value} {bs : List UInt8} (h : w.ownsRow B 5 1 v n (bs.map cb)) : ∃ ao c, v = .slice ao n c ∧ OwnO w B ao c bs := by
  by_cases hv : v = .slice none 0 0
  · subst hv
    have hn : n = 0 := by
      rcases h.2 with ⟨_, h0⟩ | ⟨g, cap, cur, h', _⟩
      · exact h0
      · cases h'
    have hl : bs.length = n := by simpa using h.1
    subst hn
    exact ⟨none, 0, rfl, .inl ⟨rfl, rfl, List.eq_nil_of_length_eq_zero hl⟩⟩
  · obtain ⟨g, c, rfl, hb, hO⟩ := own_row h hv
    exact ⟨_, c, rfl, .inr ⟨g, rfl, hb, hO⟩⟩
theorem OwnO.owns {w : World} {B c n : Nat} {ao : Option Addr} {bs : List UInt8} (h : OwnO w B ao c bs) (hn : bs.length = n) : w.ownsRow B 5 1 (.slice ao n c) n (bs.map cb) := by
  rcases h with ⟨rfl, rfl, rfl⟩ | ⟨q, rfl, hb, hO⟩
  · simp at hn; subst hn; exact World.ownsRow_nil w B _ _
  · exact hO.owns hn hb
theorem OwnO.reads {w : World} {B c n : Nat} {ao : Option Addr} {bs : List UInt8} (h : OwnO w B ao c bs) (hn : bs.length = n) : Reads w ao n bs := by
  rcases h with ⟨rfl, rfl, rfl⟩ | ⟨q, rfl, hb, hO⟩
  · exact ⟨hn, .inl (by simpa using hn.symm)⟩
  · exact hO.row.reads hn
theorem OwnO.below {w w' : World} {B c : Nat} {ao : Option Addr} {bs : List UInt8} (h : OwnO w B ao c bs) (hb : Below w.heap.size w w') : OwnO w' B ao c bs := by
  rcases h with h | ⟨q, rfl, h1, hO⟩
  · exact .inl h
  · exact .inr ⟨q, rfl, h1, hO.below hb⟩
theorem OwnO.mono {w : World} {B B' c : Nat} {ao : Option Addr} {bs : List UInt8} (h : OwnO w B ao c bs) (hb : B' ≤ B) : OwnO w B' ao c bs := by
  rcases h with h | ⟨q, rfl, h1, hO⟩
  · exact .inl h
  · exact .inr ⟨q, rfl, by omega, hO⟩

theorem reads_none {w : World} {m : Nat} {ys : List UInt8} (h : Reads w none m ys) : m = 0 ∧ ys = [] := by
  have h0 : m = 0 := by
    rcases h.2 with h0 | ⟨b, off, e, _⟩
    · exact h0
    · cases e
  subst h0
  exact ⟨rfl, List.eq_nil_of_length_eq_zero h.1⟩
theorem Reads.news {w : World} {a : Addr} {m : Nat} {ys : List UInt8} (h : Reads w (some a) m ys) : ∀ j u, (ys.map cb)[j]? = some u → w.cell? (a.add j) = some u := by
  rcases h.2 with h0 | ⟨b, off, e, hc⟩
  · intro j u hu
    have : ys = [] := List.eq_nil_of_length_eq_zero (h.1.trans h0)
    subst this; cases hu
  · cases e; exact map_cb_cell h.1 hc

/-- append of whatever slice onto one of the call's own, nil ones too. -/
theorem run_app_o (w : World) (ty : TypeId) (base n : Nat) (v : Value) (xs ys : List UInt8) (hown : w.ownsRow base 5 1 v n (xs.map cb)) (hbw : base ≤ w.heap.size) (ao : Option Addr) (m cc : Nat) (hr : Reads w ao m ys) (hlim : n + m ≤ 2147483648) :
    ∃ v' w', (Builtin.append_ #[22, 22] ty #[v, .slice ao m cc]).run Tryd.prog w = .ok v' w' ∧ w'.ownsRow base 5 1 v' (n + m) ((xs ++ ys).map cb) ∧ w.grownBy w' v.ownBlock := by
  obtain ⟨i0, hi, hz0, hz1, hz2⟩ := info_parts info8
  cases ao with
  | some a =>
    obtain ⟨v', w', h1, h2, h3, _, _⟩ := run_append_own_at (P := Tryd.prog) w base 22 ty 5 i0 (.int .u8 0) 1 1 Tryd.underlying22 hi hz0 hz1 hz2 rfl (by decide) v n (xs.map cb) hown a m cc (ys.map cb) (by simpa using hr.1) hr.news (one_cb ys) (by unfold maxLen; omega) (by omega) hbw
    exact ⟨v', w', h1, by rw [List.map_append]; exact h2, h3⟩
  | none =>
    obtain ⟨rfl, rfl⟩ := reads_none hr
    refine ⟨v, w, ?_, by simpa using hown, ⟨rfl, rfl, rfl, Nat.le_refl _, fun _ _ _ => rfl⟩⟩
    rcases hown.2 with ⟨rfl, rfl⟩ | ⟨g, cap, cur, rfl, hbg, hg, hnc, hcm, hcs, htake⟩
    · simp [Builtin.append_, run_underlying Tryd.underlying22, sizeOf, typeInfo, hi, Builtin.lenOf, Builtin.firstCells]
    · simp [Builtin.append_, run_underlying Tryd.underlying22, sizeOf, typeInfo, hi, Builtin.lenOf, Builtin.firstCells, loadCells, hnc, storeCells]
theorem wpList_app_o {w : World} {ops : Array Oper} {rest : List Oper} {o : Oper} {a : Act} {Q : Exit → Act → World → Prop} (hgd : o.guard = none) (s x : Operand)
    (ho : o.op = .call { callee := .builtin .append, args := #[s, x], argTypes := #[22, 22] })
    (base n : Nat) (v : Value) (xs ys : List UInt8) (hs : a.eval s = v) (hown : w.ownsRow base 5 1 v n (xs.map cb)) (hbw : base ≤ w.heap.size) (ao : Option Addr) (m cc : Nat) (hx : a.eval x = .slice ao m cc) (hr : Reads w ao m ys) (hlim : n + m ≤ 2147483648)
    (h : ∀ v' w', w'.ownsRow base 5 1 v' (n + m) ((xs ++ ys).map cb) → w.grownBy w' v.ownBlock → wpList Tryd.prog ops Q rest (a.put o.dst v') w') : wpList Tryd.prog ops Q (o :: rest) a w := by
  refine wpList_plain hgd fun _ hK => ?_
  obtain ⟨v', w', hrun, h1, h2⟩ := run_app_o w o.type base n v xs ys hown hbw ao m cc hr hlim
  unfold Oper.wp execOp
  simp only [ho, resolve, invoke, builtin, Sem.run_bind, Sem.run_pure, Result.andThen_ok, List.map_toArray, List.map_cons, List.map_nil, hs, hx, hrun]
  exact hK _ _ (h v' w' h1 h2)

set_option maxHeartbeats 400000 in
theorem grow_zero (w : World) : Calls Tryd.prog 76 #[.slice none 0 0, .int .i64 0] w fun e w' => e = .returned (.slice none 0 0) ∧ w = w' := by
  go_enter Tryd.func76, Tryd.ntmps76
  go_wp2
  go_ret
  exact ⟨rfl, rfl⟩

set_option maxHeartbeats 400000 in
theorem grow_some (n : Nat) (w : World) (h0 : 0 < n) (hn : n ≤ 2147483648) : Calls Tryd.prog 76 #[.slice none 0 0, .int .i64 (n : Int)] w fun e w' => ∃ c, e = .returned (.slice (some ⟨w.heap.size, 0, none⟩) 0 c) ∧ Own w' w.heap.size c [] ∧ Below w.heap.size w w' := by
  obtain ⟨i0, hi, hz0, hz1, hz2⟩ := info_parts info8
  have h1 : ¬ (n : Int) < 0 := by omega
  have h2 : (0 : Int) < (n : Int) := by omega
  have hw : wrap64 (n : Int) = (n : Int) := wrap64_in (by omega) (by omega)
  obtain ⟨C, hC⟩ : ∃ C, grownCap w n 0 5 = C := ⟨_, rfl⟩
  have hge := grownCap_ge w n 0 5
  have hle := grownCap_le_maxLen w n 0 5 (by unfold maxLen; omega)
  have hr := fun ty => Lib.run_append_nil_zeros (P := Tryd.prog) w 22 3 ty 5 i0 (.int .u8 0) .i64 .i64 Tryd.underlying22 Tryd.underlying3 hi hz0 n h0 (by omega) (by omega) (by rw [hz2]; omega)
  rw [hC] at hge hle
  have HO : Hd (Own (w.drew.alloc (.cells (Builtin.zeroCells (Value.int .u8 0).cells n ++ Builtin.zeroCells (Value.int .u8 0).cells (C - n)) 5)) w.heap.size C []) := ⟨⟨_, heap_alloc_new w.drew _, by simp, hle, by rw [Array.size_append, size_zeroCells, size_zeroCells]; simp [Value.cells]; omega, by simp⟩⟩
  have HB : Hd (Below w.heap.size w (w.drew.alloc (.cells (Builtin.zeroCells (Value.int .u8 0).cells n ++ Builtin.zeroCells (Value.int .u8 0).cells (C - n)) 5))) := ⟨Below.next (Below.refl _ w).drew (below_lit _ _)⟩
  simp only [hC] at hr
  have hcI : (0 : Int) ≤ (C : Int) := by omega
  have HR : Hd (∀ ty, (Builtin.append_ #[22, 3] ty #[.slice none 0 0, .int .i64 (n : Int)]).run Tryd.prog w = .ok (.slice (some ⟨w.heap.size, 0, none⟩) n C) (w.drew.alloc (.cells (Builtin.zeroCells (Value.int .u8 0).cells n ++ Builtin.zeroCells (Value.int .u8 0).cells (C - n)) 5))) := ⟨hr⟩
  generalize w.drew.alloc (.cells (Builtin.zeroCells (Value.int .u8 0).cells n ++ Builtin.zeroCells (Value.int .u8 0).cells (C - n)) 5) = w1 at *
  clear hr hge hle hC
  go_enter Tryd.func76, Tryd.ntmps76
  go_wp2_with (at_builtin; refine Lib.wpList_append_run _ rfl (.tmp 20) (.tmp 21) 22 3 rfl _ _ rfl rfl _ _ (HR.out _) ?_)
  go_ret
  exact ⟨C, rfl, HO.out, HB.out⟩

/-- What slices.Concat answers. -/
structure Joined (w : World) (bs : List UInt8) (e : Ending) (w' : World) : Prop where
  out : ∃ ao c, e = .returned (.slice ao bs.length c) ∧ OwnO w' w.heap.size ao c bs ∧ Below w.heap.size w w'

theorem grow_any (n : Nat) (w : World) (hn : n ≤ 2147483648) : Calls Tryd.prog 76 #[.slice none 0 0, .int .i64 (n : Int)] w fun e w' => ∃ ao c, e = .returned (.slice ao 0 c) ∧ OwnO w' w.heap.size ao c [] ∧ Below w.heap.size w w' := by
  by_cases h0 : n = 0
  · subst h0
    refine (grow_zero w).mono ?_
    rintro e w1 ⟨rfl, rfl⟩
    exact ⟨none, 0, rfl, .inl ⟨rfl, rfl, rfl⟩, Below.refl _ _⟩
  · refine (grow_some n w (by omega) hn).mono ?_
    rintro e w1 ⟨c, rfl, hO, hB⟩
    exact ⟨_, c, rfl, .inr ⟨_, rfl, Nat.le_refl _, hO⟩, hB⟩

theorem cells2 (w : World) (g : Nat) (a b : Value) (T : TypeId) (hg : w.heap[g]? = some (.cells #[a, b] T (0, 0))) : w.cell? ⟨g, 0, none⟩ = some a ∧ w.cell? ⟨g, 1, none⟩ = some b := by
  refine ⟨?_, ?_⟩
  · rw [cell_of_row w g 0 _ _ (0, 0) hg]; rfl
  · rw [cell_of_row w g 1 _ _ (0, 0) hg]; rfl

set_option maxHeartbeats 1000000 in
theorem concat_two (g l1 c1 l2 c2 : Nat) (a1 a2 : Option Addr) (xs ys : List UInt8) (w : World) (hg : w.heap[g]? = some (.cells #[.slice a1 l1 c1, .slice a2 l2 c2] 22 (0, 0))) (h1 : Reads w a1 l1 xs) (h2 : Reads w a2 l2 ys) (hl1 : l1 ≤ 1073741824) (hl2 : l2 ≤ 1073741824) :
    Calls Tryd.prog 55 #[.slice (some ⟨g, 0, none⟩) 2 2] w (Joined w (xs ++ ys)) := by
  obtain ⟨k0, k1⟩ := cells2 w g _ _ _ hg
  have H1 : Hd (Reads w a1 l1 xs) := ⟨h1⟩
  have H2 : Hd (Reads w a2 l2 ys) := ⟨h2⟩
  have K : Hd (w.cell? ⟨g, 0, none⟩ = some (.slice a1 l1 c1) ∧ w.cell? ⟨g, 1, none⟩ = some (.slice a2 l2 c2)) := ⟨k0, k1⟩
  have w1 : wrap64 (l1 : Int) = (l1 : Int) := wrap64_in (by omega) (by omega)
  have w2 : wrap64 ((l1 : Int) + (l2 : Int)) = (l1 : Int) + (l2 : Int) := wrap64_in (by omega) (by omega)
  have n1 : ¬ (l1 : Int) < 0 := by omega
  have n2 : ¬ (l1 : Int) + (l2 : Int) < 0 := by omega
  clear h1 h2 hg
  go_enter Tryd.func55, Tryd.ntmps55
  go_wp2_with fail
  refine wp_loop_rounds 3 ?_
  rewrite [rounds_succ]
  go_wp2_with fail
  rewrite [rounds_succ]
  go_wp2_with fail
  rewrite [rounds_succ]
  go_wp2_with fail
  have hL : (l1 : Int) + (l2 : Int) = ((l1 + l2 : Nat) : Int) := by omega
  rewrite [hL]
  refine (grow_any (l1 + l2) w (by omega)).mono ?_
  rintro e w3 ⟨ag, cg, rfl, hO, hB⟩
  have HB : Hd (Below w.heap.size w w3) := ⟨hB⟩
  have HO : Hd (w3.ownsRow w.heap.size 5 1 (.slice ag 0 cg) 0 (([] : List UInt8).map cb)) := ⟨hO.owns rfl⟩
  clear k0 k1 hO hB hL w1 w2 n1 n2
  have k0 := cell_below K.out.1 HB.out
  have k1 := cell_below K.out.2 HB.out
  generalize hv0 : Value.slice ag 0 cg = v0 at *
  clear hv0
  go_wp2_with fail
  refine wp_loop_rounds 3 ?_
  rewrite [rounds_succ]
  go_wp2_with (at_builtin; refine wpList_app_o rfl (.tmp 31) (.tmp 32) rfl w.heap.size 0 v0 [] xs rfl HO.out HB.out.size a1 l1 c1 rfl (H1.out.below rfl HB.out) (by omega) ?_)
  intro v1 w4 hO4 hG4
  have HB4 : Hd (Below w.heap.size w w4) := ⟨HB.out.grown hG4 HB.out.size (fun k e => own_block HO.out e)⟩
  have HO4 : Hd (w4.ownsRow w.heap.size 5 1 v1 l1 (xs.map cb)) := ⟨hO4⟩
  clear hO4 hG4 k0 k1 HB HO
  have k0 := cell_below K.out.1 HB4.out
  have k1 := cell_below K.out.2 HB4.out
  go_wp2_with fail
  rewrite [rounds_succ]
  go_wp2_with (at_builtin; refine wpList_app_o rfl (.tmp 31) (.tmp 32) rfl w.heap.size l1 v1 xs ys rfl HO4.out HB4.out.size a2 l2 c2 rfl (H2.out.below rfl HB4.out) (by omega) ?_)
  intro v2 w5 hO5 hG5
  have HB5 : Hd (Below w.heap.size w w5) := ⟨HB4.out.grown hG5 HB4.out.size (fun k e => own_block HO4.out e)⟩
  have HO5 : Hd (w5.ownsRow w.heap.size 5 1 v2 (l1 + l2) ((xs ++ ys).map cb)) := ⟨by rw [List.map_append]; exact hO5⟩
  clear hO5 hG5 k0 k1 HB4 HO4
  have k0 := cell_below K.out.1 HB5.out
  have k1 := cell_below K.out.2 HB5.out
  go_wp2_with fail
  rewrite [rounds_succ]
  go_wp2_with fail
  go_ret
  obtain ⟨ao, c, rfl, hO⟩ := ownO_of HO5.out
  have e1 := H1.out.1
  have e2 := H2.out.1
  exact ⟨ao, c, by rw [List.length_append, e1, e2]; rfl, hO, HB5.out⟩

end Go.Proofs.YtjbideiifoadkaaDoor
