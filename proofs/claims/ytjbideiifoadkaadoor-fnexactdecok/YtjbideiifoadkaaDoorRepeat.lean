/- The contract of the library's bytes.Repeat of one byte, three times. -/
import Derived.Test.YtjbideiifoadkaaDoorApp
import Derived.Lib.MakeNoZero
namespace Go.Proofs.YtjbideiifoadkaaDoor
set_option maxRecDepth 4000
open Go.RowKit

/-- Block g has room for three bytes, of which the first j are c. -/
structure Buf3 (w : World) (g j : Nat) (c : UInt8) : Prop where
  out : ∃ cur : Array Value, w.heap[g]? = some (.cells cur 5 (0, 0)) ∧ 3 ≤ cur.size ∧ cur.size ≤ maxLen ∧ cur.toList.take j = List.replicate j (cb c)
theorem Buf3.row {w : World} {g : Nat} {c : UInt8} (h : Buf3 w g 3 c) : Row w g [c, c, c] := by
  obtain ⟨cur, h1, h2, h3, h4⟩ := h.out
  exact ⟨cur, h1, h2, h3, h4⟩
theorem Buf3.first {w : World} {g j : Nat} {c : UInt8} (h : Buf3 w g j c) (hj : 0 < j) : w.cell? ⟨g, 0, none⟩ = some (cb c) := by
  obtain ⟨cur, h1, h2, h3, h4⟩ := h.out
  rw [cell_of_row w g 0 cur _ (0, 0) h1]
  have : (cur.toList.take j)[0]? = (List.replicate j (cb c))[0]? := by rw [h4]
  rw [List.getElem?_take, if_pos hj] at this
  simpa [hj] using this
theorem Buf3.drew {w : World} {g j : Nat} {c : UInt8} (h : Buf3 w g j c) : Buf3 w.drew g j c := ⟨h.out⟩
theorem run_copy_one (w : World) (ty : TypeId) (g j dl dc sl sc : Nat) (a : Addr) (c : UInt8) (h : Buf3 w g j c) (hj : j < 3) (hm : Nat.min sl dl = 1) (hsrc : w.cell? a = some (cb c)) :
    ∃ w', (Builtin.copy_ #[22, 22] ty #[.slice (some ⟨g, j, none⟩) dl dc, .slice (some a) sl sc]).run Tryd.prog w = .ok (.int .i64 1) w' ∧ Buf3 w' g (j + 1) c ∧ ∀ B w0, Below B w0 w → B ≤ g → Below B w0 w' := by
  obtain ⟨cur, h1, h2, h3, h4⟩ := h.out
  have hr := run_copy_row (P := Tryd.prog) w 22 22 ty 5 g j dl dc a sl sc cur 5 [cb c] Tryd.underlying22 size8 h1 (by rw [hm]; rfl) (by
    intro k v hk
    match k, hk with
    | 0, hk => simp at hk; subst hk; rw [show a.add 0 = a from by simp [Addr.add]]; exact hsrc
    | k + 1, hk => simp at hk) (by simp; omega) (by intro v hv; simp at hv; subst hv; rfl)
  refine ⟨_, hr, ⟨_, setRow_heap w g cur _ _ _ h1, ?_, ?_, ?_⟩, fun B w0 hb hB => below_setRow hb hB _⟩
  · simp; omega
  · simp; omega
  · have hl : (cur.toList.take j).length = j := by simp; omega
    have e : (cur.toList.take j ++ [cb c] ++ cur.toList.drop (j + [cb c].length)).toArray.toList = cur.toList.take j ++ [cb c] ++ cur.toList.drop (j + 1) := by simp
    rw [e, List.take_append_of_le_length (by simp; omega), List.take_of_length_le (by simp; omega), h4, ← List.replicate_succ']
theorem wp_copy_one {w : World} {o : Oper} {a : Act} {K : Act → World → Prop} {Q : Exit → Act → World → Prop} (d s : Operand)
    (ho : o.op = .call { callee := .builtin .copy, args := #[d, s], argTypes := #[22, 22] })
    (g j dl dc sl sc : Nat) (ad : Addr) (c : UInt8) (hd : a.eval d = .slice (some ⟨g, j, none⟩) dl dc) (hs : a.eval s = .slice (some ad) sl sc) (h : Buf3 w g j c) (hj : j < 3) (hm : Nat.min sl dl = 1) (hsrc : w.cell? ad = some (cb c))
    (hk : ∀ w', Buf3 w' g (j + 1) c → (∀ B w0, Below B w0 w → B ≤ g → Below B w0 w') → K (a.put o.dst (.int .i64 1)) w') : o.wp Tryd.prog a w K Q := by
  obtain ⟨w', hr, h1, h2⟩ := run_copy_one w o.type g j dl dc sl sc ad c h hj hm hsrc
  unfold Oper.wp execOp
  simp only [ho, resolve, invoke, builtin, Sem.run_bind, Sem.run_pure, Result.andThen_ok, List.map_toArray, List.map_cons, List.map_nil, hd, hs, hr]
  exact hk w' h1 h2
theorem wpList_copy_one {w : World} {ops : Array Oper} {rest : List Oper} {o : Oper} {a : Act} {Q : Exit → Act → World → Prop} (hgd : o.guard = none) (d s : Operand)
    (ho : o.op = .call { callee := .builtin .copy, args := #[d, s], argTypes := #[22, 22] })
    (g j dl dc sl sc : Nat) (ad : Addr) (c : UInt8) (hd : a.eval d = .slice (some ⟨g, j, none⟩) dl dc) (hs : a.eval s = .slice (some ad) sl sc) (h : Buf3 w g j c) (hj : j < 3) (hm : Nat.min sl dl = 1) (hsrc : w.cell? ad = some (cb c))
    (hk : ∀ w', Buf3 w' g (j + 1) c → (∀ B w0, Below B w0 w → B ≤ g → Below B w0 w') → wpList Tryd.prog ops Q rest (a.put o.dst (.int .i64 1)) w') : wpList Tryd.prog ops Q (o :: rest) a w :=
  wpList_plain hgd fun _ hK => wp_copy_one d s ho g j dl dc sl sc ad c hd hs h hj hm hsrc fun w' h1 h2 => hK _ _ (hk w' h1 h2)
theorem step_copy_one {w : World} {ops : Array Oper} {o : Oper} {a : Act} {K : Act → World → Prop} {Q : Exit → Act → World → Prop} {E : Prop} (hgd : o.guard = none) (dst : Option Tmp) (hdst : o.dst = dst) (d s : Operand)
    (ho : o.op = .call { callee := .builtin .copy, args := #[d, s], argTypes := #[22, 22] })
    (g j dl dc sl sc : Nat) (ad : Addr) (c : UInt8) (hd : a.eval d = .slice (some ⟨g, j, none⟩) dl dc) (hs : a.eval s = .slice (some ad) sl sc) (h : Buf3 w g j c) (hj : j < 3) (hm : Nat.min sl dl = 1) (hsrc : w.cell? ad = some (cb c))
    (hk : ∀ w', Buf3 w' g (j + 1) c → (∀ B w0, Below B w0 w → B ≤ g → Below B w0 w') → K (a.put dst (.int .i64 1)) w') :
    if Region.wanted o (yielded ops a.tmps) = true then Oper.wp Tryd.prog o a w K Q else E := by
  have hw : Region.wanted o (yielded ops a.tmps) = true := by simp [Region.wanted, hgd]
  rw [if_pos hw]
  subst hdst
  exact wp_copy_one d s ho g j dl dc sl sc ad c hd hs h hj hm hsrc hk

set_option maxHeartbeats 400000 in
theorem mul64_three (w : World) : Calls Tryd.prog 94 #[.int .u64 1, .int .u64 3] w fun e w' => e = .returned (.tuple #[.int .u64 0, .int .u64 3]) ∧ w = w' := by
  go_enter Tryd.func94, Tryd.ntmps94
  go_wp2
  go_ret2
  exact ⟨rfl, rfl⟩

set_option maxHeartbeats 400000 in
theorem mul_three (w : World) : Calls Tryd.prog 77 #[.int .u64 1, .int .u64 3] w fun e w' => e = .returned (.tuple #[.int .u64 0, .int .u64 3]) ∧ w = w' := by
  go_enter Tryd.func77, Tryd.ntmps77
  go_wp2_with fail
  refine (mul64_three w).mono ?_
  rintro e w1 ⟨rfl, rfl⟩
  go_wp2_with fail
  go_ret2
  exact ⟨rfl, rfl⟩

set_option maxHeartbeats 1000000 in
theorem repeat_three (b : Nat) (c : UInt8) (w : World) (hc : w.cell? ⟨b, 0, none⟩ = some (cb c)) :
    Calls Tryd.prog 56 #[.slice (some ⟨b, 0, none⟩) 1 1, .int .i64 3] w fun e w' => ∃ g, e = .returned (.slice (some ⟨g, 0, none⟩) 3 3) ∧ w.heap.size ≤ g ∧ Row w' g [c, c, c] ∧ Below w.heap.size w w' := by
  have HC : Hd (w.cell? ⟨b, 0, none⟩ = some (cb c)) := ⟨hc⟩
  clear hc
  obtain ⟨cs, hrunM, hle, hmx⟩ := Lib.run_makeNoZero (P := Tryd.prog) w #[3] 22 5 Tryd.underlying22 3 (by omega)
  have hcall : (callFunc 78 #[.int .i64 3]).run Tryd.prog w = .ok (.value (.slice (some ⟨w.heap.size, 0, none⟩) 3 cs.size)) ((w.alloc (.cells cs 5)).drewN 2) := by
    rw [run_callFunc_extern Tryd.func78 (by kernel_rfl) (by kernel_rfl) (by kernel_rfl) (e := Extern.BytealgMakeNoZero.makeNoZero #[3] #[22]) (by kernel_rfl)]
    have h3 : (Value.int .i64 3) = Value.int .i64 ((3 : Nat) : Int) := rfl
    rw [h3, hrunM]
    rfl
  have HB0 : Hd (Buf3 ((w.alloc (.cells cs 5)).drewN 2) w.heap.size 0 c) := ⟨⟨cs, heap_alloc_new w _, hle, hmx (by unfold maxLen; omega), rfl⟩⟩
  have HL0 : Hd (Below w.heap.size w ((w.alloc (.cells cs 5)).drewN 2)) := ⟨Below.next (below_lit _ _) (below_drewN' _ _ 2)⟩
  have hcz : (3 : Int) ≤ (cs.size : Int) := by omega
  clear hrunM hle hmx
  generalize (w.alloc (.cells cs 5)).drewN 2 = w1 at *
  generalize cs.size = C at *
  have e2 : IntKind.i64.wrap 2 = 2 := by decide
  have e3 : IntKind.i64.wrap 3 = 3 := by decide
  go_enter Tryd.func56, Tryd.ntmps56
  go_wp2_with fail
  refine (mul_three w).mono ?_
  rintro e w0 ⟨rfl, hw⟩
  replace hw := hw.symm
  subst hw
  go_wp2_with (refine wpList_copy_one rfl (.tmp 58) (.tmp 59) rfl w0.heap.size 0 3 3 1 1 ⟨b, 0, none⟩ c rfl rfl HB0.out (by omega) rfl (cell_below HC.out HL0.out) ?_)
  intro w2 hb2 hl2
  have HB2 : Hd (Buf3 w2 w0.heap.size 1 c) := ⟨hb2⟩
  have HL2 : Hd (Below w0.heap.size w0 w2) := ⟨hl2 _ _ HL0.out (Nat.le_refl _)⟩
  clear hb2 hl2 hcall HB0 HL0
  go_wp2_with fail
  refine wp_loop_rounds 3 ?_
  rewrite [rounds_succ]
  go_wp2_with fail
  go_region_held_law (fun w' => Hd (Below w0.heap.size w0 w')) (first | exact ⟨HL2.out.drew⟩ | exact HL3 | assumption)
    (first | (refine step_copy_one rfl (some 74) rfl (.tmp 70) (.tmp 73) rfl w0.heap.size 1 2 2 1 3 ⟨w0.heap.size, 0, none⟩ c rfl rfl HB2.out.drew (by omega) rfl (HB2.out.drew.first (by omega)) ?_; intro w3 hb3 hl3; have HB3 : Hd (Buf3 w3 w0.heap.size 2 c) := (⟨hb3⟩); have HL3 : Hd (Below w0.heap.size w0 w3) := (⟨hl3 _ _ HL2.out.drew (Nat.le_refl _)⟩)))
  clear hb3 hl3 HB2 HL2
  go_wp2_with fail
  rewrite [rounds_succ]
  go_wp2_with fail
  go_region_held_law (fun w' => Hd (Below w0.heap.size w0 w')) (first | exact ⟨HL3.out.drew⟩ | exact HL4 | assumption)
    (first | (refine step_copy_one rfl (some 74) rfl (.tmp 70) (.tmp 73) rfl w0.heap.size 2 1 1 2 3 ⟨w0.heap.size, 0, none⟩ c rfl rfl HB3.out.drew (by omega) rfl (HB3.out.drew.first (by omega)) ?_; intro w4 hb4 hl4; have HB4 : Hd (Buf3 w4 w0.heap.size 3 c) := (⟨hb4⟩); have HL4 : Hd (Below w0.heap.size w0 w4) := (⟨hl4 _ _ HL3.out.drew (Nat.le_refl _)⟩)))
  clear hb4 hl4 HB3 HL3
  go_wp2_with fail
  rewrite [rounds_succ]
  go_wp2_with fail
  go_ret
  exact ⟨w0.heap.size, rfl, Nat.le_refl _, HB4.out.row, HL4.out⟩

end Go.Proofs.YtjbideiifoadkaaDoor
