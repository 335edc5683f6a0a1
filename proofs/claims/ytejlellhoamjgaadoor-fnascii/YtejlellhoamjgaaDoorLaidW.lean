/- What the rows' listed variable gives the walks: the program's table of weights lies in its variable. -/
import Derived.Test.YtejlellhoamjgaaDoorLaidA
import Derived.Test.YtejlellhoamjgaaDoorWei
namespace Go.Proofs.YtejlellhoamjgaaDoor
set_option maxRecDepth 4000
open Go.RowKit

theorem tWei : (Tryd.prog.globals[0]?).map (·.type) = some 66 := by kernel_rfl
theorem cellsWei : Tryd.prog.cellsOf 65 = 3 := by kernel_rfl
theorem cellsWeis : Tryd.prog.cellsOf 66 = 33 := by kernel_rfl

/-- A record of three numbers that reads as these holds them, cell for cell. -/
theorem wrec_cells {H : Type} {enc : TypeId × Value → H} {w : World} {base : Nat} {sp : Nat → Bool} {held : Bool} {fuel : Nat} {cs : List Value} {a b c : Int} {p : List MemPlace}
    (h : DataW.trod enc Tryd.prog w base sp held fuel 65 cs = some (.agg [.lit (.int .i64 a), .lit (.int .i64 b), .lit (.int .i64 c)], p)) : cs = [.int .i64 a, .int .i64 b, .int .i64 c] := by
  cases fuel with
  | zero => simp [DataW.trod] at h
  | succ fuel =>
    simp only [DataW.trod, Tryd.underlying65, cellsWei] at h
    split at h
    · rename_i hl
      obtain ⟨xs, hm, hx⟩ := Option.map_eq_some_iff.1 h
      have hxs : xs.map (·.1) = [.lit (.int .i64 a), .lit (.int .i64 b), .lit (.int .i64 c)] := by simpa using congrArg Prod.fst hx
      match cs, hl with
      | [v0, v1, v2], _ =>
        obtain ⟨b0, hb0, hf0⟩ := Lib.mapM_at hm 0 _ rfl
        obtain ⟨b1, hb1, hf1⟩ := Lib.mapM_at hm 1 _ rfl
        obtain ⟨b2, hb2, hf2⟩ := Lib.mapM_at hm 2 _ rfl
        obtain ⟨z0, hc0, rfl, _⟩ := DataW.trod_int Tryd.underlying3 hf0
        obtain ⟨z1, hc1, rfl, _⟩ := DataW.trod_int Tryd.underlying3 hf1
        obtain ⟨z2, hc2, rfl, _⟩ := DataW.trod_int Tryd.underlying3 hf2
        obtain rfl := num_of hxs hb0 rfl
        obtain rfl := num_of hxs hb1 rfl
        obtain rfl := num_of hxs hb2 rfl
        simp only [cellsInt, List.drop_zero, List.drop_succ_cons, List.take_succ_cons, List.take_zero, List.cons.injEq, and_true] at hc0 hc1 hc2
        rw [hc0, hc1, hc2]
    · cases h

theorem three_at {cs : List Value} {k : Nat} {a b c : Value} (h : (cs.drop k).take 3 = [a, b, c]) : cs[k]? = some a ∧ cs[k + 1]? = some b ∧ cs[k + 2]? = some c := by
  have e : ∀ r, r < 3 → cs[k + r]? = [a, b, c][r]? := fun r hr => by rw [← h, List.getElem?_take_of_lt hr, List.getElem?_drop]
  exact ⟨e 0 (by omega), e 1 (by omega), e 2 (by omega)⟩

/-- What the table's datum lists. -/
def weiD (H : Type) : List (DataW H) := (List.range 11).map fun k => .agg [.lit (.int .i64 (weiA k)), .lit (.int .i64 (weiB k)), .lit (.int .i64 (weiC k))]

theorem wrecs_cells {H : Type} {enc : TypeId × Value → H} {w : World} {base : Nat} {sp : Nat → Bool} {held : Bool} {fuel : Nat} {cs : List Value} {p : List MemPlace}
    (h : DataW.trod enc Tryd.prog w base sp held fuel 66 cs = some (.agg (weiD H), p)) : ∀ k, k < 11 → cs[k * 3]? = some (.int .i64 (weiA k)) ∧ cs[k * 3 + 1]? = some (.int .i64 (weiB k)) ∧ cs[k * 3 + 2]? = some (.int .i64 (weiC k)) := by
  cases fuel with
  | zero => simp [DataW.trod] at h
  | succ fuel =>
    simp only [DataW.trod, Tryd.underlying66, cellsWeis, cellsWei] at h
    split at h
    · rename_i hl
      obtain ⟨xs, hm, hx⟩ := Option.map_eq_some_iff.1 h
      have hxs : xs.map (·.1) = weiD H := by simpa using congrArg Prod.fst hx
      intro k hk
      obtain ⟨⟨d0, p0⟩, hb0, hf0⟩ := Lib.mapM_at hm k k (by rw [List.getElem?_range hk])
      have e0 : (xs.map (·.1))[k]? = some d0 := by simp [hb0]
      rw [hxs] at e0
      have e1 : (weiD H)[k]? = some (.agg [.lit (.int .i64 (weiA k)), .lit (.int .i64 (weiB k)), .lit (.int .i64 (weiC k))]) := by
        unfold weiD
        rw [List.getElem?_map, List.getElem?_range hk]
        rfl
      obtain rfl := Option.some.inj (e1.symm.trans e0)
      exact three_at (wrec_cells hf0)
    · cases h

theorem weiT_at (j : Nat) : (j % 3 = 0 → weiT.getD j 0 = weiA (j / 3)) ∧ (j % 3 = 1 → weiT.getD j 0 = weiB (j / 3)) ∧ (j % 3 = 2 → weiT.getD j 0 = weiC (j / 3)) := by
  unfold weiA weiB weiC
  refine ⟨fun h => ?_, fun h => ?_, fun h => ?_⟩
  · rw [show 3 * (j / 3) = j by omega]
  · rw [show 3 * (j / 3) + 1 = j by omega]
  · rw [show 3 * (j / 3) + 2 = j by omega]

theorem wei_head {W : World} {name : String} {rest : List (String × DataW Unit)} (gP : Tryd.prog.globalNamed name = some 0) (h : laidMet Tryd.prog ((name, Rows.laid_loop_example_g00475_impl_weightRows) :: rest) W) : WeiAt W := by
  obtain ⟨ps, ⟨g', t', cs, fuel, p, q, hg', ht', hvar, hd, _, _⟩, _⟩ := h
  obtain rfl := Option.some.inj (gP.symm.trans hg')
  obtain rfl := Option.some.inj (tWei.symm.trans ht')
  have e := wrecs_cells hd
  refine ⟨fun j hj => ?_⟩
  have h1 := World.var?_cell hg' hvar j
  rw [h1, ← Array.getElem?_toList]
  obtain ⟨f0, f1, f2⟩ := weiT_at j
  obtain ⟨e0, e1, e2⟩ := e (j / 3) (by omega)
  have hm : j % 3 = 0 ∨ j % 3 = 1 ∨ j % 3 = 2 := by omega
  rcases hm with hm | hm | hm
  · rw [f0 hm, ← e0]; congr 1; omega
  · rw [f1 hm, ← e1]; congr 1; omega
  · rw [f2 hm, ← e2]; congr 1; omega

/-- All tables of the program, the weights too. -/
structure AllW (w : World) : Prop where
  all : AllAt w
  wei : WeiAt w
theorem AllW.below {w w' : World} (h : AllW w) (hb : Below w.heap.size w w') : AllW w' := ⟨h.all.below hb, h.wei.below hb⟩

theorem allW_of {W : World} (h : laidMetH Tryd.prog Rows.fnAsciiRow.laid W) : AllW W := by
  refine ⟨all_of h, ?_⟩
  rw [MakeChecks.laidMetH_plain _ _ _ (by kernel_rfl)] at h
  exact wei_head (by kernel_rfl) h.tail.tail.tail.tail

end Go.Proofs.YtejlellhoamjgaaDoor
