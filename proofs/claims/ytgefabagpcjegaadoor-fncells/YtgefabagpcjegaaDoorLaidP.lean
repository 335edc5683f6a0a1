/- What the rows' listed variable gives the walks: the program's table of pairs lies in its variable; and small facts on named variables. -/
import Derived.Test.YtgefabagpcjegaaDoorLaidV
import Derived.Test.YtgefabagpcjegaaDoorPairs
namespace Go.Proofs.YtgefabagpcjegaaDoor
set_option maxRecDepth 4000
open Go.RowKit

theorem tPairs : (Tryd.prog.globals[0]?).map (·.type) = some 113 := by kernel_rfl
theorem cellsRec : Tryd.prog.cellsOf 112 = 3 := by kernel_rfl
theorem cellsPairs : Tryd.prog.cellsOf 113 = 6 := by kernel_rfl

theorem num_of {H : Type} {xs : List (DataW H × List MemPlace)} {l : List (DataW H)} {i : Nat} {z a : Int} (hxs : xs.map (·.1) = l) (hb : xs[i]? = some (.lit (.int .i64 z), [])) (hl : l[i]? = some (.lit (.int .i64 a))) : z = a := by
  have h2 : (xs.map (·.1))[i]? = some (DataW.lit (.int .i64 z) : DataW H) := by simp [hb]
  rw [hxs, hl] at h2
  simpa using h2.symm

/-- A record of three numbers that reads as these holds them, cell for cell. -/
theorem rec_cells {H : Type} {enc : TypeId × Value → H} {w : World} {base : Nat} {sp : Nat → Bool} {held : Bool} {fuel : Nat} {cs : List Value} {a b c : Int} {p : List MemPlace}
    (h : DataW.trod enc Tryd.prog w base sp held fuel 112 cs = some (.agg [.lit (.int .i64 a), .lit (.int .i64 b), .lit (.int .i64 c)], p)) : cs = [.int .i64 a, .int .i64 b, .int .i64 c] := by
  cases fuel with
  | zero => simp [DataW.trod] at h
  | succ fuel =>
    simp only [DataW.trod, Tryd.underlying112, cellsRec] at h
    split at h
    · rename_i hl
      obtain ⟨xs, hm, hx⟩ := Option.map_eq_some_iff.1 h
      have hxs : xs.map (·.1) = [.lit (.int .i64 a), .lit (.int .i64 b), .lit (.int .i64 c)] := by simpa using congrArg Prod.fst hx
      match cs, hl with
      | [v0, v1, v2], _ =>
        obtain ⟨b0, hb0, hf0⟩ := Lib.mapM_at hm 0 _ rfl
        obtain ⟨b1, hb1, hf1⟩ := Lib.mapM_at hm 1 _ rfl
        obtain ⟨b2, hb2, hf2⟩ := Lib.mapM_at hm 2 _ rfl
        obtain ⟨z0, hc0, rfl, _⟩ := DataW.trod_int Tryd.underlying3 hf0
        obtain ⟨z1, hc1, rfl, _⟩ := DataW.trod_int Tryd.underlying3 hf1
        obtain ⟨z2, hc2, rfl, _⟩ := DataW.trod_int Tryd.underlying3 hf2
        obtain rfl := num_of hxs hb0 rfl
        obtain rfl := num_of hxs hb1 rfl
        obtain rfl := num_of hxs hb2 rfl
        simp only [cellsInt, List.drop_zero, List.drop_succ_cons, List.take_succ_cons, List.take_zero, List.cons.injEq, and_true] at hc0 hc1 hc2
        rw [hc0, hc1, hc2]
    · cases h

/-- Two records that read as these hold them, cell for cell. -/
theorem recs_cells {H : Type} {enc : TypeId × Value → H} {w : World} {base : Nat} {sp : Nat → Bool} {held : Bool} {fuel : Nat} {cs : List Value} {a b c a' b' c' : Int} {p : List MemPlace}
    (h : DataW.trod enc Tryd.prog w base sp held fuel 113 cs = some (.agg [.agg [.lit (.int .i64 a), .lit (.int .i64 b), .lit (.int .i64 c)], .agg [.lit (.int .i64 a'), .lit (.int .i64 b'), .lit (.int .i64 c')]], p)) : cs = [.int .i64 a, .int .i64 b, .int .i64 c, .int .i64 a', .int .i64 b', .int .i64 c'] := by
  cases fuel with
  | zero => simp [DataW.trod] at h
  | succ fuel =>
    simp only [DataW.trod, Tryd.underlying113, cellsPairs, cellsRec] at h
    split at h
    · rename_i hl
      obtain ⟨xs, hm, hx⟩ := Option.map_eq_some_iff.1 h
      have hxs : xs.map (·.1) = [.agg [.lit (.int .i64 a), .lit (.int .i64 b), .lit (.int .i64 c)], .agg [.lit (.int .i64 a'), .lit (.int .i64 b'), .lit (.int .i64 c')]] := by simpa using congrArg Prod.fst hx
      match cs, hl with
      | [v0, v1, v2, v3, v4, v5], _ =>
        obtain ⟨⟨d0, p0⟩, hb0, hf0⟩ := Lib.mapM_at hm 0 0 rfl
        obtain ⟨⟨d1, p1⟩, hb1, hf1⟩ := Lib.mapM_at hm 1 1 rfl
        have e0 : (xs.map (·.1))[0]? = some d0 := by simp [hb0]
        have e1 : (xs.map (·.1))[1]? = some d1 := by simp [hb1]
        rw [hxs] at e0 e1
        obtain rfl := Option.some.inj e0
        obtain rfl := Option.some.inj e1
        have r0 := rec_cells hf0
        have r1 := rec_cells hf1
        simp only [Nat.zero_mul, Nat.one_mul, List.drop_zero, List.drop_succ_cons, List.take_succ_cons, List.take_zero, List.cons.injEq, and_true] at r0 r1
        rw [r0.1, r0.2.1, r0.2.2, r1.1, r1.2.1, r1.2.2]
    · cases h

theorem pairs_head {W : World} {name : String} {rest : List (String × DataW Unit)} (gP : Tryd.prog.globalNamed name = some 0) (h : laidMet Tryd.prog ((name, Rows.laid_loop_example_g00475_impl_pairRows) :: rest) W) : PairsAt W := by
  obtain ⟨ps, ⟨g', t', cs, fuel, p, q, hg', ht', hvar, hd, _, _⟩, _⟩ := h
  obtain rfl := Option.some.inj (gP.symm.trans hg')
  obtain rfl := Option.some.inj (tPairs.symm.trans ht')
  have e := recs_cells hd
  refine ⟨fun j hj => ?_⟩
  have h1 := World.var?_cell hg' hvar j
  rw [h1, ← Array.getElem?_toList, e]
  match j, hj with
  | 0, _ => rfl
  | 1, _ => rfl
  | 2, _ => rfl
  | 3, _ => rfl
  | 4, _ => rfl
  | 5, _ => rfl

end Go.Proofs.YtgefabagpcjegaaDoor
