/- Small facts on named variables, and arrays of strings that read as a table. What the rows' listed variables give the walks: the program's tables of numbers lie in their variables. What the rows' listed variable gives the walks: the program's table of pairs lies in its variable; and small facts on named variables. From a row's list to the tables: the pairs and the three tables of single bytes. -/
import Derived.Test.YtlididoalekeoaaGreatDoorPutA
import Derived.Lib.LaidTab
import Derived.Stop.LaidErr
import Derived.OpenVars
import Derived.MakeChecks
import Derived.Test.YtlididoalekeoaaGreatDoorSetsA
import Derived.Test.YtlididoalekeoaaGreatDoorPairA
namespace Go.Proofs.YtlididoalekeoaaGreatDoor
set_option maxRecDepth 4000
open Go.RowKit

theorem vars_length {H : Type} {enc : TypeId × Value → H} {P : Program} {w : World} {sp : Nat → Bool} : ∀ {ns : List String} {gs : List (DataW H)} {ps : List MemPlace}, DataW.TrodVars enc P w sp ns gs ps → gs.length = ns.length
  | [], [], _, _ => rfl
  | [], _ :: _, _, h => h.elim
  | _ :: _, [], _, h => h.elim
  | _ :: _, _ :: _, _, ⟨_, _, _, _, _, _, _, _, _, _, hs, _⟩ => by simp [vars_length hs]

/-- An array of strings that reads as the table holds the table's strings, cell for cell. -/
theorem cells_of_strs {H : Type} {enc : TypeId × Value → H} {P : Program} {w : World} {base : Nat} {sp : Nat → Bool} {held : Bool} {fuel : Nat} {t e : TypeId} {n : Nat} {cs : List Value} {zs : List ByteArray} {p : List MemPlace}
    (ht : P.underlying t = some (.array n e)) (he : P.underlying e = some .string) (hce : P.cellsOf e = 1) (hct : P.cellsOf t = n)
    (h : DataW.trod enc P w base sp held fuel t cs = some (.agg (zs.map fun z => .lit (.string z.data.toList)), p)) : cs = zs.map Value.string := by
  cases fuel with
  | zero => simp [DataW.trod] at h
  | succ fuel =>
    simp only [DataW.trod, ht, hce, hct, Nat.mul_one] at h
    split at h
    · rename_i hl
      obtain ⟨xs, hm, hx⟩ := Option.map_eq_some_iff.1 h
      have hxs : xs.map (·.1) = zs.map fun z => (DataW.lit (.string z.data.toList) : DataW H) := by
        have := congrArg Prod.fst hx
        simpa using this
      have hxl : xs.length = n := by simpa using Lib.mapM_length hm
      have hzl : zs.length = n := by
        have := congrArg List.length hxs
        simp at this
        omega
      apply List.ext_getElem?
      intro i
      by_cases hi : i < n
      · obtain ⟨b, hb, hf⟩ := Lib.mapM_at hm i i (by simp [hi])
        obtain ⟨z, hc, rfl, _⟩ := DataW.trod_string he hf
        have h1 : cs[i]? = some (.string z) := by
          have := congrArg (·[0]?) hc
          simpa [List.getElem?_take, List.getElem?_drop] using this
        have h2 : (xs.map (·.1))[i]? = some (DataW.lit (.string z.data.toList) : DataW H) := by simp [hb]
        rw [hxs] at h2
        simp only [List.getElem?_map, Option.map_eq_some_iff, DataW.lit.injEq, Lit.string.injEq] at h2
        obtain ⟨z', hz', e'⟩ := h2
        have e2 : z' = z := by
          obtain ⟨⟨l1⟩⟩ := z
          obtain ⟨⟨l2⟩⟩ := z'
          simp only at e'
          rw [e']
        subst e2
        simp [h1, hz']
      · rw [List.getElem?_eq_none (by omega), List.getElem?_eq_none (by simp; omega)]
    · cases h

theorem cellsInt : Tryz.prog.cellsOf 3 = 1 := by kernel_rfl

theorem tNine : (Tryz.prog.globals[1]?).map (·.type) = some 154 := by kernel_rfl
theorem tKoi : (Tryz.prog.globals[2]?).map (·.type) = some 154 := by kernel_rfl
theorem tWin : (Tryz.prog.globals[3]?).map (·.type) = some 154 := by kernel_rfl
theorem cellsTab : Tryz.prog.cellsOf 154 = 32 := by kernel_rfl

theorem tab_of {W : World} {name : String} {g : Nat} {zs : List Int} {rest : List (String × DataW Unit)} (hl : zs.length = 32) (hg : Tryz.prog.globalNamed name = some g) (hty : (Tryz.prog.globals[g]?).map (·.type) = some 154)
    (h : laidMet Tryz.prog ((name, Lib.tabData .i64 zs) :: rest) W) : ∀ j, j < 32 → W.cell? ⟨g, j, none⟩ = some (.int .i64 (zs.getD j 0)) := fun j hj =>
  (Lib.tabIs_of_head hg hty Tryz.underlying154 Tryz.underlying3 cellsInt cellsTab h).cell hg j (by omega)

theorem tPairs : (Tryz.prog.globals[0]?).map (·.type) = some 153 := by kernel_rfl
theorem cellsRec : Tryz.prog.cellsOf 152 = 3 := by kernel_rfl
theorem cellsPairs : Tryz.prog.cellsOf 153 = 6 := by kernel_rfl

theorem num_of {H : Type} {xs : List (DataW H × List MemPlace)} {l : List (DataW H)} {i : Nat} {z a : Int} (hxs : xs.map (·.1) = l) (hb : xs[i]? = some (.lit (.int .i64 z), [])) (hl : l[i]? = some (.lit (.int .i64 a))) : z = a := by
  have h2 : (xs.map (·.1))[i]? = some (DataW.lit (.int .i64 z) : DataW H) := by simp [hb]
  rw [hxs, hl] at h2
  simpa using h2.symm

/-- A record of three numbers that reads as these holds them, cell for cell. -/
theorem rec_cells {H : Type} {enc : TypeId × Value → H} {w : World} {base : Nat} {sp : Nat → Bool} {held : Bool} {fuel : Nat} {cs : List Value} {a b c : Int} {p : List MemPlace}
    (h : DataW.trod enc Tryz.prog w base sp held fuel 152 cs = some (.agg [.lit (.int .i64 a), .lit (.int .i64 b), .lit (.int .i64 c)], p)) : cs = [.int .i64 a, .int .i64 b, .int .i64 c] := by
  cases fuel with
  | zero => simp [DataW.trod] at h
  | succ fuel =>
    simp only [DataW.trod, Tryz.underlying152, cellsRec] at h
    split at h
    · rename_i hl
      obtain ⟨xs, hm, hx⟩ := Option.map_eq_some_iff.1 h
      have hxs : xs.map (·.1) = [.lit (.int .i64 a), .lit (.int .i64 b), .lit (.int .i64 c)] := by simpa using congrArg Prod.fst hx
      match cs, hl with
      | [v0, v1, v2], _ =>
        obtain ⟨b0, hb0, hf0⟩ := Lib.mapM_at hm 0 _ rfl
        obtain ⟨b1, hb1, hf1⟩ := Lib.mapM_at hm 1 _ rfl
        obtain ⟨b2, hb2, hf2⟩ := Lib.mapM_at hm 2 _ rfl
        obtain ⟨z0, hc0, rfl, _⟩ := DataW.trod_int Tryz.underlying3 hf0
        obtain ⟨z1, hc1, rfl, _⟩ := DataW.trod_int Tryz.underlying3 hf1
        obtain ⟨z2, hc2, rfl, _⟩ := DataW.trod_int Tryz.underlying3 hf2
        obtain rfl := num_of hxs hb0 rfl
        obtain rfl := num_of hxs hb1 rfl
        obtain rfl := num_of hxs hb2 rfl
        simp only [cellsInt, List.drop_zero, List.drop_succ_cons, List.take_succ_cons, List.take_zero, List.cons.injEq, and_true] at hc0 hc1 hc2
        rw [hc0, hc1, hc2]
    · cases h

/-- Two records that read as these hold them, cell for cell. -/
theorem recs_cells {H : Type} {enc : TypeId × Value → H} {w : World} {base : Nat} {sp : Nat → Bool} {held : Bool} {fuel : Nat} {cs : List Value} {a b c a' b' c' : Int} {p : List MemPlace}
    (h : DataW.trod enc Tryz.prog w base sp held fuel 153 cs = some (.agg [.agg [.lit (.int .i64 a), .lit (.int .i64 b), .lit (.int .i64 c)], .agg [.lit (.int .i64 a'), .lit (.int .i64 b'), .lit (.int .i64 c')]], p)) : cs = [.int .i64 a, .int .i64 b, .int .i64 c, .int .i64 a', .int .i64 b', .int .i64 c'] := by
  cases fuel with
  | zero => simp [DataW.trod] at h
  | succ fuel =>
    simp only [DataW.trod, Tryz.underlying153, cellsPairs, cellsRec] at h
    split at h
    · rename_i hl
      obtain ⟨xs, hm, hx⟩ := Option.map_eq_some_iff.1 h
      have hxs : xs.map (·.1) = [.agg [.lit (.int .i64 a), .lit (.int .i64 b), .lit (.int .i64 c)], .agg [.lit (.int .i64 a'), .lit (.int .i64 b'), .lit (.int .i64 c')]] := by simpa using congrArg Prod.fst hx
      match cs, hl with
      | [v0, v1, v2, v3, v4, v5], _ =>
        obtain ⟨⟨d0, p0⟩, hb0, hf0⟩ := Lib.mapM_at hm 0 0 rfl
        obtain ⟨⟨d1, p1⟩, hb1, hf1⟩ := Lib.mapM_at hm 1 1 rfl
        have e0 : (xs.map (·.1))[0]? = some d0 := by simp [hb0]
        have e1 : (xs.map (·.1))[1]? = some d1 := by simp [hb1]
        rw [hxs] at e0 e1
        obtain rfl := Option.some.inj e0
        obtain rfl := Option.some.inj e1
        have r0 := rec_cells hf0
        have r1 := rec_cells hf1
        simp only [Nat.zero_mul, Nat.one_mul, List.drop_zero, List.drop_succ_cons, List.take_succ_cons, List.take_zero, List.cons.injEq, and_true] at r0 r1
        rw [r0.1, r0.2.1, r0.2.2, r1.1, r1.2.1, r1.2.2]
    · cases h

theorem pairs_head {W : World} {name : String} {rest : List (String × DataW Unit)} (gP : Tryz.prog.globalNamed name = some 0) (h : laidMet Tryz.prog ((name, Rows.laid_loop_example_g00475_impl_pairRows) :: rest) W) : PairsAt W := by
  obtain ⟨ps, ⟨g', t', cs, fuel, p, q, hg', ht', hvar, hd, _, _⟩, _⟩ := h
  obtain rfl := Option.some.inj (gP.symm.trans hg')
  obtain rfl := Option.some.inj (tPairs.symm.trans ht')
  have e := recs_cells hd
  refine ⟨fun j hj => ?_⟩
  have h1 := World.var?_cell hg' hvar j
  rw [h1, ← Array.getElem?_toList, e]
  match j, hj with
  | 0, _ => rfl
  | 1, _ => rfl
  | 2, _ => rfl
  | 3, _ => rfl
  | 4, _ => rfl
  | 5, _ => rfl

/-- All tables of the program lie in their variables. -/
structure AllAt (w : World) : Prop where
  tabs : TabsAt w
  pairs : PairsAt w
theorem AllAt.below {w w' : World} (h : AllAt w) (hb : Below w.heap.size w w') : AllAt w' := ⟨h.tabs.below hb, h.pairs.below hb⟩

theorem all_of {W : World} (h : laidMetH Tryz.prog Rows.fnExactStoreOkRow.laid W) : AllAt W := by
  rw [MakeChecks.laidMetH_plain _ _ _ (by kernel_rfl)] at h
  exact ⟨⟨tab_of (zs := nineT) rfl (by kernel_rfl) tNine h, tab_of (zs := koiT) rfl (by kernel_rfl) tKoi h.tail, tab_of (zs := winT) rfl (by kernel_rfl) tWin h.tail.tail⟩, pairs_head (by kernel_rfl) h.tail.tail.tail⟩

end Go.Proofs.YtlididoalekeoaaGreatDoor
