/- What the rows' listed variables give the walks: the program's tables lie in their variables; and small facts on named variables. -/
import Derived.Test.YtmkhnbadgmegcaaDoorNames
import Derived.Lib.LaidTab
import Derived.Stop.LaidErr
import Derived.OpenVars
import Derived.MakeChecks
namespace Go.Proofs.YtmkhnbadgmegcaaDoor
open Go.RowKit

theorem vars_length {H : Type} {enc : TypeId × Value → H} {P : Program} {w : World} {sp : Nat → Bool} : ∀ {ns : List String} {gs : List (DataW H)} {ps : List MemPlace}, DataW.TrodVars enc P w sp ns gs ps → gs.length = ns.length
  | [], [], _, _ => rfl
  | [], _ :: _, _, h => h.elim
  | _ :: _, [], _, h => h.elim
  | _ :: _, _ :: _, _, ⟨_, _, _, _, _, _, _, _, _, _, hs, _⟩ => by simp [vars_length hs]

/-- An array of strings that reads as the table holds the table's strings, cell for cell. -/
theorem cells_of_strs {H : Type} {enc : TypeId × Value → H} {P : Program} {w : World} {base : Nat} {sp : Nat → Bool} {held : Bool} {fuel : Nat} {t e : TypeId} {n : Nat} {cs : List Value} {zs : List ByteArray} {p : List MemPlace}
    (ht : P.underlying t = some (.array n e)) (he : P.underlying e = some .string) (hce : P.cellsOf e = 1) (hct : P.cellsOf t = n)
    (h : DataW.trod enc P w base sp held fuel t cs = some (.agg (zs.map fun z => .lit (.string z.data.toList)), p)) : cs = zs.map Value.string := by
  cases fuel with
  | zero => simp [DataW.trod] at h
  | succ fuel =>
    simp only [DataW.trod, ht, hce, hct, Nat.mul_one] at h
    split at h
    · rename_i hl
      obtain ⟨xs, hm, hx⟩ := Option.map_eq_some_iff.1 h
      have hxs : xs.map (·.1) = zs.map fun z => (DataW.lit (.string z.data.toList) : DataW H) := by
        have := congrArg Prod.fst hx
        simpa using this
      have hxl : xs.length = n := by simpa using Lib.mapM_length hm
      have hzl : zs.length = n := by
        have := congrArg List.length hxs
        simp at this
        omega
      apply List.ext_getElem?
      intro i
      by_cases hi : i < n
      · obtain ⟨b, hb, hf⟩ := Lib.mapM_at hm i i (by simp [hi])
        obtain ⟨z, hc, rfl, _⟩ := DataW.trod_string he hf
        have h1 : cs[i]? = some (.string z) := by
          have := congrArg (·[0]?) hc
          simpa [List.getElem?_take, List.getElem?_drop] using this
        have h2 : (xs.map (·.1))[i]? = some (DataW.lit (.string z.data.toList) : DataW H) := by simp [hb]
        rw [hxs] at h2
        simp only [List.getElem?_map, Option.map_eq_some_iff, DataW.lit.injEq, Lit.string.injEq] at h2
        obtain ⟨z', hz', e'⟩ := h2
        have e2 : z' = z := by
          obtain ⟨⟨l1⟩⟩ := z
          obtain ⟨⟨l2⟩⟩ := z'
          simp only at e'
          rw [e']
        subst e2
        simp [h1, hz']
      · rw [List.getElem?_eq_none (by omega), List.getElem?_eq_none (by simp; omega)]
    · cases h

theorem tNames : (Tryd.prog.globals[0]?).map (·.type) = some 47 := by kernel_rfl
theorem tNine : (Tryd.prog.globals[1]?).map (·.type) = some 52 := by kernel_rfl
theorem tKoi : (Tryd.prog.globals[2]?).map (·.type) = some 52 := by kernel_rfl
theorem tWin : (Tryd.prog.globals[3]?).map (·.type) = some 52 := by kernel_rfl
theorem cellsTab : Tryd.prog.cellsOf 52 = 32 := by kernel_rfl
theorem cellsNames : Tryd.prog.cellsOf 47 = 6 := by kernel_rfl
theorem cellsInt : Tryd.prog.cellsOf 3 = 1 := by kernel_rfl
theorem cellsStr : Tryd.prog.cellsOf 9 = 1 := by kernel_rfl

theorem names_of {W : World} {name : String} {rest : List (String × DataW Unit)} (gNames : Tryd.prog.globalNamed name = some 0) (h : laidMet Tryd.prog ((name, Rows.laid_loop_example_g00475_impl_csNames) :: rest) W) : NamesAt W := by
  obtain ⟨ps, ⟨g', t', cs, fuel, p, q, hg', ht', hvar, hd, _, _⟩, _⟩ := h
  obtain rfl := Option.some.inj (gNames.symm.trans hg')
  obtain rfl := Option.some.inj (tNames.symm.trans ht')
  have hd' : DataW.trod (fun _ => ()) Tryd.prog W 0 (fun _ => true) false fuel 47 cs.toList = some (.agg (names.map fun z => .lit (.string z.data.toList)), p) := hd
  have e := cells_of_strs Tryd.underlying47 Tryd.underlying9 cellsStr cellsNames hd'
  refine ⟨fun j hj => ?_⟩
  have h1 := World.var?_cell hg' hvar j
  rw [h1, ← Array.getElem?_toList, e]
  have hl : j < names.length := hj
  simp [List.getD, List.getElem?_eq_getElem hl]

theorem tab_of {W : World} {name : String} {g : Nat} {zs : List Int} {rest : List (String × DataW Unit)} (hl : zs.length = 32) (hg : Tryd.prog.globalNamed name = some g) (hty : (Tryd.prog.globals[g]?).map (·.type) = some 52)
    (h : laidMet Tryd.prog ((name, Lib.tabData .i64 zs) :: rest) W) : ∀ j, j < 32 → W.cell? ⟨g, j, none⟩ = some (.int .i64 (zs.getD j 0)) := fun j hj =>
  (Lib.tabIs_of_head hg hty Tryd.underlying52 Tryd.underlying3 cellsInt cellsTab h).cell hg j (by omega)

theorem tabs_of {W : World} (h : laidMetH Tryd.prog Rows.fnExactByteSignRow.laid W) : TabsAt W := by
  rw [MakeChecks.laidMetH_plain _ _ _ (by kernel_rfl)] at h
  exact ⟨tab_of (zs := nineT) rfl (by kernel_rfl) tNine h, tab_of (zs := koiT) rfl (by kernel_rfl) tKoi h.tail, tab_of (zs := winT) rfl (by kernel_rfl) tWin h.tail.tail⟩

theorem name_of {W : World} (h : laidMetH Tryd.prog Rows.fnExactCsNameRow.laid W) : NamesAt W := by
  rw [MakeChecks.laidMetH_plain _ _ _ (by kernel_rfl)] at h
  exact names_of (by kernel_rfl) h

theorem both_of {W : World} (h : laidMetH Tryd.prog Rows.fnSetsRow.laid W) : NamesAt W ∧ TabsAt W := by
  rw [MakeChecks.laidMetH_plain _ _ _ (by kernel_rfl)] at h
  exact ⟨names_of (by kernel_rfl) h, tab_of (zs := nineT) rfl (by kernel_rfl) tNine h.tail, tab_of (zs := koiT) rfl (by kernel_rfl) tKoi h.tail.tail, tab_of (zs := winT) rfl (by kernel_rfl) tWin h.tail.tail.tail⟩

end Go.Proofs.YtmkhnbadgmegcaaDoor
