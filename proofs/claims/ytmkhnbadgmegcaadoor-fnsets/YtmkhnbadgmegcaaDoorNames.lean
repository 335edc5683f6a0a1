/- Contracts of CsName and CsOf, in the program (over its table) and in the specification. -/
import Derived.Test.YtmkhnbadgmegcaaDoorSetsS
namespace Go.Proofs.YtmkhnbadgmegcaaDoor
open Go.RowKit

def names : List ByteArray := [⟨#[117, 116, 102, 56]⟩, ⟨#[108, 97, 116, 105, 110, 49]⟩, ⟨#[108, 97, 116, 105, 110, 57]⟩, ⟨#[107, 111, 105, 56]⟩, ⟨#[99, 112, 49, 50, 53, 50]⟩, ⟨#[101, 117, 99, 106, 112]⟩]
/-- The program's table of names lies in its variable. -/
structure NamesAt (w : World) : Prop where
  out : ∀ j, j < 6 → w.cell? ⟨0, j, none⟩ = some (.string (names.getD j ⟨#[]⟩))
theorem NamesAt.below {w w' : World} (h : NamesAt w) (hb : Below w.heap.size w w') : NamesAt w' := ⟨fun j hj => cell_below (h.out j hj) hb⟩
def csName (cs : Int) : ByteArray := if 0 ≤ cs ∧ cs ≤ 5 then names.getD cs.toNat ⟨#[]⟩ else ⟨#[]⟩
theorem csName_in {cs : Int} (h : 0 ≤ cs ∧ cs ≤ 5) : csName cs = names.getD cs.toNat ⟨#[]⟩ := if_pos h
theorem csName_out {cs : Int} (h : ¬(0 ≤ cs ∧ cs ≤ 5)) : csName cs = ⟨#[]⟩ := if_neg h
theorem ret_str {a b : ByteArray} (h : a = b) : Ending.returned (.string a) = .returned (.string b) := by rw [h]

set_option maxHeartbeats 400000 in
theorem implCsName_any (cs : Int) (w : World) (T : Hd (NamesAt w)) :
    Calls Tryd.prog 18 #[.int .i64 cs] w fun e w' => e = .returned (.string (csName cs)) ∧ w' = w := by
  by_cases h : 0 ≤ cs ∧ cs ≤ 5
  · have hc := T.out.out cs.toNat (by omega)
    have e0 : Hd (names.getD cs.toNat ⟨#[]⟩ = csName cs) := ⟨(csName_in h).symm⟩
    generalize names.getD cs.toNat ⟨#[]⟩ = t at *
    obtain ⟨h1, h2⟩ := h
    go_enter Tryd.func18, Tryd.ntmps18
    go_wp2_with fail
    go_ret
    exact ⟨ret_str e0.out, rfl⟩
  · have e0 : Hd (⟨#[]⟩ = csName cs) := ⟨(csName_out h).symm⟩
    rcases (show cs < 0 ∨ 6 ≤ cs from by omega) with h | h
    · go_enter Tryd.func18, Tryd.ntmps18
      go_wp2_with fail
      go_ret
      exact ⟨ret_str e0.out, rfl⟩
    · go_enter Tryd.func18, Tryd.ntmps18
      go_wp2_with fail
      go_ret
      exact ⟨ret_str e0.out, rfl⟩

set_option maxHeartbeats 400000 in
theorem specCsName_any (cs : Int) (w : World) :
    Calls Tryd.prog 19 #[.int .i64 cs] w fun e w' => e = .returned (.string (csName cs)) ∧ Below w.heap.size w w' := by
  by_cases h : 0 ≤ cs ∧ cs ≤ 5
  · have hin := in_t (x := cs) (lo := 0) (hi := 5) h
    have hc : (w.alloc (.cells #[.string ⟨#[117, 116, 102, 56]⟩, .string ⟨#[108, 97, 116, 105, 110, 49]⟩, .string ⟨#[108, 97, 116, 105, 110, 57]⟩, .string ⟨#[107, 111, 105, 56]⟩, .string ⟨#[99, 112, 49, 50, 53, 50]⟩, .string ⟨#[101, 117, 99, 106, 112]⟩] 9)).cell? ⟨w.heap.size, cs.toNat, none⟩ = some (.string (names.getD cs.toNat ⟨#[]⟩)) := lit_strs w names _ _ (show _ < 6 from by omega)
    have e0 : Hd (names.getD cs.toNat ⟨#[]⟩ = csName cs) := ⟨(csName_in h).symm⟩
    generalize names.getD cs.toNat ⟨#[]⟩ = t at *
    obtain ⟨h1, h2⟩ := h
    go_enter Tryd.func19, Tryd.ntmps19
    go_wp2_with (go_at_call 27; refine (l1In_any _ _ _ _).mono ?_; rintro e w' ⟨rfl, hw⟩; replace hw := hw.symm; subst hw)
    go_ret
    exact ⟨ret_str e0.out, below_lit _ _⟩
  · have hin := in_f (x := cs) (lo := 0) (hi := 5) h
    have e0 : Hd (⟨#[]⟩ = csName cs) := ⟨(csName_out h).symm⟩
    clear h
    go_enter Tryd.func19, Tryd.ntmps19
    go_wp2_with (go_at_call 27; refine (l1In_any _ _ _ _).mono ?_; rintro e w' ⟨rfl, hw⟩; replace hw := hw.symm; subst hw)
    go_ret
    exact ⟨ret_str e0.out, below_lit _ _⟩

end Go.Proofs.YtmkhnbadgmegcaaDoor
