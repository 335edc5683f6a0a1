/- Contracts of PhaseName and PhaseOf, in the program (over its table) and in the specification. -/
import Derived.Test.YtjpfkjehlaepbaaDoorCommon
namespace Go.Proofs.YtjpfkjehlaepbaaDoor
set_option maxRecDepth 4000
open Go.RowKit

def phNames : List ByteArray := [⟨#[105, 100, 108, 101]⟩, ⟨#[100, 117, 97, 108]⟩, ⟨#[102, 105, 108, 108]⟩, ⟨#[99, 104, 101, 99, 107]⟩, ⟨#[99, 117, 116]⟩, ⟨#[100, 111, 110, 101]⟩, ⟨#[98, 97, 99, 107]⟩, ⟨#[111, 118, 101, 114]⟩]
/-- The program's table of names lies in its variable. -/
structure PhAt (w : World) : Prop where
  out : ∀ j, j < 8 → w.cell? ⟨0, j, none⟩ = some (.string (phNames.getD j ⟨#[]⟩))
theorem PhAt.below {w w' : World} (h : PhAt w) (hb : Below w.heap.size w w') : PhAt w' := ⟨fun j hj => cell_below (h.out j hj) hb⟩
def phName (p : Int) : ByteArray := if 0 ≤ p ∧ p ≤ 7 then phNames.getD p.toNat ⟨#[]⟩ else ⟨#[]⟩
theorem phName_in {p : Int} (h : 0 ≤ p ∧ p ≤ 7) : phName p = phNames.getD p.toNat ⟨#[]⟩ := if_pos h
theorem phName_out {p : Int} (h : ¬(0 ≤ p ∧ p ≤ 7)) : phName p = ⟨#[]⟩ := if_neg h
theorem ret_str {a b : ByteArray} (h : a = b) : Ending.returned (.string a) = .returned (.string b) := by rw [h]

set_option maxHeartbeats 400000 in
theorem implPhaseName_any (p : Int) (w : World) (T : Hd (PhAt w)) :
    Calls Tryd.prog 22 #[.int .i64 p] w fun e w' => e = .returned (.string (phName p)) ∧ w' = w := by
  by_cases h : 0 ≤ p ∧ p ≤ 7
  · have hc := T.out.out p.toNat (by omega)
    have e0 : Hd (phNames.getD p.toNat ⟨#[]⟩ = phName p) := ⟨(phName_in h).symm⟩
    generalize phNames.getD p.toNat ⟨#[]⟩ = t at *
    obtain ⟨h1, h2⟩ := h
    go_enter Tryd.func22, Tryd.ntmps22
    go_wp2_with fail
    go_ret
    exact ⟨ret_str e0.out, rfl⟩
  · have e0 : Hd (⟨#[]⟩ = phName p) := ⟨(phName_out h).symm⟩
    rcases (show p < 0 ∨ 8 ≤ p from by omega) with h | h
    · go_enter Tryd.func22, Tryd.ntmps22
      go_wp2_with fail
      go_ret
      exact ⟨ret_str e0.out, rfl⟩
    · go_enter Tryd.func22, Tryd.ntmps22
      go_wp2_with fail
      go_ret
      exact ⟨ret_str e0.out, rfl⟩

set_option maxHeartbeats 400000 in
theorem specPhaseName_any (p : Int) (w : World) :
    Calls Tryd.prog 23 #[.int .i64 p] w fun e w' => e = .returned (.string (phName p)) ∧ Below w.heap.size w w' := by
  by_cases h : 0 ≤ p ∧ p ≤ 7
  · have hin := in_t (x := p) (lo := 0) (hi := 7) h
    have hc : (w.alloc (.cells #[.string ⟨#[105, 100, 108, 101]⟩, .string ⟨#[100, 117, 97, 108]⟩, .string ⟨#[102, 105, 108, 108]⟩, .string ⟨#[99, 104, 101, 99, 107]⟩, .string ⟨#[99, 117, 116]⟩, .string ⟨#[100, 111, 110, 101]⟩, .string ⟨#[98, 97, 99, 107]⟩, .string ⟨#[111, 118, 101, 114]⟩] 9)).cell? ⟨w.heap.size, p.toNat, none⟩ = some (.string (phNames.getD p.toNat ⟨#[]⟩)) := lit_strs w phNames _ _ (show _ < 8 from by omega)
    have e0 : Hd (phNames.getD p.toNat ⟨#[]⟩ = phName p) := ⟨(phName_in h).symm⟩
    generalize phNames.getD p.toNat ⟨#[]⟩ = t at *
    obtain ⟨h1, h2⟩ := h
    go_enter Tryd.func23, Tryd.ntmps23
    go_wp2_with (go_at_call 29; refine (l1In_any _ _ _ _).mono ?_; rintro e w' ⟨rfl, hw⟩; replace hw := hw.symm; subst hw)
    go_ret
    exact ⟨ret_str e0.out, below_lit _ _⟩
  · have hin := in_f (x := p) (lo := 0) (hi := 7) h
    have e0 : Hd (⟨#[]⟩ = phName p) := ⟨(phName_out h).symm⟩
    clear h
    go_enter Tryd.func23, Tryd.ntmps23
    go_wp2_with (go_at_call 29; refine (l1In_any _ _ _ _).mono ?_; rintro e w' ⟨rfl, hw⟩; replace hw := hw.symm; subst hw)
    go_ret
    exact ⟨ret_str e0.out, below_lit _ _⟩

/-- The phase of that name among those from k on, or -1. -/
def phFrom (s : ByteArray) : List ByteArray → Int → Int
  | [], _ => -1
  | z :: r, k => if z.toList == s.toList then k else phFrom s r (k + 1)
def phOf (s : ByteArray) : Int := phFrom s phNames 0

set_option maxHeartbeats 1000000 in
theorem implPhaseOf_any (s : ByteArray) (w : World) (T : Hd (PhAt w)) :
    Calls Tryd.prog 24 #[.string s] w fun e w' => e = .returned (.int .i64 (phOf s)) ∧ w' = w := by
  have c0 : w.cell? ⟨0, 0, none⟩ = some (.string (phNames.getD 0 ⟨#[]⟩)) := T.out.out 0 (by omega)
  have c1 : w.cell? ⟨0, 1, none⟩ = some (.string (phNames.getD 1 ⟨#[]⟩)) := T.out.out 1 (by omega)
  have c2 : w.cell? ⟨0, 2, none⟩ = some (.string (phNames.getD 2 ⟨#[]⟩)) := T.out.out 2 (by omega)
  have c3 : w.cell? ⟨0, 3, none⟩ = some (.string (phNames.getD 3 ⟨#[]⟩)) := T.out.out 3 (by omega)
  have c4 : w.cell? ⟨0, 4, none⟩ = some (.string (phNames.getD 4 ⟨#[]⟩)) := T.out.out 4 (by omega)
  have c5 : w.cell? ⟨0, 5, none⟩ = some (.string (phNames.getD 5 ⟨#[]⟩)) := T.out.out 5 (by omega)
  have c6 : w.cell? ⟨0, 6, none⟩ = some (.string (phNames.getD 6 ⟨#[]⟩)) := T.out.out 6 (by omega)
  have c7 : w.cell? ⟨0, 7, none⟩ = some (.string (phNames.getD 7 ⟨#[]⟩)) := T.out.out 7 (by omega)
  have e0 : Hd (phFrom s [phNames.getD 0 ⟨#[]⟩, phNames.getD 1 ⟨#[]⟩, phNames.getD 2 ⟨#[]⟩, phNames.getD 3 ⟨#[]⟩, phNames.getD 4 ⟨#[]⟩, phNames.getD 5 ⟨#[]⟩, phNames.getD 6 ⟨#[]⟩, phNames.getD 7 ⟨#[]⟩] 0 = phOf s) := ⟨rfl⟩
  generalize phNames.getD 0 ⟨#[]⟩ = n0 at *
  generalize phNames.getD 1 ⟨#[]⟩ = n1 at *
  generalize phNames.getD 2 ⟨#[]⟩ = n2 at *
  generalize phNames.getD 3 ⟨#[]⟩ = n3 at *
  generalize phNames.getD 4 ⟨#[]⟩ = n4 at *
  generalize phNames.getD 5 ⟨#[]⟩ = n5 at *
  generalize phNames.getD 6 ⟨#[]⟩ = n6 at *
  generalize phNames.getD 7 ⟨#[]⟩ = n7 at *
  have x0 : (Instr.index 40 (.agg #[.string n0, .string n1, .string n2, .string n3, .string n4, .string n5, .string n6, .string n7]) (.int .i64 0)).run Tryd.prog w = .ok (.string n0) w := by kernel_rfl
  have x1 : (Instr.index 40 (.agg #[.string n0, .string n1, .string n2, .string n3, .string n4, .string n5, .string n6, .string n7]) (.int .i64 1)).run Tryd.prog w = .ok (.string n1) w := by kernel_rfl
  have x2 : (Instr.index 40 (.agg #[.string n0, .string n1, .string n2, .string n3, .string n4, .string n5, .string n6, .string n7]) (.int .i64 2)).run Tryd.prog w = .ok (.string n2) w := by kernel_rfl
  have x3 : (Instr.index 40 (.agg #[.string n0, .string n1, .string n2, .string n3, .string n4, .string n5, .string n6, .string n7]) (.int .i64 3)).run Tryd.prog w = .ok (.string n3) w := by kernel_rfl
  have x4 : (Instr.index 40 (.agg #[.string n0, .string n1, .string n2, .string n3, .string n4, .string n5, .string n6, .string n7]) (.int .i64 4)).run Tryd.prog w = .ok (.string n4) w := by kernel_rfl
  have x5 : (Instr.index 40 (.agg #[.string n0, .string n1, .string n2, .string n3, .string n4, .string n5, .string n6, .string n7]) (.int .i64 5)).run Tryd.prog w = .ok (.string n5) w := by kernel_rfl
  have x6 : (Instr.index 40 (.agg #[.string n0, .string n1, .string n2, .string n3, .string n4, .string n5, .string n6, .string n7]) (.int .i64 6)).run Tryd.prog w = .ok (.string n6) w := by kernel_rfl
  have x7 : (Instr.index 40 (.agg #[.string n0, .string n1, .string n2, .string n3, .string n4, .string n5, .string n6, .string n7]) (.int .i64 7)).run Tryd.prog w = .ok (.string n7) w := by kernel_rfl
  cases h0 : (n0.toList == s.toList) with
  | true =>
    have E : Hd ((0 : Int) = phOf s) := ⟨by rw [← e0.out]; simp [phFrom, h0]⟩
    clear e0
    go_enter Tryd.func24, Tryd.ntmps24
    go_wp2_with fail
    refine wp_loop_rounds 1 ?_
    rw [rounds_succ]
    go_wp2_with fail
    go_ret
    exact ⟨ret_int E.out, rfl⟩
  | false =>
    cases h1 : (n1.toList == s.toList) with
    | true =>
      have E : Hd ((1 : Int) = phOf s) := ⟨by rw [← e0.out]; simp [phFrom, h0, h1]⟩
      clear e0
      go_enter Tryd.func24, Tryd.ntmps24
      go_wp2_with fail
      refine wp_loop_rounds 2 ?_
      rw [rounds_succ]
      go_wp2_with fail
      rw [rounds_succ]
      go_wp2_with fail
      go_ret
      exact ⟨ret_int E.out, rfl⟩
    | false =>
      cases h2 : (n2.toList == s.toList) with
      | true =>
        have E : Hd ((2 : Int) = phOf s) := ⟨by rw [← e0.out]; simp [phFrom, h0, h1, h2]⟩
        clear e0
        go_enter Tryd.func24, Tryd.ntmps24
        go_wp2_with fail
        refine wp_loop_rounds 3 ?_
        rw [rounds_succ]
        go_wp2_with fail
        rw [rounds_succ]
        go_wp2_with fail
        rw [rounds_succ]
        go_wp2_with fail
        go_ret
        exact ⟨ret_int E.out, rfl⟩
      | false =>
        cases h3 : (n3.toList == s.toList) with
        | true =>
          have E : Hd ((3 : Int) = phOf s) := ⟨by rw [← e0.out]; simp [phFrom, h0, h1, h2, h3]⟩
          clear e0
          go_enter Tryd.func24, Tryd.ntmps24
          go_wp2_with fail
          refine wp_loop_rounds 4 ?_
          rw [rounds_succ]
          go_wp2_with fail
          rw [rounds_succ]
          go_wp2_with fail
          rw [rounds_succ]
          go_wp2_with fail
          rw [rounds_succ]
          go_wp2_with fail
          go_ret
          exact ⟨ret_int E.out, rfl⟩
        | false =>
          cases h4 : (n4.toList == s.toList) with
          | true =>
            have E : Hd ((4 : Int) = phOf s) := ⟨by rw [← e0.out]; simp [phFrom, h0, h1, h2, h3, h4]⟩
            clear e0
            go_enter Tryd.func24, Tryd.ntmps24
            go_wp2_with fail
            refine wp_loop_rounds 5 ?_
            rw [rounds_succ]
            go_wp2_with fail
            rw [rounds_succ]
            go_wp2_with fail
            rw [rounds_succ]
            go_wp2_with fail
            rw [rounds_succ]
            go_wp2_with fail
            rw [rounds_succ]
            go_wp2_with fail
            go_ret
            exact ⟨ret_int E.out, rfl⟩
          | false =>
            cases h5 : (n5.toList == s.toList) with
            | true =>
              have E : Hd ((5 : Int) = phOf s) := ⟨by rw [← e0.out]; simp [phFrom, h0, h1, h2, h3, h4, h5]⟩
              clear e0
              go_enter Tryd.func24, Tryd.ntmps24
              go_wp2_with fail
              refine wp_loop_rounds 6 ?_
              rw [rounds_succ]
              go_wp2_with fail
              rw [rounds_succ]
              go_wp2_with fail
              rw [rounds_succ]
              go_wp2_with fail
              rw [rounds_succ]
              go_wp2_with fail
              rw [rounds_succ]
              go_wp2_with fail
              rw [rounds_succ]
              go_wp2_with fail
              go_ret
              exact ⟨ret_int E.out, rfl⟩
            | false =>
              cases h6 : (n6.toList == s.toList) with
              | true =>
                have E : Hd ((6 : Int) = phOf s) := ⟨by rw [← e0.out]; simp [phFrom, h0, h1, h2, h3, h4, h5, h6]⟩
                clear e0
                go_enter Tryd.func24, Tryd.ntmps24
                go_wp2_with fail
                refine wp_loop_rounds 7 ?_
                rw [rounds_succ]
                go_wp2_with fail
                rw [rounds_succ]
                go_wp2_with fail
                rw [rounds_succ]
                go_wp2_with fail
                rw [rounds_succ]
                go_wp2_with fail
                rw [rounds_succ]
                go_wp2_with fail
                rw [rounds_succ]
                go_wp2_with fail
                rw [rounds_succ]
                go_wp2_with fail
                go_ret
                exact ⟨ret_int E.out, rfl⟩
              | false =>
                cases h7 : (n7.toList == s.toList) with
                | true =>
                  have E : Hd ((7 : Int) = phOf s) := ⟨by rw [← e0.out]; simp [phFrom, h0, h1, h2, h3, h4, h5, h6, h7]⟩
                  clear e0
                  go_enter Tryd.func24, Tryd.ntmps24
                  go_wp2_with fail
                  refine wp_loop_rounds 8 ?_
                  rw [rounds_succ]
                  go_wp2_with fail
                  rw [rounds_succ]
                  go_wp2_with fail
                  rw [rounds_succ]
                  go_wp2_with fail
                  rw [rounds_succ]
                  go_wp2_with fail
                  rw [rounds_succ]
                  go_wp2_with fail
                  rw [rounds_succ]
                  go_wp2_with fail
                  rw [rounds_succ]
                  go_wp2_with fail
                  rw [rounds_succ]
                  go_wp2_with fail
                  go_ret
                  exact ⟨ret_int E.out, rfl⟩
                | false =>
                  have E : Hd ((-1 : Int) = phOf s) := ⟨by rw [← e0.out]; simp [phFrom, h0, h1, h2, h3, h4, h5, h6, h7]⟩
                  clear e0
                  go_enter Tryd.func24, Tryd.ntmps24
                  go_wp2_with fail
                  refine wp_loop_rounds 9 ?_
                  rw [rounds_succ]
                  go_wp2_with fail
                  rw [rounds_succ]
                  go_wp2_with fail
                  rw [rounds_succ]
                  go_wp2_with fail
                  rw [rounds_succ]
                  go_wp2_with fail
                  rw [rounds_succ]
                  go_wp2_with fail
                  rw [rounds_succ]
                  go_wp2_with fail
                  rw [rounds_succ]
                  go_wp2_with fail
                  rw [rounds_succ]
                  go_wp2_with fail
                  rw [rounds_succ]
                  go_wp2_with fail
                  go_ret
                  exact ⟨ret_int E.out, rfl⟩

structure NamedTo (s : ByteArray) (k : Nat) : Prop where
  out : phFrom s (phNames.drop k) (k : Int) = phOf s
  le : k ≤ 8
theorem namedTo_zero (s : ByteArray) : NamedTo s 0 := ⟨rfl, by omega⟩
theorem named_drop {k : Nat} (hk : k < 8) : phNames.drop k = phName (k : Int) :: phNames.drop (k + 1) := by
  have h : k < phNames.length := hk
  rw [List.drop_eq_getElem_cons h, phName_in (by omega)]
  simp [List.getD, List.getElem?_eq_getElem h]
theorem named_yes {s : ByteArray} {k : Nat} (hk : (k : Int) ≤ 7) (h : NamedTo s k) (he : ((phName (k : Int)).toList == s.toList) = true) : (k : Int) = phOf s := by
  have := h.out
  rw [named_drop (by omega), phFrom, if_pos he] at this
  exact this
theorem named_next {s : ByteArray} {k : Nat} (hk : (k : Int) ≤ 7) (h : NamedTo s k) (he : ((phName (k : Int)).toList == s.toList) = false) : NamedTo s (k + 1) := by
  have := h.out
  rw [named_drop (by omega), phFrom, if_neg (by rw [he]; simp)] at this
  exact ⟨by rw [show ((k + 1 : Nat) : Int) = (k : Int) + 1 from by omega]; exact this, by omega⟩
theorem named_end {s : ByteArray} {k : Nat} (hk : ¬ (k : Int) ≤ 7) (h : NamedTo s k) : (-1 : Int) = phOf s := by
  have h1 := h.out
  have h2 := h.le
  rw [show k = 8 from by omega] at h1
  exact h1

set_option maxHeartbeats 400000 in
theorem specPhaseOf_any (s : ByteArray) (w : World) :
    Calls Tryd.prog 25 #[.string s] w fun e w' => e = .returned (.int .i64 (phOf s)) ∧ Below w.heap.size w w' := by
  go_enter Tryd.func25, Tryd.ntmps25
  go_wp2_with fail
  go_loopw [3] (fun i wr => ∃ k : Nat, i = .int .i64 k ∧ NamedTo s k ∧ Hd (Below w.heap.size w wr)) (fun i _ => 8 - (intOf i).toNat)
  case atStart => exact ⟨0, rfl, namedTo_zero s, ⟨Below.refl _ _⟩⟩
  case round =>
    obtain ⟨k, rfl, hL, hB⟩ := hrel
    by_cases hlt : (k : Int) ≤ 7
    · cases he : ((phName (k : Int)).toList == s.toList) with
      | true =>
        have E : Hd ((k : Int) = phOf s) := ⟨named_yes hlt hL he⟩
        clear hL
        go_wp2_with fail
        refine (specPhaseName_any (k : Int) _).mono ?_
        rintro e w1 ⟨rfl, hw⟩
        have hB1 : Hd (Below w.heap.size w w1) := ⟨Below.next hB.out hw⟩
        clear hw hB
        generalize phName (k : Int) = z at *
        go_wp2_with fail
        go_ret
        exact ⟨ret_int E.out, hB1.out⟩
      | false =>
        have hN := named_next hlt hL he
        clear hL
        go_wp2_with fail
        refine (specPhaseName_any (k : Int) _).mono ?_
        rintro e w1 ⟨rfl, hw⟩
        have hB1 : Hd (Below w.heap.size w w1) := ⟨Below.next hB.out hw⟩
        clear hw hB
        generalize phName (k : Int) = z at *
        go_wp2_with fail
        go_roundw
        case rel => exact ⟨k + 1, by go_num, hN, hB1⟩
        case measure => simp [intOf]; omega
    · have E : Hd ((-1 : Int) = phOf s) := ⟨named_end hlt hL⟩
      clear hL
      go_wp2_with fail
      go_ret
      exact ⟨ret_int E.out, hB.out⟩

end Go.Proofs.YtjpfkjehlaepbaaDoor
