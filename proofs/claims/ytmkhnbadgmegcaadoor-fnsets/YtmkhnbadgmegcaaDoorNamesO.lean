/- Contracts of CsOf, in the program (over its table) and in the specification. -/
import Derived.Test.YtmkhnbadgmegcaaDoorNames
namespace Go.Proofs.YtmkhnbadgmegcaaDoor
open Go.RowKit

/-- The set of that name among those from k on, or -1. -/
def csFrom (s : ByteArray) : List ByteArray → Int → Int
  | [], _ => -1
  | z :: r, k => if z.toList == s.toList then k else csFrom s r (k + 1)
def csOf (s : ByteArray) : Int := csFrom s names 0

set_option maxHeartbeats 400000 in
theorem implCsOf_any (s : ByteArray) (w : World) (T : Hd (NamesAt w)) :
    Calls Tryd.prog 20 #[.string s] w fun e w' => e = .returned (.int .i64 (csOf s)) ∧ w' = w := by
  have c0 : w.cell? ⟨0, 0, none⟩ = some (.string (names.getD 0 ⟨#[]⟩)) := T.out.out 0 (by omega)
  have c1 : w.cell? ⟨0, 1, none⟩ = some (.string (names.getD 1 ⟨#[]⟩)) := T.out.out 1 (by omega)
  have c2 : w.cell? ⟨0, 2, none⟩ = some (.string (names.getD 2 ⟨#[]⟩)) := T.out.out 2 (by omega)
  have c3 : w.cell? ⟨0, 3, none⟩ = some (.string (names.getD 3 ⟨#[]⟩)) := T.out.out 3 (by omega)
  have c4 : w.cell? ⟨0, 4, none⟩ = some (.string (names.getD 4 ⟨#[]⟩)) := T.out.out 4 (by omega)
  have c5 : w.cell? ⟨0, 5, none⟩ = some (.string (names.getD 5 ⟨#[]⟩)) := T.out.out 5 (by omega)
  have e0 : Hd (csFrom s [names.getD 0 ⟨#[]⟩, names.getD 1 ⟨#[]⟩, names.getD 2 ⟨#[]⟩, names.getD 3 ⟨#[]⟩, names.getD 4 ⟨#[]⟩, names.getD 5 ⟨#[]⟩] 0 = csOf s) := ⟨rfl⟩
  generalize names.getD 0 ⟨#[]⟩ = n0 at *
  generalize names.getD 1 ⟨#[]⟩ = n1 at *
  generalize names.getD 2 ⟨#[]⟩ = n2 at *
  generalize names.getD 3 ⟨#[]⟩ = n3 at *
  generalize names.getD 4 ⟨#[]⟩ = n4 at *
  generalize names.getD 5 ⟨#[]⟩ = n5 at *
  have x0 : (Instr.index 47 (.agg #[.string n0, .string n1, .string n2, .string n3, .string n4, .string n5]) (.int .i64 0)).run Tryd.prog w = .ok (.string n0) w := by kernel_rfl
  have x1 : (Instr.index 47 (.agg #[.string n0, .string n1, .string n2, .string n3, .string n4, .string n5]) (.int .i64 1)).run Tryd.prog w = .ok (.string n1) w := by kernel_rfl
  have x2 : (Instr.index 47 (.agg #[.string n0, .string n1, .string n2, .string n3, .string n4, .string n5]) (.int .i64 2)).run Tryd.prog w = .ok (.string n2) w := by kernel_rfl
  have x3 : (Instr.index 47 (.agg #[.string n0, .string n1, .string n2, .string n3, .string n4, .string n5]) (.int .i64 3)).run Tryd.prog w = .ok (.string n3) w := by kernel_rfl
  have x4 : (Instr.index 47 (.agg #[.string n0, .string n1, .string n2, .string n3, .string n4, .string n5]) (.int .i64 4)).run Tryd.prog w = .ok (.string n4) w := by kernel_rfl
  have x5 : (Instr.index 47 (.agg #[.string n0, .string n1, .string n2, .string n3, .string n4, .string n5]) (.int .i64 5)).run Tryd.prog w = .ok (.string n5) w := by kernel_rfl
  cases h0 : (n0.toList == s.toList) with
  | true =>
    have E : Hd ((0 : Int) = csOf s) := ⟨by rw [← e0.out]; simp [csFrom, h0]⟩
    clear e0
    go_enter Tryd.func20, Tryd.ntmps20
    go_wp2_with fail
    refine wp_loop_rounds 1 ?_
    rw [rounds_succ]
    go_wp2_with fail
    go_ret
    exact ⟨ret_int E.out, rfl⟩
  | false =>
    cases h1 : (n1.toList == s.toList) with
    | true =>
      have E : Hd ((1 : Int) = csOf s) := ⟨by rw [← e0.out]; simp [csFrom, h0, h1]⟩
      clear e0
      go_enter Tryd.func20, Tryd.ntmps20
      go_wp2_with fail
      refine wp_loop_rounds 2 ?_
      rw [rounds_succ]
      go_wp2_with fail
      rw [rounds_succ]
      go_wp2_with fail
      go_ret
      exact ⟨ret_int E.out, rfl⟩
    | false =>
      cases h2 : (n2.toList == s.toList) with
      | true =>
        have E : Hd ((2 : Int) = csOf s) := ⟨by rw [← e0.out]; simp [csFrom, h0, h1, h2]⟩
        clear e0
        go_enter Tryd.func20, Tryd.ntmps20
        go_wp2_with fail
        refine wp_loop_rounds 3 ?_
        rw [rounds_succ]
        go_wp2_with fail
        rw [rounds_succ]
        go_wp2_with fail
        rw [rounds_succ]
        go_wp2_with fail
        go_ret
        exact ⟨ret_int E.out, rfl⟩
      | false =>
        cases h3 : (n3.toList == s.toList) with
        | true =>
          have E : Hd ((3 : Int) = csOf s) := ⟨by rw [← e0.out]; simp [csFrom, h0, h1, h2, h3]⟩
          clear e0
          go_enter Tryd.func20, Tryd.ntmps20
          go_wp2_with fail
          refine wp_loop_rounds 4 ?_
          rw [rounds_succ]
          go_wp2_with fail
          rw [rounds_succ]
          go_wp2_with fail
          rw [rounds_succ]
          go_wp2_with fail
          rw [rounds_succ]
          go_wp2_with fail
          go_ret
          exact ⟨ret_int E.out, rfl⟩
        | false =>
          cases h4 : (n4.toList == s.toList) with
          | true =>
            have E : Hd ((4 : Int) = csOf s) := ⟨by rw [← e0.out]; simp [csFrom, h0, h1, h2, h3, h4]⟩
            clear e0
            go_enter Tryd.func20, Tryd.ntmps20
            go_wp2_with fail
            refine wp_loop_rounds 5 ?_
            rw [rounds_succ]
            go_wp2_with fail
            rw [rounds_succ]
            go_wp2_with fail
            rw [rounds_succ]
            go_wp2_with fail
            rw [rounds_succ]
            go_wp2_with fail
            rw [rounds_succ]
            go_wp2_with fail
            go_ret
            exact ⟨ret_int E.out, rfl⟩
          | false =>
            cases h5 : (n5.toList == s.toList) with
            | true =>
              have E : Hd ((5 : Int) = csOf s) := ⟨by rw [← e0.out]; simp [csFrom, h0, h1, h2, h3, h4, h5]⟩
              clear e0
              go_enter Tryd.func20, Tryd.ntmps20
              go_wp2_with fail
              refine wp_loop_rounds 6 ?_
              rw [rounds_succ]
              go_wp2_with fail
              rw [rounds_succ]
              go_wp2_with fail
              rw [rounds_succ]
              go_wp2_with fail
              rw [rounds_succ]
              go_wp2_with fail
              rw [rounds_succ]
              go_wp2_with fail
              rw [rounds_succ]
              go_wp2_with fail
              go_ret
              exact ⟨ret_int E.out, rfl⟩
            | false =>
              have E : Hd ((-1 : Int) = csOf s) := ⟨by rw [← e0.out]; simp [csFrom, h0, h1, h2, h3, h4, h5]⟩
              clear e0
              go_enter Tryd.func20, Tryd.ntmps20
              go_wp2_with fail
              refine wp_loop_rounds 7 ?_
              rw [rounds_succ]
              go_wp2_with fail
              rw [rounds_succ]
              go_wp2_with fail
              rw [rounds_succ]
              go_wp2_with fail
              rw [rounds_succ]
              go_wp2_with fail
              rw [rounds_succ]
              go_wp2_with fail
              rw [rounds_succ]
              go_wp2_with fail
              rw [rounds_succ]
              go_wp2_with fail
              go_ret
              exact ⟨ret_int E.out, rfl⟩

structure NamedTo (s : ByteArray) (k : Nat) : Prop where
  out : csFrom s (names.drop k) (k : Int) = csOf s
  le : k ≤ 6
theorem namedTo_zero (s : ByteArray) : NamedTo s 0 := ⟨rfl, by omega⟩
theorem named_drop {k : Nat} (hk : k < 6) : names.drop k = csName (k : Int) :: names.drop (k + 1) := by
  have h : k < names.length := hk
  rw [List.drop_eq_getElem_cons h, csName_in (by omega)]
  simp [List.getD, List.getElem?_eq_getElem h]
theorem named_yes {s : ByteArray} {k : Nat} (hk : (k : Int) ≤ 5) (h : NamedTo s k) (he : ((csName (k : Int)).toList == s.toList) = true) : (k : Int) = csOf s := by
  have := h.out
  rw [named_drop (by omega), csFrom, if_pos he] at this
  exact this
theorem named_next {s : ByteArray} {k : Nat} (hk : (k : Int) ≤ 5) (h : NamedTo s k) (he : ((csName (k : Int)).toList == s.toList) = false) : NamedTo s (k + 1) := by
  have := h.out
  rw [named_drop (by omega), csFrom, if_neg (by rw [he]; simp)] at this
  exact ⟨by rw [show ((k + 1 : Nat) : Int) = (k : Int) + 1 from by omega]; exact this, by omega⟩
theorem named_end {s : ByteArray} {k : Nat} (hk : ¬ (k : Int) ≤ 5) (h : NamedTo s k) : (-1 : Int) = csOf s := by
  have h1 := h.out
  have h2 := h.le
  rw [show k = 6 from by omega] at h1
  exact h1

set_option maxHeartbeats 400000 in
theorem specCsOf_any (s : ByteArray) (w : World) :
    Calls Tryd.prog 21 #[.string s] w fun e w' => e = .returned (.int .i64 (csOf s)) ∧ Below w.heap.size w w' := by
  go_enter Tryd.func21, Tryd.ntmps21
  go_wp2_with fail
  go_loopw [3] (fun i wr => ∃ k : Nat, i = .int .i64 k ∧ NamedTo s k ∧ Hd (Below w.heap.size w wr)) (fun i _ => 6 - (intOf i).toNat)
  case atStart => exact ⟨0, rfl, namedTo_zero s, ⟨Below.refl _ _⟩⟩
  case round =>
    obtain ⟨k, rfl, hL, hB⟩ := hrel
    by_cases hlt : (k : Int) ≤ 5
    · cases he : ((csName (k : Int)).toList == s.toList) with
      | true =>
        have E : Hd ((k : Int) = csOf s) := ⟨named_yes hlt hL he⟩
        clear hL
        go_wp2_with fail
        refine (specCsName_any (k : Int) _).mono ?_
        rintro e w1 ⟨rfl, hw⟩
        have hB1 : Hd (Below w.heap.size w w1) := ⟨Below.next hB.out hw⟩
        clear hw hB
        generalize csName (k : Int) = z at *
        go_wp2_with fail
        go_ret
        exact ⟨ret_int E.out, hB1.out⟩
      | false =>
        have hN := named_next hlt hL he
        clear hL
        go_wp2_with fail
        refine (specCsName_any (k : Int) _).mono ?_
        rintro e w1 ⟨rfl, hw⟩
        have hB1 : Hd (Below w.heap.size w w1) := ⟨Below.next hB.out hw⟩
        clear hw hB
        generalize csName (k : Int) = z at *
        go_wp2_with fail
        go_roundw
        case rel => exact ⟨k + 1, by go_num, hN, hB1⟩
        case measure => simp [intOf]; omega
    · have E : Hd ((-1 : Int) = csOf s) := ⟨named_end hlt hL⟩
      clear hL
      go_wp2_with fail
      go_ret
      exact ⟨ret_int E.out, hB.out⟩

end Go.Proofs.YtmkhnbadgmegcaaDoor
