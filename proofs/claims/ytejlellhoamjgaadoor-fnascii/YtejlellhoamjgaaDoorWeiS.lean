/- The contract of Weight in the specification. -/
import Derived.Test.YtejlellhoamjgaaDoorWeiP
import Derived.Test.YtejlellhoamjgaaDoorCommon
namespace Go.Proofs.YtejlellhoamjgaaDoor
set_option maxRecDepth 4000
open Go.RowKit

theorem wei_eq (n : Int) : wei n = if ((n == 32) || inB n 97 122 || inB n 48 57) = true then 3 else if (inB n 65 90 || inB n 192 591 || inB n 1024 1119 || inB n 12353 12543) = true then 2 else if ((n == 9) || (n == 10) || (n == 13)) = true then 0 else if (decide (n < 32) || inB n 127 159) = true then -5 else 0 := by
  unfold wei inB
  simp only [Bool.or_eq_true, beq_iff_eq, decide_eq_true_eq, or_assoc]

set_option maxHeartbeats 1000000 in
theorem specWeight_any (n : Int) (w : World) : Calls Tryd.prog 26 #[.int .i64 n] w fun e w' => e = .returned (.int .i64 (wei n)) ∧ w' = w := by
  cases h0 : (n == 32) with
  | true =>
    have HE : Hd ((3 : Int) = wei n) := ⟨by rw [wei_eq, h0]; rfl⟩
    go_enter Tryd.func26, Tryd.ntmps26
    go_wp2_with (go_at_call 38; refine (l1In_any _ _ _ _).mono ?_; rintro e w' ⟨rfl, hw⟩; replace hw := hw.symm; subst hw)
    go_ret
    exact ⟨congrArg (fun x => Ending.returned (Value.int .i64 x)) HE.out, rfl⟩
  | false =>
    cases h1 : inB n 97 122 with
    | true =>
      have HE : Hd ((3 : Int) = wei n) := ⟨by rw [wei_eq, h0, h1]; rfl⟩
      go_enter Tryd.func26, Tryd.ntmps26
      go_wp2_with (go_at_call 38; refine (l1In_any _ _ _ _).mono ?_; rintro e w' ⟨rfl, hw⟩; replace hw := hw.symm; subst hw)
      go_ret
      exact ⟨congrArg (fun x => Ending.returned (Value.int .i64 x)) HE.out, rfl⟩
    | false =>
      cases h2 : inB n 48 57 with
      | true =>
        have HE : Hd ((3 : Int) = wei n) := ⟨by rw [wei_eq, h0, h1, h2]; rfl⟩
        go_enter Tryd.func26, Tryd.ntmps26
        go_wp2_with (go_at_call 38; refine (l1In_any _ _ _ _).mono ?_; rintro e w' ⟨rfl, hw⟩; replace hw := hw.symm; subst hw)
        go_ret
        exact ⟨congrArg (fun x => Ending.returned (Value.int .i64 x)) HE.out, rfl⟩
      | false =>
        cases h3 : inB n 65 90 with
        | true =>
          have HE : Hd ((2 : Int) = wei n) := ⟨by rw [wei_eq, h0, h1, h2, h3]; rfl⟩
          go_enter Tryd.func26, Tryd.ntmps26
          go_wp2_with (go_at_call 38; refine (l1In_any _ _ _ _).mono ?_; rintro e w' ⟨rfl, hw⟩; replace hw := hw.symm; subst hw)
          go_ret
          exact ⟨congrArg (fun x => Ending.returned (Value.int .i64 x)) HE.out, rfl⟩
        | false =>
          cases h4 : inB n 192 591 with
          | true =>
            have HE : Hd ((2 : Int) = wei n) := ⟨by rw [wei_eq, h0, h1, h2, h3, h4]; rfl⟩
            go_enter Tryd.func26, Tryd.ntmps26
            go_wp2_with (go_at_call 38; refine (l1In_any _ _ _ _).mono ?_; rintro e w' ⟨rfl, hw⟩; replace hw := hw.symm; subst hw)
            go_ret
            exact ⟨congrArg (fun x => Ending.returned (Value.int .i64 x)) HE.out, rfl⟩
          | false =>
            cases h5 : inB n 1024 1119 with
            | true =>
              have HE : Hd ((2 : Int) = wei n) := ⟨by rw [wei_eq, h0, h1, h2, h3, h4, h5]; rfl⟩
              go_enter Tryd.func26, Tryd.ntmps26
              go_wp2_with (go_at_call 38; refine (l1In_any _ _ _ _).mono ?_; rintro e w' ⟨rfl, hw⟩; replace hw := hw.symm; subst hw)
              go_ret
              exact ⟨congrArg (fun x => Ending.returned (Value.int .i64 x)) HE.out, rfl⟩
            | false =>
              cases h6 : inB n 12353 12543 with
              | true =>
                have HE : Hd ((2 : Int) = wei n) := ⟨by rw [wei_eq, h0, h1, h2, h3, h4, h5, h6]; rfl⟩
                go_enter Tryd.func26, Tryd.ntmps26
                go_wp2_with (go_at_call 38; refine (l1In_any _ _ _ _).mono ?_; rintro e w' ⟨rfl, hw⟩; replace hw := hw.symm; subst hw)
                go_ret
                exact ⟨congrArg (fun x => Ending.returned (Value.int .i64 x)) HE.out, rfl⟩
              | false =>
                cases h7 : (n == 9) with
                | true =>
                  have HE : Hd ((0 : Int) = wei n) := ⟨by rw [wei_eq, h0, h1, h2, h3, h4, h5, h6, h7]; rfl⟩
                  go_enter Tryd.func26, Tryd.ntmps26
                  go_wp2_with (go_at_call 38; refine (l1In_any _ _ _ _).mono ?_; rintro e w' ⟨rfl, hw⟩; replace hw := hw.symm; subst hw)
                  go_ret
                  exact ⟨congrArg (fun x => Ending.returned (Value.int .i64 x)) HE.out, rfl⟩
                | false =>
                  cases h8 : (n == 10) with
                  | true =>
                    have HE : Hd ((0 : Int) = wei n) := ⟨by rw [wei_eq, h0, h1, h2, h3, h4, h5, h6, h7, h8]; rfl⟩
                    go_enter Tryd.func26, Tryd.ntmps26
                    go_wp2_with (go_at_call 38; refine (l1In_any _ _ _ _).mono ?_; rintro e w' ⟨rfl, hw⟩; replace hw := hw.symm; subst hw)
                    go_ret
                    exact ⟨congrArg (fun x => Ending.returned (Value.int .i64 x)) HE.out, rfl⟩
                  | false =>
                    cases h9 : (n == 13) with
                    | true =>
                      have HE : Hd ((0 : Int) = wei n) := ⟨by rw [wei_eq, h0, h1, h2, h3, h4, h5, h6, h7, h8, h9]; rfl⟩
                      go_enter Tryd.func26, Tryd.ntmps26
                      go_wp2_with (go_at_call 38; refine (l1In_any _ _ _ _).mono ?_; rintro e w' ⟨rfl, hw⟩; replace hw := hw.symm; subst hw)
                      go_ret
                      exact ⟨congrArg (fun x => Ending.returned (Value.int .i64 x)) HE.out, rfl⟩
                    | false =>
                      cases h10 : decide (n < 32) with
                      | true =>
                        have HE : Hd (((-5) : Int) = wei n) := ⟨by rw [wei_eq, h0, h1, h2, h3, h4, h5, h6, h7, h8, h9, h10]; rfl⟩
                        go_enter Tryd.func26, Tryd.ntmps26
                        go_wp2_with (go_at_call 38; refine (l1In_any _ _ _ _).mono ?_; rintro e w' ⟨rfl, hw⟩; replace hw := hw.symm; subst hw)
                        go_ret
                        exact ⟨congrArg (fun x => Ending.returned (Value.int .i64 x)) HE.out, rfl⟩
                      | false =>
                        cases h11 : inB n 127 159 with
                        | true =>
                          have HE : Hd (((-5) : Int) = wei n) := ⟨by rw [wei_eq, h0, h1, h2, h3, h4, h5, h6, h7, h8, h9, h10, h11]; rfl⟩
                          go_enter Tryd.func26, Tryd.ntmps26
                          go_wp2_with (go_at_call 38; refine (l1In_any _ _ _ _).mono ?_; rintro e w' ⟨rfl, hw⟩; replace hw := hw.symm; subst hw)
                          go_ret
                          exact ⟨congrArg (fun x => Ending.returned (Value.int .i64 x)) HE.out, rfl⟩
                        | false =>
                          have HE : Hd ((0 : Int) = wei n) := ⟨by rw [wei_eq, h0, h1, h2, h3, h4, h5, h6, h7, h8, h9, h10, h11]; rfl⟩
                          go_enter Tryd.func26, Tryd.ntmps26
                          go_wp2_with (go_at_call 38; refine (l1In_any _ _ _ _).mono ?_; rintro e w' ⟨rfl, hw⟩; replace hw := hw.symm; subst hw)
                          go_ret
                          exact ⟨congrArg (fun x => Ending.returned (Value.int .i64 x)) HE.out, rfl⟩

end Go.Proofs.YtejlellhoamjgaaDoor
