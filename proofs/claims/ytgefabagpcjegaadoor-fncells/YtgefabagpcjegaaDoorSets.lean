/- Contracts of ByteSign, in the program (over its tables) and in the specification. -/
import Derived.Test.YtgefabagpcjegaaDoorCommon
import Derived.Test.YtgefabagpcjegaaDoorBase
import Derived.Test.YtgefabagpcjegaaDoorSetsP
namespace Go.Proofs.YtgefabagpcjegaaDoor
set_option maxRecDepth 4000
open Go.RowKit

/-- The program's three tables lie in their variables. -/
structure TabsAt (w : World) : Prop where
  nine : ∀ j, j < 32 → w.cell? ⟨1, j, none⟩ = some (.int .i64 (nineT.getD j 0))
  koi : ∀ j, j < 32 → w.cell? ⟨2, j, none⟩ = some (.int .i64 (koiT.getD j 0))
  win : ∀ j, j < 32 → w.cell? ⟨3, j, none⟩ = some (.int .i64 (winT.getD j 0))
theorem TabsAt.below {w w' : World} (h : TabsAt w) (hb : Below w.heap.size w w') : TabsAt w' :=
  ⟨fun j hj => cell_below (h.nine j hj) hb, fun j hj => cell_below (h.koi j hj) hb, fun j hj => cell_below (h.win j hj) hb⟩

set_option maxHeartbeats 400000 in
theorem nineSign_any (b : Int) (w : World) (h1 : 128 ≤ b) (h2 : b ≤ 255) (T : Hd (TabsAt w)) :
    Calls Tryd.prog 100 #[.int .i64 b] w fun e w' => e = .returned (.int .i64 (nineB b)) ∧ w' = w := by
  rcases (show b < 160 ∨ 192 ≤ b ∨ (160 ≤ b ∧ b < 192) from by omega) with h | h | ⟨ha, hb⟩
  · have e0 : Hd (b = nineB b) := ⟨(nine_low h).symm⟩
    go_enter Tryd.func100, Tryd.ntmps100
    go_wp2_with fail
    go_ret
    exact ⟨ret_int e0.out, rfl⟩
  · have e0 : Hd (b = nineB b) := ⟨(nine_up h).symm⟩
    go_enter Tryd.func100, Tryd.ntmps100
    go_wp2_with fail
    go_ret
    exact ⟨ret_int e0.out, rfl⟩
  · have hc := T.out.nine (b - 160).toNat (by omega)
    by_cases hz : nineT.getD (b - 160).toNat 0 = 0
    · have e0 : Hd (b = nineB b) := ⟨(nine_same' ha hb hz).symm⟩
      rw [hz] at hc
      clear hz
      go_enter Tryd.func100, Tryd.ntmps100
      go_wp2_with fail
      go_ret
      exact ⟨ret_int e0.out, rfl⟩
    · have e0 : Hd (nineT.getD (b - 160).toNat 0 = nineB b) := ⟨(nine_else' ha hb hz).symm⟩
      generalize nineT.getD (b - 160).toNat 0 = t at *
      go_enter Tryd.func100, Tryd.ntmps100
      go_wp2_with fail
      go_ret
      exact ⟨ret_int e0.out, rfl⟩

set_option maxHeartbeats 400000 in
theorem koiSign_any (b : Int) (w : World) (h1 : 128 ≤ b) (h2 : b ≤ 255) (T : Hd (TabsAt w)) :
    Calls Tryd.prog 101 #[.int .i64 b] w fun e w' => e = .returned (.int .i64 (zeroed (koiB b))) ∧ w' = w := by
  rcases (show 224 ≤ b ∨ (192 ≤ b ∧ b < 224) ∨ b = 163 ∨ b = 179 ∨ (b < 192 ∧ b ≠ 163 ∧ b ≠ 179) from by omega) with h | ⟨h, hb⟩ | h | h | ⟨h, ha, hb⟩
  · have hc := T.out.koi (b - 224).toNat (by omega)
    have hf := koi_fit (b - 224).toNat (by omega)
    have e0 : Hd (koiT.getD (b - 224).toNat 0 - 32 = zeroed (koiB b)) := ⟨by rw [koi_up h]; unfold zeroed; rw [if_neg (by omega)]⟩
    generalize koiT.getD (b - 224).toNat 0 = t at *
    go_enter Tryd.func101, Tryd.ntmps101
    go_wp2_with fail
    go_ret
    exact ⟨ret_int e0.out, rfl⟩
  · have hc := T.out.koi (b - 192).toNat (by omega)
    have hf := koi_fit (b - 192).toNat (by omega)
    have e0 : Hd (koiT.getD (b - 192).toNat 0 = zeroed (koiB b)) := ⟨by rw [koi_mid h hb]; unfold zeroed; rw [if_neg (by omega)]⟩
    generalize koiT.getD (b - 192).toNat 0 = t at *
    go_enter Tryd.func101, Tryd.ntmps101
    go_wp2_with fail
    go_ret
    exact ⟨ret_int e0.out, rfl⟩
  · subst h
    have e0 : Hd ((1105 : Int) = zeroed (koiB 163)) := ⟨by decide⟩
    go_enter Tryd.func101, Tryd.ntmps101
    go_wp2_with fail
    go_ret
    exact ⟨ret_int e0.out, rfl⟩
  · subst h
    have e0 : Hd ((1025 : Int) = zeroed (koiB 179)) := ⟨by decide⟩
    go_enter Tryd.func101, Tryd.ntmps101
    go_wp2_with fail
    go_ret
    exact ⟨ret_int e0.out, rfl⟩
  · have e0 : Hd ((0 : Int) = zeroed (koiB b)) := ⟨by rw [koi_none h ha hb]; rfl⟩
    go_enter Tryd.func101, Tryd.ntmps101
    go_wp2_with fail
    go_ret
    exact ⟨ret_int e0.out, rfl⟩

set_option maxHeartbeats 400000 in
theorem winSign_any (b : Int) (w : World) (h1 : 128 ≤ b) (h2 : b ≤ 255) (T : Hd (TabsAt w)) :
    Calls Tryd.prog 102 #[.int .i64 b] w fun e w' => e = .returned (.int .i64 (zeroed (winB b))) ∧ w' = w := by
  rcases (show 160 ≤ b ∨ b < 160 from by omega) with h | h
  · have e0 : Hd (b = zeroed (winB b)) := ⟨by rw [win_up h]; unfold zeroed; rw [if_neg (by omega)]⟩
    go_enter Tryd.func102, Tryd.ntmps102
    go_wp2_with fail
    go_ret
    exact ⟨ret_int e0.out, rfl⟩
  · have hc := T.out.win (b - 128).toNat (by omega)
    have e0 : Hd (winT.getD (b - 128).toNat 0 = zeroed (winB b)) := ⟨by rw [win_row h]; exact win_zero _ (by omega)⟩
    generalize winT.getD (b - 128).toNat 0 = t at *
    go_enter Tryd.func102, Tryd.ntmps102
    go_wp2_with fail
    go_ret
    exact ⟨ret_int e0.out, rfl⟩

theorem zeroed_pos {n : Int} (h : 0 ≤ n) : zeroed n = n := by unfold zeroed; rw [if_neg (by omega)]
theorem high_two (b : Int) : highB 2 b = nineB b := rfl
theorem high_three (b : Int) : highB 3 b = koiB b := rfl
theorem high_four (b : Int) : highB 4 b = winB b := rfl
theorem high_one (b : Int) : highB 1 b = b := rfl

set_option maxHeartbeats 400000 in
theorem highSign_any (cs b : Int) (w : World) (hc : 1 ≤ cs ∧ cs ≤ 4) (h1 : 128 ≤ b) (h2 : b ≤ 255) (T : Hd (TabsAt w)) :
    Calls Tryd.prog 98 #[.int .i64 cs, .int .i64 b] w fun e w' => e = .returned (.int .i64 (zeroed (highB cs b))) ∧ w' = w := by
  rcases (show cs = 1 ∨ cs = 2 ∨ cs = 3 ∨ cs = 4 from by omega) with rfl | rfl | rfl | rfl
  · have e0 : Hd (b = zeroed (highB 1 b)) := ⟨by rw [high_one, zeroed_pos (by omega)]⟩
    go_enter Tryd.func98, Tryd.ntmps98
    go_wp2_with fail
    go_ret
    exact ⟨ret_int e0.out, rfl⟩
  · have e0 : Hd (nineB b = zeroed (highB 2 b)) := ⟨by rw [high_two, zeroed_pos (nine_pos (by omega))]⟩
    go_enter Tryd.func98, Tryd.ntmps98
    go_wp2_with fail
    refine (nineSign_any b _ h1 h2 T).mono ?_
    rintro e w1 ⟨rfl, hw⟩
    replace hw := hw.symm
    subst hw
    generalize nineB b = t at *
    go_wp2_with fail
    go_ret
    exact ⟨ret_int e0.out, rfl⟩
  · have e0 : Hd (zeroed (koiB b) = zeroed (highB 3 b)) := ⟨rfl⟩
    go_enter Tryd.func98, Tryd.ntmps98
    go_wp2_with fail
    refine (koiSign_any b _ h1 h2 T).mono ?_
    rintro e w1 ⟨rfl, hw⟩
    replace hw := hw.symm
    subst hw
    generalize zeroed (koiB b) = t at *
    go_wp2_with fail
    go_ret
    exact ⟨ret_int e0.out, rfl⟩
  · have e0 : Hd (zeroed (winB b) = zeroed (highB 4 b)) := ⟨rfl⟩
    go_enter Tryd.func98, Tryd.ntmps98
    go_wp2_with fail
    refine (winSign_any b _ h1 h2 T).mono ?_
    rintro e w1 ⟨rfl, hw⟩
    replace hw := hw.symm
    subst hw
    generalize zeroed (winB b) = t at *
    go_wp2_with fail
    go_ret
    exact ⟨ret_int e0.out, rfl⟩


set_option maxHeartbeats 400000 in
theorem implByteSign_any (cs b : Int) (w : World) (T : Hd (TabsAt w)) :
    Calls Tryd.prog 91 #[.int .i64 cs, .int .i64 b] w fun e w' => e = .returned (.tuple #[.int .i64 (bsN cs b), .bool (bsOk cs b)]) ∧ w' = w := by
  by_cases hc : 1 ≤ cs ∧ cs ≤ 4
  · obtain ⟨hc1, hc2⟩ := hc
    by_cases hlo : 0 ≤ b ∧ b < 128
    · obtain ⟨hb1, hb2⟩ := hlo
      have e0 : Hd (b = bsN cs b) := ⟨by unfold bsN; rw [sign_low ⟨hc1, hc2⟩ hb1 hb2, if_neg (by omega)]⟩
      have e1 : Hd (true = bsOk cs b) := ⟨by unfold bsOk; rw [sign_low ⟨hc1, hc2⟩ hb1 hb2, decide_eq_true hb1]⟩
      go_enter Tryd.func91, Tryd.ntmps91
      go_wp2_with fail
      go_ret2
      exact ⟨ret_pair e0.out e1.out, rfl⟩
    · by_cases hhi : 128 ≤ b ∧ b ≤ 255
      · obtain ⟨hb1, hb2⟩ := hhi
        have e0 : Hd (zeroed (highB cs b) = bsN cs b) := ⟨by unfold bsN; rw [sign_high ⟨hc1, hc2⟩ hb1 hb2]; rfl⟩
        have e1 : Hd ((zeroed (highB cs b) != 0) = bsOk cs b) := ⟨(bsOk_zeroed hb1 hb2 ⟨hc1, hc2⟩).symm⟩
        go_enter Tryd.func91, Tryd.ntmps91
        go_wp2_with fail
        refine (highSign_any cs b _ ⟨hc1, hc2⟩ hb1 hb2 T).mono ?_
        rintro e w1 ⟨rfl, hw⟩
        replace hw := hw.symm
        subst hw
        generalize zeroed (highB cs b) = t at *
        go_wp2_with fail
        go_ret2
        exact ⟨ret_pair e0.out e1.out, rfl⟩
      · have e0 : Hd ((0 : Int) = bsN cs b) := ⟨by unfold bsN; rw [sign_out (by omega)]; rfl⟩
        have e1 : Hd (false = bsOk cs b) := ⟨by unfold bsOk; rw [sign_out (by omega)]; rfl⟩
        rcases (show b < 0 ∨ 255 < b from by omega) with hb | hb
        · go_enter Tryd.func91, Tryd.ntmps91
          go_wp2_with fail
          go_ret2
          exact ⟨ret_pair e0.out e1.out, rfl⟩
        · go_enter Tryd.func91, Tryd.ntmps91
          go_wp2_with fail
          go_ret2
          exact ⟨ret_pair e0.out e1.out, rfl⟩
  · have e0 : Hd ((0 : Int) = bsN cs b) := ⟨by unfold bsN; rw [sign_out (by omega)]; rfl⟩
    have e1 : Hd (false = bsOk cs b) := ⟨by unfold bsOk; rw [sign_out (by omega)]; rfl⟩
    rcases (show cs < 1 ∨ 4 < cs from by omega) with hb | hb
    · go_enter Tryd.func91, Tryd.ntmps91
      go_wp2_with fail
      go_ret2
      exact ⟨ret_pair e0.out e1.out, rfl⟩
    · go_enter Tryd.func91, Tryd.ntmps91
      go_wp2_with fail
      go_ret2
      exact ⟨ret_pair e0.out e1.out, rfl⟩

end Go.Proofs.YtgefabagpcjegaaDoor
