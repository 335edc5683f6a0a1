/- Contracts of the specification's ByteSign (its last helper, and the whole). -/
import Derived.Test.YtgefabagpcjegaaDoorSetsS
namespace Go.Proofs.YtgefabagpcjegaaDoor
set_option maxRecDepth 4000
open Go.RowKit

set_option maxHeartbeats 1000000 in
theorem l3Win_any (b : Int) (w : World) (h1 : 128 ≤ b) (h2 : b ≤ 255) :
    Calls Tryd.prog 82 #[.int .i64 b] w fun e w' => e = .returned (.int .i64 (winB b)) ∧ Below w.heap.size w w' := by
  rcases (show 160 ≤ b ∨ b < 160 from by omega) with h | h
  · have e0 : Hd (b = winB b) := ⟨(win_up h).symm⟩
    go_enter Tryd.func82, Tryd.ntmps82
    go_wp2_with fail
    go_ret
    exact ⟨ret_int e0.out, below_lit _ _⟩
  · have hc : (w.alloc (.cells #[.int .i64 8364, .int .i64 (-1), .int .i64 8218, .int .i64 402, .int .i64 8222, .int .i64 8230, .int .i64 8224, .int .i64 8225, .int .i64 710, .int .i64 8240, .int .i64 352, .int .i64 8249, .int .i64 338, .int .i64 (-1), .int .i64 381, .int .i64 (-1), .int .i64 (-1), .int .i64 8216, .int .i64 8217, .int .i64 8220, .int .i64 8221, .int .i64 8226, .int .i64 8211, .int .i64 8212, .int .i64 732, .int .i64 8482, .int .i64 353, .int .i64 8250, .int .i64 339, .int .i64 (-1), .int .i64 382, .int .i64 376] 3)).cell? ⟨w.heap.size, (b - 128).toNat, none⟩ = some (.int .i64 (winS.getD (b - 128).toNat 0)) := lit_ints w winS _ _ (show _ < 32 from by omega)
    have e0 : Hd (winS.getD (b - 128).toNat 0 = winB b) := ⟨(win_row h).symm⟩
    generalize winS.getD (b - 128).toNat 0 = t at *
    go_enter Tryd.func82, Tryd.ntmps82
    go_wp2_with fail
    go_ret
    exact ⟨ret_int e0.out, below_lit _ _⟩

theorem bs_none {cs b : Int} (h : signOf cs b < 0) : Hd ((0 : Int) = bsN cs b) ∧ Hd (false = bsOk cs b) :=
  ⟨⟨by unfold bsN; rw [if_pos h]⟩, ⟨by unfold bsOk; rw [decide_eq_false (by omega)]⟩⟩
theorem bs_some {cs b : Int} (h : 0 ≤ signOf cs b) : Hd (signOf cs b = bsN cs b) ∧ Hd (true = bsOk cs b) :=
  ⟨⟨by unfold bsN; rw [if_neg (by omega)]⟩, ⟨by unfold bsOk; rw [decide_eq_true h]⟩⟩

set_option maxHeartbeats 1000000 in
theorem specByteSign_any (cs b : Int) (w : World) :
    Calls Tryd.prog 70 #[.int .i64 cs, .int .i64 b] w fun e w' => e = .returned (.tuple #[.int .i64 (bsN cs b), .bool (bsOk cs b)]) ∧ Below w.heap.size w w' := by
  by_cases hc : 1 ≤ cs ∧ cs ≤ 4
  · have hin := in_t (x := cs) (lo := 1) (hi := 4) hc
    by_cases hb : 0 ≤ b ∧ b ≤ 255
    · have hin2 := in_t (x := b) (lo := 0) (hi := 255) hb
      obtain ⟨hb1, hb2⟩ := hb
      by_cases hlo : b < 128
      · obtain ⟨e0, e1⟩ := bs_some (cs := cs) (b := b) (by rw [sign_low hc hb1 hlo]; exact hb1)
        rw [sign_low hc hb1 hlo] at e0
        go_enter Tryd.func70, Tryd.ntmps70
        go_wp2_with (go_at_call 64; refine (l1In_any _ _ _ _).mono ?_; rintro e w' ⟨rfl, rfl⟩)
        go_ret2
        exact ⟨ret_pair e0.out e1.out, Below.refl _ _⟩
      · have hh : Hd (signOf cs b = highB cs b) := ⟨sign_high hc (by omega) hb2⟩
        rcases (show cs = 1 ∨ cs = 2 ∨ cs = 3 ∨ cs = 4 from by omega) with rfl | rfl | rfl | rfl
        · obtain ⟨e0, e1⟩ := bs_some (cs := 1) (b := b) (by rw [hh.out, high_one]; exact hb1)
          rw [hh.out, high_one] at e0
          go_enter Tryd.func70, Tryd.ntmps70
          go_wp2_with (go_at_call 64; refine (l1In_any _ _ _ _).mono ?_; rintro e w' ⟨rfl, rfl⟩)
          go_ret2
          exact ⟨ret_pair e0.out e1.out, Below.refl _ _⟩
        · have hp : 0 ≤ nineB b := nine_pos hb1
          obtain ⟨e0, e1⟩ := bs_some (cs := 2) (b := b) (by rw [hh.out, high_two]; exact hp)
          rw [hh.out, high_two] at e0
          clear hh
          generalize hg : nineB b = t at *
          have HG : Hd (nineB b = t) := ⟨hg⟩
          clear hg
          go_enter Tryd.func70, Tryd.ntmps70
          go_wp2_with (first | (go_at_call 64; refine (l1In_any _ _ _ _).mono ?_; rintro e w' ⟨rfl, rfl⟩) | (go_at_call 80; refine (l3Nine_any _ _).mono ?_; rintro e w' ⟨rfl, rfl⟩; rw [HG.out]))
          go_ret2
          exact ⟨ret_pair e0.out e1.out, Below.refl _ _⟩
        · by_cases hp : koiB b < 0
          · obtain ⟨e0, e1⟩ := bs_none (cs := 3) (b := b) (by rw [hh.out, high_three]; exact hp)
            clear hh
            generalize hg : koiB b = t at *
            have HG : Hd (koiB b = t) := ⟨hg⟩
            clear hg
            go_enter Tryd.func70, Tryd.ntmps70
            go_wp2_with (first | (go_at_call 64; refine (l1In_any _ _ _ _).mono ?_; rintro e w' ⟨rfl, rfl⟩) | (go_at_call 81; refine (l3Koi_any _ _ (by omega) (by omega)).mono ?_; rintro e w' ⟨rfl, hB⟩; rw [HG.out]))
            go_ret2
            exact ⟨ret_pair e0.out e1.out, hB⟩
          · obtain ⟨e0, e1⟩ := bs_some (cs := 3) (b := b) (by rw [hh.out, high_three]; omega)
            rw [hh.out, high_three] at e0
            clear hh
            generalize hg : koiB b = t at *
            have HG : Hd (koiB b = t) := ⟨hg⟩
            clear hg
            go_enter Tryd.func70, Tryd.ntmps70
            go_wp2_with (first | (go_at_call 64; refine (l1In_any _ _ _ _).mono ?_; rintro e w' ⟨rfl, rfl⟩) | (go_at_call 81; refine (l3Koi_any _ _ (by omega) (by omega)).mono ?_; rintro e w' ⟨rfl, hB⟩; rw [HG.out]))
            go_ret2
            exact ⟨ret_pair e0.out e1.out, hB⟩
        · by_cases hp : winB b < 0
          · obtain ⟨e0, e1⟩ := bs_none (cs := 4) (b := b) (by rw [hh.out, high_four]; exact hp)
            clear hh
            generalize hg : winB b = t at *
            have HG : Hd (winB b = t) := ⟨hg⟩
            clear hg
            go_enter Tryd.func70, Tryd.ntmps70
            go_wp2_with (first | (go_at_call 64; refine (l1In_any _ _ _ _).mono ?_; rintro e w' ⟨rfl, rfl⟩) | (go_at_call 82; refine (l3Win_any _ _ (by omega) (by omega)).mono ?_; rintro e w' ⟨rfl, hB⟩; rw [HG.out]))
            go_ret2
            exact ⟨ret_pair e0.out e1.out, hB⟩
          · obtain ⟨e0, e1⟩ := bs_some (cs := 4) (b := b) (by rw [hh.out, high_four]; omega)
            rw [hh.out, high_four] at e0
            clear hh
            generalize hg : winB b = t at *
            have HG : Hd (winB b = t) := ⟨hg⟩
            clear hg
            go_enter Tryd.func70, Tryd.ntmps70
            go_wp2_with (first | (go_at_call 64; refine (l1In_any _ _ _ _).mono ?_; rintro e w' ⟨rfl, rfl⟩) | (go_at_call 82; refine (l3Win_any _ _ (by omega) (by omega)).mono ?_; rintro e w' ⟨rfl, hB⟩; rw [HG.out]))
            go_ret2
            exact ⟨ret_pair e0.out e1.out, hB⟩
    · have hin2 := in_f (x := b) (lo := 0) (hi := 255) hb
      obtain ⟨e0, e1⟩ := bs_none (cs := cs) (b := b) (by rw [sign_out (by omega)]; omega)
      clear hb
      go_enter Tryd.func70, Tryd.ntmps70
      go_wp2_with (go_at_call 64; refine (l1In_any _ _ _ _).mono ?_; rintro e w' ⟨rfl, rfl⟩)
      go_ret2
      exact ⟨ret_pair e0.out e1.out, Below.refl _ _⟩
  · have hin := in_f (x := cs) (lo := 1) (hi := 4) hc
    obtain ⟨e0, e1⟩ := bs_none (cs := cs) (b := b) (by rw [sign_out (by omega)]; omega)
    clear hc
    go_enter Tryd.func70, Tryd.ntmps70
    go_wp2_with (go_at_call 64; refine (l1In_any _ _ _ _).mono ?_; rintro e w' ⟨rfl, rfl⟩)
    go_ret2
    exact ⟨ret_pair e0.out e1.out, Below.refl _ _⟩

end Go.Proofs.YtgefabagpcjegaaDoor
