/- Parts of the proof, one behind the other. -/
import Derived.Test.YtlididoalekeoaaGreatDoorMxStoreOk1
import Derived.KernelRfl
import Derived.Test.YtlididoalekeoaaGreatDoorMxStoreOk6
import Derived.Test.YtlididoalekeoaaGreatDoorMxStoreOk3
import Derived.Lib.LaidTab
import Derived.Stop.LaidErr
import Derived.OpenVars
import Derived.MakeChecks
/- Parts of the proof, one behind the other. -/
/- Plain facts on sets of single bytes: which sign a byte stands for, and back. Contracts of ByteSign, in the program (over its tables) and in the specification. Contracts of the specification's ByteSign. Contracts of the specification's ByteSign (its last helper, and the whole). Contracts of SignByte, in the program and in the specification: both look through the bytes in turn. Plain facts: a byte's sign has that byte; below 128 a byte is itself. -/
namespace Go.Proofs.YtlididoalekeoaaGreatDoor
set_option maxRecDepth 4000
open Go.RowKit

def nineT : List Int := [0, 0, 0, 0, 8364, 0, 352, 0, 353, 0, 0, 0, 0, 0, 0, 0, 0, 0, 0, 0, 381, 0, 0, 0, 382, 0, 0, 0, 338, 339, 376, 0]
def koiT : List Int := [1102, 1072, 1073, 1094, 1076, 1077, 1092, 1075, 1093, 1080, 1081, 1082, 1083, 1084, 1085, 1086, 1087, 1103, 1088, 1089, 1090, 1091, 1078, 1074, 1100, 1099, 1079, 1096, 1101, 1097, 1095, 1098]
def winT : List Int := [8364, 0, 8218, 402, 8222, 8230, 8224, 8225, 710, 8240, 352, 8249, 338, 0, 381, 0, 0, 8216, 8217, 8220, 8221, 8226, 8211, 8212, 732, 8482, 353, 8250, 339, 0, 382, 376]
/-- The same row, where -1 says that there is none. -/
def winS : List Int := [8364, -1, 8218, 402, 8222, 8230, 8224, 8225, 710, 8240, 352, 8249, 338, -1, 381, -1, -1, 8216, 8217, 8220, 8221, 8226, 8211, 8212, 732, 8482, 353, 8250, 339, -1, 382, 376]

/-- The sign of a byte from 128 on; -1: none. -/
def nineB (b : Int) : Int := if b = 164 then 8364 else if b = 166 then 352 else if b = 168 then 353 else if b = 180 then 381 else if b = 184 then 382 else if b = 188 then 338 else if b = 189 then 339 else if b = 190 then 376 else b
def koiB (b : Int) : Int := if 224 ≤ b then koiT.getD (b - 224).toNat 0 - 32 else if 192 ≤ b then koiT.getD (b - 192).toNat 0 else if b = 163 then 1105 else if b = 179 then 1025 else -1
def winB (b : Int) : Int := if 160 ≤ b then b else winS.getD (b - 128).toNat 0
def highB (cs b : Int) : Int := if cs = 2 then nineB b else if cs = 3 then koiB b else if cs = 4 then winB b else b
def signOf (cs b : Int) : Int := if 1 ≤ cs ∧ cs ≤ 4 ∧ 0 ≤ b ∧ b ≤ 255 then (if b < 128 then b else highB cs b) else -1
/-- What both answer: the sign (0 beside a false), and whether there is one. -/
def bsN (cs b : Int) : Int := if signOf cs b < 0 then 0 else signOf cs b
def bsOk (cs b : Int) : Bool := decide (0 ≤ signOf cs b)
/-- Where there is none, 0: as the program's helpers tell it. -/
def zeroed (n : Int) : Int := if n < 0 then 0 else n

theorem nine_low {b : Int} (h : b < 160) : nineB b = b := by unfold nineB; repeat' split
                                                             all_goals omega
theorem nine_up {b : Int} (h : 192 ≤ b) : nineB b = b := by unfold nineB; repeat' split
                                                            all_goals omega
theorem nine_same : ∀ j : Nat, j < 32 → nineT.getD j 0 = 0 → nineB ((j : Int) + 160) = (j : Int) + 160 := by decide
theorem nine_else : ∀ j : Nat, j < 32 → nineT.getD j 0 ≠ 0 → nineB ((j : Int) + 160) = nineT.getD j 0 := by decide
theorem nine_same' {b : Int} (h1 : 160 ≤ b) (h2 : b < 192) (h : nineT.getD (b - 160).toNat 0 = 0) : nineB b = b := by
  have := nine_same (b - 160).toNat (by omega) h
  rwa [show (((b - 160).toNat : Nat) : Int) + 160 = b from by omega] at this
theorem nine_else' {b : Int} (h1 : 160 ≤ b) (h2 : b < 192) (h : nineT.getD (b - 160).toNat 0 ≠ 0) : nineB b = nineT.getD (b - 160).toNat 0 := by
  have := nine_else (b - 160).toNat (by omega) h
  rwa [show (((b - 160).toNat : Nat) : Int) + 160 = b from by omega] at this
theorem nine_pos {b : Int} (h : 0 ≤ b) : 0 ≤ nineB b := by unfold nineB; repeat' split
                                                           all_goals omega
theorem nine_some {b : Int} (h : 128 ≤ b) : nineB b ≠ 0 := by unfold nineB; repeat' split
                                                              all_goals omega
theorem koi_up {b : Int} (h : 224 ≤ b) : koiB b = koiT.getD (b - 224).toNat 0 - 32 := by
  unfold koiB; rw [if_pos h]
theorem koi_mid {b : Int} (h : 192 ≤ b) (h2 : b < 224) : koiB b = koiT.getD (b - 192).toNat 0 := by
  unfold koiB; rw [if_neg (by omega), if_pos h]
theorem koi_fit : ∀ j : Nat, j < 32 → 1072 ≤ koiT.getD j 0 ∧ koiT.getD j 0 ≤ 1103 := by decide
theorem win_up {b : Int} (h : 160 ≤ b) : winB b = b := by unfold winB; rw [if_pos h]
theorem win_row {b : Int} (h : b < 160) : winB b = winS.getD (b - 128).toNat 0 := by
  unfold winB; rw [if_neg (by omega)]
theorem win_zero : ∀ j : Nat, j < 32 → winT.getD j 0 = zeroed (winS.getD j 0) := by decide
theorem win_fit : ∀ j : Nat, j < 32 → -1 ≤ winS.getD j 0 ∧ winS.getD j 0 ≤ 8482 := by decide
theorem win_some : ∀ j : Nat, j < 32 → winS.getD j 0 ≠ 0 := by decide

theorem koi_none {b : Int} (h1 : b < 192) (h2 : b ≠ 163) (h3 : b ≠ 179) : koiB b = -1 := by
  unfold koiB; rw [if_neg (by omega), if_neg (by omega), if_neg h2, if_neg h3]
/-- No byte from 128 on stands for the sign 0. -/
theorem high_some {cs b : Int} (h : 128 ≤ b) (h2 : b ≤ 255) : highB cs b ≠ 0 := by
  unfold highB
  split
  · exact nine_some h
  · split
    · unfold koiB
      split
      · obtain ⟨j, hj⟩ : ∃ j : Nat, (b - 224).toNat = j := ⟨_, rfl⟩
        rw [hj]; have := koi_fit j (by omega); omega
      · split
        · obtain ⟨j, hj⟩ : ∃ j : Nat, (b - 192).toNat = j := ⟨_, rfl⟩
          rw [hj]; have := koi_fit j (by omega); omega
        · repeat' split
          all_goals omega
    · split
      · unfold winB
        split
        · omega
        · exact win_some _ (by omega)
      · omega

theorem sign_out {cs b : Int} (h : ¬(1 ≤ cs ∧ cs ≤ 4 ∧ 0 ≤ b ∧ b ≤ 255)) : signOf cs b = -1 := if_neg h
theorem sign_low {cs b : Int} (h : 1 ≤ cs ∧ cs ≤ 4) (h2 : 0 ≤ b) (h3 : b < 128) : signOf cs b = b := by
  unfold signOf; rw [if_pos ⟨h.1, h.2, h2, by omega⟩, if_pos h3]
theorem sign_high {cs b : Int} (h : 1 ≤ cs ∧ cs ≤ 4) (h2 : 128 ≤ b) (h3 : b ≤ 255) : signOf cs b = highB cs b := by
  unfold signOf; rw [if_pos ⟨h.1, h.2, by omega, h3⟩, if_neg (by omega)]
theorem bsN_zeroed (cs b : Int) : bsN cs b = zeroed (signOf cs b) := rfl
theorem bsOk_zeroed {cs b : Int} (h : 128 ≤ b) (h2 : b ≤ 255) (hc : 1 ≤ cs ∧ cs ≤ 4) : bsOk cs b = (zeroed (highB cs b) != 0) := by
  have := high_some (cs := cs) h h2
  unfold bsOk
  rw [sign_high hc h h2]
  unfold zeroed
  generalize highB cs b = n at *
  split
  · rw [decide_eq_false (by omega)]; rfl
  · rw [decide_eq_true (by omega)]
    exact (bne_iff_ne.2 this).symm

/-- The first byte from b on, of k more, that stands for n. -/
def look (cs n : Int) : Nat → Int → Int × Bool
  | 0, _ => (0, false)
  | k + 1, b => if bsOk cs b = true ∧ bsN cs b = n then (b, true) else look cs n k (b + 1)
def sbOf (cs n : Int) : Int × Bool := look cs n 256 0
theorem look_yes {cs n : Int} {k : Nat} {b : Int} (h : bsOk cs b = true ∧ bsN cs b = n) : look cs n (k + 1) b = (b, true) := if_pos h
theorem look_no {cs n : Int} {k : Nat} {b : Int} (h : ¬(bsOk cs b = true ∧ bsN cs b = n)) : look cs n (k + 1) b = look cs n k (b + 1) := if_neg h

/-- The program's three tables lie in their variables. -/
structure TabsAt (w : World) : Prop where
  nine : ∀ j, j < 32 → w.cell? ⟨1, j, none⟩ = some (.int .i64 (nineT.getD j 0))
  koi : ∀ j, j < 32 → w.cell? ⟨2, j, none⟩ = some (.int .i64 (koiT.getD j 0))
  win : ∀ j, j < 32 → w.cell? ⟨3, j, none⟩ = some (.int .i64 (winT.getD j 0))
theorem TabsAt.below {w w' : World} (h : TabsAt w) (hb : Below w.heap.size w w') : TabsAt w' :=
  ⟨fun j hj => cell_below (h.nine j hj) hb, fun j hj => cell_below (h.koi j hj) hb, fun j hj => cell_below (h.win j hj) hb⟩

set_option maxHeartbeats 400000 in
theorem nineSign_any (b : Int) (w : World) (h1 : 128 ≤ b) (h2 : b ≤ 255) (T : Hd (TabsAt w)) :
    Calls Tryz.prog 114 #[.int .i64 b] w fun e w' => e = .returned (.int .i64 (nineB b)) ∧ w' = w := by
  rcases (show b < 160 ∨ 192 ≤ b ∨ (160 ≤ b ∧ b < 192) from by omega) with h | h | ⟨ha, hb⟩
  · have e0 : Hd (b = nineB b) := ⟨(nine_low h).symm⟩
    go_enter Tryz.func114, Tryz.ntmps114
    go_wp2_with fail
    go_ret
    exact ⟨ret_int e0.out, rfl⟩
  · have e0 : Hd (b = nineB b) := ⟨(nine_up h).symm⟩
    go_enter Tryz.func114, Tryz.ntmps114
    go_wp2_with fail
    go_ret
    exact ⟨ret_int e0.out, rfl⟩
  · have hc := T.out.nine (b - 160).toNat (by omega)
    by_cases hz : nineT.getD (b - 160).toNat 0 = 0
    · have e0 : Hd (b = nineB b) := ⟨(nine_same' ha hb hz).symm⟩
      rw [hz] at hc
      clear hz
      go_enter Tryz.func114, Tryz.ntmps114
      go_wp2_with fail
      go_ret
      exact ⟨ret_int e0.out, rfl⟩
    · have e0 : Hd (nineT.getD (b - 160).toNat 0 = nineB b) := ⟨(nine_else' ha hb hz).symm⟩
      generalize nineT.getD (b - 160).toNat 0 = t at *
      go_enter Tryz.func114, Tryz.ntmps114
      go_wp2_with fail
      go_ret
      exact ⟨ret_int e0.out, rfl⟩

set_option maxHeartbeats 400000 in
theorem koiSign_any (b : Int) (w : World) (h1 : 128 ≤ b) (h2 : b ≤ 255) (T : Hd (TabsAt w)) :
    Calls Tryz.prog 115 #[.int .i64 b] w fun e w' => e = .returned (.int .i64 (zeroed (koiB b))) ∧ w' = w := by
  rcases (show 224 ≤ b ∨ (192 ≤ b ∧ b < 224) ∨ b = 163 ∨ b = 179 ∨ (b < 192 ∧ b ≠ 163 ∧ b ≠ 179) from by omega) with h | ⟨h, hb⟩ | h | h | ⟨h, ha, hb⟩
  · have hc := T.out.koi (b - 224).toNat (by omega)
    have hf := koi_fit (b - 224).toNat (by omega)
    have e0 : Hd (koiT.getD (b - 224).toNat 0 - 32 = zeroed (koiB b)) := ⟨by rw [koi_up h]; unfold zeroed; rw [if_neg (by omega)]⟩
    generalize koiT.getD (b - 224).toNat 0 = t at *
    go_enter Tryz.func115, Tryz.ntmps115
    go_wp2_with fail
    go_ret
    exact ⟨ret_int e0.out, rfl⟩
  · have hc := T.out.koi (b - 192).toNat (by omega)
    have hf := koi_fit (b - 192).toNat (by omega)
    have e0 : Hd (koiT.getD (b - 192).toNat 0 = zeroed (koiB b)) := ⟨by rw [koi_mid h hb]; unfold zeroed; rw [if_neg (by omega)]⟩
    generalize koiT.getD (b - 192).toNat 0 = t at *
    go_enter Tryz.func115, Tryz.ntmps115
    go_wp2_with fail
    go_ret
    exact ⟨ret_int e0.out, rfl⟩
  · subst h
    have e0 : Hd ((1105 : Int) = zeroed (koiB 163)) := ⟨by decide⟩
    go_enter Tryz.func115, Tryz.ntmps115
    go_wp2_with fail
    go_ret
    exact ⟨ret_int e0.out, rfl⟩
  · subst h
    have e0 : Hd ((1025 : Int) = zeroed (koiB 179)) := ⟨by decide⟩
    go_enter Tryz.func115, Tryz.ntmps115
    go_wp2_with fail
    go_ret
    exact ⟨ret_int e0.out, rfl⟩
  · have e0 : Hd ((0 : Int) = zeroed (koiB b)) := ⟨by rw [koi_none h ha hb]; rfl⟩
    go_enter Tryz.func115, Tryz.ntmps115
    go_wp2_with fail
    go_ret
    exact ⟨ret_int e0.out, rfl⟩

set_option maxHeartbeats 400000 in
theorem winSign_any (b : Int) (w : World) (h1 : 128 ≤ b) (h2 : b ≤ 255) (T : Hd (TabsAt w)) :
    Calls Tryz.prog 116 #[.int .i64 b] w fun e w' => e = .returned (.int .i64 (zeroed (winB b))) ∧ w' = w := by
  rcases (show 160 ≤ b ∨ b < 160 from by omega) with h | h
  · have e0 : Hd (b = zeroed (winB b)) := ⟨by rw [win_up h]; unfold zeroed; rw [if_neg (by omega)]⟩
    go_enter Tryz.func116, Tryz.ntmps116
    go_wp2_with fail
    go_ret
    exact ⟨ret_int e0.out, rfl⟩
  · have hc := T.out.win (b - 128).toNat (by omega)
    have e0 : Hd (winT.getD (b - 128).toNat 0 = zeroed (winB b)) := ⟨by rw [win_row h]; exact win_zero _ (by omega)⟩
    generalize winT.getD (b - 128).toNat 0 = t at *
    go_enter Tryz.func116, Tryz.ntmps116
    go_wp2_with fail
    go_ret
    exact ⟨ret_int e0.out, rfl⟩

theorem zeroed_pos {n : Int} (h : 0 ≤ n) : zeroed n = n := by unfold zeroed; rw [if_neg (by omega)]
theorem high_two (b : Int) : highB 2 b = nineB b := rfl
theorem high_three (b : Int) : highB 3 b = koiB b := rfl
theorem high_four (b : Int) : highB 4 b = winB b := rfl
theorem high_one (b : Int) : highB 1 b = b := rfl

set_option maxHeartbeats 400000 in
theorem highSign_any (cs b : Int) (w : World) (hc : 1 ≤ cs ∧ cs ≤ 4) (h1 : 128 ≤ b) (h2 : b ≤ 255) (T : Hd (TabsAt w)) :
    Calls Tryz.prog 111 #[.int .i64 cs, .int .i64 b] w fun e w' => e = .returned (.int .i64 (zeroed (highB cs b))) ∧ w' = w := by
  rcases (show cs = 1 ∨ cs = 2 ∨ cs = 3 ∨ cs = 4 from by omega) with rfl | rfl | rfl | rfl
  · have e0 : Hd (b = zeroed (highB 1 b)) := ⟨by rw [high_one, zeroed_pos (by omega)]⟩
    go_enter Tryz.func111, Tryz.ntmps111
    go_wp2_with fail
    go_ret
    exact ⟨ret_int e0.out, rfl⟩
  · have e0 : Hd (nineB b = zeroed (highB 2 b)) := ⟨by rw [high_two, zeroed_pos (nine_pos (by omega))]⟩
    go_enter Tryz.func111, Tryz.ntmps111
    go_wp2_with fail
    refine (nineSign_any b _ h1 h2 T).mono ?_
    rintro e w1 ⟨rfl, hw⟩
    replace hw := hw.symm
    subst hw
    generalize nineB b = t at *
    go_wp2_with fail
    go_ret
    exact ⟨ret_int e0.out, rfl⟩
  · have e0 : Hd (zeroed (koiB b) = zeroed (highB 3 b)) := ⟨rfl⟩
    go_enter Tryz.func111, Tryz.ntmps111
    go_wp2_with fail
    refine (koiSign_any b _ h1 h2 T).mono ?_
    rintro e w1 ⟨rfl, hw⟩
    replace hw := hw.symm
    subst hw
    generalize zeroed (koiB b) = t at *
    go_wp2_with fail
    go_ret
    exact ⟨ret_int e0.out, rfl⟩
  · have e0 : Hd (zeroed (winB b) = zeroed (highB 4 b)) := ⟨rfl⟩
    go_enter Tryz.func111, Tryz.ntmps111
    go_wp2_with fail
    refine (winSign_any b _ h1 h2 T).mono ?_
    rintro e w1 ⟨rfl, hw⟩
    replace hw := hw.symm
    subst hw
    generalize zeroed (winB b) = t at *
    go_wp2_with fail
    go_ret
    exact ⟨ret_int e0.out, rfl⟩


set_option maxHeartbeats 400000 in
theorem implByteSign_any (cs b : Int) (w : World) (T : Hd (TabsAt w)) :
    Calls Tryz.prog 104 #[.int .i64 cs, .int .i64 b] w fun e w' => e = .returned (.tuple #[.int .i64 (bsN cs b), .bool (bsOk cs b)]) ∧ w' = w := by
  by_cases hc : 1 ≤ cs ∧ cs ≤ 4
  · obtain ⟨hc1, hc2⟩ := hc
    by_cases hlo : 0 ≤ b ∧ b < 128
    · obtain ⟨hb1, hb2⟩ := hlo
      have e0 : Hd (b = bsN cs b) := ⟨by unfold bsN; rw [sign_low ⟨hc1, hc2⟩ hb1 hb2, if_neg (by omega)]⟩
      have e1 : Hd (true = bsOk cs b) := ⟨by unfold bsOk; rw [sign_low ⟨hc1, hc2⟩ hb1 hb2, decide_eq_true hb1]⟩
      go_enter Tryz.func104, Tryz.ntmps104
      go_wp2_with fail
      go_ret2
      exact ⟨ret_pair e0.out e1.out, rfl⟩
    · by_cases hhi : 128 ≤ b ∧ b ≤ 255
      · obtain ⟨hb1, hb2⟩ := hhi
        have e0 : Hd (zeroed (highB cs b) = bsN cs b) := ⟨by unfold bsN; rw [sign_high ⟨hc1, hc2⟩ hb1 hb2]; rfl⟩
        have e1 : Hd ((zeroed (highB cs b) != 0) = bsOk cs b) := ⟨(bsOk_zeroed hb1 hb2 ⟨hc1, hc2⟩).symm⟩
        go_enter Tryz.func104, Tryz.ntmps104
        go_wp2_with fail
        refine (highSign_any cs b _ ⟨hc1, hc2⟩ hb1 hb2 T).mono ?_
        rintro e w1 ⟨rfl, hw⟩
        replace hw := hw.symm
        subst hw
        generalize zeroed (highB cs b) = t at *
        go_wp2_with fail
        go_ret2
        exact ⟨ret_pair e0.out e1.out, rfl⟩
      · have e0 : Hd ((0 : Int) = bsN cs b) := ⟨by unfold bsN; rw [sign_out (by omega)]; rfl⟩
        have e1 : Hd (false = bsOk cs b) := ⟨by unfold bsOk; rw [sign_out (by omega)]; rfl⟩
        rcases (show b < 0 ∨ 255 < b from by omega) with hb | hb
        · go_enter Tryz.func104, Tryz.ntmps104
          go_wp2_with fail
          go_ret2
          exact ⟨ret_pair e0.out e1.out, rfl⟩
        · go_enter Tryz.func104, Tryz.ntmps104
          go_wp2_with fail
          go_ret2
          exact ⟨ret_pair e0.out e1.out, rfl⟩
  · have e0 : Hd ((0 : Int) = bsN cs b) := ⟨by unfold bsN; rw [sign_out (by omega)]; rfl⟩
    have e1 : Hd (false = bsOk cs b) := ⟨by unfold bsOk; rw [sign_out (by omega)]; rfl⟩
    rcases (show cs < 1 ∨ 4 < cs from by omega) with hb | hb
    · go_enter Tryz.func104, Tryz.ntmps104
      go_wp2_with fail
      go_ret2
      exact ⟨ret_pair e0.out e1.out, rfl⟩
    · go_enter Tryz.func104, Tryz.ntmps104
      go_wp2_with fail
      go_ret2
      exact ⟨ret_pair e0.out e1.out, rfl⟩

set_option maxHeartbeats 400000 in
theorem l3Nine_any (b : Int) (w : World) :
    Calls Tryz.prog 97 #[.int .i64 b] w fun e w' => e = .returned (.int .i64 (nineB b)) ∧ w' = w := by
  rcases (show b = 164 ∨ b = 166 ∨ b = 168 ∨ b = 180 ∨ b = 184 ∨ b = 188 ∨ b = 189 ∨ b = 190 ∨ (b ≠ 164 ∧ b ≠ 166 ∧ b ≠ 168 ∧ b ≠ 180 ∧ b ≠ 184 ∧ b ≠ 188 ∧ b ≠ 189 ∧ b ≠ 190) from by omega) with rfl | rfl | rfl | rfl | rfl | rfl | rfl | rfl | ⟨h1, h2, h3, h4, h5, h6, h7, h8⟩
  iterate 8
    · go_enter Tryz.func97, Tryz.ntmps97
      go_wp2_with fail
      go_ret
      exact ⟨ret_int (by decide), rfl⟩
  · have e0 : Hd (b = nineB b) := ⟨by unfold nineB; simp [h1, h2, h3, h4, h5, h6, h7, h8]⟩
    go_enter Tryz.func97, Tryz.ntmps97
    go_wp2_with fail
    go_ret
    exact ⟨ret_int e0.out, rfl⟩


set_option maxHeartbeats 1000000 in
theorem l3Koi_any (b : Int) (w : World) (h1 : 128 ≤ b) (h2 : b ≤ 255) :
    Calls Tryz.prog 98 #[.int .i64 b] w fun e w' => e = .returned (.int .i64 (koiB b)) ∧ Below w.heap.size w w' := by
  rcases (show 224 ≤ b ∨ (192 ≤ b ∧ b < 224) ∨ b = 163 ∨ b = 179 ∨ (b < 192 ∧ b ≠ 163 ∧ b ≠ 179) from by omega) with h | ⟨h, hb⟩ | h | h | ⟨h, ha, hb⟩
  · have hc : (w.alloc (.cells #[.int .i64 1102, .int .i64 1072, .int .i64 1073, .int .i64 1094, .int .i64 1076, .int .i64 1077, .int .i64 1092, .int .i64 1075, .int .i64 1093, .int .i64 1080, .int .i64 1081, .int .i64 1082, .int .i64 1083, .int .i64 1084, .int .i64 1085, .int .i64 1086, .int .i64 1087, .int .i64 1103, .int .i64 1088, .int .i64 1089, .int .i64 1090, .int .i64 1091, .int .i64 1078, .int .i64 1074, .int .i64 1100, .int .i64 1099, .int .i64 1079, .int .i64 1096, .int .i64 1101, .int .i64 1097, .int .i64 1095, .int .i64 1098] 3)).cell? ⟨w.heap.size, (b - 224).toNat, none⟩ = some (.int .i64 (koiT.getD (b - 224).toNat 0)) := lit_ints w koiT _ _ (show _ < 32 from by omega)
    have hf := koi_fit (b - 224).toNat (by omega)
    have e0 : Hd (koiT.getD (b - 224).toNat 0 - 32 = koiB b) := ⟨(koi_up h).symm⟩
    have hB := Hd.mk (below_lit w (.cells #[.int .i64 1102, .int .i64 1072, .int .i64 1073, .int .i64 1094, .int .i64 1076, .int .i64 1077, .int .i64 1092, .int .i64 1075, .int .i64 1093, .int .i64 1080, .int .i64 1081, .int .i64 1082, .int .i64 1083, .int .i64 1084, .int .i64 1085, .int .i64 1086, .int .i64 1087, .int .i64 1103, .int .i64 1088, .int .i64 1089, .int .i64 1090, .int .i64 1091, .int .i64 1078, .int .i64 1074, .int .i64 1100, .int .i64 1099, .int .i64 1079, .int .i64 1096, .int .i64 1101, .int .i64 1097, .int .i64 1095, .int .i64 1098] 3))
    generalize koiT.getD (b - 224).toNat 0 = t at *
    go_enter Tryz.func98, Tryz.ntmps98
    go_wp2_with fail
    go_ret
    exact ⟨ret_int e0.out, hB.out⟩
  · have hc : (w.alloc (.cells #[.int .i64 1102, .int .i64 1072, .int .i64 1073, .int .i64 1094, .int .i64 1076, .int .i64 1077, .int .i64 1092, .int .i64 1075, .int .i64 1093, .int .i64 1080, .int .i64 1081, .int .i64 1082, .int .i64 1083, .int .i64 1084, .int .i64 1085, .int .i64 1086, .int .i64 1087, .int .i64 1103, .int .i64 1088, .int .i64 1089, .int .i64 1090, .int .i64 1091, .int .i64 1078, .int .i64 1074, .int .i64 1100, .int .i64 1099, .int .i64 1079, .int .i64 1096, .int .i64 1101, .int .i64 1097, .int .i64 1095, .int .i64 1098] 3)).cell? ⟨w.heap.size, (b - 192).toNat, none⟩ = some (.int .i64 (koiT.getD (b - 192).toNat 0)) := lit_ints w koiT _ _ (show _ < 32 from by omega)
    have e0 : Hd (koiT.getD (b - 192).toNat 0 = koiB b) := ⟨(koi_mid h hb).symm⟩
    have hB := Hd.mk (below_lit w (.cells #[.int .i64 1102, .int .i64 1072, .int .i64 1073, .int .i64 1094, .int .i64 1076, .int .i64 1077, .int .i64 1092, .int .i64 1075, .int .i64 1093, .int .i64 1080, .int .i64 1081, .int .i64 1082, .int .i64 1083, .int .i64 1084, .int .i64 1085, .int .i64 1086, .int .i64 1087, .int .i64 1103, .int .i64 1088, .int .i64 1089, .int .i64 1090, .int .i64 1091, .int .i64 1078, .int .i64 1074, .int .i64 1100, .int .i64 1099, .int .i64 1079, .int .i64 1096, .int .i64 1101, .int .i64 1097, .int .i64 1095, .int .i64 1098] 3))
    generalize koiT.getD (b - 192).toNat 0 = t at *
    go_enter Tryz.func98, Tryz.ntmps98
    go_wp2_with fail
    go_ret
    exact ⟨ret_int e0.out, hB.out⟩
  · subst h
    go_enter Tryz.func98, Tryz.ntmps98
    go_wp2_with fail
    go_ret
    exact ⟨ret_int (by decide), below_lit _ _⟩
  · subst h
    go_enter Tryz.func98, Tryz.ntmps98
    go_wp2_with fail
    go_ret
    exact ⟨ret_int (by decide), below_lit _ _⟩
  · have e0 : Hd ((-1 : Int) = koiB b) := ⟨(koi_none h ha hb).symm⟩
    go_enter Tryz.func98, Tryz.ntmps98
    go_wp2_with fail
    go_ret
    exact ⟨ret_int e0.out, below_lit _ _⟩

set_option maxHeartbeats 1000000 in
theorem l3Win_any (b : Int) (w : World) (h1 : 128 ≤ b) (h2 : b ≤ 255) :
    Calls Tryz.prog 99 #[.int .i64 b] w fun e w' => e = .returned (.int .i64 (winB b)) ∧ Below w.heap.size w w' := by
  rcases (show 160 ≤ b ∨ b < 160 from by omega) with h | h
  · have e0 : Hd (b = winB b) := ⟨(win_up h).symm⟩
    go_enter Tryz.func99, Tryz.ntmps99
    go_wp2_with fail
    go_ret
    exact ⟨ret_int e0.out, below_lit _ _⟩
  · have hc : (w.alloc (.cells #[.int .i64 8364, .int .i64 (-1), .int .i64 8218, .int .i64 402, .int .i64 8222, .int .i64 8230, .int .i64 8224, .int .i64 8225, .int .i64 710, .int .i64 8240, .int .i64 352, .int .i64 8249, .int .i64 338, .int .i64 (-1), .int .i64 381, .int .i64 (-1), .int .i64 (-1), .int .i64 8216, .int .i64 8217, .int .i64 8220, .int .i64 8221, .int .i64 8226, .int .i64 8211, .int .i64 8212, .int .i64 732, .int .i64 8482, .int .i64 353, .int .i64 8250, .int .i64 339, .int .i64 (-1), .int .i64 382, .int .i64 376] 3)).cell? ⟨w.heap.size, (b - 128).toNat, none⟩ = some (.int .i64 (winS.getD (b - 128).toNat 0)) := lit_ints w winS _ _ (show _ < 32 from by omega)
    have e0 : Hd (winS.getD (b - 128).toNat 0 = winB b) := ⟨(win_row h).symm⟩
    generalize winS.getD (b - 128).toNat 0 = t at *
    go_enter Tryz.func99, Tryz.ntmps99
    go_wp2_with fail
    go_ret
    exact ⟨ret_int e0.out, below_lit _ _⟩

theorem bs_none {cs b : Int} (h : signOf cs b < 0) : Hd ((0 : Int) = bsN cs b) ∧ Hd (false = bsOk cs b) :=
  ⟨⟨by unfold bsN; rw [if_pos h]⟩, ⟨by unfold bsOk; rw [decide_eq_false (by omega)]⟩⟩
theorem bs_some {cs b : Int} (h : 0 ≤ signOf cs b) : Hd (signOf cs b = bsN cs b) ∧ Hd (true = bsOk cs b) :=
  ⟨⟨by unfold bsN; rw [if_neg (by omega)]⟩, ⟨by unfold bsOk; rw [decide_eq_true h]⟩⟩

set_option maxHeartbeats 1000000 in
theorem specByteSign_any (cs b : Int) (w : World) :
    Calls Tryz.prog 91 #[.int .i64 cs, .int .i64 b] w fun e w' => e = .returned (.tuple #[.int .i64 (bsN cs b), .bool (bsOk cs b)]) ∧ Below w.heap.size w w' := by
  by_cases hc : 1 ≤ cs ∧ cs ≤ 4
  · have hin := in_t (x := cs) (lo := 1) (hi := 4) hc
    by_cases hb : 0 ≤ b ∧ b ≤ 255
    · have hin2 := in_t (x := b) (lo := 0) (hi := 255) hb
      obtain ⟨hb1, hb2⟩ := hb
      by_cases hlo : b < 128
      · obtain ⟨e0, e1⟩ := bs_some (cs := cs) (b := b) (by rw [sign_low hc hb1 hlo]; exact hb1)
        rw [sign_low hc hb1 hlo] at e0
        go_enter Tryz.func91, Tryz.ntmps91
        go_wp2_with (go_at_call 13; refine (l1In_any _ _ _ _).mono ?_; rintro e w' ⟨rfl, rfl⟩)
        go_ret2
        exact ⟨ret_pair e0.out e1.out, Below.refl _ _⟩
      · have hh : Hd (signOf cs b = highB cs b) := ⟨sign_high hc (by omega) hb2⟩
        rcases (show cs = 1 ∨ cs = 2 ∨ cs = 3 ∨ cs = 4 from by omega) with rfl | rfl | rfl | rfl
        · obtain ⟨e0, e1⟩ := bs_some (cs := 1) (b := b) (by rw [hh.out, high_one]; exact hb1)
          rw [hh.out, high_one] at e0
          go_enter Tryz.func91, Tryz.ntmps91
          go_wp2_with (go_at_call 13; refine (l1In_any _ _ _ _).mono ?_; rintro e w' ⟨rfl, rfl⟩)
          go_ret2
          exact ⟨ret_pair e0.out e1.out, Below.refl _ _⟩
        · have hp : 0 ≤ nineB b := nine_pos hb1
          obtain ⟨e0, e1⟩ := bs_some (cs := 2) (b := b) (by rw [hh.out, high_two]; exact hp)
          rw [hh.out, high_two] at e0
          clear hh
          generalize hg : nineB b = t at *
          have HG : Hd (nineB b = t) := ⟨hg⟩
          clear hg
          go_enter Tryz.func91, Tryz.ntmps91
          go_wp2_with (first | (go_at_call 13; refine (l1In_any _ _ _ _).mono ?_; rintro e w' ⟨rfl, rfl⟩) | (go_at_call 97; refine (l3Nine_any _ _).mono ?_; rintro e w' ⟨rfl, rfl⟩; rw [HG.out]))
          go_ret2
          exact ⟨ret_pair e0.out e1.out, Below.refl _ _⟩
        · by_cases hp : koiB b < 0
          · obtain ⟨e0, e1⟩ := bs_none (cs := 3) (b := b) (by rw [hh.out, high_three]; exact hp)
            clear hh
            generalize hg : koiB b = t at *
            have HG : Hd (koiB b = t) := ⟨hg⟩
            clear hg
            go_enter Tryz.func91, Tryz.ntmps91
            go_wp2_with (first | (go_at_call 13; refine (l1In_any _ _ _ _).mono ?_; rintro e w' ⟨rfl, rfl⟩) | (go_at_call 98; refine (l3Koi_any _ _ (by omega) (by omega)).mono ?_; rintro e w' ⟨rfl, hB⟩; rw [HG.out]))
            go_ret2
            exact ⟨ret_pair e0.out e1.out, hB⟩
          · obtain ⟨e0, e1⟩ := bs_some (cs := 3) (b := b) (by rw [hh.out, high_three]; omega)
            rw [hh.out, high_three] at e0
            clear hh
            generalize hg : koiB b = t at *
            have HG : Hd (koiB b = t) := ⟨hg⟩
            clear hg
            go_enter Tryz.func91, Tryz.ntmps91
            go_wp2_with (first | (go_at_call 13; refine (l1In_any _ _ _ _).mono ?_; rintro e w' ⟨rfl, rfl⟩) | (go_at_call 98; refine (l3Koi_any _ _ (by omega) (by omega)).mono ?_; rintro e w' ⟨rfl, hB⟩; rw [HG.out]))
            go_ret2
            exact ⟨ret_pair e0.out e1.out, hB⟩
        · by_cases hp : winB b < 0
          · obtain ⟨e0, e1⟩ := bs_none (cs := 4) (b := b) (by rw [hh.out, high_four]; exact hp)
            clear hh
            generalize hg : winB b = t at *
            have HG : Hd (winB b = t) := ⟨hg⟩
            clear hg
            go_enter Tryz.func91, Tryz.ntmps91
            go_wp2_with (first | (go_at_call 13; refine (l1In_any _ _ _ _).mono ?_; rintro e w' ⟨rfl, rfl⟩) | (go_at_call 99; refine (l3Win_any _ _ (by omega) (by omega)).mono ?_; rintro e w' ⟨rfl, hB⟩; rw [HG.out]))
            go_ret2
            exact ⟨ret_pair e0.out e1.out, hB⟩
          · obtain ⟨e0, e1⟩ := bs_some (cs := 4) (b := b) (by rw [hh.out, high_four]; omega)
            rw [hh.out, high_four] at e0
            clear hh
            generalize hg : winB b = t at *
            have HG : Hd (winB b = t) := ⟨hg⟩
            clear hg
            go_enter Tryz.func91, Tryz.ntmps91
            go_wp2_with (first | (go_at_call 13; refine (l1In_any _ _ _ _).mono ?_; rintro e w' ⟨rfl, rfl⟩) | (go_at_call 99; refine (l3Win_any _ _ (by omega) (by omega)).mono ?_; rintro e w' ⟨rfl, hB⟩; rw [HG.out]))
            go_ret2
            exact ⟨ret_pair e0.out e1.out, hB⟩
    · have hin2 := in_f (x := b) (lo := 0) (hi := 255) hb
      obtain ⟨e0, e1⟩ := bs_none (cs := cs) (b := b) (by rw [sign_out (by omega)]; omega)
      clear hb
      go_enter Tryz.func91, Tryz.ntmps91
      go_wp2_with (go_at_call 13; refine (l1In_any _ _ _ _).mono ?_; rintro e w' ⟨rfl, rfl⟩)
      go_ret2
      exact ⟨ret_pair e0.out e1.out, Below.refl _ _⟩
  · have hin := in_f (x := cs) (lo := 1) (hi := 4) hc
    obtain ⟨e0, e1⟩ := bs_none (cs := cs) (b := b) (by rw [sign_out (by omega)]; omega)
    clear hc
    go_enter Tryz.func91, Tryz.ntmps91
    go_wp2_with (go_at_call 13; refine (l1In_any _ _ _ _).mono ?_; rintro e w' ⟨rfl, rfl⟩)
    go_ret2
    exact ⟨ret_pair e0.out e1.out, Below.refl _ _⟩

/-- The answers of SignByte. -/
def sbN (cs n : Int) : Int := (sbOf cs n).1
def sbOk (cs n : Int) : Bool := (sbOf cs n).2
/-- Byte k is next to be looked at. -/
structure LookAt (cs n : Int) (k : Nat) : Prop where
  out : look cs n (256 - k) (k : Int) = sbOf cs n
  le : k ≤ 256
theorem lookAt_zero (cs n : Int) : LookAt cs n 0 := ⟨rfl, by omega⟩
theorem sb_yes {cs n : Int} {k : Nat} (hk : (k : Int) < 256) (h0 : LookAt cs n k) (hm : bsOk cs (k : Int) = true ∧ bsN cs (k : Int) = n) : Hd ((k : Int) = sbN cs n) ∧ Hd (true = sbOk cs n) := by
  have h := h0.out
  rw [show 256 - k = (255 - k) + 1 from by omega, look_yes hm] at h
  exact ⟨⟨by unfold sbN; rw [← h]⟩, ⟨by unfold sbOk; rw [← h]⟩⟩
theorem sb_next {cs n : Int} {k : Nat} (hk : (k : Int) < 256) (h0 : LookAt cs n k) (hm : ¬(bsOk cs (k : Int) = true ∧ bsN cs (k : Int) = n)) : LookAt cs n (k + 1) := by
  have h := h0.out
  rw [show 256 - k = (256 - (k + 1)) + 1 from by omega, look_no hm] at h
  exact ⟨by rw [show ((k + 1 : Nat) : Int) = (k : Int) + 1 from by omega]; exact h, by omega⟩
theorem sb_end {cs n : Int} {k : Nat} (hk : ¬ (k : Int) < 256) (h0 : LookAt cs n k) : Hd ((0 : Int) = sbN cs n) ∧ Hd (false = sbOk cs n) := by
  have h := h0.out
  rw [show 256 - k = 0 from by omega] at h
  exact ⟨⟨by unfold sbN; rw [← h]; rfl⟩, ⟨by unfold sbOk; rw [← h]; rfl⟩⟩

/-- Which byte of the set has that sign, by the tables read back. -/
def backOf (cs n : Int) : Int :=
  if n < 128 then n
  else if cs = 2 then (if n = 8364 then 164 else if n = 352 then 166 else if n = 353 then 168 else if n = 381 then 180 else if n = 382 then 184 else if n = 338 then 188 else if n = 339 then 189 else if n = 376 then 190 else n)
  else if cs = 3 then (if n = 1105 then 163 else if n = 1025 then 179 else if n < 1072 then 224 + (koiT.idxOf (n + 32) : Int) else 192 + (koiT.idxOf n : Int))
  else if cs = 4 then (if n < 256 then (if 160 ≤ n then n else 128 + (winS.idxOf n : Int)) else 128 + (winS.idxOf n : Int))
  else n
def backAll : Bool := (List.range 4).all fun c => (List.range 256).all fun b => !bsOk ((c : Int) + 1) (b : Int) || decide (backOf ((c : Int) + 1) (bsN ((c : Int) + 1) (b : Int)) = (b : Int))
theorem backAll_is : backAll = true := by kernel_rfl
theorem ok_in {cs b : Int} (h : bsOk cs b = true) : 1 ≤ cs ∧ cs ≤ 4 ∧ 0 ≤ b ∧ b ≤ 255 := by
  have h1 := of_decide_eq_true h
  by_cases hc : 1 ≤ cs ∧ cs ≤ 4 ∧ 0 ≤ b ∧ b ≤ 255
  · exact hc
  · rw [sign_out hc] at h1; omega
theorem back_of {cs b : Int} (h : bsOk cs b = true) : backOf cs (bsN cs b) = b := by
  obtain ⟨h1, h2, h3, h4⟩ := ok_in h
  have h5 := List.all_eq_true.1 (List.all_eq_true.1 backAll_is (cs - 1).toNat (List.mem_range.2 (by omega))) b.toNat (List.mem_range.2 (by omega))
  rw [show (((cs - 1).toNat : Nat) : Int) + 1 = cs from by omega, show ((b.toNat : Nat) : Int) = b from by omega] at h5
  rw [h] at h5
  simpa using h5
theorem look_back {cs b : Int} (h : bsOk cs b = true) : ∀ (k : Nat) (i : Int), i ≤ b → b < i + k → look cs (bsN cs b) k i = (b, true)
  | 0, i, h1, h2 => by omega
  | k + 1, i, h1, h2 => by
    by_cases he : bsOk cs i = true ∧ bsN cs i = bsN cs b
    · rw [look_yes he]
      have := back_of he.1
      rw [he.2, back_of h] at this
      rw [this]
    · rw [look_no he]
      refine look_back h k (i + 1) ?_ (by omega)
      by_cases hi : i = b
      · subst hi; exact absurd ⟨h, rfl⟩ he
      · omega
/-- A byte's sign has that byte. -/
theorem sb_back {cs b : Int} (h : bsOk cs b = true) : sbN cs (bsN cs b) = b ∧ sbOk cs (bsN cs b) = true := by
  obtain ⟨_, _, h3, h4⟩ := ok_in h
  have e : sbOf cs (bsN cs b) = (b, true) := look_back h 256 0 h3 (by omega)
  unfold sbN sbOk
  rw [e]
  exact ⟨rfl, rfl⟩
theorem bs_low {cs b : Int} (hc : 1 ≤ cs ∧ cs ≤ 4) (h1 : 0 ≤ b) (h2 : b < 128) : bsN cs b = b ∧ bsOk cs b = true := by
  unfold bsN bsOk
  rw [sign_low hc h1 h2]
  exact ⟨if_neg (by omega), decide_eq_true h1⟩

end Go.Proofs.YtlididoalekeoaaGreatDoor
/- Contracts of PutEuc, in the program (over its table) and in the specification. -/
namespace Go.Proofs.YtlididoalekeoaaGreatDoor
set_option maxRecDepth 4000
open Go.RowKit

/-- What PutEuc answers: bytes in new memory, and a flag. -/
structure PutOut (w : World) (bs : List UInt8) (ok : Bool) (e : Ending) (w' : World) : Prop where
  out : ∃ g c, e = .returned (.tuple #[.slice (some ⟨g, 0, none⟩) bs.length c, .bool ok]) ∧ w.heap.size ≤ g ∧ Own w' g c bs ∧ Below w.heap.size w w'

end Go.Proofs.YtlididoalekeoaaGreatDoor
/- Small facts on named variables, and arrays of strings that read as a table. What the rows' listed variables give the walks: the program's tables of numbers lie in their variables. What the rows' listed variable gives the walks: the program's table of pairs lies in its variable; and small facts on named variables. From a row's list to the tables: the pairs and the three tables of single bytes. -/
namespace Go.Proofs.YtlididoalekeoaaGreatDoor
set_option maxRecDepth 4000
open Go.RowKit

theorem vars_length {H : Type} {enc : TypeId × Value → H} {P : Program} {w : World} {sp : Nat → Bool} : ∀ {ns : List String} {gs : List (DataW H)} {ps : List MemPlace}, DataW.TrodVars enc P w sp ns gs ps → gs.length = ns.length
  | [], [], _, _ => rfl
  | [], _ :: _, _, h => h.elim
  | _ :: _, [], _, h => h.elim
  | _ :: _, _ :: _, _, ⟨_, _, _, _, _, _, _, _, _, _, hs, _⟩ => by simp [vars_length hs]

/-- An array of strings that reads as the table holds the table's strings, cell for cell. -/
theorem cells_of_strs {H : Type} {enc : TypeId × Value → H} {P : Program} {w : World} {base : Nat} {sp : Nat → Bool} {held : Bool} {fuel : Nat} {t e : TypeId} {n : Nat} {cs : List Value} {zs : List ByteArray} {p : List MemPlace}
    (ht : P.underlying t = some (.array n e)) (he : P.underlying e = some .string) (hce : P.cellsOf e = 1) (hct : P.cellsOf t = n)
    (h : DataW.trod enc P w base sp held fuel t cs = some (.agg (zs.map fun z => .lit (.string z.data.toList)), p)) : cs = zs.map Value.string := by
  cases fuel with
  | zero => simp [DataW.trod] at h
  | succ fuel =>
    simp only [DataW.trod, ht, hce, hct, Nat.mul_one] at h
    split at h
    · rename_i hl
      obtain ⟨xs, hm, hx⟩ := Option.map_eq_some_iff.1 h
      have hxs : xs.map (·.1) = zs.map fun z => (DataW.lit (.string z.data.toList) : DataW H) := by
        have := congrArg Prod.fst hx
        simpa using this
      have hxl : xs.length = n := by simpa using Lib.mapM_length hm
      have hzl : zs.length = n := by
        have := congrArg List.length hxs
        simp at this
        omega
      apply List.ext_getElem?
      intro i
      by_cases hi : i < n
      · obtain ⟨b, hb, hf⟩ := Lib.mapM_at hm i i (by simp [hi])
        obtain ⟨z, hc, rfl, _⟩ := DataW.trod_string he hf
        have h1 : cs[i]? = some (.string z) := by
          have := congrArg (·[0]?) hc
          simpa [List.getElem?_take, List.getElem?_drop] using this
        have h2 : (xs.map (·.1))[i]? = some (DataW.lit (.string z.data.toList) : DataW H) := by simp [hb]
        rw [hxs] at h2
        simp only [List.getElem?_map, Option.map_eq_some_iff, DataW.lit.injEq, Lit.string.injEq] at h2
        obtain ⟨z', hz', e'⟩ := h2
        have e2 : z' = z := by
          obtain ⟨⟨l1⟩⟩ := z
          obtain ⟨⟨l2⟩⟩ := z'
          simp only at e'
          rw [e']
        subst e2
        simp [h1, hz']
      · rw [List.getElem?_eq_none (by omega), List.getElem?_eq_none (by simp; omega)]
    · cases h

theorem cellsInt : Tryz.prog.cellsOf 3 = 1 := by kernel_rfl

theorem tNine : (Tryz.prog.globals[1]?).map (·.type) = some 154 := by kernel_rfl
theorem tKoi : (Tryz.prog.globals[2]?).map (·.type) = some 154 := by kernel_rfl
theorem tWin : (Tryz.prog.globals[3]?).map (·.type) = some 154 := by kernel_rfl
theorem cellsTab : Tryz.prog.cellsOf 154 = 32 := by kernel_rfl

theorem tab_of {W : World} {name : String} {g : Nat} {zs : List Int} {rest : List (String × DataW Unit)} (hl : zs.length = 32) (hg : Tryz.prog.globalNamed name = some g) (hty : (Tryz.prog.globals[g]?).map (·.type) = some 154)
    (h : laidMet Tryz.prog ((name, Lib.tabData .i64 zs) :: rest) W) : ∀ j, j < 32 → W.cell? ⟨g, j, none⟩ = some (.int .i64 (zs.getD j 0)) := fun j hj =>
  (Lib.tabIs_of_head hg hty Tryz.underlying154 Tryz.underlying3 cellsInt cellsTab h).cell hg j (by omega)

theorem tPairs : (Tryz.prog.globals[0]?).map (·.type) = some 153 := by kernel_rfl
theorem cellsRec : Tryz.prog.cellsOf 152 = 3 := by kernel_rfl
theorem cellsPairs : Tryz.prog.cellsOf 153 = 6 := by kernel_rfl

theorem num_of {H : Type} {xs : List (DataW H × List MemPlace)} {l : List (DataW H)} {i : Nat} {z a : Int} (hxs : xs.map (·.1) = l) (hb : xs[i]? = some (.lit (.int .i64 z), [])) (hl : l[i]? = some (.lit (.int .i64 a))) : z = a := by
  have h2 : (xs.map (·.1))[i]? = some (DataW.lit (.int .i64 z) : DataW H) := by simp [hb]
  rw [hxs, hl] at h2
  simpa using h2.symm

/-- A record of three numbers that reads as these holds them, cell for cell. -/
theorem rec_cells {H : Type} {enc : TypeId × Value → H} {w : World} {base : Nat} {sp : Nat → Bool} {held : Bool} {fuel : Nat} {cs : List Value} {a b c : Int} {p : List MemPlace}
    (h : DataW.trod enc Tryz.prog w base sp held fuel 152 cs = some (.agg [.lit (.int .i64 a), .lit (.int .i64 b), .lit (.int .i64 c)], p)) : cs = [.int .i64 a, .int .i64 b, .int .i64 c] := by
  cases fuel with
  | zero => simp [DataW.trod] at h
  | succ fuel =>
    simp only [DataW.trod, Tryz.underlying152, cellsRec] at h
    split at h
    · rename_i hl
      obtain ⟨xs, hm, hx⟩ := Option.map_eq_some_iff.1 h
      have hxs : xs.map (·.1) = [.lit (.int .i64 a), .lit (.int .i64 b), .lit (.int .i64 c)] := by simpa using congrArg Prod.fst hx
      match cs, hl with
      | [v0, v1, v2], _ =>
        obtain ⟨b0, hb0, hf0⟩ := Lib.mapM_at hm 0 _ rfl
        obtain ⟨b1, hb1, hf1⟩ := Lib.mapM_at hm 1 _ rfl
        obtain ⟨b2, hb2, hf2⟩ := Lib.mapM_at hm 2 _ rfl
        obtain ⟨z0, hc0, rfl, _⟩ := DataW.trod_int Tryz.underlying3 hf0
        obtain ⟨z1, hc1, rfl, _⟩ := DataW.trod_int Tryz.underlying3 hf1
        obtain ⟨z2, hc2, rfl, _⟩ := DataW.trod_int Tryz.underlying3 hf2
        obtain rfl := num_of hxs hb0 rfl
        obtain rfl := num_of hxs hb1 rfl
        obtain rfl := num_of hxs hb2 rfl
        simp only [cellsInt, List.drop_zero, List.drop_succ_cons, List.take_succ_cons, List.take_zero, List.cons.injEq, and_true] at hc0 hc1 hc2
        rw [hc0, hc1, hc2]
    · cases h

/-- Two records that read as these hold them, cell for cell. -/
theorem recs_cells {H : Type} {enc : TypeId × Value → H} {w : World} {base : Nat} {sp : Nat → Bool} {held : Bool} {fuel : Nat} {cs : List Value} {a b c a' b' c' : Int} {p : List MemPlace}
    (h : DataW.trod enc Tryz.prog w base sp held fuel 153 cs = some (.agg [.agg [.lit (.int .i64 a), .lit (.int .i64 b), .lit (.int .i64 c)], .agg [.lit (.int .i64 a'), .lit (.int .i64 b'), .lit (.int .i64 c')]], p)) : cs = [.int .i64 a, .int .i64 b, .int .i64 c, .int .i64 a', .int .i64 b', .int .i64 c'] := by
  cases fuel with
  | zero => simp [DataW.trod] at h
  | succ fuel =>
    simp only [DataW.trod, Tryz.underlying153, cellsPairs, cellsRec] at h
    split at h
    · rename_i hl
      obtain ⟨xs, hm, hx⟩ := Option.map_eq_some_iff.1 h
      have hxs : xs.map (·.1) = [.agg [.lit (.int .i64 a), .lit (.int .i64 b), .lit (.int .i64 c)], .agg [.lit (.int .i64 a'), .lit (.int .i64 b'), .lit (.int .i64 c')]] := by simpa using congrArg Prod.fst hx
      match cs, hl with
      | [v0, v1, v2, v3, v4, v5], _ =>
        obtain ⟨⟨d0, p0⟩, hb0, hf0⟩ := Lib.mapM_at hm 0 0 rfl
        obtain ⟨⟨d1, p1⟩, hb1, hf1⟩ := Lib.mapM_at hm 1 1 rfl
        have e0 : (xs.map (·.1))[0]? = some d0 := by simp [hb0]
        have e1 : (xs.map (·.1))[1]? = some d1 := by simp [hb1]
        rw [hxs] at e0 e1
        obtain rfl := Option.some.inj e0
        obtain rfl := Option.some.inj e1
        have r0 := rec_cells hf0
        have r1 := rec_cells hf1
        simp only [Nat.zero_mul, Nat.one_mul, List.drop_zero, List.drop_succ_cons, List.take_succ_cons, List.take_zero, List.cons.injEq, and_true] at r0 r1
        rw [r0.1, r0.2.1, r0.2.2, r1.1, r1.2.1, r1.2.2]
    · cases h

theorem pairs_head {W : World} {name : String} {rest : List (String × DataW Unit)} (gP : Tryz.prog.globalNamed name = some 0) (h : laidMet Tryz.prog ((name, Rows.laid_loop_example_g00475_impl_pairRows) :: rest) W) : PairsAt W := by
  obtain ⟨ps, ⟨g', t', cs, fuel, p, q, hg', ht', hvar, hd, _, _⟩, _⟩ := h
  obtain rfl := Option.some.inj (gP.symm.trans hg')
  obtain rfl := Option.some.inj (tPairs.symm.trans ht')
  have e := recs_cells hd
  refine ⟨fun j hj => ?_⟩
  have h1 := World.var?_cell hg' hvar j
  rw [h1, ← Array.getElem?_toList, e]
  match j, hj with
  | 0, _ => rfl
  | 1, _ => rfl
  | 2, _ => rfl
  | 3, _ => rfl
  | 4, _ => rfl
  | 5, _ => rfl

/-- All tables of the program lie in their variables. -/
structure AllAt (w : World) : Prop where
  tabs : TabsAt w
  pairs : PairsAt w
theorem AllAt.below {w w' : World} (h : AllAt w) (hb : Below w.heap.size w w') : AllAt w' := ⟨h.tabs.below hb, h.pairs.below hb⟩

theorem all_of {W : World} (h : laidMetH Tryz.prog Rows.fnExactStoreOkRow.laid W) : AllAt W := by
  rw [MakeChecks.laidMetH_plain _ _ _ (by kernel_rfl)] at h
  exact ⟨⟨tab_of (zs := nineT) rfl (by kernel_rfl) tNine h, tab_of (zs := koiT) rfl (by kernel_rfl) tKoi h.tail, tab_of (zs := winT) rfl (by kernel_rfl) tWin h.tail.tail⟩, pairs_head (by kernel_rfl) h.tail.tail.tail⟩

end Go.Proofs.YtlididoalekeoaaGreatDoor
