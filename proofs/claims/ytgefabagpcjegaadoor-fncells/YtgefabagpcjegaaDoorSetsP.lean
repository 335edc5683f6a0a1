/- Plain facts on sets of single bytes: which sign a byte stands for, and back. -/
import Derived.Test.YtgefabagpcjegaaDoorPlain
namespace Go.Proofs.YtgefabagpcjegaaDoor
set_option maxRecDepth 4000
open Go.RowKit

def nineT : List Int := [0, 0, 0, 0, 8364, 0, 352, 0, 353, 0, 0, 0, 0, 0, 0, 0, 0, 0, 0, 0, 381, 0, 0, 0, 382, 0, 0, 0, 338, 339, 376, 0]
def koiT : List Int := [1102, 1072, 1073, 1094, 1076, 1077, 1092, 1075, 1093, 1080, 1081, 1082, 1083, 1084, 1085, 1086, 1087, 1103, 1088, 1089, 1090, 1091, 1078, 1074, 1100, 1099, 1079, 1096, 1101, 1097, 1095, 1098]
def winT : List Int := [8364, 0, 8218, 402, 8222, 8230, 8224, 8225, 710, 8240, 352, 8249, 338, 0, 381, 0, 0, 8216, 8217, 8220, 8221, 8226, 8211, 8212, 732, 8482, 353, 8250, 339, 0, 382, 376]
/-- The same row, where -1 says that there is none. -/
def winS : List Int := [8364, -1, 8218, 402, 8222, 8230, 8224, 8225, 710, 8240, 352, 8249, 338, -1, 381, -1, -1, 8216, 8217, 8220, 8221, 8226, 8211, 8212, 732, 8482, 353, 8250, 339, -1, 382, 376]

/-- The sign of a byte from 128 on; -1: none. -/
def nineB (b : Int) : Int := if b = 164 then 8364 else if b = 166 then 352 else if b = 168 then 353 else if b = 180 then 381 else if b = 184 then 382 else if b = 188 then 338 else if b = 189 then 339 else if b = 190 then 376 else b
def koiB (b : Int) : Int := if 224 ≤ b then koiT.getD (b - 224).toNat 0 - 32 else if 192 ≤ b then koiT.getD (b - 192).toNat 0 else if b = 163 then 1105 else if b = 179 then 1025 else -1
def winB (b : Int) : Int := if 160 ≤ b then b else winS.getD (b - 128).toNat 0
def highB (cs b : Int) : Int := if cs = 2 then nineB b else if cs = 3 then koiB b else if cs = 4 then winB b else b
def signOf (cs b : Int) : Int := if 1 ≤ cs ∧ cs ≤ 4 ∧ 0 ≤ b ∧ b ≤ 255 then (if b < 128 then b else highB cs b) else -1
/-- What both answer: the sign (0 beside a false), and whether there is one. -/
def bsN (cs b : Int) : Int := if signOf cs b < 0 then 0 else signOf cs b
def bsOk (cs b : Int) : Bool := decide (0 ≤ signOf cs b)
/-- Where there is none, 0: as the program's helpers tell it. -/
def zeroed (n : Int) : Int := if n < 0 then 0 else n

theorem nine_low {b : Int} (h : b < 160) : nineB b = b := by unfold nineB; repeat' split
                                                             all_goals omega
theorem nine_up {b : Int} (h : 192 ≤ b) : nineB b = b := by unfold nineB; repeat' split
                                                            all_goals omega
theorem nine_same : ∀ j : Nat, j < 32 → nineT.getD j 0 = 0 → nineB ((j : Int) + 160) = (j : Int) + 160 := by decide
theorem nine_else : ∀ j : Nat, j < 32 → nineT.getD j 0 ≠ 0 → nineB ((j : Int) + 160) = nineT.getD j 0 := by decide
theorem nine_same' {b : Int} (h1 : 160 ≤ b) (h2 : b < 192) (h : nineT.getD (b - 160).toNat 0 = 0) : nineB b = b := by
  have := nine_same (b - 160).toNat (by omega) h
  rwa [show (((b - 160).toNat : Nat) : Int) + 160 = b from by omega] at this
theorem nine_else' {b : Int} (h1 : 160 ≤ b) (h2 : b < 192) (h : nineT.getD (b - 160).toNat 0 ≠ 0) : nineB b = nineT.getD (b - 160).toNat 0 := by
  have := nine_else (b - 160).toNat (by omega) h
  rwa [show (((b - 160).toNat : Nat) : Int) + 160 = b from by omega] at this
theorem nine_pos {b : Int} (h : 0 ≤ b) : 0 ≤ nineB b := by unfold nineB; repeat' split
                                                           all_goals omega
theorem nine_some {b : Int} (h : 128 ≤ b) : nineB b ≠ 0 := by unfold nineB; repeat' split
                                                              all_goals omega
theorem koi_up {b : Int} (h : 224 ≤ b) : koiB b = koiT.getD (b - 224).toNat 0 - 32 := by
  unfold koiB; rw [if_pos h]
theorem koi_mid {b : Int} (h : 192 ≤ b) (h2 : b < 224) : koiB b = koiT.getD (b - 192).toNat 0 := by
  unfold koiB; rw [if_neg (by omega), if_pos h]
theorem koi_fit : ∀ j : Nat, j < 32 → 1072 ≤ koiT.getD j 0 ∧ koiT.getD j 0 ≤ 1103 := by decide
theorem win_up {b : Int} (h : 160 ≤ b) : winB b = b := by unfold winB; rw [if_pos h]
theorem win_row {b : Int} (h : b < 160) : winB b = winS.getD (b - 128).toNat 0 := by
  unfold winB; rw [if_neg (by omega)]
theorem win_zero : ∀ j : Nat, j < 32 → winT.getD j 0 = zeroed (winS.getD j 0) := by decide
theorem win_fit : ∀ j : Nat, j < 32 → -1 ≤ winS.getD j 0 ∧ winS.getD j 0 ≤ 8482 := by decide
theorem win_some : ∀ j : Nat, j < 32 → winS.getD j 0 ≠ 0 := by decide

theorem koi_none {b : Int} (h1 : b < 192) (h2 : b ≠ 163) (h3 : b ≠ 179) : koiB b = -1 := by
  unfold koiB; rw [if_neg (by omega), if_neg (by omega), if_neg h2, if_neg h3]
/-- No byte from 128 on stands for the sign 0. -/
theorem high_some {cs b : Int} (h : 128 ≤ b) (h2 : b ≤ 255) : highB cs b ≠ 0 := by
  unfold highB
  split
  · exact nine_some h
  · split
    · unfold koiB
      split
      · obtain ⟨j, hj⟩ : ∃ j : Nat, (b - 224).toNat = j := ⟨_, rfl⟩
        rw [hj]; have := koi_fit j (by omega); omega
      · split
        · obtain ⟨j, hj⟩ : ∃ j : Nat, (b - 192).toNat = j := ⟨_, rfl⟩
          rw [hj]; have := koi_fit j (by omega); omega
        · repeat' split
          all_goals omega
    · split
      · unfold winB
        split
        · omega
        · exact win_some _ (by omega)
      · omega

theorem sign_out {cs b : Int} (h : ¬(1 ≤ cs ∧ cs ≤ 4 ∧ 0 ≤ b ∧ b ≤ 255)) : signOf cs b = -1 := if_neg h
theorem sign_low {cs b : Int} (h : 1 ≤ cs ∧ cs ≤ 4) (h2 : 0 ≤ b) (h3 : b < 128) : signOf cs b = b := by
  unfold signOf; rw [if_pos ⟨h.1, h.2, h2, by omega⟩, if_pos h3]
theorem sign_high {cs b : Int} (h : 1 ≤ cs ∧ cs ≤ 4) (h2 : 128 ≤ b) (h3 : b ≤ 255) : signOf cs b = highB cs b := by
  unfold signOf; rw [if_pos ⟨h.1, h.2, by omega, h3⟩, if_neg (by omega)]
theorem bsN_zeroed (cs b : Int) : bsN cs b = zeroed (signOf cs b) := rfl
theorem bsOk_zeroed {cs b : Int} (h : 128 ≤ b) (h2 : b ≤ 255) (hc : 1 ≤ cs ∧ cs ≤ 4) : bsOk cs b = (zeroed (highB cs b) != 0) := by
  have := high_some (cs := cs) h h2
  unfold bsOk
  rw [sign_high hc h h2]
  unfold zeroed
  generalize highB cs b = n at *
  split
  · rw [decide_eq_false (by omega)]; rfl
  · rw [decide_eq_true (by omega)]
    exact (bne_iff_ne.2 this).symm

/-- The first byte from b on, of k more, that stands for n. -/
def look (cs n : Int) : Nat → Int → Int × Bool
  | 0, _ => (0, false)
  | k + 1, b => if bsOk cs b = true ∧ bsN cs b = n then (b, true) else look cs n k (b + 1)
def sbOf (cs n : Int) : Int × Bool := look cs n 256 0
theorem look_yes {cs n : Int} {k : Nat} {b : Int} (h : bsOk cs b = true ∧ bsN cs b = n) : look cs n (k + 1) b = (b, true) := if_pos h
theorem look_no {cs n : Int} {k : Nat} {b : Int} (h : ¬(bsOk cs b = true ∧ bsN cs b = n)) : look cs n (k + 1) b = look cs n k (b + 1) := if_neg h

end Go.Proofs.YtgefabagpcjegaaDoor
