/- Plain facts: a byte's sign has that byte; below 128 a byte is itself. -/
import Derived.Test.YtgefabagpcjegaaDoorSetsU
import Derived.KernelRfl
namespace Go.Proofs.YtgefabagpcjegaaDoor
set_option maxRecDepth 4000
open Go.RowKit

/-- Which byte of the set has that sign, by the tables read back. -/
def backOf (cs n : Int) : Int :=
  if n < 128 then n
  else if cs = 2 then (if n = 8364 then 164 else if n = 352 then 166 else if n = 353 then 168 else if n = 381 then 180 else if n = 382 then 184 else if n = 338 then 188 else if n = 339 then 189 else if n = 376 then 190 else n)
  else if cs = 3 then (if n = 1105 then 163 else if n = 1025 then 179 else if n < 1072 then 224 + (koiT.idxOf (n + 32) : Int) else 192 + (koiT.idxOf n : Int))
  else if cs = 4 then (if n < 256 then (if 160 ≤ n then n else 128 + (winS.idxOf n : Int)) else 128 + (winS.idxOf n : Int))
  else n
def backAll : Bool := (List.range 4).all fun c => (List.range 256).all fun b => !bsOk ((c : Int) + 1) (b : Int) || decide (backOf ((c : Int) + 1) (bsN ((c : Int) + 1) (b : Int)) = (b : Int))
theorem backAll_is : backAll = true := by kernel_rfl
theorem ok_in {cs b : Int} (h : bsOk cs b = true) : 1 ≤ cs ∧ cs ≤ 4 ∧ 0 ≤ b ∧ b ≤ 255 := by
  have h1 := of_decide_eq_true h
  by_cases hc : 1 ≤ cs ∧ cs ≤ 4 ∧ 0 ≤ b ∧ b ≤ 255
  · exact hc
  · rw [sign_out hc] at h1; omega
theorem back_of {cs b : Int} (h : bsOk cs b = true) : backOf cs (bsN cs b) = b := by
  obtain ⟨h1, h2, h3, h4⟩ := ok_in h
  have h5 := List.all_eq_true.1 (List.all_eq_true.1 backAll_is (cs - 1).toNat (List.mem_range.2 (by omega))) b.toNat (List.mem_range.2 (by omega))
  rw [show (((cs - 1).toNat : Nat) : Int) + 1 = cs from by omega, show ((b.toNat : Nat) : Int) = b from by omega] at h5
  rw [h] at h5
  simpa using h5
theorem look_back {cs b : Int} (h : bsOk cs b = true) : ∀ (k : Nat) (i : Int), i ≤ b → b < i + k → look cs (bsN cs b) k i = (b, true)
  | 0, i, h1, h2 => by omega
  | k + 1, i, h1, h2 => by
    by_cases he : bsOk cs i = true ∧ bsN cs i = bsN cs b
    · rw [look_yes he]
      have := back_of he.1
      rw [he.2, back_of h] at this
      rw [this]
    · rw [look_no he]
      refine look_back h k (i + 1) ?_ (by omega)
      by_cases hi : i = b
      · subst hi; exact absurd ⟨h, rfl⟩ he
      · omega
/-- A byte's sign has that byte. -/
theorem sb_back {cs b : Int} (h : bsOk cs b = true) : sbN cs (bsN cs b) = b ∧ sbOk cs (bsN cs b) = true := by
  obtain ⟨_, _, h3, h4⟩ := ok_in h
  have e : sbOf cs (bsN cs b) = (b, true) := look_back h 256 0 h3 (by omega)
  unfold sbN sbOk
  rw [e]
  exact ⟨rfl, rfl⟩
theorem bs_low {cs b : Int} (hc : 1 ≤ cs ∧ cs ≤ 4) (h1 : 0 ≤ b) (h2 : b < 128) : bsN cs b = b ∧ bsOk cs b = true := by
  unfold bsN bsOk
  rw [sign_low hc h1 h2]
  exact ⟨if_neg (by omega), decide_eq_true h1⟩

end Go.Proofs.YtgefabagpcjegaaDoor
