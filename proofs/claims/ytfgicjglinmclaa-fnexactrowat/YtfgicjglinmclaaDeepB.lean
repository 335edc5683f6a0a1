/- What the laws do with a list of bytes, in the words of Deep. -/
import Derived.Test.YtfgicjglinmclaaDeep
import Derived.Test.YtfgicjglinmclaaCellS
namespace Go.Proofs.Ytfgicjglinmclaa
set_option maxRecDepth 4000
open Go.RowKit

def wtB (bs : List UInt8) : Nat := bs.length
def ctB (bs : List UInt8) : Nat := bs.length
def mkB (m : Nat) (bs : List UInt8) : List UInt8 := marks m bs.length
theorem rdB_parts {w : World} {ao : Option Addr} {len cap : Nat} {bs : List UInt8} (h : RdB w [.slice ao len cap] bs) : len ≤ maxLen ∧ Reads w ao len bs := by
  obtain ⟨_, _, _, e, hm, hr⟩ := h
  simp only [List.cons.injEq, Value.slice.injEq, and_true] at e
  obtain ⟨rfl, rfl, rfl⟩ := e
  exact ⟨hm, hr⟩
theorem owB_parts {w : World} {ao : Option Addr} {len cap : Nat} {F : Fp} {bs : List UInt8} (h : OwB w [.slice ao len cap] F bs) : (∀ x, F x → x < w.heap.size) ∧ bs.length = len ∧ ((ao = none ∧ bs = []) ∨ ∃ g, ao = some ⟨g, 0, none⟩ ∧ F g ∧ Row w g bs) := by
  obtain ⟨hF, _, _, _, e, hn, hr⟩ := h
  simp only [List.cons.injEq, Value.slice.injEq, and_true] at e
  obtain ⟨rfl, rfl, rfl⟩ := e
  exact ⟨hF, hn, hr⟩

theorem szByteS_rd (ao : Option Addr) (len cap : Nat) (bs : List UInt8) (n : Int) (w : World) (h : RdB w [.slice ao len cap] bs) (hn : 0 ≤ n ∧ n ≤ 1048576) :
    Calls Try.prog 28 #[.slice ao len cap, .int .i64 n] w (SzOut n (wtB bs) w) := by
  obtain ⟨hm, hr⟩ := rdB_parts h
  refine (szByteS_n ao len cap n w ⟨hm⟩ ⟨hn⟩).mono ?_
  rintro e w' ⟨rfl, rfl⟩
  have := hr.1
  unfold leftOf wtB
  by_cases hc : n < (len : Int)
  · rw [if_pos hc]; exact ⟨⟨_, rfl, by omega, by omega, fun h => by omega⟩, Below.refl _ _⟩
  · rw [if_neg hc]; exact ⟨⟨_, rfl, by omega, by omega, fun h => by omega⟩, Below.refl _ _⟩

theorem eqByteS_rd (a1 : Option Addr) (n1 c1 : Nat) (a2 : Option Addr) (n2 c2 : Nat) (bs : List UInt8) (w : World) (h1 : RdB w [.slice a1 n1 c1] bs) (h2 : RdB w [.slice a2 n2 c2] bs) (hw : wtB bs ≤ 1073741824) :
    Calls Try.prog 30 #[.slice a1 n1 c1, .slice a2 n2 c2] w fun e w' => e = .returned (.bool true) ∧ Below w.heap.size w w' := by
  obtain ⟨_, h1⟩ := rdB_parts h1
  obtain ⟨_, h2⟩ := rdB_parts h2
  obtain rfl : n1 = n2 := h1.1.symm.trans h2.1
  unfold wtB at hw
  exact eqByteS_true a1 a2 c1 c2 n1 bs w (by rw [← h1.1]; exact hw) h1 h2

theorem toByteS_rd (ao : Option Addr) (len cap : Nat) (bs : List UInt8) (w : World) (h : RdB w [.slice ao len cap] bs) (hw : wtB bs ≤ 1073741824) :
    Calls Try.prog 29 #[.slice ao len cap] w (AnsSl OwB bs w) := by
  obtain ⟨_, hr⟩ := rdB_parts h
  unfold wtB at hw
  refine (toByteS_any ao len cap bs w hr (by rw [← hr.1]; exact hw)).mono ?_
  rintro e w' ⟨rfl, hR, hB⟩
  exact ⟨⟨_, _, _, rfl, fun x => x = w.heap.size, owB_row hR hr.1, fun x hx => by rw [hx]; exact Nat.le_refl _⟩, hB⟩

end Go.Proofs.Ytfgicjglinmclaa
