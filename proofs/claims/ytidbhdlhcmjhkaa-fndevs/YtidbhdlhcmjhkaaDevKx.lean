/- The program: keptWrs, whatever keep is. -/
import Derived.Test.YtidbhdlhcmjhkaaDevKw
namespace Go.Proofs.Ytidbhdlhcmjhkaa
set_option maxRecDepth 4000
open Go.RowKit

set_option maxHeartbeats 4000000 in
theorem implKeptWrs_out (wB : World) (x1 : Option Addr) (m1 d1 : Nat) (c : List WrD) (keep : Int) (w : World) (h : RdWrOn wB w [.slice x1 m1 d1] c) (hc : m1 ≤ 40) (hk : keep < 0 ∨ (¬ keep < 0 ∧ 1073741823 < keep)) :
    Calls Try.prog 34 #[.slice x1 m1 d1, .int .i64 keep] w fun e w' => ∃ y n cc, e = .returned (.slice y n cc) ∧ n ≤ 40 ∧ RdWrOn wB w' [.slice y n cc] [] ∧ Below w.heap.size w w' := by
  have r1 := rdWrOn_parts h
  have HL : Hd (c.length = m1) := ⟨r1.2.1⟩
  have HR1 : Hd (c = [] ∨ ∃ b off, x1 = some ⟨b, off, none⟩ ∧ ∀ j a, c[j]? = some a → ∃ e, e.length = 2 ∧ RdWr wB e a ∧ ∀ i v, e[i]? = some v → w.cell? ⟨b, off + j * 2 + i, none⟩ = some v) := ⟨r1.2.2⟩
  clear r1 h
  have a1 : bits .and .i64 0 1 = 0 := and_bit 0
  have H0 : Hd (Below w.heap.size w (w.alloc (.cells #[] 35))) := ⟨below_lit w _⟩
  rcases hk with hk | ⟨hk0, hk⟩
  all_goals
    go_enter Try.func34, Try.ntmps34
    go_wp2_with fail
    generalize w.alloc (.cells #[] 35) = W0 at *
    go_loopw [17, 5] (fun i v wr => ∃ k : Nat, k ≤ m1 ∧ i = .int .i64 k ∧ v = .slice (some ⟨w.heap.size, 0, none⟩) 0 0 ∧ Hd (Below w.heap.size w wr)) (fun i _ _ => m1 - (intOf i).toNat)
    case atStart => exact ⟨0, Nat.zero_le _, rfl, rfl, H0⟩
    case round =>
      obtain ⟨k, hk, rfl, rfl, HK⟩ := hrel
      clear H0
      by_cases hlt : k < m1
      · have hlt' : (k : Int) < (m1 : Int) := by omega
        have h0 : (0 : Int) ≤ (k : Int) := by omega
        obtain ⟨b1, o1, hx1, G⟩ : ∃ b1 o1, x1 = some ⟨b1, o1, none⟩ ∧ ∀ j a, c[j]? = some a → ∃ e, e.length = 2 ∧ RdWr wB e a ∧ ∀ i v, e[i]? = some v → w.cell? ⟨b1, o1 + j * 2 + i, none⟩ = some v := by
          rcases HR1.out with h | h
          · have := HL.out; rw [h] at this; simp at this; omega
          · exact h
        subst hx1
        obtain ⟨a, ha⟩ := get_some (l := c) (j := k) (by rw [HL.out]; exact hlt)
        obtain ⟨e2, hcn, ⟨y1, n1, e1, rfl, hr⟩, hcell⟩ := G k a ha
        have t0 := cell_below (hcell 0 _ rfl) HK.out
        have t1 := cell_below (hcell 1 _ rfl) HK.out
        simp only [Nat.add_zero] at t0
        obtain ⟨nn, hnn⟩ : ∃ nn, a.n = nn := ⟨_, rfl⟩
        rw [hnn] at t0
        have a2 : bits .and .i64 (0 / 2 ^ k) 1 = 0 := by rw [Int.zero_ediv]; exact and_bit 0
        have HN : Hd (Below w.heap.size w (wr.alloc (.cells #[.int .i64 nn, .slice y1 n1 e1] 35))) := ⟨Below.next HK.out (below_lit wr _)⟩
        clear hr hcell hcn G ha HK
        go_wp2_with fail
        go_roundw
        case rel => exact ⟨k + 1, by omega, by go_num, rfl, HN⟩
        case measure => simp [intOf]; omega
      · go_wp2_with fail
        go_ret
        exact ⟨_, _, _, rfl, Nat.zero_le _, ⟨_, _, _, rfl, Nat.zero_le _, rfl, .inl rfl⟩, HK.out⟩

theorem implKeptWrs_any (wB : World) (x1 : Option Addr) (m1 d1 : Nat) (c : List WrD) (keep : Int) (w : World) (h : RdWrOn wB w [.slice x1 m1 d1] c) (hc : m1 ≤ 40) :
    Calls Try.prog 34 #[.slice x1 m1 d1, .int .i64 keep] w fun e w' => ∃ y n cc, e = .returned (.slice y n cc) ∧ n ≤ 40 ∧ RdWrOn wB w' [.slice y n cc] (keptL (keepOf keep) 0 c) ∧ Below w.heap.size w w' := by
  by_cases hk : 0 ≤ keep ∧ keep ≤ 1073741823
  · have e : keepOf keep = keep := if_pos hk
    rw [e]
    exact implKeptWrs_in wB x1 m1 d1 c keep w h hc (by omega) (by omega)
  · have e : keepOf keep = 0 := if_neg hk
    rw [e, keptL_zero]
    exact implKeptWrs_out wB x1 m1 d1 c keep w h hc (by omega)

end Go.Proofs.Ytidbhdlhcmjhkaa
