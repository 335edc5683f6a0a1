/- What the laws do with a list of bytes, in the words of Deep. -/
import Derived.Test.YtlididoalekeoaaDeep
import Derived.Test.YtlididoalekeoaaCellS
namespace Go.Proofs.Ytlididoalekeoaa
set_option maxRecDepth 4000
open Go.RowKit

def wtB (bs : List UInt8) : Nat := bs.length
def ctB (bs : List UInt8) : Nat := bs.length
def mkB (m : Nat) (bs : List UInt8) : List UInt8 := marks m bs.length
theorem rdB_parts {w : World} {ao : Option Addr} {len cap : Nat} {bs : List UInt8} (h : RdB w [.slice ao len cap] bs) : len ≤ maxLen ∧ Reads w ao len bs := by
  obtain ⟨_, _, _, e, hm, hr⟩ := h
  simp only [List.cons.injEq, Value.slice.injEq, and_true] at e
  obtain ⟨rfl, rfl, rfl⟩ := e
  exact ⟨hm, hr⟩
theorem owB_parts {w : World} {ao : Option Addr} {len cap : Nat} {F : Fp} {bs : List UInt8} (h : OwB w [.slice ao len cap] F bs) : (∀ x, F x → x < w.heap.size) ∧ bs.length = len ∧ ((ao = none ∧ bs = []) ∨ ∃ g, ao = some ⟨g, 0, none⟩ ∧ F g ∧ Row w g bs) := by
  obtain ⟨hF, _, _, _, e, hn, hr⟩ := h
  simp only [List.cons.injEq, Value.slice.injEq, and_true] at e
  obtain ⟨rfl, rfl, rfl⟩ := e
  exact ⟨hF, hn, hr⟩

theorem szByteS_rd (ao : Option Addr) (len cap : Nat) (bs : List UInt8) (n : Int) (w : World) (h : RdB w [.slice ao len cap] bs) (hn : 0 ≤ n ∧ n ≤ 1048576) :
    Calls Try.prog 106 #[.slice ao len cap, .int .i64 n] w (SzOut n (wtB bs) w) := by
  obtain ⟨hm, hr⟩ := rdB_parts h
  refine (szByteS_n ao len cap n w ⟨hm⟩ ⟨hn⟩).mono ?_
  rintro e w' ⟨rfl, rfl⟩
  have := hr.1
  unfold leftOf wtB
  by_cases hc : n < (len : Int)
  · rw [if_pos hc]; exact ⟨⟨_, rfl, by omega, by omega, fun h => by omega⟩, Below.refl _ _⟩
  · rw [if_neg hc]; exact ⟨⟨_, rfl, by omega, by omega, fun h => by omega⟩, Below.refl _ _⟩

theorem eqByteS_rd (a1 : Option Addr) (n1 c1 : Nat) (a2 : Option Addr) (n2 c2 : Nat) (bs : List UInt8) (w : World) (h1 : RdB w [.slice a1 n1 c1] bs) (h2 : RdB w [.slice a2 n2 c2] bs) (hw : wtB bs ≤ 1073741824) :
    Calls Try.prog 10 #[.slice a1 n1 c1, .slice a2 n2 c2] w fun e w' => e = .returned (.bool true) ∧ Below w.heap.size w w' := by
  obtain ⟨_, h1⟩ := rdB_parts h1
  obtain ⟨_, h2⟩ := rdB_parts h2
  obtain rfl : n1 = n2 := h1.1.symm.trans h2.1
  unfold wtB at hw
  exact eqByteS_true a1 a2 c1 c2 n1 bs w (by rw [← h1.1]; exact hw) h1 h2

theorem toByteS_rd (ao : Option Addr) (len cap : Nat) (bs : List UInt8) (w : World) (h : RdB w [.slice ao len cap] bs) (hw : wtB bs ≤ 1073741824) :
    Calls Try.prog 14 #[.slice ao len cap] w (AnsSl OwB bs w) := by
  obtain ⟨_, hr⟩ := rdB_parts h
  unfold wtB at hw
  refine (toByteS_any ao len cap bs w hr (by rw [← hr.1]; exact hw)).mono ?_
  rintro e w' ⟨rfl, hR, hB⟩
  exact ⟨⟨_, _, _, rfl, fun x => x = w.heap.size, owB_row hR hr.1, fun x hx => by rw [hx]; exact Nat.le_refl _⟩, hB⟩

set_option maxHeartbeats 400000 in
theorem heldByteS_rd (ao : Option Addr) (len cap m : Nat) (bs : List UInt8) (w : World) (h : RdB w [.slice ao len cap] (mkB m bs)) (hs : m + ctB bs ≤ 1073741824) :
    Calls Try.prog 12 #[.slice ao len cap, .int .i64 (m : Int)] w fun e w' => e = .returned (.int .i64 ((m + ctB bs : Nat) : Int)) ∧ Below w.heap.size w w' := by
  obtain ⟨_, hr⟩ := rdB_parts h
  have hl : bs.length = len := by have := hr.1; rw [mkB, marks_length] at this; exact this
  unfold ctB at *
  rw [hl]
  rw [hl] at hs
  rcases hr.2 with h0 | ⟨b, off, rfl, hc⟩
  · subst h0
    clear hr h hl hs
    go_enter Try.func12, Try.ntmps12
    go_wp2_with fail
    refine wp_loop_rounds 1 ?_
    rewrite [rounds_succ]
    go_wp2_with fail
    go_ret
    exact ⟨rfl, Below.refl _ _⟩
  · have HC : Hd (∀ j, j < len → w.cell? ⟨b, off + j, none⟩ = some (.int .u8 (IntKind.u8.wrap ((m + j : Nat) : Int)))) := ⟨fun j hj => by rw [hc j hj, mkB, hl, marks_get m len j hj, ← mark_val]⟩
    clear hr h hl hc
    go_enter Try.func12, Try.ntmps12
    go_wp2_with fail
    go_loop [1, 5] (fun q i => ∃ k : Nat, k ≤ len ∧ i = .int .i64 k ∧ q = .int .i64 ((m + k : Nat) : Int)) (fun _ i => len - (intOf i).toNat)
    case atStart => exact ⟨0, Nat.zero_le _, rfl, rfl⟩
    case round =>
      obtain ⟨k, hk, rfl, rfl⟩ := hrel
      by_cases hlt : k < len
      · have hco := HC.out k hlt
        have hne : (IntKind.u8.wrap ((m + k : Nat) : Int) != IntKind.u8.wrap ((m + k : Nat) : Int)) = false := by simp
        go_wp2
        go_round
        case rel => exact ⟨k + 1, by omega, by go_num, by go_num⟩
        case measure => simp [intOf]; omega
      · have hfin : Hid (((m + k : Nat) : Int) = ((m + len : Nat) : Int)) := by show _ = _; rw [show k = len from by omega]
        go_wp2
        go_ret
        exact ⟨ret_int hfin.out, Below.refl _ _⟩

theorem markByteS_ow (ao : Option Addr) (len cap m : Nat) (bs : List UInt8) (F : Fp) (w : World) (h : OwB w [.slice ao len cap] F bs) (hs : m + ctB bs ≤ 1073741824) :
    Calls Try.prog 11 #[.slice ao len cap, .int .i64 (m : Int)] w (MkOut OwB [.slice ao len cap] F (mkB m bs) (m + ctB bs) w) := by
  unfold ctB at *
  obtain ⟨hF, hn, hr⟩ := owB_parts h
  rcases hr with ⟨rfl, rfl⟩ | ⟨g, rfl, hFg, hR0⟩
  · obtain rfl : len = 0 := hn.symm
    refine (markByteS_nil cap m w).mono ?_
    rintro e w' ⟨rfl, rfl⟩
    exact ⟨rfl, ⟨hF, _, _, _, rfl, rfl, .inl ⟨rfl, rfl⟩⟩, Chg.refl _ _⟩
  · refine (markByteS_any g len cap m bs w hn hR0 (by omega) (by omega)).mono ?_
    rintro e w' ⟨rfl, hR, hG⟩
    refine ⟨by rw [hn], ⟨fun x hx => Nat.lt_of_lt_of_le (hF x hx) hG.size, _, _, _, rfl, by rw [mkB, marks_length]; exact hn, .inr ⟨g, rfl, hFg, ?_⟩⟩, Chg.of_grown hG (fun k e => by simp at e; rw [← e]; exact hFg)⟩
    rw [mkB, hn]; exact hR

end Go.Proofs.Ytlididoalekeoaa
