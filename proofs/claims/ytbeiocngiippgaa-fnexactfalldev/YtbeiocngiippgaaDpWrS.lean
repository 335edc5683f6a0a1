/- What the laws do with a list of Wr. -/
import Derived.Test.YtbeiocngiippgaaDeepB
import Derived.Test.YtbeiocngiippgaaDpWr
import Derived.Deep.RegionHeld3
namespace Go.Proofs.Ytbeiocngiippgaa
set_option maxRecDepth 4000
open Go.RowKit

abbrev RdWrS : Rd (List WrD) := RdS 2 RdWr
abbrev OwWrS : Ow (List WrD) := OwS 2 35 OwWr
theorem rdWrS_ok : RdOk 1 RdWrS := rdS_ok rdWr_ok
theorem owWrS_ok : OwOk 1 OwWrS RdWrS := owS_ok owWr_ok
abbrev wtWrS : List WrD → Nat := wtS wtWr
abbrev ctWrS : List WrD → Nat := ctS ctWr
abbrev mkWrS (m : Nat) : List WrD → List WrD := mkS mkWr ctWr m

theorem rdWrS_parts {w : World} {ao : Option Addr} {len cap : Nat} {ls : List WrD} (h : RdWrS w [.slice ao len cap] ls) : len ≤ maxLen ∧ ls.length = len ∧ (ls = [] ∨ ∃ b off, ao = some ⟨b, off, none⟩ ∧ ∀ j a, ls[j]? = some a → ∃ c, c.length = 2 ∧ RdWr w c a ∧ ∀ i v, c[i]? = some v → w.cell? ⟨b, off + j * 2 + i, none⟩ = some v) := by
  obtain ⟨_, _, _, e, hm, hl, h⟩ := h
  simp only [List.cons.injEq, Value.slice.injEq, and_true] at e
  obtain ⟨rfl, rfl, rfl⟩ := e
  exact ⟨hm, hl, h⟩

set_option maxHeartbeats 4000000 in
theorem szWrS_rd (ao : Option Addr) (len cap : Nat) (ls : List WrD) (n : Int) (w : World) (h : RdWrS w [.slice ao len cap] ls) (hn : 0 ≤ n ∧ n ≤ 1048576) :
    Calls Try.prog 53 #[.slice ao len cap, .int .i64 n] w (SzOut n (wtWrS ls) w) := by
  replace h := rdWrS_parts h
  obtain ⟨hm, hl, h⟩ := h
  have hw : wrap64 (n - (len : Int)) = n - (len : Int) := by unfold maxLen at *; exact wrap64_in (by omega) (by omega)
  have hw0 := wtS_len wtWr ls
  by_cases hc : n < (len : Int)
  · have h2 : n - (len : Int) < 0 := by omega
    have HE : Hd (n < ((wtWrS ls : Nat) : Int) ∧ 0 ≤ n) := ⟨by show n < ((wtS wtWr ls : Nat) : Int); omega, by omega⟩
    clear hm hl h hn hw0
    go_enter Try.func53, Try.ntmps53
    go_wp2
    go_ret
    exact ⟨⟨-1, rfl, by omega, by have := HE.out; omega, fun h => by omega⟩, Below.refl _ w⟩
  have h2 : ¬ n - (len : Int) < 0 := by omega
  have HN : Hd (ls.length = len ∧ 0 ≤ n ∧ n ≤ 1048576 ∧ (len : Int) ≤ n) := ⟨hl, hn.1, hn.2, by omega⟩
  have hlen : len ≤ 1048576 := by omega
  by_cases hz : len = 0
  · subst hz
    obtain rfl : ls = [] := List.eq_nil_of_length_eq_zero hl
    have hw1 : wrap64 n = n := by simpa using hw
    have h3 : ¬ n < 0 := by omega
    have hc1 : ((0 : Nat) : Int) = 0 := rfl
    clear hm hl h hn hw0 hc hlen hw h2
    go_enter Try.func53, Try.ntmps53
    go_wp2_with fail
    refine wp_loop_rounds 1 ?_
    rewrite [rounds_succ]
    go_wp2_with fail
    go_ret
    exact ⟨⟨_, rfl, by have := HN.out; omega, by omega, fun h => by show ((0 : Nat) : Int) + _ ≤ _; omega⟩, Below.refl _ w⟩
  rcases h with h | ⟨b, o, rfl, g⟩
  · exact absurd (by rw [← hl, h, List.length_nil]) hz
  have G : Hd (∀ j a, ls[j]? = some a → ∃ c, c.length = 2 ∧ RdWr w c a ∧ ∀ i v, c[i]? = some v → w.cell? ⟨b, o + j * 2 + i, none⟩ = some v) := ⟨g⟩
  have HR : Hd (0 ≤ n - (len : Int) ∧ n - (len : Int) ≤ n ∧ ((len + ((ls.take 0).map wtWr).sum : Nat) : Int) + (n - (len : Int)) ≤ n) := ⟨by omega, by omega, by have h7 : ((ls.take 0).map wtWr).sum = 0 := rfl; omega⟩
  clear hm hl h2 hn hw0 g hz hc
  have h2 : ¬ n - (len : Int) < 0 := by have := HN.out; omega
  go_enter Try.func53, Try.ntmps53
  go_wp2
  go_loopw [1, 5] (fun q i wr => ∃ k : Nat, k ≤ len ∧ i = .int .i64 k ∧ ∃ l : Int, q = .int .i64 l ∧ Hd (Below w.heap.size w wr) ∧ Hd (0 ≤ l ∧ l ≤ n ∧ ((len + ((ls.take k).map wtWr).sum : Nat) : Int) + l ≤ n)) (fun _ i _ => len - (intOf i).toNat)
  case atStart => exact ⟨0, Nat.zero_le _, rfl, _, rfl, ⟨Below.refl _ w⟩, HR⟩
  case round =>
    obtain ⟨k, hk, rfl, l, rfl, HB, HL⟩ := hrel
    clear HR h2
    by_cases hlt : k < len
    · have hlt' : (k : Int) < (len : Int) := by omega
      have h0 : (0 : Int) ≤ (k : Int) := by omega
      obtain ⟨a, ha⟩ := get_some (l := ls) (j := k) (by rw [HN.out.1]; exact hlt)
      obtain ⟨c, hcn, hR, hcell⟩ := G.out k a ha
      have HS : Hd (((ls.take (k + 1)).map wtWr).sum = ((ls.take k).map wtWr).sum + wtWr a) := ⟨wt_take_succ wtWr ha⟩
      replace hR := rdWr_ok.below hR HB.out
      obtain ⟨l0, l1⟩ := a
      have hR0 := hR
      simp only [RdWr] at hR0
      obtain ⟨x1, m1, d1, rfl, _⟩ := hR0
      have t0 := cell_below (hcell 0 _ rfl) HB.out
      have t1 := cell_below (hcell 1 _ rfl) HB.out
      simp only [Nat.add_zero] at t0
      have HRd : Hd (RdWr wr [.int .i64 l0, .slice x1 m1 d1] (⟨l0, l1⟩ : WrD)) := ⟨hR⟩
      clear hR hcell hcn ha
      go_wp2_with fail
      refine (szWr_rd [.int .i64 l0, .slice x1 m1 d1] (⟨l0, l1⟩ : WrD) l _ HRd.out ⟨HL.out.1, by have := HL.out.2.1; have := HN.out; omega⟩).mono ?_
      rintro e w1 ⟨⟨s, rfl, hs1, hs2, hs3⟩, hb⟩
      have HB1 : Hd (Below w.heap.size w w1) := ⟨Below.next HB.out hb⟩
      have HS1 : Hd (-1 ≤ s ∧ s ≤ n ∧ (0 ≤ s → ((len + ((ls.take (k + 1)).map wtWr).sum : Nat) : Int) + s ≤ n)) := ⟨hs1, by have := HL.out; omega, fun hh => by have := hs3 hh; have := HL.out; rw [HS.out]; omega⟩
      clear hb HB HRd HL HS hs1 hs2 hs3 t0 t1
      by_cases hz : s < 0
      · go_wp2_with fail
        go_ret
        exact ⟨⟨-1, rfl, by omega, by have := HN.out; omega, fun h => by omega⟩, HB1.out⟩
      · have HL1 : Hd (0 ≤ s ∧ s ≤ n ∧ ((len + ((ls.take (k + 1)).map wtWr).sum : Nat) : Int) + s ≤ n) := ⟨by omega, HS1.out.2.1, HS1.out.2.2 (by omega)⟩
        clear HS1
        go_wp2_with fail
        go_roundw
        case rel => exact ⟨k + 1, by omega, by go_num, s, rfl, HB1, HL1⟩
        case measure => simp [intOf]; omega
    · have HF : Hd (0 ≤ l ∧ l ≤ n ∧ ((wtWrS ls : Nat) : Int) + l ≤ n) := ⟨HL.out.1, HL.out.2.1, by
        have h1 := HL.out.2.2
        have h2 := HN.out.1
        rw [List.take_of_length_le (by omega)] at h1
        show ((ls.length + (ls.map wtWr).sum : Nat) : Int) + l ≤ n
        omega⟩
      clear HL
      go_wp2
      go_ret
      exact ⟨⟨l, rfl, by have := HF.out; omega, HF.out.2.1, fun _ => HF.out.2.2⟩, HB.out⟩

set_option maxHeartbeats 4000000 in
theorem eqWrS_rd (a1 : Option Addr) (n1 c1 : Nat) (a2 : Option Addr) (n2 c2 : Nat) (ls : List WrD) (w : World) (h1 : RdWrS w [.slice a1 n1 c1] ls) (h2 : RdWrS w [.slice a2 n2 c2] ls) (hw : wtWrS ls ≤ 1073741824) :
    Calls Try.prog 57 #[.slice a1 n1 c1, .slice a2 n2 c2] w fun e w' => e = .returned (.bool true) ∧ Below w.heap.size w w' := by
  replace h1 := rdWrS_parts h1
  replace h2 := rdWrS_parts h2
  obtain ⟨_, hl1, h1⟩ := h1
  obtain ⟨_, hl2, h2⟩ := h2
  obtain rfl : n1 = n2 := hl1.symm.trans hl2
  have hw7 : wtS wtWr ls ≤ 1073741824 := hw
  have hlen : n1 ≤ 1073741824 := by have := wtS_len wtWr ls; omega
  have heq : ((n1 : Int) != (n1 : Int)) = false := by simp
  by_cases hz : n1 = 0
  · subst hz
    clear h1 h2 hl1 hl2 hw hw7
    go_enter Try.func57, Try.ntmps57
    go_wp2_with fail
    refine wp_loop_rounds 1 ?_
    rewrite [rounds_succ]
    go_wp2_with fail
    go_ret
    exact ⟨rfl, Below.refl _ w⟩
  rcases h1 with h | ⟨b1, o1, rfl, g1⟩
  · exact absurd (by rw [← hl1, h, List.length_nil]) hz
  rcases h2 with h | ⟨b2, o2, rfl, g2⟩
  · exact absurd (by rw [← hl1, h, List.length_nil]) hz
  have G1 : Hd (∀ j a, ls[j]? = some a → ∃ c, c.length = 2 ∧ RdWr w c a ∧ ∀ i v, c[i]? = some v → w.cell? ⟨b1, o1 + j * 2 + i, none⟩ = some v) := ⟨g1⟩
  have G2 : Hd (∀ j a, ls[j]? = some a → ∃ c, c.length = 2 ∧ RdWr w c a ∧ ∀ i v, c[i]? = some v → w.cell? ⟨b2, o2 + j * 2 + i, none⟩ = some v) := ⟨g2⟩
  have HN : Hd (ls.length = n1 ∧ wtWrS ls ≤ 1073741824) := ⟨hl1, hw⟩
  clear g1 g2 hl1 hl2 hw hw7 hz
  go_enter Try.func57, Try.ntmps57
  go_wp2_with fail
  go_loopw [5] (fun i wr => ∃ k : Nat, k ≤ n1 ∧ i = .int .i64 k ∧ Hd (Below w.heap.size w wr)) (fun i _ => n1 - (intOf i).toNat)
  case atStart => exact ⟨0, Nat.zero_le _, rfl, ⟨Below.refl _ _⟩⟩
  case round =>
    obtain ⟨k, hk, rfl, HB⟩ := hrel
    by_cases hlt : k < n1
    · have hlt' : (k : Int) < (n1 : Int) := by omega
      have h0 : (0 : Int) ≤ (k : Int) := by omega
      obtain ⟨a, ha⟩ := get_some (l := ls) (j := k) (by rw [HN.out.1]; exact hlt)
      obtain ⟨c, hcn, hR, hcell⟩ := G1.out k a ha
      obtain ⟨c', hcn', hR', hcell'⟩ := G2.out k a ha
      have HW : Hd (wtWr a ≤ 1073741824) := ⟨by have h7 := wtS_le wtWr ha; have h8 : wtS wtWr ls ≤ 1073741824 := HN.out.2; omega⟩
      replace hR := rdWr_ok.below hR HB.out
      replace hR' := rdWr_ok.below hR' HB.out
      obtain ⟨l0, l1⟩ := a
      have hR0 := hR
      simp only [RdWr] at hR0
      obtain ⟨x1, m1, d1, rfl, _⟩ := hR0
      have t0 := cell_below (hcell 0 _ rfl) HB.out
      have t1 := cell_below (hcell 1 _ rfl) HB.out
      simp only [Nat.add_zero] at t0
      have hR0 := hR'
      simp only [RdWr] at hR0
      obtain ⟨y1, n1, e1, rfl, _⟩ := hR0
      have u0 := cell_below (hcell' 0 _ rfl) HB.out
      have u1 := cell_below (hcell' 1 _ rfl) HB.out
      simp only [Nat.add_zero] at u0
      have Q : Hd (RdWr wr [.int .i64 l0, .slice x1 m1 d1] (⟨l0, l1⟩ : WrD) ∧ RdWr wr [.int .i64 l0, .slice y1 n1 e1] (⟨l0, l1⟩ : WrD) ∧ wtWr (⟨l0, l1⟩ : WrD) ≤ 1073741824) := ⟨hR, hR', HW.out⟩
      clear hR hR' hcell hcell' hcn hcn' ha HW
      go_wp2_with fail
      have KK : Hd (∀ w', Below wr.heap.size wr w' → (w'.cell? ⟨b1, o1 + k * 2, none⟩ = some (.int .i64 l0) ∧ w'.cell? ⟨b1, o1 + k * 2 + 1, none⟩ = some (.slice x1 m1 d1) ∧ w'.cell? ⟨b2, o2 + k * 2, none⟩ = some (.int .i64 l0) ∧ w'.cell? ⟨b2, o2 + k * 2 + 1, none⟩ = some (.slice y1 n1 e1))) := ⟨fun w' hb => ⟨cell_below t0 hb, cell_below t1 hb, cell_below u0 hb, cell_below u1 hb⟩⟩
      have D0 : Hd (Below wr.heap.size wr wr.drew) := ⟨(Below.refl _ wr).drew⟩
      go_region_held (fun w' => w'.cell? ⟨b1, o1 + k * 2, none⟩ = some (.int .i64 l0) ∧ w'.cell? ⟨b1, o1 + k * 2 + 1, none⟩ = some (.slice x1 m1 d1) ∧ w'.cell? ⟨b2, o2 + k * 2, none⟩ = some (.int .i64 l0) ∧ w'.cell? ⟨b2, o2 + k * 2 + 1, none⟩ = some (.slice y1 n1 e1)) (first | (with_reducible exact KK.out _ D1.out) | (with_reducible exact KK.out _ D0.out))
        (first | (go_at_call 69; refine (eqWr_rd [.int .i64 l0, .slice x1 m1 d1] [.int .i64 l0, .slice y1 n1 e1] (⟨l0, l1⟩ : WrD) _ (rdWr_ok.below Q.out.1 D0.out) (rdWr_ok.below Q.out.2.1 D0.out) Q.out.2.2).mono ?_; rintro e wv ⟨rfl, hB⟩; have D1 : Hd (Below wr.heap.size wr wv) := ⟨Below.next D0.out hB⟩; clear hB))
      have HZ : Hd (Below w.heap.size w wv) := ⟨Below.next HB.out D1.out⟩
      clear KK D0 D1 Q HB t0 u0 t1 u1
      go_wp2_with fail
      go_roundw
      case rel => exact ⟨k + 1, by omega, by go_num, HZ⟩
      case measure => simp [intOf]; omega
    · go_wp2
      go_ret
      exact ⟨rfl, HB.out⟩

set_option maxHeartbeats 4000000 in
theorem heldWrS_rd (ao : Option Addr) (len cap m : Nat) (ls : List WrD) (w : World) (h : RdWrS w [.slice ao len cap] (mkWrS m ls)) (hs : m + ctWrS ls ≤ 1073741824) :
    Calls Try.prog 61 #[.slice ao len cap, .int .i64 (m : Int)] w fun e w' => e = .returned (.int .i64 ((m + ctWrS ls : Nat) : Int)) ∧ Below w.heap.size w w' := by
  replace h := rdWrS_parts h
  obtain ⟨hm9, hl, h⟩ := h
  rw [mkS_len] at hl
  by_cases hz : len = 0
  · subst hz
    obtain rfl : ls = [] := List.eq_nil_of_length_eq_zero hl
    clear h hl hs hm9
    go_enter Try.func61, Try.ntmps61
    go_wp2_with fail
    refine wp_loop_rounds 1 ?_
    rewrite [rounds_succ]
    go_wp2_with fail
    go_ret
    exact ⟨rfl, Below.refl _ w⟩
  rcases h with h | ⟨b, o, rfl, g⟩
  · exact absurd (by have hh := mkS_len mkWr ctWr ls m; rw [show mkS mkWr ctWr m ls = [] from h] at hh; rw [← hl, ← hh, List.length_nil]) hz
  have G : Hd (∀ j a, ls[j]? = some a → ∃ c, c.length = 2 ∧ RdWr w c (mkWr (m + ctWrS (ls.take j)) a) ∧ ∀ i v, c[i]? = some v → w.cell? ⟨b, o + j * 2 + i, none⟩ = some v) := ⟨fun j a ha => g j _ (by rw [mkS_get, ha]; rfl)⟩
  have HN : Hd (ls.length = len ∧ m + ctWrS ls ≤ 1073741824) := ⟨hl, hs⟩
  have hlen : len ≤ 9223372036854775807 := by unfold maxLen at hm9; exact hm9
  obtain ⟨R, hR⟩ : ∃ R, m + ctWrS ls = R := ⟨_, rfl⟩
  have HR : Hd (m + ctWrS ls = R) := ⟨hR⟩
  rw [hR]
  have HZ : Hd (m + ctWrS (ls.take 0) = m) := ⟨rfl⟩
  clear g hl hs hz hR hm9
  go_enter Try.func61, Try.ntmps61
  go_wp2
  go_loopw [1, 5] (fun q i wr => ∃ k : Nat, k ≤ len ∧ i = .int .i64 k ∧ ∃ l : Nat, q = .int .i64 (l : Int) ∧ Hd (m + ctWrS (ls.take k) = l) ∧ Hd (Below w.heap.size w wr)) (fun _ i _ => len - (intOf i).toNat)
  case atStart => exact ⟨0, Nat.zero_le _, rfl, m, rfl, HZ, ⟨Below.refl _ w⟩⟩
  case round =>
    obtain ⟨k, hk, rfl, p0, rfl, HL, HB⟩ := hrel
    clear HZ
    by_cases hlt : k < len
    · have hlt' : (k : Int) < (len : Int) := by omega
      have h0 : (0 : Int) ≤ (k : Int) := by omega
      obtain ⟨a, ha⟩ := get_some (l := ls) (j := k) (by rw [HN.out.1]; exact hlt)
      obtain ⟨c, hcn, hR, hcell⟩ := G.out k a ha
      rw [HL.out] at hR
      have HS : Hd (m + ctWrS (ls.take (k + 1)) = p0 + ctWr a ∧ p0 + ctWr a ≤ 1073741824) := ⟨by
        have h1 : ctWrS (ls.take (k + 1)) = ctWrS (ls.take k) + ctWr a := ctS_take_succ ctWr ha
        have h2 : ctWrS (ls.take (k + 1)) ≤ ctWrS ls := ctS_take_le ctWr ls (k + 1)
        have := HL.out; have := HN.out; omega⟩
      replace hR := rdWr_ok.below hR HB.out
      obtain ⟨l0, l1⟩ := a
      simp only [mkWr] at hR
      have hR0 := hR
      simp only [RdWr] at hR0
      obtain ⟨x1, m1, d1, rfl, r1⟩ := hR0
      have HS2 : Hd (m + ctWrS (ls.take (k + 1)) = p0 + 1 + ctB l1 ∧ p0 + 1 + ctB l1 ≤ 1073741824) := ⟨by have h7 := HS.out; unfold ctWr at h7; dsimp only at h7; omega⟩
      have t0 := cell_below (hcell 0 _ rfl) HB.out
      have t1 := cell_below (hcell 1 _ rfl) HB.out
      simp only [Nat.add_zero] at t0
      have Q1 : Hd (RdB wr [.slice x1 m1 d1] (mkB (p0 + 1) l1)) := ⟨r1⟩
      clear hcell hcn ha HL HS hR r1
      obtain ⟨p1, hp1⟩ : ∃ p : Nat, p0 + 1 = p := ⟨_, rfl⟩
      have P1 : Hd (p0 + 1 = p1) := ⟨hp1⟩
      obtain ⟨p2, hp2⟩ : ∃ p : Nat, p1 + ctB l1 = p := ⟨_, rfl⟩
      have P2 : Hd (p1 + ctB l1 = p2) := ⟨hp2⟩
      have E1 : p0 + 1 = p1 := by have := P1.out; omega
      replace Q1 : Hd (RdB wr [.slice x1 m1 d1] (mkB p1 l1)) := ⟨by rw [← E1]; exact Q1.out⟩
      have HT : Hd (m + ctWrS (ls.take (k + 1)) = p2 ∧ p2 ≤ 1073741824) := ⟨by have := HS2.out; have := P1.out; have := P2.out; omega⟩
      have i0 : ((p0 : Nat) : Int) + 1 = ((p1 : Nat) : Int) := by have := P1.out; omega
      have j0 : ((p0 : Nat) : Int) + 1 ≤ 1073741824 := by have := HT.out.2; have := P1.out; have := P2.out; omega
      have q0 : (((p0 : Nat) : Int) != ((p0 : Nat) : Int)) = false := by simp
      clear HS2 hp1 hp2 E1
      have I0 : Hd (((p0 : Nat) : Int) + 1 = ((p1 : Nat) : Int)) := ⟨i0⟩
      clear i0
      go_wp2_with fail
      rewrite [I0.out]
      refine (heldByteS_rd x1 m1 d1 p1 l1 _ (rdB_ok.below Q1.out (Below.refl _ _)) (by have := HT.out.2; have := P2.out; omega)).mono ?_
      rintro e w1 ⟨rfl, hb⟩
      have D1 : Hd (Below wr.heap.size wr w1) := ⟨hb⟩
      rewrite [show p1 + ctB l1 = p2 from P2.out]
      have hz1 : ¬ ((p2 : Nat) : Int) < 0 := by omega
      clear t0
      clear t1
      clear hb q0 j0
      have HB1 : Hd (Below w.heap.size w w1) := ⟨Below.next HB.out D1.out⟩
      have HL1 : Hd (m + ctWrS (ls.take (k + 1)) = p2) := ⟨HT.out.1⟩
      clear HB HT D1 Q1 P1 P2 I0
      go_wp2_with fail
      go_roundw
      case rel => exact ⟨k + 1, by omega, by go_num, p2, rfl, HL1, HB1⟩
      case measure => simp [intOf]; omega
    · have HF : Hd (p0 = R) := ⟨by have h1 := HL.out; rw [List.take_of_length_le (by have := HN.out.1; omega)] at h1; rw [← h1, ← HR.out]⟩
      clear HL
      go_wp2
      go_ret
      exact ⟨by rw [← HF.out]; rfl, HB.out⟩

set_option maxHeartbeats 4000000 in
theorem markWrS_ow (ao : Option Addr) (len cap m : Nat) (ls : List WrD) (F : Fp) (w : World) (h : OwWrS w [.slice ao len cap] F ls) (hs : m + ctWrS ls ≤ 1073741824) :
    Calls Try.prog 59 #[.slice ao len cap, .int .i64 (m : Int)] w (MkOut OwWrS [.slice ao len cap] F (mkWrS m ls) (m + ctWrS ls) w) := by
  have h9 := h
  obtain ⟨v, css, Fs, e, P⟩ := h
  simp only [List.cons.injEq, and_true] at e
  subst e
  obtain ⟨a', c', e, hf⟩ := ownsRow_form P.own
  simp only [Value.slice.injEq] at e
  obtain ⟨rfl, hl, rfl⟩ := e
  by_cases hz : len = 0
  · obtain rfl : ls = [] := List.eq_nil_of_length_eq_zero (by omega)
    subst hz
    have H9 : Hd (OwWrS w [.slice ao 0 cap] F []) := ⟨h9⟩
    clear h9 P hf hl hs
    go_enter Try.func59, Try.ntmps59
    go_wp2_with fail
    refine wp_loop_rounds 1 ?_
    rewrite [rounds_succ]
    go_wp2_with fail
    go_ret
    exact ⟨rfl, H9.out, Chg.refl _ _⟩
  rcases hf with ⟨_, h0⟩ | ⟨g, rfl⟩
  · exact absurd (hl.trans h0) hz
  have HN : Hd (ls.length = len ∧ m + ctWrS ls ≤ 1073741824) := ⟨hl.symm, hs⟩
  have hlen : len ≤ 9223372036854775807 := by have h7 := ownsRow_max P.own; unfold maxLen at h7; omega
  obtain ⟨R, hR⟩ : ∃ R, m + ctWrS ls = R := ⟨_, rfl⟩
  have HR : Hd (m + ctWrS ls = R) := ⟨hR⟩
  rw [hR]
  have HZ : Hd (m + ctWrS (ls.take 0) = m) := ⟨rfl⟩
  have HP : Hd (∃ css, OwP 2 35 OwWr w (.slice (some ⟨g, 0, none⟩) len cap) css Fs F (mixS mkWr ctWr m ls 0) ∧ Chg w w F) := ⟨css, by rw [mixS_zero]; exact P, Chg.refl _ _⟩
  clear h9 P hl hs hz hR css
  go_enter Try.func59, Try.ntmps59
  go_wp2
  go_loopw [1, 5] (fun q i wr => ∃ k : Nat, k ≤ len ∧ i = .int .i64 k ∧ ∃ l : Nat, q = .int .i64 (l : Int) ∧ Hd (m + ctWrS (ls.take k) = l) ∧ Hd (∃ css, OwP 2 35 OwWr wr (.slice (some ⟨g, 0, none⟩) len cap) css Fs F (mixS mkWr ctWr m ls k) ∧ Chg w wr F)) (fun _ i _ => len - (intOf i).toNat)
  case atStart => exact ⟨0, Nat.zero_le _, rfl, m, rfl, HZ, HP⟩
  case round =>
    obtain ⟨k, hk, rfl, p0, rfl, HL, HP1⟩ := hrel
    clear HZ HP
    by_cases hlt : k < len
    · have hlt' : (k : Int) < (len : Int) := by omega
      have h0 : (0 : Int) ≤ (k : Int) := by omega
      obtain ⟨a, ha⟩ := get_some (l := ls) (j := k) (by rw [HN.out.1]; exact hlt)
      obtain ⟨css, P, C⟩ := HP1.out
      have hml : (mixS mkWr ctWr m ls k).length = len := by rw [mixS_len _ _ _ _ (by have := HN.out.1; omega), HN.out.1]
      obtain ⟨c, hc, hcn, hE⟩ := P.cellsAt (mixS_get mkWr ctWr m ls ha)
      have HS : Hd (m + ctWrS (ls.take (k + 1)) = p0 + ctWr a ∧ p0 + ctWr a ≤ 1073741824) := ⟨by
        have h1 : ctWrS (ls.take (k + 1)) = ctWrS (ls.take k) + ctWr a := ctS_take_succ ctWr ha
        have h2 : ctWrS (ls.take (k + 1)) ≤ ctWrS ls := ctS_take_le ctWr ls (k + 1)
        have := HL.out; have := HN.out; omega⟩
      have hks : k < css.length := by rw [P.size, hml]; exact hlt
      have hcl : css.length = len := by rw [P.size, hml]
      have hown : wr.ownsRow 0 35 2 (.slice (some ⟨g, 0, none⟩) len cap) len (css.set k c).flatten := by rw [set_self hc, ← hml]; have := P.own; rw [hml] at this ⊢; exact this
      have hset : (mixS mkWr ctWr m ls k).set k (mkWr p0 a) = mixS mkWr ctWr m ls (k + 1) := by rw [← HL.out]; exact mixS_set mkWr ctWr m ls ha
      have hgF : ∀ x, Fs k x → x ≠ g := fun x hx e => (P.sub k x (by rw [hml]; exact hlt) hx).2 (by rw [e]; rfl)
      have HQ : Hd (OwP 2 35 OwWr wr (.slice (some ⟨g, 0, none⟩) len cap) css Fs F (mixS mkWr ctWr m ls k) ∧ Chg w wr F ∧ (mixS mkWr ctWr m ls k).length = len ∧ k < css.length ∧ css.length = len ∧ c.length = 2 ∧ (mixS mkWr ctWr m ls k).set k (mkWr p0 a) = mixS mkWr ctWr m ls (k + 1) ∧ ∀ x, Fs k x → x ≠ g) := ⟨P, C, hml, hks, hcl, hcn, hset, hgF⟩
      obtain ⟨l0, l1⟩ := a
      simp only [OwWr] at hE
      obtain ⟨x1, m1, d1, G1, rfl, r1, hU⟩ := hE
      have HU : Hd ((True) ∧ ∀ x, Fs k x ↔ G1 x) := ⟨trivial, hU⟩
      have O0 : Hd (wr.ownsRow 0 35 2 (.slice (some ⟨g, 0, none⟩) len cap) len (css.set k [.int .i64 l0, .slice x1 m1 d1]).flatten) := ⟨hown⟩
      have S1_0 : Hd (OwB wr [.slice x1 m1 d1] G1 l1) := ⟨r1⟩
      have D0 : Hd (Chg wr wr (fun x => x = g ∨ Fs k x)) := ⟨Chg.refl _ _⟩
      obtain ⟨p1, hp1⟩ : ∃ p : Nat, p0 + 1 = p := ⟨_, rfl⟩
      have P1 : Hd (p0 + 1 = p1) := ⟨hp1⟩
      obtain ⟨p2, hp2⟩ : ∃ p : Nat, p1 + ctB l1 = p := ⟨_, rfl⟩
      have P2 : Hd (p1 + ctB l1 = p2) := ⟨hp2⟩
      have HS2 : Hd (m + ctWrS (ls.take (k + 1)) = p0 + 1 + ctB l1 ∧ p0 + 1 + ctB l1 ≤ 1073741824) := ⟨by have h7 := HS.out; unfold ctWr at h7; dsimp only at h7; omega⟩
      have HT : Hd (m + ctWrS (ls.take (k + 1)) = p2 ∧ p2 ≤ 1073741824) := ⟨by have := HS2.out; have := P1.out; have := P2.out; omega⟩
      have i0 : ((p0 : Nat) : Int) + 1 = ((p1 : Nat) : Int) := by have := P1.out; omega
      have I0 : Hd (((p0 : Nat) : Int) + 1 = ((p1 : Nat) : Int)) := ⟨i0⟩
      clear i0
      have j0 : ((p0 : Nat) : Int) + 1 ≤ 1073741824 := by have := HT.out.2; have := P1.out; have := P2.out; omega
      clear HS HS2 P C hc hcn hown hset hgF hks hcl hml ha hp1 hp2 r1 hU
      have t0 := ownsRow_cell O0.out rfl HQ.out.2.2.2.1 HQ.out.2.2.2.2.1 HQ.out.1.lens rfl (i := 0) rfl
      simp only [Nat.add_zero] at t0
      have f0 := ownsRow_free O0.out rfl (k * 2)
      have O1 : Hd ((wr.setCell ⟨g, k * 2, none⟩ (.int .i64 ((p0 : Nat) : Int))).ownsRow 0 35 2 (.slice (some ⟨g, 0, none⟩) len cap) len (css.set k [.int .i64 ((p0 : Nat) : Int), .slice x1 m1 d1]).flatten) := ⟨by have h7 := ownsRow_put (u := (.int .i64 ((p0 : Nat) : Int) : Value)) O0.out rfl HQ.out.2.2.2.1 HQ.out.1.lens rfl (i := 0) (by omega) rfl; simp only [Nat.add_zero] at h7; exact h7⟩
      have D1 : Hd (Chg wr (wr.setCell ⟨g, k * 2, none⟩ (.int .i64 ((p0 : Nat) : Int))) (fun x => x = g ∨ Fs k x)) := ⟨D0.out.setCell (.inl rfl) _⟩
      have S1_1 : Hd (OwB (wr.setCell ⟨g, k * 2, none⟩ (.int .i64 ((p0 : Nat) : Int))) [.slice x1 m1 d1] G1 (l1)) := ⟨owB_ok.keep S1_0.out (fun b hb => heap_setCell_other _ _ _ _ (HQ.out.2.2.2.2.2.2.2 b (by have hx := hb; exact (HU.out.2 b).2 (hx))))⟩
      clear O0 D0 S1_0
      have u1 := ownsRow_cell O1.out rfl HQ.out.2.2.2.1 HQ.out.2.2.2.2.1 HQ.out.1.lens rfl (i := 1) rfl
      go_wp2_with fail
      rewrite [I0.out]
      refine (markByteS_ow x1 m1 d1 p1 l1 G1 _ S1_1.out (by have := HT.out.2; have := P2.out; omega)).mono ?_
      rintro e w1 ⟨rfl, hO, hC⟩
      rewrite [show p1 + ctB l1 = p2 from P2.out]
      have O2 : Hd (w1.ownsRow 0 35 2 (.slice (some ⟨g, 0, none⟩) len cap) len (css.set k [.int .i64 ((p0 : Nat) : Int), .slice x1 m1 d1]).flatten) := ⟨ownsRow_keep O1.out (fun b hb => hC.block b (by have h7 := (O1.out.lt b hb).2; exact h7) (fun hx => by simp [Value.ownBlock] at hb; exact HQ.out.2.2.2.2.2.2.2 b (by have x := b; exact (HU.out.2 b).2 (hx)) hb.symm))⟩
      have D2 : Hd (Chg wr w1 (fun x => x = g ∨ Fs k x)) := ⟨D1.out.trans (hC.mono (fun x hx => .inr ((HU.out.2 x).2 (hx))))⟩
      have S1_2 : Hd (OwB w1 [.slice x1 m1 d1] G1 (mkB p1 l1)) := ⟨hO⟩
      clear hO hC u1 O1 D1 S1_1 t0 f0 j0
      have HE : OwWr w1 [.int .i64 ((p0 : Nat) : Int), .slice x1 m1 d1] (Fs k) (mkWr p0 (⟨l0, l1⟩ : WrD)) := by
        unfold mkWr
        dsimp only
        rw [P1.out]
        exact ⟨x1, m1, d1, G1, rfl, S1_2.out, HU.out.2⟩
      have HP2 : Hd (∃ css, OwP 2 35 OwWr w1 (.slice (some ⟨g, 0, none⟩) len cap) css Fs F (mixS mkWr ctWr m ls (k + 1)) ∧ Chg w w1 F) := ⟨css.set k [.int .i64 ((p0 : Nat) : Int), .slice x1 m1 d1], by
        rw [← HQ.out.2.2.2.2.2.2.1]
        exact HQ.out.1.upd owWr_ok (by rw [HQ.out.2.2.1]; exact hlt) (by rw [HQ.out.2.2.1]; exact O2.out) rfl HE (fun x hx h1 h2 => D2.out.block x (HQ.out.1.lt x hx) (fun h => h.elim (fun e => h1 (by rw [e]; rfl)) h2)) D2.out.size,
        HQ.out.2.1.trans (D2.out.mono (fun x hx => hx.elim (fun e => HQ.out.1.blk x (by rw [e]; rfl)) (fun h => (HQ.out.1.sub k x (by rw [HQ.out.2.2.1]; exact hlt) h).1)))⟩
      have HL1 : Hd (m + ctWrS (ls.take (k + 1)) = p2) := ⟨HT.out.1⟩
      clear HE HQ HT HL HP1 O2 D2 S1_2 P1 P2 I0 HU
      go_wp2_with fail
      go_roundw
      case rel => exact ⟨k + 1, by omega, by go_num, p2, rfl, HL1, HP2⟩
      case measure => simp [intOf]; omega
    · have HF : Hd (p0 = R) := ⟨by have h1 := HL.out; rw [List.take_of_length_le (by have := HN.out.1; omega)] at h1; rw [← h1, ← HR.out]⟩
      have hkl : k = ls.length := by have := HN.out.1; omega
      have HO : Hd (OwWrS wr [.slice (some ⟨g, 0, none⟩) len cap] F (mkWrS m ls) ∧ Chg w wr F) := ⟨by
        obtain ⟨css, P, C⟩ := HP1.out
        rw [hkl, mixS_all] at P
        exact ⟨⟨_, css, Fs, rfl, P⟩, C⟩⟩
      clear HL HP1 hkl
      go_wp2
      go_ret
      exact ⟨by rw [← HF.out]; rfl, HO.out.1, HO.out.2⟩

theorem infoWrS : (Try.prog.info? 35).map (fun i => (i.zero, i.size, i.bytes)) = some (some (.agg #[.int .i64 0, .slice none 0 0]), 2, 32) := by kernel_rfl
theorem owWr_zero (w : World) : OwWr w [.int .i64 0, .slice none 0 0] (fun _ => False) (⟨0, []⟩ : WrD) := ⟨none, 0, 0, (fun _ => False), rfl, owB_nil w, fun x => by simp⟩
set_option maxHeartbeats 4000000 in
theorem toWrS_rd (ao : Option Addr) (len cap : Nat) (ls : List WrD) (w : World) (h : RdWrS w [.slice ao len cap] ls) (hw : wtWrS ls ≤ 1073741824) :
    Calls Try.prog 55 #[.slice ao len cap] w (AnsSl OwWrS ls w) := by
  replace h := rdWrS_parts h
  obtain ⟨_, hl, h⟩ := h
  have hw7 : wtS wtWr ls ≤ 1073741824 := hw
  have hlen : len ≤ 1073741824 := by have := wtS_len wtWr ls; omega
  obtain ⟨i0, hi, hz0, hz1, hz2⟩ := info_parts infoWrS
  by_cases hz : len = 0
  · subst hz
    obtain rfl : ls = [] := List.eq_nil_of_length_eq_zero hl
    clear h hl hw hw7
    go_enter Try.func55, Try.ntmps55
    go_wp2_with (at_make; refine wpList_make_full _ rfl _ _ 25 rfl w.heap.size 35 i0 (.agg #[.int .i64 0, .slice none 0 0]) 2 Try.underlying25 hi hz0 hz1 _ _ _ _ 0 rfl rfl rfl rfl ?b1 ?b2 ?b3 ?_)
    case b1 => rw [hz2]; omega
    case b2 => unfold maxLen; omega
    case b3 => exact Nat.le_refl _
    intro w1 hown hgrow
    have HW : Hd (OwWrS w1 [.slice (some ⟨w.heap.size, 0, none⟩) 0 0] (fun x => x = w.heap.size) [] ∧ Below w.heap.size w w1) := ⟨by
      refine ⟨⟨_, [], fun _ _ => False, rfl, ?_⟩, (Below.refl _ w).grown hgrow (Nat.le_refl _) (fun _ h => by cases h)⟩
      have hlt := (hown.lt w.heap.size rfl).2
      have h7 : w1.ownsRow 0 35 2 (.slice (some ⟨w.heap.size, 0, none⟩) 0 0) 0 (List.replicate 0 ([.int .i64 0, .slice none 0 0] : List Value)).flatten := by
        have h8 := ownsRow_base hown (Nat.zero_le _)
        exact ⟨by simp, h8.2.imp id (fun ⟨g, c, cur, e1, e2, e3, e4, e5, e6, _⟩ => ⟨g, c, cur, e1, e2, e3, e4, e5, e6, by simp⟩)⟩
      exact owP_made (z := (⟨0, []⟩ : WrD)) h7 rfl hlt (owWr_zero _)⟩
    clear hown hgrow
    go_wp2_with fail
    refine wp_loop_rounds 1 ?_
    rewrite [rounds_succ]
    go_wp2_with fail
    go_ret
    exact ⟨⟨_, _, _, rfl, _, HW.out.1, fun x hx => by rw [hx]; exact Nat.le_refl _⟩, HW.out.2⟩
  rcases h with h | ⟨b, o, rfl, g⟩
  · exact absurd (by rw [← hl, h, List.length_nil]) hz
  have G : Hd (∀ j a, ls[j]? = some a → ∃ c, c.length = 2 ∧ RdWr w c a ∧ ∀ i v, c[i]? = some v → w.cell? ⟨b, o + j * 2 + i, none⟩ = some v) := ⟨g⟩
  have HN : Hd (ls.length = len ∧ wtWrS ls ≤ 1073741824) := ⟨hl, hw⟩
  clear g hl hw hw7 hz
  go_enter Try.func55, Try.ntmps55
  go_wp2_with (at_make; refine wpList_make_full _ rfl _ _ 25 rfl w.heap.size 35 i0 (.agg #[.int .i64 0, .slice none 0 0]) 2 Try.underlying25 hi hz0 hz1 _ _ _ _ len rfl rfl rfl rfl ?b1 ?b2 ?b3 ?_)
  case b1 => rw [hz2]; omega
  case b2 => unfold maxLen; omega
  case b3 => exact Nat.le_refl _
  intro w1 hown hgrow
  have HW : Hd (∃ css Fs F, OwP 2 35 OwWr w1 (.slice (some ⟨w.heap.size, 0, none⟩) len len) css Fs F (fillS ls (⟨0, []⟩ : WrD) (0)) ∧ (∀ x, F x → w.heap.size ≤ x) ∧ Below w.heap.size w w1) := ⟨by
    have hlt := (hown.lt w.heap.size rfl).2
    have e7 := made_flat ([.int .i64 0, .slice none 0 0] : List Value) (n := 2) rfl (by omega) len
    try simp only [Nat.mul_one] at e7
    have h7 : w1.ownsRow 0 35 2 (.slice (some ⟨w.heap.size, 0, none⟩) len len) len (List.replicate len ([.int .i64 0, .slice none 0 0] : List Value)).flatten := by
      rw [← e7]; exact ownsRow_base hown (Nat.zero_le _)
    rw [fillS_zero, HN.out.1]
    exact ⟨_, _, _, owP_made h7 rfl hlt (owWr_zero _), fun x hx => by rw [hx]; exact Nat.le_refl _, (Below.refl _ w).grown hgrow (Nat.le_refl _) (fun _ h => by cases h)⟩⟩
  clear hown hgrow
  go_wp2_with fail
  go_loopw [4] (fun i wr => ∃ k : Nat, k ≤ len ∧ i = .int .i64 k ∧ Hd (∃ css Fs F, OwP 2 35 OwWr wr (.slice (some ⟨w.heap.size, 0, none⟩) len len) css Fs F (fillS ls (⟨0, []⟩ : WrD) (k)) ∧ (∀ x, F x → w.heap.size ≤ x) ∧ Below w.heap.size w wr)) (fun i _ => len - (intOf i).toNat)
  case atStart => exact ⟨0, Nat.zero_le _, rfl, HW⟩
  case round =>
    obtain ⟨k, hk, rfl, HK⟩ := hrel
    clear HW
    by_cases hlt : k < len
    · have hlt' : (k : Int) < (len : Int) := by omega
      have h0 : (0 : Int) ≤ (k : Int) := by omega
      obtain ⟨css, Fs, F, P, hFb, hB⟩ := HK.out
      obtain ⟨a, ha⟩ := get_some (l := ls) (j := k) (by rw [HN.out.1]; exact hlt)
      obtain ⟨c, hcn, hR, hcell⟩ := G.out k a ha
      replace hR := rdWr_ok.below hR hB
      have HW9 : Hd (wtWr a ≤ 1073741824) := ⟨by have h7 := wtS_le wtWr ha; have h8 : wtS wtWr ls ≤ 1073741824 := HN.out.2; omega⟩
      have hkl : k < ls.length := by rw [HN.out.1]; exact hlt
      have hml : (fillS ls (⟨0, []⟩ : WrD) k).length = len := by rw [fillS_len ls _ (by omega), HN.out.1]
      obtain ⟨co, hco, hcon, hEo⟩ := P.cellsAt (fillS_get ls (⟨0, []⟩ : WrD) hkl)
      have hset : (fillS ls (⟨0, []⟩ : WrD) k).set k a = fillS ls (⟨0, []⟩ : WrD) (k + 1) := fillS_set ls _ ha
      have HQ : Hd (OwP 2 35 OwWr wr (.slice (some ⟨w.heap.size, 0, none⟩) len len) css Fs F (fillS ls (⟨0, []⟩ : WrD) k) ∧ (∀ x, F x → w.heap.size ≤ x) ∧ Below w.heap.size w wr ∧ (fillS ls (⟨0, []⟩ : WrD) k).length = len ∧ (fillS ls (⟨0, []⟩ : WrD) k).set k a = fillS ls (⟨0, []⟩ : WrD) (k + 1) ∧ css[k]? = some co ∧ co.length = 2 ∧ css.length = len) := ⟨P, hFb, hB, hml, hset, hco, hcon, by rw [P.size, hml]⟩
      obtain ⟨l0, l1⟩ := a
      have hR0 := hR
      simp only [RdWr] at hR0
      obtain ⟨x1, m1, d1, rfl, _⟩ := hR0
      have t0 := cell_below (hcell 0 _ rfl) hB
      have t1 := cell_below (hcell 1 _ rfl) hB
      simp only [Nat.add_zero] at t0
      have QR : Hd (RdWr wr [.int .i64 l0, .slice x1 m1 d1] (⟨l0, l1⟩ : WrD)) := ⟨hR⟩
      clear hR hcell hcn ha P hFb hB hkl hml hco hcon hEo hset HK
      go_wp2_with fail
      refine (toWr_rd [.int .i64 l0, .slice x1 m1 d1] (⟨l0, l1⟩ : WrD) _ QR.out HW9.out).mono ?_
      rintro e w1 ⟨⟨cs1, rfl, G1, hE, hG⟩, hb⟩
      have HE0 := hE
      simp only [OwWr] at HE0
      obtain ⟨y1, n1, e1, _, rfl, _, _⟩ := HE0
      have hql := HQ.out.2.2.2.2.2.2.1
      have O0 : Hd (w1.ownsRow 0 35 2 (.slice (some ⟨w.heap.size, 0, none⟩) len len) len (css.set k co).flatten) := ⟨by rw [set_self HQ.out.2.2.2.2.2.1]; have h7 := HQ.out.1.own; rw [HQ.out.2.2.2.1] at h7; exact ownsRow_keep h7 (fun b hb2 => hb.block b (h7.lt b hb2).2)⟩
      rcases co with _ | ⟨v0, co⟩
      · simp at hql
      rcases co with _ | ⟨v1, co⟩
      · simp at hql
      rcases co with _ | ⟨v9, co⟩
      rotate_left
      · simp at hql
      clear hql
      have t0 := ownsRow_cell O0.out rfl (by rw [HQ.out.2.2.2.2.2.2.2]; exact hlt) HQ.out.2.2.2.2.2.2.2 HQ.out.1.lens rfl (i := 0) rfl
      have f0 := ownsRow_free O0.out rfl (k * 2)
      have t1 := ownsRow_cell O0.out rfl (by rw [HQ.out.2.2.2.2.2.2.2]; exact hlt) HQ.out.2.2.2.2.2.2.2 HQ.out.1.lens rfl (i := 1) rfl
      have f1 := ownsRow_free O0.out rfl (k * 2 + 1)
      simp only [Nat.add_zero] at t0
      have O1 : Hd ((w1.setCell ⟨w.heap.size, k * 2, none⟩ (.int .i64 l0)).ownsRow 0 35 2 (.slice (some ⟨w.heap.size, 0, none⟩) len len) len (css.set k [.int .i64 l0, v1]).flatten) := ⟨by have h7 := ownsRow_put (u := (.int .i64 l0 : Value)) O0.out rfl (by rw [HQ.out.2.2.2.2.2.2.2]; exact hlt) HQ.out.1.lens rfl (i := 0) (by omega) rfl; simp only [Nat.add_zero] at h7; exact h7⟩
      have O2 : Hd (((w1.setCell ⟨w.heap.size, k * 2, none⟩ (.int .i64 l0)).setCell ⟨w.heap.size, k * 2 + 1, none⟩ (.slice y1 n1 e1)).ownsRow 0 35 2 (.slice (some ⟨w.heap.size, 0, none⟩) len len) len (css.set k [.int .i64 l0, .slice y1 n1 e1]).flatten) := ⟨by have h7 := ownsRow_put (u := (.slice y1 n1 e1 : Value)) O1.out rfl (by rw [HQ.out.2.2.2.2.2.2.2]; exact hlt) HQ.out.1.lens rfl (i := 1) (by omega) rfl; exact h7⟩
      have HX : Hd (∃ css Fs F, OwP 2 35 OwWr ((w1.setCell ⟨w.heap.size, k * 2, none⟩ (.int .i64 l0)).setCell ⟨w.heap.size, k * 2 + 1, none⟩ (.slice y1 n1 e1)) (.slice (some ⟨w.heap.size, 0, none⟩) len len) css Fs F (fillS ls (⟨0, []⟩ : WrD) (k + 1)) ∧ (∀ x, F x → w.heap.size ≤ x) ∧ Below w.heap.size w ((w1.setCell ⟨w.heap.size, k * 2, none⟩ (.int .i64 l0)).setCell ⟨w.heap.size, k * 2 + 1, none⟩ (.slice y1 n1 e1))) := ⟨by
        have hgk : w.heap.size < wr.heap.size := (HQ.out.1.own.lt w.heap.size rfl).2
        have hE2 : OwWr ((w1.setCell ⟨w.heap.size, k * 2, none⟩ (.int .i64 l0)).setCell ⟨w.heap.size, k * 2 + 1, none⟩ (.slice y1 n1 e1)) [.int .i64 l0, .slice y1 n1 e1] G1 (⟨l0, l1⟩ : WrD) := owWr_ok.keep hE (fun b hb2 => block_set (block_set (rfl) (by have := hG b hb2; omega)) (by have := hG b hb2; omega))
        have hP := HQ.out.1.put owWr_ok (by rw [HQ.out.2.2.2.1]; exact hlt) (by rw [HQ.out.2.2.2.1]; exact O2.out) rfl hE2 (fun x hx => .inr (hG x hx)) (fun x hx h1 h2 => (block_set (block_set (rfl) (fun e => h1 (by rw [e]; rfl))) (fun e => h1 (by rw [e]; rfl))).trans (hb.block x (HQ.out.1.lt x hx))) (by simp only [World.size_setCell]; exact hb.size)
        rw [HQ.out.2.2.2.2.1] at hP
        exact ⟨_, _, _, hP, fun x hx => hx.elim (HQ.out.2.1 x) (fun h => by have := hG x h; omega), bset (bset (Below.trans HQ.out.2.2.1 (hb.mono HQ.out.2.2.1.size)) _ (Nat.le_refl _)) _ (Nat.le_refl _)⟩⟩
      clear HQ QR HW9 hE hG hb O0 O1 O2
      go_wp2_with fail
      go_roundw
      case rel => exact ⟨k + 1, by omega, by go_num, HX⟩
      case measure => simp [intOf]; omega
    · have e : k = ls.length := by have := HN.out.1; omega
      have HF : Hd (AnsSl OwWrS ls w (.returned (.slice (some ⟨w.heap.size, 0, none⟩) len len)) wr) := ⟨by
        obtain ⟨css, Fs, F, P, hFb, hB⟩ := HK.out
        rw [e, fillS_all] at P
        exact ⟨⟨_, _, _, rfl, F, ⟨_, css, Fs, rfl, P⟩, hFb⟩, hB⟩⟩
      clear e HK
      go_wp2
      go_ret
      exact HF.out

end Go.Proofs.Ytbeiocngiippgaa
