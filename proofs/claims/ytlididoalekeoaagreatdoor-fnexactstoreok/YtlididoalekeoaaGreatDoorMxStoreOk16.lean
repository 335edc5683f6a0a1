/- Parts of the proof, one behind the other. -/
import Derived.Test.YtlididoalekeoaaGreatDoorMxStoreOk11
import Derived.Test.YtlididoalekeoaaGreatDoorMxStoreOk15
import Derived.Deep.RegionHeld3
import Derived.Test.YtlididoalekeoaaGreatDoorMxStoreOk13
/- Parts of the proof, one behind the other. -/
/- What the laws do with a list of Wr. -/
namespace Go.Proofs.YtlididoalekeoaaGreatDoor
set_option maxRecDepth 4000
open Go.RowKit

abbrev RdWrS : Rd (List WrD) := RdS 2 RdWr
abbrev OwWrS : Ow (List WrD) := OwS 2 62 OwWr
theorem rdWrS_ok : RdOk 1 RdWrS := rdS_ok rdWr_ok
theorem owWrS_ok : OwOk 1 OwWrS RdWrS := owS_ok owWr_ok
abbrev wtWrS : List WrD → Nat := wtS wtWr
abbrev ctWrS : List WrD → Nat := ctS ctWr
abbrev mkWrS (m : Nat) : List WrD → List WrD := mkS mkWr ctWr m

theorem rdWrS_parts {w : World} {ao : Option Addr} {len cap : Nat} {ls : List WrD} (h : RdWrS w [.slice ao len cap] ls) : len ≤ maxLen ∧ ls.length = len ∧ (ls = [] ∨ ∃ b off, ao = some ⟨b, off, none⟩ ∧ ∀ j a, ls[j]? = some a → ∃ c, c.length = 2 ∧ RdWr w c a ∧ ∀ i v, c[i]? = some v → w.cell? ⟨b, off + j * 2 + i, none⟩ = some v) := by
  obtain ⟨_, _, _, e, hm, hl, h⟩ := h
  simp only [List.cons.injEq, Value.slice.injEq, and_true] at e
  obtain ⟨rfl, rfl, rfl⟩ := e
  exact ⟨hm, hl, h⟩

set_option maxHeartbeats 4000000 in
theorem szWrS_rd (ao : Option Addr) (len cap : Nat) (ls : List WrD) (n : Int) (w : World) (h : RdWrS w [.slice ao len cap] ls) (hn : 0 ≤ n ∧ n ≤ 1048576) :
    Calls Tryz.prog 23 #[.slice ao len cap, .int .i64 n] w (SzOut n (wtWrS ls) w) := by
  replace h := rdWrS_parts h
  obtain ⟨hm, hl, h⟩ := h
  have hw : wrap64 (n - (len : Int)) = n - (len : Int) := by unfold maxLen at *; exact wrap64_in (by omega) (by omega)
  have hw0 := wtS_len wtWr ls
  by_cases hc : n < (len : Int)
  · have h2 : n - (len : Int) < 0 := by omega
    have HE : Hd (n < ((wtWrS ls : Nat) : Int) ∧ 0 ≤ n) := ⟨by show n < ((wtS wtWr ls : Nat) : Int); omega, by omega⟩
    clear hm hl h hn hw0
    go_enter Tryz.func23, Tryz.ntmps23
    go_wp2
    go_ret
    exact ⟨⟨-1, rfl, by omega, by have := HE.out; omega, fun h => by omega⟩, Below.refl _ w⟩
  have h2 : ¬ n - (len : Int) < 0 := by omega
  have HN : Hd (ls.length = len ∧ 0 ≤ n ∧ n ≤ 1048576 ∧ (len : Int) ≤ n) := ⟨hl, hn.1, hn.2, by omega⟩
  have hlen : len ≤ 1048576 := by omega
  by_cases hz : len = 0
  · subst hz
    obtain rfl : ls = [] := List.eq_nil_of_length_eq_zero hl
    have hw1 : wrap64 n = n := by simpa using hw
    have h3 : ¬ n < 0 := by omega
    have hc1 : ((0 : Nat) : Int) = 0 := rfl
    clear hm hl h hn hw0 hc hlen hw h2
    go_enter Tryz.func23, Tryz.ntmps23
    go_wp2_with fail
    refine wp_loop_rounds 1 ?_
    rewrite [rounds_succ]
    go_wp2_with fail
    go_ret
    exact ⟨⟨_, rfl, by have := HN.out; omega, by omega, fun h => by show ((0 : Nat) : Int) + _ ≤ _; omega⟩, Below.refl _ w⟩
  rcases h with h | ⟨b, o, rfl, g⟩
  · exact absurd (by rw [← hl, h, List.length_nil]) hz
  have G : Hd (∀ j a, ls[j]? = some a → ∃ c, c.length = 2 ∧ RdWr w c a ∧ ∀ i v, c[i]? = some v → w.cell? ⟨b, o + j * 2 + i, none⟩ = some v) := ⟨g⟩
  have HR : Hd (0 ≤ n - (len : Int) ∧ n - (len : Int) ≤ n ∧ ((len + ((ls.take 0).map wtWr).sum : Nat) : Int) + (n - (len : Int)) ≤ n) := ⟨by omega, by omega, by have h7 : ((ls.take 0).map wtWr).sum = 0 := rfl; omega⟩
  clear hm hl h2 hn hw0 g hz hc
  have h2 : ¬ n - (len : Int) < 0 := by have := HN.out; omega
  go_enter Tryz.func23, Tryz.ntmps23
  go_wp2
  go_loopw [1, 5] (fun q i wr => ∃ k : Nat, k ≤ len ∧ i = .int .i64 k ∧ ∃ l : Int, q = .int .i64 l ∧ Hd (Below w.heap.size w wr) ∧ Hd (0 ≤ l ∧ l ≤ n ∧ ((len + ((ls.take k).map wtWr).sum : Nat) : Int) + l ≤ n)) (fun _ i _ => len - (intOf i).toNat)
  case atStart => exact ⟨0, Nat.zero_le _, rfl, _, rfl, ⟨Below.refl _ w⟩, HR⟩
  case round =>
    obtain ⟨k, hk, rfl, l, rfl, HB, HL⟩ := hrel
    clear HR h2
    by_cases hlt : k < len
    · have hlt' : (k : Int) < (len : Int) := by omega
      have h0 : (0 : Int) ≤ (k : Int) := by omega
      obtain ⟨a, ha⟩ := get_some (l := ls) (j := k) (by rw [HN.out.1]; exact hlt)
      obtain ⟨c, hcn, hR, hcell⟩ := G.out k a ha
      have HS : Hd (((ls.take (k + 1)).map wtWr).sum = ((ls.take k).map wtWr).sum + wtWr a) := ⟨wt_take_succ wtWr ha⟩
      replace hR := rdWr_ok.below hR HB.out
      obtain ⟨l0, l1⟩ := a
      have hR0 := hR
      simp only [RdWr] at hR0
      obtain ⟨x1, m1, d1, rfl, _⟩ := hR0
      have t0 := cell_below (hcell 0 _ rfl) HB.out
      have t1 := cell_below (hcell 1 _ rfl) HB.out
      simp only [Nat.add_zero] at t0
      have HRd : Hd (RdWr wr [.int .i64 l0, .slice x1 m1 d1] (⟨l0, l1⟩ : WrD)) := ⟨hR⟩
      clear hR hcell hcn ha
      go_wp2_with fail
      refine (szWr_rd [.int .i64 l0, .slice x1 m1 d1] (⟨l0, l1⟩ : WrD) l _ HRd.out ⟨HL.out.1, by have := HL.out.2.1; have := HN.out; omega⟩).mono ?_
      rintro e w1 ⟨⟨s, rfl, hs1, hs2, hs3⟩, hb⟩
      have HB1 : Hd (Below w.heap.size w w1) := ⟨Below.next HB.out hb⟩
      have HS1 : Hd (-1 ≤ s ∧ s ≤ n ∧ (0 ≤ s → ((len + ((ls.take (k + 1)).map wtWr).sum : Nat) : Int) + s ≤ n)) := ⟨hs1, by have := HL.out; omega, fun hh => by have := hs3 hh; have := HL.out; rw [HS.out]; omega⟩
      clear hb HB HRd HL HS hs1 hs2 hs3 t0 t1
      by_cases hz : s < 0
      · go_wp2_with fail
        go_ret
        exact ⟨⟨-1, rfl, by omega, by have := HN.out; omega, fun h => by omega⟩, HB1.out⟩
      · have HL1 : Hd (0 ≤ s ∧ s ≤ n ∧ ((len + ((ls.take (k + 1)).map wtWr).sum : Nat) : Int) + s ≤ n) := ⟨by omega, HS1.out.2.1, HS1.out.2.2 (by omega)⟩
        clear HS1
        go_wp2_with fail
        go_roundw
        case rel => exact ⟨k + 1, by omega, by go_num, s, rfl, HB1, HL1⟩
        case measure => simp [intOf]; omega
    · have HF : Hd (0 ≤ l ∧ l ≤ n ∧ ((wtWrS ls : Nat) : Int) + l ≤ n) := ⟨HL.out.1, HL.out.2.1, by
        have h1 := HL.out.2.2
        have h2 := HN.out.1
        rw [List.take_of_length_le (by omega)] at h1
        show ((ls.length + (ls.map wtWr).sum : Nat) : Int) + l ≤ n
        omega⟩
      clear HL
      go_wp2
      go_ret
      exact ⟨⟨l, rfl, by have := HF.out; omega, HF.out.2.1, fun _ => HF.out.2.2⟩, HB.out⟩

set_option maxHeartbeats 4000000 in
theorem eqWrS_rd (a1 : Option Addr) (n1 c1 : Nat) (a2 : Option Addr) (n2 c2 : Nat) (ls : List WrD) (w : World) (h1 : RdWrS w [.slice a1 n1 c1] ls) (h2 : RdWrS w [.slice a2 n2 c2] ls) (hw : wtWrS ls ≤ 1073741824) :
    Calls Tryz.prog 42 #[.slice a1 n1 c1, .slice a2 n2 c2] w fun e w' => e = .returned (.bool true) ∧ Below w.heap.size w w' := by
  replace h1 := rdWrS_parts h1
  replace h2 := rdWrS_parts h2
  obtain ⟨_, hl1, h1⟩ := h1
  obtain ⟨_, hl2, h2⟩ := h2
  obtain rfl : n1 = n2 := hl1.symm.trans hl2
  have hw7 : wtS wtWr ls ≤ 1073741824 := hw
  have hlen : n1 ≤ 1073741824 := by have := wtS_len wtWr ls; omega
  have heq : ((n1 : Int) != (n1 : Int)) = false := by simp
  by_cases hz : n1 = 0
  · subst hz
    clear h1 h2 hl1 hl2 hw hw7
    go_enter Tryz.func42, Tryz.ntmps42
    go_wp2_with fail
    refine wp_loop_rounds 1 ?_
    rewrite [rounds_succ]
    go_wp2_with fail
    go_ret
    exact ⟨rfl, Below.refl _ w⟩
  rcases h1 with h | ⟨b1, o1, rfl, g1⟩
  · exact absurd (by rw [← hl1, h, List.length_nil]) hz
  rcases h2 with h | ⟨b2, o2, rfl, g2⟩
  · exact absurd (by rw [← hl1, h, List.length_nil]) hz
  have G1 : Hd (∀ j a, ls[j]? = some a → ∃ c, c.length = 2 ∧ RdWr w c a ∧ ∀ i v, c[i]? = some v → w.cell? ⟨b1, o1 + j * 2 + i, none⟩ = some v) := ⟨g1⟩
  have G2 : Hd (∀ j a, ls[j]? = some a → ∃ c, c.length = 2 ∧ RdWr w c a ∧ ∀ i v, c[i]? = some v → w.cell? ⟨b2, o2 + j * 2 + i, none⟩ = some v) := ⟨g2⟩
  have HN : Hd (ls.length = n1 ∧ wtWrS ls ≤ 1073741824) := ⟨hl1, hw⟩
  clear g1 g2 hl1 hl2 hw hw7 hz
  go_enter Tryz.func42, Tryz.ntmps42
  go_wp2_with fail
  go_loopw [5] (fun i wr => ∃ k : Nat, k ≤ n1 ∧ i = .int .i64 k ∧ Hd (Below w.heap.size w wr)) (fun i _ => n1 - (intOf i).toNat)
  case atStart => exact ⟨0, Nat.zero_le _, rfl, ⟨Below.refl _ _⟩⟩
  case round =>
    obtain ⟨k, hk, rfl, HB⟩ := hrel
    by_cases hlt : k < n1
    · have hlt' : (k : Int) < (n1 : Int) := by omega
      have h0 : (0 : Int) ≤ (k : Int) := by omega
      obtain ⟨a, ha⟩ := get_some (l := ls) (j := k) (by rw [HN.out.1]; exact hlt)
      obtain ⟨c, hcn, hR, hcell⟩ := G1.out k a ha
      obtain ⟨c', hcn', hR', hcell'⟩ := G2.out k a ha
      have HW : Hd (wtWr a ≤ 1073741824) := ⟨by have h7 := wtS_le wtWr ha; have h8 : wtS wtWr ls ≤ 1073741824 := HN.out.2; omega⟩
      replace hR := rdWr_ok.below hR HB.out
      replace hR' := rdWr_ok.below hR' HB.out
      obtain ⟨l0, l1⟩ := a
      have hR0 := hR
      simp only [RdWr] at hR0
      obtain ⟨x1, m1, d1, rfl, _⟩ := hR0
      have t0 := cell_below (hcell 0 _ rfl) HB.out
      have t1 := cell_below (hcell 1 _ rfl) HB.out
      simp only [Nat.add_zero] at t0
      have hR0 := hR'
      simp only [RdWr] at hR0
      obtain ⟨y1, n1, e1, rfl, _⟩ := hR0
      have u0 := cell_below (hcell' 0 _ rfl) HB.out
      have u1 := cell_below (hcell' 1 _ rfl) HB.out
      simp only [Nat.add_zero] at u0
      have Q : Hd (RdWr wr [.int .i64 l0, .slice x1 m1 d1] (⟨l0, l1⟩ : WrD) ∧ RdWr wr [.int .i64 l0, .slice y1 n1 e1] (⟨l0, l1⟩ : WrD) ∧ wtWr (⟨l0, l1⟩ : WrD) ≤ 1073741824) := ⟨hR, hR', HW.out⟩
      clear hR hR' hcell hcell' hcn hcn' ha HW
      go_wp2_with fail
      have KK : Hd (∀ w', Below wr.heap.size wr w' → (w'.cell? ⟨b1, o1 + k * 2, none⟩ = some (.int .i64 l0) ∧ w'.cell? ⟨b1, o1 + k * 2 + 1, none⟩ = some (.slice x1 m1 d1) ∧ w'.cell? ⟨b2, o2 + k * 2, none⟩ = some (.int .i64 l0) ∧ w'.cell? ⟨b2, o2 + k * 2 + 1, none⟩ = some (.slice y1 n1 e1))) := ⟨fun w' hb => ⟨cell_below t0 hb, cell_below t1 hb, cell_below u0 hb, cell_below u1 hb⟩⟩
      have D0 : Hd (Below wr.heap.size wr wr.drew) := ⟨(Below.refl _ wr).drew⟩
      go_region_held (fun w' => w'.cell? ⟨b1, o1 + k * 2, none⟩ = some (.int .i64 l0) ∧ w'.cell? ⟨b1, o1 + k * 2 + 1, none⟩ = some (.slice x1 m1 d1) ∧ w'.cell? ⟨b2, o2 + k * 2, none⟩ = some (.int .i64 l0) ∧ w'.cell? ⟨b2, o2 + k * 2 + 1, none⟩ = some (.slice y1 n1 e1)) (first | (with_reducible exact KK.out _ D1.out) | (with_reducible exact KK.out _ D0.out))
        (first | (go_at_call 67; refine (eqWr_rd [.int .i64 l0, .slice x1 m1 d1] [.int .i64 l0, .slice y1 n1 e1] (⟨l0, l1⟩ : WrD) _ (rdWr_ok.below Q.out.1 D0.out) (rdWr_ok.below Q.out.2.1 D0.out) Q.out.2.2).mono ?_; rintro e wv ⟨rfl, hB⟩; have D1 : Hd (Below wr.heap.size wr wv) := ⟨Below.next D0.out hB⟩; clear hB))
      have HZ : Hd (Below w.heap.size w wv) := ⟨Below.next HB.out D1.out⟩
      clear KK D0 D1 Q HB t0 u0 t1 u1
      go_wp2_with fail
      go_roundw
      case rel => exact ⟨k + 1, by omega, by go_num, HZ⟩
      case measure => simp [intOf]; omega
    · go_wp2
      go_ret
      exact ⟨rfl, HB.out⟩

theorem infoWrS : (Tryz.prog.info? 62).map (fun i => (i.zero, i.size, i.bytes)) = some (some (.agg #[.int .i64 0, .slice none 0 0]), 2, 32) := by kernel_rfl
theorem owWr_zero (w : World) : OwWr w [.int .i64 0, .slice none 0 0] (fun _ => False) (⟨0, []⟩ : WrD) := ⟨none, 0, 0, (fun _ => False), rfl, owB_nil w, fun x => by simp⟩

set_option maxHeartbeats 4000000 in
theorem toWrS_rd (ao : Option Addr) (len cap : Nat) (ls : List WrD) (w : World) (h : RdWrS w [.slice ao len cap] ls) (hw : wtWrS ls ≤ 1073741824) :
    Calls Tryz.prog 29 #[.slice ao len cap] w (AnsSl OwWrS ls w) := by
  replace h := rdWrS_parts h
  obtain ⟨_, hl, h⟩ := h
  have hw7 : wtS wtWr ls ≤ 1073741824 := hw
  have hlen : len ≤ 1073741824 := by have := wtS_len wtWr ls; omega
  obtain ⟨i0, hi, hz0, hz1, hz2⟩ := info_parts infoWrS
  by_cases hz : len = 0
  · subst hz
    obtain rfl : ls = [] := List.eq_nil_of_length_eq_zero hl
    clear h hl hw hw7
    go_enter Tryz.func29, Tryz.ntmps29
    go_wp2_with (at_make; refine wpList_make_full _ rfl _ _ 34 rfl w.heap.size 62 i0 (.agg #[.int .i64 0, .slice none 0 0]) 2 Tryz.underlying34 hi hz0 hz1 _ _ _ _ 0 rfl rfl rfl rfl ?b1 ?b2 ?b3 ?_)
    case b1 => rw [hz2]; omega
    case b2 => unfold maxLen; omega
    case b3 => exact Nat.le_refl _
    intro w1 hown hgrow
    have HW : Hd (OwWrS w1 [.slice (some ⟨w.heap.size, 0, none⟩) 0 0] (fun x => x = w.heap.size) [] ∧ Below w.heap.size w w1) := ⟨by
      refine ⟨⟨_, [], fun _ _ => False, rfl, ?_⟩, (Below.refl _ w).grown hgrow (Nat.le_refl _) (fun _ h => by cases h)⟩
      have hlt := (hown.lt w.heap.size rfl).2
      have h7 : w1.ownsRow 0 62 2 (.slice (some ⟨w.heap.size, 0, none⟩) 0 0) 0 (List.replicate 0 ([.int .i64 0, .slice none 0 0] : List Value)).flatten := by
        have h8 := ownsRow_base hown (Nat.zero_le _)
        exact ⟨by simp, h8.2.imp id (fun ⟨g, c, cur, e1, e2, e3, e4, e5, e6, _⟩ => ⟨g, c, cur, e1, e2, e3, e4, e5, e6, by simp⟩)⟩
      exact owP_made (z := (⟨0, []⟩ : WrD)) h7 rfl hlt (owWr_zero _)⟩
    clear hown hgrow
    go_wp2_with fail
    refine wp_loop_rounds 1 ?_
    rewrite [rounds_succ]
    go_wp2_with fail
    go_ret
    exact ⟨⟨_, _, _, rfl, _, HW.out.1, fun x hx => by rw [hx]; exact Nat.le_refl _⟩, HW.out.2⟩
  rcases h with h | ⟨b, o, rfl, g⟩
  · exact absurd (by rw [← hl, h, List.length_nil]) hz
  have G : Hd (∀ j a, ls[j]? = some a → ∃ c, c.length = 2 ∧ RdWr w c a ∧ ∀ i v, c[i]? = some v → w.cell? ⟨b, o + j * 2 + i, none⟩ = some v) := ⟨g⟩
  have HN : Hd (ls.length = len ∧ wtWrS ls ≤ 1073741824) := ⟨hl, hw⟩
  clear g hl hw hw7 hz
  go_enter Tryz.func29, Tryz.ntmps29
  go_wp2_with (at_make; refine wpList_make_full _ rfl _ _ 34 rfl w.heap.size 62 i0 (.agg #[.int .i64 0, .slice none 0 0]) 2 Tryz.underlying34 hi hz0 hz1 _ _ _ _ len rfl rfl rfl rfl ?b1 ?b2 ?b3 ?_)
  case b1 => rw [hz2]; omega
  case b2 => unfold maxLen; omega
  case b3 => exact Nat.le_refl _
  intro w1 hown hgrow
  have HW : Hd (∃ css Fs F, OwP 2 62 OwWr w1 (.slice (some ⟨w.heap.size, 0, none⟩) len len) css Fs F (fillS ls (⟨0, []⟩ : WrD) (0)) ∧ (∀ x, F x → w.heap.size ≤ x) ∧ Below w.heap.size w w1) := ⟨by
    have hlt := (hown.lt w.heap.size rfl).2
    have e7 := made_flat ([.int .i64 0, .slice none 0 0] : List Value) (n := 2) rfl (by omega) len
    try simp only [Nat.mul_one] at e7
    have h7 : w1.ownsRow 0 62 2 (.slice (some ⟨w.heap.size, 0, none⟩) len len) len (List.replicate len ([.int .i64 0, .slice none 0 0] : List Value)).flatten := by
      rw [← e7]; exact ownsRow_base hown (Nat.zero_le _)
    rw [fillS_zero, HN.out.1]
    exact ⟨_, _, _, owP_made h7 rfl hlt (owWr_zero _), fun x hx => by rw [hx]; exact Nat.le_refl _, (Below.refl _ w).grown hgrow (Nat.le_refl _) (fun _ h => by cases h)⟩⟩
  clear hown hgrow
  go_wp2_with fail
  go_loopw [4] (fun i wr => ∃ k : Nat, k ≤ len ∧ i = .int .i64 k ∧ Hd (∃ css Fs F, OwP 2 62 OwWr wr (.slice (some ⟨w.heap.size, 0, none⟩) len len) css Fs F (fillS ls (⟨0, []⟩ : WrD) (k)) ∧ (∀ x, F x → w.heap.size ≤ x) ∧ Below w.heap.size w wr)) (fun i _ => len - (intOf i).toNat)
  case atStart => exact ⟨0, Nat.zero_le _, rfl, HW⟩
  case round =>
    obtain ⟨k, hk, rfl, HK⟩ := hrel
    clear HW
    by_cases hlt : k < len
    · have hlt' : (k : Int) < (len : Int) := by omega
      have h0 : (0 : Int) ≤ (k : Int) := by omega
      obtain ⟨css, Fs, F, P, hFb, hB⟩ := HK.out
      obtain ⟨a, ha⟩ := get_some (l := ls) (j := k) (by rw [HN.out.1]; exact hlt)
      obtain ⟨c, hcn, hR, hcell⟩ := G.out k a ha
      replace hR := rdWr_ok.below hR hB
      have HW9 : Hd (wtWr a ≤ 1073741824) := ⟨by have h7 := wtS_le wtWr ha; have h8 : wtS wtWr ls ≤ 1073741824 := HN.out.2; omega⟩
      have hkl : k < ls.length := by rw [HN.out.1]; exact hlt
      have hml : (fillS ls (⟨0, []⟩ : WrD) k).length = len := by rw [fillS_len ls _ (by omega), HN.out.1]
      obtain ⟨co, hco, hcon, hEo⟩ := P.cellsAt (fillS_get ls (⟨0, []⟩ : WrD) hkl)
      have hset : (fillS ls (⟨0, []⟩ : WrD) k).set k a = fillS ls (⟨0, []⟩ : WrD) (k + 1) := fillS_set ls _ ha
      have HQ : Hd (OwP 2 62 OwWr wr (.slice (some ⟨w.heap.size, 0, none⟩) len len) css Fs F (fillS ls (⟨0, []⟩ : WrD) k) ∧ (∀ x, F x → w.heap.size ≤ x) ∧ Below w.heap.size w wr ∧ (fillS ls (⟨0, []⟩ : WrD) k).length = len ∧ (fillS ls (⟨0, []⟩ : WrD) k).set k a = fillS ls (⟨0, []⟩ : WrD) (k + 1) ∧ css[k]? = some co ∧ co.length = 2 ∧ css.length = len) := ⟨P, hFb, hB, hml, hset, hco, hcon, by rw [P.size, hml]⟩
      obtain ⟨l0, l1⟩ := a
      have hR0 := hR
      simp only [RdWr] at hR0
      obtain ⟨x1, m1, d1, rfl, _⟩ := hR0
      have t0 := cell_below (hcell 0 _ rfl) hB
      have t1 := cell_below (hcell 1 _ rfl) hB
      simp only [Nat.add_zero] at t0
      have QR : Hd (RdWr wr [.int .i64 l0, .slice x1 m1 d1] (⟨l0, l1⟩ : WrD)) := ⟨hR⟩
      clear hR hcell hcn ha P hFb hB hkl hml hco hcon hEo hset HK
      go_wp2_with fail
      refine (toWr_rd [.int .i64 l0, .slice x1 m1 d1] (⟨l0, l1⟩ : WrD) _ QR.out HW9.out).mono ?_
      rintro e w1 ⟨⟨cs1, rfl, G1, hE, hG⟩, hb⟩
      have HE0 := hE
      simp only [OwWr] at HE0
      obtain ⟨y1, n1, e1, _, rfl, _, _⟩ := HE0
      have hql := HQ.out.2.2.2.2.2.2.1
      have O0 : Hd (w1.ownsRow 0 62 2 (.slice (some ⟨w.heap.size, 0, none⟩) len len) len (css.set k co).flatten) := ⟨by rw [set_self HQ.out.2.2.2.2.2.1]; have h7 := HQ.out.1.own; rw [HQ.out.2.2.2.1] at h7; exact ownsRow_keep h7 (fun b hb2 => hb.block b (h7.lt b hb2).2)⟩
      rcases co with _ | ⟨v0, co⟩
      · simp at hql
      rcases co with _ | ⟨v1, co⟩
      · simp at hql
      rcases co with _ | ⟨v9, co⟩
      rotate_left
      · simp at hql
      clear hql
      have t0 := ownsRow_cell O0.out rfl (by rw [HQ.out.2.2.2.2.2.2.2]; exact hlt) HQ.out.2.2.2.2.2.2.2 HQ.out.1.lens rfl (i := 0) rfl
      have f0 := ownsRow_free O0.out rfl (k * 2)
      have t1 := ownsRow_cell O0.out rfl (by rw [HQ.out.2.2.2.2.2.2.2]; exact hlt) HQ.out.2.2.2.2.2.2.2 HQ.out.1.lens rfl (i := 1) rfl
      have f1 := ownsRow_free O0.out rfl (k * 2 + 1)
      simp only [Nat.add_zero] at t0
      have O1 : Hd ((w1.setCell ⟨w.heap.size, k * 2, none⟩ (.int .i64 l0)).ownsRow 0 62 2 (.slice (some ⟨w.heap.size, 0, none⟩) len len) len (css.set k [.int .i64 l0, v1]).flatten) := ⟨by have h7 := ownsRow_put (u := (.int .i64 l0 : Value)) O0.out rfl (by rw [HQ.out.2.2.2.2.2.2.2]; exact hlt) HQ.out.1.lens rfl (i := 0) (by omega) rfl; simp only [Nat.add_zero] at h7; exact h7⟩
      have O2 : Hd (((w1.setCell ⟨w.heap.size, k * 2, none⟩ (.int .i64 l0)).setCell ⟨w.heap.size, k * 2 + 1, none⟩ (.slice y1 n1 e1)).ownsRow 0 62 2 (.slice (some ⟨w.heap.size, 0, none⟩) len len) len (css.set k [.int .i64 l0, .slice y1 n1 e1]).flatten) := ⟨by have h7 := ownsRow_put (u := (.slice y1 n1 e1 : Value)) O1.out rfl (by rw [HQ.out.2.2.2.2.2.2.2]; exact hlt) HQ.out.1.lens rfl (i := 1) (by omega) rfl; exact h7⟩
      have HX : Hd (∃ css Fs F, OwP 2 62 OwWr ((w1.setCell ⟨w.heap.size, k * 2, none⟩ (.int .i64 l0)).setCell ⟨w.heap.size, k * 2 + 1, none⟩ (.slice y1 n1 e1)) (.slice (some ⟨w.heap.size, 0, none⟩) len len) css Fs F (fillS ls (⟨0, []⟩ : WrD) (k + 1)) ∧ (∀ x, F x → w.heap.size ≤ x) ∧ Below w.heap.size w ((w1.setCell ⟨w.heap.size, k * 2, none⟩ (.int .i64 l0)).setCell ⟨w.heap.size, k * 2 + 1, none⟩ (.slice y1 n1 e1))) := ⟨by
        have hgk : w.heap.size < wr.heap.size := (HQ.out.1.own.lt w.heap.size rfl).2
        have hE2 : OwWr ((w1.setCell ⟨w.heap.size, k * 2, none⟩ (.int .i64 l0)).setCell ⟨w.heap.size, k * 2 + 1, none⟩ (.slice y1 n1 e1)) [.int .i64 l0, .slice y1 n1 e1] G1 (⟨l0, l1⟩ : WrD) := owWr_ok.keep hE (fun b hb2 => block_set (block_set (rfl) (by have := hG b hb2; omega)) (by have := hG b hb2; omega))
        have hP := HQ.out.1.put owWr_ok (by rw [HQ.out.2.2.2.1]; exact hlt) (by rw [HQ.out.2.2.2.1]; exact O2.out) rfl hE2 (fun x hx => .inr (hG x hx)) (fun x hx h1 h2 => (block_set (block_set (rfl) (fun e => h1 (by rw [e]; rfl))) (fun e => h1 (by rw [e]; rfl))).trans (hb.block x (HQ.out.1.lt x hx))) (by simp only [World.size_setCell]; exact hb.size)
        rw [HQ.out.2.2.2.2.1] at hP
        exact ⟨_, _, _, hP, fun x hx => hx.elim (HQ.out.2.1 x) (fun h => by have := hG x h; omega), bset (bset (Below.trans HQ.out.2.2.1 (hb.mono HQ.out.2.2.1.size)) _ (Nat.le_refl _)) _ (Nat.le_refl _)⟩⟩
      clear HQ QR HW9 hE hG hb O0 O1 O2
      go_wp2_with fail
      go_roundw
      case rel => exact ⟨k + 1, by omega, by go_num, HX⟩
      case measure => simp [intOf]; omega
    · have e : k = ls.length := by have := HN.out.1; omega
      have HF : Hd (AnsSl OwWrS ls w (.returned (.slice (some ⟨w.heap.size, 0, none⟩) len len)) wr) := ⟨by
        obtain ⟨css, Fs, F, P, hFb, hB⟩ := HK.out
        rw [e, fillS_all] at P
        exact ⟨⟨_, _, _, rfl, F, ⟨_, css, Fs, rfl, P⟩, hFb⟩, hB⟩⟩
      clear e HK
      go_wp2
      go_ret
      exact HF.out

end Go.Proofs.YtlididoalekeoaaGreatDoor
/- What the laws do with a Dev. -/
namespace Go.Proofs.YtlididoalekeoaaGreatDoor
set_option maxRecDepth 4000
open Go.RowKit

def RdDev : Rd DevD := fun w cs a => ∃ (x0 : Option Addr) (m0 d0 : Nat) (x1 : Option Addr) (m1 d1 : Nat), cs = [.slice x0 m0 d0, .slice x1 m1 d1, .int .i64 a.fuse, .bool a.down] ∧ RdByteSS w [.slice x0 m0 d0] a.secs ∧ RdWrS w [.slice x1 m1 d1] a.cache
def OwDev : Ow DevD := fun w cs F a => ∃ (x0 : Option Addr) (m0 d0 : Nat) (x1 : Option Addr) (m1 d1 : Nat) (F0 : Fp) (F1 : Fp), cs = [.slice x0 m0 d0, .slice x1 m1 d1, .int .i64 a.fuse, .bool a.down] ∧ OwByteSS w [.slice x0 m0 d0] F0 a.secs ∧ OwWrS w [.slice x1 m1 d1] F1 a.cache ∧ (∀ x, F0 x → ¬ F1 x) ∧ (∀ x, F x ↔ F0 x ∨ F1 x)
theorem rdDev_ok : RdOk 4 RdDev := ⟨fun ⟨_, _, _, _, _, _, e, _⟩ => by rw [e]; rfl, fun ⟨x0, m0, d0, x1, m1, d1, e, r0, r1⟩ hs => ⟨x0, m0, d0, x1, m1, d1, e, rdByteSS_ok.keep r0 hs, rdWrS_ok.keep r1 hs⟩⟩
theorem owDev_ok : OwOk 4 OwDev RdDev where
  len := fun ⟨_, _, _, _, _, _, _, _, e, _⟩ => by rw [e]; rfl
  lt := fun {w _ F _} ⟨x0, m0, d0, x1, m1, d1, F0, F1, e, r0, r1, e0, hF⟩ x hx => by
    rcases (hF x).1 hx with hx | hx
    · exact owByteSS_ok.lt r0 x hx
    · exact owWrS_ok.lt r1 x hx
  keep := fun ⟨x0, m0, d0, x1, m1, d1, F0, F1, e, r0, r1, e0, hF⟩ hs => ⟨x0, m0, d0, x1, m1, d1, F0, F1, e, owByteSS_ok.keep r0 (fun b hb => hs b ((hF b).2 (.inl hb))), owWrS_ok.keep r1 (fun b hb => hs b ((hF b).2 (.inr (hb)))), e0, hF⟩
  rd := fun ⟨x0, m0, d0, x1, m1, d1, F0, F1, e, r0, r1, _, _⟩ => ⟨x0, m0, d0, x1, m1, d1, e, owByteSS_ok.rd r0, owWrS_ok.rd r1⟩
def wtDev (a : DevD) : Nat := wtByteSS a.secs + wtWrS a.cache
def ctDev (a : DevD) : Nat := ctByteSS a.secs + ctWrS a.cache + 1 + 1
def mkDev (m : Nat) (a : DevD) : DevD := (⟨mkByteSS (m) a.secs, mkWrS (m + ctByteSS a.secs) a.cache, ((m + ctByteSS a.secs + ctWrS a.cache : Nat) : Int), decide ((m + ctByteSS a.secs + ctWrS a.cache + 1) % 3 = 0)⟩ : DevD)
def cuDev (a : DevD) : Nat := ctByteSS a.secs + ctWrS a.cache
def mtDev (m : Nat) (a : DevD) : DevD := (⟨mkByteSS (m) a.secs, mkWrS (m + ctByteSS a.secs) a.cache, a.fuse, a.down⟩ : DevD)

set_option maxHeartbeats 4000000 in
theorem szDev_rd (cs : List Value) (a : DevD) (n : Int) (w : World) (h : RdDev w cs a) (hn : 0 ≤ n ∧ n ≤ 1048576) :
    Calls Tryz.prog 9 #[.agg cs.toArray, .int .i64 n] w (SzOut n (wtDev a) w) := by
  obtain ⟨l0, l1, l2, l3⟩ := a
  simp only [RdDev] at h
  obtain ⟨x0, m0, d0, x1, m1, d1, rfl, r0, r1⟩ := h
  unfold wtDev
  dsimp only
  have R0 : Hd (RdByteSS w [.slice x0 m0 d0] l0) := ⟨r0⟩
  have R1 : Hd (RdWrS w [.slice x1 m1 d1] l1) := ⟨r1⟩
  have N0 : Hd (0 ≤ n ∧ n ≤ 1048576) := ⟨hn⟩
  clear hn r0 r1
  go_enter Tryz.func9, Tryz.ntmps9
  go_wp2_with fail
  refine (szByteSS_rd x0 m0 d0 l0 n _ (rdByteSS_ok.below R0.out (below_lit w _)) N0.out).mono ?_
  rintro e w1 ⟨⟨s1, rfl, hs1, hs2, hs3⟩, hb⟩
  have K1 : Hd (w1.heap[w.heap.size]? = some (.cells #[.slice x0 m0 d0, .slice x1 m1 d1, .int .i64 l2, .bool l3] 25 (0, 0))) := ⟨(hb.block _ (by simp)).trans (heap_alloc_new w _)⟩
  have B1 : Hd (Below w.heap.size w w1) := ⟨Below.next (below_lit w _) hb⟩
  have N1 : Hd (-1 ≤ s1 ∧ s1 ≤ n ∧ n ≤ 1048576 ∧ (0 ≤ s1 → ((wtByteSS l0 : Nat) : Int) + s1 ≤ n)) := ⟨by have := N0.out; refine ⟨hs1, by omega, by omega, fun hh => ?_⟩; have := hs3 hh; omega⟩
  clear hs1 hs2 hs3 hb
  by_cases hz : s1 < 0
  · go_wp2_with fail
    go_ret
    exact ⟨⟨-1, rfl, by omega, by have := N0.out; omega, fun h => by omega⟩, B1.out⟩
  have c1 := cellsA K1.out 1 rfl
  go_wp2_with fail
  refine (szWrS_rd x1 m1 d1 l1 s1 _ (rdWrS_ok.below R1.out B1.out) ⟨by omega, by have := N1.out; omega⟩).mono ?_
  rintro e w2 ⟨⟨s2, rfl, hs1, hs2, hs3⟩, hb⟩
  have K2 : Hd (w2.heap[w.heap.size]? = some (.cells #[.slice x0 m0 d0, .slice x1 m1 d1, .int .i64 l2, .bool l3] 25 (0, 0))) := ⟨(hb.block _ (lt_of_block K1.out)).trans K1.out⟩
  have B2 : Hd (Below w.heap.size w w2) := ⟨Below.next B1.out hb⟩
  have N2 : Hd (-1 ≤ s2 ∧ s2 ≤ n ∧ n ≤ 1048576 ∧ (0 ≤ s2 → ((wtByteSS l0 + wtWrS l1 : Nat) : Int) + s2 ≤ n)) := ⟨by have := N1.out; refine ⟨hs1, by omega, by omega, fun hh => ?_⟩; have := hs3 hh; have h7 := N1.out.2.2.2 (by omega); omega⟩
  clear hs1 hs2 hs3 hb c1
  by_cases hz : s2 < 0
  · go_wp2_with fail
    go_ret
    exact ⟨⟨-1, rfl, by omega, by have := N0.out; omega, fun h => by omega⟩, B2.out⟩
  go_wp2_with fail
  go_ret
  exact ⟨⟨s2, rfl, N2.out.1, N2.out.2.1, N2.out.2.2.2⟩, B2.out⟩

set_option maxHeartbeats 4000000 in
theorem eqDev_rd (c1 c2 : List Value) (a : DevD) (w : World) (h1 : RdDev w c1 a) (h2 : RdDev w c2 a) (hw : wtDev a ≤ 1073741824) :
    Calls Tryz.prog 20 #[.agg c1.toArray, .agg c2.toArray] w fun e w' => e = .returned (.bool true) ∧ Below w.heap.size w w' := by
  obtain ⟨l0, l1, l2, l3⟩ := a
  simp only [RdDev] at h1 h2
  obtain ⟨x0, m0, d0, x1, m1, d1, rfl, r0, r1⟩ := h1
  obtain ⟨y0, n0, b0, y1, n1, b1, rfl, t0, t1⟩ := h2
  unfold wtDev at hw
  dsimp only at hw
  have R0 : Hd (RdByteSS w [.slice x0 m0 d0] l0 ∧ RdByteSS w [.slice y0 n0 b0] l0 ∧ wtByteSS l0 ≤ 1073741824) := ⟨r0, t0, by omega⟩
  have R1 : Hd (RdWrS w [.slice x1 m1 d1] l1 ∧ RdWrS w [.slice y1 n1 b1] l1 ∧ wtWrS l1 ≤ 1073741824) := ⟨r1, t1, by omega⟩
  have f2 : (l2 != l2) = false := by simp
  have f3 : (l3 != l3) = false := by simp
  clear hw r0 t0 r1 t1
  go_enter Tryz.func20, Tryz.ntmps20
  go_wp2_with fail
  generalize hA : Obj.cells #[Value.slice x0 m0 d0, .slice x1 m1 d1, .int .i64 l2, .bool l3] 36 = A
  generalize hB : Obj.cells #[Value.slice y0 n0 b0, .slice y1 n1 b1, .int .i64 l2, .bool l3] 36 = B
  have h0 : Below w.heap.size w ((w.alloc A).alloc B) := below_lit2 w A B
  refine (eqByteSS_rd x0 m0 d0 y0 n0 b0 l0 _ (rdByteSS_ok.below R0.out.1 h0) (rdByteSS_ok.below R0.out.2.1 h0) R0.out.2.2).mono ?_
  rintro e w1 ⟨rfl, hb⟩
  obtain ⟨k1, k2⟩ := laid2 w A B
  subst hA hB
  have K1 : Hd (w1.heap[w.heap.size]? = some (.cells #[Value.slice x0 m0 d0, .slice x1 m1 d1, .int .i64 l2, .bool l3] 36 (0, 0))) := ⟨(hb.block _ (by simp; omega)).trans k1⟩
  have G1 : Hd (w1.heap[w.heap.size + 1]? = some (.cells #[Value.slice y0 n0 b0, .slice y1 n1 b1, .int .i64 l2, .bool l3] 36 (0, 0))) := ⟨(hb.block _ (by simp)).trans k2⟩
  have B1 : Hd (Below w.heap.size w w1) := ⟨Below.next h0 hb⟩
  clear hb h0 k1 k2
  have u1 := cellsA K1.out 1 rfl
  have v1 := cellsA G1.out 1 rfl
  go_wp2_with fail
  refine (eqWrS_rd x1 m1 d1 y1 n1 b1 l1 _ (rdWrS_ok.below R1.out.1 B1.out) (rdWrS_ok.below R1.out.2.1 B1.out) R1.out.2.2).mono ?_
  rintro e w2 ⟨rfl, hb⟩
  have K2 : Hd (w2.heap[w.heap.size]? = some (.cells #[Value.slice x0 m0 d0, .slice x1 m1 d1, .int .i64 l2, .bool l3] 36 (0, 0))) := ⟨(hb.block _ (lt_of_block K1.out)).trans K1.out⟩
  have G2 : Hd (w2.heap[w.heap.size + 1]? = some (.cells #[Value.slice y0 n0 b0, .slice y1 n1 b1, .int .i64 l2, .bool l3] 36 (0, 0))) := ⟨(hb.block _ (lt_of_block G1.out)).trans G1.out⟩
  have B2 : Hd (Below w.heap.size w w2) := ⟨Below.next B1.out hb⟩
  clear hb u1 v1
  have u2 := cellsA K2.out 2 rfl
  have v2 := cellsA G2.out 2 rfl
  have u3 := cellsA K2.out 3 rfl
  have v3 := cellsA G2.out 3 rfl
  go_wp2_with fail
  go_ret
  exact ⟨rfl, B2.out⟩

set_option maxHeartbeats 4000000 in
theorem toDev_rd (cs : List Value) (a : DevD) (w : World) (h : RdDev w cs a) (hw : wtDev a ≤ 1073741824) :
    Calls Tryz.prog 14 #[.agg cs.toArray] w (AnsAgg OwDev a w) := by
  obtain ⟨l0, l1, l2, l3⟩ := a
  simp only [RdDev] at h
  obtain ⟨x0, m0, d0, x1, m1, d1, rfl, r0, r1⟩ := h
  unfold wtDev at hw
  dsimp only at hw
  have R0 : Hd (RdByteSS w [.slice x0 m0 d0] l0 ∧ wtByteSS l0 ≤ 1073741824) := ⟨r0, by omega⟩
  have R1 : Hd (RdWrS w [.slice x1 m1 d1] l1 ∧ wtWrS l1 ≤ 1073741824) := ⟨r1, by omega⟩
  clear hw r0 r1
  go_enter Tryz.func14, Tryz.ntmps14
  go_wp2_with fail
  generalize hA : Obj.cells #[Value.slice x0 m0 d0, .slice x1 m1 d1, .int .i64 l2, .bool l3] 25 = A
  generalize hB : Obj.cells #[Value.slice none 0 0, .slice none 0 0, .int .i64 0, .bool false] 36 = B
  have h3 : Below w.heap.size w (((w.alloc A).alloc B).alloc B) := below_lit3 w A B B
  refine (toByteSS_rd x0 m0 d0 l0 _ (rdByteSS_ok.below R0.out.1 h3) R0.out.2).mono ?_
  rintro e w1 ⟨⟨y0, n0, b0, rfl, F0, hE, hF⟩, hb⟩
  obtain ⟨k0, k1, k2⟩ := laid3 w A B B
  subst hA hB
  have A1 : Hd (w1.heap[w.heap.size]? = some (.cells #[Value.slice x0 m0 d0, .slice x1 m1 d1, .int .i64 l2, .bool l3] 25 (0, 0))) := ⟨(hb.block _ (by simp; omega)).trans k0⟩
  have Z1 : Hd (w1.heap[w.heap.size + 1]? = some (.cells #[Value.slice none 0 0, .slice none 0 0, .int .i64 0, .bool false] 36 (0, 0))) := ⟨(hb.block _ (by simp)).trans k1⟩
  have C1 : Hd (w1.heap[w.heap.size + 1 + 1]? = some (.cells #[Value.slice none 0 0, .slice none 0 0, .int .i64 0, .bool false] 36 (0, 0))) := ⟨(hb.block _ (by simp)).trans k2⟩
  simp only [World.size_alloc] at hF
  have B1 : Hd (Below w.heap.size w w1) := ⟨Below.next h3 hb⟩
  have O0_1 : Hd (OwByteSS w1 [.slice y0 n0 b0] F0 l0 ∧ ∀ x, F0 x → w.heap.size + 3 ≤ x ∧ x < w1.heap.size) := ⟨hE, fun x hx => ⟨by have := hF x hx; omega, owByteSS_ok.lt hE x hx⟩⟩
  clear hE hF hb h3 k0 k1 k2
  have c1 := cellsA A1.out 1 rfl
  have z0 := cellsA C1.out 0 rfl
  have g0 := freeA C1.out 0
  go_wp2_with fail
  have A2 : Hd ((w1.setCell ⟨w.heap.size + 1 + 1, 0, none⟩ (.slice y0 n0 b0)).heap[w.heap.size]? = some (.cells #[Value.slice x0 m0 d0, .slice x1 m1 d1, .int .i64 l2, .bool l3] 25 (0, 0))) := ⟨block_set (A1.out) (by omega)⟩
  have Z2 : Hd ((w1.setCell ⟨w.heap.size + 1 + 1, 0, none⟩ (.slice y0 n0 b0)).heap[w.heap.size + 1]? = some (.cells #[Value.slice none 0 0, .slice none 0 0, .int .i64 0, .bool false] 36 (0, 0))) := ⟨block_set (Z1.out) (by omega)⟩
  have C2 : Hd ((w1.setCell ⟨w.heap.size + 1 + 1, 0, none⟩ (.slice y0 n0 b0)).heap[w.heap.size + 1 + 1]? = some (.cells #[Value.slice y0 n0 b0, .slice none 0 0, .int .i64 0, .bool false] 36 (0, 0))) := ⟨setA (C1.out) 0 _ rfl⟩
  have B2 : Hd (Below w.heap.size w (w1.setCell ⟨w.heap.size + 1 + 1, 0, none⟩ (.slice y0 n0 b0))) := ⟨bset (B1.out) _ (by omega)⟩
  have O0_2 : Hd (OwByteSS (w1.setCell ⟨w.heap.size + 1 + 1, 0, none⟩ (.slice y0 n0 b0)) [.slice y0 n0 b0] F0 l0 ∧ ∀ x, F0 x → w.heap.size + 3 ≤ x ∧ x < (w1.setCell ⟨w.heap.size + 1 + 1, 0, none⟩ (.slice y0 n0 b0)).heap.size) := ⟨owByteSS_ok.keep O0_1.out.1 (fun b hb => block_set (rfl) (by have := (O0_1.out.2 b hb).1; omega)), fun x hx => ⟨(O0_1.out.2 x hx).1, by simp only [World.size_setCell]; exact (O0_1.out.2 x hx).2⟩⟩
  clear A1 Z1 C1 B1 O0_1 z0 g0 c1
  generalize w1.setCell ⟨w.heap.size + 1 + 1, 0, none⟩ (.slice y0 n0 b0) = w2 at *
  refine (toWrS_rd x1 m1 d1 l1 _ (rdWrS_ok.below R1.out.1 B2.out) R1.out.2).mono ?_
  rintro e w3 ⟨⟨y1, n1, b1, rfl, F1, hE, hF⟩, hb⟩
  have A3 : Hd (w3.heap[w.heap.size]? = some (.cells #[Value.slice x0 m0 d0, .slice x1 m1 d1, .int .i64 l2, .bool l3] 25 (0, 0))) := ⟨(hb.block _ (lt_of_block A2.out)).trans A2.out⟩
  have Z3 : Hd (w3.heap[w.heap.size + 1]? = some (.cells #[Value.slice none 0 0, .slice none 0 0, .int .i64 0, .bool false] 36 (0, 0))) := ⟨(hb.block _ (lt_of_block Z2.out)).trans Z2.out⟩
  have C3 : Hd (w3.heap[w.heap.size + 1 + 1]? = some (.cells #[Value.slice y0 n0 b0, .slice none 0 0, .int .i64 0, .bool false] 36 (0, 0))) := ⟨(hb.block _ (lt_of_block C2.out)).trans C2.out⟩
  have B3 : Hd (Below w.heap.size w w3) := ⟨Below.next B2.out hb⟩
  have O0_3 : Hd (OwByteSS w3 [.slice y0 n0 b0] F0 l0 ∧ ∀ x, F0 x → w.heap.size + 3 ≤ x ∧ x < w3.heap.size) := ⟨owByteSS_ok.below O0_2.out.1 hb, fun x hx => ⟨(O0_2.out.2 x hx).1, by have := (O0_2.out.2 x hx).2; have := hb.size; omega⟩⟩
  have O1_3 : Hd (OwWrS w3 [.slice y1 n1 b1] F1 l1 ∧ ∀ x, F1 x → w.heap.size + 3 ≤ x ∧ x < w3.heap.size) := ⟨hE, fun x hx => ⟨by have := hF x hx; have := lt_of_block C2.out; omega, owWrS_ok.lt hE x hx⟩⟩
  have X0_1 : Hd (∀ x, F0 x → ¬ F1 x) := ⟨fun x hx hy => by have := (O0_2.out.2 x hx).2; have := hF x hy; omega⟩
  clear hE hF hb A2 Z2 C2 B2 O0_2
  have c2 := cellsA A3.out 2 rfl
  have c3 := cellsA A3.out 3 rfl
  have z1 := cellsA C3.out 1 rfl
  have g1 := freeA C3.out 1
  have z2 := cellsA C3.out 2 rfl
  have g2 := freeA C3.out 2
  have z3 := cellsA C3.out 3 rfl
  have g3 := freeA C3.out 3
  have z0 := cellsA C3.out 0 rfl
  have p0 := cellsA Z3.out 0 rfl
  have s0 := freeA Z3.out 0
  have p1 := cellsA Z3.out 1 rfl
  have s1 := freeA Z3.out 1
  have p2 := cellsA Z3.out 2 rfl
  have s2 := freeA Z3.out 2
  have p3 := cellsA Z3.out 3 rfl
  have s3 := freeA Z3.out 3
  go_wp2_with fail
  refine bodyPost_ret (results_cell_row rfl _ _ (w.heap.size + 1) _ _ (0, 0) _ rfl (setA (setA (setA (setA (block_set (block_set (block_set (Z3.out) (by omega)) (by omega)) (by omega)) 0 _ rfl) 1 _ rfl) 2 _ rfl) 3 _ rfl) Tryz.underlying36 rfl (by kernel_rfl)) rfl ?_
  refine ⟨⟨[.slice y0 n0 b0, .slice y1 n1 b1, .int .i64 l2, .bool l3], rfl, fun x => F0 x ∨ F1 x, ⟨y0, n0, b0, y1, n1, b1, F0, F1, rfl, owByteSS_ok.keep O0_3.out.1 (fun b hb => block_set (block_set (block_set (block_set (block_set (block_set (block_set (rfl) (by have := (O0_3.out.2 b hb).1; omega)) (by have := (O0_3.out.2 b hb).1; omega)) (by have := (O0_3.out.2 b hb).1; omega)) (by have := (O0_3.out.2 b hb).1; omega)) (by have := (O0_3.out.2 b hb).1; omega)) (by have := (O0_3.out.2 b hb).1; omega)) (by have := (O0_3.out.2 b hb).1; omega)), owWrS_ok.keep O1_3.out.1 (fun b hb => block_set (block_set (block_set (block_set (block_set (block_set (block_set (rfl) (by have := (O1_3.out.2 b hb).1; omega)) (by have := (O1_3.out.2 b hb).1; omega)) (by have := (O1_3.out.2 b hb).1; omega)) (by have := (O1_3.out.2 b hb).1; omega)) (by have := (O1_3.out.2 b hb).1; omega)) (by have := (O1_3.out.2 b hb).1; omega)) (by have := (O1_3.out.2 b hb).1; omega)), X0_1.out, fun x => Iff.rfl⟩, fun x hx => ?_⟩, bset (bset (bset (bset (bset (bset (bset (B3.out) _ (by omega)) _ (by omega)) _ (by omega)) _ (by omega)) _ (by omega)) _ (by omega)) _ (by omega)⟩
  rcases hx with hx | hx
  · have := (O0_3.out.2 x hx).1; omega
  · have := (O1_3.out.2 x hx).1; omega

end Go.Proofs.YtlididoalekeoaaGreatDoor
/- A Dev in the words of deep2's structs: what is copied reads as all else. -/
namespace Go.Proofs.YtlididoalekeoaaGreatDoor
set_option maxRecDepth 4000
open Go.RowKit

abbrev RcDev : Rd DevD := RdDev
theorem rcDev_ok : RdOk 4 RcDev := rdDev_ok
theorem rcDev_w {w : World} {cs : List Value} {a : DevD} (h : RcDev w cs a) : RdDev w cs a := h
theorem infoDev : (Tryz.prog.info? 36).map (·.size) = some 4 := by kernel_rfl

end Go.Proofs.YtlididoalekeoaaGreatDoor
/- A store: the plain values, and whether it is right. -/
namespace Go.Proofs.YtlididoalekeoaaGreatDoor
set_option maxRecDepth 4000
open Go.RowKit

structure StoreD where
  d : DevD
  t : TabD
  gen : Int
  place : Int

end Go.Proofs.YtlididoalekeoaaGreatDoor
