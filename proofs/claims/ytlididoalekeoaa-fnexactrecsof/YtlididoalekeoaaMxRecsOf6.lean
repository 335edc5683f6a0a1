/- Parts of the proof, one behind the other. -/
import Derived.Test.YtlididoalekeoaaMxRecsOf5
import Derived.Deep.RegionHeld3
import Derived.Test.YtlididoalekeoaaMxRecsOf4
/- What the laws do with a list of Row. -/
namespace Go.Proofs.Ytlididoalekeoaa
set_option maxRecDepth 4000
open Go.RowKit

theorem owRow_zero (w : World) : OwRow w [.string ⟨#[]⟩, .int .i64 0, .slice none 0 0, .int .i64 0, .slice none 0 0, .int .i64 0, .bool false] (fun _ => False) (⟨⟨#[]⟩, 0, [], 0, [], 0, false⟩ : RowD) := ⟨none, 0, 0, none, 0, 0, (fun _ => False), (fun _ => False), rfl, Nat.zero_le _, ⟨none, 0, 0, (fun _ => False), rfl, owC_zero _, fun x => by simp⟩, ⟨none, 0, 0, (fun _ => False), rfl, owC_zero _, fun x => by simp⟩, fun _ h => False.elim h, fun x => by simp⟩
abbrev RdRowS : Rd (List RowD) := RdS 7 RdRow
abbrev RcRowS : Rd (List RowD) := RdS 7 RcRow
abbrev OwRowS : Ow (List RowD) := OwS 7 84 OwRow
theorem rdRowS_ok : RdOk 1 RdRowS := rdS_ok rdRow_ok
theorem rcRowS_ok : RdOk 1 RcRowS := rdS_ok rcRow_ok
theorem owRowS_ok : OwOk 1 OwRowS RcRowS := owS_ok owRow_ok
theorem rcRowS_w {w : World} {cs : List Value} {a : List RowD} (h : RcRowS w cs a) : RdRowS w cs a := rdS_mono (fun h => rcRow_w h) h
abbrev wtRowS : List RowD → Nat := wtS wtRow

theorem rdRowS_parts {w : World} {ao : Option Addr} {len cap : Nat} {ls : List RowD} (h : RdRowS w [.slice ao len cap] ls) : len ≤ maxLen ∧ ls.length = len ∧ (ls = [] ∨ ∃ b off, ao = some ⟨b, off, none⟩ ∧ ∀ j a, ls[j]? = some a → ∃ c, c.length = 7 ∧ RdRow w c a ∧ ∀ i v, c[i]? = some v → w.cell? ⟨b, off + j * 7 + i, none⟩ = some v) := by
  obtain ⟨_, _, _, e, hm, hl, h⟩ := h
  simp only [List.cons.injEq, Value.slice.injEq, and_true] at e
  obtain ⟨rfl, rfl, rfl⟩ := e
  exact ⟨hm, hl, h⟩

set_option maxHeartbeats 4000000 in
theorem szRowS_rd (ao : Option Addr) (len cap : Nat) (ls : List RowD) (n : Int) (w : World) (h : RdRowS w [.slice ao len cap] ls) (hn : 0 ≤ n ∧ n ≤ 1048576) :
    Calls Try.prog 64 #[.slice ao len cap, .int .i64 n] w (SzOut n (wtRowS ls) w) := by
  replace h := rdRowS_parts h
  obtain ⟨hm, hl, h⟩ := h
  have hw : wrap64 (n - (len : Int)) = n - (len : Int) := by unfold maxLen at *; exact wrap64_in (by omega) (by omega)
  have hw0 := wtS_len wtRow ls
  by_cases hc : n < (len : Int)
  · have h2 : n - (len : Int) < 0 := by omega
    have HE : Hd (n < ((wtRowS ls : Nat) : Int) ∧ 0 ≤ n) := ⟨by show n < ((wtS wtRow ls : Nat) : Int); omega, by omega⟩
    clear hm hl h hn hw0
    go_enter Try.func64, Try.ntmps64
    go_wp2
    go_ret
    exact ⟨⟨-1, rfl, by omega, by have := HE.out; omega, fun h => by omega⟩, Below.refl _ w⟩
  have h2 : ¬ n - (len : Int) < 0 := by omega
  have HN : Hd (ls.length = len ∧ 0 ≤ n ∧ n ≤ 1048576 ∧ (len : Int) ≤ n) := ⟨hl, hn.1, hn.2, by omega⟩
  have hlen : len ≤ 1048576 := by omega
  by_cases hz : len = 0
  · subst hz
    obtain rfl : ls = [] := List.eq_nil_of_length_eq_zero hl
    have hw1 : wrap64 n = n := by simpa using hw
    have h3 : ¬ n < 0 := by omega
    have hc1 : ((0 : Nat) : Int) = 0 := rfl
    clear hm hl h hn hw0 hc hlen hw h2
    go_enter Try.func64, Try.ntmps64
    go_wp2_with fail
    refine wp_loop_rounds 1 ?_
    rewrite [rounds_succ]
    go_wp2_with fail
    go_ret
    exact ⟨⟨_, rfl, by have := HN.out; omega, by omega, fun h => by show ((0 : Nat) : Int) + _ ≤ _; omega⟩, Below.refl _ w⟩
  rcases h with h | ⟨b, o, rfl, g⟩
  · exact absurd (by rw [← hl, h, List.length_nil]) hz
  have G : Hd (∀ j a, ls[j]? = some a → ∃ c, c.length = 7 ∧ RdRow w c a ∧ ∀ i v, c[i]? = some v → w.cell? ⟨b, o + j * 7 + i, none⟩ = some v) := ⟨g⟩
  have HR : Hd (0 ≤ n - (len : Int) ∧ n - (len : Int) ≤ n ∧ ((len + ((ls.take 0).map wtRow).sum : Nat) : Int) + (n - (len : Int)) ≤ n) := ⟨by omega, by omega, by have h7 : ((ls.take 0).map wtRow).sum = 0 := rfl; omega⟩
  clear hm hl h2 hn hw0 g hz hc
  have h2 : ¬ n - (len : Int) < 0 := by have := HN.out; omega
  go_enter Try.func64, Try.ntmps64
  go_wp2
  go_loopw [1, 5] (fun q i wr => ∃ k : Nat, k ≤ len ∧ i = .int .i64 k ∧ ∃ l : Int, q = .int .i64 l ∧ Hd (Below w.heap.size w wr) ∧ Hd (0 ≤ l ∧ l ≤ n ∧ ((len + ((ls.take k).map wtRow).sum : Nat) : Int) + l ≤ n)) (fun _ i _ => len - (intOf i).toNat)
  case atStart => exact ⟨0, Nat.zero_le _, rfl, _, rfl, ⟨Below.refl _ w⟩, HR⟩
  case round =>
    obtain ⟨k, hk, rfl, l, rfl, HB, HL⟩ := hrel
    clear HR h2
    by_cases hlt : k < len
    · have hlt' : (k : Int) < (len : Int) := by omega
      have h0 : (0 : Int) ≤ (k : Int) := by omega
      obtain ⟨a, ha⟩ := get_some (l := ls) (j := k) (by rw [HN.out.1]; exact hlt)
      obtain ⟨c, hcn, hR, hcell⟩ := G.out k a ha
      have HS : Hd (((ls.take (k + 1)).map wtRow).sum = ((ls.take k).map wtRow).sum + wtRow a) := ⟨wt_take_succ wtRow ha⟩
      replace hR := rdRow_ok.below hR HB.out
      obtain ⟨l0, l1, l2, l3, l4, l5, l6⟩ := a
      have hR0 := hR
      simp only [RdRow] at hR0
      obtain ⟨x2, m2, d2, x4, m4, d4, rfl, _, _⟩ := hR0
      have t0 := cell_below (hcell 0 _ rfl) HB.out
      have t1 := cell_below (hcell 1 _ rfl) HB.out
      have t2 := cell_below (hcell 2 _ rfl) HB.out
      have t3 := cell_below (hcell 3 _ rfl) HB.out
      have t4 := cell_below (hcell 4 _ rfl) HB.out
      have t5 := cell_below (hcell 5 _ rfl) HB.out
      have t6 := cell_below (hcell 6 _ rfl) HB.out
      simp only [Nat.add_zero] at t0
      have HRd : Hd (RdRow wr [.string l0, .int .i64 l1, .slice x2 m2 d2, .int .i64 l3, .slice x4 m4 d4, .int .i64 l5, .bool l6] (⟨l0, l1, l2, l3, l4, l5, l6⟩ : RowD)) := ⟨hR⟩
      clear hR hcell hcn ha
      go_wp2_with fail
      refine (szRow_rd [.string l0, .int .i64 l1, .slice x2 m2 d2, .int .i64 l3, .slice x4 m4 d4, .int .i64 l5, .bool l6] (⟨l0, l1, l2, l3, l4, l5, l6⟩ : RowD) l _ HRd.out ⟨HL.out.1, by have := HL.out.2.1; have := HN.out; omega⟩).mono ?_
      rintro e w1 ⟨⟨s, rfl, hs1, hs2, hs3⟩, hb⟩
      have HB1 : Hd (Below w.heap.size w w1) := ⟨Below.next HB.out hb⟩
      have HS1 : Hd (-1 ≤ s ∧ s ≤ n ∧ (0 ≤ s → ((len + ((ls.take (k + 1)).map wtRow).sum : Nat) : Int) + s ≤ n)) := ⟨hs1, by have := HL.out; omega, fun hh => by have := hs3 hh; have := HL.out; rw [HS.out]; omega⟩
      clear hb HB HRd HL HS hs1 hs2 hs3 t0 t1 t2 t3 t4 t5 t6
      by_cases hz : s < 0
      · go_wp2_with fail
        go_ret
        exact ⟨⟨-1, rfl, by omega, by have := HN.out; omega, fun h => by omega⟩, HB1.out⟩
      · have HL1 : Hd (0 ≤ s ∧ s ≤ n ∧ ((len + ((ls.take (k + 1)).map wtRow).sum : Nat) : Int) + s ≤ n) := ⟨by omega, HS1.out.2.1, HS1.out.2.2 (by omega)⟩
        clear HS1
        go_wp2_with fail
        go_roundw
        case rel => exact ⟨k + 1, by omega, by go_num, s, rfl, HB1, HL1⟩
        case measure => simp [intOf]; omega
    · have HF : Hd (0 ≤ l ∧ l ≤ n ∧ ((wtRowS ls : Nat) : Int) + l ≤ n) := ⟨HL.out.1, HL.out.2.1, by
        have h1 := HL.out.2.2
        have h2 := HN.out.1
        rw [List.take_of_length_le (by omega)] at h1
        show ((ls.length + (ls.map wtRow).sum : Nat) : Int) + l ≤ n
        omega⟩
      clear HL
      go_wp2
      go_ret
      exact ⟨⟨l, rfl, by have := HF.out; omega, HF.out.2.1, fun _ => HF.out.2.2⟩, HB.out⟩

set_option maxHeartbeats 4000000 in
theorem eqRowS_rd (a1 : Option Addr) (n1 c1 : Nat) (a2 : Option Addr) (n2 c2 : Nat) (ls : List RowD) (w : World) (h1 : RdRowS w [.slice a1 n1 c1] ls) (h2 : RdRowS w [.slice a2 n2 c2] ls) (hw : wtRowS ls ≤ 1073741824) :
    Calls Try.prog 72 #[.slice a1 n1 c1, .slice a2 n2 c2] w fun e w' => e = .returned (.bool true) ∧ Below w.heap.size w w' := by
  replace h1 := rdRowS_parts h1
  replace h2 := rdRowS_parts h2
  obtain ⟨_, hl1, h1⟩ := h1
  obtain ⟨_, hl2, h2⟩ := h2
  obtain rfl : n1 = n2 := hl1.symm.trans hl2
  have hw7 : wtS wtRow ls ≤ 1073741824 := hw
  have hlen : n1 ≤ 1073741824 := by have := wtS_len wtRow ls; omega
  have heq : ((n1 : Int) != (n1 : Int)) = false := by simp
  by_cases hz : n1 = 0
  · subst hz
    clear h1 h2 hl1 hl2 hw hw7
    go_enter Try.func72, Try.ntmps72
    go_wp2_with fail
    refine wp_loop_rounds 1 ?_
    rewrite [rounds_succ]
    go_wp2_with fail
    go_ret
    exact ⟨rfl, Below.refl _ w⟩
  rcases h1 with h | ⟨b1, o1, rfl, g1⟩
  · exact absurd (by rw [← hl1, h, List.length_nil]) hz
  rcases h2 with h | ⟨b2, o2, rfl, g2⟩
  · exact absurd (by rw [← hl1, h, List.length_nil]) hz
  have G1 : Hd (∀ j a, ls[j]? = some a → ∃ c, c.length = 7 ∧ RdRow w c a ∧ ∀ i v, c[i]? = some v → w.cell? ⟨b1, o1 + j * 7 + i, none⟩ = some v) := ⟨g1⟩
  have G2 : Hd (∀ j a, ls[j]? = some a → ∃ c, c.length = 7 ∧ RdRow w c a ∧ ∀ i v, c[i]? = some v → w.cell? ⟨b2, o2 + j * 7 + i, none⟩ = some v) := ⟨g2⟩
  have HN : Hd (ls.length = n1 ∧ wtRowS ls ≤ 1073741824) := ⟨hl1, hw⟩
  clear g1 g2 hl1 hl2 hw hw7 hz
  go_enter Try.func72, Try.ntmps72
  go_wp2_with fail
  go_loopw [5] (fun i wr => ∃ k : Nat, k ≤ n1 ∧ i = .int .i64 k ∧ Hd (Below w.heap.size w wr)) (fun i _ => n1 - (intOf i).toNat)
  case atStart => exact ⟨0, Nat.zero_le _, rfl, ⟨Below.refl _ _⟩⟩
  case round =>
    obtain ⟨k, hk, rfl, HB⟩ := hrel
    by_cases hlt : k < n1
    · have hlt' : (k : Int) < (n1 : Int) := by omega
      have h0 : (0 : Int) ≤ (k : Int) := by omega
      obtain ⟨a, ha⟩ := get_some (l := ls) (j := k) (by rw [HN.out.1]; exact hlt)
      obtain ⟨c, hcn, hR, hcell⟩ := G1.out k a ha
      obtain ⟨c', hcn', hR', hcell'⟩ := G2.out k a ha
      have HW : Hd (wtRow a ≤ 1073741824) := ⟨by have h7 := wtS_le wtRow ha; have h8 : wtS wtRow ls ≤ 1073741824 := HN.out.2; omega⟩
      replace hR := rdRow_ok.below hR HB.out
      replace hR' := rdRow_ok.below hR' HB.out
      obtain ⟨l0, l1, l2, l3, l4, l5, l6⟩ := a
      have hR0 := hR
      simp only [RdRow] at hR0
      obtain ⟨x2, m2, d2, x4, m4, d4, rfl, _, _⟩ := hR0
      have t0 := cell_below (hcell 0 _ rfl) HB.out
      have t1 := cell_below (hcell 1 _ rfl) HB.out
      have t2 := cell_below (hcell 2 _ rfl) HB.out
      have t3 := cell_below (hcell 3 _ rfl) HB.out
      have t4 := cell_below (hcell 4 _ rfl) HB.out
      have t5 := cell_below (hcell 5 _ rfl) HB.out
      have t6 := cell_below (hcell 6 _ rfl) HB.out
      simp only [Nat.add_zero] at t0
      have hR0 := hR'
      simp only [RdRow] at hR0
      obtain ⟨y2, n2, e2, y4, n4, e4, rfl, _, _⟩ := hR0
      have u0 := cell_below (hcell' 0 _ rfl) HB.out
      have u1 := cell_below (hcell' 1 _ rfl) HB.out
      have u2 := cell_below (hcell' 2 _ rfl) HB.out
      have u3 := cell_below (hcell' 3 _ rfl) HB.out
      have u4 := cell_below (hcell' 4 _ rfl) HB.out
      have u5 := cell_below (hcell' 5 _ rfl) HB.out
      have u6 := cell_below (hcell' 6 _ rfl) HB.out
      simp only [Nat.add_zero] at u0
      have Q : Hd (RdRow wr [.string l0, .int .i64 l1, .slice x2 m2 d2, .int .i64 l3, .slice x4 m4 d4, .int .i64 l5, .bool l6] (⟨l0, l1, l2, l3, l4, l5, l6⟩ : RowD) ∧ RdRow wr [.string l0, .int .i64 l1, .slice y2 n2 e2, .int .i64 l3, .slice y4 n4 e4, .int .i64 l5, .bool l6] (⟨l0, l1, l2, l3, l4, l5, l6⟩ : RowD) ∧ wtRow (⟨l0, l1, l2, l3, l4, l5, l6⟩ : RowD) ≤ 1073741824) := ⟨hR, hR', HW.out⟩
      clear hR hR' hcell hcell' hcn hcn' ha HW
      go_wp2_with fail
      have KK : Hd (∀ w', Below wr.heap.size wr w' → (w'.cell? ⟨b1, o1 + k * 7, none⟩ = some (.string l0) ∧ w'.cell? ⟨b1, o1 + k * 7 + 1, none⟩ = some (.int .i64 l1) ∧ w'.cell? ⟨b1, o1 + k * 7 + 2, none⟩ = some (.slice x2 m2 d2) ∧ w'.cell? ⟨b1, o1 + k * 7 + 3, none⟩ = some (.int .i64 l3) ∧ w'.cell? ⟨b1, o1 + k * 7 + 4, none⟩ = some (.slice x4 m4 d4) ∧ w'.cell? ⟨b1, o1 + k * 7 + 5, none⟩ = some (.int .i64 l5) ∧ w'.cell? ⟨b1, o1 + k * 7 + 6, none⟩ = some (.bool l6) ∧ w'.cell? ⟨b2, o2 + k * 7, none⟩ = some (.string l0) ∧ w'.cell? ⟨b2, o2 + k * 7 + 1, none⟩ = some (.int .i64 l1) ∧ w'.cell? ⟨b2, o2 + k * 7 + 2, none⟩ = some (.slice y2 n2 e2) ∧ w'.cell? ⟨b2, o2 + k * 7 + 3, none⟩ = some (.int .i64 l3) ∧ w'.cell? ⟨b2, o2 + k * 7 + 4, none⟩ = some (.slice y4 n4 e4) ∧ w'.cell? ⟨b2, o2 + k * 7 + 5, none⟩ = some (.int .i64 l5) ∧ w'.cell? ⟨b2, o2 + k * 7 + 6, none⟩ = some (.bool l6))) := ⟨fun w' hb => ⟨cell_below t0 hb, cell_below t1 hb, cell_below t2 hb, cell_below t3 hb, cell_below t4 hb, cell_below t5 hb, cell_below t6 hb, cell_below u0 hb, cell_below u1 hb, cell_below u2 hb, cell_below u3 hb, cell_below u4 hb, cell_below u5 hb, cell_below u6 hb⟩⟩
      have D0 : Hd (Below wr.heap.size wr wr.drew) := ⟨(Below.refl _ wr).drew⟩
      go_region_held (fun w' => w'.cell? ⟨b1, o1 + k * 7, none⟩ = some (.string l0) ∧ w'.cell? ⟨b1, o1 + k * 7 + 1, none⟩ = some (.int .i64 l1) ∧ w'.cell? ⟨b1, o1 + k * 7 + 2, none⟩ = some (.slice x2 m2 d2) ∧ w'.cell? ⟨b1, o1 + k * 7 + 3, none⟩ = some (.int .i64 l3) ∧ w'.cell? ⟨b1, o1 + k * 7 + 4, none⟩ = some (.slice x4 m4 d4) ∧ w'.cell? ⟨b1, o1 + k * 7 + 5, none⟩ = some (.int .i64 l5) ∧ w'.cell? ⟨b1, o1 + k * 7 + 6, none⟩ = some (.bool l6) ∧ w'.cell? ⟨b2, o2 + k * 7, none⟩ = some (.string l0) ∧ w'.cell? ⟨b2, o2 + k * 7 + 1, none⟩ = some (.int .i64 l1) ∧ w'.cell? ⟨b2, o2 + k * 7 + 2, none⟩ = some (.slice y2 n2 e2) ∧ w'.cell? ⟨b2, o2 + k * 7 + 3, none⟩ = some (.int .i64 l3) ∧ w'.cell? ⟨b2, o2 + k * 7 + 4, none⟩ = some (.slice y4 n4 e4) ∧ w'.cell? ⟨b2, o2 + k * 7 + 5, none⟩ = some (.int .i64 l5) ∧ w'.cell? ⟨b2, o2 + k * 7 + 6, none⟩ = some (.bool l6)) (first | (with_reducible exact KK.out _ D1.out) | (with_reducible exact KK.out _ D0.out))
        (first | (go_at_call 98; refine (eqRow_rd [.string l0, .int .i64 l1, .slice x2 m2 d2, .int .i64 l3, .slice x4 m4 d4, .int .i64 l5, .bool l6] [.string l0, .int .i64 l1, .slice y2 n2 e2, .int .i64 l3, .slice y4 n4 e4, .int .i64 l5, .bool l6] (⟨l0, l1, l2, l3, l4, l5, l6⟩ : RowD) _ (rdRow_ok.below Q.out.1 D0.out) (rdRow_ok.below Q.out.2.1 D0.out) Q.out.2.2).mono ?_; rintro e wv ⟨rfl, hB⟩; have D1 : Hd (Below wr.heap.size wr wv) := ⟨Below.next D0.out hB⟩; clear hB))
      have HZ : Hd (Below w.heap.size w wv) := ⟨Below.next HB.out D1.out⟩
      clear KK D0 D1 Q HB t0 u0 t1 u1 t2 u2 t3 u3 t4 u4 t5 u5 t6 u6
      go_wp2_with fail
      go_roundw
      case rel => exact ⟨k + 1, by omega, by go_num, HZ⟩
      case measure => simp [intOf]; omega
    · go_wp2
      go_ret
      exact ⟨rfl, HB.out⟩

theorem infSRowS : (Try.prog.info? 84).map (fun i => (i.zero, i.size, i.bytes)) = some (some (.agg #[.string ⟨#[]⟩, .int .i64 0, .slice none 0 0, .int .i64 0, .slice none 0 0, .int .i64 0, .bool false]), 7, 96) := by kernel_rfl

set_option maxHeartbeats 4000000 in
theorem toRowS_rd (ao : Option Addr) (len cap : Nat) (ls : List RowD) (w : World) (h : RdRowS w [.slice ao len cap] ls) (hw : wtRowS ls ≤ 1073741824) :
    Calls Try.prog 67 #[.slice ao len cap] w (AnsSl OwRowS ls w) := by
  replace h := rdRowS_parts h
  obtain ⟨_, hl, h⟩ := h
  have hw7 : wtS wtRow ls ≤ 1073741824 := hw
  have hlen : len ≤ 1073741824 := by have := wtS_len wtRow ls; omega
  obtain ⟨i0, hi, hz0, hz1, hz2⟩ := info_parts infSRowS
  by_cases hz : len = 0
  · subst hz
    obtain rfl : ls = [] := List.eq_nil_of_length_eq_zero hl
    clear h hl hw hw7
    go_enter Try.func67, Try.ntmps67
    go_wp2_with (at_make; refine wpList_make_full _ rfl _ _ 40 rfl w.heap.size 84 i0 (.agg #[.string ⟨#[]⟩, .int .i64 0, .slice none 0 0, .int .i64 0, .slice none 0 0, .int .i64 0, .bool false]) 7 Try.underlying40 hi hz0 hz1 _ _ _ _ 0 rfl rfl rfl rfl ?b1 ?b2 ?b3 ?_)
    case b1 => rw [hz2]; omega
    case b2 => unfold maxLen; omega
    case b3 => exact Nat.le_refl _
    intro w1 hown hgrow
    have HW : Hd (OwRowS w1 [.slice (some ⟨w.heap.size, 0, none⟩) 0 0] (fun x => x = w.heap.size) [] ∧ Below w.heap.size w w1) := ⟨by
      refine ⟨⟨_, [], fun _ _ => False, rfl, ?_⟩, (Below.refl _ w).grown hgrow (Nat.le_refl _) (fun _ h => by cases h)⟩
      have hlt := (hown.lt w.heap.size rfl).2
      have h7 : w1.ownsRow 0 84 7 (.slice (some ⟨w.heap.size, 0, none⟩) 0 0) 0 (List.replicate 0 ([.string ⟨#[]⟩, .int .i64 0, .slice none 0 0, .int .i64 0, .slice none 0 0, .int .i64 0, .bool false] : List Value)).flatten := by
        have h8 := ownsRow_base hown (Nat.zero_le _)
        exact ⟨by simp, h8.2.imp id (fun ⟨g, c, cur, e1, e2, e3, e4, e5, e6, _⟩ => ⟨g, c, cur, e1, e2, e3, e4, e5, e6, by simp⟩)⟩
      exact owP_made (z := (⟨⟨#[]⟩, 0, [], 0, [], 0, false⟩ : RowD)) h7 rfl hlt (owRow_zero _)⟩
    clear hown hgrow
    go_wp2_with fail
    refine wp_loop_rounds 1 ?_
    rewrite [rounds_succ]
    go_wp2_with fail
    go_ret
    exact ⟨⟨_, _, _, rfl, _, HW.out.1, fun x hx => by rw [hx]; exact Nat.le_refl _⟩, HW.out.2⟩
  rcases h with h | ⟨b, o, rfl, g⟩
  · exact absurd (by rw [← hl, h, List.length_nil]) hz
  have G : Hd (∀ j a, ls[j]? = some a → ∃ c, c.length = 7 ∧ RdRow w c a ∧ ∀ i v, c[i]? = some v → w.cell? ⟨b, o + j * 7 + i, none⟩ = some v) := ⟨g⟩
  have HN : Hd (ls.length = len ∧ wtRowS ls ≤ 1073741824) := ⟨hl, hw⟩
  clear g hl hw hw7 hz
  go_enter Try.func67, Try.ntmps67
  go_wp2_with (at_make; refine wpList_make_full _ rfl _ _ 40 rfl w.heap.size 84 i0 (.agg #[.string ⟨#[]⟩, .int .i64 0, .slice none 0 0, .int .i64 0, .slice none 0 0, .int .i64 0, .bool false]) 7 Try.underlying40 hi hz0 hz1 _ _ _ _ len rfl rfl rfl rfl ?b1 ?b2 ?b3 ?_)
  case b1 => rw [hz2]; omega
  case b2 => unfold maxLen; omega
  case b3 => exact Nat.le_refl _
  intro w1 hown hgrow
  have HW : Hd (∃ css Fs F, OwP 7 84 OwRow w1 (.slice (some ⟨w.heap.size, 0, none⟩) len len) css Fs F (fillS ls (⟨⟨#[]⟩, 0, [], 0, [], 0, false⟩ : RowD) (0)) ∧ (∀ x, F x → w.heap.size ≤ x) ∧ Below w.heap.size w w1) := ⟨by
    have hlt := (hown.lt w.heap.size rfl).2
    have e7 := made_flat ([.string ⟨#[]⟩, .int .i64 0, .slice none 0 0, .int .i64 0, .slice none 0 0, .int .i64 0, .bool false] : List Value) (n := 7) rfl (by omega) len
    try simp only [Nat.mul_one] at e7
    have h7 : w1.ownsRow 0 84 7 (.slice (some ⟨w.heap.size, 0, none⟩) len len) len (List.replicate len ([.string ⟨#[]⟩, .int .i64 0, .slice none 0 0, .int .i64 0, .slice none 0 0, .int .i64 0, .bool false] : List Value)).flatten := by
      rw [← e7]; exact ownsRow_base hown (Nat.zero_le _)
    rw [fillS_zero, HN.out.1]
    exact ⟨_, _, _, owP_made h7 rfl hlt (owRow_zero _), fun x hx => by rw [hx]; exact Nat.le_refl _, (Below.refl _ w).grown hgrow (Nat.le_refl _) (fun _ h => by cases h)⟩⟩
  clear hown hgrow
  go_wp2_with fail
  go_loopw [4] (fun i wr => ∃ k : Nat, k ≤ len ∧ i = .int .i64 k ∧ Hd (∃ css Fs F, OwP 7 84 OwRow wr (.slice (some ⟨w.heap.size, 0, none⟩) len len) css Fs F (fillS ls (⟨⟨#[]⟩, 0, [], 0, [], 0, false⟩ : RowD) (k)) ∧ (∀ x, F x → w.heap.size ≤ x) ∧ Below w.heap.size w wr)) (fun i _ => len - (intOf i).toNat)
  case atStart => exact ⟨0, Nat.zero_le _, rfl, HW⟩
  case round =>
    obtain ⟨k, hk, rfl, HK⟩ := hrel
    clear HW
    by_cases hlt : k < len
    · have hlt' : (k : Int) < (len : Int) := by omega
      have h0 : (0 : Int) ≤ (k : Int) := by omega
      obtain ⟨css, Fs, F, P, hFb, hB⟩ := HK.out
      obtain ⟨a, ha⟩ := get_some (l := ls) (j := k) (by rw [HN.out.1]; exact hlt)
      obtain ⟨c, hcn, hR, hcell⟩ := G.out k a ha
      replace hR := rdRow_ok.below hR hB
      have HW9 : Hd (wtRow a ≤ 1073741824) := ⟨by have h7 := wtS_le wtRow ha; have h8 : wtS wtRow ls ≤ 1073741824 := HN.out.2; omega⟩
      have hkl : k < ls.length := by rw [HN.out.1]; exact hlt
      have hml : (fillS ls (⟨⟨#[]⟩, 0, [], 0, [], 0, false⟩ : RowD) k).length = len := by rw [fillS_len ls _ (by omega), HN.out.1]
      obtain ⟨co, hco, hcon, hEo⟩ := P.cellsAt (fillS_get ls (⟨⟨#[]⟩, 0, [], 0, [], 0, false⟩ : RowD) hkl)
      have hset : (fillS ls (⟨⟨#[]⟩, 0, [], 0, [], 0, false⟩ : RowD) k).set k a = fillS ls (⟨⟨#[]⟩, 0, [], 0, [], 0, false⟩ : RowD) (k + 1) := fillS_set ls _ ha
      have HQ : Hd (OwP 7 84 OwRow wr (.slice (some ⟨w.heap.size, 0, none⟩) len len) css Fs F (fillS ls (⟨⟨#[]⟩, 0, [], 0, [], 0, false⟩ : RowD) k) ∧ (∀ x, F x → w.heap.size ≤ x) ∧ Below w.heap.size w wr ∧ (fillS ls (⟨⟨#[]⟩, 0, [], 0, [], 0, false⟩ : RowD) k).length = len ∧ (fillS ls (⟨⟨#[]⟩, 0, [], 0, [], 0, false⟩ : RowD) k).set k a = fillS ls (⟨⟨#[]⟩, 0, [], 0, [], 0, false⟩ : RowD) (k + 1) ∧ css[k]? = some co ∧ co.length = 7 ∧ css.length = len) := ⟨P, hFb, hB, hml, hset, hco, hcon, by rw [P.size, hml]⟩
      obtain ⟨l0, l1, l2, l3, l4, l5, l6⟩ := a
      have hR0 := hR
      simp only [RdRow] at hR0
      obtain ⟨x2, m2, d2, x4, m4, d4, rfl, _, _⟩ := hR0
      have t0 := cell_below (hcell 0 _ rfl) hB
      have t1 := cell_below (hcell 1 _ rfl) hB
      have t2 := cell_below (hcell 2 _ rfl) hB
      have t3 := cell_below (hcell 3 _ rfl) hB
      have t4 := cell_below (hcell 4 _ rfl) hB
      have t5 := cell_below (hcell 5 _ rfl) hB
      have t6 := cell_below (hcell 6 _ rfl) hB
      simp only [Nat.add_zero] at t0
      have QR : Hd (RdRow wr [.string l0, .int .i64 l1, .slice x2 m2 d2, .int .i64 l3, .slice x4 m4 d4, .int .i64 l5, .bool l6] (⟨l0, l1, l2, l3, l4, l5, l6⟩ : RowD)) := ⟨hR⟩
      clear hR hcell hcn ha P hFb hB hkl hml hco hcon hEo hset HK
      go_wp2_with fail
      refine (toRow_rd [.string l0, .int .i64 l1, .slice x2 m2 d2, .int .i64 l3, .slice x4 m4 d4, .int .i64 l5, .bool l6] (⟨l0, l1, l2, l3, l4, l5, l6⟩ : RowD) _ QR.out HW9.out).mono ?_
      rintro e w1 ⟨⟨cs1, rfl, G1, hE, hG⟩, hb⟩
      have HE0 := hE
      simp only [OwRow] at HE0
      obtain ⟨y2, n2, e2, y4, n4, e4, _, _, rfl, _⟩ := HE0
      have hql := HQ.out.2.2.2.2.2.2.1
      have O0 : Hd (w1.ownsRow 0 84 7 (.slice (some ⟨w.heap.size, 0, none⟩) len len) len (css.set k co).flatten) := ⟨by rw [set_self HQ.out.2.2.2.2.2.1]; have h7 := HQ.out.1.own; rw [HQ.out.2.2.2.1] at h7; exact ownsRow_keep h7 (fun b hb2 => hb.block b (h7.lt b hb2).2)⟩
      rcases co with _ | ⟨v0, co⟩
      · simp at hql
      rcases co with _ | ⟨v1, co⟩
      · simp at hql
      rcases co with _ | ⟨v2, co⟩
      · simp at hql
      rcases co with _ | ⟨v3, co⟩
      · simp at hql
      rcases co with _ | ⟨v4, co⟩
      · simp at hql
      rcases co with _ | ⟨v5, co⟩
      · simp at hql
      rcases co with _ | ⟨v6, co⟩
      · simp at hql
      rcases co with _ | ⟨v9, co⟩
      rotate_left
      · simp at hql
      clear hql
      have t0 := ownsRow_cell O0.out rfl (by rw [HQ.out.2.2.2.2.2.2.2]; exact hlt) HQ.out.2.2.2.2.2.2.2 HQ.out.1.lens rfl (i := 0) rfl
      have f0 := ownsRow_free O0.out rfl (k * 7)
      have t1 := ownsRow_cell O0.out rfl (by rw [HQ.out.2.2.2.2.2.2.2]; exact hlt) HQ.out.2.2.2.2.2.2.2 HQ.out.1.lens rfl (i := 1) rfl
      have f1 := ownsRow_free O0.out rfl (k * 7 + 1)
      have t2 := ownsRow_cell O0.out rfl (by rw [HQ.out.2.2.2.2.2.2.2]; exact hlt) HQ.out.2.2.2.2.2.2.2 HQ.out.1.lens rfl (i := 2) rfl
      have f2 := ownsRow_free O0.out rfl (k * 7 + 2)
      have t3 := ownsRow_cell O0.out rfl (by rw [HQ.out.2.2.2.2.2.2.2]; exact hlt) HQ.out.2.2.2.2.2.2.2 HQ.out.1.lens rfl (i := 3) rfl
      have f3 := ownsRow_free O0.out rfl (k * 7 + 3)
      have t4 := ownsRow_cell O0.out rfl (by rw [HQ.out.2.2.2.2.2.2.2]; exact hlt) HQ.out.2.2.2.2.2.2.2 HQ.out.1.lens rfl (i := 4) rfl
      have f4 := ownsRow_free O0.out rfl (k * 7 + 4)
      have t5 := ownsRow_cell O0.out rfl (by rw [HQ.out.2.2.2.2.2.2.2]; exact hlt) HQ.out.2.2.2.2.2.2.2 HQ.out.1.lens rfl (i := 5) rfl
      have f5 := ownsRow_free O0.out rfl (k * 7 + 5)
      have t6 := ownsRow_cell O0.out rfl (by rw [HQ.out.2.2.2.2.2.2.2]; exact hlt) HQ.out.2.2.2.2.2.2.2 HQ.out.1.lens rfl (i := 6) rfl
      have f6 := ownsRow_free O0.out rfl (k * 7 + 6)
      simp only [Nat.add_zero] at t0
      have O1 : Hd ((w1.setCell ⟨w.heap.size, k * 7, none⟩ (.string l0)).ownsRow 0 84 7 (.slice (some ⟨w.heap.size, 0, none⟩) len len) len (css.set k [.string l0, v1, v2, v3, v4, v5, v6]).flatten) := ⟨by have h7 := ownsRow_put (u := (.string l0 : Value)) O0.out rfl (by rw [HQ.out.2.2.2.2.2.2.2]; exact hlt) HQ.out.1.lens rfl (i := 0) (by omega) rfl; simp only [Nat.add_zero] at h7; exact h7⟩
      have O2 : Hd (((w1.setCell ⟨w.heap.size, k * 7, none⟩ (.string l0)).setCell ⟨w.heap.size, k * 7 + 1, none⟩ (.int .i64 l1)).ownsRow 0 84 7 (.slice (some ⟨w.heap.size, 0, none⟩) len len) len (css.set k [.string l0, .int .i64 l1, v2, v3, v4, v5, v6]).flatten) := ⟨by have h7 := ownsRow_put (u := (.int .i64 l1 : Value)) O1.out rfl (by rw [HQ.out.2.2.2.2.2.2.2]; exact hlt) HQ.out.1.lens rfl (i := 1) (by omega) rfl; exact h7⟩
      have O3 : Hd ((((w1.setCell ⟨w.heap.size, k * 7, none⟩ (.string l0)).setCell ⟨w.heap.size, k * 7 + 1, none⟩ (.int .i64 l1)).setCell ⟨w.heap.size, k * 7 + 2, none⟩ (.slice y2 n2 e2)).ownsRow 0 84 7 (.slice (some ⟨w.heap.size, 0, none⟩) len len) len (css.set k [.string l0, .int .i64 l1, .slice y2 n2 e2, v3, v4, v5, v6]).flatten) := ⟨by have h7 := ownsRow_put (u := (.slice y2 n2 e2 : Value)) O2.out rfl (by rw [HQ.out.2.2.2.2.2.2.2]; exact hlt) HQ.out.1.lens rfl (i := 2) (by omega) rfl; exact h7⟩
      have O4 : Hd (((((w1.setCell ⟨w.heap.size, k * 7, none⟩ (.string l0)).setCell ⟨w.heap.size, k * 7 + 1, none⟩ (.int .i64 l1)).setCell ⟨w.heap.size, k * 7 + 2, none⟩ (.slice y2 n2 e2)).setCell ⟨w.heap.size, k * 7 + 3, none⟩ (.int .i64 l3)).ownsRow 0 84 7 (.slice (some ⟨w.heap.size, 0, none⟩) len len) len (css.set k [.string l0, .int .i64 l1, .slice y2 n2 e2, .int .i64 l3, v4, v5, v6]).flatten) := ⟨by have h7 := ownsRow_put (u := (.int .i64 l3 : Value)) O3.out rfl (by rw [HQ.out.2.2.2.2.2.2.2]; exact hlt) HQ.out.1.lens rfl (i := 3) (by omega) rfl; exact h7⟩
      have O5 : Hd ((((((w1.setCell ⟨w.heap.size, k * 7, none⟩ (.string l0)).setCell ⟨w.heap.size, k * 7 + 1, none⟩ (.int .i64 l1)).setCell ⟨w.heap.size, k * 7 + 2, none⟩ (.slice y2 n2 e2)).setCell ⟨w.heap.size, k * 7 + 3, none⟩ (.int .i64 l3)).setCell ⟨w.heap.size, k * 7 + 4, none⟩ (.slice y4 n4 e4)).ownsRow 0 84 7 (.slice (some ⟨w.heap.size, 0, none⟩) len len) len (css.set k [.string l0, .int .i64 l1, .slice y2 n2 e2, .int .i64 l3, .slice y4 n4 e4, v5, v6]).flatten) := ⟨by have h7 := ownsRow_put (u := (.slice y4 n4 e4 : Value)) O4.out rfl (by rw [HQ.out.2.2.2.2.2.2.2]; exact hlt) HQ.out.1.lens rfl (i := 4) (by omega) rfl; exact h7⟩
      have O6 : Hd (((((((w1.setCell ⟨w.heap.size, k * 7, none⟩ (.string l0)).setCell ⟨w.heap.size, k * 7 + 1, none⟩ (.int .i64 l1)).setCell ⟨w.heap.size, k * 7 + 2, none⟩ (.slice y2 n2 e2)).setCell ⟨w.heap.size, k * 7 + 3, none⟩ (.int .i64 l3)).setCell ⟨w.heap.size, k * 7 + 4, none⟩ (.slice y4 n4 e4)).setCell ⟨w.heap.size, k * 7 + 5, none⟩ (.int .i64 l5)).ownsRow 0 84 7 (.slice (some ⟨w.heap.size, 0, none⟩) len len) len (css.set k [.string l0, .int .i64 l1, .slice y2 n2 e2, .int .i64 l3, .slice y4 n4 e4, .int .i64 l5, v6]).flatten) := ⟨by have h7 := ownsRow_put (u := (.int .i64 l5 : Value)) O5.out rfl (by rw [HQ.out.2.2.2.2.2.2.2]; exact hlt) HQ.out.1.lens rfl (i := 5) (by omega) rfl; exact h7⟩
      have O7 : Hd ((((((((w1.setCell ⟨w.heap.size, k * 7, none⟩ (.string l0)).setCell ⟨w.heap.size, k * 7 + 1, none⟩ (.int .i64 l1)).setCell ⟨w.heap.size, k * 7 + 2, none⟩ (.slice y2 n2 e2)).setCell ⟨w.heap.size, k * 7 + 3, none⟩ (.int .i64 l3)).setCell ⟨w.heap.size, k * 7 + 4, none⟩ (.slice y4 n4 e4)).setCell ⟨w.heap.size, k * 7 + 5, none⟩ (.int .i64 l5)).setCell ⟨w.heap.size, k * 7 + 6, none⟩ (.bool l6)).ownsRow 0 84 7 (.slice (some ⟨w.heap.size, 0, none⟩) len len) len (css.set k [.string l0, .int .i64 l1, .slice y2 n2 e2, .int .i64 l3, .slice y4 n4 e4, .int .i64 l5, .bool l6]).flatten) := ⟨by have h7 := ownsRow_put (u := (.bool l6 : Value)) O6.out rfl (by rw [HQ.out.2.2.2.2.2.2.2]; exact hlt) HQ.out.1.lens rfl (i := 6) (by omega) rfl; exact h7⟩
      have HX : Hd (∃ css Fs F, OwP 7 84 OwRow (((((((w1.setCell ⟨w.heap.size, k * 7, none⟩ (.string l0)).setCell ⟨w.heap.size, k * 7 + 1, none⟩ (.int .i64 l1)).setCell ⟨w.heap.size, k * 7 + 2, none⟩ (.slice y2 n2 e2)).setCell ⟨w.heap.size, k * 7 + 3, none⟩ (.int .i64 l3)).setCell ⟨w.heap.size, k * 7 + 4, none⟩ (.slice y4 n4 e4)).setCell ⟨w.heap.size, k * 7 + 5, none⟩ (.int .i64 l5)).setCell ⟨w.heap.size, k * 7 + 6, none⟩ (.bool l6)) (.slice (some ⟨w.heap.size, 0, none⟩) len len) css Fs F (fillS ls (⟨⟨#[]⟩, 0, [], 0, [], 0, false⟩ : RowD) (k + 1)) ∧ (∀ x, F x → w.heap.size ≤ x) ∧ Below w.heap.size w (((((((w1.setCell ⟨w.heap.size, k * 7, none⟩ (.string l0)).setCell ⟨w.heap.size, k * 7 + 1, none⟩ (.int .i64 l1)).setCell ⟨w.heap.size, k * 7 + 2, none⟩ (.slice y2 n2 e2)).setCell ⟨w.heap.size, k * 7 + 3, none⟩ (.int .i64 l3)).setCell ⟨w.heap.size, k * 7 + 4, none⟩ (.slice y4 n4 e4)).setCell ⟨w.heap.size, k * 7 + 5, none⟩ (.int .i64 l5)).setCell ⟨w.heap.size, k * 7 + 6, none⟩ (.bool l6))) := ⟨by
        have hgk : w.heap.size < wr.heap.size := (HQ.out.1.own.lt w.heap.size rfl).2
        have hE2 : OwRow (((((((w1.setCell ⟨w.heap.size, k * 7, none⟩ (.string l0)).setCell ⟨w.heap.size, k * 7 + 1, none⟩ (.int .i64 l1)).setCell ⟨w.heap.size, k * 7 + 2, none⟩ (.slice y2 n2 e2)).setCell ⟨w.heap.size, k * 7 + 3, none⟩ (.int .i64 l3)).setCell ⟨w.heap.size, k * 7 + 4, none⟩ (.slice y4 n4 e4)).setCell ⟨w.heap.size, k * 7 + 5, none⟩ (.int .i64 l5)).setCell ⟨w.heap.size, k * 7 + 6, none⟩ (.bool l6)) [.string l0, .int .i64 l1, .slice y2 n2 e2, .int .i64 l3, .slice y4 n4 e4, .int .i64 l5, .bool l6] G1 (⟨l0, l1, l2, l3, l4, l5, l6⟩ : RowD) := owRow_ok.keep hE (fun b hb2 => block_set (block_set (block_set (block_set (block_set (block_set (block_set (rfl) (by have := hG b hb2; omega)) (by have := hG b hb2; omega)) (by have := hG b hb2; omega)) (by have := hG b hb2; omega)) (by have := hG b hb2; omega)) (by have := hG b hb2; omega)) (by have := hG b hb2; omega))
        have hP := HQ.out.1.put owRow_ok (by rw [HQ.out.2.2.2.1]; exact hlt) (by rw [HQ.out.2.2.2.1]; exact O7.out) rfl hE2 (fun x hx => .inr (hG x hx)) (fun x hx h1 h2 => (block_set (block_set (block_set (block_set (block_set (block_set (block_set (rfl) (fun e => h1 (by rw [e]; rfl))) (fun e => h1 (by rw [e]; rfl))) (fun e => h1 (by rw [e]; rfl))) (fun e => h1 (by rw [e]; rfl))) (fun e => h1 (by rw [e]; rfl))) (fun e => h1 (by rw [e]; rfl))) (fun e => h1 (by rw [e]; rfl))).trans (hb.block x (HQ.out.1.lt x hx))) (by simp only [World.size_setCell]; exact hb.size)
        rw [HQ.out.2.2.2.2.1] at hP
        exact ⟨_, _, _, hP, fun x hx => hx.elim (HQ.out.2.1 x) (fun h => by have := hG x h; omega), bset (bset (bset (bset (bset (bset (bset (Below.trans HQ.out.2.2.1 (hb.mono HQ.out.2.2.1.size)) _ (Nat.le_refl _)) _ (Nat.le_refl _)) _ (Nat.le_refl _)) _ (Nat.le_refl _)) _ (Nat.le_refl _)) _ (Nat.le_refl _)) _ (Nat.le_refl _)⟩⟩
      clear HQ QR HW9 hE hG hb O0 O1 O2 O3 O4 O5 O6 O7
      go_wp2_with fail
      go_roundw
      case rel => exact ⟨k + 1, by omega, by go_num, HX⟩
      case measure => simp [intOf]; omega
    · have e : k = ls.length := by have := HN.out.1; omega
      have HF : Hd (AnsSl OwRowS ls w (.returned (.slice (some ⟨w.heap.size, 0, none⟩) len len)) wr) := ⟨by
        obtain ⟨css, Fs, F, P, hFb, hB⟩ := HK.out
        rw [e, fillS_all] at P
        exact ⟨⟨_, _, _, rfl, F, ⟨_, css, Fs, rfl, P⟩, hFb⟩, hB⟩⟩
      clear e HK
      go_wp2
      go_ret
      exact HF.out

end Go.Proofs.Ytlididoalekeoaa
/- A record. -/
namespace Go.Proofs.Ytlididoalekeoaa
set_option maxRecDepth 4000
open Go.RowKit

/-- A record. -/
structure RecD where
  kind : Int
  r : RowD
  key : ByteArray
  n : Int
  who : Int
  seq : Int
  code : Int
def zeroRec : RecD := ⟨0, zeroRow, ⟨#[]⟩, 0, 0, 0, 0⟩

end Go.Proofs.Ytlididoalekeoaa
/- Who asked last; what a node knows. -/
namespace Go.Proofs.Ytlididoalekeoaa
set_option maxRecDepth 4000
open Go.RowKit

/-- Who asked last. -/
structure MarkD where
  who : Int
  seq : Int
  code : Int
/-- What a node knows. -/
structure TabD where
  rows : List RowD
  phase : Int
  marks : List MarkD

end Go.Proofs.Ytlididoalekeoaa
/- What the laws do with a Mark. -/
namespace Go.Proofs.Ytlididoalekeoaa
set_option maxRecDepth 4000
open Go.RowKit

def RdMark : Rd MarkD := fun _ cs a => cs = [.int .i64 a.who, .int .i64 a.seq, .int .i64 a.code]
def RcMark : Rd MarkD := fun _ cs a => cs = [.int .i64 a.who, .int .i64 a.seq, .int .i64 a.code]
def OwMark : Ow MarkD := fun _ cs F a => cs = [.int .i64 a.who, .int .i64 a.seq, .int .i64 a.code] ∧ (∀ x, ¬ F x)
theorem rdMark_ok : RdOk 3 RdMark := ⟨fun e => by rw [e]; rfl, fun e _ => e⟩
theorem rcMark_ok : RdOk 3 RcMark := ⟨fun e => by rw [e]; rfl, fun e _ => e⟩
theorem rcMark_w {w : World} {cs : List Value} {a : MarkD} (h : RcMark w cs a) : RdMark w cs a := h
theorem owMark_ok : OwOk 3 OwMark RcMark where
  len := fun h => by rw [h.1]; rfl
  lt := fun h x hx => (h.2 x hx).elim
  keep := fun h _ => h
  rd := fun h => h.1
theorem infoMark : (Try.prog.info? 89).map (·.size) = some 3 := by kernel_rfl
def wtMark (_a : MarkD) : Nat := 0
def ctMark (_a : MarkD) : Nat := 1 + 1 + 1
def mkMark (m : Nat) (_a : MarkD) : MarkD := (⟨((m : Nat) : Int), ((m + 1 : Nat) : Int), ((m + 1 + 1 : Nat) : Int)⟩ : MarkD)
def cuMark (_a : MarkD) : Nat := 0
def mtMark (_m : Nat) (a : MarkD) : MarkD := (⟨a.who, a.seq, a.code⟩ : MarkD)

set_option maxHeartbeats 4000000 in
theorem eqMark_rd (c1 c2 : List Value) (a : MarkD) (w : World) (h1 : RdMark w c1 a) (h2 : RdMark w c2 a) (hw : wtMark a ≤ 1073741824) :
    Calls Try.prog 99 #[.agg c1.toArray, .agg c2.toArray] w fun e w' => e = .returned (.bool true) ∧ Below w.heap.size w w' := by
  obtain ⟨l0, l1, l2⟩ := a
  simp only [RdMark] at h1 h2
  subst h1 h2
  have f0 : (l0 != l0) = false := by simp
  have f1 : (l1 != l1) = false := by simp
  have f2 : (l2 != l2) = false := by simp
  clear hw
  go_enter Try.func99, Try.ntmps99
  go_wp2
  go_ret
  exact ⟨rfl, below_lit2 w _ _⟩

set_option maxHeartbeats 4000000 in
theorem toMark_rd (cs : List Value) (a : MarkD) (w : World) (h : RdMark w cs a) (hw : wtMark a ≤ 1073741824) :
    Calls Try.prog 95 #[.agg cs.toArray] w (AnsAgg OwMark a w) := by
  obtain ⟨l0, l1, l2⟩ := a
  simp only [RdMark] at h
  subst h
  clear hw
  go_enter Try.func95, Try.ntmps95
  go_wp2
  obtain ⟨_, k1, _⟩ := laid3 w (Obj.cells #[Value.int .i64 l0, .int .i64 l1, .int .i64 l2] 127) (Obj.cells #[Value.int .i64 l0, .int .i64 l1, .int .i64 l2] 89) (Obj.cells #[Value.int .i64 l0, .int .i64 l1, .int .i64 l2] 89)
  refine bodyPost_ret (results_cell_row rfl _ _ (w.heap.size + 1) _ _ (0, 0) _ rfl k1 Try.underlying89 rfl (by kernel_rfl)) rfl ?_
  exact ⟨⟨[.int .i64 l0, .int .i64 l1, .int .i64 l2], rfl, fun _ => False, ⟨rfl, fun _ h => h⟩, fun _ h => h.elim⟩, below_lit3 w _ _ _⟩

end Go.Proofs.Ytlididoalekeoaa
