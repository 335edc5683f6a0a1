/- What the laws do with a list of ByteS. -/
import Derived.Test.YtlididoalekeoaaGreatDoorDeepA
import Derived.Deep.RegionHeld3
namespace Go.Proofs.YtlididoalekeoaaGreatDoor
set_option maxRecDepth 4000
open Go.RowKit

abbrev RdByteSS : Rd (List (List UInt8)) := RdS 1 RdB
abbrev OwByteSS : Ow (List (List UInt8)) := OwS 1 60 OwB
theorem rdByteSS_ok : RdOk 1 RdByteSS := rdS_ok rdB_ok
theorem owByteSS_ok : OwOk 1 OwByteSS RdByteSS := owS_ok owB_ok
abbrev wtByteSS : List (List UInt8) → Nat := wtS wtB
abbrev ctByteSS : List (List UInt8) → Nat := ctS ctB
abbrev mkByteSS (m : Nat) : List (List UInt8) → List (List UInt8) := mkS mkB ctB m

theorem rdByteSS_parts {w : World} {ao : Option Addr} {len cap : Nat} {ls : List (List UInt8)} (h : RdByteSS w [.slice ao len cap] ls) : len ≤ maxLen ∧ ls.length = len ∧ (ls = [] ∨ ∃ b off, ao = some ⟨b, off, none⟩ ∧ ∀ j a, ls[j]? = some a → ∃ c, c.length = 1 ∧ RdB w c a ∧ ∀ i v, c[i]? = some v → w.cell? ⟨b, off + j * 1 + i, none⟩ = some v) := by
  obtain ⟨_, _, _, e, hm, hl, h⟩ := h
  simp only [List.cons.injEq, Value.slice.injEq, and_true] at e
  obtain ⟨rfl, rfl, rfl⟩ := e
  exact ⟨hm, hl, h⟩

set_option maxHeartbeats 4000000 in
theorem szByteSS_rd (ao : Option Addr) (len cap : Nat) (ls : List (List UInt8)) (n : Int) (w : World) (h : RdByteSS w [.slice ao len cap] ls) (hn : 0 ≤ n ∧ n ≤ 1048576) :
    Calls Tryz.prog 22 #[.slice ao len cap, .int .i64 n] w (SzOut n (wtByteSS ls) w) := by
  replace h := rdByteSS_parts h
  obtain ⟨hm, hl, h⟩ := h
  have hw : wrap64 (n - (len : Int)) = n - (len : Int) := by unfold maxLen at *; exact wrap64_in (by omega) (by omega)
  have hw0 := wtS_len wtB ls
  by_cases hc : n < (len : Int)
  · have h2 : n - (len : Int) < 0 := by omega
    have HE : Hd (n < ((wtByteSS ls : Nat) : Int) ∧ 0 ≤ n) := ⟨by show n < ((wtS wtB ls : Nat) : Int); omega, by omega⟩
    clear hm hl h hn hw0
    go_enter Tryz.func22, Tryz.ntmps22
    go_wp2
    go_ret
    exact ⟨⟨-1, rfl, by omega, by have := HE.out; omega, fun h => by omega⟩, Below.refl _ w⟩
  have h2 : ¬ n - (len : Int) < 0 := by omega
  have HN : Hd (ls.length = len ∧ 0 ≤ n ∧ n ≤ 1048576 ∧ (len : Int) ≤ n) := ⟨hl, hn.1, hn.2, by omega⟩
  have hlen : len ≤ 1048576 := by omega
  by_cases hz : len = 0
  · subst hz
    obtain rfl : ls = [] := List.eq_nil_of_length_eq_zero hl
    have hw1 : wrap64 n = n := by simpa using hw
    have h3 : ¬ n < 0 := by omega
    have hc1 : ((0 : Nat) : Int) = 0 := rfl
    clear hm hl h hn hw0 hc hlen hw h2
    go_enter Tryz.func22, Tryz.ntmps22
    go_wp2_with fail
    refine wp_loop_rounds 1 ?_
    rewrite [rounds_succ]
    go_wp2_with fail
    go_ret
    exact ⟨⟨_, rfl, by have := HN.out; omega, by omega, fun h => by show ((0 : Nat) : Int) + _ ≤ _; omega⟩, Below.refl _ w⟩
  rcases h with h | ⟨b, o, rfl, g⟩
  · exact absurd (by rw [← hl, h, List.length_nil]) hz
  have G : Hd (∀ j a, ls[j]? = some a → ∃ c, c.length = 1 ∧ RdB w c a ∧ ∀ i v, c[i]? = some v → w.cell? ⟨b, o + j * 1 + i, none⟩ = some v) := ⟨g⟩
  have HR : Hd (0 ≤ n - (len : Int) ∧ n - (len : Int) ≤ n ∧ ((len + ((ls.take 0).map wtB).sum : Nat) : Int) + (n - (len : Int)) ≤ n) := ⟨by omega, by omega, by have h7 : ((ls.take 0).map wtB).sum = 0 := rfl; omega⟩
  clear hm hl h2 hn hw0 g hz hc
  have h2 : ¬ n - (len : Int) < 0 := by have := HN.out; omega
  go_enter Tryz.func22, Tryz.ntmps22
  go_wp2
  go_loopw [1, 5] (fun q i wr => ∃ k : Nat, k ≤ len ∧ i = .int .i64 k ∧ ∃ l : Int, q = .int .i64 l ∧ Hd (Below w.heap.size w wr) ∧ Hd (0 ≤ l ∧ l ≤ n ∧ ((len + ((ls.take k).map wtB).sum : Nat) : Int) + l ≤ n)) (fun _ i _ => len - (intOf i).toNat)
  case atStart => exact ⟨0, Nat.zero_le _, rfl, _, rfl, ⟨Below.refl _ w⟩, HR⟩
  case round =>
    obtain ⟨k, hk, rfl, l, rfl, HB, HL⟩ := hrel
    clear HR h2
    by_cases hlt : k < len
    · have hlt' : (k : Int) < (len : Int) := by omega
      have h0 : (0 : Int) ≤ (k : Int) := by omega
      obtain ⟨a, ha⟩ := get_some (l := ls) (j := k) (by rw [HN.out.1]; exact hlt)
      obtain ⟨c, hcn, hR, hcell⟩ := G.out k a ha
      have HS : Hd (((ls.take (k + 1)).map wtB).sum = ((ls.take k).map wtB).sum + wtB a) := ⟨wt_take_succ wtB ha⟩
      replace hR := rdB_ok.below hR HB.out
      generalize a = l0 at *
      obtain ⟨x0, m0, d0, rfl, _, _⟩ := id hR
      have t0 := cell_below (hcell 0 _ rfl) HB.out
      simp only [Nat.mul_one, Nat.add_zero] at t0
      have HRd : Hd (RdB wr [.slice x0 m0 d0] l0) := ⟨hR⟩
      clear hR hcell hcn ha
      go_wp2_with fail
      refine (szByteS_rd x0 m0 d0 l0 l _ HRd.out ⟨HL.out.1, by have := HL.out.2.1; have := HN.out; omega⟩).mono ?_
      rintro e w1 ⟨⟨s, rfl, hs1, hs2, hs3⟩, hb⟩
      have HB1 : Hd (Below w.heap.size w w1) := ⟨Below.next HB.out hb⟩
      have HS1 : Hd (-1 ≤ s ∧ s ≤ n ∧ (0 ≤ s → ((len + ((ls.take (k + 1)).map wtB).sum : Nat) : Int) + s ≤ n)) := ⟨hs1, by have := HL.out; omega, fun hh => by have := hs3 hh; have := HL.out; rw [HS.out]; omega⟩
      clear hb HB HRd HL HS hs1 hs2 hs3 t0
      by_cases hz : s < 0
      · go_wp2_with fail
        go_ret
        exact ⟨⟨-1, rfl, by omega, by have := HN.out; omega, fun h => by omega⟩, HB1.out⟩
      · have HL1 : Hd (0 ≤ s ∧ s ≤ n ∧ ((len + ((ls.take (k + 1)).map wtB).sum : Nat) : Int) + s ≤ n) := ⟨by omega, HS1.out.2.1, HS1.out.2.2 (by omega)⟩
        clear HS1
        go_wp2_with fail
        go_roundw
        case rel => exact ⟨k + 1, by omega, by go_num, s, rfl, HB1, HL1⟩
        case measure => simp [intOf]; omega
    · have HF : Hd (0 ≤ l ∧ l ≤ n ∧ ((wtByteSS ls : Nat) : Int) + l ≤ n) := ⟨HL.out.1, HL.out.2.1, by
        have h1 := HL.out.2.2
        have h2 := HN.out.1
        rw [List.take_of_length_le (by omega)] at h1
        show ((ls.length + (ls.map wtB).sum : Nat) : Int) + l ≤ n
        omega⟩
      clear HL
      go_wp2
      go_ret
      exact ⟨⟨l, rfl, by have := HF.out; omega, HF.out.2.1, fun _ => HF.out.2.2⟩, HB.out⟩

set_option maxHeartbeats 4000000 in
theorem eqByteSS_rd (a1 : Option Addr) (n1 c1 : Nat) (a2 : Option Addr) (n2 c2 : Nat) (ls : List (List UInt8)) (w : World) (h1 : RdByteSS w [.slice a1 n1 c1] ls) (h2 : RdByteSS w [.slice a2 n2 c2] ls) (hw : wtByteSS ls ≤ 1073741824) :
    Calls Tryz.prog 41 #[.slice a1 n1 c1, .slice a2 n2 c2] w fun e w' => e = .returned (.bool true) ∧ Below w.heap.size w w' := by
  replace h1 := rdByteSS_parts h1
  replace h2 := rdByteSS_parts h2
  obtain ⟨_, hl1, h1⟩ := h1
  obtain ⟨_, hl2, h2⟩ := h2
  obtain rfl : n1 = n2 := hl1.symm.trans hl2
  have hw7 : wtS wtB ls ≤ 1073741824 := hw
  have hlen : n1 ≤ 1073741824 := by have := wtS_len wtB ls; omega
  have heq : ((n1 : Int) != (n1 : Int)) = false := by simp
  by_cases hz : n1 = 0
  · subst hz
    clear h1 h2 hl1 hl2 hw hw7
    go_enter Tryz.func41, Tryz.ntmps41
    go_wp2_with fail
    refine wp_loop_rounds 1 ?_
    rewrite [rounds_succ]
    go_wp2_with fail
    go_ret
    exact ⟨rfl, Below.refl _ w⟩
  rcases h1 with h | ⟨b1, o1, rfl, g1⟩
  · exact absurd (by rw [← hl1, h, List.length_nil]) hz
  rcases h2 with h | ⟨b2, o2, rfl, g2⟩
  · exact absurd (by rw [← hl1, h, List.length_nil]) hz
  have G1 : Hd (∀ j a, ls[j]? = some a → ∃ c, c.length = 1 ∧ RdB w c a ∧ ∀ i v, c[i]? = some v → w.cell? ⟨b1, o1 + j * 1 + i, none⟩ = some v) := ⟨g1⟩
  have G2 : Hd (∀ j a, ls[j]? = some a → ∃ c, c.length = 1 ∧ RdB w c a ∧ ∀ i v, c[i]? = some v → w.cell? ⟨b2, o2 + j * 1 + i, none⟩ = some v) := ⟨g2⟩
  have HN : Hd (ls.length = n1 ∧ wtByteSS ls ≤ 1073741824) := ⟨hl1, hw⟩
  clear g1 g2 hl1 hl2 hw hw7 hz
  go_enter Tryz.func41, Tryz.ntmps41
  go_wp2_with fail
  go_loopw [5] (fun i wr => ∃ k : Nat, k ≤ n1 ∧ i = .int .i64 k ∧ Hd (Below w.heap.size w wr)) (fun i _ => n1 - (intOf i).toNat)
  case atStart => exact ⟨0, Nat.zero_le _, rfl, ⟨Below.refl _ _⟩⟩
  case round =>
    obtain ⟨k, hk, rfl, HB⟩ := hrel
    by_cases hlt : k < n1
    · have hlt' : (k : Int) < (n1 : Int) := by omega
      have h0 : (0 : Int) ≤ (k : Int) := by omega
      obtain ⟨a, ha⟩ := get_some (l := ls) (j := k) (by rw [HN.out.1]; exact hlt)
      obtain ⟨c, hcn, hR, hcell⟩ := G1.out k a ha
      obtain ⟨c', hcn', hR', hcell'⟩ := G2.out k a ha
      have HW : Hd (wtB a ≤ 1073741824) := ⟨by have h7 := wtS_le wtB ha; have h8 : wtS wtB ls ≤ 1073741824 := HN.out.2; omega⟩
      replace hR := rdB_ok.below hR HB.out
      replace hR' := rdB_ok.below hR' HB.out
      generalize a = l0 at *
      obtain ⟨x0, m0, d0, rfl, _, _⟩ := id hR
      have t0 := cell_below (hcell 0 _ rfl) HB.out
      simp only [Nat.mul_one, Nat.add_zero] at t0
      obtain ⟨y0, n0, e0, rfl, _, _⟩ := id hR'
      have u0 := cell_below (hcell' 0 _ rfl) HB.out
      simp only [Nat.mul_one, Nat.add_zero] at u0
      have Q : Hd (RdB wr [.slice x0 m0 d0] l0 ∧ RdB wr [.slice y0 n0 e0] l0 ∧ wtB l0 ≤ 1073741824) := ⟨hR, hR', HW.out⟩
      clear hR hR' hcell hcell' hcn hcn' ha HW
      go_wp2_with fail
      have KK : Hd (∀ w', Below wr.heap.size wr w' → (w'.cell? ⟨b1, o1 + k, none⟩ = some (.slice x0 m0 d0) ∧ w'.cell? ⟨b2, o2 + k, none⟩ = some (.slice y0 n0 e0))) := ⟨fun w' hb => ⟨cell_below t0 hb, cell_below u0 hb⟩⟩
      have D0 : Hd (Below wr.heap.size wr wr.drew) := ⟨(Below.refl _ wr).drew⟩
      go_region_held (fun w' => w'.cell? ⟨b1, o1 + k, none⟩ = some (.slice x0 m0 d0) ∧ w'.cell? ⟨b2, o2 + k, none⟩ = some (.slice y0 n0 e0)) (first | (with_reducible exact KK.out _ D1.out) | (with_reducible exact KK.out _ D0.out))
        (first | (go_at_call 66; refine (eqByteS_rd x0 m0 d0 y0 n0 e0 l0 _ (rdB_ok.below Q.out.1 D0.out) (rdB_ok.below Q.out.2.1 D0.out) Q.out.2.2).mono ?_; rintro e wv ⟨rfl, hB⟩; have D1 : Hd (Below wr.heap.size wr wv) := ⟨Below.next D0.out hB⟩; clear hB))
      have HZ : Hd (Below w.heap.size w wv) := ⟨Below.next HB.out D1.out⟩
      clear KK D0 D1 Q HB t0 u0
      go_wp2_with fail
      go_roundw
      case rel => exact ⟨k + 1, by omega, by go_num, HZ⟩
      case measure => simp [intOf]; omega
    · go_wp2
      go_ret
      exact ⟨rfl, HB.out⟩

theorem infoByteSS : (Tryz.prog.info? 60).map (fun i => (i.zero, i.size, i.bytes)) = some (some (.slice none 0 0), 1, 24) := by kernel_rfl

set_option maxHeartbeats 4000000 in
theorem toByteSS_rd (ao : Option Addr) (len cap : Nat) (ls : List (List UInt8)) (w : World) (h : RdByteSS w [.slice ao len cap] ls) (hw : wtByteSS ls ≤ 1073741824) :
    Calls Tryz.prog 28 #[.slice ao len cap] w (AnsSl OwByteSS ls w) := by
  replace h := rdByteSS_parts h
  obtain ⟨_, hl, h⟩ := h
  have hw7 : wtS wtB ls ≤ 1073741824 := hw
  have hlen : len ≤ 1073741824 := by have := wtS_len wtB ls; omega
  obtain ⟨i0, hi, hz0, hz1, hz2⟩ := info_parts infoByteSS
  by_cases hz : len = 0
  · subst hz
    obtain rfl : ls = [] := List.eq_nil_of_length_eq_zero hl
    clear h hl hw hw7
    go_enter Tryz.func28, Tryz.ntmps28
    go_wp2_with (at_make; refine wpList_make_full _ rfl _ _ 22 rfl w.heap.size 60 i0 (.slice none 0 0) 1 Tryz.underlying22 hi hz0 hz1 _ _ _ _ 0 rfl rfl rfl rfl ?b1 ?b2 ?b3 ?_)
    case b1 => rw [hz2]; omega
    case b2 => unfold maxLen; omega
    case b3 => exact Nat.le_refl _
    intro w1 hown hgrow
    have HW : Hd (OwByteSS w1 [.slice (some ⟨w.heap.size, 0, none⟩) 0 0] (fun x => x = w.heap.size) [] ∧ Below w.heap.size w w1) := ⟨by
      refine ⟨⟨_, [], fun _ _ => False, rfl, ?_⟩, (Below.refl _ w).grown hgrow (Nat.le_refl _) (fun _ h => by cases h)⟩
      have hlt := (hown.lt w.heap.size rfl).2
      have h7 : w1.ownsRow 0 60 1 (.slice (some ⟨w.heap.size, 0, none⟩) 0 0) 0 (List.replicate 0 ([.slice none 0 0] : List Value)).flatten := by
        have h8 := ownsRow_base hown (Nat.zero_le _)
        exact ⟨by simp, h8.2.imp id (fun ⟨g, c, cur, e1, e2, e3, e4, e5, e6, _⟩ => ⟨g, c, cur, e1, e2, e3, e4, e5, e6, by simp⟩)⟩
      exact owP_made (z := ([] : List UInt8)) h7 rfl hlt (owB_nil _)⟩
    clear hown hgrow
    go_wp2_with fail
    refine wp_loop_rounds 1 ?_
    rewrite [rounds_succ]
    go_wp2_with fail
    go_ret
    exact ⟨⟨_, _, _, rfl, _, HW.out.1, fun x hx => by rw [hx]; exact Nat.le_refl _⟩, HW.out.2⟩
  rcases h with h | ⟨b, o, rfl, g⟩
  · exact absurd (by rw [← hl, h, List.length_nil]) hz
  have G : Hd (∀ j a, ls[j]? = some a → ∃ c, c.length = 1 ∧ RdB w c a ∧ ∀ i v, c[i]? = some v → w.cell? ⟨b, o + j * 1 + i, none⟩ = some v) := ⟨g⟩
  have HN : Hd (ls.length = len ∧ wtByteSS ls ≤ 1073741824) := ⟨hl, hw⟩
  clear g hl hw hw7 hz
  go_enter Tryz.func28, Tryz.ntmps28
  go_wp2_with (at_make; refine wpList_make_full _ rfl _ _ 22 rfl w.heap.size 60 i0 (.slice none 0 0) 1 Tryz.underlying22 hi hz0 hz1 _ _ _ _ len rfl rfl rfl rfl ?b1 ?b2 ?b3 ?_)
  case b1 => rw [hz2]; omega
  case b2 => unfold maxLen; omega
  case b3 => exact Nat.le_refl _
  intro w1 hown hgrow
  have HW : Hd (∃ css Fs F, OwP 1 60 OwB w1 (.slice (some ⟨w.heap.size, 0, none⟩) len len) css Fs F (fillS ls ([] : List UInt8) (0)) ∧ (∀ x, F x → w.heap.size ≤ x) ∧ Below w.heap.size w w1) := ⟨by
    have hlt := (hown.lt w.heap.size rfl).2
    have e7 := made_flat ([.slice none 0 0] : List Value) (n := 1) rfl (by omega) len
    try simp only [Nat.mul_one] at e7
    have h7 : w1.ownsRow 0 60 1 (.slice (some ⟨w.heap.size, 0, none⟩) len len) len (List.replicate len ([.slice none 0 0] : List Value)).flatten := by
      rw [← e7]; exact ownsRow_base hown (Nat.zero_le _)
    rw [fillS_zero, HN.out.1]
    exact ⟨_, _, _, owP_made h7 rfl hlt (owB_nil _), fun x hx => by rw [hx]; exact Nat.le_refl _, (Below.refl _ w).grown hgrow (Nat.le_refl _) (fun _ h => by cases h)⟩⟩
  clear hown hgrow
  go_wp2_with fail
  go_loopw [4] (fun i wr => ∃ k : Nat, k ≤ len ∧ i = .int .i64 k ∧ Hd (∃ css Fs F, OwP 1 60 OwB wr (.slice (some ⟨w.heap.size, 0, none⟩) len len) css Fs F (fillS ls ([] : List UInt8) (k)) ∧ (∀ x, F x → w.heap.size ≤ x) ∧ Below w.heap.size w wr)) (fun i _ => len - (intOf i).toNat)
  case atStart => exact ⟨0, Nat.zero_le _, rfl, HW⟩
  case round =>
    obtain ⟨k, hk, rfl, HK⟩ := hrel
    clear HW
    by_cases hlt : k < len
    · have hlt' : (k : Int) < (len : Int) := by omega
      have h0 : (0 : Int) ≤ (k : Int) := by omega
      obtain ⟨css, Fs, F, P, hFb, hB⟩ := HK.out
      obtain ⟨a, ha⟩ := get_some (l := ls) (j := k) (by rw [HN.out.1]; exact hlt)
      obtain ⟨c, hcn, hR, hcell⟩ := G.out k a ha
      replace hR := rdB_ok.below hR hB
      have HW9 : Hd (wtB a ≤ 1073741824) := ⟨by have h7 := wtS_le wtB ha; have h8 : wtS wtB ls ≤ 1073741824 := HN.out.2; omega⟩
      have hkl : k < ls.length := by rw [HN.out.1]; exact hlt
      have hml : (fillS ls ([] : List UInt8) k).length = len := by rw [fillS_len ls _ (by omega), HN.out.1]
      obtain ⟨co, hco, hcon, hEo⟩ := P.cellsAt (fillS_get ls ([] : List UInt8) hkl)
      have hset : (fillS ls ([] : List UInt8) k).set k a = fillS ls ([] : List UInt8) (k + 1) := fillS_set ls _ ha
      have HQ : Hd (OwP 1 60 OwB wr (.slice (some ⟨w.heap.size, 0, none⟩) len len) css Fs F (fillS ls ([] : List UInt8) k) ∧ (∀ x, F x → w.heap.size ≤ x) ∧ Below w.heap.size w wr ∧ (fillS ls ([] : List UInt8) k).length = len ∧ (fillS ls ([] : List UInt8) k).set k a = fillS ls ([] : List UInt8) (k + 1) ∧ css[k]? = some co ∧ co.length = 1 ∧ css.length = len) := ⟨P, hFb, hB, hml, hset, hco, hcon, by rw [P.size, hml]⟩
      generalize a = l0 at *
      obtain ⟨x0, m0, d0, rfl, _, _⟩ := id hR
      have t0 := cell_below (hcell 0 _ rfl) hB
      simp only [Nat.mul_one, Nat.add_zero] at t0
      have QR : Hd (RdB wr [.slice x0 m0 d0] l0) := ⟨hR⟩
      clear hR hcell hcn ha P hFb hB hkl hml hco hcon hEo hset HK
      go_wp2_with fail
      refine (toByteS_rd x0 m0 d0 l0 _ QR.out HW9.out).mono ?_
      rintro e w1 ⟨⟨y0, n0, e0, rfl, G1, hE, hG⟩, hb⟩
      have hql := HQ.out.2.2.2.2.2.2.1
      have O0 : Hd (w1.ownsRow 0 60 1 (.slice (some ⟨w.heap.size, 0, none⟩) len len) len (css.set k co).flatten) := ⟨by rw [set_self HQ.out.2.2.2.2.2.1]; have h7 := HQ.out.1.own; rw [HQ.out.2.2.2.1] at h7; exact ownsRow_keep h7 (fun b hb2 => hb.block b (h7.lt b hb2).2)⟩
      rcases co with _ | ⟨v0, co⟩
      · simp at hql
      rcases co with _ | ⟨v9, co⟩
      rotate_left
      · simp at hql
      clear hql
      have t0 := ownsRow_cell O0.out rfl (by rw [HQ.out.2.2.2.2.2.2.2]; exact hlt) HQ.out.2.2.2.2.2.2.2 HQ.out.1.lens rfl (i := 0) rfl
      have f0 := ownsRow_free O0.out rfl (k)
      simp only [Nat.mul_one, Nat.add_zero] at t0
      have O1 : Hd ((w1.setCell ⟨w.heap.size, k, none⟩ (.slice y0 n0 e0)).ownsRow 0 60 1 (.slice (some ⟨w.heap.size, 0, none⟩) len len) len (css.set k [.slice y0 n0 e0]).flatten) := ⟨by have h7 := ownsRow_put (u := (.slice y0 n0 e0 : Value)) O0.out rfl (by rw [HQ.out.2.2.2.2.2.2.2]; exact hlt) HQ.out.1.lens rfl (i := 0) (by omega) rfl; simp only [Nat.mul_one, Nat.add_zero] at h7; exact h7⟩
      have HX : Hd (∃ css Fs F, OwP 1 60 OwB (w1.setCell ⟨w.heap.size, k, none⟩ (.slice y0 n0 e0)) (.slice (some ⟨w.heap.size, 0, none⟩) len len) css Fs F (fillS ls ([] : List UInt8) (k + 1)) ∧ (∀ x, F x → w.heap.size ≤ x) ∧ Below w.heap.size w (w1.setCell ⟨w.heap.size, k, none⟩ (.slice y0 n0 e0))) := ⟨by
        have hgk : w.heap.size < wr.heap.size := (HQ.out.1.own.lt w.heap.size rfl).2
        have hE2 : OwB (w1.setCell ⟨w.heap.size, k, none⟩ (.slice y0 n0 e0)) [.slice y0 n0 e0] G1 l0 := owB_ok.keep hE (fun b hb2 => block_set (rfl) (by have := hG b hb2; omega))
        have hP := HQ.out.1.put owB_ok (by rw [HQ.out.2.2.2.1]; exact hlt) (by rw [HQ.out.2.2.2.1]; exact O1.out) rfl hE2 (fun x hx => .inr (hG x hx)) (fun x hx h1 h2 => (block_set (rfl) (fun e => h1 (by rw [e]; rfl))).trans (hb.block x (HQ.out.1.lt x hx))) (by simp only [World.size_setCell]; exact hb.size)
        rw [HQ.out.2.2.2.2.1] at hP
        exact ⟨_, _, _, hP, fun x hx => hx.elim (HQ.out.2.1 x) (fun h => by have := hG x h; omega), bset (Below.trans HQ.out.2.2.1 (hb.mono HQ.out.2.2.1.size)) _ (Nat.le_refl _)⟩⟩
      clear HQ QR HW9 hE hG hb O0 O1
      go_wp2_with fail
      go_roundw
      case rel => exact ⟨k + 1, by omega, by go_num, HX⟩
      case measure => simp [intOf]; omega
    · have e : k = ls.length := by have := HN.out.1; omega
      have HF : Hd (AnsSl OwByteSS ls w (.returned (.slice (some ⟨w.heap.size, 0, none⟩) len len)) wr) := ⟨by
        obtain ⟨css, Fs, F, P, hFb, hB⟩ := HK.out
        rw [e, fillS_all] at P
        exact ⟨⟨_, _, _, rfl, F, ⟨_, css, Fs, rfl, P⟩, hFb⟩, hB⟩⟩
      clear e HK
      go_wp2
      go_ret
      exact HF.out

end Go.Proofs.YtlididoalekeoaaGreatDoor
