/- Parts of the proof, one behind the other. -/
import Derived.Test.YtlididoalekeoaaMxRecsOf5
import Derived.Test.YtlididoalekeoaaMxRecsOf6
import Derived.Deep.RegionHeld3
import Derived.Test.YtlididoalekeoaaMxRecsOf4
/- What the laws do with a list of Mark. -/
namespace Go.Proofs.Ytlididoalekeoaa
set_option maxRecDepth 4000
open Go.RowKit

theorem owMark_zero (w : World) : OwMark w [.int .i64 0, .int .i64 0, .int .i64 0] (fun _ => False) (⟨0, 0, 0⟩ : MarkD) := ⟨rfl, fun _ h => h⟩
abbrev RdMarkS : Rd (List MarkD) := RdS 3 RdMark
abbrev RcMarkS : Rd (List MarkD) := RdS 3 RcMark
abbrev OwMarkS : Ow (List MarkD) := OwS 3 89 OwMark
theorem rdMarkS_ok : RdOk 1 RdMarkS := rdS_ok rdMark_ok
theorem rcMarkS_ok : RdOk 1 RcMarkS := rdS_ok rcMark_ok
theorem owMarkS_ok : OwOk 1 OwMarkS RcMarkS := owS_ok owMark_ok
theorem rcMarkS_w {w : World} {cs : List Value} {a : List MarkD} (h : RcMarkS w cs a) : RdMarkS w cs a := rdS_mono (fun h => rcMark_w h) h
abbrev wtMarkS : List MarkD → Nat := wtS wtMark

theorem rdMarkS_parts {w : World} {ao : Option Addr} {len cap : Nat} {ls : List MarkD} (h : RdMarkS w [.slice ao len cap] ls) : len ≤ maxLen ∧ ls.length = len ∧ (ls = [] ∨ ∃ b off, ao = some ⟨b, off, none⟩ ∧ ∀ j a, ls[j]? = some a → ∃ c, c.length = 3 ∧ RdMark w c a ∧ ∀ i v, c[i]? = some v → w.cell? ⟨b, off + j * 3 + i, none⟩ = some v) := by
  obtain ⟨_, _, _, e, hm, hl, h⟩ := h
  simp only [List.cons.injEq, Value.slice.injEq, and_true] at e
  obtain ⟨rfl, rfl, rfl⟩ := e
  exact ⟨hm, hl, h⟩

set_option maxHeartbeats 4000000 in
theorem szMarkS_rd (ao : Option Addr) (len cap : Nat) (ls : List MarkD) (n : Int) (w : World) (h : RdMarkS w [.slice ao len cap] ls) (hn : 0 ≤ n ∧ n ≤ 1048576) :
    Calls Try.prog 65 #[.slice ao len cap, .int .i64 n] w (SzOut n (wtMarkS ls) w) := by
  replace h := rdMarkS_parts h
  obtain ⟨hm, hl, h⟩ := h
  have hw : wrap64 (n - (len : Int)) = n - (len : Int) := by unfold maxLen at *; exact wrap64_in (by omega) (by omega)
  have hw0 : wtMarkS ls = len := by
    show ls.length + (ls.map wtMark).sum = len
    rw [show (ls.map wtMark).sum = 0 from wt_none (fun _ => rfl) ls]; omega
  rw [hw0]
  by_cases hc : n < (len : Int)
  · have h2 : n - (len : Int) < 0 := by omega
    have HE : Hd (n < ((len : Nat) : Int) ∧ 0 ≤ n) := ⟨by omega, by omega⟩
    clear hm hl h hn hw0
    go_enter Try.func65, Try.ntmps65
    go_wp2
    go_ret
    exact ⟨⟨-1, rfl, by omega, by have := HE.out; omega, fun h => by omega⟩, Below.refl _ w⟩
  have h2 : ¬ n - (len : Int) < 0 := by omega
  have HN : Hd (0 ≤ n ∧ (len : Int) ≤ n) := ⟨hn.1, by omega⟩
  clear hm hl h hn hw0
  go_enter Try.func65, Try.ntmps65
  go_wp2
  go_ret
  exact ⟨⟨n - (len : Int), by first | rfl | (rw [hw]), by omega, by omega, fun _ => by omega⟩, Below.refl _ w⟩

set_option maxHeartbeats 4000000 in
theorem eqMarkS_rd (a1 : Option Addr) (n1 c1 : Nat) (a2 : Option Addr) (n2 c2 : Nat) (ls : List MarkD) (w : World) (h1 : RdMarkS w [.slice a1 n1 c1] ls) (h2 : RdMarkS w [.slice a2 n2 c2] ls) (hw : wtMarkS ls ≤ 1073741824) :
    Calls Try.prog 73 #[.slice a1 n1 c1, .slice a2 n2 c2] w fun e w' => e = .returned (.bool true) ∧ Below w.heap.size w w' := by
  replace h1 := rdMarkS_parts h1
  replace h2 := rdMarkS_parts h2
  obtain ⟨_, hl1, h1⟩ := h1
  obtain ⟨_, hl2, h2⟩ := h2
  obtain rfl : n1 = n2 := hl1.symm.trans hl2
  have hw7 : wtS wtMark ls ≤ 1073741824 := hw
  have hlen : n1 ≤ 1073741824 := by have := wtS_len wtMark ls; omega
  have heq : ((n1 : Int) != (n1 : Int)) = false := by simp
  by_cases hz : n1 = 0
  · subst hz
    clear h1 h2 hl1 hl2 hw hw7
    go_enter Try.func73, Try.ntmps73
    go_wp2_with fail
    refine wp_loop_rounds 1 ?_
    rewrite [rounds_succ]
    go_wp2_with fail
    go_ret
    exact ⟨rfl, Below.refl _ w⟩
  rcases h1 with h | ⟨b1, o1, rfl, g1⟩
  · exact absurd (by rw [← hl1, h, List.length_nil]) hz
  rcases h2 with h | ⟨b2, o2, rfl, g2⟩
  · exact absurd (by rw [← hl1, h, List.length_nil]) hz
  have G1 : Hd (∀ j a, ls[j]? = some a → ∃ c, c.length = 3 ∧ RdMark w c a ∧ ∀ i v, c[i]? = some v → w.cell? ⟨b1, o1 + j * 3 + i, none⟩ = some v) := ⟨g1⟩
  have G2 : Hd (∀ j a, ls[j]? = some a → ∃ c, c.length = 3 ∧ RdMark w c a ∧ ∀ i v, c[i]? = some v → w.cell? ⟨b2, o2 + j * 3 + i, none⟩ = some v) := ⟨g2⟩
  have HN : Hd (ls.length = n1 ∧ wtMarkS ls ≤ 1073741824) := ⟨hl1, hw⟩
  clear g1 g2 hl1 hl2 hw hw7 hz
  go_enter Try.func73, Try.ntmps73
  go_wp2_with fail
  go_loopw [5] (fun i wr => ∃ k : Nat, k ≤ n1 ∧ i = .int .i64 k ∧ Hd (Below w.heap.size w wr)) (fun i _ => n1 - (intOf i).toNat)
  case atStart => exact ⟨0, Nat.zero_le _, rfl, ⟨Below.refl _ _⟩⟩
  case round =>
    obtain ⟨k, hk, rfl, HB⟩ := hrel
    by_cases hlt : k < n1
    · have hlt' : (k : Int) < (n1 : Int) := by omega
      have h0 : (0 : Int) ≤ (k : Int) := by omega
      obtain ⟨a, ha⟩ := get_some (l := ls) (j := k) (by rw [HN.out.1]; exact hlt)
      obtain ⟨c, hcn, hR, hcell⟩ := G1.out k a ha
      obtain ⟨c', hcn', hR', hcell'⟩ := G2.out k a ha
      have HW : Hd (wtMark a ≤ 1073741824) := ⟨by have h7 := wtS_le wtMark ha; have h8 : wtS wtMark ls ≤ 1073741824 := HN.out.2; omega⟩
      replace hR := rdMark_ok.below hR HB.out
      replace hR' := rdMark_ok.below hR' HB.out
      obtain ⟨l0, l1, l2⟩ := a
      have hR0 := hR
      simp only [RdMark] at hR0
      subst hR0
      have t0 := cell_below (hcell 0 _ rfl) HB.out
      have t1 := cell_below (hcell 1 _ rfl) HB.out
      have t2 := cell_below (hcell 2 _ rfl) HB.out
      simp only [Nat.add_zero] at t0
      have hR0 := hR'
      simp only [RdMark] at hR0
      subst hR0
      have u0 := cell_below (hcell' 0 _ rfl) HB.out
      have u1 := cell_below (hcell' 1 _ rfl) HB.out
      have u2 := cell_below (hcell' 2 _ rfl) HB.out
      simp only [Nat.add_zero] at u0
      have Q : Hd (RdMark wr [.int .i64 l0, .int .i64 l1, .int .i64 l2] (⟨l0, l1, l2⟩ : MarkD) ∧ RdMark wr [.int .i64 l0, .int .i64 l1, .int .i64 l2] (⟨l0, l1, l2⟩ : MarkD) ∧ wtMark (⟨l0, l1, l2⟩ : MarkD) ≤ 1073741824) := ⟨hR, hR', HW.out⟩
      clear hR hR' hcell hcell' hcn hcn' ha HW
      go_wp2_with fail
      have KK : Hd (∀ w', Below wr.heap.size wr w' → (w'.cell? ⟨b1, o1 + k * 3, none⟩ = some (.int .i64 l0) ∧ w'.cell? ⟨b1, o1 + k * 3 + 1, none⟩ = some (.int .i64 l1) ∧ w'.cell? ⟨b1, o1 + k * 3 + 2, none⟩ = some (.int .i64 l2) ∧ w'.cell? ⟨b2, o2 + k * 3, none⟩ = some (.int .i64 l0) ∧ w'.cell? ⟨b2, o2 + k * 3 + 1, none⟩ = some (.int .i64 l1) ∧ w'.cell? ⟨b2, o2 + k * 3 + 2, none⟩ = some (.int .i64 l2))) := ⟨fun w' hb => ⟨cell_below t0 hb, cell_below t1 hb, cell_below t2 hb, cell_below u0 hb, cell_below u1 hb, cell_below u2 hb⟩⟩
      have D0 : Hd (Below wr.heap.size wr wr.drew) := ⟨(Below.refl _ wr).drew⟩
      go_region_held (fun w' => w'.cell? ⟨b1, o1 + k * 3, none⟩ = some (.int .i64 l0) ∧ w'.cell? ⟨b1, o1 + k * 3 + 1, none⟩ = some (.int .i64 l1) ∧ w'.cell? ⟨b1, o1 + k * 3 + 2, none⟩ = some (.int .i64 l2) ∧ w'.cell? ⟨b2, o2 + k * 3, none⟩ = some (.int .i64 l0) ∧ w'.cell? ⟨b2, o2 + k * 3 + 1, none⟩ = some (.int .i64 l1) ∧ w'.cell? ⟨b2, o2 + k * 3 + 2, none⟩ = some (.int .i64 l2)) (first | (with_reducible exact KK.out _ D1.out) | (with_reducible exact KK.out _ D0.out))
        (first | (go_at_call 99; refine (eqMark_rd [.int .i64 l0, .int .i64 l1, .int .i64 l2] [.int .i64 l0, .int .i64 l1, .int .i64 l2] (⟨l0, l1, l2⟩ : MarkD) _ (rdMark_ok.below Q.out.1 D0.out) (rdMark_ok.below Q.out.2.1 D0.out) Q.out.2.2).mono ?_; rintro e wv ⟨rfl, hB⟩; have D1 : Hd (Below wr.heap.size wr wv) := ⟨Below.next D0.out hB⟩; clear hB))
      have HZ : Hd (Below w.heap.size w wv) := ⟨Below.next HB.out D1.out⟩
      clear KK D0 D1 Q HB t0 u0 t1 u1 t2 u2
      go_wp2_with fail
      go_roundw
      case rel => exact ⟨k + 1, by omega, by go_num, HZ⟩
      case measure => simp [intOf]; omega
    · go_wp2
      go_ret
      exact ⟨rfl, HB.out⟩

theorem infSMarkS : (Try.prog.info? 89).map (fun i => (i.zero, i.size, i.bytes)) = some (some (.agg #[.int .i64 0, .int .i64 0, .int .i64 0]), 3, 24) := by kernel_rfl

set_option maxHeartbeats 4000000 in
theorem toMarkS_rd (ao : Option Addr) (len cap : Nat) (ls : List MarkD) (w : World) (h : RdMarkS w [.slice ao len cap] ls) (hw : wtMarkS ls ≤ 1073741824) :
    Calls Try.prog 68 #[.slice ao len cap] w (AnsSl OwMarkS ls w) := by
  replace h := rdMarkS_parts h
  obtain ⟨_, hl, h⟩ := h
  have hw7 : wtS wtMark ls ≤ 1073741824 := hw
  have hlen : len ≤ 1073741824 := by have := wtS_len wtMark ls; omega
  obtain ⟨i0, hi, hz0, hz1, hz2⟩ := info_parts infSMarkS
  by_cases hz : len = 0
  · subst hz
    obtain rfl : ls = [] := List.eq_nil_of_length_eq_zero hl
    clear h hl hw hw7
    go_enter Try.func68, Try.ntmps68
    go_wp2_with (at_make; refine wpList_make_full _ rfl _ _ 41 rfl w.heap.size 89 i0 (.agg #[.int .i64 0, .int .i64 0, .int .i64 0]) 3 Try.underlying41 hi hz0 hz1 _ _ _ _ 0 rfl rfl rfl rfl ?b1 ?b2 ?b3 ?_)
    case b1 => rw [hz2]; omega
    case b2 => unfold maxLen; omega
    case b3 => exact Nat.le_refl _
    intro w1 hown hgrow
    have HW : Hd (OwMarkS w1 [.slice (some ⟨w.heap.size, 0, none⟩) 0 0] (fun x => x = w.heap.size) [] ∧ Below w.heap.size w w1) := ⟨by
      refine ⟨⟨_, [], fun _ _ => False, rfl, ?_⟩, (Below.refl _ w).grown hgrow (Nat.le_refl _) (fun _ h => by cases h)⟩
      have hlt := (hown.lt w.heap.size rfl).2
      have h7 : w1.ownsRow 0 89 3 (.slice (some ⟨w.heap.size, 0, none⟩) 0 0) 0 (List.replicate 0 ([.int .i64 0, .int .i64 0, .int .i64 0] : List Value)).flatten := by
        have h8 := ownsRow_base hown (Nat.zero_le _)
        exact ⟨by simp, h8.2.imp id (fun ⟨g, c, cur, e1, e2, e3, e4, e5, e6, _⟩ => ⟨g, c, cur, e1, e2, e3, e4, e5, e6, by simp⟩)⟩
      exact owP_made (z := (⟨0, 0, 0⟩ : MarkD)) h7 rfl hlt (owMark_zero _)⟩
    clear hown hgrow
    go_wp2_with fail
    refine wp_loop_rounds 1 ?_
    rewrite [rounds_succ]
    go_wp2_with fail
    go_ret
    exact ⟨⟨_, _, _, rfl, _, HW.out.1, fun x hx => by rw [hx]; exact Nat.le_refl _⟩, HW.out.2⟩
  rcases h with h | ⟨b, o, rfl, g⟩
  · exact absurd (by rw [← hl, h, List.length_nil]) hz
  have G : Hd (∀ j a, ls[j]? = some a → ∃ c, c.length = 3 ∧ RdMark w c a ∧ ∀ i v, c[i]? = some v → w.cell? ⟨b, o + j * 3 + i, none⟩ = some v) := ⟨g⟩
  have HN : Hd (ls.length = len ∧ wtMarkS ls ≤ 1073741824) := ⟨hl, hw⟩
  clear g hl hw hw7 hz
  go_enter Try.func68, Try.ntmps68
  go_wp2_with (at_make; refine wpList_make_full _ rfl _ _ 41 rfl w.heap.size 89 i0 (.agg #[.int .i64 0, .int .i64 0, .int .i64 0]) 3 Try.underlying41 hi hz0 hz1 _ _ _ _ len rfl rfl rfl rfl ?b1 ?b2 ?b3 ?_)
  case b1 => rw [hz2]; omega
  case b2 => unfold maxLen; omega
  case b3 => exact Nat.le_refl _
  intro w1 hown hgrow
  have HW : Hd (∃ css Fs F, OwP 3 89 OwMark w1 (.slice (some ⟨w.heap.size, 0, none⟩) len len) css Fs F (fillS ls (⟨0, 0, 0⟩ : MarkD) (0)) ∧ (∀ x, F x → w.heap.size ≤ x) ∧ Below w.heap.size w w1) := ⟨by
    have hlt := (hown.lt w.heap.size rfl).2
    have e7 := made_flat ([.int .i64 0, .int .i64 0, .int .i64 0] : List Value) (n := 3) rfl (by omega) len
    try simp only [Nat.mul_one] at e7
    have h7 : w1.ownsRow 0 89 3 (.slice (some ⟨w.heap.size, 0, none⟩) len len) len (List.replicate len ([.int .i64 0, .int .i64 0, .int .i64 0] : List Value)).flatten := by
      rw [← e7]; exact ownsRow_base hown (Nat.zero_le _)
    rw [fillS_zero, HN.out.1]
    exact ⟨_, _, _, owP_made h7 rfl hlt (owMark_zero _), fun x hx => by rw [hx]; exact Nat.le_refl _, (Below.refl _ w).grown hgrow (Nat.le_refl _) (fun _ h => by cases h)⟩⟩
  clear hown hgrow
  go_wp2_with fail
  go_loopw [4] (fun i wr => ∃ k : Nat, k ≤ len ∧ i = .int .i64 k ∧ Hd (∃ css Fs F, OwP 3 89 OwMark wr (.slice (some ⟨w.heap.size, 0, none⟩) len len) css Fs F (fillS ls (⟨0, 0, 0⟩ : MarkD) (k)) ∧ (∀ x, F x → w.heap.size ≤ x) ∧ Below w.heap.size w wr)) (fun i _ => len - (intOf i).toNat)
  case atStart => exact ⟨0, Nat.zero_le _, rfl, HW⟩
  case round =>
    obtain ⟨k, hk, rfl, HK⟩ := hrel
    clear HW
    by_cases hlt : k < len
    · have hlt' : (k : Int) < (len : Int) := by omega
      have h0 : (0 : Int) ≤ (k : Int) := by omega
      obtain ⟨css, Fs, F, P, hFb, hB⟩ := HK.out
      obtain ⟨a, ha⟩ := get_some (l := ls) (j := k) (by rw [HN.out.1]; exact hlt)
      obtain ⟨c, hcn, hR, hcell⟩ := G.out k a ha
      replace hR := rdMark_ok.below hR hB
      have HW9 : Hd (wtMark a ≤ 1073741824) := ⟨by have h7 := wtS_le wtMark ha; have h8 : wtS wtMark ls ≤ 1073741824 := HN.out.2; omega⟩
      have hkl : k < ls.length := by rw [HN.out.1]; exact hlt
      have hml : (fillS ls (⟨0, 0, 0⟩ : MarkD) k).length = len := by rw [fillS_len ls _ (by omega), HN.out.1]
      obtain ⟨co, hco, hcon, hEo⟩ := P.cellsAt (fillS_get ls (⟨0, 0, 0⟩ : MarkD) hkl)
      have hset : (fillS ls (⟨0, 0, 0⟩ : MarkD) k).set k a = fillS ls (⟨0, 0, 0⟩ : MarkD) (k + 1) := fillS_set ls _ ha
      have HQ : Hd (OwP 3 89 OwMark wr (.slice (some ⟨w.heap.size, 0, none⟩) len len) css Fs F (fillS ls (⟨0, 0, 0⟩ : MarkD) k) ∧ (∀ x, F x → w.heap.size ≤ x) ∧ Below w.heap.size w wr ∧ (fillS ls (⟨0, 0, 0⟩ : MarkD) k).length = len ∧ (fillS ls (⟨0, 0, 0⟩ : MarkD) k).set k a = fillS ls (⟨0, 0, 0⟩ : MarkD) (k + 1) ∧ css[k]? = some co ∧ co.length = 3 ∧ css.length = len) := ⟨P, hFb, hB, hml, hset, hco, hcon, by rw [P.size, hml]⟩
      obtain ⟨l0, l1, l2⟩ := a
      have hR0 := hR
      simp only [RdMark] at hR0
      subst hR0
      have t0 := cell_below (hcell 0 _ rfl) hB
      have t1 := cell_below (hcell 1 _ rfl) hB
      have t2 := cell_below (hcell 2 _ rfl) hB
      simp only [Nat.add_zero] at t0
      have QR : Hd (RdMark wr [.int .i64 l0, .int .i64 l1, .int .i64 l2] (⟨l0, l1, l2⟩ : MarkD)) := ⟨hR⟩
      clear hR hcell hcn ha P hFb hB hkl hml hco hcon hEo hset HK
      go_wp2_with fail
      refine (toMark_rd [.int .i64 l0, .int .i64 l1, .int .i64 l2] (⟨l0, l1, l2⟩ : MarkD) _ QR.out HW9.out).mono ?_
      rintro e w1 ⟨⟨cs1, rfl, G1, hE, hG⟩, hb⟩
      have HE0 := hE
      simp only [OwMark] at HE0
      obtain ⟨rfl, _⟩ := HE0
      have hql := HQ.out.2.2.2.2.2.2.1
      have O0 : Hd (w1.ownsRow 0 89 3 (.slice (some ⟨w.heap.size, 0, none⟩) len len) len (css.set k co).flatten) := ⟨by rw [set_self HQ.out.2.2.2.2.2.1]; have h7 := HQ.out.1.own; rw [HQ.out.2.2.2.1] at h7; exact ownsRow_keep h7 (fun b hb2 => hb.block b (h7.lt b hb2).2)⟩
      rcases co with _ | ⟨v0, co⟩
      · simp at hql
      rcases co with _ | ⟨v1, co⟩
      · simp at hql
      rcases co with _ | ⟨v2, co⟩
      · simp at hql
      rcases co with _ | ⟨v9, co⟩
      rotate_left
      · simp at hql
      clear hql
      have t0 := ownsRow_cell O0.out rfl (by rw [HQ.out.2.2.2.2.2.2.2]; exact hlt) HQ.out.2.2.2.2.2.2.2 HQ.out.1.lens rfl (i := 0) rfl
      have f0 := ownsRow_free O0.out rfl (k * 3)
      have t1 := ownsRow_cell O0.out rfl (by rw [HQ.out.2.2.2.2.2.2.2]; exact hlt) HQ.out.2.2.2.2.2.2.2 HQ.out.1.lens rfl (i := 1) rfl
      have f1 := ownsRow_free O0.out rfl (k * 3 + 1)
      have t2 := ownsRow_cell O0.out rfl (by rw [HQ.out.2.2.2.2.2.2.2]; exact hlt) HQ.out.2.2.2.2.2.2.2 HQ.out.1.lens rfl (i := 2) rfl
      have f2 := ownsRow_free O0.out rfl (k * 3 + 2)
      simp only [Nat.add_zero] at t0
      have O1 : Hd ((w1.setCell ⟨w.heap.size, k * 3, none⟩ (.int .i64 l0)).ownsRow 0 89 3 (.slice (some ⟨w.heap.size, 0, none⟩) len len) len (css.set k [.int .i64 l0, v1, v2]).flatten) := ⟨by have h7 := ownsRow_put (u := (.int .i64 l0 : Value)) O0.out rfl (by rw [HQ.out.2.2.2.2.2.2.2]; exact hlt) HQ.out.1.lens rfl (i := 0) (by omega) rfl; simp only [Nat.add_zero] at h7; exact h7⟩
      have O2 : Hd (((w1.setCell ⟨w.heap.size, k * 3, none⟩ (.int .i64 l0)).setCell ⟨w.heap.size, k * 3 + 1, none⟩ (.int .i64 l1)).ownsRow 0 89 3 (.slice (some ⟨w.heap.size, 0, none⟩) len len) len (css.set k [.int .i64 l0, .int .i64 l1, v2]).flatten) := ⟨by have h7 := ownsRow_put (u := (.int .i64 l1 : Value)) O1.out rfl (by rw [HQ.out.2.2.2.2.2.2.2]; exact hlt) HQ.out.1.lens rfl (i := 1) (by omega) rfl; exact h7⟩
      have O3 : Hd ((((w1.setCell ⟨w.heap.size, k * 3, none⟩ (.int .i64 l0)).setCell ⟨w.heap.size, k * 3 + 1, none⟩ (.int .i64 l1)).setCell ⟨w.heap.size, k * 3 + 2, none⟩ (.int .i64 l2)).ownsRow 0 89 3 (.slice (some ⟨w.heap.size, 0, none⟩) len len) len (css.set k [.int .i64 l0, .int .i64 l1, .int .i64 l2]).flatten) := ⟨by have h7 := ownsRow_put (u := (.int .i64 l2 : Value)) O2.out rfl (by rw [HQ.out.2.2.2.2.2.2.2]; exact hlt) HQ.out.1.lens rfl (i := 2) (by omega) rfl; exact h7⟩
      have HX : Hd (∃ css Fs F, OwP 3 89 OwMark (((w1.setCell ⟨w.heap.size, k * 3, none⟩ (.int .i64 l0)).setCell ⟨w.heap.size, k * 3 + 1, none⟩ (.int .i64 l1)).setCell ⟨w.heap.size, k * 3 + 2, none⟩ (.int .i64 l2)) (.slice (some ⟨w.heap.size, 0, none⟩) len len) css Fs F (fillS ls (⟨0, 0, 0⟩ : MarkD) (k + 1)) ∧ (∀ x, F x → w.heap.size ≤ x) ∧ Below w.heap.size w (((w1.setCell ⟨w.heap.size, k * 3, none⟩ (.int .i64 l0)).setCell ⟨w.heap.size, k * 3 + 1, none⟩ (.int .i64 l1)).setCell ⟨w.heap.size, k * 3 + 2, none⟩ (.int .i64 l2))) := ⟨by
        have hgk : w.heap.size < wr.heap.size := (HQ.out.1.own.lt w.heap.size rfl).2
        have hE2 : OwMark (((w1.setCell ⟨w.heap.size, k * 3, none⟩ (.int .i64 l0)).setCell ⟨w.heap.size, k * 3 + 1, none⟩ (.int .i64 l1)).setCell ⟨w.heap.size, k * 3 + 2, none⟩ (.int .i64 l2)) [.int .i64 l0, .int .i64 l1, .int .i64 l2] G1 (⟨l0, l1, l2⟩ : MarkD) := owMark_ok.keep hE (fun b hb2 => block_set (block_set (block_set (rfl) (by have := hG b hb2; omega)) (by have := hG b hb2; omega)) (by have := hG b hb2; omega))
        have hP := HQ.out.1.put owMark_ok (by rw [HQ.out.2.2.2.1]; exact hlt) (by rw [HQ.out.2.2.2.1]; exact O3.out) rfl hE2 (fun x hx => .inr (hG x hx)) (fun x hx h1 h2 => (block_set (block_set (block_set (rfl) (fun e => h1 (by rw [e]; rfl))) (fun e => h1 (by rw [e]; rfl))) (fun e => h1 (by rw [e]; rfl))).trans (hb.block x (HQ.out.1.lt x hx))) (by simp only [World.size_setCell]; exact hb.size)
        rw [HQ.out.2.2.2.2.1] at hP
        exact ⟨_, _, _, hP, fun x hx => hx.elim (HQ.out.2.1 x) (fun h => by have := hG x h; omega), bset (bset (bset (Below.trans HQ.out.2.2.1 (hb.mono HQ.out.2.2.1.size)) _ (Nat.le_refl _)) _ (Nat.le_refl _)) _ (Nat.le_refl _)⟩⟩
      clear HQ QR HW9 hE hG hb O0 O1 O2 O3
      go_wp2_with fail
      go_roundw
      case rel => exact ⟨k + 1, by omega, by go_num, HX⟩
      case measure => simp [intOf]; omega
    · have e : k = ls.length := by have := HN.out.1; omega
      have HF : Hd (AnsSl OwMarkS ls w (.returned (.slice (some ⟨w.heap.size, 0, none⟩) len len)) wr) := ⟨by
        obtain ⟨css, Fs, F, P, hFb, hB⟩ := HK.out
        rw [e, fillS_all] at P
        exact ⟨⟨_, _, _, rfl, F, ⟨_, css, Fs, rfl, P⟩, hFb⟩, hB⟩⟩
      clear e HK
      go_wp2
      go_ret
      exact HF.out

end Go.Proofs.Ytlididoalekeoaa
/- What the laws do with a Tab. -/
namespace Go.Proofs.Ytlididoalekeoaa
set_option maxRecDepth 4000
open Go.RowKit

def RdTab : Rd TabD := fun w cs a => ∃ (x0 : Option Addr) (m0 d0 : Nat) (x2 : Option Addr) (m2 d2 : Nat), cs = [.slice x0 m0 d0, .int .i64 a.phase, .slice x2 m2 d2] ∧ RdRowS w [.slice x0 m0 d0] (a.rows) ∧ RdMarkS w [.slice x2 m2 d2] (a.marks)
def RcTab : Rd TabD := fun w cs a => ∃ (x0 : Option Addr) (m0 d0 : Nat) (x2 : Option Addr) (m2 d2 : Nat), cs = [.slice x0 m0 d0, .int .i64 a.phase, .slice x2 m2 d2] ∧ RcRowS w [.slice x0 m0 d0] (a.rows) ∧ RcMarkS w [.slice x2 m2 d2] (a.marks)
def OwTab : Ow TabD := fun w cs F a => ∃ (x0 : Option Addr) (m0 d0 : Nat) (x2 : Option Addr) (m2 d2 : Nat) (F0 : Fp) (F2 : Fp), cs = [.slice x0 m0 d0, .int .i64 a.phase, .slice x2 m2 d2] ∧ OwRowS w [.slice x0 m0 d0] F0 (a.rows) ∧ OwMarkS w [.slice x2 m2 d2] F2 (a.marks) ∧ (∀ x, F0 x → ¬ F2 x) ∧ (∀ x, F x ↔ F0 x ∨ F2 x)
theorem rdTab_ok : RdOk 3 RdTab := ⟨fun ⟨_, _, _, _, _, _, e, _⟩ => by rw [e]; rfl, fun ⟨x0, m0, d0, x2, m2, d2, e, r0, r2⟩ hs => ⟨x0, m0, d0, x2, m2, d2, e, rdRowS_ok.keep r0 hs, rdMarkS_ok.keep r2 hs⟩⟩
theorem rcTab_ok : RdOk 3 RcTab := ⟨fun ⟨_, _, _, _, _, _, e, _⟩ => by rw [e]; rfl, fun ⟨x0, m0, d0, x2, m2, d2, e, r0, r2⟩ hs => ⟨x0, m0, d0, x2, m2, d2, e, rcRowS_ok.keep r0 hs, rcMarkS_ok.keep r2 hs⟩⟩
theorem rcTab_w {w : World} {cs : List Value} {a : TabD} (h : RcTab w cs a) : RdTab w cs a := by
  obtain ⟨x0, m0, d0, x2, m2, d2, e, r0, r2⟩ := h
  exact ⟨x0, m0, d0, x2, m2, d2, e, rcRowS_w r0, rcMarkS_w r2⟩
theorem owTab_ok : OwOk 3 OwTab RcTab where
  len := fun ⟨_, _, _, _, _, _, _, _, e, _⟩ => by rw [e]; rfl
  lt := fun {w _ F _} ⟨x0, m0, d0, x2, m2, d2, F0, F2, e, r0, r2, _, hF⟩ x hx => by
    rcases (hF x).1 hx with hx | hx
    · exact owRowS_ok.lt r0 x hx
    · exact owMarkS_ok.lt r2 x hx
  keep := fun ⟨x0, m0, d0, x2, m2, d2, F0, F2, e, r0, r2, e0, hF⟩ hs => ⟨x0, m0, d0, x2, m2, d2, F0, F2, e, owRowS_ok.keep r0 (fun b hb => hs b ((hF b).2 (.inl hb))), owMarkS_ok.keep r2 (fun b hb => hs b ((hF b).2 (.inr (hb)))), e0, hF⟩
  rd := fun ⟨x0, m0, d0, x2, m2, d2, F0, F2, e, r0, r2, _, _⟩ => ⟨x0, m0, d0, x2, m2, d2, e, owRowS_ok.rd r0, owMarkS_ok.rd r2⟩
theorem infoTab : (Try.prog.info? 43).map (·.size) = some 3 := by kernel_rfl
def wtTab (a : TabD) : Nat := wtRowS (a.rows) + wtMarkS (a.marks)

set_option maxHeartbeats 4000000 in
theorem szTab_rd (cs : List Value) (a : TabD) (n : Int) (w : World) (h : RdTab w cs a) (hn : 0 ≤ n ∧ n ≤ 1048576) :
    Calls Try.prog 20 #[.agg cs.toArray, .int .i64 n] w (SzOut n (wtTab a) w) := by
  obtain ⟨l0, l1, l2⟩ := a
  simp only [RdTab] at h
  obtain ⟨x0, m0, d0, x2, m2, d2, rfl, r0, r2⟩ := h
  unfold wtTab
  dsimp only
  have R0 : Hd (RdRowS w [.slice x0 m0 d0] l0) := ⟨r0⟩
  have R2 : Hd (RdMarkS w [.slice x2 m2 d2] l2) := ⟨r2⟩
  have N0 : Hd (0 ≤ n ∧ n ≤ n ∧ n ≤ 1048576 ∧ ((0 : Nat) : Int) + n ≤ n) := ⟨by omega⟩
  clear hn r0 r2
  go_enter Try.func20, Try.ntmps20
  go_wp2_with fail
  refine (szRowS_rd x0 m0 d0 l0 (n) _ (rdRowS_ok.below R0.out (below_lit w _)) ⟨by have := N0.out; omega, by have := N0.out; omega⟩).mono ?_
  rintro e w1 ⟨⟨s1, rfl, hs1, hs2, hs3⟩, hb⟩
  have K1 : Hd (w1.heap[w.heap.size]? = some (.cells #[.slice x0 m0 d0, .int .i64 l1, .slice x2 m2 d2] 36 (0, 0))) := ⟨(hb.block _ (by simp)).trans (heap_alloc_new w _)⟩
  have B1 : Hd (Below w.heap.size w w1) := ⟨Below.next (below_lit w _) hb⟩
  have M1 : Hd (s1 ≤ n ∧ n ≤ 1048576 ∧ (0 ≤ s1 → ((wtRowS l0 : Nat) : Int) + s1 ≤ n)) := ⟨by have := N0.out; refine ⟨by omega, by omega, fun hh => ?_⟩; have := hs3 hh; omega⟩
  clear hs1 hs2 hs3 hb
  by_cases hz1 : s1 < 0
  · go_wp2_with fail
    go_ret
    exact ⟨⟨-1, rfl, by omega, by have := N0.out; omega, fun h => by omega⟩, B1.out⟩
  have N1 : Hd (0 ≤ s1 ∧ s1 ≤ n ∧ n ≤ 1048576 ∧ ((wtRowS l0 : Nat) : Int) + s1 ≤ n) := ⟨by have := M1.out; omega⟩
  have c1 := cellsA K1.out 1 rfl
  have c2 := cellsA K1.out 2 rfl
  go_wp2_with fail
  clear hz1
  clear c1 c2
  refine (szMarkS_rd x2 m2 d2 l2 (s1) _ (rdMarkS_ok.below R2.out B1.out) ⟨by have := N1.out; omega, by have := N1.out; omega⟩).mono ?_
  rintro e w2 ⟨⟨s2, rfl, hs1, hs2, hs3⟩, hb⟩
  have K2 : Hd (w2.heap[w.heap.size]? = some (.cells #[.slice x0 m0 d0, .int .i64 l1, .slice x2 m2 d2] 36 (0, 0))) := ⟨(hb.block _ (lt_of_block K1.out)).trans K1.out⟩
  have B2 : Hd (Below w.heap.size w w2) := ⟨Below.next B1.out hb⟩
  have M2 : Hd (s2 ≤ n ∧ n ≤ 1048576 ∧ (0 ≤ s2 → ((wtRowS l0 + wtMarkS l2 : Nat) : Int) + s2 ≤ n)) := ⟨by have := N1.out; refine ⟨by omega, by omega, fun hh => ?_⟩; have := hs3 hh; omega⟩
  clear hs1 hs2 hs3 hb
  by_cases hz2 : s2 < 0
  · go_wp2_with fail
    go_ret
    exact ⟨⟨-1, rfl, by omega, by have := N0.out; omega, fun h => by omega⟩, B2.out⟩
  have N2 : Hd (0 ≤ s2 ∧ s2 ≤ n ∧ n ≤ 1048576 ∧ ((wtRowS l0 + wtMarkS l2 : Nat) : Int) + s2 ≤ n) := ⟨by have := M2.out; omega⟩
  go_wp2_with fail
  go_ret
  exact ⟨⟨s2, rfl, by have := N2.out; omega, by have := N2.out; omega, fun _ => N2.out.2.2.2⟩, B2.out⟩

set_option maxHeartbeats 4000000 in
theorem eqTab_rd (c1 c2 : List Value) (a : TabD) (w : World) (h1 : RdTab w c1 a) (h2 : RdTab w c2 a) (hw : wtTab a ≤ 1073741824) :
    Calls Try.prog 25 #[.agg c1.toArray, .agg c2.toArray] w fun e w' => e = .returned (.bool true) ∧ Below w.heap.size w w' := by
  obtain ⟨l0, l1, l2⟩ := a
  simp only [RdTab] at h1 h2
  obtain ⟨x0, m0, d0, x2, m2, d2, rfl, r0, r2⟩ := h1
  obtain ⟨y0, n0, b0, y2, n2, b2, rfl, t0, t2⟩ := h2
  unfold wtTab at hw
  dsimp only at hw
  have R0 : Hd (RdRowS w [.slice x0 m0 d0] l0 ∧ RdRowS w [.slice y0 n0 b0] l0 ∧ wtRowS l0 ≤ 1073741824) := ⟨r0, t0, by omega⟩
  have R2 : Hd (RdMarkS w [.slice x2 m2 d2] l2 ∧ RdMarkS w [.slice y2 n2 b2] l2 ∧ wtMarkS l2 ≤ 1073741824) := ⟨r2, t2, by omega⟩
  have f1 : (l1 != l1) = false := by simp
  clear hw r0 t0 r2 t2
  go_enter Try.func25, Try.ntmps25
  go_wp2_with fail
  generalize hA : Obj.cells #[Value.slice x0 m0 d0, .int .i64 l1, .slice x2 m2 d2] 43 = A
  generalize hB : Obj.cells #[Value.slice y0 n0 b0, .int .i64 l1, .slice y2 n2 b2] 43 = B
  have h0 : Below w.heap.size w ((w.alloc A).alloc B) := below_lit2 w A B
  refine (eqRowS_rd x0 m0 d0 y0 n0 b0 l0 _ (rdRowS_ok.below R0.out.1 h0) (rdRowS_ok.below R0.out.2.1 h0) R0.out.2.2).mono ?_
  rintro e w1 ⟨rfl, hb⟩
  obtain ⟨k1, k2⟩ := laid2 w A B
  subst hA hB
  have K1 : Hd (w1.heap[w.heap.size]? = some (.cells #[Value.slice x0 m0 d0, .int .i64 l1, .slice x2 m2 d2] 43 (0, 0))) := ⟨(hb.block _ (by simp; omega)).trans k1⟩
  have G1 : Hd (w1.heap[w.heap.size + 1]? = some (.cells #[Value.slice y0 n0 b0, .int .i64 l1, .slice y2 n2 b2] 43 (0, 0))) := ⟨(hb.block _ (by simp)).trans k2⟩
  have B1 : Hd (Below w.heap.size w w1) := ⟨Below.next h0 hb⟩
  clear hb h0 k1 k2
  have u1 := cellsA K1.out 1 rfl
  have v1 := cellsA G1.out 1 rfl
  have u2 := cellsA K1.out 2 rfl
  have v2 := cellsA G1.out 2 rfl
  go_wp2_with fail
  clear u1 v1 u2 v2
  refine (eqMarkS_rd x2 m2 d2 y2 n2 b2 l2 _ (rdMarkS_ok.below R2.out.1 B1.out) (rdMarkS_ok.below R2.out.2.1 B1.out) R2.out.2.2).mono ?_
  rintro e w2 ⟨rfl, hb⟩
  have K2 : Hd (w2.heap[w.heap.size]? = some (.cells #[Value.slice x0 m0 d0, .int .i64 l1, .slice x2 m2 d2] 43 (0, 0))) := ⟨(hb.block _ (lt_of_block K1.out)).trans K1.out⟩
  have G2 : Hd (w2.heap[w.heap.size + 1]? = some (.cells #[Value.slice y0 n0 b0, .int .i64 l1, .slice y2 n2 b2] 43 (0, 0))) := ⟨(hb.block _ (lt_of_block G1.out)).trans G1.out⟩
  have B2 : Hd (Below w.heap.size w w2) := ⟨Below.next B1.out hb⟩
  clear hb
  go_wp2_with fail
  go_ret
  exact ⟨rfl, B2.out⟩

set_option maxHeartbeats 4000000 in
theorem toTab_rd (cs : List Value) (a : TabD) (w : World) (h : RdTab w cs a) (hw : wtTab a ≤ 1073741824) :
    Calls Try.prog 22 #[.agg cs.toArray] w (AnsAgg OwTab a w) := by
  obtain ⟨l0, l1, l2⟩ := a
  simp only [RdTab] at h
  obtain ⟨x0, m0, d0, x2, m2, d2, rfl, r0, r2⟩ := h
  unfold wtTab at hw
  dsimp only at hw
  have R0 : Hd (RdRowS w [.slice x0 m0 d0] l0 ∧ wtRowS l0 ≤ 1073741824) := ⟨r0, by omega⟩
  have R2 : Hd (RdMarkS w [.slice x2 m2 d2] l2 ∧ wtMarkS l2 ≤ 1073741824) := ⟨r2, by omega⟩
  clear hw r0 r2
  go_enter Try.func22, Try.ntmps22
  go_wp2_with fail
  generalize hA : Obj.cells #[Value.slice x0 m0 d0, .int .i64 l1, .slice x2 m2 d2] 36 = A
  generalize hB : Obj.cells #[Value.slice none 0 0, .int .i64 0, .slice none 0 0] 43 = B
  have h3 : Below w.heap.size w (((w.alloc A).alloc B).alloc B) := below_lit3 w A B B
  refine (toRowS_rd x0 m0 d0 l0 _ (rdRowS_ok.below R0.out.1 h3) R0.out.2).mono ?_
  rintro e w1 ⟨⟨y0, n0, b0, rfl, F0, hE, hF⟩, hb⟩
  obtain ⟨k0, k1, k2⟩ := laid3 w A B B
  subst hA hB
  have A1 : Hd (w1.heap[w.heap.size]? = some (.cells #[Value.slice x0 m0 d0, .int .i64 l1, .slice x2 m2 d2] 36 (0, 0))) := ⟨(hb.block _ (by simp; omega)).trans k0⟩
  have Z1 : Hd (w1.heap[w.heap.size + 1]? = some (.cells #[Value.slice none 0 0, .int .i64 0, .slice none 0 0] 43 (0, 0))) := ⟨(hb.block _ (by simp)).trans k1⟩
  have C1 : Hd (w1.heap[w.heap.size + 1 + 1]? = some (.cells #[Value.slice none 0 0, .int .i64 0, .slice none 0 0] 43 (0, 0))) := ⟨(hb.block _ (by simp)).trans k2⟩
  simp only [World.size_alloc] at hF
  have B1 : Hd (Below w.heap.size w w1) := ⟨Below.next h3 hb⟩
  have O0_1 : Hd (OwRowS w1 [.slice y0 n0 b0] F0 l0 ∧ ∀ x, F0 x → w.heap.size + 3 ≤ x ∧ x < w1.heap.size) := ⟨hE, fun x hx => ⟨by have := hF x hx; omega, owRowS_ok.lt hE x hx⟩⟩
  clear hE hF hb h3 k0 k1 k2
  have z0 := cellsA C1.out 0 rfl
  have g0 := freeA C1.out 0
  have z1 := cellsA C1.out 1 rfl
  have g1 := freeA C1.out 1
  have c1 := cellsA A1.out 1 rfl
  have c2 := cellsA (show ((w1.setCell ⟨w.heap.size + 1 + 1, 0, none⟩ (.slice y0 n0 b0)).setCell ⟨w.heap.size + 1 + 1, 1, none⟩ (.int .i64 l1)).heap[w.heap.size]? = some (.cells #[Value.slice x0 m0 d0, .int .i64 l1, .slice x2 m2 d2] 36 (0, 0)) from block_set (block_set (A1.out) (by omega)) (by omega)) 2 rfl
  have A2 : Hd (((w1.setCell ⟨w.heap.size + 1 + 1, 0, none⟩ (.slice y0 n0 b0)).setCell ⟨w.heap.size + 1 + 1, 1, none⟩ (.int .i64 l1)).heap[w.heap.size]? = some (.cells #[Value.slice x0 m0 d0, .int .i64 l1, .slice x2 m2 d2] 36 (0, 0))) := ⟨block_set (block_set (A1.out) (by omega)) (by omega)⟩
  have Z2 : Hd (((w1.setCell ⟨w.heap.size + 1 + 1, 0, none⟩ (.slice y0 n0 b0)).setCell ⟨w.heap.size + 1 + 1, 1, none⟩ (.int .i64 l1)).heap[w.heap.size + 1]? = some (.cells #[Value.slice none 0 0, .int .i64 0, .slice none 0 0] 43 (0, 0))) := ⟨block_set (block_set (Z1.out) (by omega)) (by omega)⟩
  have C2 : Hd (((w1.setCell ⟨w.heap.size + 1 + 1, 0, none⟩ (.slice y0 n0 b0)).setCell ⟨w.heap.size + 1 + 1, 1, none⟩ (.int .i64 l1)).heap[w.heap.size + 1 + 1]? = some (.cells #[Value.slice y0 n0 b0, .int .i64 l1, .slice none 0 0] 43 (0, 0))) := ⟨setL (setL (C1.out) 0 _ rfl) 1 _ rfl⟩
  have B2 : Hd (Below w.heap.size w ((w1.setCell ⟨w.heap.size + 1 + 1, 0, none⟩ (.slice y0 n0 b0)).setCell ⟨w.heap.size + 1 + 1, 1, none⟩ (.int .i64 l1))) := ⟨bset (bset (B1.out) _ (by omega)) _ (by omega)⟩
  have O0_2 : Hd (OwRowS ((w1.setCell ⟨w.heap.size + 1 + 1, 0, none⟩ (.slice y0 n0 b0)).setCell ⟨w.heap.size + 1 + 1, 1, none⟩ (.int .i64 l1)) [.slice y0 n0 b0] F0 l0 ∧ ∀ x, F0 x → w.heap.size + 3 ≤ x ∧ x < ((w1.setCell ⟨w.heap.size + 1 + 1, 0, none⟩ (.slice y0 n0 b0)).setCell ⟨w.heap.size + 1 + 1, 1, none⟩ (.int .i64 l1)).heap.size) := ⟨owRowS_ok.keep O0_1.out.1 (fun b hb => block_set (block_set (rfl) (by have := (O0_1.out.2 b hb).1; omega)) (by have := (O0_1.out.2 b hb).1; omega)), fun x hx => ⟨(O0_1.out.2 x hx).1, by simp only [World.size_setCell]; exact (O0_1.out.2 x hx).2⟩⟩
  go_wp2_with fail
  clear A1 Z1 C1 B1 O0_1 z0 g0 z1 g1 c1 c2
  generalize (w1.setCell ⟨w.heap.size + 1 + 1, 0, none⟩ (.slice y0 n0 b0)).setCell ⟨w.heap.size + 1 + 1, 1, none⟩ (.int .i64 l1) = w2 at *
  refine (toMarkS_rd x2 m2 d2 l2 _ (rdMarkS_ok.below R2.out.1 B2.out) R2.out.2).mono ?_
  rintro e w3 ⟨⟨y2, n2, b2, rfl, F2, hE, hF⟩, hb⟩
  have A3 : Hd (w3.heap[w.heap.size]? = some (.cells #[Value.slice x0 m0 d0, .int .i64 l1, .slice x2 m2 d2] 36 (0, 0))) := ⟨(hb.block _ (lt_of_block A2.out)).trans A2.out⟩
  have Z3 : Hd (w3.heap[w.heap.size + 1]? = some (.cells #[Value.slice none 0 0, .int .i64 0, .slice none 0 0] 43 (0, 0))) := ⟨(hb.block _ (lt_of_block Z2.out)).trans Z2.out⟩
  have C3 : Hd (w3.heap[w.heap.size + 1 + 1]? = some (.cells #[Value.slice y0 n0 b0, .int .i64 l1, .slice none 0 0] 43 (0, 0))) := ⟨(hb.block _ (lt_of_block C2.out)).trans C2.out⟩
  have B3 : Hd (Below w.heap.size w w3) := ⟨Below.next B2.out hb⟩
  have O0_3 : Hd (OwRowS w3 [.slice y0 n0 b0] F0 l0 ∧ ∀ x, F0 x → w.heap.size + 3 ≤ x ∧ x < w3.heap.size) := ⟨owRowS_ok.below O0_2.out.1 hb, fun x hx => ⟨(O0_2.out.2 x hx).1, by have := (O0_2.out.2 x hx).2; have := hb.size; omega⟩⟩
  have O2_3 : Hd (OwMarkS w3 [.slice y2 n2 b2] F2 l2 ∧ ∀ x, F2 x → w.heap.size + 3 ≤ x ∧ x < w3.heap.size) := ⟨hE, fun x hx => ⟨by have := hF x hx; have := lt_of_block C2.out; omega, owMarkS_ok.lt hE x hx⟩⟩
  have X0_2 : Hd (∀ x, F0 x → ¬ F2 x) := ⟨fun x hx hy => by have := (O0_2.out.2 x hx).2; have := hF x hy; omega⟩
  clear hE hF hb A2 Z2 C2 B2 O0_2
  have z2 := cellsA C3.out 2 rfl
  have g2 := freeA C3.out 2
  have CF : Hd ((w3.setCell ⟨w.heap.size + 1 + 1, 2, none⟩ (.slice y2 n2 b2)).heap[w.heap.size + 1 + 1]? = some (.cells (List.toArray [.slice y0 n0 b0, .int .i64 l1, .slice y2 n2 b2]) 43 (0, 0))) := ⟨setL (C3.out) 2 _ rfl⟩
  have ZF : Hd ((w3.setCell ⟨w.heap.size + 1 + 1, 2, none⟩ (.slice y2 n2 b2)).heap[w.heap.size + 1]? = some (.cells #[Value.slice none 0 0, .int .i64 0, .slice none 0 0] 43 (0, 0))) := ⟨block_set (Z3.out) (by omega)⟩
  have hrg := rangeA CF.out
  have htz := thereA ZF.out 0 3 (by simp)
  have honz : Hd ((#[.slice y0 n0 b0, .int .i64 l1, .slice y2 n2 b2] : Array Value).all (·.oneCell') = true) := ⟨by simp [Value.oneCell']⟩
  obtain ⟨VF, hVF⟩ : ∃ V, (w3.setCell ⟨w.heap.size + 1 + 1, 2, none⟩ (.slice y2 n2 b2)).setCells (w.heap.size + 1) 0 [.slice y0 n0 b0, .int .i64 l1, .slice y2 n2 b2] = V := ⟨_, rfl⟩
  have HVF : Hd ((w3.setCell ⟨w.heap.size + 1 + 1, 2, none⟩ (.slice y2 n2 b2)).setCells (w.heap.size + 1) 0 [.slice y0 n0 b0, .int .i64 l1, .slice y2 n2 b2] = VF) := ⟨hVF⟩
  clear hVF
  have ZR : Hd (VF.heap[w.heap.size + 1]? = some (.cells #[.slice y0 n0 b0, .int .i64 l1, .slice y2 n2 b2] 43 (0, 0))) := ⟨by rw [← HVF.out]; exact setCells_lay ZF.out _ 0 (by simp) rfl⟩
  have BR : Hd (Below w.heap.size w VF) := ⟨by rw [← HVF.out]; exact bsetN (by omega) _ _ (bset (B3.out) _ (by omega))⟩
  have OR0 : Hd (OwRowS VF [.slice y0 n0 b0] F0 l0) := ⟨by rw [← HVF.out]; exact owRowS_ok.keep O0_3.out.1 (fun b hb => block_setN (block_set (rfl) (by have := (O0_3.out.2 b hb).1; omega)) _ _ (by have := (O0_3.out.2 b hb).1; omega))⟩
  have OR2 : Hd (OwMarkS VF [.slice y2 n2 b2] F2 l2) := ⟨by rw [← HVF.out]; exact owMarkS_ok.keep O2_3.out.1 (fun b hb => block_setN (block_set (rfl) (by have := (O2_3.out.2 b hb).1; omega)) _ _ (by have := (O2_3.out.2 b hb).1; omega))⟩
  have LO : Hd (∀ x, F0 x ∨ F2 x → w.heap.size ≤ x) := ⟨fun x hx => by
    rcases hx with hx | hx
    · have := (O0_3.out.2 x hx).1; omega
    · have := (O2_3.out.2 x hx).1; omega⟩
  clear A3 Z3 C3 B3 O0_3 O2_3 CF ZF
  go_wp2_with (first | (show wpList _ _ _ (Oper.mk _ (Op.load 43 _) _ _ _ _ :: _) _ _; refine wpList_load_to 43 _ rfl rfl (w.heap.size + 1 + 1) 0 rfl [.slice y0 n0 b0, .int .i64 l1, .slice y2 n2 b2] hrg Try.underlying43 rfl infoTab ?_) | (show wpList _ _ _ (Oper.mk _ (Op.store 43 _ _) _ _ _ _ :: _) _ _; refine wpList_store_to 43 _ _ rfl rfl (w.heap.size + 1) 0 #[.slice y0 n0 b0, .int .i64 l1, .slice y2 n2 b2] rfl rfl htz infoTab honz.out HVF.out ?_))
  refine bodyPost_ret (results_cell_row rfl _ _ (w.heap.size + 1) _ _ (0, 0) _ rfl ZR.out Try.underlying43 rfl (by kernel_rfl)) rfl ?_
  exact ⟨⟨[.slice y0 n0 b0, .int .i64 l1, .slice y2 n2 b2], rfl, fun x => F0 x ∨ F2 x, ⟨y0, n0, b0, y2, n2, b2, F0, F2, rfl, OR0.out, OR2.out, X0_2.out, fun x => Iff.rfl⟩, LO.out⟩, BR.out⟩

end Go.Proofs.Ytlididoalekeoaa
