/- Parts of the proof, one behind the other. -/
import Derived.Test.YtlididoalekeoaaMxRecsOf15
import Derived.Test.YtlididoalekeoaaMxRecsOf14
import Derived.Deep.RegionHeld3
import Derived.Test.YtlididoalekeoaaMxRecsOf10
/- A list of Rec that was marked: held. -/
namespace Go.Proofs.Ytlididoalekeoaa
set_option maxRecDepth 4000
open Go.RowKit

theorem rdRec_flat {w : World} {cs : List Value} {l0 : Int} {l1 : ByteArray} {l2 : Int} {l3 : List UInt8} {l4 : Int} {l5 : List UInt8} {l6 : Int} {l7 : Bool} {l8 : ByteArray} {l9 : Int} {l10 : Int} {l11 : Int} {l12 : Int} (h : RdRec w cs (⟨l0, (⟨l1, l2, l3, l4, l5, l6, l7⟩ : RowD), l8, l9, l10, l11, l12⟩ : RecD)) : ∃ (x3 : Option Addr) (m3 d3 : Nat) (x5 : Option Addr) (m5 d5 : Nat), cs = [.int .i64 l0, .string l1, .int .i64 l2, .slice x3 m3 d3, .int .i64 l4, .slice x5 m5 d5, .int .i64 l6, .bool l7, .string l8, .int .i64 l9, .int .i64 l10, .int .i64 l11, .int .i64 l12] ∧ RdB w [.slice x3 m3 d3] l3 ∧ RdB w [.slice x5 m5 d5] l5 := by
  obtain ⟨x3, m3, d3, x5, m5, d5, rfl, _, r1⟩ := h
  obtain ⟨_, _, _, _, _, _, e, c3, c5⟩ := rdRow_flat r1
  simp only [List.cons.injEq, Value.slice.injEq, and_true, true_and] at e
  obtain ⟨⟨rfl, rfl, rfl⟩, rfl, rfl, rfl⟩ := e
  exact ⟨_, _, _, _, _, _, rfl, c3, c5⟩

set_option maxRecDepth 100000 in
set_option maxHeartbeats 8000000 in
theorem heldRecS_rd (ao : Option Addr) (len cap m : Nat) (ls : List RecD) (w : World) (h : RdRecS w [.slice ao len cap] (mkRecS m ls)) (hs : m + ctRecS ls ≤ 1073741824) (hm : 0 < m) :
    Calls Try.prog 28 #[.slice ao len cap, .int .i64 (m : Int)] w fun e w' => e = .returned (.int .i64 ((m + ctRecS ls : Nat) : Int)) ∧ Below w.heap.size w w' := by
  replace h := rdRecS_parts h
  obtain ⟨hm9, hl, h⟩ := h
  rw [mkS_len] at hl
  by_cases hz : len = 0
  · subst hz
    obtain rfl : ls = [] := List.eq_nil_of_length_eq_zero hl
    clear h hl hs hm9
    go_enter Try.func28, Try.ntmps28
    go_wp2_with fail
    refine wp_loop_rounds 1 ?_
    rewrite [rounds_succ]
    go_wp2_with fail
    go_ret
    exact ⟨rfl, Below.refl _ w⟩
  rcases h with h | ⟨b, o, rfl, g⟩
  · exact absurd (by have hh := mkS_len mkRec ctRec ls m; rw [show mkS mkRec ctRec m ls = [] from h] at hh; rw [← hl, ← hh, List.length_nil]) hz
  have G : Hd (∀ j a, ls[j]? = some a → ∃ c, c.length = 13 ∧ RdRec w c (mkRec (m + ctRecS (ls.take j)) a) ∧ ∀ i v, c[i]? = some v → w.cell? ⟨b, o + j * 13 + i, none⟩ = some v) := ⟨fun j a ha => g j _ (by rw [mkS_get, ha]; rfl)⟩
  have HN : Hd (ls.length = len ∧ m + ctRecS ls ≤ 1073741824) := ⟨hl, hs⟩
  have HM0 : Hd (0 < m) := ⟨hm⟩
  have hlen : len ≤ 9223372036854775807 := by unfold maxLen at hm9; exact hm9
  obtain ⟨R, hR⟩ : ∃ R, m + ctRecS ls = R := ⟨_, rfl⟩
  have HR : Hd (m + ctRecS ls = R) := ⟨hR⟩
  rw [hR]
  have HZ : Hd (m + ctRecS (ls.take 0) = m) := ⟨rfl⟩
  clear g hl hs hz hR hm9 hm
  go_enter Try.func28, Try.ntmps28
  go_wp2
  go_loopw [1, 5] (fun q i wr => ∃ k : Nat, k ≤ len ∧ i = .int .i64 k ∧ ∃ l : Nat, q = .int .i64 (l : Int) ∧ Hd (m + ctRecS (ls.take k) = l) ∧ Hd (Below w.heap.size w wr)) (fun _ i _ => len - (intOf i).toNat)
  case atStart => exact ⟨0, Nat.zero_le _, rfl, m, rfl, HZ, ⟨Below.refl _ w⟩⟩
  case round =>
    obtain ⟨k, hk, rfl, p0, rfl, HL, HB⟩ := hrel
    clear HZ
    by_cases hlt : k < len
    · have hlt' : (k : Int) < (len : Int) := by omega
      have h0 : (0 : Int) ≤ (k : Int) := by omega
      obtain ⟨a, ha⟩ := get_some (l := ls) (j := k) (by rw [HN.out.1]; exact hlt)
      obtain ⟨c, hcn, hR, hcell⟩ := G.out k a ha
      rw [HL.out] at hR
      have HS : Hd (m + ctRecS (ls.take (k + 1)) = p0 + ctRec a ∧ p0 + ctRec a ≤ 1073741824) := ⟨by
        have h1 : ctRecS (ls.take (k + 1)) = ctRecS (ls.take k) + ctRec a := ctS_take_succ ctRec ha
        have h2 : ctRecS (ls.take (k + 1)) ≤ ctRecS ls := ctS_take_le ctRec ls (k + 1)
        have := HL.out; have := HN.out; omega⟩
      replace hR := rdRec_ok.below hR HB.out
      replace hcell : ∀ i v, c[i]? = some v → wr.cell? ⟨b, o + k * 13 + i, none⟩ = some v := fun i v hi => cell_below (hcell i v hi) HB.out
      obtain ⟨l0, ⟨l1, l2, l3, l4, l5, l6, l7⟩, l8, l9, l10, l11, l12⟩ := a
      obtain ⟨p1, hp1⟩ : ∃ p : Nat, p0 + 1 = p := ⟨_, rfl⟩
      have P1 : Hd (p0 + 1 = p1) := ⟨hp1⟩
      obtain ⟨p2, hp2⟩ : ∃ p : Nat, p1 + 1 = p := ⟨_, rfl⟩
      have P2 : Hd (p1 + 1 = p2) := ⟨hp2⟩
      obtain ⟨p3, hp3⟩ : ∃ p : Nat, p2 + 1 = p := ⟨_, rfl⟩
      have P3 : Hd (p2 + 1 = p3) := ⟨hp3⟩
      obtain ⟨p4, hp4⟩ : ∃ p : Nat, p3 + ctB l3 = p := ⟨_, rfl⟩
      have P4 : Hd (p3 + ctB l3 = p4) := ⟨hp4⟩
      obtain ⟨p5, hp5⟩ : ∃ p : Nat, p4 + 1 = p := ⟨_, rfl⟩
      have P5 : Hd (p4 + 1 = p5) := ⟨hp5⟩
      obtain ⟨p6, hp6⟩ : ∃ p : Nat, p5 + ctB l5 = p := ⟨_, rfl⟩
      have P6 : Hd (p5 + ctB l5 = p6) := ⟨hp6⟩
      obtain ⟨p7, hp7⟩ : ∃ p : Nat, p6 + 1 = p := ⟨_, rfl⟩
      have P7 : Hd (p6 + 1 = p7) := ⟨hp7⟩
      obtain ⟨p8, hp8⟩ : ∃ p : Nat, p7 + 1 = p := ⟨_, rfl⟩
      have P8 : Hd (p7 + 1 = p8) := ⟨hp8⟩
      obtain ⟨p9, hp9⟩ : ∃ p : Nat, p8 + 1 = p := ⟨_, rfl⟩
      have P9 : Hd (p8 + 1 = p9) := ⟨hp9⟩
      obtain ⟨p10, hp10⟩ : ∃ p : Nat, p9 + 1 = p := ⟨_, rfl⟩
      have P10 : Hd (p9 + 1 = p10) := ⟨hp10⟩
      obtain ⟨p11, hp11⟩ : ∃ p : Nat, p10 + 1 = p := ⟨_, rfl⟩
      have P11 : Hd (p10 + 1 = p11) := ⟨hp11⟩
      obtain ⟨p12, hp12⟩ : ∃ p : Nat, p11 + 1 = p := ⟨_, rfl⟩
      have P12 : Hd (p11 + 1 = p12) := ⟨hp12⟩
      obtain ⟨p13, hp13⟩ : ∃ p : Nat, p12 + 1 = p := ⟨_, rfl⟩
      have P13 : Hd (p12 + 1 = p13) := ⟨hp13⟩
      rw [show mkRec p0 (⟨l0, (⟨l1, l2, l3, l4, l5, l6, l7⟩ : RowD), l8, l9, l10, l11, l12⟩ : RecD) = (⟨((p0 : Nat) : Int), (⟨(markT p1), ((p2 : Nat) : Int), mkB p3 l3, ((p4 : Nat) : Int), mkB p5 l5, ((p6 : Nat) : Int), (decide (p7 % 3 = 0))⟩ : RowD), (markT p8), ((p9 : Nat) : Int), ((p10 : Nat) : Int), ((p11 : Nat) : Int), ((p12 : Nat) : Int)⟩ : RecD) by unfold mkRec; dsimp only; rw [P1.out, P2.out, P3.out, P4.out, P5.out, P6.out, P7.out, P8.out, P9.out, P10.out, P11.out, P12.out]] at hR
      obtain ⟨x3, m3, d3, x5, m5, d5, rfl, r3, r5⟩ := rdRec_flat hR
      have HS2 : Hd (m + ctRecS (ls.take (k + 1)) = p0 + 1 + 1 + 1 + ctB l3 + 1 + ctB l5 + 1 + 1 + 1 + 1 + 1 + 1 + 1 ∧ p0 + 1 + 1 + 1 + ctB l3 + 1 + ctB l5 + 1 + 1 + 1 + 1 + 1 + 1 + 1 ≤ 1073741824) := ⟨by have h7 := HS.out; unfold ctRec at h7; (try dsimp only at h7); omega⟩
      have HT : Hd (m + ctRecS (ls.take (k + 1)) = p13 ∧ p13 ≤ 1073741824) := ⟨by have := HS2.out; have := P1.out; have := P2.out; have := P3.out; have := P4.out; have := P5.out; have := P6.out; have := P7.out; have := P8.out; have := P9.out; have := P10.out; have := P11.out; have := P12.out; have := P13.out; omega⟩
      have HPos : Hd (0 < p0) := ⟨by have := HL.out; have := HM0.out; omega⟩
      have Q3_0 : Hd (RdB wr [.slice x3 m3 d3] (mkB p3 l3)) := ⟨r3⟩
      have Q5_0 : Hd (RdB wr [.slice x5 m5 d5] (mkB p5 l5)) := ⟨r5⟩
      have C0 : Hd (∀ i v, ([.int .i64 ((p0 : Nat) : Int), .string (markT p1), .int .i64 ((p2 : Nat) : Int), .slice x3 m3 d3, .int .i64 ((p4 : Nat) : Int), .slice x5 m5 d5, .int .i64 ((p6 : Nat) : Int), .bool (decide (p7 % 3 = 0)), .string (markT p8), .int .i64 ((p9 : Nat) : Int), .int .i64 ((p10 : Nat) : Int), .int .i64 ((p11 : Nat) : Int), .int .i64 ((p12 : Nat) : Int)] : List Value)[i]? = some v → wr.cell? ⟨b, o + k * 13 + i, none⟩ = some v) := ⟨hcell⟩
      have B0 : Hd (Below w.heap.size w wr) := ⟨HB.out⟩
      have I0 : Hd (((p0 : Nat) : Int) + 1 = ((p1 : Nat) : Int)) := ⟨by have := P1.out; omega⟩
      have J0 : Hd (((p0 : Nat) : Int) ≤ 1073741823) := ⟨by have := HT.out.2; have := P1.out; have := P2.out; have := P3.out; have := P4.out; have := P5.out; have := P6.out; have := P7.out; have := P8.out; have := P9.out; have := P10.out; have := P11.out; have := P12.out; have := P13.out; omega⟩
      have I1 : Hd (((p1 : Nat) : Int) + 1 = ((p2 : Nat) : Int)) := ⟨by have := P2.out; omega⟩
      have J1 : Hd (((p1 : Nat) : Int) ≤ 1073741823) := ⟨by have := HT.out.2; have := P2.out; have := P3.out; have := P4.out; have := P5.out; have := P6.out; have := P7.out; have := P8.out; have := P9.out; have := P10.out; have := P11.out; have := P12.out; have := P13.out; omega⟩
      have I2 : Hd (((p2 : Nat) : Int) + 1 = ((p3 : Nat) : Int)) := ⟨by have := P3.out; omega⟩
      have J2 : Hd (((p2 : Nat) : Int) ≤ 1073741823) := ⟨by have := HT.out.2; have := P3.out; have := P4.out; have := P5.out; have := P6.out; have := P7.out; have := P8.out; have := P9.out; have := P10.out; have := P11.out; have := P12.out; have := P13.out; omega⟩
      have I4 : Hd (((p4 : Nat) : Int) + 1 = ((p5 : Nat) : Int)) := ⟨by have := P5.out; omega⟩
      have J4 : Hd (((p4 : Nat) : Int) ≤ 1073741823) := ⟨by have := HT.out.2; have := P5.out; have := P6.out; have := P7.out; have := P8.out; have := P9.out; have := P10.out; have := P11.out; have := P12.out; have := P13.out; omega⟩
      have I6 : Hd (((p6 : Nat) : Int) + 1 = ((p7 : Nat) : Int)) := ⟨by have := P7.out; omega⟩
      have J6 : Hd (((p6 : Nat) : Int) ≤ 1073741823) := ⟨by have := HT.out.2; have := P7.out; have := P8.out; have := P9.out; have := P10.out; have := P11.out; have := P12.out; have := P13.out; omega⟩
      have I7 : Hd (((p7 : Nat) : Int) + 1 = ((p8 : Nat) : Int)) := ⟨by have := P8.out; omega⟩
      have J7 : Hd (((p7 : Nat) : Int) ≤ 1073741823) := ⟨by have := HT.out.2; have := P8.out; have := P9.out; have := P10.out; have := P11.out; have := P12.out; have := P13.out; omega⟩
      have I8 : Hd (((p8 : Nat) : Int) + 1 = ((p9 : Nat) : Int)) := ⟨by have := P9.out; omega⟩
      have J8 : Hd (((p8 : Nat) : Int) ≤ 1073741823) := ⟨by have := HT.out.2; have := P9.out; have := P10.out; have := P11.out; have := P12.out; have := P13.out; omega⟩
      have I9 : Hd (((p9 : Nat) : Int) + 1 = ((p10 : Nat) : Int)) := ⟨by have := P10.out; omega⟩
      have J9 : Hd (((p9 : Nat) : Int) ≤ 1073741823) := ⟨by have := HT.out.2; have := P10.out; have := P11.out; have := P12.out; have := P13.out; omega⟩
      have I10 : Hd (((p10 : Nat) : Int) + 1 = ((p11 : Nat) : Int)) := ⟨by have := P11.out; omega⟩
      have J10 : Hd (((p10 : Nat) : Int) ≤ 1073741823) := ⟨by have := HT.out.2; have := P11.out; have := P12.out; have := P13.out; omega⟩
      have I11 : Hd (((p11 : Nat) : Int) + 1 = ((p12 : Nat) : Int)) := ⟨by have := P12.out; omega⟩
      have J11 : Hd (((p11 : Nat) : Int) ≤ 1073741823) := ⟨by have := HT.out.2; have := P12.out; have := P13.out; omega⟩
      have I12 : Hd (((p12 : Nat) : Int) + 1 = ((p13 : Nat) : Int)) := ⟨by have := P13.out; omega⟩
      have J12 : Hd (((p12 : Nat) : Int) ≤ 1073741823) := ⟨by have := HT.out.2; have := P13.out; omega⟩
      clear HS HS2 hcell hcn ha hR HL HB hp1 hp2 hp3 hp4 hp5 hp6 hp7 hp8 hp9 hp10 hp11 hp12 hp13 r3 r5
      have t0 := C0.out 0 _ rfl
      simp only [Nat.add_zero] at t0
      have q0 : (((p0 : Nat) : Int) != ((p0 : Nat) : Int)) = false := by rw [show ((p0 : Nat) : Int) = ((p0 : Nat) : Int) by omega]; simp
      have j0 := J0.out
      go_wp2_with fail
      rewrite [I0.out]
      clear t0 j0 q0
      have t1 := C0.out 1 _ rfl
      have KK : Hd (∀ w', Below wr.heap.size wr w' → w'.cell? ⟨b, o + k * 13 + 1, none⟩ = some (.string (markT p1))) := ⟨fun w' hb => cell_below t1 hb⟩
      have D0 : Hd (Below wr.heap.size wr wr.drew) := ⟨(Below.refl _ wr).drew⟩
      have HA : Hd (0 < p1 ∧ p1 ≤ 1073741824) := ⟨by have := HPos.out; have := P1.out; omega, by have := HT.out.2; have := P2.out; have := P3.out; have := P4.out; have := P5.out; have := P6.out; have := P7.out; have := P8.out; have := P9.out; have := P10.out; have := P11.out; have := P12.out; have := P13.out; omega⟩
      go_region_held (fun w' => w'.cell? ⟨b, o + k * 13 + 1, none⟩ = some (.string (markT p1))) (first | (with_reducible exact KK.out _ D1.out) | (with_reducible exact KK.out _ D0.out))
        (first | (go_at_call 76; refine (markText_any p1 _ HA.out.1 HA.out.2).mono ?_; rintro e v1 ⟨rfl, hB⟩; have D1 : Hd (Below wr.heap.size wr v1) := ⟨Below.next D0.out hB⟩; clear hB))
      have hb := D1.out
      clear KK D0 D1 HA
      clear t1
      have Q3_1 : Hd (RdB v1 [.slice x3 m3 d3] (mkB p3 l3)) := ⟨rdB_ok.below Q3_0.out hb⟩
      have Q5_1 : Hd (RdB v1 [.slice x5 m5 d5] (mkB p5 l5)) := ⟨rdB_ok.below Q5_0.out hb⟩
      have C1 : Hd (∀ i v, ([.int .i64 ((p0 : Nat) : Int), .string (markT p1), .int .i64 ((p2 : Nat) : Int), .slice x3 m3 d3, .int .i64 ((p4 : Nat) : Int), .slice x5 m5 d5, .int .i64 ((p6 : Nat) : Int), .bool (decide (p7 % 3 = 0)), .string (markT p8), .int .i64 ((p9 : Nat) : Int), .int .i64 ((p10 : Nat) : Int), .int .i64 ((p11 : Nat) : Int), .int .i64 ((p12 : Nat) : Int)] : List Value)[i]? = some v → v1.cell? ⟨b, o + k * 13 + i, none⟩ = some v) := ⟨fun i v hi => cell_below (C0.out i v hi) hb⟩
      have B1 : Hd (Below w.heap.size w v1) := ⟨Below.next B0.out hb⟩
      clear hb C0 B0 Q3_0 Q5_0
      have j1 := J1.out
      have t2 := C1.out 2 _ rfl
      have q2 : (((p2 : Nat) : Int) != ((p1 : Nat) : Int) + 1) = false := by rw [show ((p1 : Nat) : Int) + 1 = ((p2 : Nat) : Int) by have := P2.out; omega]; simp
      have j2 := J2.out
      have t3 := C1.out 3 _ rfl
      go_wp2_with fail
      rewrite [I1.out]
      rewrite [I2.out]
      refine (heldByteS_rd x3 m3 d3 p3 l3 _ Q3_1.out (by have := HT.out.2; have := P4.out; have := P5.out; have := P6.out; have := P7.out; have := P8.out; have := P9.out; have := P10.out; have := P11.out; have := P12.out; have := P13.out; omega)).mono ?_
      rintro e v2 ⟨rfl, hb⟩
      rewrite [show p3 + ctB l3 = p4 from P4.out]
      clear j1 t2 j2 q2 t3
      have Q3_2 : Hd (RdB v2 [.slice x3 m3 d3] (mkB p3 l3)) := ⟨rdB_ok.below Q3_1.out hb⟩
      have Q5_2 : Hd (RdB v2 [.slice x5 m5 d5] (mkB p5 l5)) := ⟨rdB_ok.below Q5_1.out hb⟩
      have C2 : Hd (∀ i v, ([.int .i64 ((p0 : Nat) : Int), .string (markT p1), .int .i64 ((p2 : Nat) : Int), .slice x3 m3 d3, .int .i64 ((p4 : Nat) : Int), .slice x5 m5 d5, .int .i64 ((p6 : Nat) : Int), .bool (decide (p7 % 3 = 0)), .string (markT p8), .int .i64 ((p9 : Nat) : Int), .int .i64 ((p10 : Nat) : Int), .int .i64 ((p11 : Nat) : Int), .int .i64 ((p12 : Nat) : Int)] : List Value)[i]? = some v → v2.cell? ⟨b, o + k * 13 + i, none⟩ = some v) := ⟨fun i v hi => cell_below (C1.out i v hi) hb⟩
      have B2 : Hd (Below w.heap.size w v2) := ⟨Below.next B1.out hb⟩
      clear hb C1 B1 Q3_1 Q5_1
      have hz3 : ¬ ((p4 : Nat) : Int) < 0 := by omega
      have t4 := C2.out 4 _ rfl
      have q4 : (((p4 : Nat) : Int) != ((p4 : Nat) : Int)) = false := by rw [show ((p4 : Nat) : Int) = ((p4 : Nat) : Int) by omega]; simp
      have j4 := J4.out
      have t5 := C2.out 5 _ rfl
      go_wp2_with fail
      rewrite [I4.out]
      refine (heldByteS_rd x5 m5 d5 p5 l5 _ Q5_2.out (by have := HT.out.2; have := P6.out; have := P7.out; have := P8.out; have := P9.out; have := P10.out; have := P11.out; have := P12.out; have := P13.out; omega)).mono ?_
      rintro e v3 ⟨rfl, hb⟩
      rewrite [show p5 + ctB l5 = p6 from P6.out]
      clear hz3 t4 j4 q4 t5
      have Q3_3 : Hd (RdB v3 [.slice x3 m3 d3] (mkB p3 l3)) := ⟨rdB_ok.below Q3_2.out hb⟩
      have Q5_3 : Hd (RdB v3 [.slice x5 m5 d5] (mkB p5 l5)) := ⟨rdB_ok.below Q5_2.out hb⟩
      have C3 : Hd (∀ i v, ([.int .i64 ((p0 : Nat) : Int), .string (markT p1), .int .i64 ((p2 : Nat) : Int), .slice x3 m3 d3, .int .i64 ((p4 : Nat) : Int), .slice x5 m5 d5, .int .i64 ((p6 : Nat) : Int), .bool (decide (p7 % 3 = 0)), .string (markT p8), .int .i64 ((p9 : Nat) : Int), .int .i64 ((p10 : Nat) : Int), .int .i64 ((p11 : Nat) : Int), .int .i64 ((p12 : Nat) : Int)] : List Value)[i]? = some v → v3.cell? ⟨b, o + k * 13 + i, none⟩ = some v) := ⟨fun i v hi => cell_below (C2.out i v hi) hb⟩
      have B3 : Hd (Below w.heap.size w v3) := ⟨Below.next B2.out hb⟩
      clear hb C2 B2 Q3_2 Q5_2
      have hz5 : ¬ ((p6 : Nat) : Int) < 0 := by omega
      have t6 := C3.out 6 _ rfl
      have q6 : (((p6 : Nat) : Int) != ((p6 : Nat) : Int)) = false := by rw [show ((p6 : Nat) : Int) = ((p6 : Nat) : Int) by omega]; simp
      have j6 := J6.out
      have t7 := C3.out 7 _ rfl
      have q7 : (decide (p7 % 3 = 0) == ((((p6 : Nat) : Int) + 1) % 3 == 0)) = true := by rw [show ((p6 : Nat) : Int) + 1 = ((p7 : Nat) : Int) by have := P7.out; omega]; by_cases hx : p7 % 3 = 0 <;> simp [hx] <;> omega
      have j7 := J7.out
      go_wp2_with fail
      rewrite [I6.out]
      rewrite [I7.out]
      clear hz5 t6 j6 q6 t7 j7 q7
      have t8 := C3.out 8 _ rfl
      have KK : Hd (∀ w', Below v3.heap.size v3 w' → w'.cell? ⟨b, o + k * 13 + 8, none⟩ = some (.string (markT p8))) := ⟨fun w' hb => cell_below t8 hb⟩
      have D0 : Hd (Below v3.heap.size v3 v3.drew) := ⟨(Below.refl _ v3).drew⟩
      have HA : Hd (0 < p8 ∧ p8 ≤ 1073741824) := ⟨by have := HPos.out; have := P1.out; have := P2.out; have := P3.out; have := P4.out; have := P5.out; have := P6.out; have := P7.out; have := P8.out; omega, by have := HT.out.2; have := P9.out; have := P10.out; have := P11.out; have := P12.out; have := P13.out; omega⟩
      go_region_held (fun w' => w'.cell? ⟨b, o + k * 13 + 8, none⟩ = some (.string (markT p8))) (first | (with_reducible exact KK.out _ D1.out) | (with_reducible exact KK.out _ D0.out))
        (first | (go_at_call 76; refine (markText_any p8 _ HA.out.1 HA.out.2).mono ?_; rintro e v4 ⟨rfl, hB⟩; have D1 : Hd (Below v3.heap.size v3 v4) := ⟨Below.next D0.out hB⟩; clear hB))
      have hb := D1.out
      clear KK D0 D1 HA
      clear t8
      have Q3_4 : Hd (RdB v4 [.slice x3 m3 d3] (mkB p3 l3)) := ⟨rdB_ok.below Q3_3.out hb⟩
      have Q5_4 : Hd (RdB v4 [.slice x5 m5 d5] (mkB p5 l5)) := ⟨rdB_ok.below Q5_3.out hb⟩
      have C4 : Hd (∀ i v, ([.int .i64 ((p0 : Nat) : Int), .string (markT p1), .int .i64 ((p2 : Nat) : Int), .slice x3 m3 d3, .int .i64 ((p4 : Nat) : Int), .slice x5 m5 d5, .int .i64 ((p6 : Nat) : Int), .bool (decide (p7 % 3 = 0)), .string (markT p8), .int .i64 ((p9 : Nat) : Int), .int .i64 ((p10 : Nat) : Int), .int .i64 ((p11 : Nat) : Int), .int .i64 ((p12 : Nat) : Int)] : List Value)[i]? = some v → v4.cell? ⟨b, o + k * 13 + i, none⟩ = some v) := ⟨fun i v hi => cell_below (C3.out i v hi) hb⟩
      have B4 : Hd (Below w.heap.size w v4) := ⟨Below.next B3.out hb⟩
      clear hb C3 B3 Q3_3 Q5_3
      have j8 := J8.out
      have t9 := C4.out 9 _ rfl
      have q9 : (((p9 : Nat) : Int) != ((p8 : Nat) : Int) + 1) = false := by rw [show ((p8 : Nat) : Int) + 1 = ((p9 : Nat) : Int) by have := P9.out; omega]; simp
      have j9 := J9.out
      have t10 := C4.out 10 _ rfl
      have q10 : (((p10 : Nat) : Int) != ((p8 : Nat) : Int) + 1 + 1) = false := by rw [show ((p8 : Nat) : Int) + 1 + 1 = ((p10 : Nat) : Int) by have := P9.out; have := P10.out; omega]; simp
      have j10 := J10.out
      have t11 := C4.out 11 _ rfl
      have q11 : (((p11 : Nat) : Int) != ((p8 : Nat) : Int) + 1 + 1 + 1) = false := by rw [show ((p8 : Nat) : Int) + 1 + 1 + 1 = ((p11 : Nat) : Int) by have := P9.out; have := P10.out; have := P11.out; omega]; simp
      have j11 := J11.out
      have t12 := C4.out 12 _ rfl
      have q12 : (((p12 : Nat) : Int) != ((p8 : Nat) : Int) + 1 + 1 + 1 + 1) = false := by rw [show ((p8 : Nat) : Int) + 1 + 1 + 1 + 1 = ((p12 : Nat) : Int) by have := P9.out; have := P10.out; have := P11.out; have := P12.out; omega]; simp
      have j12 := J12.out
      have HL1 : Hd (m + ctRecS (ls.take (k + 1)) = p13) := ⟨HT.out.1⟩
      go_wp2_with fail
      rewrite [I8.out]
      rewrite [I9.out]
      rewrite [I10.out]
      rewrite [I11.out]
      rewrite [I12.out]
      go_roundw
      case rel => exact ⟨k + 1, by omega, by go_num, p13, rfl, HL1, B4⟩
      case measure => simp [intOf]; omega
    · have HF : Hd (p0 = R) := ⟨by have h1 := HL.out; rw [List.take_of_length_le (by have := HN.out.1; omega)] at h1; rw [← h1, ← HR.out]⟩
      clear HL
      go_wp2
      go_ret
      exact ⟨by rw [← HF.out]; rfl, HB.out⟩

end Go.Proofs.Ytlididoalekeoaa
/- How much the records of a tab weigh. -/
namespace Go.Proofs.Ytlididoalekeoaa
set_option maxRecDepth 4000
open Go.RowKit

theorem ctRow_wt (a : RowD) : ctRow a ≤ 16 * (wtRow a + 1) := by unfold ctRow wtRow wtCell wtB ctB; dsimp only; omega
theorem ctMark_wt (a : MarkD) : ctMark a ≤ 16 * (wtMark a + 1) := by unfold ctMark; omega
theorem ctRec_wt (a : RecD) : ctRec a ≤ 16 * (wtRec a + 1) := by unfold ctRec wtRec wtRow wtCell wtB ctB; dsimp only; omega
theorem cuTab_wt (a : TabD) : cuTab a ≤ 16 * wtTab a := by
  have h1 := ctS_wtS ctRow wtRow 16 ctRow_wt a.rows
  have h2 := ctS_wtS ctMark wtMark 16 ctMark_wt a.marks
  have e1 : ctRowS a.rows = ctS ctRow a.rows := rfl
  have e2 : ctMarkS a.marks = ctS ctMark a.marks := rfl
  have e3 : wtRowS a.rows = wtS wtRow a.rows := rfl
  have e4 : wtMarkS a.marks = wtS wtMark a.marks := rfl
  unfold cuTab wtTab
  omega
theorem wtS_app {α : Type} (wt : α → Nat) (l m : List α) : wtS wt (l ++ m) = wtS wt l + wtS wt m := by unfold wtS; simp [List.map_append, List.sum_append]; omega
theorem wtS_rowR (l : List RowD) : wtS wtRec (l.map rowR) = wtS wtRow l := by
  unfold wtS
  rw [List.length_map, List.map_map]
  congr 2
theorem wtS_markR (l : List MarkD) : wtS wtRec (l.map markR) = wtS wtMark l := by
  unfold wtS
  rw [List.length_map, List.map_map]
  congr 2
theorem partsL_wt {a : TabD} (h : wtTab a ≤ 1048576) : wtRecS (partsL a) ≤ 1073741824 ∧ 1 + ctRecS (partsL a) ≤ 1073741824 := by
  have h1 : wtS wtRec (partsL a) = 1 + wtTab a := by
    have e : partsL a = [phaseR a.phase] ++ (a.rows.map rowR ++ a.marks.map markR) := rfl
    rw [e, wtS_app, wtS_app, wtS_rowR, wtS_markR]
    rfl
  have h2 := ctS_wtS ctRec wtRec 16 ctRec_wt (partsL a)
  have e1 : wtRecS (partsL a) = wtS wtRec (partsL a) := rfl
  have e2 : ctRecS (partsL a) = ctS ctRec (partsL a) := rfl
  omega

end Go.Proofs.Ytlididoalekeoaa
