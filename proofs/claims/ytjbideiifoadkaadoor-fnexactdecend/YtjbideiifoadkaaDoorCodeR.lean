/- Contracts of readAll, Decode and DecodeLossy, in the program. -/
import Derived.Test.YtjbideiifoadkaaDoorCodeI
namespace Go.Proofs.YtjbideiifoadkaaDoor
set_option maxRecDepth 4000
open Go.RowKit

/-- Where the loop of readAll stands. -/
structure RAt (w : World) (cs : Int) (bs : List UInt8) (k : Nat) (v : Value) (lost : Nat) (wr : World) : Prop where
  out : ∃ xs : List UInt8, ReadAt cs bs k xs lost ∧ wr.ownsRow w.heap.size 5 1 v xs.length (xs.map cb) ∧ Below w.heap.size w wr
theorem RAt.fits {w : World} {cs : Int} {bs : List UInt8} {k : Nat} {v : Value} {lost : Nat} {wr : World} (h : RAt w cs bs k v lost wr) : k ≤ bs.length ∧ lost ≤ k := by
  obtain ⟨xs, h1, _, _⟩ := h.out
  exact ⟨h1.le, h1.few⟩
theorem RAt.bel {w : World} {cs : Int} {bs : List UInt8} {k : Nat} {v : Value} {lost : Nat} {wr : World} (h : RAt w cs bs k v lost wr) : Below w.heap.size w wr := by
  obtain ⟨xs, _, _, h3⟩ := h.out; exact h3
theorem rAt_zero (w : World) (cs : Int) (bs : List UInt8) (L : Nat) (hL : L ≤ maxLen) : RAt w cs bs 0 (.slice (some ⟨w.heap.size, 0, none⟩) 0 L) 0 (w.alloc (.cells (madeCells #[.int .u8 0] L) 5)) := by
  refine ⟨[], readAt_zero cs bs, ?_, below_lit _ _⟩
  exact Own.owns (bs := []) ⟨madeCells #[.int .u8 0] L, heap_alloc_new w _, Nat.zero_le _, hL, by rw [← Array.length_toList, zeros_length], by simp⟩ rfl (Nat.le_refl _)

/-- A text and a number. -/
structure TextN (w : World) (bs : List UInt8) (n : Nat) (e : Ending) (w' : World) : Prop where
  out : e = .returned (.tuple #[.string ⟨bs.toArray⟩, .int .i64 (n : Int)]) ∧ Below w.heap.size w w'
structure TextB (w : World) (bs : List UInt8) (ok : Bool) (e : Ending) (w' : World) : Prop where
  out : e = .returned (.tuple #[.string ⟨bs.toArray⟩, .bool ok]) ∧ Below w.heap.size w w'

set_option maxHeartbeats 1000000 in
theorem readAll_any (cs : Int) (b off len cap : Nat) (bs : List UInt8) (w : World) (hn : bs.length = len) (hlc : len ≤ cap) (hc : ∀ j, j < len → w.cell? ⟨b, off + j, none⟩ = some (.int .u8 ((bs.getD j 0).toNat : Int))) (hl : len ≤ 1048576) (T : Hd (AllAt w)) :
    Calls Tryd.prog 36 #[setV cs, .slice (some ⟨b, off, none⟩) len cap] w (TextN w (textI (itemsOf cs bs)) (lostI (itemsOf cs bs))) := by
  obtain ⟨i0, hi, hz0, hz1, hz2⟩ := info_parts info8
  generalize hsv : setV cs = sv
  have HSV : Hd (setV cs = sv) := ⟨hsv⟩
  have Hn : Hd (bs.length = len) := ⟨hn⟩
  have Hc : Hd (∀ j, j < len → w.cell? ⟨b, off + j, none⟩ = some (.int .u8 ((bs.getD j 0).toNat : Int))) := ⟨hc⟩
  clear hsv hn hc
  go_enter Tryd.func36, Tryd.ntmps36
  go_wp2_with (at_make; refine wpList_make_both _ rfl _ _ 22 rfl 5 i0 (.int .u8 0) Tryd.underlying22 hi hz0 hz1 _ _ _ _ 0 len rfl rfl rfl ?C ?nm ?b2 ?b3 ?_)
  case C => rfl
  case nm => omega
  case b2 => rw [hz2]; omega
  case b3 => unfold maxLen; omega
  have W0 : Hd (RAt w cs bs 0 (.slice (some ⟨w.heap.size, 0, none⟩) 0 len) 0 (w.alloc (.cells (madeCells #[.int .u8 0] len) 5))) := ⟨rAt_zero w cs bs len (by unfold maxLen; omega)⟩
  go_wp2_with fail
  go_loopw [6, 7, 8] (fun v m i wr => ∃ (k lost : Nat), i = .int .i64 k ∧ m = .int .i64 lost ∧ Hd (RAt w cs bs k v lost wr)) (fun _ _ i _ => len - (intOf i).toNat)
  case atStart => exact ⟨0, 0, rfl, rfl, W0⟩
  case round =>
    clear W0
    obtain ⟨k, lost, rfl, rfl, R⟩ := hrel
    obtain ⟨f1, f2⟩ := R.out.fits
    rw [Hn.out] at f1
    by_cases hlt : k < len
    · have hkI : (k : Int) < (len : Int) := by omega
      go_wp2_with fail
      rewrite [← HSV.out]
      refine (implSignAt_any cs b off len cap k bs _ Hn.out hlc (fun j hj => cell_below (Hc.out j hj) R.out.bel) (by omega) hlt ⟨T.out.below R.out.bel⟩).mono ?_
      rintro e w1 ⟨n, next, ok, rfl, hS, hB⟩
      rewrite [HSV.out]
      have HB : Hd (Below wr.heap.size wr w1) := ⟨hB⟩
      have hk2 : k < bs.length := by rw [Hn.out]; exact hlt
      obtain ⟨xs, x1, x2, x3⟩ := R.out.out
      have hx4 : xs.length ≤ 4194304 := by have := x1.size; omega
      have X2 : Hd (w1.ownsRow w.heap.size 5 1 u6 xs.length (xs.map cb)) := ⟨by
        by_cases hv : u6 = .slice none 0 0
        · have := nil_len x2 rfl hv
          subst hv this
          exact ⟨rfl, .inl ⟨rfl, rfl⟩⟩
        · obtain ⟨q, c, rfl, hq, hO⟩ := own_row x2 hv
          exact (hO.below hB).owns rfl hq⟩
      have X3 : Hd (Below w.heap.size w w1) := ⟨Below.next x3 hB⟩
      have X1 : Hd (ReadAt cs bs k xs lost) := ⟨x1⟩
      cases ho : hdOk cs (bs.drop k) with
      | true =>
        obtain ⟨s1, s2⟩ := hS.yes ho
        obtain rfl : ok = true := hS.ok.trans ho
        subst s1 s2
        have hf := hd_fits (drop_ne hk2) ho
        have N1 := readAt_yes x1 hk2 ho
        have hp := hf.pos
        have hle := N1.le
        rw [Hn.out] at hle
        have NX : Hd (ReadAt cs bs (k + hdK cs (bs.drop k)) (xs ++ signB (hdN cs (bs.drop k))) lost) := ⟨N1⟩
        clear hS hf N1 x1 x2 x3 ho hB R
        generalize hdK cs (bs.drop k) = K at *
        generalize hdN cs (bs.drop k) = N at *
        go_wp2_with fail
        refine (addSign_any u6 xs xs.length N _ w.heap.size rfl X2.out X3.out.size (by omega)).mono ?_
        rintro e w2 ⟨v2, rfl, hO2, hG2, _⟩
        have R2 : Hd (RAt w cs bs (k + K) v2 lost w2) := ⟨⟨_, NX.out, hO2, X3.out.grown hG2 X3.out.size (fun i hi => own_block X2.out hi)⟩⟩
        clear hO2 hG2 X2 X3 X1
        go_wp2_with fail
        go_roundw
        case rel => exact ⟨k + K, lost, by go_num, rfl, R2⟩
        case measure => simp [intOf]; omega
      | false =>
        obtain rfl : ok = false := hS.ok.trans ho
        have N1 := readAt_no x1 hk2 ho
        have NX : Hd (ReadAt cs bs (k + 1) (xs ++ signB 65533) (lost + 1)) := ⟨N1⟩
        clear hS N1 x1 x2 x3 ho hB R
        go_wp2_with fail
        refine (addSign_any u6 xs xs.length 65533 _ w.heap.size rfl X2.out X3.out.size (by omega)).mono ?_
        rintro e w2 ⟨v2, rfl, hO2, hG2, _⟩
        have R2 : Hd (RAt w cs bs (k + 1) v2 (lost + 1) w2) := ⟨⟨_, NX.out, hO2, X3.out.grown hG2 X3.out.size (fun i hi => own_block X2.out hi)⟩⟩
        clear hO2 hG2 X2 X3 X1
        go_wp2_with fail
        go_roundw
        case rel => exact ⟨k + 1, lost + 1, by go_num, by go_num, R2⟩
        case measure => simp [intOf]; omega
    · have hkI : ¬ (k : Int) < (len : Int) := by omega
      obtain ⟨xs, x1, x2, x3⟩ := R.out.out
      obtain ⟨e1, e2⟩ := readAt_end x1 (by rw [Hn.out]; exact hlt)
      subst e1
      have hcv := conv_owned x2
      have X3 : Hd (Below w.heap.size w wr) := ⟨x3⟩
      have E2 : Hd ((lost : Int) = (lostI (itemsOf cs bs) : Int)) := ⟨by rw [e2]⟩
      obtain ⟨S, hS⟩ : ∃ S, (textI (itemsOf cs bs)).toArray = S := ⟨_, rfl⟩
      have HS : Hd ((textI (itemsOf cs bs)).toArray = S) := ⟨hS⟩
      rw [hS] at hcv
      clear x1 x2 x3 e2 R hS
      go_wp2_with fail
      go_ret2
      exact ⟨by rw [HS.out, ← E2.out]; rfl, X3.out⟩

theorem dec_out {cs : Int} {t : List UInt8} (h : inB cs 0 5 = false) : decOk cs t = false ∧ decS cs t = [] ∧ decLS cs t = [] ∧ decLN cs t = 0 := by
  have h1 : decOk cs t = false := by unfold decOk; rw [h]; rfl
  exact ⟨h1, by unfold decS; rw [h1]; rfl, by unfold decLS; rw [h]; rfl, by unfold decLN; rw [h]; rfl⟩
theorem dec_no {cs : Int} {t : List UInt8} (hw : lostI (itemsOf cs t) ≠ 0) : decOk cs t = false ∧ decS cs t = [] := by
  have h1 : decOk cs t = false := by unfold decOk; rw [decide_eq_false hw]; simp
  exact ⟨h1, by unfold decS; rw [h1]; rfl⟩
theorem dec_yes {cs : Int} {t : List UInt8} (h : inB cs 0 5 = true) (hw : lostI (itemsOf cs t) = 0) : decOk cs t = true ∧ decS cs t = textI (itemsOf cs t) := by
  have h1 : decOk cs t = true := by unfold decOk; rw [h, decide_eq_true hw]; rfl
  exact ⟨h1, by unfold decS; rw [if_pos h1]⟩
theorem dec_lin {cs : Int} {t : List UInt8} (h : inB cs 0 5 = true) : decLS cs t = textI (itemsOf cs t) ∧ decLN cs t = lostI (itemsOf cs t) := ⟨if_pos h, if_pos h⟩

set_option maxHeartbeats 400000 in
theorem implDecode_any (cs : Int) (b off len cap : Nat) (bs : List UInt8) (w : World) (hn : bs.length = len) (hlc : len ≤ cap) (hc : ∀ j, j < len → w.cell? ⟨b, off + j, none⟩ = some (.int .u8 ((bs.getD j 0).toNat : Int))) (hl : len ≤ 1048576) (T : Hd (AllAt w)) :
    Calls Tryd.prog 10 #[.int .i64 cs, .slice (some ⟨b, off, none⟩) len cap] w (TextB w (decS cs bs) (decOk cs bs)) := by
  have Hn : Hd (bs.length = len) := ⟨hn⟩
  have Hc : Hd (∀ j, j < len → w.cell? ⟨b, off + j, none⟩ = some (.int .u8 ((bs.getD j 0).toNat : Int))) := ⟨hc⟩
  clear hn hc
  cases hi : inB cs 0 5 with
  | false =>
    have hcs : ¬ (0 ≤ cs ∧ cs ≤ 5) := of_decide_eq_false hi
    obtain ⟨e1, e2, _, _⟩ := dec_out (t := bs) hi
    rw [e1, e2]
    clear e1 e2 hi
    go_enter Tryd.func10, Tryd.ntmps10
    go_wp2_with fail
    refine (setOf_no cs _ hcs).mono ?_
    rintro e w1 ⟨rfl, hw1⟩
    replace hw1 := hw1.symm
    subst hw1
    clear hcs
    go_wp2_with fail
    go_ret2
    exact ⟨rfl, Below.refl _ _⟩
  | true =>
    have hcs := in_cs hi
    have HI : Hd (inB cs 0 5 = true) := ⟨hi⟩
    clear hi
    go_enter Tryd.func10, Tryd.ntmps10
    go_wp2_with fail
    refine (setOf_yes cs _ hcs).mono ?_
    rintro e w1 ⟨rfl, hw1⟩
    replace hw1 := hw1.symm
    subst hw1
    generalize hsv : setV cs = sv
    have HSV : Hd (setV cs = sv) := ⟨hsv⟩
    clear hsv hcs
    go_wp2_with fail
    rewrite [← HSV.out]
    refine (readAll_any cs b off len cap bs _ Hn.out hlc Hc.out hl T).mono ?_
    rintro e w2 ⟨rfl, hB⟩
    have HB : Hd (Below w.heap.size w w2) := ⟨hB⟩
    clear hB
    by_cases hz : lostI (itemsOf cs bs) = 0
    · have Y : Hd (decOk cs bs = true ∧ decS cs bs = textI (itemsOf cs bs)) := ⟨dec_yes HI.out hz⟩
      rewrite [hz]
      clear hz
      generalize (textI (itemsOf cs bs)) = S at *
      go_wp2_with fail
      go_ret2
      exact ⟨by rw [Y.out.1, Y.out.2]; rfl, HB.out⟩
    · have Y : Hd (decOk cs bs = false ∧ decS cs bs = []) := ⟨dec_no hz⟩
      have hz1 : (0 : Int) < (lostI (itemsOf cs bs) : Int) := by omega
      generalize lostI (itemsOf cs bs) = m at *
      generalize (textI (itemsOf cs bs)) = S at *
      clear hz
      go_wp2_with fail
      go_ret2
      exact ⟨by rw [Y.out.1, Y.out.2]; rfl, HB.out⟩

end Go.Proofs.YtjbideiifoadkaaDoor
