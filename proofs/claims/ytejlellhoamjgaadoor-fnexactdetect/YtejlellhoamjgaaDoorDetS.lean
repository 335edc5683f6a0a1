/- The contract of Detect in the specification. -/
import Derived.Test.YtejlellhoamjgaaDoorDet
namespace Go.Proofs.YtejlellhoamjgaaDoor
set_option maxRecDepth 4000
open Go.RowKit

theorem best_flag (bs : List UInt8) (k : Nat) : ((bestOf bs (upto k)).set == 0) = !(bestOf bs (upto k)).found := by
  obtain ⟨h1, h2⟩ := best_set bs k
  cases hf : (bestOf bs (upto k)).found with
  | false => rw [h1 hf]; rfl
  | true =>
    have := h2 hf
    cases he : (bestOf bs (upto k)).set == 0 with
    | false => rfl
    | true => rw [eq_of_beq he] at this; omega

/-- The loop over the sets of long ago, and the end, where neither the mark nor the signs of today are there. -/
structure SDet (w : World) (bs : List UInt8) (k : Nat) (m a : Int) (wr : World) : Prop where
  most : m = (bestOf bs (upto k)).most
  set : a = (bestOf bs (upto k)).set
  bel : Below w.heap.size w wr

theorem SDet.no {w : World} {bs : List UInt8} {k : Nat} {m a : Int} {wr w3 : World} (h : SDet w bs k m a wr) (hb : Below wr.heap.size wr w3) (ho : decOk ((k : Int) + 1) bs = false) : SDet w bs (k + 1) m a w3 := by
  refine ⟨?_, ?_, Below.next h.bel hb⟩
  · rw [upto_succ, bestOf_snoc, step_no ho]; exact h.most
  · rw [upto_succ, bestOf_snoc, step_no ho]; exact h.set
theorem SDet.less {w : World} {bs : List UInt8} {k : Nat} {m a : Int} {wr w3 : World} (h : SDet w bs k m a wr) (hb : Below wr.heap.size wr w3) (hz : (a == 0) = false) (hm : ¬ m < scoN ((k : Int) + 1) bs) : SDet w bs (k + 1) m a w3 := by
  have hf : (bestOf bs (upto k)).found = true := by have := best_flag bs k; rw [← h.set, hz] at this; simpa using this.symm
  rw [h.most] at hm
  refine ⟨?_, ?_, Below.next h.bel hb⟩
  · rw [upto_succ, bestOf_snoc, step_less hf hm]; exact h.most
  · rw [upto_succ, bestOf_snoc, step_less hf hm]; exact h.set
theorem SDet.more {w : World} {bs : List UInt8} {k : Nat} {m a : Int} {wr w3 : World} (h : SDet w bs k m a wr) (hb : Below wr.heap.size wr w3) (ho : decOk ((k : Int) + 1) bs = true) (hm : m < scoN ((k : Int) + 1) bs) : SDet w bs (k + 1) (scoN ((k : Int) + 1) bs) ((k : Int) + 1) w3 := by
  rw [h.most] at hm
  refine ⟨?_, ?_, Below.next h.bel hb⟩
  · rw [upto_succ, bestOf_snoc, step_more ho hm]
  · rw [upto_succ, bestOf_snoc, step_more ho hm]
theorem SDet.first {w : World} {bs : List UInt8} {k : Nat} {m a : Int} {wr w3 : World} (h : SDet w bs k m a wr) (hb : Below wr.heap.size wr w3) (ho : decOk ((k : Int) + 1) bs = true) (hz : (a == 0) = true) : SDet w bs (k + 1) (scoN ((k : Int) + 1) bs) ((k : Int) + 1) w3 := by
  have hf : (bestOf bs (upto k)).found = false := by have := best_flag bs k; rw [← h.set, hz] at this; simpa using this.symm
  refine ⟨?_, ?_, Below.next h.bel hb⟩
  · rw [upto_succ, bestOf_snoc, step_first ho hf]
  · rw [upto_succ, bestOf_snoc, step_first ho hf]
theorem SDet.done {w : World} {bs : List UInt8} {m a : Int} {wr : World} (h : SDet w bs 5 m a wr) (hn : (markB bs || decOk 0 bs) = false) : a = detN bs ∧ (!(a == 0)) = detOk bs := by
  obtain ⟨h1, h2⟩ := det_no hn
  have := best_flag bs 5
  rw [← h.set] at this
  exact ⟨h.set.trans h1, by rw [this, Bool.not_not]; exact h2⟩

set_option maxHeartbeats 2000000 in
theorem specDetect_any (b off len cap : Nat) (bs : List UInt8) (w : World) (hn : bs.length = len) (hlc : len ≤ cap) (hc : ∀ j, j < len → w.cell? ⟨b, off + j, none⟩ = some (.int .u8 ((bs.getD j 0).toNat : Int))) (hl : len ≤ 1048576) :
    Calls Tryd.prog 17 #[.slice (some ⟨b, off, none⟩) len cap] w (NumB w (detN bs) (detOk bs)) := by
  have Hn : Hd (bs.length = len) := ⟨hn⟩
  have Hc : Hd (∀ j, j < len → w.cell? ⟨b, off + j, none⟩ = some (.int .u8 ((bs.getD j 0).toNat : Int))) := ⟨hc⟩
  clear hn hc
  obtain ⟨S, hS⟩ : ∃ S, (decS 0 bs).toArray = S := ⟨_, rfl⟩
  have HS : Hd ((decS 0 bs).toArray = S) := ⟨hS⟩
  clear hS
  go_enter Tryd.func17, Tryd.ntmps17
  go_wp2_with fail
  refine (specDecode_any 0 b off len cap bs _ Hn.out hlc Hc.out hl).mono ?_
  rintro e w2 ⟨rfl, hB2⟩
  rewrite [HS.out]
  have B2 : Hd (Below w.heap.size w w2) := ⟨hB2⟩
  have C2 : Hd (∀ j, j < len → w2.cell? ⟨b, off + j, none⟩ = some (.int .u8 ((bs.getD j 0).toNat : Int))) := ⟨fun j hj => cell_below (Hc.out j hj) hB2⟩
  clear hB2 HS
  cases ho : decOk 0 bs with
  | true =>
    have E : Hd (0 = detN bs ∧ true = detOk bs) := ⟨det_yes (by rw [ho, Bool.or_true])⟩
    clear ho
    go_wp2_with fail
    go_ret2
    exact ⟨ret_pair E.out.1 E.out.2, B2.out⟩
  | false =>
    have HO : Hd (decOk 0 bs = false) := ⟨ho⟩
    clear ho
    by_cases h3 : 3 ≤ len
    · have h3I : (3 : Int) ≤ (len : Int) := by omega
      have c0 := C2.out 0 (by omega)
      have c1 := C2.out 1 (by omega)
      have c2 := C2.out 2 (by omega)
      rw [Nat.add_zero] at c0
      have HM : Hd (markB bs = (((((bs.getD 0 0).toNat : Int) == 239) && (((bs.getD 1 0).toNat : Int) == 187)) && (((bs.getD 2 0).toNat : Int) == 191))) := ⟨mark_eq (by rw [Hn.out]; exact h3)⟩
      generalize ((bs.getD 0 0).toNat : Int) = x0 at c0 HM
      generalize ((bs.getD 1 0).toNat : Int) = x1 at c1 HM
      generalize ((bs.getD 2 0).toNat : Int) = x2 at c2 HM
      cases e0 : x0 == 239 with
      | false =>
        have HQ : Hd ((markB bs || decOk 0 bs) = false) := ⟨by rw [HM.out, HO.out, e0]; rfl⟩
        clear HM HO C2
        go_wp2_with fail
        go_loopw [6, 7, 8] (fun m a c wr => ∃ (k : Nat) (mi ai : Int), k ≤ 5 ∧ c = .int .i64 ((k : Int) + 1) ∧ m = .int .i64 mi ∧ a = .int .i64 ai ∧ Hd (SDet w bs k mi ai wr)) (fun _ _ c _ => 6 - (intOf c).toNat)
        case atStart => exact ⟨0, 0, 0, by omega, rfl, rfl, rfl, ⟨⟨rfl, rfl, B2.out⟩⟩⟩
        case round =>
          obtain ⟨k, mi, ai, hk, rfl, rfl, rfl, R⟩ := hrel
          by_cases hlt : k < 5
          · have hkI : (k : Int) + 1 ≤ 5 := by omega
            go_wp2_with fail
            refine (specScore_any ((k : Int) + 1) b off len cap bs _ Hn.out hlc (fun j hj => cell_below (Hc.out j hj) R.out.bel) hl).mono ?_
            rintro e w3 ⟨rfl, hB3⟩
            cases ho : decOk ((k : Int) + 1) bs with
            | false =>
              have R3 : Hd (SDet w bs (k + 1) mi ai w3) := ⟨R.out.no hB3 ho⟩
              clear R hB3 ho
              generalize scoN ((k : Int) + 1) bs = sc at *
              go_wp2_with fail
              go_roundw
              case rel => exact ⟨k + 1, mi, ai, by omega, by go_num, rfl, rfl, R3⟩
              case measure => simp [intOf]; omega
            | true =>
              cases hz : ai == 0 with
              | true =>
                have R3 : Hd (SDet w bs (k + 1) (scoN ((k : Int) + 1) bs) ((k : Int) + 1) w3) := ⟨R.out.first hB3 ho hz⟩
                clear R hB3 ho
                generalize scoN ((k : Int) + 1) bs = sc at *
                go_wp2_with fail
                go_roundw
                case rel => exact ⟨k + 1, sc, (k : Int) + 1, by omega, by go_num, rfl, rfl, R3⟩
                case measure => simp [intOf]; omega
              | false =>
                by_cases hm : mi < scoN ((k : Int) + 1) bs
                · have R3 : Hd (SDet w bs (k + 1) (scoN ((k : Int) + 1) bs) ((k : Int) + 1) w3) := ⟨R.out.more hB3 ho hm⟩
                  clear R hB3 ho
                  generalize scoN ((k : Int) + 1) bs = sc at *
                  go_wp2_with fail
                  go_roundw
                  case rel => exact ⟨k + 1, sc, (k : Int) + 1, by omega, by go_num, rfl, rfl, R3⟩
                  case measure => simp [intOf]; omega
                · have R3 : Hd (SDet w bs (k + 1) mi ai w3) := ⟨R.out.less hB3 hz hm⟩
                  clear R hB3 ho
                  generalize scoN ((k : Int) + 1) bs = sc at *
                  go_wp2_with fail
                  go_roundw
                  case rel => exact ⟨k + 1, mi, ai, by omega, by go_num, rfl, rfl, R3⟩
                  case measure => simp [intOf]; omega
          · obtain rfl : k = 5 := by omega
            have E : Hd (ai = detN bs ∧ (!(ai == 0)) = detOk bs) := ⟨R.out.done HQ.out⟩
            have HB : Hd (Below w.heap.size w wr) := ⟨R.out.bel⟩
            clear R
            cases hz : ai == 0 with
            | true =>
              have hd : true = !(detOk bs) := by rw [← E.out.2, hz]; rfl
              have E2 : Hd (false = detOk bs) := ⟨by simpa using hd⟩
              obtain rfl := eq_of_beq hz
              clear hd hz
              go_wp2_with fail
              go_ret2
              exact ⟨ret_pair E.out.1 E2.out, HB.out⟩
            | false =>
              go_wp2_with fail
              go_ret2
              exact ⟨ret_pair E.out.1 E.out.2, HB.out⟩
      | true =>
        cases e1 : x1 == 187 with
        | false =>
          have HQ : Hd ((markB bs || decOk 0 bs) = false) := ⟨by rw [HM.out, HO.out, e0, e1]; rfl⟩
          clear HM HO C2
          go_wp2_with fail
          go_loopw [6, 7, 8] (fun m a c wr => ∃ (k : Nat) (mi ai : Int), k ≤ 5 ∧ c = .int .i64 ((k : Int) + 1) ∧ m = .int .i64 mi ∧ a = .int .i64 ai ∧ Hd (SDet w bs k mi ai wr)) (fun _ _ c _ => 6 - (intOf c).toNat)
          case atStart => exact ⟨0, 0, 0, by omega, rfl, rfl, rfl, ⟨⟨rfl, rfl, B2.out⟩⟩⟩
          case round =>
            obtain ⟨k, mi, ai, hk, rfl, rfl, rfl, R⟩ := hrel
            by_cases hlt : k < 5
            · have hkI : (k : Int) + 1 ≤ 5 := by omega
              go_wp2_with fail
              refine (specScore_any ((k : Int) + 1) b off len cap bs _ Hn.out hlc (fun j hj => cell_below (Hc.out j hj) R.out.bel) hl).mono ?_
              rintro e w3 ⟨rfl, hB3⟩
              cases ho : decOk ((k : Int) + 1) bs with
              | false =>
                have R3 : Hd (SDet w bs (k + 1) mi ai w3) := ⟨R.out.no hB3 ho⟩
                clear R hB3 ho
                generalize scoN ((k : Int) + 1) bs = sc at *
                go_wp2_with fail
                go_roundw
                case rel => exact ⟨k + 1, mi, ai, by omega, by go_num, rfl, rfl, R3⟩
                case measure => simp [intOf]; omega
              | true =>
                cases hz : ai == 0 with
                | true =>
                  have R3 : Hd (SDet w bs (k + 1) (scoN ((k : Int) + 1) bs) ((k : Int) + 1) w3) := ⟨R.out.first hB3 ho hz⟩
                  clear R hB3 ho
                  generalize scoN ((k : Int) + 1) bs = sc at *
                  go_wp2_with fail
                  go_roundw
                  case rel => exact ⟨k + 1, sc, (k : Int) + 1, by omega, by go_num, rfl, rfl, R3⟩
                  case measure => simp [intOf]; omega
                | false =>
                  by_cases hm : mi < scoN ((k : Int) + 1) bs
                  · have R3 : Hd (SDet w bs (k + 1) (scoN ((k : Int) + 1) bs) ((k : Int) + 1) w3) := ⟨R.out.more hB3 ho hm⟩
                    clear R hB3 ho
                    generalize scoN ((k : Int) + 1) bs = sc at *
                    go_wp2_with fail
                    go_roundw
                    case rel => exact ⟨k + 1, sc, (k : Int) + 1, by omega, by go_num, rfl, rfl, R3⟩
                    case measure => simp [intOf]; omega
                  · have R3 : Hd (SDet w bs (k + 1) mi ai w3) := ⟨R.out.less hB3 hz hm⟩
                    clear R hB3 ho
                    generalize scoN ((k : Int) + 1) bs = sc at *
                    go_wp2_with fail
                    go_roundw
                    case rel => exact ⟨k + 1, mi, ai, by omega, by go_num, rfl, rfl, R3⟩
                    case measure => simp [intOf]; omega
            · obtain rfl : k = 5 := by omega
              have E : Hd (ai = detN bs ∧ (!(ai == 0)) = detOk bs) := ⟨R.out.done HQ.out⟩
              have HB : Hd (Below w.heap.size w wr) := ⟨R.out.bel⟩
              clear R
              cases hz : ai == 0 with
              | true =>
                have hd : true = !(detOk bs) := by rw [← E.out.2, hz]; rfl
                have E2 : Hd (false = detOk bs) := ⟨by simpa using hd⟩
                obtain rfl := eq_of_beq hz
                clear hd hz
                go_wp2_with fail
                go_ret2
                exact ⟨ret_pair E.out.1 E2.out, HB.out⟩
              | false =>
                go_wp2_with fail
                go_ret2
                exact ⟨ret_pair E.out.1 E.out.2, HB.out⟩
        | true =>
          cases e2 : x2 == 191 with
          | false =>
            have HQ : Hd ((markB bs || decOk 0 bs) = false) := ⟨by rw [HM.out, HO.out, e0, e1, e2]; rfl⟩
            clear HM HO C2
            go_wp2_with fail
            go_loopw [6, 7, 8] (fun m a c wr => ∃ (k : Nat) (mi ai : Int), k ≤ 5 ∧ c = .int .i64 ((k : Int) + 1) ∧ m = .int .i64 mi ∧ a = .int .i64 ai ∧ Hd (SDet w bs k mi ai wr)) (fun _ _ c _ => 6 - (intOf c).toNat)
            case atStart => exact ⟨0, 0, 0, by omega, rfl, rfl, rfl, ⟨⟨rfl, rfl, B2.out⟩⟩⟩
            case round =>
              obtain ⟨k, mi, ai, hk, rfl, rfl, rfl, R⟩ := hrel
              by_cases hlt : k < 5
              · have hkI : (k : Int) + 1 ≤ 5 := by omega
                go_wp2_with fail
                refine (specScore_any ((k : Int) + 1) b off len cap bs _ Hn.out hlc (fun j hj => cell_below (Hc.out j hj) R.out.bel) hl).mono ?_
                rintro e w3 ⟨rfl, hB3⟩
                cases ho : decOk ((k : Int) + 1) bs with
                | false =>
                  have R3 : Hd (SDet w bs (k + 1) mi ai w3) := ⟨R.out.no hB3 ho⟩
                  clear R hB3 ho
                  generalize scoN ((k : Int) + 1) bs = sc at *
                  go_wp2_with fail
                  go_roundw
                  case rel => exact ⟨k + 1, mi, ai, by omega, by go_num, rfl, rfl, R3⟩
                  case measure => simp [intOf]; omega
                | true =>
                  cases hz : ai == 0 with
                  | true =>
                    have R3 : Hd (SDet w bs (k + 1) (scoN ((k : Int) + 1) bs) ((k : Int) + 1) w3) := ⟨R.out.first hB3 ho hz⟩
                    clear R hB3 ho
                    generalize scoN ((k : Int) + 1) bs = sc at *
                    go_wp2_with fail
                    go_roundw
                    case rel => exact ⟨k + 1, sc, (k : Int) + 1, by omega, by go_num, rfl, rfl, R3⟩
                    case measure => simp [intOf]; omega
                  | false =>
                    by_cases hm : mi < scoN ((k : Int) + 1) bs
                    · have R3 : Hd (SDet w bs (k + 1) (scoN ((k : Int) + 1) bs) ((k : Int) + 1) w3) := ⟨R.out.more hB3 ho hm⟩
                      clear R hB3 ho
                      generalize scoN ((k : Int) + 1) bs = sc at *
                      go_wp2_with fail
                      go_roundw
                      case rel => exact ⟨k + 1, sc, (k : Int) + 1, by omega, by go_num, rfl, rfl, R3⟩
                      case measure => simp [intOf]; omega
                    · have R3 : Hd (SDet w bs (k + 1) mi ai w3) := ⟨R.out.less hB3 hz hm⟩
                      clear R hB3 ho
                      generalize scoN ((k : Int) + 1) bs = sc at *
                      go_wp2_with fail
                      go_roundw
                      case rel => exact ⟨k + 1, mi, ai, by omega, by go_num, rfl, rfl, R3⟩
                      case measure => simp [intOf]; omega
              · obtain rfl : k = 5 := by omega
                have E : Hd (ai = detN bs ∧ (!(ai == 0)) = detOk bs) := ⟨R.out.done HQ.out⟩
                have HB : Hd (Below w.heap.size w wr) := ⟨R.out.bel⟩
                clear R
                cases hz : ai == 0 with
                | true =>
                  have hd : true = !(detOk bs) := by rw [← E.out.2, hz]; rfl
                  have E2 : Hd (false = detOk bs) := ⟨by simpa using hd⟩
                  obtain rfl := eq_of_beq hz
                  clear hd hz
                  go_wp2_with fail
                  go_ret2
                  exact ⟨ret_pair E.out.1 E2.out, HB.out⟩
                | false =>
                  go_wp2_with fail
                  go_ret2
                  exact ⟨ret_pair E.out.1 E.out.2, HB.out⟩
          | true =>
            have E : Hd (0 = detN bs ∧ true = detOk bs) := ⟨det_yes (by rw [HM.out, e0, e1, e2]; rfl)⟩
            clear HM HO C2
            go_wp2_with fail
            go_ret2
            exact ⟨ret_pair E.out.1 E.out.2, B2.out⟩
    · have HQ : Hd ((markB bs || decOk 0 bs) = false) := ⟨by rw [mark_short (by rw [Hn.out]; omega), HO.out]; rfl⟩
      have h3I : ¬ (3 : Int) ≤ (len : Int) := by omega
      clear HO C2
      go_wp2_with fail
      go_loopw [6, 7, 8] (fun m a c wr => ∃ (k : Nat) (mi ai : Int), k ≤ 5 ∧ c = .int .i64 ((k : Int) + 1) ∧ m = .int .i64 mi ∧ a = .int .i64 ai ∧ Hd (SDet w bs k mi ai wr)) (fun _ _ c _ => 6 - (intOf c).toNat)
      case atStart => exact ⟨0, 0, 0, by omega, rfl, rfl, rfl, ⟨⟨rfl, rfl, B2.out⟩⟩⟩
      case round =>
        obtain ⟨k, mi, ai, hk, rfl, rfl, rfl, R⟩ := hrel
        by_cases hlt : k < 5
        · have hkI : (k : Int) + 1 ≤ 5 := by omega
          go_wp2_with fail
          refine (specScore_any ((k : Int) + 1) b off len cap bs _ Hn.out hlc (fun j hj => cell_below (Hc.out j hj) R.out.bel) hl).mono ?_
          rintro e w3 ⟨rfl, hB3⟩
          cases ho : decOk ((k : Int) + 1) bs with
          | false =>
            have R3 : Hd (SDet w bs (k + 1) mi ai w3) := ⟨R.out.no hB3 ho⟩
            clear R hB3 ho
            generalize scoN ((k : Int) + 1) bs = sc at *
            go_wp2_with fail
            go_roundw
            case rel => exact ⟨k + 1, mi, ai, by omega, by go_num, rfl, rfl, R3⟩
            case measure => simp [intOf]; omega
          | true =>
            cases hz : ai == 0 with
            | true =>
              have R3 : Hd (SDet w bs (k + 1) (scoN ((k : Int) + 1) bs) ((k : Int) + 1) w3) := ⟨R.out.first hB3 ho hz⟩
              clear R hB3 ho
              generalize scoN ((k : Int) + 1) bs = sc at *
              go_wp2_with fail
              go_roundw
              case rel => exact ⟨k + 1, sc, (k : Int) + 1, by omega, by go_num, rfl, rfl, R3⟩
              case measure => simp [intOf]; omega
            | false =>
              by_cases hm : mi < scoN ((k : Int) + 1) bs
              · have R3 : Hd (SDet w bs (k + 1) (scoN ((k : Int) + 1) bs) ((k : Int) + 1) w3) := ⟨R.out.more hB3 ho hm⟩
                clear R hB3 ho
                generalize scoN ((k : Int) + 1) bs = sc at *
                go_wp2_with fail
                go_roundw
                case rel => exact ⟨k + 1, sc, (k : Int) + 1, by omega, by go_num, rfl, rfl, R3⟩
                case measure => simp [intOf]; omega
              · have R3 : Hd (SDet w bs (k + 1) mi ai w3) := ⟨R.out.less hB3 hz hm⟩
                clear R hB3 ho
                generalize scoN ((k : Int) + 1) bs = sc at *
                go_wp2_with fail
                go_roundw
                case rel => exact ⟨k + 1, mi, ai, by omega, by go_num, rfl, rfl, R3⟩
                case measure => simp [intOf]; omega
        · obtain rfl : k = 5 := by omega
          have E : Hd (ai = detN bs ∧ (!(ai == 0)) = detOk bs) := ⟨R.out.done HQ.out⟩
          have HB : Hd (Below w.heap.size w wr) := ⟨R.out.bel⟩
          clear R
          cases hz : ai == 0 with
          | true =>
            have hd : true = !(detOk bs) := by rw [← E.out.2, hz]; rfl
            have E2 : Hd (false = detOk bs) := ⟨by simpa using hd⟩
            obtain rfl := eq_of_beq hz
            clear hd hz
            go_wp2_with fail
            go_ret2
            exact ⟨ret_pair E.out.1 E2.out, HB.out⟩
          | false =>
            go_wp2_with fail
            go_ret2
            exact ⟨ret_pair E.out.1 E.out.2, HB.out⟩

end Go.Proofs.YtejlellhoamjgaaDoor
