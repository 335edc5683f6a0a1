/- The contract of Detect in the program. -/
import Derived.Test.YtejlellhoamjgaaDoorDet
import Derived.Lib.SlBytesConst
namespace Go.Proofs.YtejlellhoamjgaaDoor
set_option maxRecDepth 4000
open Go.RowKit

theorem mark_conv (w : World) : (convert 22 9 (.slice (some ⟨w.heap.size, 0, none⟩) 3 3)).run Tryd.prog (w.alloc (.cells #[.int .u8 239, .int .u8 187, .int .u8 191] 5 (3, 4))) = .ok (.string ⟨([239, 187, 191] : List UInt8).toArray⟩) (w.alloc (.cells #[.int .u8 239, .int .u8 187, .int .u8 191] 5 (3, 4))) := by
  have hb := heap_alloc_new w (.cells #[.int .u8 239, .int .u8 187, .int .u8 191] 5 (3, 4))
  exact conv_take (w := w.alloc (.cells #[.int .u8 239, .int .u8 187, .int .u8 191] 5 (3, 4))) (b := w.heap.size) (off := 0) (len := 3) (c := 3) (sz := 3) (bs := [239, 187, 191]) rfl (fun j hj => by
    match j, hj with
    | 0, _ => unfold World.cell?; rw [hb]; rfl
    | 1, _ => unfold World.cell?; rw [hb]; rfl
    | 2, _ => unfold World.cell?; rw [hb]; rfl) (Nat.le_refl _)

set_option maxHeartbeats 1000000 in
theorem implDetect_any (b off len cap : Nat) (bs : List UInt8) (w : World) (hn : bs.length = len) (hlc : len ≤ cap) (hc : ∀ j, j < len → w.cell? ⟨b, off + j, none⟩ = some (.int .u8 ((bs.getD j 0).toNat : Int))) (hl : len ≤ 1048576) (T : Hd (AllW w)) :
    Calls Tryd.prog 12 #[.slice (some ⟨b, off, none⟩) len cap] w (NumB w (detN bs) (detOk bs)) := by
  have Hn : Hd (bs.length = len) := ⟨hn⟩
  have Hc : Hd (∀ j, j < len → w.cell? ⟨b, off + j, none⟩ = some (.int .u8 ((bs.getD j 0).toNat : Int))) := ⟨hc⟩
  clear hn hc
  have HP : Hd ((convert 22 9 (.slice (some ⟨w.heap.size, 0, none⟩) 3 3)).run Tryd.prog (w.alloc (.cells #[.int .u8 239, .int .u8 187, .int .u8 191] 5 (3, 4))) = .ok (.string ⟨([239, 187, 191] : List UInt8).toArray⟩) (w.alloc (.cells #[.int .u8 239, .int .u8 187, .int .u8 191] 5 (3, 4)))) := ⟨mark_conv w⟩
  have B1 : Hd (Below w.heap.size w (w.alloc (.cells #[.int .u8 239, .int .u8 187, .int .u8 191] 5 (3, 4)))) := ⟨(Below.refl _ w).alloc (Nat.le_refl _) _⟩
  have hcs : (convert 22 22 (.slice (some ⟨w.heap.size, 0, none⟩) 3 3)).run Tryd.prog (w.alloc (.cells #[.int .u8 239, .int .u8 187, .int .u8 191] 5)) = .ok (.slice (some ⟨w.heap.size, 0, none⟩) 3 3) (w.alloc (.cells #[.int .u8 239, .int .u8 187, .int .u8 191] 5 (3, 4))) := Lib.run_convert_bytes_const w 22 5 #[.int .u8 239, .int .u8 187, .int .u8 191] 3 3 Tryd.underlying22 Tryd.underlying5
  go_enter Tryd.func12, Tryd.ntmps12
  go_wp2_with fail
  refine (bytesHasPrefix_is b off len cap w.heap.size bs _ Hn.out hlc (fun j hj => cell_below (Hc.out j hj) B1.out) hl HP).mono ?_
  rintro e w1 ⟨rfl, hw1⟩
  rw [hw1] at B1
  clear HP hw1 hcs
  have T1 : Hd (AllW w1) := ⟨T.out.below B1.out⟩
  have C1 : Hd (∀ j, j < len → w1.cell? ⟨b, off + j, none⟩ = some (.int .u8 ((bs.getD j 0).toNat : Int))) := ⟨fun j hj => cell_below (Hc.out j hj) B1.out⟩
  clear Hc T
  cases hm : markB bs with
  | true =>
    have E : Hd (0 = detN bs ∧ true = detOk bs) := ⟨det_yes (by rw [hm]; rfl)⟩
    clear hm
    go_wp2_with fail
    go_ret2
    exact ⟨ret_pair E.out.1 E.out.2, B1.out⟩
  | false =>
    have HM : Hd (markB bs = false) := ⟨hm⟩
    clear hm
    obtain ⟨S, hS⟩ : ∃ S, (decS 0 bs).toArray = S := ⟨_, rfl⟩
    have HS : Hd ((decS 0 bs).toArray = S) := ⟨hS⟩
    clear hS
    go_wp2_with fail
    refine (implDecode_any 0 b off len cap bs _ Hn.out hlc C1.out hl ⟨T1.out.all⟩).mono ?_
    rintro e w2 ⟨rfl, hB2⟩
    rewrite [HS.out]
    have B2 : Hd (Below w.heap.size w w2) := ⟨Below.next B1.out hB2⟩
    have T2 : Hd (AllW w2) := ⟨T1.out.below hB2⟩
    have C2 : Hd (∀ j, j < len → w2.cell? ⟨b, off + j, none⟩ = some (.int .u8 ((bs.getD j 0).toNat : Int))) := ⟨fun j hj => cell_below (C1.out j hj) hB2⟩
    clear hB2 B1 T1 C1 HS
    cases ho : decOk 0 bs with
    | true =>
      have E : Hd (0 = detN bs ∧ true = detOk bs) := ⟨det_yes (by rw [HM.out, ho]; rfl)⟩
      clear ho HM
      go_wp2_with fail
      go_ret2
      exact ⟨ret_pair E.out.1 E.out.2, B2.out⟩
    | false =>
      have E : Hd ((bestOf bs (upto 5)).set = detN bs ∧ (bestOf bs (upto 5)).found = detOk bs) := ⟨det_no (by rw [HM.out, ho]; rfl)⟩
      clear ho HM
      go_wp2_with fail
      refine (bestOld_any b off len cap bs _ Hn.out hlc C2.out hl T2).mono ?_
      rintro e w3 ⟨rfl, hB3⟩
      have B3 : Hd (Below w.heap.size w w3) := ⟨Below.next B2.out hB3⟩
      clear hB3 B2 C2 T2
      generalize (bestOf bs (upto 5)).set = st at *
      generalize (bestOf bs (upto 5)).found = fo at *
      go_wp2_with fail
      go_ret2
      exact ⟨ret_pair E.out.1 E.out.2, B3.out⟩

end Go.Proofs.YtejlellhoamjgaaDoor
