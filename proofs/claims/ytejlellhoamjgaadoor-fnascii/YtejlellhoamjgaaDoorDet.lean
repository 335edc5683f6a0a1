/- Contracts of bytes.HasPrefix at the mark, and of Detect, in the program and in the specification. -/
import Derived.Test.YtejlellhoamjgaaDoorOld
namespace Go.Proofs.YtejlellhoamjgaaDoor
set_option maxRecDepth 4000
open Go.RowKit

/-- Whether bytes begin with the mark. -/
def markB (bs : List UInt8) : Bool := bs.take 3 == [239, 187, 191]
theorem mark_short {bs : List UInt8} (h : bs.length < 3) : markB bs = false := by
  unfold markB
  rw [List.take_of_length_le (by omega)]
  cases hb : bs == [239, 187, 191] with
  | false => rfl
  | true => rw [eq_of_beq hb] at h; simp at h
theorem mark_eq {bs : List UInt8} (h : 3 ≤ bs.length) : markB bs = (((((bs.getD 0 0).toNat : Int) == 239) && (((bs.getD 1 0).toNat : Int) == 187)) && (((bs.getD 2 0).toNat : Int) == 191)) := by
  match bs, h with
  | a :: b :: c :: r, _ =>
    have e : ∀ (x : UInt8) (n : Nat), n < 256 → ((x.toNat : Int) == (n : Int)) = (x == UInt8.ofNat n) := fun x n hn => by
      rw [Bool.eq_iff_iff, beq_iff_eq, beq_iff_eq]
      constructor
      · intro hx; apply UInt8.toNat_inj.1; rw [UInt8.toNat_ofNat']; omega
      · intro hx; rw [hx, UInt8.toNat_ofNat']; omega
    show ([a, b, c] == [239, 187, 191]) = ((((a.toNat : Int) == ((239 : Nat) : Int)) && ((b.toNat : Int) == ((187 : Nat) : Int))) && ((c.toNat : Int) == ((191 : Nat) : Int)))
    rw [e a 239 (by omega), e b 187 (by omega), e c 191 (by omega)]
    simp [List.cons_beq_cons, Bool.and_assoc]

def detN (bs : List UInt8) : Int := if (markB bs || decOk 0 bs) = true then 0 else (bestOf bs (upto 5)).set
def detOk (bs : List UInt8) : Bool := if (markB bs || decOk 0 bs) = true then true else (bestOf bs (upto 5)).found
theorem det_yes {bs : List UInt8} (h : (markB bs || decOk 0 bs) = true) : 0 = detN bs ∧ true = detOk bs := by
  unfold detN detOk
  rw [if_pos h, if_pos h]
  exact ⟨rfl, rfl⟩
theorem det_no {bs : List UInt8} (h : (markB bs || decOk 0 bs) = false) : (bestOf bs (upto 5)).set = detN bs ∧ (bestOf bs (upto 5)).found = detOk bs := by
  unfold detN detOk
  rw [h]
  exact ⟨rfl, rfl⟩

theorem conv_take {w : World} {b off len c sz : Nat} {bs : List UInt8} (hn : bs.length = len) (hc : ∀ j, j < len → w.cell? ⟨b, off + j, none⟩ = some (.int .u8 ((bs.getD j 0).toNat : Int))) (hs : sz ≤ len) :
    (convert 22 9 (.slice (some ⟨b, off, none⟩) sz c)).run Tryd.prog w = .ok (.string ⟨(bs.take sz).toArray⟩) w := by
  have h := conv_from (sz := sz) (c := c) (from_of (k := 0) hn hc) (by omega)
  rw [Nat.add_zero, List.drop_zero] at h
  exact h

set_option maxHeartbeats 400000 in
theorem bytesHasPrefix_is (b off len cap p : Nat) (bs : List UInt8) (w : World) (hn : bs.length = len) (hlc : len ≤ cap) (hc : ∀ j, j < len → w.cell? ⟨b, off + j, none⟩ = some (.int .u8 ((bs.getD j 0).toNat : Int))) (hl : len ≤ 1048576)
    (hp : Hd ((convert 22 9 (.slice (some ⟨p, 0, none⟩) 3 3)).run Tryd.prog w = .ok (.string ⟨([239, 187, 191] : List UInt8).toArray⟩) w)) :
    Calls Tryd.prog 22 #[.slice (some ⟨b, off, none⟩) len cap, .slice (some ⟨p, 0, none⟩) 3 3] w fun e w' => e = .returned (.bool (markB bs)) ∧ w = w' := by
  have Hn : Hd (bs.length = len) := ⟨hn⟩
  have Hc : Hd (∀ j, j < len → w.cell? ⟨b, off + j, none⟩ = some (.int .u8 ((bs.getD j 0).toNat : Int))) := ⟨hc⟩
  clear hn hc
  obtain ⟨m, hm⟩ : ∃ m, markB bs = m := ⟨_, rfl⟩
  have HM : Hd (markB bs = m) := ⟨hm⟩
  rw [hm]
  clear hm
  by_cases h : 3 ≤ len
  · have hI : (3 : Int) ≤ (len : Int) := by omega
    go_enter Tryd.func22, Tryd.ntmps22
    go_wp2_with (go_at_call 32; refine (equal_is _ _ (bs.take 3) [239, 187, 191] m _ ⟨HM.out⟩ (conv_take Hn.out Hc.out h) hp.out).mono ?_; rintro e w' ⟨rfl, hw⟩; subst hw)
    go_ret
    exact ⟨rfl, rfl⟩
  · have HF : Hd (false = m) := ⟨by rw [← HM.out, mark_short (by rw [Hn.out]; omega)]⟩
    have hI : ¬ (3 : Int) ≤ (len : Int) := by omega
    go_enter Tryd.func22, Tryd.ntmps22
    go_wp2_with fail
    go_ret
    exact ⟨ret_bool HF.out, rfl⟩

end Go.Proofs.YtejlellhoamjgaaDoor
