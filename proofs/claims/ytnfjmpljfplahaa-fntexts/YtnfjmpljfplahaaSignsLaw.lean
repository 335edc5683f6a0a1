/- Plain facts for the law of signs. -/
import Derived.Test.YtnfjmpljfplahaaDrawW
namespace Go.Proofs.Ytnfjmpljfplahaa
open Go.RowKit

theorem put_got (bs : List UInt8) {n : Int} (h : isSign n) : GotAt (bs ++ signB n) (bs.length : Int) (n, (bs.length : Int) + ((signB n).length : Int), true) := by
  have hp := signB_pos h
  refine .inl ⟨rfl, by omega, by rw [List.length_append]; omega, ?_, rfl⟩
  rw [Int.toNat_natCast, List.drop_left]
  exact ⟨h, List.prefix_refl _⟩
theorem cut_got (bs : List UInt8) {n : Int} {k : Nat} (h : isSign n) (hk : (bs ++ signB n).length = k + 1) : GotAt ((bs ++ signB n).take k) (bs.length : Int) (0, 0, false) := by
  refine .inr ⟨rfl, ?_⟩
  rintro ⟨_, _, m, hm⟩
  rw [Int.toNat_natCast] at hm
  have hlen : bs.length + (signB n).length = k + 1 := by rw [← hk, List.length_append]
  have hp := signB_pos h
  have e : ((bs ++ signB n).take k).drop bs.length = (signB n).take (k - bs.length) := by
    rw [List.drop_take, List.drop_left]
  rw [e] at hm
  have h1 : Got (signB n) m := ⟨hm.1, hm.2.trans (List.take_prefix _ _)⟩
  have h2 : Got (signB n) n := ⟨h, List.prefix_refl _⟩
  have e2 := got_unique h1 h2
  subst e2
  have := hm.2.length_le
  rw [List.length_take] at this
  omega
/-- What is told of a sign that was got. -/
theorem gotAt_told {es : List UInt8} {i y e : Int} (h : GotAt es i (y, e, true)) : ∃ k : Nat, i = (k : Int) ∧ k + (signB y).length ≤ es.length ∧ 1 ≤ (signB y).length ∧ e = (k : Int) + ((signB y).length : Int) ∧ isSign y ∧ signB y = (es.drop k).take (signB y).length := by
  rcases h with ⟨_, h0, h1, h2, h3⟩ | ⟨h, _⟩
  · obtain ⟨k, rfl⟩ := Int.eq_ofNat_of_zero_le h0
    rw [Int.toNat_natCast] at h2
    have hle := h2.2.length_le
    rw [List.length_drop] at hle
    have hp := signB_pos h2.1
    simp only at h3 hle hp
    exact ⟨k, rfl, by omega, hp, h3, h2.1, List.prefix_iff_eq_take.1 h2.2⟩
  · simp at h

theorem implSignOk_is {n : Int} {b : Bool} (h : Hd (signOkB n = b)) (w : World) : Calls Try.prog 16 #[.int .i64 n] w fun e w' => e = .returned (.bool b) ∧ w' = w := by
  have k := implSignOk_any n w
  rw [h.out] at k; exact k
theorem specSignOk_is {n : Int} {b : Bool} (h : Hd (signOkB n = b)) (w : World) : Calls Try.prog 17 #[.int .i64 n] w fun e w' => e = .returned (.bool b) ∧ w' = w := by
  have k := specSignOk_any n w
  rw [h.out] at k; exact k

theorem implPutSign_empty (w0 : World) (g0 c0 : Nat) (n : Int) (w : World) (hb : Below w0.heap.size w0 w) (hg : g0 < w.heap.size) : Calls Try.prog 11 #[.slice (some ⟨g0, 0, none⟩) 0 c0, .int .i64 n] w (EmptyPut w0 n) := by
  refine (implPutSign_some g0 0 0 c0 [] n w rfl (fun j hj => absurd hj (by omega)) hg (by omega)).mono ?_
  rintro e w2 ⟨g, c, rfl, _, hO, hB⟩
  exact ⟨g, c, rfl, conv_owned (hO.owns rfl (Nat.le_refl _)), ⟨Below.next hb hB⟩⟩

/-- Bytes that lie there, to be read. -/
structure Lies (w : World) (q n : Nat) (es : List UInt8) : Prop where
  size : es.length = n
  lt : q < w.heap.size
  cell : ∀ j, j < n → w.cell? ⟨q, 0 + j, none⟩ = some (.int .u8 ((es.getD j 0).toNat : Int))
theorem Lies.below {w w' : World} {q n : Nat} {es : List UInt8} (h : Lies w q n es) (hb : Below w.heap.size w w') : Lies w' q n es :=
  ⟨h.size, by have := hb.size; have := h.lt; omega, fun j hj => (hb.cell (p := ⟨q, 0 + j, none⟩) h.lt).trans (h.cell j hj)⟩
theorem Lies.conv {w : World} {q n : Nat} {es : List UInt8} (h : Lies w q n es) (k m sz c : Nat) (hm : m = sz) (hk : k + sz ≤ n) :
    (convert 22 9 (.slice (some ⟨q, k, none⟩) m c)).run Try.prog w = .ok (.string ⟨((es.drop k).take sz).toArray⟩) w := by
  subst hm
  have := conv_from (c := c) (from_of (k := k) h.size h.cell) hk
  rw [Nat.zero_add] at this; exact this
theorem Lies.whole {w : World} {q n : Nat} {es : List UInt8} (h : Lies w q n es) (c : Nat) :
    (convert 22 9 (.slice (some ⟨q, 0, none⟩) n c)).run Try.prog w = .ok (.string ⟨es.toArray⟩) w := by
  have := h.conv 0 n n c rfl (by omega)
  rw [List.drop_zero, List.take_of_length_le (by rw [h.size]; exact Nat.le_refl _)] at this; exact this
theorem Lies.take {w : World} {q n : Nat} {es : List UInt8} (h : Lies w q n es) (k : Nat) (hk : k ≤ n) : Lies w q k (es.take k) :=
  ⟨by rw [List.length_take, h.size]; omega, h.lt, fun j hj => by rw [h.cell j (by omega)]; simp [List.getD, hj]⟩
theorem Own.lies {w : World} {g c n : Nat} {bs : List UInt8} (h : Own w g c bs) (hn : bs.length = n) : Lies w g n bs := ⟨hn, h.lt, h.cell hn⟩

end Go.Proofs.Ytnfjmpljfplahaa
