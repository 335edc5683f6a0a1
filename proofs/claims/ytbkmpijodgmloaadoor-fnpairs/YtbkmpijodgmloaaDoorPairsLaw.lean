/- Plain facts for the law of pairs, and what its walk carries. -/
import Derived.Test.YtbkmpijodgmloaaDoorDrawP
import Derived.Test.YtbkmpijodgmloaaDoorEucB
import Derived.Test.YtbkmpijodgmloaaDoorLies
namespace Go.Proofs.YtbkmpijodgmloaaDoor
open Go.RowKit

theorem take_one {es : List UInt8} {k : Nat} (h : k < es.length) : (es.drop k).take 1 = [es.getD k 0] := by
  rw [List.drop_eq_getElem_cons h, List.take_succ_cons, List.take_zero]
  simp [List.getD, List.getElem?_eq_getElem h]
theorem take_two {es : List UInt8} {k : Nat} (h : k + 1 < es.length) : (es.drop k).take 2 = [es.getD k 0, es.getD (k + 1) 0] := by
  rw [List.drop_eq_getElem_cons (by omega), List.take_succ_cons, take_one h]
  simp [List.getD, List.getElem?_eq_getElem (show k < es.length from by omega)]
/-- What is told of a sign that was got: its bytes stand there. -/
theorem euc_told {es : List UInt8} {i y en : Int} (h : eucAt es i = (y, en, true)) : ∃ k sz : Nat, i = (k : Int) ∧ en = (k : Int) + (sz : Int) ∧ k + sz ≤ es.length ∧ 1 ≤ sz ∧ eucB y = (es.drop k).take sz ∧ eucOk y = true ∧ y ≤ 9223372036854775807 := by
  by_cases hi : 0 ≤ i ∧ i < (es.length : Int)
  · obtain ⟨k, rfl⟩ : ∃ k : Nat, i = (k : Int) := ⟨i.toNat, by omega⟩
    have hk : k < es.length := by omega
    have hx2 := (es.getD k 0).toNat_lt
    obtain ⟨x, ex⟩ : ∃ x, (es.getD k 0).toNat = x := ⟨_, rfl⟩
    have bx : bt x = es.getD k 0 := by rw [← ex]; exact bt_self _
    by_cases h1 : x < 128
    · rw [euc_one hk ex h1] at h
      simp only [Prod.mk.injEq, and_true] at h
      obtain ⟨rfl, rfl⟩ := h
      exact ⟨k, 1, rfl, rfl, by omega, by omega, by rw [(eucB_one h1).1, take_one hk, bx], (eucB_one h1).2, by omega⟩
    · by_cases h2 : k + 1 < es.length
      · obtain ⟨v, ev⟩ : ∃ v, (es.getD (k + 1) 0).toNat = v := ⟨_, rfl⟩
        have bv : bt v = es.getD (k + 1) 0 := by rw [← ev]; exact bt_self _
        cases ho : psOk (x : Int) (v : Int) with
        | true =>
          rw [euc_yes h2 ex ev (by omega) ho] at h
          simp only [Prod.mk.injEq, and_true] at h
          obtain ⟨rfl, rfl⟩ := h
          obtain ⟨s1, s2, s3⟩ := sp_ps ho
          obtain ⟨b1, b2, _⟩ := ps_big ho
          exact ⟨k, 2, rfl, rfl, by omega, by omega, by rw [(eucB_two s3 s1 s2).1, take_two h2, bx, bv], (eucB_two s3 s1 s2).2, by omega⟩
        | false => rw [euc_no h2 ex ev (by omega) ho] at h; simp at h
      · rw [euc_last (by omega) ex (by omega)] at h; simp at h
  · rw [euc_out hi] at h; simp at h

/-- What stays behind each call: what came in is read as before, and the table lies in its variable. -/
structure PStays (w : World) (a0 : Option Addr) (len0 : Nat) (bs : List UInt8) (W : World) : Prop where
  below : Below w.heap.size w W
  reads : Reads W a0 len0 bs
  tab : PairsAt W
theorem PStays.start {w : World} {a0 : Option Addr} {len0 : Nat} {bs : List UInt8} (h : PairsAt w) (hr : Reads w a0 len0 bs) : PStays w a0 len0 bs w := ⟨Below.refl _ _, hr, h⟩
theorem PStays.next {w : World} {a0 : Option Addr} {len0 : Nat} {bs : List UInt8} {W V : World} (h : PStays w a0 len0 bs W) (hb : Below W.heap.size W V) : PStays w a0 len0 bs V :=
  ⟨Below.next h.below hb, h.reads.below rfl hb, h.tab.below hb⟩

theorem implPairSign_is {x y p : Int} {ok : Bool} (h1 : Hd (psN x y = p)) (h2 : Hd (psOk x y = ok)) (w : World) (T : PairsAt w) :
    Calls Tryd.prog 10 #[.int .i64 x, .int .i64 y] w fun e w' => e = .returned (.tuple #[.int .i64 p, .bool ok]) ∧ Below w.heap.size w w' := by
  rw [← h1.out, ← h2.out]; exact implPairSign_any x y w ⟨T⟩

end Go.Proofs.YtbkmpijodgmloaaDoor
