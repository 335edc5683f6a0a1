/- Lengths of lists that are read. -/
import Derived.Test.YtidbhdlhcmjhkaaDpDev
import Derived.Test.YtidbhdlhcmjhkaaDevQ
import Derived.Test.YtidbhdlhcmjhkaaStrB
namespace Go.Proofs.Ytidbhdlhcmjhkaa
set_option maxRecDepth 4000
open Go.RowKit

theorem owS_len2 {α : Type} {n : Nat} {R : Rd α} {w : World} {ao : Option Addr} {len cap : Nat} {ls : List α} (h : RdS n R w [.slice ao len cap] ls) : ls.length = len := by
  obtain ⟨_, _, _, e, _, hl, _⟩ := h
  simp only [List.cons.injEq, Value.slice.injEq, and_true] at e
  obtain ⟨rfl, rfl, rfl⟩ := e
  exact hl
theorem rdS_getS {α : Type} {n : Nat} {R : Rd α} {w : World} {ao : Option Addr} {len cap : Nat} {ls : List α} (h : RdS n R w [.slice ao len cap] ls) {j : Nat} {a : α} (ha : ls[j]? = some a) :
    ∃ b off c, ao = some ⟨b, off, none⟩ ∧ c.length = n ∧ R w c a ∧ ∀ i v, c[i]? = some v → w.cell? ⟨b, off + j * n + i, none⟩ = some v := by
  obtain ⟨_, _, _, e, _, _, h⟩ := h
  simp only [List.cons.injEq, Value.slice.injEq, and_true] at e
  obtain ⟨rfl, rfl, rfl⟩ := e
  rcases h with rfl | ⟨b, off, e, g⟩
  · simp at ha
  · obtain ⟨c, h1, h2, h3⟩ := g j a ha
    exact ⟨b, off, c, e, h1, h2, h3⟩
theorem dev_lens {w : World} {x0 x1 : Option Addr} {m0 d0 m1 d1 : Nat} {f : Int} {b : Bool} {d : DevD} (h : RdDev w [.slice x0 m0 d0, .slice x1 m1 d1, .int .i64 f, .bool b] d) : d.secs.length = m0 ∧ d.cache.length = m1 := by
  obtain ⟨_, _, _, _, _, _, e, r0, r1⟩ := h
  simp only [List.cons.injEq, Value.slice.injEq, and_true] at e
  obtain ⟨⟨rfl, rfl, rfl⟩, ⟨rfl, rfl, rfl⟩, _⟩ := e
  exact ⟨owS_len2 r0, owS_len2 r1⟩
theorem fallD_len (d : DevD) (k : Int) : (fallD d k).secs.length = d.secs.length := by
  unfold fallD
  split
  · rfl
  · exact keepL_len _ _ _ _

theorem dev_some {w : World} {x0 x1 : Option Addr} {m0 d0 m1 d1 : Nat} {f : Int} {b : Bool} {d : DevD} (h : RdDev w [.slice x0 m0 d0, .slice x1 m1 d1, .int .i64 f, .bool b] d) (h0 : 0 < m0) :
    ∃ b o, x0 = some ⟨b, o, none⟩ ∧ ∀ (j : Nat) s, d.secs[j]? = some s → ∃ ao n c, RdB w [.slice ao n c] s ∧ w.cell? ⟨b, o + j, none⟩ = some (.slice ao n c) := by
  obtain ⟨_, _, _, _, _, _, e, r0, _⟩ := h
  simp only [List.cons.injEq, Value.slice.injEq, and_true] at e
  obtain ⟨⟨rfl, rfl, rfl⟩, _⟩ := e
  have hl := owS_len2 r0
  obtain ⟨s0, hs0⟩ := get_some (l := d.secs) (j := 0) (by omega)
  obtain ⟨b, o, _, e, _, _, _⟩ := rdS_getS r0 hs0
  refine ⟨b, o, e, fun j s hs => ?_⟩
  obtain ⟨b2, o2, c, e2, _, hR, hc⟩ := rdS_getS r0 hs
  rw [e] at e2
  simp only [Option.some.injEq, Addr.mk.injEq, and_true] at e2
  obtain ⟨rfl, rfl⟩ := e2
  obtain ⟨ao, n, cc, rfl, hm, hr⟩ := hR
  have := hc 0 _ rfl
  rw [Nat.mul_one, Nat.add_zero] at this
  exact ⟨ao, n, cc, ⟨ao, n, cc, rfl, hm, hr⟩, this⟩
theorem dev_some1 {w : World} {x0 x1 : Option Addr} {m0 d0 m1 d1 : Nat} {f : Int} {b : Bool} {d : DevD} (h : RdDev w [.slice x0 m0 d0, .slice x1 m1 d1, .int .i64 f, .bool b] d) (h0 : 0 < m1) :
    ∃ b o, x1 = some ⟨b, o, none⟩ ∧ ∀ (j : Nat) x, d.cache[j]? = some x → ∃ ao n c, RdB w [.slice ao n c] x.b ∧ w.cell? ⟨b, o + j * 2, none⟩ = some (.int .i64 x.n) ∧ w.cell? ⟨b, o + j * 2 + 1, none⟩ = some (.slice ao n c) := by
  obtain ⟨_, _, _, _, _, _, e, _, r1⟩ := h
  simp only [List.cons.injEq, Value.slice.injEq, and_true] at e
  obtain ⟨_, ⟨rfl, rfl, rfl⟩, _⟩ := e
  have hl := owS_len2 r1
  obtain ⟨s0, hs0⟩ := get_some (l := d.cache) (j := 0) (by omega)
  obtain ⟨b, o, _, e, _, _, _⟩ := rdS_getS r1 hs0
  refine ⟨b, o, e, fun j x hx => ?_⟩
  obtain ⟨b2, o2, c, e2, _, hR, hc⟩ := rdS_getS r1 hx
  rw [e] at e2
  simp only [Option.some.injEq, Addr.mk.injEq, and_true] at e2
  obtain ⟨rfl, rfl⟩ := e2
  obtain ⟨ao, n, cc, rfl, hr⟩ := hR
  have h1 := hc 0 _ rfl
  have h2 := hc 1 _ rfl
  rw [Nat.add_zero] at h1
  exact ⟨ao, n, cc, hr, h1, h2⟩

/-- Whether a sector may have these bytes: it had them, or they were written to it since. -/
def mayB (S : ByteArray) (m : Bool) (i : Int) (c : List WrD) (j : Nat) : Bool := m || (c.take j).any (fun x => decide (x.n = i) && ((strB x.b).toList == S.toList))
theorem mayB_step {S : ByteArray} {m : Bool} {i : Int} {c : List WrD} {j : Nat} {x : WrD} (h : c[j]? = some x) : mayB S m i c (j + 1) = (mayB S m i c j || (decide (x.n = i) && ((strB x.b).toList == S.toList))) := by
  unfold mayB
  rw [List.take_add_one, h, List.any_append, Bool.or_assoc]
  simp
theorem mayB_all {d : DevD} {k : Nat} {sx sz : List UInt8} {kp : Int} (hk : devOk d = true) (hx : d.secs[k]? = some sx) (hz : (fallD d kp).secs[k]? = some sz) : mayB (strB sz) ((strB sz).toList == (strB sx).toList) (k : Int) d.cache d.cache.length = true := by
  have hlt := (List.getElem?_eq_some_iff.1 hx).1
  have hi : inSecs d (k : Int) = true := by unfold inSecs; exact decide_eq_true (by omega)
  have e1 : secAt d (k : Int) = sx := by unfold secAt; rw [Int.toNat_natCast]; simp [List.getD, hx]
  have e2 : secAt (fallD d kp) (k : Int) = sz := by unfold secAt; rw [Int.toNat_natCast]; simp [List.getD, hz]
  have h := fall_may (keep := kp) hk hi
  rw [e1, e2] at h
  unfold mayB
  rw [List.take_length]
  rcases h with h | ⟨x, hxm, h1, h2⟩
  · rw [h]; simp
  · rw [Bool.or_eq_true, List.any_eq_true]
    exact .inr ⟨x, hxm, by rw [h1, h2]; simp⟩

end Go.Proofs.Ytidbhdlhcmjhkaa
