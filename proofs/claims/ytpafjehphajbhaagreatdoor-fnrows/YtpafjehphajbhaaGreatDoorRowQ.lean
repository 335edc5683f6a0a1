/- Plain facts on rows that are filled, cut and turned back. -/
import Derived.Test.YtpafjehphajbhaaGreatDoorRowP
namespace Go.Proofs.YtpafjehphajbhaaGreatDoor
set_option maxRecDepth 4000
open Go.RowKit

/-- What is done to a row: it is right, says the same, bears the same key. -/
structure Stays9 (r q : RowD) : Prop where
  ok : rOk q = true
  s : rS q = rS r
  t : rT q = rT r
  key : q.key = r.key

theorem rS_one (k : ByteArray) (t1 : Int) (b1 : List UInt8) (t2 : Int) (b2 : List UInt8) (a : Bool) : rS ⟨k, t1, b1, t2, b2, 1, a⟩ = tS t1 b1 ∧ rT ⟨k, t1, b1, t2, b2, 1, a⟩ = tOk t1 b1 := by simp [rS, rT, has_one]
theorem rS_two (k : ByteArray) (t1 : Int) (b1 : List UInt8) (t2 : Int) (b2 : List UInt8) (a : Bool) : rS ⟨k, t1, b1, t2, b2, 2, a⟩ = tS t2 b2 ∧ rT ⟨k, t1, b1, t2, b2, 2, a⟩ = tOk t2 b2 := by simp [rS, rT, has_two]
theorem rS_three (k : ByteArray) (t1 : Int) (b1 : List UInt8) (t2 : Int) (b2 : List UInt8) (a : Bool) : rS ⟨k, t1, b1, t2, b2, 3, a⟩ = tS t2 b2 ∧ rT ⟨k, t1, b1, t2, b2, 3, a⟩ = tOk t2 b2 := by simp [rS, rT, has_three]

theorem fill_two {r : RowD} (h : newB r.has = true) : fillR r = r := if_pos (.inr h)
theorem fill_one {k : ByteArray} {t1 : Int} {b1 : List UInt8} {a : Bool} (h : rOk ⟨k, t1, b1, 0, [], 1, a⟩ = true) : fillR ⟨k, t1, b1, 0, [], 1, a⟩ = if nOk t1 b1 0 = true then ⟨k, t1, b1, 0, nB t1 b1 0, 3, a⟩ else ⟨k, t1, b1, 0, [], 1, true⟩ := by
  unfold fillR
  rw [if_neg (by rw [h, has_one.2]; simp)]
theorem cut_one {k : ByteArray} {t1 : Int} {b1 : List UInt8} {t2 : Int} {b2 : List UInt8} {a : Bool} : cutR ⟨k, t1, b1, t2, b2, 1, a⟩ = ⟨k, t1, b1, t2, b2, 1, a⟩ := if_pos (.inr has_one.2)
theorem cut_new {r : RowD} (h : rOk r = true) (hn : newB r.has = true) : cutR r = ⟨r.key, 0, [], r.t2, r.b2, 2, false⟩ := by
  unfold cutR
  rw [if_neg (by rw [h, hn]; simp)]
theorem back_one {k : ByteArray} {t1 : Int} {b1 : List UInt8} {t2 : Int} {b2 : List UInt8} {a : Bool} : backR ⟨k, t1, b1, t2, b2, 1, a⟩ = ⟨k, t1, b1, t2, b2, 1, a⟩ := if_pos (.inr has_one.2)
theorem back_two {k : ByteArray} {t1 : Int} {b1 : List UInt8} {t2 : Int} {b2 : List UInt8} {a : Bool} (h : rOk ⟨k, t1, b1, t2, b2, 2, a⟩ = true) : backR ⟨k, t1, b1, t2, b2, 2, a⟩ = ⟨k, t1, b1, t2, b2, 2, true⟩ := by
  unfold backR
  rw [if_neg (by rw [h, has_two.2]; simp), if_neg (by rw [has_two.1]; simp)]
theorem back_three {k : ByteArray} {t1 : Int} {b1 : List UInt8} {t2 : Int} {b2 : List UInt8} {a : Bool} (h : rOk ⟨k, t1, b1, t2, b2, 3, a⟩ = true) : backR ⟨k, t1, b1, t2, b2, 3, a⟩ = ⟨k, t1, b1, 0, [], 1, false⟩ := by
  unfold backR
  rw [if_neg (by rw [h, has_three.2]; simp), if_pos has_three.1]

theorem fill_stays {r : RowD} (h : rOk r = true) : Stays9 r (fillR r) := by
  obtain ⟨hk, ⟨t1, b1, a, e, h1, h2⟩ | ⟨b2, a, e, h2⟩ | ⟨t1, b1, b2, a, e, h1, h2⟩⟩ := rOk_is h
  · generalize r.key = k at *
    subst e
    rw [fill_one h]
    split
    · rename_i hn
      obtain ⟨x1, x2, _, _⟩ := turn_back hn
      have hm : mOk t1 b1 0 (nB t1 b1 0) = true := mOk_of (nOk_t hn).1 x1 x2.symm
      exact ⟨by rw [rOk_both hm, hk, h1]; rfl, by rw [(rS_three ..).1, (rS_one ..).1, x2], by rw [(rS_three ..).2, (rS_one ..).2, x1, (nOk_t hn).1], rfl⟩
    · exact ⟨by rw [rOk_old, hk, h1]; simp, by rw [(rS_one ..).1, (rS_one ..).1], by rw [(rS_one ..).2, (rS_one ..).2], rfl⟩
  · have hn : newB r.has = true := by rw [e]; exact has_two.2
    rw [fill_two hn]; exact ⟨h, rfl, rfl, rfl⟩
  · have hn : newB r.has = true := by rw [e]; exact has_three.2
    rw [fill_two hn]; exact ⟨h, rfl, rfl, rfl⟩
theorem cut_stays {r : RowD} (h : rOk r = true) : Stays9 r (cutR r) := by
  obtain ⟨hk, ⟨t1, b1, a, e, h1, h2⟩ | ⟨b2, a, e, h2⟩ | ⟨t1, b1, b2, a, e, h1, h2⟩⟩ := rOk_is h
  · generalize r.key = k at *
    subst e
    rw [cut_one]; exact ⟨h, rfl, rfl, rfl⟩
  · generalize r.key = k at *
    subst e
    rw [cut_new h has_two.2]
    exact ⟨by rw [rOk_new, hk, h2]; rfl, by rw [(rS_two ..).1, (rS_two ..).1], by rw [(rS_two ..).2, (rS_two ..).2], rfl⟩
  · generalize r.key = k at *
    subst e
    rw [cut_new h has_three.2]
    exact ⟨by rw [rOk_new, hk, (mOk_parts h2).2.1]; rfl, by rw [(rS_two ..).1, (rS_three ..).1], by rw [(rS_two ..).2, (rS_three ..).2], rfl⟩
theorem back_stays {r : RowD} (h : rOk r = true) : Stays9 r (backR r) := by
  obtain ⟨hk, ⟨t1, b1, a, e, h1, h2⟩ | ⟨b2, a, e, h2⟩ | ⟨t1, b1, b2, a, e, h1, h2⟩⟩ := rOk_is h
  · generalize r.key = k at *
    subst e
    rw [back_one]; exact ⟨h, rfl, rfl, rfl⟩
  · generalize r.key = k at *
    subst e
    rw [back_two h]
    exact ⟨by rw [rOk_new, hk, h2]; rfl, by rw [(rS_two ..).1, (rS_two ..).1], by rw [(rS_two ..).2, (rS_two ..).2], rfl⟩
  · generalize r.key = k at *
    subst e
    rw [back_three h]
    obtain ⟨m1, m2, m3⟩ := mOk_parts h2
    exact ⟨by rw [rOk_old, hk, h1, m1]; rfl, by rw [(rS_one ..).1, (rS_three ..).1, m3], by rw [(rS_one ..).2, (rS_three ..).2, m1, m2], rfl⟩
theorem Stays9.trans {r q p : RowD} (h : Stays9 r q) (k : Stays9 q p) : Stays9 r p := ⟨k.ok, k.s.trans h.s, k.t.trans h.t, k.key.trans h.key⟩

/-- Done once more it is as it was. -/
theorem fill_again {r : RowD} (h : rOk r = true) : fillR (fillR r) = fillR r := by
  obtain ⟨hk, ⟨t1, b1, a, e, h1, h2⟩ | ⟨b2, a, e, h2⟩ | ⟨t1, b1, b2, a, e, h1, h2⟩⟩ := rOk_is h
  · have hs := fill_stays h
    generalize r.key = k at *
    subst e
    rw [fill_one h] at hs ⊢
    split
    · exact fill_two has_three.2
    · rename_i hn
      rw [if_neg hn] at hs
      rw [fill_one hs.ok, if_neg hn]
  · have hn : newB r.has = true := by rw [e]; exact has_two.2
    rw [fill_two hn, fill_two hn]
  · have hn : newB r.has = true := by rw [e]; exact has_three.2
    rw [fill_two hn, fill_two hn]
theorem cut_again {r : RowD} (h : rOk r = true) : cutR (cutR r) = cutR r := by
  have hs := cut_stays h
  obtain ⟨hk, ⟨t1, b1, a, e, h1, h2⟩ | ⟨b2, a, e, h2⟩ | ⟨t1, b1, b2, a, e, h1, h2⟩⟩ := rOk_is h
  · generalize r.key = k at *
    subst e
    rw [cut_one, cut_one]
  · have hn : newB r.has = true := by rw [e]; exact has_two.2
    rw [cut_new h hn] at hs ⊢
    rw [cut_new hs.ok has_two.2]
  · have hn : newB r.has = true := by rw [e]; exact has_three.2
    rw [cut_new h hn] at hs ⊢
    rw [cut_new hs.ok has_two.2]
theorem back_again {r : RowD} (h : rOk r = true) : backR (backR r) = backR r := by
  have hs := back_stays h
  obtain ⟨hk, ⟨t1, b1, a, e, h1, h2⟩ | ⟨b2, a, e, h2⟩ | ⟨t1, b1, b2, a, e, h1, h2⟩⟩ := rOk_is h
  · generalize r.key = k at *
    subst e
    rw [back_one, back_one]
  · generalize r.key = k at *
    subst e
    rw [back_two h] at hs ⊢
    rw [back_two hs.ok]
  · generalize r.key = k at *
    subst e
    rw [back_three h, back_one]
/-- Filled it has a new one, or is set aside; then cut, or turned back. -/
theorem filled {r : RowD} (h : rOk r = true) : (newB (fillR r).has || (fillR r).aside) = true ∧ ((cutR (fillR r)).has = 2 ∨ (cutR (fillR r)).aside = true) ∧ ((backR (fillR r)).has = 1 ∨ (backR (fillR r)).aside = true) ∧
    (r.has = 1 → (fillR r).has = 3 → (backR (fillR r)).t1 = r.t1 ∧ (backR (fillR r)).b1 = r.b1) := by
  have hs := fill_stays h
  obtain ⟨hk, ⟨t1, b1, a, e, h1, h2⟩ | ⟨b2, a, e, h2⟩ | ⟨t1, b1, b2, a, e, h1, h2⟩⟩ := rOk_is h
  · generalize r.key = k at *
    subst e
    rw [fill_one h] at hs ⊢
    split
    · rename_i hn
      rw [if_pos hn] at hs
      rw [cut_new hs.ok has_three.2, back_three hs.ok]
      exact ⟨by simp [has_three], .inl rfl, .inl rfl, fun _ _ => ⟨rfl, rfl⟩⟩
    · rw [cut_one, back_one]
      exact ⟨by simp, .inr rfl, .inr rfl, fun _ h3 => by simp at h3⟩
  · have hn : newB r.has = true := by rw [e]; exact has_two.2
    rw [fill_two hn]
    generalize r.key = k at *
    subst e
    rw [cut_new h has_two.2, back_two h]
    exact ⟨by simp [has_two], .inl rfl, .inr rfl, fun h3 => by simp at h3⟩
  · have hn : newB r.has = true := by rw [e]; exact has_three.2
    rw [fill_two hn]
    generalize r.key = k at *
    subst e
    rw [cut_new h has_three.2, back_three h]
    exact ⟨by simp [has_three], .inl rfl, .inl rfl, fun h3 => by simp at h3⟩

end Go.Proofs.YtpafjehphajbhaaGreatDoor
