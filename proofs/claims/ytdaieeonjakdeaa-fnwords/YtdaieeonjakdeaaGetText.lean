/- Contracts of GetText, in the specification and in the program. -/
import Derived.Test.YtdaieeonjakdeaaGet
import Derived.Laws.IdiomStrings
namespace Go.Proofs.Ytdaieeonjakdeaa
open Go.RowKit

theorem conv_none (a : Addr) (c : Nat) (w : World) : (convert 22 9 (.slice (some a) 0 c)).run Try.prog w = .ok (.string ⟨#[]⟩) w :=
  run_convert_bytes_back (P := Try.prog) w 22 9 5 a c [] Try.underlying22 Try.underlying5 Try.underlying9 (fun j hj => absurd hj (by simp))
theorem conv_some (b off : Nat) (l : List UInt8) (n c : Nat) (w : World) (hn : l.length = n) (hc : ∀ j, j < n → w.cell? ⟨b, off + j, none⟩ = some (.int .u8 ((l.getD j 0).toNat : Int))) :
    (convert 22 9 (.slice (some ⟨b, off, none⟩) n c)).run Try.prog w = .ok (.string ⟨l.toArray⟩) w := by
  subst hn
  refine run_convert_bytes_back (P := Try.prog) w 22 9 5 ⟨b, off, none⟩ c l Try.underlying22 Try.underlying5 Try.underlying9 (fun j hj => ?_)
  rw [Addr.add_lit, hc j hj]
  simp [List.getD, List.getElem?_eq_getElem hj]

theorem implGetW_is {ao : Option Addr} {len cap : Nat} {bs : List UInt8} {at_ r1 r2 : Int} {r3 : Bool} {w : World} (hr : Hid (Reads w ao len bs)) (hl : len ≤ 1073741824) (hg : Hid (getW bs at_ = (r1, r2, r3))) :
    Calls Try.prog 8 #[.slice ao len cap, .int .i64 at_] w fun e w' => e = .returned (.tuple #[.int .i64 r1, .int .i64 r2, .bool r3]) ∧ ∃ n, w' = w.drewN n := by
  have h := implGetW_any ao len cap bs at_ w hr.out hl
  rw [hg.out] at h; exact h

/-- What GetText answers. -/
def getText (bs : List UInt8) (at_ : Int) : ByteArray × Int × Bool :=
  if (getW bs at_).2.2 = true ∧ (getW bs at_).1 ≤ 60 ∧ (getW bs at_).1 ≤ (bs.length : Int) - (getW bs at_).2.1 then
    (⟨((bs.drop (getW bs at_).2.1.toNat).take (getW bs at_).1.toNat).toArray⟩, (getW bs at_).2.1 + (getW bs at_).1, true) else (⟨#[]⟩, 0, false)

theorem getW_cases (bs : List UInt8) (at_ : Int) : (∃ m p : Nat, getW bs at_ = ((m : Int), (p : Int), true) ∧ p ≤ bs.length) ∨ getW bs at_ = (0, 0, false) := by
  by_cases h : at_ < 0 ∨ (bs.length : Int) - 2 < at_
  · exact .inr (getW_out bs at_ h)
  · obtain ⟨k, rfl⟩ := Int.eq_ofNat_of_zero_le (show 0 ≤ at_ from by omega)
    exact .inl ⟨_, k + 2, getW_in bs k (by omega), by omega⟩

set_option maxHeartbeats 400000 in
theorem implGetText_d (b off len cap : Nat) (bs : List UInt8) (at_ : Int) (m p : Nat) (w : World) (hn : bs.length = len) (hlc : len ≤ cap) (hc : ∀ j, j < len → w.cell? ⟨b, off + j, none⟩ = some (.int .u8 ((bs.getD j 0).toNat : Int))) (hl : len ≤ 1073741824)
    (hg : getW bs at_ = ((m : Int), (p : Int), true)) (hm : m ≤ 60) (hpm : p + m ≤ len) (h0 : ¬ m = 0) :
    Calls Try.prog 14 #[.slice (some ⟨b, off, none⟩) len cap, .int .i64 at_] w fun e w' => e = .returned (.tuple #[.string ⟨((bs.drop p).take m).toArray⟩, .int .i64 ((p + m : Nat) : Int), .bool true]) ∧ ∃ n, w' = w.drewN n := by
  have Hr : Hid (Reads w (some ⟨b, off, none⟩) len bs) := ⟨hn, .inr ⟨b, off, rfl, hc⟩⟩
  have Hg : Hid (getW bs at_ = ((m : Int), (p : Int), true)) := hg
  have hlen : ((bs.drop p).take m).length = m := by simp; omega
  have k1 : ¬ (60 : Int) < (m : Int) := by omega
  have k2 : ¬ ((len : Int) - (p : Int) < (m : Int)) := by omega
  have k3 : (p : Int) ≤ (p : Int) + (m : Int) := by omega
  have k4 : (p : Int) + (m : Int) ≤ (cap : Int) := by omega
  have hconv : ∀ c nq, (convert 22 9 (.slice (some ⟨b, off + p, none⟩) m c)).run Try.prog (w.drewN nq) = .ok (.string ⟨((bs.drop p).take m).toArray⟩) (w.drewN nq) := by
    intro c nq
    refine conv_some b (off + p) _ m c (w.drewN nq) hlen (fun j hj => ?_)
    rw [Nat.add_assoc]
    show w.cell? _ = _
    rw [hc (p + j) (by omega)]
    congr 3
    simp [List.getD, hj]
  clear hg hc hn hlen
  generalize ((bs.drop p).take m).toArray = S at *
  go_enter Try.func14, Try.ntmps14
  go_wp2_with fail
  refine (implGetW_is Hr hl Hg).mono ?_
  rintro e w1 ⟨rfl, n, rfl⟩
  go_wp2_with fail
  go_ret3
  exact ⟨rfl, n, rfl⟩

set_option maxHeartbeats 400000 in
theorem implGetText_0 (b off len cap : Nat) (bs : List UInt8) (at_ : Int) (p : Nat) (w : World) (hlc : len ≤ cap) (hr : Reads w (some ⟨b, off, none⟩) len bs) (hl : len ≤ 1073741824)
    (hg : getW bs at_ = (0, (p : Int), true)) (hpm : p ≤ len) :
    Calls Try.prog 14 #[.slice (some ⟨b, off, none⟩) len cap, .int .i64 at_] w fun e w' => e = .returned (.tuple #[.string ⟨#[]⟩, .int .i64 (p : Int), .bool true]) ∧ ∃ n, w' = w.drewN n := by
  have Hr : Hid (Reads w (some ⟨b, off, none⟩) len bs) := hr
  have Hg : Hid (getW bs at_ = (0, (p : Int), true)) := hg
  have k2 : ¬ ((len : Int) - (p : Int) < 0) := by omega
  have k4 : (p : Int) ≤ (cap : Int) := by omega
  have hconv := conv_none
  clear hg hr
  go_enter Try.func14, Try.ntmps14
  go_wp2_with fail
  refine (implGetW_is Hr hl Hg).mono ?_
  rintro e w1 ⟨rfl, n, rfl⟩
  go_wp2_with fail
  all_goals go_ret3
  all_goals exact ⟨rfl, n, rfl⟩

set_option maxHeartbeats 400000 in
theorem implGetText_no (ao : Option Addr) (len cap : Nat) (bs : List UInt8) (at_ : Int) (r1 r2 : Int) (r3 : Bool) (w : World) (hr : Reads w ao len bs) (hl : len ≤ 1073741824)
    (hg : getW bs at_ = (r1, r2, r3)) (b2 : 0 ≤ r2 ∧ r2 ≤ 1073741824) (hno : r3 = false ∨ 60 < r1 ∨ (len : Int) - r2 < r1) :
    Calls Try.prog 14 #[.slice ao len cap, .int .i64 at_] w fun e w' => e = .returned (.tuple #[.string ⟨#[]⟩, .int .i64 0, .bool false]) ∧ ∃ n, w' = w.drewN n := by
  have Hr : Hid (Reads w ao len bs) := hr
  have Hg : Hid (getW bs at_ = (r1, r2, r3)) := hg
  clear hg hr
  obtain ⟨b2, b3⟩ := b2
  cases r3 with
  | false =>
    clear hno
    go_enter Try.func14, Try.ntmps14
    go_wp2_with fail
    refine (implGetW_is Hr hl Hg).mono ?_
    rintro e w1 ⟨rfl, n, rfl⟩
    go_wp2_with fail
    go_ret3
    exact ⟨rfl, n, rfl⟩
  | true =>
    by_cases h60 : 60 < r1
    · clear hno
      go_enter Try.func14, Try.ntmps14
      go_wp2_with fail
      refine (implGetW_is Hr hl Hg).mono ?_
      rintro e w1 ⟨rfl, n, rfl⟩
      go_wp2_with fail
      go_ret3
      exact ⟨rfl, n, rfl⟩
    · have h3 : (len : Int) - r2 < r1 := by rcases hno with h | h | h; (cases h); exact absurd h h60; exact h
      clear hno
      go_enter Try.func14, Try.ntmps14
      go_wp2_with fail
      refine (implGetW_is Hr hl Hg).mono ?_
      rintro e w1 ⟨rfl, n, rfl⟩
      go_wp2_with fail
      go_ret3
      exact ⟨rfl, n, rfl⟩

theorem implGetText_any (b off len cap : Nat) (bs : List UInt8) (at_ : Int) (w : World) (hlc : len ≤ cap) (hn : bs.length = len) (hc : ∀ j, j < len → w.cell? ⟨b, off + j, none⟩ = some (.int .u8 ((bs.getD j 0).toNat : Int))) (hl : len ≤ 1073741824) :
    Calls Try.prog 14 #[.slice (some ⟨b, off, none⟩) len cap, .int .i64 at_] w fun e w' => e = .returned (.tuple #[.string (getText bs at_).1, .int .i64 (getText bs at_).2.1, .bool (getText bs at_).2.2]) ∧ ∃ n, w' = w.drewN n := by
  have hr : Reads w (some ⟨b, off, none⟩) len bs := ⟨hn, .inr ⟨b, off, rfl, hc⟩⟩
  rcases getW_cases bs at_ with ⟨m, p, hg, hp⟩ | hg
  · by_cases h60 : m ≤ 60
    · by_cases hpm : p + m ≤ len
      · have e : getText bs at_ = (⟨((bs.drop p).take m).toArray⟩, ((p + m : Nat) : Int), true) := by
          unfold getText; rw [hg]; rw [if_pos ⟨rfl, by simp; omega, by simp; omega⟩]; simp
        rw [e]
        by_cases h0 : m = 0
        · subst h0
          simpa using implGetText_0 b off len cap bs at_ p w hlc hr hl (by simpa using hg) (by omega)
        · exact implGetText_d b off len cap bs at_ m p w hn hlc hc hl hg h60 hpm h0
      · have e : getText bs at_ = (⟨#[]⟩, 0, false) := by
          unfold getText; rw [hg]; rw [if_neg (by simp; omega)]
        rw [e]
        exact implGetText_no _ len cap bs at_ m p true w hr hl hg (by omega) (.inr (.inr (by omega)))
    · have e : getText bs at_ = (⟨#[]⟩, 0, false) := by
        unfold getText; rw [hg]; rw [if_neg (by simp; omega)]
      rw [e]
      exact implGetText_no _ len cap bs at_ m p true w hr hl hg (by omega) (.inr (.inl (by omega)))
  · have e : getText bs at_ = (⟨#[]⟩, 0, false) := by
      unfold getText; rw [hg]; rw [if_neg (by simp)]
    rw [e]
    exact implGetText_no _ len cap bs at_ 0 0 false w hr hl hg (by omega) (.inl rfl)

theorem implGetText_is {b off len cap : Nat} {bs : List UInt8} {at_ r2 : Int} {r1 : ByteArray} {r3 : Bool} {w : World} (hlc : len ≤ cap) (hn : bs.length = len) (hc : ∀ j, j < len → w.cell? ⟨b, off + j, none⟩ = some (.int .u8 ((bs.getD j 0).toNat : Int))) (hl : len ≤ 1073741824) (hg : getText bs at_ = (r1, r2, r3)) :
    Calls Try.prog 14 #[.slice (some ⟨b, off, none⟩) len cap, .int .i64 at_] w fun e w' => e = .returned (.tuple #[.string r1, .int .i64 r2, .bool r3]) ∧ ∃ n, w' = w.drewN n := by
  have h := implGetText_any b off len cap bs at_ w hlc hn hc hl
  rw [hg] at h; exact h

end Go.Proofs.Ytdaieeonjakdeaa
