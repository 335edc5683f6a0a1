/- Contracts of Utf8Ok, Count and TextOf, in the specification and in the program. -/
import Derived.Test.YtnfjmpljfplahaaSignsS
namespace Go.Proofs.Ytnfjmpljfplahaa
open Go.RowKit

structure OkOut (w : World) (t : List UInt8) (e : Ending) (w' : World) : Prop where
  out : ∃ (l : List Int) (ok : Bool), e = .returned (.bool ok) ∧ SignsAre t l ok ∧ Below w.heap.size w w'
structure CountOut (w : World) (t : List UInt8) (e : Ending) (w' : World) : Prop where
  out : ∃ (l : List Int) (ok : Bool), e = .returned (.int .i64 (l.length : Int)) ∧ SignsAre t l ok ∧ Below w.heap.size w w'

set_option maxHeartbeats 400000 in
theorem specUtf8Ok_any (s : ByteArray) (w : World) (hs : s.size ≤ 1048576) : Calls Try.prog 26 #[.string s] w (OkOut w s.data.toList) := by
  go_enter Try.func26, Try.ntmps26
  go_wp2_with fail
  refine (specSigns_any s _ hs).mono ?_
  rintro e w1 ⟨g, c, l, ok, rfl, hA, _, _, hB⟩
  have HA : Hd (SignsAre s.data.toList l ok) := ⟨hA⟩
  have HB : Hd (Below w.heap.size w w1) := ⟨hB⟩
  clear hA hB
  go_wp2_with fail
  go_ret
  exact ⟨l, ok, rfl, HA.out, HB.out⟩

set_option maxHeartbeats 400000 in
theorem implUtf8Ok_any (s : ByteArray) (w : World) (hs : s.size ≤ 1073741824) : Calls Try.prog 25 #[.string s] w (OkOut w s.data.toList) := by
  go_enter Try.func25, Try.ntmps25
  go_wp2_with fail
  refine (implSigns_any s _ hs).mono ?_
  rintro e w1 ⟨g, c, l, ok, rfl, hA, _, _, hB⟩
  have HA : Hd (SignsAre s.data.toList l ok) := ⟨hA⟩
  have HB : Hd (Below w.heap.size w w1) := ⟨hB⟩
  clear hA hB
  go_wp2_with fail
  go_ret
  exact ⟨l, ok, rfl, HA.out, HB.out⟩

set_option maxHeartbeats 400000 in
theorem specCount_any (s : ByteArray) (w : World) (hs : s.size ≤ 1048576) : Calls Try.prog 28 #[.string s] w (CountOut w s.data.toList) := by
  go_enter Try.func28, Try.ntmps28
  go_wp2_with fail
  refine (specSigns_any s _ hs).mono ?_
  rintro e w1 ⟨g, c, l, ok, rfl, hA, _, _, hB⟩
  have HA : Hd (SignsAre s.data.toList l ok) := ⟨hA⟩
  have HB : Hd (Below w.heap.size w w1) := ⟨hB⟩
  clear hA hB
  go_wp2_with fail
  go_ret
  exact ⟨l, ok, rfl, HA.out, HB.out⟩

set_option maxHeartbeats 400000 in
theorem implCount_any (s : ByteArray) (w : World) (hs : s.size ≤ 1073741824) : Calls Try.prog 27 #[.string s] w (CountOut w s.data.toList) := by
  go_enter Try.func27, Try.ntmps27
  go_wp2_with fail
  refine (implSigns_any s _ hs).mono ?_
  rintro e w1 ⟨g, c, l, ok, rfl, hA, _, _, hB⟩
  have HA : Hd (SignsAre s.data.toList l ok) := ⟨hA⟩
  have HB : Hd (Below w.heap.size w w1) := ⟨hB⟩
  clear hA hB
  go_wp2_with fail
  go_ret
  exact ⟨l, ok, rfl, HA.out, HB.out⟩

theorem textLen (l : List Int) : (l.flatMap signB).length ≤ 4 * l.length := by
  induction l with
  | nil => simp
  | cons n r ih => rw [List.flatMap_cons, List.length_append, List.length_cons]; have := signB_len n; omega
theorem text_snoc {l : List Int} {k : Nat} (h : k < l.length) {z : Int} (hz : l.getD k 0 = z) : (l.take (k + 1)).flatMap signB = (l.take k).flatMap signB ++ signB z := by
  have e : l[k] = z := by rw [← hz]; simp [List.getD, List.getElem?_eq_getElem h]
  rw [List.take_succ_eq_append_getElem h, List.flatMap_append, e]; simp
theorem own_block {w : World} {B n : Nat} {T : TypeId} {v : Value} {xs : List Value} (h : w.ownsRow B T 1 v n xs) {k : Nat} (hk : v.ownBlock = some k) : B ≤ k := by
  rcases h.2 with ⟨rfl, _⟩ | ⟨g, cap, cur, rfl, hb, _⟩
  · simp [Value.ownBlock] at hk
  · simp [Value.ownBlock] at hk; omega

/-- A text, whatever new memory was made. -/
structure TextIs (w : World) (bs : List UInt8) (e : Ending) (w' : World) : Prop where
  out : e = .returned (.string ⟨bs.toArray⟩) ∧ Below w.heap.size w w'

/-- A list of numbers as TextOf gets it. -/
structure Nums (w : World) (ao : Option Addr) (len : Nat) (l : List Int) : Prop where
  size : l.length = len
  cell : ∀ k, k < len → ∃ b off, ao = some ⟨b, off, none⟩ ∧ w.cell? ⟨b, off + k, none⟩ = some (.int .i64 (l.getD k 0))

set_option maxHeartbeats 1000000 in
theorem implTextOf_some (b off len cap : Nat) (l : List Int) (w : World) (hn : l.length = len) (hc : ∀ j, j < len → w.cell? ⟨b, off + j, none⟩ = some (.int .i64 (l.getD j 0))) (hl : len ≤ 1048576) :
    Calls Try.prog 21 #[.slice (some ⟨b, off, none⟩) len cap] w (TextIs w (l.flatMap signB)) := by
  have Hn : Hd (l.length = len) := ⟨hn⟩
  have Hc : Hd (∀ j, j < len → w.cell? ⟨b, off + j, none⟩ = some (.int .i64 (l.getD j 0))) := ⟨hc⟩
  clear hn hc
  go_enter Try.func21, Try.ntmps21
  go_wp2_with fail
  go_loopw [3, 8] (fun v i wr => ∃ k : Nat, k ≤ len ∧ i = .int .i64 k ∧ Hd (wr.ownsRow w.heap.size 5 1 v ((l.take k).flatMap signB).length (((l.take k).flatMap signB).map cb)) ∧ Hd (Below w.heap.size w wr)) (fun _ i _ => len - (intOf i).toNat)
  case atStart => exact ⟨0, Nat.zero_le _, rfl, ⟨by simp [World.ownsRow]⟩, ⟨Below.refl _ w⟩⟩
  case round =>
    obtain ⟨k, hk, rfl, HO, HB⟩ := hrel
    have hlen : ((l.take k).flatMap signB).length ≤ 4194304 := by
      have h1 := textLen (l.take k)
      have h2 : (l.take k).length ≤ l.length := by simp; omega
      have := Hn.out; omega
    by_cases hlt : k < len
    · have hcw := Hc.out k hlt
      have hbl := World.block_lt_of_cell? w _ hcw
      have hcr : wr.cell? ⟨b, off + k, none⟩ = some (.int .i64 (l.getD k 0)) := (HB.out.cell (p := ⟨b, off + k, none⟩) hbl).trans hcw
      obtain ⟨z, hz⟩ : ∃ z, l.getD k 0 = z := ⟨_, rfl⟩
      have HT : Hd ((l.take (k + 1)).flatMap signB = (l.take k).flatMap signB ++ signB z) := ⟨text_snoc (by rw [Hn.out]; exact hlt) hz⟩
      rw [hz] at hcr
      have hkI : (k : Int) < (len : Int) := by omega
      clear hcw hbl hz
      generalize hbs : (l.take k).flatMap signB = bs at *
      go_wp2_with fail
      refine (addSign_any _ bs bs.length z _ w.heap.size rfl HO.out HB.out.size (by omega)).mono ?_
      rintro e w1 ⟨v1, rfl, hO1, hG1, _⟩
      have HO1 : Hd (w1.ownsRow w.heap.size 5 1 v1 ((l.take (k + 1)).flatMap signB).length (((l.take (k + 1)).flatMap signB).map cb)) := ⟨by rw [HT.out]; exact hO1⟩
      have HB1 : Hd (Below w.heap.size w w1) := ⟨HB.out.grown hG1 HB.out.size (fun k hk => own_block HO.out hk)⟩
      clear hO1 hG1 HO HB hbs
      go_wp2_with fail
      go_roundw
      case rel => exact ⟨k + 1, by omega, by go_num, HO1, HB1⟩
      case measure => simp [intOf]; omega
    · have hke : k = len := by omega
      have HT : Hd ((l.take k).flatMap signB = l.flatMap signB) := ⟨by rw [hke, ← Hn.out, List.take_length]⟩
      have hkI : ¬ (k : Int) < (len : Int) := by omega
      have hcv := conv_owned HO.out
      rw [HT.out] at hcv
      clear hke hlen
      go_wp2_with fail
      go_ret
      exact ⟨rfl, HB.out⟩

set_option maxHeartbeats 1000000 in
theorem implTextOf_none (ao : Option Addr) (cap : Nat) (w : World) :
    Calls Try.prog 21 #[.slice ao 0 cap] w (TextIs w []) := by
  have hcv : (convert 22 9 (.slice none 0 0)).run Try.prog w = .ok (.string ⟨([] : List UInt8).toArray⟩) w := conv_owned (B := 0) (n := 0) ⟨rfl, .inl ⟨rfl, rfl⟩⟩
  go_enter Try.func21, Try.ntmps21
  go_wp2_with fail
  refine wp_loop_rounds 1 ?_
  rewrite [rounds_succ]
  go_wp2_with fail
  go_ret
  exact ⟨rfl, Below.refl _ w⟩

theorem implTextOf_any (ao : Option Addr) (len cap : Nat) (l : List Int) (w : World) (hr : ReadsI w ao len l) (hl : len ≤ 1048576) :
    Calls Try.prog 21 #[.slice ao len cap] w (TextIs w (l.flatMap signB)) := by
  obtain ⟨hn, h0 | ⟨b, off, rfl, hc⟩⟩ := hr
  · subst h0
    obtain rfl : l = [] := List.eq_nil_of_length_eq_zero hn
    exact implTextOf_none ao cap w
  · exact implTextOf_some b off len cap l w hn hc hl

end Go.Proofs.Ytnfjmpljfplahaa
