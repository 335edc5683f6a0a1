/- Parts of the proof, one behind the other. -/
import Derived.Test.YtlididoalekeoaaMxRecsOf2
import Derived.Test.YtlididoalekeoaaMxRecsOf1
import Derived.Test.YtlididoalekeoaaMxRecsOf3
import Derived.ChangeArms
import Derived.ChangeSlices
import Derived.Lib.SmallJoins
import Derived.Deep.AppendLies
import Derived.Deep.RegionHeldLaw
import Derived.Deep.MidRow
/- Contracts of what the laws do with a cell: its size, a copy of it, whether two are alike, and the marks of its memory. -/
namespace Go.Proofs.Ytlididoalekeoaa
set_option maxRecDepth 4000
open Go.RowKit

/-- A cell, as a value. -/
def cellV (tag : Int) (ao : Option Addr) (n c : Nat) : Value := .agg #[.int .i64 tag, .slice ao n c]

/-- What is left of a size. -/
def leftOf (n : Int) (len : Nat) : Int := if n < (len : Int) then -1 else n - (len : Int)
set_option maxHeartbeats 400000 in
theorem szByteS_n (ao : Option Addr) (len cap : Nat) (n : Int) (w : World) (hl : Hd (len ≤ maxLen)) (hn : Hd (0 ≤ n ∧ n ≤ 1048576)) :
    Calls Try.prog 106 #[.slice ao len cap, .int .i64 n] w fun e w' => e = .returned (.int .i64 (leftOf n len)) ∧ w = w' := by
  have hw : wrap64 (n - (len : Int)) = n - (len : Int) := by have := hl.out; have := hn.out; unfold maxLen at *; exact wrap64_in (by omega) (by omega)
  clear hl hn
  by_cases h : n < (len : Int)
  · rw [leftOf, if_pos h]
    have h2 : n - (len : Int) < 0 := by omega
    go_enter Try.func106, Try.ntmps106
    go_wp2
    go_ret
    exact ⟨rfl, rfl⟩
  · rw [leftOf, if_neg h]
    have h2 : ¬ n - (len : Int) < 0 := by omega
    go_enter Try.func106, Try.ntmps106
    go_wp2
    go_ret
    exact ⟨rfl, rfl⟩

set_option maxHeartbeats 400000 in
theorem szCell_n (tag : Int) (ao : Option Addr) (len cap : Nat) (n : Int) (w : World) (hl : Hd (len ≤ maxLen)) (hn : Hd (0 ≤ n ∧ n ≤ 1048576)) :
    Calls Try.prog 102 #[.agg #[.int .i64 tag, .slice ao len cap], .int .i64 n] w fun e w' => e = .returned (.int .i64 (leftOf n len)) ∧ Below w.heap.size w w' := by
  by_cases h : n < (len : Int)
  · have E : Hd (leftOf n len = -1) := ⟨if_pos h⟩
    rw [E.out]
    go_enter Try.func102, Try.ntmps102
    go_wp2_with fail
    refine (szByteS_n ao len cap n _ hl hn).mono ?_
    rintro e w1 ⟨rfl, hw⟩
    subst hw
    rewrite [E.out]
    go_wp2_with fail
    go_ret
    exact ⟨rfl, below_lit w _⟩
  · have E : Hd (leftOf n len = n - (len : Int)) := ⟨if_neg h⟩
    have h2 : ¬ n - (len : Int) < 0 := by omega
    rw [E.out]
    go_enter Try.func102, Try.ntmps102
    go_wp2_with fail
    refine (szByteS_n ao len cap n _ hl hn).mono ?_
    rintro e w1 ⟨rfl, hw⟩
    subst hw
    rewrite [E.out]
    go_wp2_with fail
    go_ret
    exact ⟨rfl, below_lit w _⟩

set_option maxHeartbeats 400000 in
theorem toCell_any (tag : Int) (ao : Option Addr) (len cap : Nat) (bs : List UInt8) (w : World) (hr : Reads w ao len bs) (hl : len ≤ 1073741824) :
    Calls Try.prog 103 #[.agg #[.int .i64 tag, .slice ao len cap]] w fun e w' => ∃ g, e = .returned (.agg #[.int .i64 tag, .slice (some ⟨g, 0, none⟩) len len]) ∧ w.heap.size ≤ g ∧ Row w' g bs ∧ Below w.heap.size w w' := by
  have Hr : Hd (Reads w ao len bs) := ⟨hr⟩
  clear hr
  go_enter Try.func103, Try.ntmps103
  go_wp2_with fail
  generalize hA : Obj.cells #[Value.int IntKind.i64 tag, Value.slice ao len cap] 121 = A
  generalize hB : Obj.cells #[Value.int IntKind.i64 0, Value.slice none 0 0] 82 = B
  generalize hC : Obj.cells #[Value.int IntKind.i64 tag, Value.slice none 0 0] 82 = C
  have h3 : Below w.heap.size w (((w.alloc A).alloc B).alloc C) := below_lit3 w A B C
  refine (toByteS_any ao len cap bs _ (Hr.out.below rfl h3) hl).mono ?_
  rintro e w1 ⟨rfl, hR, hb⟩
  obtain ⟨l0, l1, l2⟩ := laid3 w A B C
  subst hA hB hC
  obtain ⟨a0, a1, _, _⟩ := cells2 w1 w.heap.size _ _ _ ((hb.block w.heap.size (by simp; omega)).trans l0)
  obtain ⟨b0, b1, b3, b4⟩ := cells2 w1 (w.heap.size + 1) _ _ _ ((hb.block (w.heap.size + 1) (by simp)).trans l1)
  obtain ⟨c0, c1, c3, c4⟩ := cells2 w1 (w.heap.size + 1 + 1) _ _ _ ((hb.block (w.heap.size + 1 + 1) (by simp)).trans l2)
  have HK : Hd (w1.heap[w.heap.size + 1]? = some (.cells #[.int .i64 0, .slice none 0 0] 82 (0, 0))) := ⟨(hb.block (w.heap.size + 1) (by simp)).trans l1⟩
  have HB : Hd (Below w.heap.size w w1) := ⟨Below.next h3 hb⟩
  simp only [World.size_alloc] at hR ⊢
  have HR : Hd (Row w1 (w.heap.size + 1 + 1 + 1) bs) := ⟨hR⟩
  clear hR hb h3 l0 l1 l2
  go_wp2_with fail
  refine bodyPost_ret (results_cell_row rfl _ _ (w.heap.size + 1) _ _ (0, 0) _ rfl (set2 _ _ (block_set HK.out (by omega))) Try.underlying82 rfl (by kernel_rfl)) rfl ?_
  refine ⟨_, rfl, by omega, ?_, ?_⟩
  · exact ((HR.out.set _ (by omega)).set _ (by omega)).set _ (by omega)
  · exact bset (bset (bset HB.out _ (by omega)) _ (by omega)) _ (by omega)

set_option maxHeartbeats 400000 in
theorem eqCell_true (tag : Int) (a1 a2 : Option Addr) (c1 c2 len : Nat) (bs : List UInt8) (w : World) (hl : len ≤ 1073741824) (h1 : Reads w a1 len bs) (h2 : Reads w a2 len bs) :
    Calls Try.prog 105 #[.agg #[.int .i64 tag, .slice a1 len c1], .agg #[.int .i64 tag, .slice a2 len c2]] w fun e w' => e = .returned (.bool true) ∧ Below w.heap.size w w' := by
  have H1 : Hd (Reads w a1 len bs) := ⟨h1⟩
  have H2 : Hd (Reads w a2 len bs) := ⟨h2⟩
  clear h1 h2
  have f1 : (tag != tag) = false := by simp
  go_enter Try.func105, Try.ntmps105
  go_wp2_with fail
  generalize hA : Obj.cells #[Value.int IntKind.i64 tag, Value.slice a1 len c1] 82 = A
  generalize hB : Obj.cells #[Value.int IntKind.i64 tag, Value.slice a2 len c2] 82 = B
  have h3 : Below w.heap.size w ((w.alloc A).alloc B) := below_lit2 w A B
  refine (eqByteS_true a1 a2 c1 c2 len bs _ hl (H1.out.below rfl h3) (H2.out.below rfl h3)).mono ?_
  rintro e w1 ⟨rfl, hb⟩
  have HB : Hd (Below w.heap.size w w1) := ⟨Below.next h3 hb⟩
  clear hb h3 hA hB
  go_wp2_with fail
  go_ret
  exact ⟨rfl, HB.out⟩

end Go.Proofs.Ytlididoalekeoaa
/- What the laws do with a list of bytes, in the words of Deep. -/
namespace Go.Proofs.Ytlididoalekeoaa
set_option maxRecDepth 4000
open Go.RowKit

def wtB (bs : List UInt8) : Nat := bs.length
def ctB (bs : List UInt8) : Nat := bs.length
def mkB (m : Nat) (bs : List UInt8) : List UInt8 := marks m bs.length
theorem rdB_parts {w : World} {ao : Option Addr} {len cap : Nat} {bs : List UInt8} (h : RdB w [.slice ao len cap] bs) : len ≤ maxLen ∧ Reads w ao len bs := by
  obtain ⟨_, _, _, e, hm, hr⟩ := h
  simp only [List.cons.injEq, Value.slice.injEq, and_true] at e
  obtain ⟨rfl, rfl, rfl⟩ := e
  exact ⟨hm, hr⟩
theorem owB_parts {w : World} {ao : Option Addr} {len cap : Nat} {F : Fp} {bs : List UInt8} (h : OwB w [.slice ao len cap] F bs) : (∀ x, F x → x < w.heap.size) ∧ bs.length = len ∧ ((ao = none ∧ bs = []) ∨ ∃ g, ao = some ⟨g, 0, none⟩ ∧ F g ∧ Row w g bs) := by
  obtain ⟨hF, _, _, _, e, hn, hr⟩ := h
  simp only [List.cons.injEq, Value.slice.injEq, and_true] at e
  obtain ⟨rfl, rfl, rfl⟩ := e
  exact ⟨hF, hn, hr⟩

theorem szByteS_rd (ao : Option Addr) (len cap : Nat) (bs : List UInt8) (n : Int) (w : World) (h : RdB w [.slice ao len cap] bs) (hn : 0 ≤ n ∧ n ≤ 1048576) :
    Calls Try.prog 106 #[.slice ao len cap, .int .i64 n] w (SzOut n (wtB bs) w) := by
  obtain ⟨hm, hr⟩ := rdB_parts h
  refine (szByteS_n ao len cap n w ⟨hm⟩ ⟨hn⟩).mono ?_
  rintro e w' ⟨rfl, rfl⟩
  have := hr.1
  unfold leftOf wtB
  by_cases hc : n < (len : Int)
  · rw [if_pos hc]; exact ⟨⟨_, rfl, by omega, by omega, fun h => by omega⟩, Below.refl _ _⟩
  · rw [if_neg hc]; exact ⟨⟨_, rfl, by omega, by omega, fun h => by omega⟩, Below.refl _ _⟩

theorem eqByteS_rd (a1 : Option Addr) (n1 c1 : Nat) (a2 : Option Addr) (n2 c2 : Nat) (bs : List UInt8) (w : World) (h1 : RdB w [.slice a1 n1 c1] bs) (h2 : RdB w [.slice a2 n2 c2] bs) (hw : wtB bs ≤ 1073741824) :
    Calls Try.prog 10 #[.slice a1 n1 c1, .slice a2 n2 c2] w fun e w' => e = .returned (.bool true) ∧ Below w.heap.size w w' := by
  obtain ⟨_, h1⟩ := rdB_parts h1
  obtain ⟨_, h2⟩ := rdB_parts h2
  obtain rfl : n1 = n2 := h1.1.symm.trans h2.1
  unfold wtB at hw
  exact eqByteS_true a1 a2 c1 c2 n1 bs w (by rw [← h1.1]; exact hw) h1 h2

theorem toByteS_rd (ao : Option Addr) (len cap : Nat) (bs : List UInt8) (w : World) (h : RdB w [.slice ao len cap] bs) (hw : wtB bs ≤ 1073741824) :
    Calls Try.prog 14 #[.slice ao len cap] w (AnsSl OwB bs w) := by
  obtain ⟨_, hr⟩ := rdB_parts h
  unfold wtB at hw
  refine (toByteS_any ao len cap bs w hr (by rw [← hr.1]; exact hw)).mono ?_
  rintro e w' ⟨rfl, hR, hB⟩
  exact ⟨⟨_, _, _, rfl, fun x => x = w.heap.size, owB_row hR hr.1, fun x hx => by rw [hx]; exact Nat.le_refl _⟩, hB⟩

set_option maxHeartbeats 400000 in
theorem heldByteS_rd (ao : Option Addr) (len cap m : Nat) (bs : List UInt8) (w : World) (h : RdB w [.slice ao len cap] (mkB m bs)) (hs : m + ctB bs ≤ 1073741824) :
    Calls Try.prog 12 #[.slice ao len cap, .int .i64 (m : Int)] w fun e w' => e = .returned (.int .i64 ((m + ctB bs : Nat) : Int)) ∧ Below w.heap.size w w' := by
  obtain ⟨_, hr⟩ := rdB_parts h
  have hl : bs.length = len := by have := hr.1; rw [mkB, marks_length] at this; exact this
  unfold ctB at *
  rw [hl]
  rw [hl] at hs
  rcases hr.2 with h0 | ⟨b, off, rfl, hc⟩
  · subst h0
    clear hr h hl hs
    go_enter Try.func12, Try.ntmps12
    go_wp2_with fail
    refine wp_loop_rounds 1 ?_
    rewrite [rounds_succ]
    go_wp2_with fail
    go_ret
    exact ⟨rfl, Below.refl _ _⟩
  · have HC : Hd (∀ j, j < len → w.cell? ⟨b, off + j, none⟩ = some (.int .u8 (IntKind.u8.wrap ((m + j : Nat) : Int)))) := ⟨fun j hj => by rw [hc j hj, mkB, hl, marks_get m len j hj, ← mark_val]⟩
    clear hr h hl hc
    go_enter Try.func12, Try.ntmps12
    go_wp2_with fail
    go_loop [1, 5] (fun q i => ∃ k : Nat, k ≤ len ∧ i = .int .i64 k ∧ q = .int .i64 ((m + k : Nat) : Int)) (fun _ i => len - (intOf i).toNat)
    case atStart => exact ⟨0, Nat.zero_le _, rfl, rfl⟩
    case round =>
      obtain ⟨k, hk, rfl, rfl⟩ := hrel
      by_cases hlt : k < len
      · have hco := HC.out k hlt
        have hne : (IntKind.u8.wrap ((m + k : Nat) : Int) != IntKind.u8.wrap ((m + k : Nat) : Int)) = false := by simp
        go_wp2
        go_round
        case rel => exact ⟨k + 1, by omega, by go_num, by go_num⟩
        case measure => simp [intOf]; omega
      · have hfin : Hid (((m + k : Nat) : Int) = ((m + len : Nat) : Int)) := by show _ = _; rw [show k = len from by omega]
        go_wp2
        go_ret
        exact ⟨ret_int hfin.out, Below.refl _ _⟩

theorem markByteS_ow (ao : Option Addr) (len cap m : Nat) (bs : List UInt8) (F : Fp) (w : World) (h : OwB w [.slice ao len cap] F bs) (hs : m + ctB bs ≤ 1073741824) :
    Calls Try.prog 11 #[.slice ao len cap, .int .i64 (m : Int)] w (MkOut OwB [.slice ao len cap] F (mkB m bs) (m + ctB bs) w) := by
  unfold ctB at *
  obtain ⟨hF, hn, hr⟩ := owB_parts h
  rcases hr with ⟨rfl, rfl⟩ | ⟨g, rfl, hFg, hR0⟩
  · obtain rfl : len = 0 := hn.symm
    refine (markByteS_nil cap m w).mono ?_
    rintro e w' ⟨rfl, rfl⟩
    exact ⟨rfl, ⟨hF, _, _, _, rfl, rfl, .inl ⟨rfl, rfl⟩⟩, Chg.refl _ _⟩
  · refine (markByteS_any g len cap m bs w hn hR0 (by omega) (by omega)).mono ?_
    rintro e w' ⟨rfl, hR, hG⟩
    refine ⟨by rw [hn], ⟨fun x hx => Nat.lt_of_lt_of_le (hF x hx) hG.size, _, _, _, rfl, by rw [mkB, marks_length]; exact hn, .inr ⟨g, rfl, hFg, ?_⟩⟩, Chg.of_grown hG (fun k e => by simp at e; rw [← e]; exact hFg)⟩
    rw [mkB, hn]; exact hR

end Go.Proofs.Ytlididoalekeoaa
/- From the reading of a law's argument to the words of Deep: bytes, lists. -/
namespace Go.Proofs.Ytlididoalekeoaa
set_option maxRecDepth 4000
open Go.RowKit Go.ChangeShapes Go.WideShapes Go.ChangeAt

/-- What the form of the claims reads as a datum of this type, Deep reads. -/
def RdT {α : Type} (t : TypeId) (R : Rd α) : Prop := ∀ {H : Type} (enc : TypeId × Value → H) (W : World) (base : Nat) (sp : Nat → Bool) (held : Bool) (fuel : Nat) (cs : List Value) (x : DataW H × List MemPlace),
  DataW.trod enc Try.prog W base sp held fuel t cs = some x → ∃ a, R W cs a

theorem list_choose {α : Type} {p : Nat → α → Prop} : ∀ {n : Nat}, (∀ i, i < n → ∃ a, p i a) → ∃ ls : List α, ls.length = n ∧ ∀ i a, ls[i]? = some a → p i a
  | 0, _ => ⟨[], rfl, fun i a h => by simp at h⟩
  | n + 1, h => by
    obtain ⟨ls, hl, hp⟩ := list_choose (n := n) (fun i hi => h i (by omega))
    obtain ⟨a, ha⟩ := h n (by omega)
    refine ⟨ls ++ [a], by simp [hl], fun i b hb => ?_⟩
    by_cases e : i < n
    · rw [List.getElem?_append_left (by omega)] at hb; exact hp i b hb
    · have hi : i = n := by have := get_lt hb; simp at this; omega
      subst hi
      rw [← hl, List.getElem?_concat_length] at hb
      cases hb
      exact ha
theorem rdB_trod (ht : Try.prog.underlying 22 = some (.slice 5)) (h8 : Try.prog.underlying 5 = some (.int .u8)) (hc : Try.prog.cellsOf 5 = 1) : RdT 22 RdB := by
  intro H enc W base sp held fuel cs x h
  rcases open_ints ht h8 hc h with ⟨rfl, _⟩ | ⟨a, l, c, zs, rfl, _, hl, hm, hz, _, hcell, hwz⟩
  · exact ⟨[], none, 0, 0, rfl, Nat.zero_le _, rfl, .inl rfl⟩
  · have hlz' : l ≤ zs.length := by rw [hz]; split <;> omega
    obtain ⟨bs, hb⟩ := reads_of_row (w := W) (a := some a) (len := l) (cap := l) (zs := zs.take l) (.inr ⟨a, rfl, Nat.le_refl _, by omega, by rw [List.length_take]; omega, fun i hi => by
      have hi2 : i < l := by rw [List.length_take] at hi; omega
      rw [hcell i (by omega)]
      congr 2
      simp [List.getD, hi2], fun n hn => hwz n (List.mem_of_mem_take hn)⟩)
    exact ⟨bs, some a, l, c, rfl, by omega, hb⟩

/-- A list of whatever is read so. -/
theorem rdS_trod {α : Type} {t e : TypeId} {n : Nat} {R : Rd α} (ht : Try.prog.underlying t = some (.slice e)) (hc : Try.prog.cellsOf e = n) (h0 : 0 < n) (hE : RdT e R) (ok : RdOk n R) : RdT t (RdS n R) := by
  intro H enc W base sp held fuel cs x h
  rcases DataW.trod_slice ht h with ⟨rfl, _⟩ | ⟨a, len, cap, elems, rest, m, _, rfl, _, _, hl, hm, hlen, hel, _, _⟩
  · exact ⟨[], none, 0, 0, rfl, Nat.zero_le _, rfl, .inl rfl⟩
  · rw [hc] at hel
    have hp : ∀ i, i < len → ∃ b, ∃ c, c.length = n ∧ R W c b ∧ ∀ j v, c[j]? = some v → W.cell? ((a.add (i * n)).add j) = some v := fun i hi => by
      obtain ⟨y, hy⟩ := get_some (l := elems) (j := i) (by omega)
      have h1 := hel i hi
      rw [hy] at h1
      obtain ⟨c, h2, h3⟩ := Option.bind_eq_some_iff.1 h1
      obtain ⟨b, hb⟩ := hE enc W base sp held m c y h3
      obtain ⟨_, h4, h5⟩ := World.cells?_some h2
      exact ⟨b, c, ok.len hb, hb, fun j v hv => by rw [h5 j (by rw [← ok.len hb]; exact get_lt hv)]; exact hv⟩
    obtain ⟨ls, hls, hp'⟩ := list_choose hp
    refine ⟨ls, some a, len, cap, rfl, Nat.le_trans hl hm, hls, ?_⟩
    by_cases hz : len = 0
    · exact .inl (List.eq_nil_of_length_eq_zero (by omega))
    · obtain ⟨b0, hb0⟩ := get_some (l := ls) (j := 0) (by omega)
      obtain ⟨c0, hc0, _, hcell0⟩ := hp' 0 b0 hb0
      obtain ⟨v0, hv0⟩ := get_some (l := c0) (j := 0) (by omega)
      have h6 := hcell0 0 v0 hv0
      obtain ⟨blk, off, spot⟩ := a
      have hspot : spot = none := by simpa [Addr.add] using World.cell?_spot h6
      subst hspot
      refine .inr ⟨blk, off, rfl, fun j b hb => ?_⟩
      obtain ⟨c, h1, h2, h3⟩ := hp' j b hb
      exact ⟨c, h1, h2, fun i v hv => by have := h3 i v hv; rw [Addr.add_lit, Addr.add_lit] at this; exact this⟩

end Go.Proofs.Ytlididoalekeoaa
/- append onto a slice of bytes of the call's own: where it lies, in a plain region and at a step of one that draws its order. -/
namespace Go.Proofs.Ytlididoalekeoaa
set_option maxRecDepth 4000
open Go.RowKit

theorem run_app (w : World) (ty : TypeId) (base q n c : Nat) (xs ys : List UInt8) (hown : Own w q c xs) (hxl : xs.length = n) (hbq : base ≤ q) (hbw : base ≤ w.heap.size) (ad : Addr) (m cc : Nat) (hl : ys.length = m) (hnews : ∀ j u, (ys.map cb)[j]? = some u → w.cell? (ad.add j) = some u) (hlim : n + m ≤ 2147483648) :
    ∃ g cap w', (Builtin.append_ #[22, 22] ty #[.slice (some ⟨q, 0, none⟩) n c, .slice (some ad) m cc]).run Try.prog w = .ok (.slice (some ⟨g, 0, none⟩) (n + m) cap) w' ∧ Own w' g cap (xs ++ ys) ∧ w.grownBy w' (some q) ∧ (g = q ∨ g = w.heap.size) ∧ base ≤ g := by
  obtain ⟨i0, hi, hz0, hz1, hz2⟩ := info_parts info8
  obtain ⟨v', w', hr, h2, h3, h4, h5⟩ := run_append_own_at (P := Try.prog) w base 22 ty 5 i0 (.int .u8 0) 1 1 Try.underlying22 hi hz0 hz1 hz2 rfl (by decide) (.slice (some ⟨q, 0, none⟩) n c) n (xs.map cb) (hown.owns hxl hbq) ad m cc (ys.map cb) (by simpa using hl) hnews (one_cb ys) (by unfold maxLen; omega) (by omega) hbw
  obtain ⟨g, c', hv, hg, hO, hw⟩ := own_app h2 (fun h => by simp [h4] at h) h5
  subst hv
  exact ⟨g, c', w', hr, hO, h3, hw, hg⟩

theorem wp_app {w : World} {o : Oper} {a : Act} {K : Act → World → Prop} {Q : Exit → Act → World → Prop} (s x : Operand)
    (ho : o.op = .call { callee := .builtin .append, args := #[s, x], argTypes := #[22, 22] })
    (base q n c : Nat) (xs ys : List UInt8) (hs : a.eval s = .slice (some ⟨q, 0, none⟩) n c) (hown : Own w q c xs) (hxl : xs.length = n) (hbq : base ≤ q) (hbw : base ≤ w.heap.size) (ad : Addr) (m cc : Nat) (hx : a.eval x = .slice (some ad) m cc) (hl : ys.length = m) (hnews : ∀ j u, (ys.map cb)[j]? = some u → w.cell? (ad.add j) = some u) (hlim : n + m ≤ 2147483648)
    (h : ∀ g cap w', Own w' g cap (xs ++ ys) → w.grownBy w' (some q) → (g = q ∨ g = w.heap.size) → base ≤ g → K (a.put o.dst (.slice (some ⟨g, 0, none⟩) (n + m) cap)) w') : o.wp Try.prog a w K Q := by
  obtain ⟨g, cap, w', hr, h1, h2, h3, h4⟩ := run_app w o.type base q n c xs ys hown hxl hbq hbw ad m cc hl hnews hlim
  unfold Oper.wp execOp
  simp only [ho, resolve, invoke, builtin, Sem.run_bind, Sem.run_pure, Result.andThen_ok, List.map_toArray, List.map_cons, List.map_nil, hs, hx, hr]
  exact h g cap w' h1 h2 h3 h4
theorem wpList_app {w : World} {ops : Array Oper} {rest : List Oper} {o : Oper} {a : Act} {Q : Exit → Act → World → Prop} (hgd : o.guard = none) (s x : Operand)
    (ho : o.op = .call { callee := .builtin .append, args := #[s, x], argTypes := #[22, 22] })
    (base q n c : Nat) (xs ys : List UInt8) (hs : a.eval s = .slice (some ⟨q, 0, none⟩) n c) (hown : Own w q c xs) (hxl : xs.length = n) (hbq : base ≤ q) (hbw : base ≤ w.heap.size) (ad : Addr) (m cc : Nat) (hx : a.eval x = .slice (some ad) m cc) (hl : ys.length = m) (hnews : ∀ j u, (ys.map cb)[j]? = some u → w.cell? (ad.add j) = some u) (hlim : n + m ≤ 2147483648)
    (h : ∀ g cap w', Own w' g cap (xs ++ ys) → w.grownBy w' (some q) → (g = q ∨ g = w.heap.size) → base ≤ g → wpList Try.prog ops Q rest (a.put o.dst (.slice (some ⟨g, 0, none⟩) (n + m) cap)) w') : wpList Try.prog ops Q (o :: rest) a w :=
  wpList_plain hgd fun _ hK => wp_app s x ho base q n c xs ys hs hown hxl hbq hbw ad m cc hx hl hnews hlim fun g cap w' h1 h2 h3 h4 => hK _ _ (h g cap w' h1 h2 h3 h4)
theorem step_app {w : World} {ops : Array Oper} {o : Oper} {a : Act} {K : Act → World → Prop} {Q : Exit → Act → World → Prop} {E : Prop} (hgd : o.guard = none) (s x : Operand)
    (ho : o.op = .call { callee := .builtin .append, args := #[s, x], argTypes := #[22, 22] })
    (base q n c : Nat) (xs ys : List UInt8) (hs : a.eval s = .slice (some ⟨q, 0, none⟩) n c) (hown : Own w q c xs) (hxl : xs.length = n) (hbq : base ≤ q) (hbw : base ≤ w.heap.size) (ad : Addr) (m cc : Nat) (hx : a.eval x = .slice (some ad) m cc) (hl : ys.length = m) (hnews : ∀ j u, (ys.map cb)[j]? = some u → w.cell? (ad.add j) = some u) (hlim : n + m ≤ 2147483648)
    (h : ∀ g cap w', Own w' g cap (xs ++ ys) → w.grownBy w' (some q) → (g = q ∨ g = w.heap.size) → base ≤ g → K (a.put o.dst (.slice (some ⟨g, 0, none⟩) (n + m) cap)) w') :
    if Region.wanted o (yielded ops a.tmps) = true then Oper.wp Try.prog o a w K Q else E := by
  have hw : Region.wanted o (yielded ops a.tmps) = true := by simp [Region.wanted, hgd]
  rw [if_pos hw]
  exact wp_app s x ho base q n c xs ys hs hown hxl hbq hbw ad m cc hx hl hnews hlim h

/-- append of a nil slice. -/
theorem run_app_nil (w : World) (ty : TypeId) (b : Addr) (n c : Nat) (h : n ≤ c) : (Builtin.append_ #[22, 22] ty #[.slice (some b) n c, .slice none 0 0]).run Try.prog w = .ok (.slice (some b) n c) w := by
  obtain ⟨i0, hi, hz0, hz1, hz2⟩ := info_parts info8
  simp [Builtin.append_, run_underlying Try.underlying22, sizeOf, typeInfo, hi, Builtin.lenOf, Builtin.firstCells, loadCells, h, storeCells]
theorem wp_app_nil {w : World} {o : Oper} {a : Act} {K : Act → World → Prop} {Q : Exit → Act → World → Prop} (s x : Operand)
    (ho : o.op = .call { callee := .builtin .append, args := #[s, x], argTypes := #[22, 22] })
    (b : Addr) (n c : Nat) (hs : a.eval s = .slice (some b) n c) (hx : a.eval x = .slice none 0 0) (hnc : n ≤ c)
    (h : K (a.put o.dst (.slice (some b) n c)) w) : o.wp Try.prog a w K Q := by
  have hr := run_app_nil w o.type b n c hnc
  unfold Oper.wp execOp
  simp only [ho, resolve, invoke, builtin, Sem.run_bind, Sem.run_pure, Result.andThen_ok, List.map_toArray, List.map_cons, List.map_nil, hs, hx, hr]
  exact h
theorem wpList_app_nil {w : World} {ops : Array Oper} {rest : List Oper} {o : Oper} {a : Act} {Q : Exit → Act → World → Prop} (hgd : o.guard = none) (s x : Operand)
    (ho : o.op = .call { callee := .builtin .append, args := #[s, x], argTypes := #[22, 22] })
    (b : Addr) (n c : Nat) (hs : a.eval s = .slice (some b) n c) (hx : a.eval x = .slice none 0 0) (hnc : n ≤ c)
    (h : wpList Try.prog ops Q rest (a.put o.dst (.slice (some b) n c)) w) : wpList Try.prog ops Q (o :: rest) a w :=
  wpList_plain hgd fun _ hK => wp_app_nil s x ho b n c hs hx hnc (hK _ _ h)
theorem step_app_nil {w : World} {ops : Array Oper} {o : Oper} {a : Act} {K : Act → World → Prop} {Q : Exit → Act → World → Prop} {E : Prop} (hgd : o.guard = none) (s x : Operand)
    (ho : o.op = .call { callee := .builtin .append, args := #[s, x], argTypes := #[22, 22] })
    (b : Addr) (n c : Nat) (hs : a.eval s = .slice (some b) n c) (hx : a.eval x = .slice none 0 0) (hnc : n ≤ c)
    (h : K (a.put o.dst (.slice (some b) n c)) w) :
    if Region.wanted o (yielded ops a.tmps) = true then Oper.wp Try.prog o a w K Q else E := by
  have hw : Region.wanted o (yielded ops a.tmps) = true := by simp [Region.wanted, hgd]
  rw [if_pos hw]
  exact wp_app_nil s x ho b n c hs hx hnc h

theorem own_emp (w : World) : Own (w.alloc (.cells #[] 5)) w.heap.size 0 [] := ⟨#[], heap_alloc_new w _, by simp, Nat.zero_le _, rfl, by simp⟩
theorem emp1 (X : World) (q : Nat) (hq : q = X.heap.size) : Own ((X.alloc (.cells #[] 5)).drew) q 0 [] := by subst hq; exact (own_emp X).of_block rfl
theorem emp2 (X : World) (o : Obj) (q : Nat) (hq : q = X.heap.size) : Own (((X.alloc (.cells #[] 5)).alloc o).drew) q 0 [] := by subst hq; exact ((own_emp X).below (below_lit _ o)).of_block rfl
theorem grown_cell {w w' : World} {q : Nat} {a : Addr} {v : Value} (h : w.grownBy w' (some q)) (hc : w.cell? a = some v) (hne : a.block ≠ q) : w'.cell? a = some v := by
  rw [h.cell_far a (World.block_lt_of_cell? w _ hc) (by simpa using hne)]; exact hc
theorem cell_set {w : World} {q j : Nat} {v x : Value} {a : Addr} (h : w.cell? a = some x) (hne : a.block ≠ q) : (w.setCell ⟨q, j, none⟩ v).cell? a = some x := by
  rw [World.cell?_of_block (w := w) (a := a) (heap_setCell_other w ⟨q, j, none⟩ a.block v hne)]; exact h
theorem cell_set3 {w : World} {q : Nat} {v0 v1 v2 x : Value} {a : Addr} (h : w.cell? a = some x) (hne : a.block ≠ q) : (((w.setCell ⟨q, 0, none⟩ v0).setCell ⟨q, 1, none⟩ v1).setCell ⟨q, 2, none⟩ v2).cell? a = some x := cell_set (cell_set (cell_set h hne) hne) hne
theorem grown_free {w w' : World} {q : Nat} {a : Addr} {v : Value} (h : w.grownBy w' (some q)) (hc : w.cell? a = some v) (hf : w.frozen? a = false) (hne : a.block ≠ q) : w'.frozen? a = false := by
  rw [h.frozen_far a (World.block_lt_of_cell? w _ hc) (by simpa using hne)]; exact hf
theorem grown_block {w w' : World} {q k : Nat} {o : Obj} (h : w.grownBy w' (some q)) (hc : w.heap[k]? = some o) (hne : k ≠ q) : w'.heap[k]? = some o := by
  rw [h.block k (Array.getElem?_eq_some_iff.1 hc).1 (by simpa using hne)]; exact hc

end Go.Proofs.Ytlididoalekeoaa
/- A slice of bytes of new memory, or nil; append of whatever slice, nil ones too. -/
namespace Go.Proofs.Ytlididoalekeoaa
set_option maxRecDepth 4000
open Go.RowKit

/-- A slice of bytes of new memory, or nil where there is none. -/
def OwnO (w : World) (B : Nat) (ao : Option Addr) (c : Nat) (bs : List UInt8) : Prop :=
  (ao = none ∧ c = 0 ∧ bs = []) ∨ ∃ q, ao = some ⟨q, 0, none⟩ ∧ B ≤ q ∧ Own w q c bs
theorem ownO_of {w : World} {B n : Nat} {v : Value} {bs : List UInt8} (h : w.ownsRow B 5 1 v n (bs.map cb)) : ∃ ao c, v = .slice ao n c ∧ OwnO w B ao c bs := by
  by_cases hv : v = .slice none 0 0
  · subst hv
    have hn : n = 0 := by
      rcases h.2 with ⟨_, h0⟩ | ⟨g, cap, cur, h', _⟩
      · exact h0
      · cases h'
    have hl : bs.length = n := by simpa using h.1
    subst hn
    exact ⟨none, 0, rfl, .inl ⟨rfl, rfl, List.eq_nil_of_length_eq_zero hl⟩⟩
  · obtain ⟨g, c, rfl, hb, hO⟩ := own_row h hv
    exact ⟨_, c, rfl, .inr ⟨g, rfl, hb, hO⟩⟩
theorem OwnO.owns {w : World} {B c n : Nat} {ao : Option Addr} {bs : List UInt8} (h : OwnO w B ao c bs) (hn : bs.length = n) : w.ownsRow B 5 1 (.slice ao n c) n (bs.map cb) := by
  rcases h with ⟨rfl, rfl, rfl⟩ | ⟨q, rfl, hb, hO⟩
  · simp at hn; subst hn; exact World.ownsRow_nil w B _ _
  · exact hO.owns hn hb
theorem OwnO.reads {w : World} {B c n : Nat} {ao : Option Addr} {bs : List UInt8} (h : OwnO w B ao c bs) (hn : bs.length = n) : Reads w ao n bs := by
  rcases h with ⟨rfl, rfl, rfl⟩ | ⟨q, rfl, hb, hO⟩
  · exact ⟨hn, .inl (by simpa using hn.symm)⟩
  · exact hO.row.reads hn
theorem OwnO.below {w w' : World} {B c : Nat} {ao : Option Addr} {bs : List UInt8} (h : OwnO w B ao c bs) (hb : Below w.heap.size w w') : OwnO w' B ao c bs := by
  rcases h with h | ⟨q, rfl, h1, hO⟩
  · exact .inl h
  · exact .inr ⟨q, rfl, h1, hO.below hb⟩
theorem OwnO.mono {w : World} {B B' c : Nat} {ao : Option Addr} {bs : List UInt8} (h : OwnO w B ao c bs) (hb : B' ≤ B) : OwnO w B' ao c bs := by
  rcases h with h | ⟨q, rfl, h1, hO⟩
  · exact .inl h
  · exact .inr ⟨q, rfl, by omega, hO⟩

theorem reads_none {w : World} {m : Nat} {ys : List UInt8} (h : Reads w none m ys) : m = 0 ∧ ys = [] := by
  have h0 : m = 0 := by
    rcases h.2 with h0 | ⟨b, off, e, _⟩
    · exact h0
    · cases e
  subst h0
  exact ⟨rfl, List.eq_nil_of_length_eq_zero h.1⟩
theorem reads_news {w : World} {a : Addr} {m : Nat} {ys : List UInt8} (h : Reads w (some a) m ys) : ∀ j u, (ys.map cb)[j]? = some u → w.cell? (a.add j) = some u := by
  rcases h.2 with h0 | ⟨b, off, e, hc⟩
  · intro j u hu
    have : ys = [] := List.eq_nil_of_length_eq_zero (h.1.trans h0)
    subst this; cases hu
  · cases e; exact map_cb_cell h.1 hc

/-- append of whatever slice onto one of the call's own, nil ones too. -/
theorem run_app_o (w : World) (ty : TypeId) (base n : Nat) (v : Value) (xs ys : List UInt8) (hown : w.ownsRow base 5 1 v n (xs.map cb)) (hbw : base ≤ w.heap.size) (ao : Option Addr) (m cc : Nat) (hr : Reads w ao m ys) (hlim : n + m ≤ 2147483648) :
    ∃ v' w', (Builtin.append_ #[22, 22] ty #[v, .slice ao m cc]).run Try.prog w = .ok v' w' ∧ w'.ownsRow base 5 1 v' (n + m) ((xs ++ ys).map cb) ∧ w.grownBy w' v.ownBlock := by
  obtain ⟨i0, hi, hz0, hz1, hz2⟩ := info_parts info8
  cases ao with
  | some a =>
    obtain ⟨v', w', h1, h2, h3, _, _⟩ := run_append_own_at (P := Try.prog) w base 22 ty 5 i0 (.int .u8 0) 1 1 Try.underlying22 hi hz0 hz1 hz2 rfl (by decide) v n (xs.map cb) hown a m cc (ys.map cb) (by simpa using hr.1) (reads_news hr) (one_cb ys) (by unfold maxLen; omega) (by omega) hbw
    exact ⟨v', w', h1, by rw [List.map_append]; exact h2, h3⟩
  | none =>
    obtain ⟨rfl, rfl⟩ := reads_none hr
    refine ⟨v, w, ?_, by simpa using hown, ⟨rfl, rfl, rfl, Nat.le_refl _, fun _ _ _ => rfl⟩⟩
    rcases hown.2 with ⟨rfl, rfl⟩ | ⟨g, cap, cur, rfl, hbg, hg, hnc, hcm, hcs, htake⟩
    · simp [Builtin.append_, run_underlying Try.underlying22, sizeOf, typeInfo, hi, Builtin.lenOf, Builtin.firstCells]
    · simp [Builtin.append_, run_underlying Try.underlying22, sizeOf, typeInfo, hi, Builtin.lenOf, Builtin.firstCells, loadCells, hnc, storeCells]
theorem wpList_app_o {w : World} {ops : Array Oper} {rest : List Oper} {o : Oper} {a : Act} {Q : Exit → Act → World → Prop} (hgd : o.guard = none) (s x : Operand)
    (ho : o.op = .call { callee := .builtin .append, args := #[s, x], argTypes := #[22, 22] })
    (base n : Nat) (v : Value) (xs ys : List UInt8) (hs : a.eval s = v) (hown : w.ownsRow base 5 1 v n (xs.map cb)) (hbw : base ≤ w.heap.size) (ao : Option Addr) (m cc : Nat) (hx : a.eval x = .slice ao m cc) (hr : Reads w ao m ys) (hlim : n + m ≤ 2147483648)
    (h : ∀ v' w', w'.ownsRow base 5 1 v' (n + m) ((xs ++ ys).map cb) → w.grownBy w' v.ownBlock → wpList Try.prog ops Q rest (a.put o.dst v') w') : wpList Try.prog ops Q (o :: rest) a w := by
  refine wpList_plain hgd fun _ hK => ?_
  obtain ⟨v', w', hrun, h1, h2⟩ := run_app_o w o.type base n v xs ys hown hbw ao m cc hr hlim
  unfold Oper.wp execOp
  simp only [ho, resolve, invoke, builtin, Sem.run_bind, Sem.run_pure, Result.andThen_ok, List.map_toArray, List.map_cons, List.map_nil, hs, hx, hrun]
  exact hK _ _ (h v' w' h1 h2)

end Go.Proofs.Ytlididoalekeoaa
/- Bytes that lie there, to be read. -/
namespace Go.Proofs.Ytlididoalekeoaa
set_option maxRecDepth 4000
open Go.RowKit

/-- Bytes that lie there, to be read. -/
structure Lies (w : World) (q n : Nat) (es : List UInt8) : Prop where
  size : es.length = n
  lt : q < w.heap.size
  cell : ∀ j, j < n → w.cell? ⟨q, 0 + j, none⟩ = some (.int .u8 ((es.getD j 0).toNat : Int))
theorem Lies.below {w w' : World} {q n : Nat} {es : List UInt8} (h : Lies w q n es) (hb : Below w.heap.size w w') : Lies w' q n es :=
  ⟨h.size, by have := hb.size; have := h.lt; omega, fun j hj => (hb.cell (p := ⟨q, 0 + j, none⟩) h.lt).trans (h.cell j hj)⟩
theorem Lies.take {w : World} {q n : Nat} {es : List UInt8} (h : Lies w q n es) (k : Nat) (hk : k ≤ n) : Lies w q k (es.take k) :=
  ⟨by rw [List.length_take, h.size]; omega, h.lt, fun j hj => by rw [h.cell j (by omega)]; simp [List.getD, hj]⟩
theorem Own.lies {w : World} {g c n : Nat} {bs : List UInt8} (h : Own w g c bs) (hn : bs.length = n) : Lies w g n bs := ⟨hn, h.lt, h.cell hn⟩

end Go.Proofs.Ytlididoalekeoaa
/- Bytes of a cell: nil without room, or at the head of a block. -/
namespace Go.Proofs.Ytlididoalekeoaa
set_option maxRecDepth 4000
open Go.RowKit

/-- The bytes of a cell that is handed in: nil, or they lie there. -/
def CellAt (w : World) (ao : Option Addr) (n c : Nat) (bs : List UInt8) : Prop :=
  (ao = none ∧ n = 0 ∧ c = 0 ∧ bs = []) ∨ ∃ q, ao = some ⟨q, 0, none⟩ ∧ n ≤ c ∧ Lies w q n bs
theorem CellAt.below {w w' : World} {ao : Option Addr} {n c : Nat} {bs : List UInt8} (h : CellAt w ao n c bs) (hb : Below w.heap.size w w') : CellAt w' ao n c bs := by
  rcases h with h | ⟨q, h1, h2, h3⟩
  · exact .inl h
  · exact .inr ⟨q, h1, h2, h3.below hb⟩
theorem CellAt.size {w : World} {ao : Option Addr} {n c : Nat} {bs : List UInt8} (h : CellAt w ao n c bs) : bs.length = n := by
  rcases h with ⟨_, rfl, _, rfl⟩ | ⟨q, _, _, h3⟩
  · rfl
  · exact h3.size
theorem CellAt.reads {w : World} {ao : Option Addr} {n c : Nat} {bs : List UInt8} (h : CellAt w ao n c bs) : Reads w ao n bs := by
  rcases h with ⟨rfl, rfl, _, rfl⟩ | ⟨q, rfl, _, h3⟩
  · exact ⟨rfl, .inl rfl⟩
  · exact ⟨h3.size, .inr ⟨q, 0, rfl, h3.cell⟩⟩
theorem OwnO.at_ {w : World} {B c n : Nat} {ao : Option Addr} {bs : List UInt8} (h : OwnO w B ao c bs) (hn : bs.length = n) : CellAt w ao n c bs := by
  rcases h with ⟨rfl, rfl, rfl⟩ | ⟨q, rfl, _, hO⟩
  · exact .inl ⟨rfl, by simpa using hn.symm, rfl, rfl⟩
  · exact .inr ⟨q, rfl, by have := hO.le; omega, hO.lies hn⟩

end Go.Proofs.Ytlididoalekeoaa
/- Bytes with their room, in the words of Deep: nil without room, or at the head of a block; what the laws do with them. -/
namespace Go.Proofs.Ytlididoalekeoaa
set_option maxRecDepth 4000
open Go.RowKit

def RdC : Rd (List UInt8) := fun w cs bs => ∃ ao n c, cs = [.slice ao n c] ∧ n ≤ maxLen ∧ CellAt w ao n c bs
def OwC : Ow (List UInt8) := fun w cs F bs => ∃ ao n c, cs = [.slice ao n c] ∧ OwB w [.slice ao n c] F bs ∧ n ≤ c ∧ (ao = none → c = 0)
theorem CellAt.same {w w' : World} {ao : Option Addr} {n c : Nat} {bs : List UInt8} (h : CellAt w ao n c bs) (hs : Same w w') : CellAt w' ao n c bs := by
  rcases h with h | ⟨q, h1, h2, h3⟩
  · exact .inl h
  · refine .inr ⟨q, h1, h2, h3.size, lt_of_same (hs q h3.lt) h3.lt, fun j hj => ?_⟩
    rw [World.cell?_of_block (w := w) (a := ⟨q, 0 + j, none⟩) (hs q h3.lt)]; exact h3.cell j hj
theorem rdC_ok : RdOk 1 RdC := ⟨fun ⟨_, _, _, e, _⟩ => by rw [e]; rfl, fun ⟨ao, n, c, e, hm, h⟩ hs => ⟨ao, n, c, e, hm, h.same hs⟩⟩
theorem rdC_w {w : World} {cs : List Value} {bs : List UInt8} (h : RdC w cs bs) : RdB w cs bs := by
  obtain ⟨ao, n, c, e, hm, h⟩ := h
  exact ⟨ao, n, c, e, hm, h.reads⟩
theorem rdC_parts {w : World} {ao : Option Addr} {n c : Nat} {bs : List UInt8} (h : RdC w [.slice ao n c] bs) : n ≤ maxLen ∧ CellAt w ao n c bs := by
  obtain ⟨_, _, _, e, hm, hr⟩ := h
  simp only [List.cons.injEq, Value.slice.injEq, and_true] at e
  obtain ⟨rfl, rfl, rfl⟩ := e
  exact ⟨hm, hr⟩
theorem owC_parts {w : World} {ao : Option Addr} {n c : Nat} {F : Fp} {bs : List UInt8} (h : OwC w [.slice ao n c] F bs) : OwB w [.slice ao n c] F bs ∧ n ≤ c ∧ (ao = none → c = 0) := by
  obtain ⟨_, _, _, e, hm, hr⟩ := h
  simp only [List.cons.injEq, Value.slice.injEq, and_true] at e
  obtain ⟨rfl, rfl, rfl⟩ := e
  exact ⟨hm, hr⟩
theorem owC_ok : OwOk 1 OwC RdC where
  len := fun ⟨_, _, _, e, _⟩ => by rw [e]; rfl
  lt := fun ⟨_, _, _, _, h, _⟩ => h.1
  keep := fun ⟨ao, n, c, e, h, h2⟩ hs => ⟨ao, n, c, e, owB_ok.keep h hs, h2⟩
  rd := fun {w _ _ bs} ⟨ao, n, c, e, h, h2, h3⟩ => by
    obtain ⟨_, hn, hr⟩ := owB_parts h
    refine ⟨ao, n, c, e, (rdB_parts (owB_ok.rd h)).1, ?_⟩
    rcases hr with ⟨rfl, rfl⟩ | ⟨g, rfl, _, hR⟩
    · exact .inl ⟨rfl, hn.symm, h3 rfl, rfl⟩
    · exact .inr ⟨g, rfl, h2, hn, hR.lt, fun j hj => by rw [Nat.zero_add]; exact hR.cell j (by omega)⟩
/-- New memory, or nil. -/
theorem owC_own {w : World} {B n c : Nat} {ao : Option Addr} {bs : List UInt8} (h : OwnO w B ao c bs) (hn : bs.length = n) : New B OwC w [.slice ao n c] bs := by
  rcases h with ⟨rfl, rfl, rfl⟩ | ⟨q, rfl, hb, hO⟩
  · have h0 : n = 0 := by rw [← hn]; rfl
    subst h0
    exact ⟨fun _ => False, ⟨none, 0, 0, rfl, owB_nil w, Nat.le_refl _, fun _ => rfl⟩, fun _ h => h.elim⟩
  · exact ⟨fun x => x = q, ⟨_, _, _, rfl, owB_row hO.row hn, by have := hO.le; omega, fun h => by cases h⟩, fun x hx => by rw [hx]; exact hb⟩
/-- The same, in a footprint that is told. -/
def FpO (ao : Option Addr) : Fp := fun x => ao = some ⟨x, 0, none⟩
theorem owC_fp {w : World} {B n c : Nat} {ao : Option Addr} {bs : List UInt8} (h : OwnO w B ao c bs) (hn : bs.length = n) : OwC w [.slice ao n c] (FpO ao) bs ∧ ∀ x, FpO ao x → B ≤ x := by
  rcases h with ⟨rfl, rfl, rfl⟩ | ⟨q, rfl, hb, hO⟩
  · have h0 : n = 0 := by rw [← hn]; rfl
    subst h0
    exact ⟨⟨none, 0, 0, rfl, ⟨fun x hx => by simp [FpO] at hx, none, 0, 0, rfl, rfl, .inl ⟨rfl, rfl⟩⟩, Nat.le_refl _, fun _ => rfl⟩, fun x hx => by simp [FpO] at hx⟩
  · have e : FpO (some ⟨q, 0, none⟩) = fun x => x = q := by funext x; simp [FpO, eq_comm]
    rw [e]
    exact ⟨⟨_, _, _, rfl, owB_row hO.row hn, by have := hO.le; omega, fun h => by cases h⟩, fun x hx => by rw [hx]; exact hb⟩

theorem toByteS_oc (ao : Option Addr) (len cap : Nat) (bs : List UInt8) (w : World) (h : RdB w [.slice ao len cap] bs) (hw : wtB bs ≤ 1073741824) :
    Calls Try.prog 14 #[.slice ao len cap] w (AnsSl OwC bs w) := by
  obtain ⟨_, hr⟩ := rdB_parts h
  unfold wtB at hw
  refine (toByteS_any ao len cap bs w hr (by rw [← hr.1]; exact hw)).mono ?_
  rintro e w' ⟨rfl, hR, hB⟩
  exact ⟨⟨_, _, _, rfl, fun x => x = w.heap.size, ⟨_, _, _, rfl, owB_row hR hr.1, Nat.le_refl _, fun h => by cases h⟩, fun x hx => by rw [hx]; exact Nat.le_refl _⟩, hB⟩

theorem markByteS_oc (ao : Option Addr) (len cap m : Nat) (bs : List UInt8) (F : Fp) (w : World) (h : OwC w [.slice ao len cap] F bs) (hs : m + ctB bs ≤ 1073741824) :
    Calls Try.prog 11 #[.slice ao len cap, .int .i64 (m : Int)] w (MkOut OwC [.slice ao len cap] F (mkB m bs) (m + ctB bs) w) := by
  obtain ⟨h1, h2, h3⟩ := owC_parts h
  refine (markByteS_ow ao len cap m bs F w h1 hs).mono ?_
  rintro e w' ⟨he, hO, hC⟩
  exact ⟨he, ⟨_, _, _, rfl, hO, h2, h3⟩, hC⟩

end Go.Proofs.Ytlididoalekeoaa
/- A struct as a whole, out of a box and into one: what the walk's laws want, off the box's cells. -/
namespace Go.Proofs.Ytlididoalekeoaa
set_option maxRecDepth 4000
open Go.RowKit

def putAt (cur : Array Value) : Nat → List Value → Array Value
  | _, [] => cur
  | o, v :: r => putAt (cur.setIfInBounds o v) (o + 1) r
theorem setCells_at {g : Nat} {T : TypeId} : ∀ (vs : List Value) (o : Nat) {w : World} {cur cur' : Array Value}, w.heap[g]? = some (.cells cur T (0, 0)) → putAt cur o vs = cur' → (w.setCells g o vs).heap[g]? = some (.cells cur' T (0, 0))
  | [], _, _, _, _, h, e => by rw [← e]; exact h
  | v :: r, o, w, cur, _, h, e => setCells_at r (o + 1) (w := w.setCell ⟨g, o, none⟩ v) (setA h o v rfl) e
theorem putAt_lay : ∀ (vs : List Value) (o : Nat) (cur : Array Value), o + vs.length ≤ cur.size → putAt cur o vs = (cur.toList.take o ++ (vs ++ cur.toList.drop (o + vs.length))).toArray
  | [], o, cur, _ => by simp [putAt]
  | v :: r, o, cur, h => by
    have h' : o + 1 + r.length ≤ cur.size := by simp at h; omega
    have hi : o < cur.toList.length := by rw [Array.length_toList]; omega
    unfold putAt
    rw [putAt_lay r (o + 1) _ (by simpa using h')]
    congr 1
    rw [Array.toList_setIfInBounds, List.take_add_one, List.getElem?_set_self hi, List.take_set_of_le (Nat.le_refl _), List.drop_set_of_lt (by omega)]
    simp only [List.length_cons, Option.toList_some, List.append_assoc, List.cons_append, List.nil_append]
    rw [show o + 1 + r.length = o + (r.length + 1) by omega]
/-- The same, off the lists: cheap to reckon. -/
theorem setCells_lay {g : Nat} {T : TypeId} {w : World} {cur : Array Value} (h : w.heap[g]? = some (.cells cur T (0, 0))) (vs : List Value) (o : Nat) {l' : List Value} (ho : o + vs.length ≤ cur.size) (e : cur.toList.take o ++ (vs ++ cur.toList.drop (o + vs.length)) = l') : (w.setCells g o vs).heap[g]? = some (.cells l'.toArray T (0, 0)) :=
  setCells_at vs o h ((putAt_lay vs o cur ho).trans (by rw [e]))
theorem setL {w : World} {g : Nat} {cur : Array Value} {T : TypeId} (h : w.heap[g]? = some (.cells cur T (0, 0))) (i : Nat) (v : Value) {l' : List Value} (e : cur.toList.set i v = l') : (w.setCell ⟨g, i, none⟩ v).heap[g]? = some (.cells l'.toArray T (0, 0)) :=
  setA h i v (by rw [← e, ← Array.toList_setIfInBounds])
theorem setCells_other {g k : Nat} (hne : k ≠ g) : ∀ (vs : List Value) (o : Nat) (w : World), (w.setCells g o vs).heap[k]? = w.heap[k]?
  | [], _, _ => rfl
  | v :: r, o, w => (setCells_other hne r (o + 1) (w.setCell ⟨g, o, none⟩ v)).trans (heap_setCell_other w ⟨g, o, none⟩ k v hne)
theorem setCells_size (g : Nat) : ∀ (vs : List Value) (o : Nat) (w : World), (w.setCells g o vs).heap.size = w.heap.size
  | [], _, _ => rfl
  | v :: r, o, w => (setCells_size g r (o + 1) (w.setCell ⟨g, o, none⟩ v)).trans (World.size_setCell _ _ _)
theorem bsetN {B g : Nat} {a : World} (hg : B ≤ g) : ∀ (vs : List Value) (o : Nat) {w : World}, Below B a w → Below B a (w.setCells g o vs)
  | [], _, _, h => h
  | v :: r, o, _, h => bsetN hg r (o + 1) (bset h v hg)
theorem block_setN {w : World} {g k : Nat} {o : Option Obj} (h : w.heap[k]? = o) (vs : List Value) (i : Nat) (hne : k ≠ g) : (w.setCells g i vs).heap[k]? = o := (setCells_other hne vs i w).trans h
theorem thereA {w : World} {g : Nat} {cur : Array Value} {T : TypeId} (h : w.heap[g]? = some (.cells cur T (0, 0))) (o n : Nat) (hn : o + n ≤ cur.size) : w.there g o n := fun j hj => by
  refine ⟨?_, freeA h (o + j)⟩
  have hlt : o + j < cur.size := by omega
  rw [cellsA h (o + j) (Array.getElem?_eq_getElem hlt)]; rfl
theorem rangeA {w : World} {g : Nat} {cs : List Value} {T : TypeId} (h : w.heap[g]? = some (.cells cs.toArray T (0, 0))) : w.rangeAt g 0 cs := fun j v hv => by
  rw [Nat.zero_add]; exact cellsA h j (by simpa using hv)
theorem rangeM {w : World} {g o : Nat} {cur : Array Value} {cs : List Value} {T : TypeId} (h : w.heap[g]? = some (.cells cur T (0, 0))) (hc : ∀ j v, cs[j]? = some v → cur[o + j]? = some v) : w.rangeAt g o cs := fun j v hv => cellsA h (o + j) (hc j v hv)
/-- A struct's store, the world behind it a letter. -/
theorem wpList_store_to {P : Program} {ops : Array Oper} {rest : List Oper} {op : Oper} {a : Act} {w W' : World} {Q : Exit → Act → World → Prop} (ty : TypeId) (x y : Operand) (hgd : op.guard = none) (ho : op.op = .store ty x y)
    (b o : Nat) (cells : Array Value) (hx : a.eval x = .pointer (some ⟨b, o, none⟩)) (hy : a.eval y = .agg cells)
    (ht : w.there b o cells.size) (hi : (P.info? ty).map (·.size) = some cells.size) (h1 : cells.all (·.oneCell') = true) (hW : w.setCells b o cells.toList = W')
    (h : wpList P ops Q rest (a.put op.dst undef) W') : wpList P ops Q (op :: rest) a w := by
  subst hW
  exact wpList_store_mid hgd ty x y ho b o cells hx hy ht hi h1 h
theorem wpList_load_to {P : Program} {ops : Array Oper} {rest : List Oper} {op : Oper} {a : Act} {w : World} {Q : Exit → Act → World → Prop} (ty : TypeId) (x : Operand) (hgd : op.guard = none) (ho : op.op = .load ty x)
    (b o : Nat) (hx : a.eval x = .pointer (some ⟨b, o, none⟩)) (cs : List Value) {d : TypeDesc} (hc : w.rangeAt b o cs)
    (hu : P.underlying ty = some d) (hd : d.isRow = true) (hi : (P.info? ty).map (·.size) = some cs.length)
    (h : wpList P ops Q rest (a.put op.dst (.agg cs.toArray)) w) : wpList P ops Q (op :: rest) a w := wpList_load_mid hgd ty x ho b o hx cs d hc hu hd hi h
theorem chg_setN {g : Nat} {F : Fp} {a : World} (hg : F g) : ∀ (vs : List Value) (o : Nat) {w : World}, Chg a w F → Chg a (w.setCells g o vs) F
  | [], _, _, h => h
  | v :: r, o, _, h => chg_setN hg r (o + 1) (h.setCell hg v)

end Go.Proofs.Ytlididoalekeoaa
