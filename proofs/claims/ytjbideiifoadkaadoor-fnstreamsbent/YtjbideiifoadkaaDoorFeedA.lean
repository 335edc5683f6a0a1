/- The contract of the program's closure that reads a part: what it says, and what is left behind the last sign that could be read. The contract of the program's Feed. What the laws of stage 6 carry along: the argument's box and its bytes, and boxes of states. What the laws of stage 6 carry along of states that may hold nil. -/
import Derived.Test.YtjbideiifoadkaaDoorPartA
import Derived.Test.YtjbideiifoadkaaDoorFeedS
import Derived.Deep.RegionHeldLaw
namespace Go.Proofs.YtjbideiifoadkaaDoor
set_option maxRecDepth 4000
open Go.RowKit

/-- What is read of a part: a text, and what is left. -/
structure PartOut (w0 : World) (cs : Int) (all : List UInt8) (e : Ending) (w' : World) : Prop where
  out : ∃ k xs ao n c, e = .returned (.tuple #[.string ⟨xs.toArray⟩, .slice ao n c]) ∧ FeedAt cs all k xs ∧ (k < all.length → hdOk cs (all.drop k) = false) ∧ Reads w' ao n (all.drop k) ∧ ((ao = none ∧ c = 0) ∨ ∃ q off, ao = some ⟨q, off, none⟩ ∧ q < w'.heap.size) ∧ Below w0.heap.size w0 w'

/-- What stands while the part is read: where the bytes lie that were begun, the set, and all bytes. -/
structure PartSt (w0 : World) (cs : Int) (all : List UInt8) (gb gs : Nat) (aq : Option Addr) (L cq : Nat) (w : World) : Prop where
  box : w.heap[gb]? = some (.cells #[.slice aq L cq] 22 (0, 0))
  set : w.cell? ⟨gs, 0, none⟩ = some (setV cs)
  own : OwnO w w0.heap.size aq cq all
  pb : w0.heap.size ≤ gb
  bel : Below w0.heap.size w0 w
theorem PartSt.below {w0 : World} {cs : Int} {all : List UInt8} {gb gs : Nat} {aq : Option Addr} {L cq : Nat} {w w' : World} (h : PartSt w0 cs all gb gs aq L cq w) (hB : Below w.heap.size w w') : PartSt w0 cs all gb gs aq L cq w' :=
  ⟨(hB.block _ (lt_block h.box)).trans h.box, cell_below h.set hB, h.own.below hB, h.pb, Below.next h.bel hB⟩
theorem cells1 (w : World) (g : Nat) (a : Value) (T : TypeId) (hg : w.heap[g]? = some (.cells #[a] T (0, 0))) : w.cell? ⟨g, 0, none⟩ = some a ∧ w.frozen? ⟨g, 0, none⟩ = false := by
  refine ⟨?_, frozen_of_row w g 0 _ _ hg⟩
  rw [cell_of_row w g 0 _ _ (0, 0) hg]; rfl
theorem set1 {w : World} {g : Nat} {a : Value} {T : TypeId} (x : Value) (hg : w.heap[g]? = some (.cells #[a] T (0, 0))) : (w.setCell ⟨g, 0, none⟩ x).heap[g]? = some (.cells #[x] T (0, 0)) := by
  rw [heap_setCell_same w g 0 _ _ _ hg]; simp
/-- Where the reading stands. -/
structure PAt (w : World) (cs : Int) (all : List UInt8) (k : Nat) (v : Value) (wr : World) : Prop where
  out : ∃ xs : List UInt8, FeedAt cs all k xs ∧ wr.ownsRow w.heap.size 5 1 v xs.length (xs.map cb) ∧ Below w.heap.size w wr
theorem PAt.le {w : World} {cs : Int} {all : List UInt8} {k : Nat} {v : Value} {wr : World} (h : PAt w cs all k v wr) : k ≤ all.length := by
  obtain ⟨xs, h1, _, _⟩ := h.out; exact h1.le
theorem PAt.bel {w : World} {cs : Int} {all : List UInt8} {k : Nat} {v : Value} {wr : World} (h : PAt w cs all k v wr) : Below w.heap.size w wr := by
  obtain ⟨xs, _, _, h3⟩ := h.out; exact h3
theorem pAt_zero (w : World) (cs : Int) (all : List UInt8) (L : Nat) (hL : L ≤ maxLen) : PAt w cs all 0 (.slice (some ⟨w.heap.size, 0, none⟩) 0 L) (w.alloc (.cells (madeCells #[.int .u8 0] L) 5)) := by
  refine ⟨[], feedAt_zero cs all, ?_, below_lit _ _⟩
  exact Own.owns (bs := []) ⟨madeCells #[.int .u8 0] L, heap_alloc_new w _, Nat.zero_le _, hL, by rw [← Array.length_toList, zeros_length], by simp⟩ rfl (Nat.le_refl _)

theorem owns_set {w : World} {B n gb : Nat} {v x : Value} {bs : List UInt8} (h : w.ownsRow B 5 1 v n (bs.map cb)) (hg : gb < B) : (w.setCell ⟨gb, 0, none⟩ x).ownsRow B 5 1 v n (bs.map cb) := by
  have hn : bs.length = n := by simpa using h.1
  obtain ⟨ao, c, rfl, hO⟩ := ownO_of h
  rcases hO with ⟨rfl, rfl, rfl⟩ | ⟨q, rfl, hb, hO⟩
  · simp at hn; subst hn; exact World.ownsRow_nil _ _ _ _
  · exact (own_set hO (by omega)).owns hn hb
theorem owns_drewN {w : World} {B n : Nat} {v : Value} {bs : List UInt8} (h : w.ownsRow B 5 1 v n (bs.map cb)) (N : Nat) : (w.drewN N).ownsRow B 5 1 v n (bs.map cb) := h
theorem owns_below {w w' : World} {B n : Nat} {v : Value} {bs : List UInt8} (h : w.ownsRow B 5 1 v n (bs.map cb)) (hB : Below w.heap.size w w') : w'.ownsRow B 5 1 v n (bs.map cb) := by
  have hn : bs.length = n := by simpa using h.1
  obtain ⟨ao, c, rfl, hO⟩ := ownO_of h
  exact (hO.below hB).owns hn

/-- What is left lies somewhere. -/
abbrev LeftAt (w : World) (ao : Option Addr) (n c : Nat) (bs : List UInt8) : Prop := Reads w ao n bs ∧ ((ao = none ∧ c = 0) ∨ ∃ q off, ao = some ⟨q, off, none⟩ ∧ q < w.heap.size)
theorem part_cut {w : World} {q c L k gb : Nat} {x : Value} {all : List UInt8} (h : Own w q c all) (hL : all.length = L) (hk : k ≤ L) (hq : q ≠ gb) {N : Nat} : LeftAt ((w.setCell ⟨gb, 0, none⟩ x).drewN N) (some ⟨q, k, none⟩) (L - k) (c - k) (all.drop k) := by
  have hO : Own ((w.setCell ⟨gb, 0, none⟩ x).drewN N) q c all := (own_set h hq).below (below_drewN' _ _ N)
  exact ⟨hO.reads_drop hL k hk, .inr ⟨q, k, rfl, hO.lt⟩⟩
theorem part_end {w0 w : World} {cs : Int} {held part all xs : List UInt8} {gb gs L cq k n c : Nat} {aq ao : Option Addr} {XS : Array UInt8} (h : PartSt w0 cs all gb gs aq L cq w) {N : Nat} {x : Value} (_ : all.length = L) (hall : held ++ part = all) (hF : FeedAt cs all k xs) (hst : k < all.length → hdOk cs (all.drop k) = false) (hX : xs.toArray = XS)
    (hl : LeftAt ((w.setCell ⟨gb, 0, none⟩ x).drewN N) ao n c (all.drop k)) : PartOut w0 cs (held ++ part) (.returned (.tuple #[.string ⟨XS⟩, .slice ao n c])) ((w.setCell ⟨gb, 0, none⟩ x).drewN N) := by
  subst hX hall
  exact ⟨k, xs, ao, n, c, rfl, hF, hst, hl.1, hl.2, Below.next (bset h.bel x h.pb) (below_drewN' _ _ N)⟩

set_option maxHeartbeats 2000000 in
theorem part_any (cs : Int) (gb gs lh ch lp cp : Nat) (ah ap : Option Addr) (held part : List UInt8) (w0 w : World) (hb : Below w0.heap.size w0 w)
    (hgb : w.heap[gb]? = some (.cells #[.slice ah lh ch] 22 (0, 0))) (hgs : w.cell? ⟨gs, 0, none⟩ = some (setV cs)) (hne : gs ≠ gb) (hpb : w0.heap.size ≤ gb)
    (h1 : Reads w0 ah lh held) (h2 : Reads w0 ap lp part) (hl1 : lh ≤ 4194304) (hl2 : lp ≤ 4194304) (T : Hd (AllAt w0)) :
    Calls Tryd.prog 59 #[.slice ap lp cp, .pointer (some ⟨gb, 0, none⟩), .pointer (some ⟨gs, 0, none⟩)] w (PartOut w0 cs (held ++ part)) := by
  obtain ⟨i0, hi, hz0, hz1, hz2⟩ := info_parts info8
  have H1 : Hd (Reads w0 ah lh held) := ⟨h1⟩
  have H2 : Hd (Reads w0 ap lp part) := ⟨h2⟩
  have HB : Hd (Below w0.heap.size w0 w) := ⟨hb⟩
  obtain ⟨p0, p1⟩ := cells1 w gb _ _ hgb
  have HG : Hd (w.heap[gb]? = some (.cells #[.slice ah lh ch] 22 (0, 0))) := ⟨hgb⟩
  have HS : Hd (w.cell? ⟨gs, 0, none⟩ = some (setV cs)) := ⟨hgs⟩
  have HNE : Hd (gs ≠ gb ∧ w0.heap.size ≤ gb) := ⟨hne, hpb⟩
  clear h1 h2 hb hgb hgs hne hpb
  go_enter Tryd.func59, Tryd.ntmps59
  go_wp2_with fail
  refine (concat_two w.heap.size lh ch lp cp ah ap held part _ (alloc_new w _ rfl) (H1.out.below rfl (Below.next HB.out (below_lit _ _))) (H2.out.below rfl (Below.next HB.out (below_lit _ _))) (by omega) (by omega)).mono ?_
  rintro e w1 ⟨aq, cq, rfl, hO1, hB1⟩
  obtain ⟨all, hall⟩ : ∃ all, held ++ part = all := ⟨_, rfl⟩
  obtain ⟨L, hL⟩ : ∃ L, all.length = L := ⟨_, rfl⟩
  have HL : Hd (all.length = L) := ⟨hL⟩
  have HALL : Hd (held ++ part = all) := ⟨hall⟩
  have hL2 : L ≤ 8388608 := by rw [← hL, ← hall, List.length_append, H1.out.1, H2.out.1]; omega
  rw [hall] at hO1 ⊢
  rw [hL]
  have hsz := lt_block HG.out
  have hB2 : Below w.heap.size w w1 := Below.next (below_lit _ _) hB1
  have G1 := (hB2.block gb hsz).trans HG.out
  have S1 := cell_below HS.out hB2
  have O2 : OwnO (w1.setCell ⟨gb, 0, none⟩ (.slice aq L cq)) w0.heap.size aq cq all := by
    rcases hO1 with h | ⟨q, hq, hq2, hO⟩
    · exact .inl h
    · have hq3 : gb < q := by have := hq2; simp at this; omega
      exact .inr ⟨q, hq, by have := HNE.out.2; omega, own_set hO (by omega)⟩
  have HQG : Hd (∀ q, aq = some ⟨q, 0, none⟩ → q ≠ gb) := ⟨fun q hq => by
    rcases hO1 with ⟨h, _⟩ | ⟨q', hq', hq2, _⟩
    · rw [h] at hq; cases hq
    · rw [hq'] at hq; cases hq; simp at hq2; omega⟩
  have ST : Hd (PartSt w0 cs all gb gs aq L cq (w1.setCell ⟨gb, 0, none⟩ (.slice aq L cq))) := ⟨set1 _ G1, cell_set S1 HNE.out.1, O2, HNE.out.2, bset (Below.next HB.out hB2) _ HNE.out.2⟩
  obtain ⟨m0, m1⟩ := cells1 w1 gb _ _ G1
  clear p0 p1 hO1 hB1 hB2 G1 S1 O2 hall hL HG HS hsz H1 H2 HB
  generalize hw2 : w1.setCell ⟨gb, 0, none⟩ (.slice aq L cq) = w2 at *
  obtain ⟨b0, b1⟩ := cells1 w2 gb _ _ ST.out.box
  go_wp2_with (at_make; refine wpList_make_both _ rfl _ _ 22 rfl 5 i0 (.int .u8 0) Tryd.underlying22 hi hz0 hz1 _ _ _ _ 0 L rfl rfl rfl ?C ?nm ?b2 ?b3 ?_)
  case C => rfl
  case nm => omega
  case b2 => rw [hz2]; omega
  case b3 => unfold maxLen; omega
  have W0 : Hd (PAt w2 cs all 0 (.slice (some ⟨w2.heap.size, 0, none⟩) 0 L) (w2.alloc (.cells (madeCells #[.int .u8 0] L) 5))) := ⟨pAt_zero w2 cs all L (by unfold maxLen; omega)⟩
  clear hw2 m0 m1 b0 b1
  go_wp2_with fail
  go_loopw [6, 7] (fun v i wr => ∃ k : Nat, i = .int .i64 k ∧ Hd (PAt w2 cs all k v wr)) (fun _ i _ => L - (intOf i).toNat)
  case atStart => exact ⟨0, rfl, W0⟩
  case round =>
    clear W0
    obtain ⟨k, rfl, R⟩ := hrel
    have f1 := R.out.le
    rw [HL.out] at f1
    have S : Hd (PartSt w0 cs all gb gs aq L cq wr) := ⟨ST.out.below R.out.bel⟩
    obtain ⟨b0, b1⟩ := cells1 wr gb _ _ S.out.box
    have b2 := S.out.set
    have hgb2 : Hd (gb < w2.heap.size) := ⟨lt_block ST.out.box⟩
    by_cases hlt : k < L
    · have hkI : (k : Int) < (L : Int) := by omega
      obtain ⟨q, rfl, hqb, hO⟩ : ∃ q, aq = some ⟨q, 0, none⟩ ∧ w0.heap.size ≤ q ∧ Own wr q cq all := by
        rcases S.out.own with ⟨_, _, h⟩ | h
        · have := HL.out; rw [h] at this; simp at this; omega
        · exact h
      have HO : Hd (Own wr q cq all) := ⟨hO⟩
      have hqg : Hd (q ≠ gb) := ⟨HQG.out q rfl⟩
      have hLc : L ≤ cq := by have := hO.le; rw [HL.out] at this; exact this
      clear hqb hO
      obtain ⟨sv, hsv⟩ : ∃ sv, setV cs = sv := ⟨_, rfl⟩
      have HSV : Hd (setV cs = sv) := ⟨hsv⟩
      rw [hsv] at b2
      clear hsv
      go_wp2_with fail
      rewrite [← HSV.out]
      refine (implSignAt_any cs q 0 L cq k all _ HL.out hLc (HO.out.cell HL.out) (by omega) hlt ⟨T.out.below S.out.bel⟩).mono ?_
      rintro e w3 ⟨n, next, ok, rfl, hS, hB⟩
      rewrite [HSV.out]
      have hk2 : k < all.length := by rw [HL.out]; exact hlt
      obtain ⟨xs, x1, x2, x3⟩ := R.out.out
      have hx4 : xs.length ≤ 33554432 := by have := x1.size; omega
      have X2 : Hd (w3.ownsRow w2.heap.size 5 1 u6 xs.length (xs.map cb)) := ⟨owns_below x2 hB⟩
      have X3 : Hd (Below w2.heap.size w2 w3) := ⟨Below.next x3 hB⟩
      have S3 : Hd (PartSt w0 cs all gb gs (some ⟨q, 0, none⟩) L cq w3) := ⟨S.out.below hB⟩
      have HO3 : Hd (Own w3 q cq all) := ⟨HO.out.below hB⟩
      cases ho : hdOk cs (all.drop k) with
      | true =>
        obtain ⟨s1, s2⟩ := hS.yes ho
        obtain rfl : ok = true := hS.ok.trans ho
        subst s1 s2
        have hf := hd_fits (drop_ne hk2) ho
        have N1 := feedAt_yes x1 hk2 ho
        have hp := hf.pos
        have hle := N1.le
        rw [HL.out] at hle
        have NX : Hd (FeedAt cs all (k + hdK cs (all.drop k)) (xs ++ signB (hdN cs (all.drop k)))) := ⟨N1⟩
        clear hS hf N1 x1 x2 x3 ho hB R b0 b1 b2 S HO HO3 S3
        generalize hdK cs (all.drop k) = K at *
        generalize hdN cs (all.drop k) = N at *
        go_wp2_with fail
        refine (addSign_any u6 xs xs.length N _ w2.heap.size rfl X2.out X3.out.size (by omega)).mono ?_
        rintro e w4 ⟨v2, rfl, hO2, hG2, _⟩
        have R2 : Hd (PAt w2 cs all (k + K) v2 w4) := ⟨⟨_, NX.out, hO2, X3.out.grown hG2 X3.out.size (fun i hi => own_block X2.out hi)⟩⟩
        clear hO2 hG2 X2 X3
        go_wp2_with fail
        go_roundw
        case rel => exact ⟨k + K, by go_num, R2⟩
        case measure => simp [intOf]; omega
      | false =>
        obtain rfl : ok = false := hS.ok.trans ho
        have HX : Hd (FeedAt cs all k xs ∧ (k < all.length → hdOk cs (all.drop k) = false)) := ⟨x1, fun _ => ho⟩
        clear hS x1 x2 x3 ho hB R b0 b1 b2 S HO
        obtain ⟨b0, b1⟩ := cells1 w3 gb _ _ S3.out.box
        have hk3 : (k : Int) ≤ (L : Int) := by omega
        have hL3 : (L : Int) ≤ (cq : Int) := by omega
        have hck : ¬ cq = k := by omega
        have hcv : ∀ N, (convert 22 9 u6).run Tryd.prog ((w3.setCell ⟨gb, 0, none⟩ (.slice (some ⟨q, k, none⟩) (L - k) (cq - k))).drewN N) = .ok (.string ⟨xs.toArray⟩) ((w3.setCell ⟨gb, 0, none⟩ (.slice (some ⟨q, k, none⟩) (L - k) (cq - k))).drewN N) := fun N => conv_owned (owns_drewN (owns_set X2.out hgb2.out) N)
        obtain ⟨XS, hXS⟩ : ∃ XS, xs.toArray = XS := ⟨_, rfl⟩
        have HXS : Hd (xs.toArray = XS) := ⟨hXS⟩
        rw [hXS] at hcv
        have hcell : (w3.setCell ⟨gb, 0, none⟩ (.slice (some ⟨q, k, none⟩) (L - k) (cq - k))).cell? ⟨gb, 0, none⟩ = some (.slice (some ⟨q, k, none⟩) (L - k) (cq - k)) := (cells1 _ gb _ _ (set1 _ S3.out.box)).1
        clear hXS
        go_wp2_with fail
        go_quiet (fail)
        go_wp2_with fail
        go_ret2
        exact part_end S3.out HL.out HALL.out HX.out.1 HX.out.2 HXS.out (part_cut HO3.out HL.out f1 hqg.out)
    · have hkI : ¬ (k : Int) < (L : Int) := by omega
      obtain rfl : k = L := by omega
      obtain ⟨xs, x1, x2, x3⟩ := R.out.out
      have HX : Hd (FeedAt cs all k xs ∧ (k < all.length → hdOk cs (all.drop k) = false)) := ⟨x1, fun h => by rw [HL.out] at h; omega⟩
      have X2 : Hd (wr.ownsRow w2.heap.size 5 1 u6 xs.length (xs.map cb)) := ⟨x2⟩
      obtain ⟨XS, hXS⟩ : ∃ XS, xs.toArray = XS := ⟨_, rfl⟩
      have HXS : Hd (xs.toArray = XS) := ⟨hXS⟩
      clear x1 x2 x3 R b2
      have hk3 : (k : Int) ≤ (k : Int) := by omega
      rcases S.out.own with ⟨rfl, rfl, hz⟩ | ⟨q, rfl, hqb, hO⟩
      · obtain rfl : k = 0 := by rw [← HL.out, hz]; rfl
        have hcv : ∀ N, (convert 22 9 u6).run Tryd.prog ((wr.setCell ⟨gb, 0, none⟩ (.slice none 0 0)).drewN N) = .ok (.string ⟨xs.toArray⟩) ((wr.setCell ⟨gb, 0, none⟩ (.slice none 0 0)).drewN N) := fun N => conv_owned (owns_drewN (owns_set X2.out hgb2.out) N)
        rw [hXS] at hcv
        have hcell : (wr.setCell ⟨gb, 0, none⟩ (.slice none 0 0)).cell? ⟨gb, 0, none⟩ = some (.slice none 0 0) := (cells1 _ gb _ _ (set1 _ S.out.box)).1
        have HZ : Hd (all = []) := ⟨hz⟩
        clear hXS hz
        go_wp2_with fail
        go_quiet (fail)
        go_wp2_with fail
        go_ret2
        exact part_end S.out HL.out HALL.out HX.out.1 HX.out.2 HXS.out ⟨⟨by rw [HZ.out]; rfl, .inl rfl⟩, .inl ⟨rfl, rfl⟩⟩
      · have HO3 : Hd (Own wr q cq all) := ⟨hO⟩
        have hqg : Hd (q ≠ gb) := ⟨HQG.out q rfl⟩
        have hL3 : (k : Int) ≤ (cq : Int) := by have := hO.le; rw [HL.out] at this; omega
        have HD : Hd (all.drop k = []) := ⟨List.drop_eq_nil_of_le (by rw [HL.out]; omega)⟩
        clear hO hqb
        by_cases hck : cq = k
        · subst hck
          have hcv : ∀ N, (convert 22 9 u6).run Tryd.prog ((wr.setCell ⟨gb, 0, none⟩ (.slice (some ⟨q, 0, none⟩) 0 0)).drewN N) = .ok (.string ⟨xs.toArray⟩) ((wr.setCell ⟨gb, 0, none⟩ (.slice (some ⟨q, 0, none⟩) 0 0)).drewN N) := fun N => conv_owned (owns_drewN (owns_set X2.out hgb2.out) N)
          rw [hXS] at hcv
          have hcell : (wr.setCell ⟨gb, 0, none⟩ (.slice (some ⟨q, 0, none⟩) 0 0)).cell? ⟨gb, 0, none⟩ = some (.slice (some ⟨q, 0, none⟩) 0 0) := (cells1 _ gb _ _ (set1 _ S.out.box)).1
          clear hXS
          go_wp2_with fail
          go_quiet (fail)
          go_wp2_with fail
          go_ret2
          exact part_end S.out HL.out HALL.out HX.out.1 HX.out.2 HXS.out ⟨⟨by rw [HD.out]; rfl, .inl rfl⟩, .inr ⟨q, _, rfl, (own_set HO3.out hqg.out).lt⟩⟩
        · have hcv : ∀ N, (convert 22 9 u6).run Tryd.prog ((wr.setCell ⟨gb, 0, none⟩ (.slice (some ⟨q, k, none⟩) 0 (cq - k))).drewN N) = .ok (.string ⟨xs.toArray⟩) ((wr.setCell ⟨gb, 0, none⟩ (.slice (some ⟨q, k, none⟩) 0 (cq - k))).drewN N) := fun N => conv_owned (owns_drewN (owns_set X2.out hgb2.out) N)
          rw [hXS] at hcv
          have hcell : (wr.setCell ⟨gb, 0, none⟩ (.slice (some ⟨q, k, none⟩) 0 (cq - k))).cell? ⟨gb, 0, none⟩ = some (.slice (some ⟨q, k, none⟩) 0 (cq - k)) := (cells1 _ gb _ _ (set1 _ S.out.box)).1
          clear hXS
          go_wp2_with fail
          go_quiet (fail)
          go_wp2_with fail
          go_ret2
          exact part_end S.out HL.out HALL.out HX.out.1 HX.out.2 HXS.out ⟨⟨by rw [HD.out]; rfl, .inl rfl⟩, .inr ⟨q, _, rfl, (own_set HO3.out hqg.out).lt⟩⟩

/-- What Feed answers, in the program: a state of new memory, or one that holds nil, and a text. -/
structure FedI (w : World) (cs : Int) (held : List UInt8) (bad : Bool) (b : List UInt8) (e : Ending) (w' : World) : Prop where
  out : ∃ ao c, e = .returned (.tuple #[.agg #[.int .i64 cs, .slice ao (fedH cs held bad b).length c, .bool (fedB cs held bad b)], .string ⟨(fedT cs held bad b).toArray⟩]) ∧ OwnO w' w.heap.size ao c (fedH cs held bad b) ∧ Below w.heap.size w w'

/-- The state's box, and that of the result. -/
structure FBox (w : World) (cs : Int) (hv : Value) (bad : Bool) (wx : World) : Prop where
  box : wx.heap[w.heap.size]? = some (.cells #[.int .i64 cs, hv, .bool bad] 30 (0, 0))
  res : wx.heap[w.heap.size + 1]? = some (.cells #[.int .i64 0, .slice none 0 0, .bool false] 30 (0, 0))
  bel : Below w.heap.size w wx
theorem FBox.below {w : World} {cs : Int} {hv : Value} {bad : Bool} {wx wy : World} (h : FBox w cs hv bad wx) (hB : Below wx.heap.size wx wy) : FBox w cs hv bad wy :=
  ⟨(hB.block _ (lt_block h.box)).trans h.box, (hB.block _ (lt_block h.res)).trans h.res, Below.next h.bel hB⟩
theorem FBox.blow {w : World} {cs : Int} {hv : Value} {bad : Bool} {wx wy : World} {B : Nat} (h : FBox w cs hv bad wx) (hB : Below B wx wy) (h2 : w.heap.size + 2 ≤ B) : FBox w cs hv bad wy :=
  ⟨(hB.block _ (by omega)).trans h.box, (hB.block _ (by omega)).trans h.res, h.bel.trans ⟨hB.os, hB.tape, hB.output, hB.size, fun k hk => hB.block k (by omega)⟩⟩
theorem fBox_new (w : World) (cs : Int) (hv : Value) (bad : Bool) : FBox w cs hv bad ((w.alloc (.cells #[.int .i64 cs, hv, .bool bad] 30)).alloc (.cells #[.int .i64 0, .slice none 0 0, .bool false] 30)) :=
  ⟨(laid2 w _ _).1, (laid2 w _ _).2, below_lit2 w _ _⟩

theorem clone_left (ao : Option Addr) (n c : Nat) (bs : List UInt8) (w : World) (h : LeftAt w ao n c bs) (hl : n ≤ 1073741824) :
    Calls Tryd.prog 40 #[.slice ao n c] w (Joined w bs) := by
  have hn := h.1.1
  rcases h.2 with ⟨rfl, rfl⟩ | ⟨q, off, rfl, hq⟩
  · obtain ⟨rfl, rfl⟩ := reads_none h.1
    refine (clone_nil w).mono ?_
    rintro e w1 ⟨rfl, rfl⟩
    exact ⟨none, 0, rfl, .inl ⟨rfl, rfl, rfl⟩, Below.refl _ _⟩
  · refine (clone_some q off n c bs w hn (fun j hj => ?_) hq hl).mono ?_
    · rcases h.1.2 with h0 | ⟨b, o, e, hc⟩
      · omega
      · cases e; exact hc j hj
    · rintro e w1 ⟨g, c1, rfl, hg, hO, hB⟩
      exact ⟨_, c1, rfl, .inr ⟨g, rfl, hg, hO⟩, hB⟩
theorem LeftAt.below {w w' : World} {ao : Option Addr} {n c : Nat} {bs : List UInt8} (h : LeftAt w ao n c bs) (hB : Below w.heap.size w w') : LeftAt w' ao n c bs := by
  refine ⟨h.1.below rfl hB, ?_⟩
  rcases h.2 with h | ⟨q, off, h1, h2⟩
  · exact .inl h
  · exact .inr ⟨q, off, h1, by have := hB.size; omega⟩

set_option maxHeartbeats 400000 in
theorem partReader_any (st : TypeId) (sx : Value) (ao : Option Addr) (n c : Nat) (w : World) :
    Calls Tryd.prog 41 #[.iface st sx, .slice ao n c] w fun e w' => e = .returned (.func (.func 59) #[] #[.pointer (some ⟨w.heap.size + 1, 0, none⟩), .pointer (some ⟨w.heap.size, 0, none⟩)]) ∧ w' = (w.alloc (.cells #[.iface st sx] 53)).alloc (.cells #[.slice ao n c] 22) := by
  go_enter Tryd.func41, Tryd.ntmps41
  go_wp2_with fail
  go_ret
  exact ⟨rfl, rfl⟩

theorem setV_iface (cs : Int) : ∃ t x, setV cs = .iface t x := by
  unfold setV
  split
  · exact ⟨_, _, rfl⟩
  · split <;> exact ⟨_, _, rfl⟩

/-- Where the reading stopped: what was read, what is held, whether something could not be. -/
theorem feed_stop {cs : Int} {all xs : List UInt8} {k : Nat} (h : FeedAt cs all k xs) (hst : k < all.length → hdOk cs (all.drop k) = false) :
    (mayB cs (all.drop k) = true → feedT cs all = xs ∧ feedH cs all = all.drop k ∧ feedB cs all = false) ∧ (mayB cs (all.drop k) = false → feedT cs all = xs ∧ feedH cs all = [] ∧ feedB cs all = true) := by
  by_cases hk : k < all.length
  · have hn := drop_ne hk
    rw [mayB_some hn]
    exact ⟨fun hb => feedAt_beg h hk (hst hk) hb, fun hb => feedAt_bad h hk (hst hk) hb⟩
  · have hd : all.drop k = [] := List.drop_eq_nil_of_le (by omega)
    rw [hd, mayB_nil]
    exact ⟨fun _ => feedAt_end h hk, fun h => by cases h⟩
theorem sOk_in {cs : Int} {held : List UInt8} {bad : Bool} (h : sOk cs held bad = true) : 0 ≤ cs ∧ cs ≤ 5 := by
  by_cases hc : 0 ≤ cs ∧ cs ≤ 5
  · exact hc
  · rw [sOk_out (inB_no hc)] at h; cases h
/-- What is answered where nothing is read. -/
theorem fedI_no {w wx : World} {cs : Int} {held b : List UInt8} {bad : Bool} {ah ao : Option Addr} {lh ch c n : Nat} (h : FBox w cs (.slice ah lh ch) bad wx) (hO : OwnO wx (w.heap.size + 2) ao c held) (hn : held.length = n) (hs : (sOk cs held bad && !bad) = false) {N : Nat} :
    FedI w cs held bad b (.returned (.tuple #[.agg #[.int .i64 cs, .slice ao n c, .bool bad], .string ⟨#[]⟩])) ((((wx.setCell ⟨w.heap.size + 1, 0, none⟩ (.int .i64 cs)).setCell ⟨w.heap.size + 1, 1, none⟩ (.slice ao n c)).setCell ⟨w.heap.size + 1, 2, none⟩ (.bool bad)).drewN N) := by
  obtain ⟨e1, e2, e3⟩ := fed_no (b := b) hs
  refine ⟨ao, c, by rw [e1, e2, e3, hn], ?_, Below.next (bset (bset (bset h.bel _ (by omega)) _ (by omega)) _ (by omega)) (below_drewN' _ _ N)⟩
  rw [e1]
  rcases hO with h | ⟨q, rfl, hq, hO⟩
  · exact .inl h
  · exact .inr ⟨q, rfl, by omega, (own_set3 hO (by omega)).below (below_drewN' _ _ N)⟩

theorem fedI_yes {w wx : World} {cs : Int} {held b hd xs : List UInt8} {bad bd : Bool} {ah ao : Option Addr} {lh ch c n : Nat} {XS : Array UInt8} (h : FBox w cs (.slice ah lh ch) bad wx) (hO : OwnO wx (w.heap.size + 2) ao c hd) (hn : hd.length = n) (h1 : fedH cs held false b = hd) (h2 : fedB cs held false b = bd) (h3 : fedT cs held false b = xs) (hX : xs.toArray = XS) {N : Nat} :
    FedI w cs held false b (.returned (.tuple #[.agg #[.int .i64 cs, .slice ao n c, .bool bd], .string ⟨XS⟩])) ((((wx.setCell ⟨w.heap.size + 1, 0, none⟩ (.int .i64 cs)).setCell ⟨w.heap.size + 1, 1, none⟩ (.slice ao n c)).setCell ⟨w.heap.size + 1, 2, none⟩ (.bool bd)).drewN N) := by
  refine ⟨ao, c, by rw [h1, h2, h3, hn, hX], ?_, Below.next (bset (bset (bset h.bel _ (by omega)) _ (by omega)) _ (by omega)) (below_drewN' _ _ N)⟩
  rw [h1]
  rcases hO with h | ⟨q, rfl, hq, hO⟩
  · exact .inl h
  · exact .inr ⟨q, rfl, by omega, (own_set3 hO (by omega)).below (below_drewN' _ _ N)⟩

set_option maxHeartbeats 2000000 in
theorem implFeed_any (cs : Int) (ah ap : Option Addr) (lh ch lp cp : Nat) (bad : Bool) (held part : List UInt8) (w : World) (h1 : LeftAt w ah lh ch held) (h2 : Reads w ap lp part) (hl1 : lh ≤ 2097152) (hl2 : lp ≤ 2097152) (T : Hd (AllAt w)) :
    Calls Tryd.prog 16 #[.agg #[.int .i64 cs, .slice ah lh ch, .bool bad], .slice ap lp cp] w (FedI w cs held bad part) := by
  have H1 : Hd (LeftAt w ah lh ch held) := ⟨h1⟩
  have H2 : Hd (Reads w ap lp part) := ⟨h2⟩
  have HN : Hd (held.length = lh) := ⟨h1.1.1⟩
  have F0 : Hd (FBox w cs (.slice ah lh ch) bad ((w.alloc (.cells #[.int .i64 cs, .slice ah lh ch, .bool bad] 30)).alloc (.cells #[.int .i64 0, .slice none 0 0, .bool false] 30))) := ⟨fBox_new w cs _ bad⟩
  clear h1 h2
  obtain ⟨p0, p1, p2, _, _, _⟩ := cells3 _ w.heap.size _ _ _ _ F0.out.box
  go_enter Tryd.func16, Tryd.ntmps16
  cases bad with
  | true =>
    have HS : Hd ((sOk cs held true && !true) = false) := ⟨by simp⟩
    go_wp2_with fail
    generalize (w.alloc (.cells #[.int .i64 cs, .slice ah lh ch, .bool true] 30)).alloc (.cells #[.int .i64 0, .slice none 0 0, .bool false] 30) = W at *
    go_region_held (fun w' => w'.cell? ⟨w.heap.size, 0, none⟩ = some (.int .i64 cs) ∧ w'.cell? ⟨w.heap.size, 1, none⟩ = some (.slice ah lh ch) ∧ w'.cell? ⟨w.heap.size, 2, none⟩ = some (.bool true)) (first | assumption | exact ⟨p0, p1, p2⟩ | exact ⟨k0, k1, k2⟩ | exact ⟨cell_set3 k0 (by show w.heap.size ≠ w.heap.size + 1; omega), cell_set3 k1 (by show w.heap.size ≠ w.heap.size + 1; omega), cell_set3 k2 (by show w.heap.size ≠ w.heap.size + 1; omega)⟩)
      (first | (go_at_call 40; refine (clone_left ah lh ch held _ (H1.out.below F0.out.bel.drew) (by omega)).mono ?_; rintro e w3 ⟨ao, c, rfl, hO, hB⟩; have F3 : Hd (FBox w cs (.slice ah lh ch) true w3) := (⟨(F0.out.below (Below.refl _ W).drew).below hB⟩); have HO3 : Hd (OwnO w3 (w.heap.size + 2) ao c held) := (⟨hO.mono (lt_block F0.out.res)⟩); obtain ⟨k0, k1, k2, _, _, _⟩ := cells3 w3 w.heap.size _ _ _ _ F3.out.box; obtain ⟨r0, r1, r2, r3, r4, r5⟩ := cells3 w3 (w.heap.size + 1) _ _ _ _ F3.out.res))
    all_goals
      rewrite [HN.out]
      go_wp2_with fail
      refine bodyPost_ret (results_row_tmp rfl _ _ (w.heap.size + 1) _ _ (0, 0) _ rfl (set3 _ _ _ F3.out.res) Tryd.underlying30 rfl (by kernel_rfl)) rfl ?_
      exact fedI_no (N := 0) F3.out HO3.out HN.out HS.out
  | false =>
    go_wp2_with fail
    refine (implDecOk_any cs ah lh ch false held _ (H1.out.1.below rfl F0.out.bel) ⟨T.out.below F0.out.bel⟩).mono ?_
    rintro e w1 ⟨rfl, hB⟩
    have F1 : Hd (FBox w cs (.slice ah lh ch) false w1) := ⟨F0.out.below hB⟩
    clear hB F0 p0 p1 p2
    obtain ⟨p0, p1, p2, _, _, _⟩ := cells3 w1 w.heap.size _ _ _ _ F1.out.box
    cases hs : sOk cs held false with
    | false =>
      have HS : Hd ((sOk cs held false && !false) = false) := ⟨by rw [hs]; rfl⟩
      clear hs
      go_wp2_with fail
      go_region_held (fun w' => w'.cell? ⟨w.heap.size, 0, none⟩ = some (.int .i64 cs) ∧ w'.cell? ⟨w.heap.size, 1, none⟩ = some (.slice ah lh ch) ∧ w'.cell? ⟨w.heap.size, 2, none⟩ = some (.bool false)) (first | assumption | exact ⟨p0, p1, p2⟩ | exact ⟨k0, k1, k2⟩ | exact ⟨cell_set3 k0 (by show w.heap.size ≠ w.heap.size + 1; omega), cell_set3 k1 (by show w.heap.size ≠ w.heap.size + 1; omega), cell_set3 k2 (by show w.heap.size ≠ w.heap.size + 1; omega)⟩)
        (first | (go_at_call 40; refine (clone_left ah lh ch held _ (H1.out.below F1.out.bel.drew) (by omega)).mono ?_; rintro e w3 ⟨ao, c, rfl, hO, hB⟩; have F3 : Hd (FBox w cs (.slice ah lh ch) false w3) := (⟨(F1.out.below (Below.refl _ w1).drew).below hB⟩); have HO3 : Hd (OwnO w3 (w.heap.size + 2) ao c held) := (⟨hO.mono (lt_block F1.out.res)⟩); obtain ⟨k0, k1, k2, _, _, _⟩ := cells3 w3 w.heap.size _ _ _ _ F3.out.box; obtain ⟨r0, r1, r2, r3, r4, r5⟩ := cells3 w3 (w.heap.size + 1) _ _ _ _ F3.out.res))
      all_goals
        rewrite [HN.out]
        go_wp2_with fail
        refine bodyPost_ret (results_row_tmp rfl _ _ (w.heap.size + 1) _ _ (0, 0) _ rfl (set3 _ _ _ F3.out.res) Tryd.underlying30 rfl (by kernel_rfl)) rfl ?_
        exact fedI_no (N := 0) F3.out HO3.out HN.out HS.out
    | true =>
      have HS : Hd (sOk cs held false = true) := ⟨hs⟩
      have hcs := sOk_in hs
      clear hs
      go_wp2_with fail
      refine (setOf_yes cs _ hcs).mono ?_
      rintro e w2 ⟨rfl, hw⟩
      replace hw := hw.symm
      subst hw
      obtain ⟨st, sx, hsv⟩ := setV_iface cs
      have HSV : Hd (setV cs = .iface st sx) := ⟨hsv⟩
      rewrite [hsv]
      clear hsv hcs
      go_wp2_with fail
      refine (partReader_any st sx ah lh ch _).mono ?_
      rintro e w3 ⟨rfl, hw3⟩
      have G3 : w3.heap[w1.heap.size + 1]? = some (.cells #[.slice ah lh ch] 22 (0, 0)) := by rw [hw3]; exact (laid2 w1 _ _).2
      have S3 : w3.cell? ⟨w1.heap.size, 0, none⟩ = some (setV cs) := by
        rw [HSV.out, cell_of_row w3 w1.heap.size 0 _ _ (0, 0) (by rw [hw3]; exact (laid2 w1 _ _).1)]; rfl
      have B3 : Below w1.heap.size w1 w3 := by rw [hw3]; exact below_lit2 w1 _ _
      have HG3 : Hd (w3.heap[w1.heap.size + 1]? = some (.cells #[.slice ah lh ch] 22 (0, 0)) ∧ w3.cell? ⟨w1.heap.size, 0, none⟩ = some (setV cs) ∧ Below w1.heap.size w1 w3) := ⟨G3, S3, B3⟩
      clear hw3 G3 S3 B3 p0 p1 p2
      go_wp2_with fail
      refine (part_any cs (w1.heap.size + 1) w1.heap.size lh ch lp cp ah ap held part w1 w3 HG3.out.2.2 HG3.out.1 HG3.out.2.1 (by omega) (by omega) (H1.out.1.below rfl F1.out.bel) (H2.out.below rfl F1.out.bel) (by omega) (by omega) ⟨T.out.below F1.out.bel⟩).mono ?_
      rintro e w4 ⟨k, xs, ao, n, c, rfl, hF, hst, hR, hA, hB4⟩
      obtain ⟨all, hall⟩ : ∃ all, held ++ part = all := ⟨_, rfl⟩
      rw [hall] at hF hst hR
      obtain ⟨rest, hrest⟩ : ∃ rest, all.drop k = rest := ⟨_, rfl⟩
      have FST := feed_stop hF hst
      rw [hrest] at hR FST
      have HFS : Hd ((mayB cs rest = true → feedT cs all = xs ∧ feedH cs all = rest ∧ feedB cs all = false) ∧ (mayB cs rest = false → feedT cs all = xs ∧ feedH cs all = [] ∧ feedB cs all = true)) := ⟨FST⟩
      have HFY : Hd (fedH cs held false part = feedH cs all ∧ fedB cs held false part = feedB cs all ∧ fedT cs held false part = feedT cs all) := ⟨by rw [← hall]; exact fed_yes HS.out⟩
      have HLA : Hd (LeftAt w4 ao n c rest) := ⟨hR, hA⟩
      have HRN : Hd (rest.length = n) := ⟨hR.1⟩
      have hnb : n ≤ 4194304 := by rw [← hR.1, ← hrest, List.length_drop, ← hall, List.length_append, HN.out, H2.out.1]; omega
      obtain ⟨XS, hXS⟩ : ∃ XS, xs.toArray = XS := ⟨_, rfl⟩
      have HXS : Hd (xs.toArray = XS) := ⟨hXS⟩
      rewrite [hXS]
      have F4 : Hd (FBox w cs (.slice ah lh ch) false w4) := ⟨F1.out.below hB4⟩
      clear hF hst hR hA hB4 hall hrest FST hXS F1 HG3
      go_wp2_with fail
      rewrite [← HSV.out]
      refine (mayGoOn_any cs ao n c rest _ HLA.out.1 ⟨T.out.below F4.out.bel⟩).mono ?_
      rintro e w5 ⟨rfl, hB5⟩
      rewrite [HSV.out]
      have F5 : Hd (FBox w cs (.slice ah lh ch) false w5) := ⟨F4.out.below hB5⟩
      have HL5 : Hd (LeftAt w5 ao n c rest) := ⟨HLA.out.below hB5⟩
      clear hB5 F4 HLA
      obtain ⟨p0, p1, p2, _, _, _⟩ := cells3 w5 w.heap.size _ _ _ _ F5.out.box
      obtain ⟨r0, r1, r2, r3, r4, r5⟩ := cells3 w5 (w.heap.size + 1) _ _ _ _ F5.out.res
      cases hm : mayB cs rest with
      | false =>
        obtain ⟨e1, e2, e3⟩ := HFS.out.2 hm
        have HE : Hd (fedH cs held false part = [] ∧ fedB cs held false part = true ∧ fedT cs held false part = xs) := ⟨HFY.out.1.trans e2, HFY.out.2.1.trans e3, HFY.out.2.2.trans e1⟩
        clear hm e1 e2 e3 HFS HFY HL5
        go_wp2_with fail
        refine bodyPost_ret (results_row_tmp rfl _ _ (w.heap.size + 1) _ _ (0, 0) _ rfl (set3 _ _ _ F5.out.res) Tryd.underlying30 rfl (by kernel_rfl)) rfl ?_
        exact fedI_yes (N := 0) F5.out (.inl ⟨rfl, rfl, rfl⟩) rfl HE.out.1 HE.out.2.1 HE.out.2.2 HXS.out
      | true =>
        obtain ⟨e1, e2, e3⟩ := HFS.out.1 hm
        have HE : Hd (fedH cs held false part = rest ∧ fedB cs held false part = false ∧ fedT cs held false part = xs) := ⟨HFY.out.1.trans e2, HFY.out.2.1.trans e3, HFY.out.2.2.trans e1⟩
        clear hm e1 e2 e3 HFS HFY r0 r1 r2 r3 r4 r5
        go_wp2_with fail
        go_region_held (fun w' => w'.cell? ⟨w.heap.size, 0, none⟩ = some (.int .i64 cs)) (first | assumption | exact p0 | exact k0 | exact cell_set3 k0 (by show w.heap.size ≠ w.heap.size + 1; omega))
          (first | (go_at_call 40; refine (clone_left ao n c rest _ (HL5.out.below (Below.refl _ w5).drew) (by omega)).mono ?_; rintro e w6 ⟨a6, c6, rfl, hO, hB⟩; have F6 : Hd (FBox w cs (.slice ah lh ch) false w6) := (⟨(F5.out.below (Below.refl _ w5).drew).below hB⟩); have HO6 : Hd (OwnO w6 (w.heap.size + 2) a6 c6 rest) := (⟨hO.mono (lt_block F5.out.res)⟩); obtain ⟨k0, k1, k2, _, _, _⟩ := cells3 w6 w.heap.size _ _ _ _ F6.out.box; obtain ⟨r0, r1, r2, r3, r4, r5⟩ := cells3 w6 (w.heap.size + 1) _ _ _ _ F6.out.res))
        all_goals
          rewrite [HRN.out]
          go_wp2_with fail
          refine bodyPost_ret (results_row_tmp rfl _ _ (w.heap.size + 1) _ _ (0, 0) _ rfl (set3 _ _ _ F6.out.res) Tryd.underlying30 rfl (by kernel_rfl)) rfl ?_
          exact fedI_yes (N := 0) F6.out HO6.out HRN.out HE.out.1 HE.out.2.1 HE.out.2.2 HXS.out

/-- The argument's box, and what came in. -/
structure ExA (w : World) (cs : Int) (a0 : Option Addr) (len0 cap0 : Nat) (bad : Bool) (bs : List UInt8) (a1 : Option Addr) (len1 : Nat) (bt : List UInt8) (wi : World) : Prop where
  box : wi.heap[w.heap.size]? = some (.cells #[.int .i64 cs, .slice a0 len0 cap0, .bool bad] 39 (0, 0))
  rA : Reads w a0 len0 bs
  rB : Reads w a1 len1 bt
  bel : Below w.heap.size w wi
theorem ExA.below {w : World} {cs : Int} {a0 : Option Addr} {len0 cap0 : Nat} {bad : Bool} {bs : List UInt8} {a1 : Option Addr} {len1 : Nat} {bt : List UInt8} {wi wj : World} (h : ExA w cs a0 len0 cap0 bad bs a1 len1 bt wi) (hB : Below wi.heap.size wi wj) : ExA w cs a0 len0 cap0 bad bs a1 len1 bt wj :=
  ⟨(hB.block _ (lt_block h.box)).trans h.box, h.rA, h.rB, Below.next h.bel hB⟩
theorem ExA.grown {w : World} {cs : Int} {a0 : Option Addr} {len0 cap0 : Nat} {bad : Bool} {bs : List UInt8} {a1 : Option Addr} {len1 : Nat} {bt : List UInt8} {wi wj : World} {g : Nat} (h : ExA w cs a0 len0 cap0 bad bs a1 len1 bt wi) (hG : wi.grownBy wj (some g)) (hg : w.heap.size < g) : ExA w cs a0 len0 cap0 bad bs a1 len1 bt wj :=
  ⟨grown_block hG h.box (by omega), h.rA, h.rB, below_grows h.bel hG h.bel.size (by omega)⟩
theorem ExA.readsA {w : World} {cs : Int} {a0 : Option Addr} {len0 cap0 : Nat} {bad : Bool} {bs : List UInt8} {a1 : Option Addr} {len1 : Nat} {bt : List UInt8} {wi : World} (h : ExA w cs a0 len0 cap0 bad bs a1 len1 bt wi) : Reads wi a0 len0 bs := h.rA.below rfl h.bel
theorem ExA.readsB {w : World} {cs : Int} {a0 : Option Addr} {len0 cap0 : Nat} {bad : Bool} {bs : List UInt8} {a1 : Option Addr} {len1 : Nat} {bt : List UInt8} {wi : World} (h : ExA w cs a0 len0 cap0 bad bs a1 len1 bt wi) : Reads wi a1 len1 bt := h.rB.below rfl h.bel

/-- A state in its box. -/
structure BoxD (w : World) (d : Nat) (cs : Int) (g n c : Nat) (bd : Bool) (ls : List UInt8) (wi : World) : Prop where
  box : wi.heap[d]? = some (.cells #[.int .i64 cs, .slice (some ⟨g, 0, none⟩) n c, .bool bd] 30 (0, 0))
  row : Row wi g ls
  len : ls.length = n
  wd : w.heap.size < d
  wg : w.heap.size < g
theorem BoxD.below {w : World} {d : Nat} {cs : Int} {g n c : Nat} {bd : Bool} {ls : List UInt8} {wi wj : World} (h : BoxD w d cs g n c bd ls wi) (hB : Below wi.heap.size wi wj) : BoxD w d cs g n c bd ls wj :=
  ⟨(hB.block _ (lt_block h.box)).trans h.box, h.row.below hB, h.len, h.wd, h.wg⟩
theorem BoxD.grown {w : World} {d : Nat} {cs : Int} {g n c k : Nat} {bd : Bool} {ls : List UInt8} {wi wj : World} (h : BoxD w d cs g n c bd ls wi) (hG : wi.grownBy wj (some k)) (hd : d ≠ k) (hg : g ≠ k) : BoxD w d cs g n c bd ls wj :=
  ⟨grown_block hG h.box hd, h.row.grown hG hg, h.len, h.wd, h.wg⟩
theorem BoxD.marked {w : World} {d : Nat} {cs : Int} {g n c : Nat} {bd : Bool} {ls es : List UInt8} {wi wj : World} (h : BoxD w d cs g n c bd ls wi) (hG : wi.grownBy wj (some g)) (hR : Row wj g es) (hl : es.length = n) (hd : d ≠ g) : BoxD w d cs g n c bd es wj :=
  ⟨grown_block hG h.box hd, hR, hl, h.wd, h.wg⟩
theorem boxD_new {w wi : World} {cs : Int} {g n c : Nat} {bd : Bool} {ls : List UInt8} (hR : Row wi g ls) (hl : ls.length = n) (hw : w.heap.size < wi.heap.size) (hg : w.heap.size < g) : BoxD w wi.heap.size cs g n c bd ls (wi.alloc (.cells #[.int .i64 cs, .slice (some ⟨g, 0, none⟩) n c, .bool bd] 30)) :=
  ⟨alloc_new wi _ rfl, hR.below (below_lit wi _), hl, hw, hg⟩

theorem fed_size {cs : Int} {held b : List UInt8} {bad : Bool} (h : held.length ≤ 2097152) : (fedH cs held bad b).length ≤ 2097152 := by
  unfold fedH
  split
  · have := (feed_held cs _ (held ++ b) (Nat.le_refl _)).2.2.2; omega
  · exact h

/-- A slice that is nil, or the row of block g. -/
def RowO (w : World) (ao : Option Addr) (g : Nat) (bs : List UInt8) : Prop := (ao = none ∧ bs = []) ∨ (ao = some ⟨g, 0, none⟩ ∧ Row w g bs)
theorem RowO.reads {w : World} {ao : Option Addr} {g n : Nat} {bs : List UInt8} (h : RowO w ao g bs) (hn : bs.length = n) : Reads w ao n bs := by
  rcases h with ⟨rfl, rfl⟩ | ⟨rfl, hR⟩
  · exact ⟨hn, .inl (by simpa using hn.symm)⟩
  · exact hR.reads hn
theorem RowO.below {w w' : World} {ao : Option Addr} {g : Nat} {bs : List UInt8} (h : RowO w ao g bs) (hB : Below w.heap.size w w') : RowO w' ao g bs := by
  rcases h with h | ⟨h, hR⟩
  · exact .inl h
  · exact .inr ⟨h, hR.below hB⟩
theorem RowO.grown {w w' : World} {ao : Option Addr} {g k : Nat} {bs : List UInt8} (h : RowO w ao g bs) (hG : w.grownBy w' (some k)) (hg : g ≠ k) : RowO w' ao g bs := by
  rcases h with h | ⟨h, hR⟩
  · exact .inl h
  · exact .inr ⟨h, hR.grown hG hg⟩
/-- Where there is nil a number stands for the block that is none. -/
theorem rowO_of {w : World} {B c : Nat} {ao : Option Addr} {bs : List UInt8} (h : OwnO w B ao c bs) (hB : B ≤ w.heap.size) : ∃ g, RowO w ao g bs ∧ B ≤ g ∧ g ≠ w.heap.size := by
  rcases h with ⟨rfl, _, rfl⟩ | ⟨q, rfl, hq, hO⟩
  · exact ⟨w.heap.size + 1, .inl ⟨rfl, rfl⟩, by omega, by omega⟩
  · exact ⟨q, .inr ⟨rfl, hO.row⟩, hq, by have := hO.lt; omega⟩

/-- A state in its box, which may hold nil. -/
structure BoxO (w : World) (d : Nat) (cs : Int) (ao : Option Addr) (g n c : Nat) (bd : Bool) (ls : List UInt8) (wi : World) : Prop where
  box : wi.heap[d]? = some (.cells #[.int .i64 cs, .slice ao n c, .bool bd] 30 (0, 0))
  row : RowO wi ao g ls
  len : ls.length = n
  wd : w.heap.size < d
  wg : w.heap.size < g
theorem BoxO.below {w : World} {d : Nat} {cs : Int} {ao : Option Addr} {g n c : Nat} {bd : Bool} {ls : List UInt8} {wi wj : World} (h : BoxO w d cs ao g n c bd ls wi) (hB : Below wi.heap.size wi wj) : BoxO w d cs ao g n c bd ls wj :=
  ⟨(hB.block _ (lt_block h.box)).trans h.box, h.row.below hB, h.len, h.wd, h.wg⟩
theorem BoxO.grown {w : World} {d : Nat} {cs : Int} {ao : Option Addr} {g n c k : Nat} {bd : Bool} {ls : List UInt8} {wi wj : World} (h : BoxO w d cs ao g n c bd ls wi) (hG : wi.grownBy wj (some k)) (hd : d ≠ k) (hg : g ≠ k) : BoxO w d cs ao g n c bd ls wj :=
  ⟨grown_block hG h.box hd, h.row.grown hG hg, h.len, h.wd, h.wg⟩
theorem BoxO.marked {w : World} {d : Nat} {cs : Int} {ao : Option Addr} {g n c : Nat} {bd : Bool} {ls es : List UInt8} {wi wj : World} (h : BoxO w d cs ao g n c bd ls wi) (hG : wi.grownBy wj (some g)) (hR : RowO wj ao g es) (hl : es.length = n) (hd : d ≠ g) : BoxO w d cs ao g n c bd es wj :=
  ⟨grown_block hG h.box hd, hR, hl, h.wd, h.wg⟩
theorem boxO_new {w wi : World} {cs : Int} {ao : Option Addr} {g n c : Nat} {bd : Bool} {ls : List UInt8} (hR : RowO wi ao g ls) (hl : ls.length = n) (hw : w.heap.size < wi.heap.size) (hg : w.heap.size < g) : BoxO w wi.heap.size cs ao g n c bd ls (wi.alloc (.cells #[.int .i64 cs, .slice ao n c, .bool bd] 30)) :=
  ⟨alloc_new wi _ rfl, hR.below (below_lit wi _), hl, hw, hg⟩

set_option maxHeartbeats 400000 in
theorem markByteS_nil (c : Nat) (m : Int) (w : World) : Calls Tryd.prog 30 #[.slice none 0 c, .int .i64 m] w fun e w' => e = .returned (.int .i64 m) ∧ w = w' := by
  go_enter Tryd.func30, Tryd.ntmps30
  go_wp2_with fail
  refine wp_loop_rounds 1 ?_
  rewrite [rounds_succ]
  go_wp2_with fail
  go_ret
  exact ⟨rfl, rfl⟩

set_option maxHeartbeats 400000 in
theorem heldByteS_nil (c : Nat) (m : Int) (w : World) : Calls Tryd.prog 46 #[.slice none 0 c, .int .i64 m] w fun e w' => e = .returned (.int .i64 m) ∧ w = w' := by
  go_enter Tryd.func46, Tryd.ntmps46
  go_wp2_with fail
  refine wp_loop_rounds 1 ?_
  rewrite [rounds_succ]
  go_wp2_with fail
  go_ret
  exact ⟨rfl, rfl⟩

set_option maxHeartbeats 400000 in
theorem markDec_nil (cs : Int) (c : Nat) (m : Int) (bad : Bool) (w : World) :
    Calls Tryd.prog 29 #[.agg #[.int .i64 cs, .slice none 0 c, .bool bad], .int .i64 m] w fun e w' => e = .returned (.int .i64 m) ∧ Below w.heap.size w w' := by
  go_enter Tryd.func29, Tryd.ntmps29
  go_wp2_with fail
  refine (markByteS_nil c m _).mono ?_
  rintro e w1 ⟨rfl, hw⟩
  subst hw
  go_wp2_with fail
  go_ret
  exact ⟨rfl, below_lit w _⟩

set_option maxHeartbeats 400000 in
theorem heldDec_nil (cs : Int) (c m : Nat) (bad : Bool) (w : World) :
    Calls Tryd.prog 31 #[.agg #[.int .i64 cs, .slice none 0 c, .bool bad], .int .i64 (m : Int)] w fun e w' => e = .returned (.int .i64 (m : Int)) ∧ Below w.heap.size w w' := by
  have h2 : ¬ (m : Int) < 0 := by omega
  go_enter Tryd.func31, Tryd.ntmps31
  go_wp2_with fail
  refine (heldByteS_nil c m _).mono ?_
  rintro e w1 ⟨rfl, hw⟩
  subst hw
  go_wp2_with fail
  go_ret
  exact ⟨rfl, below_lit w _⟩

theorem markDec_o (cs : Int) (ao : Option Addr) (g len cap m : Nat) (bad : Bool) (bs : List UInt8) (w : World) (hn : bs.length = len) (hR : RowO w ao g bs) (hl : len ≤ 1073741824) (hm : m ≤ 1099511627776) :
    Calls Tryd.prog 29 #[.agg #[.int .i64 cs, .slice ao len cap, .bool bad], .int .i64 (m : Int)] w fun e w' => e = .returned (.int .i64 ((m + len : Nat) : Int)) ∧ RowO w' ao g (marks m len) ∧ w.grownBy w' (some g) := by
  rcases hR with ⟨rfl, rfl⟩ | ⟨rfl, hR⟩
  · simp at hn
    subst hn
    refine (markDec_nil cs cap m bad w).mono ?_
    rintro e w1 ⟨rfl, hB⟩
    exact ⟨rfl, .inl ⟨rfl, List.eq_nil_of_length_eq_zero (marks_length m 0)⟩, grown_below hB _⟩
  · refine (markDec_any cs g len cap m bad bs w hn hR hl hm).mono ?_
    rintro e w1 ⟨rfl, hR1, hG⟩
    exact ⟨rfl, .inr ⟨rfl, hR1⟩, hG⟩
theorem heldDec_o (cs : Int) (ao : Option Addr) (g len cap m : Nat) (bad : Bool) (w : World) (hR : RowO w ao g (marks m len)) (hl : len ≤ 1073741824) (hm : m ≤ 1099511627776) :
    Calls Tryd.prog 31 #[.agg #[.int .i64 cs, .slice ao len cap, .bool bad], .int .i64 (m : Int)] w fun e w' => e = .returned (.int .i64 ((m + len : Nat) : Int)) ∧ Below w.heap.size w w' := by
  rcases hR with ⟨rfl, hz⟩ | ⟨rfl, hR⟩
  · have hn : len = 0 := by have := marks_length m len; rw [hz] at this; simpa using this.symm
    subst hn
    exact heldDec_nil cs cap m bad w
  · exact heldDec_any cs g len cap m bad w hR hl hm

end Go.Proofs.YtjbideiifoadkaaDoor
