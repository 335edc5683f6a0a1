/- The contract of the program's closure that reads a part: what it says, and what is left behind the last sign that could be read. -/
import Derived.Test.YtjbideiifoadkaaDoorDecI
import Derived.Test.YtjbideiifoadkaaDoorFeedS
namespace Go.Proofs.YtjbideiifoadkaaDoor
set_option maxRecDepth 4000
open Go.RowKit

/-- What is read of a part: a text, and what is left. -/
structure PartOut (w0 : World) (cs : Int) (all : List UInt8) (e : Ending) (w' : World) : Prop where
  out : ∃ k xs ao n c, e = .returned (.tuple #[.string ⟨xs.toArray⟩, .slice ao n c]) ∧ FeedAt cs all k xs ∧ (k < all.length → hdOk cs (all.drop k) = false) ∧ Reads w' ao n (all.drop k) ∧ ((ao = none ∧ c = 0) ∨ ∃ q off, ao = some ⟨q, off, none⟩ ∧ q < w'.heap.size) ∧ Below w0.heap.size w0 w'

/-- What stands while the part is read: where the bytes lie that were begun, the set, and all bytes. -/
structure PartSt (w0 : World) (cs : Int) (all : List UInt8) (gb gs : Nat) (aq : Option Addr) (L cq : Nat) (w : World) : Prop where
  box : w.heap[gb]? = some (.cells #[.slice aq L cq] 22 (0, 0))
  set : w.cell? ⟨gs, 0, none⟩ = some (setV cs)
  own : OwnO w w0.heap.size aq cq all
  pb : w0.heap.size ≤ gb
  bel : Below w0.heap.size w0 w
theorem PartSt.below {w0 : World} {cs : Int} {all : List UInt8} {gb gs : Nat} {aq : Option Addr} {L cq : Nat} {w w' : World} (h : PartSt w0 cs all gb gs aq L cq w) (hB : Below w.heap.size w w') : PartSt w0 cs all gb gs aq L cq w' :=
  ⟨(hB.block _ (lt_block h.box)).trans h.box, cell_below h.set hB, h.own.below hB, h.pb, Below.next h.bel hB⟩
theorem cells1 (w : World) (g : Nat) (a : Value) (T : TypeId) (hg : w.heap[g]? = some (.cells #[a] T (0, 0))) : w.cell? ⟨g, 0, none⟩ = some a ∧ w.frozen? ⟨g, 0, none⟩ = false := by
  refine ⟨?_, frozen_of_row w g 0 _ _ hg⟩
  rw [cell_of_row w g 0 _ _ (0, 0) hg]; rfl
theorem set1 {w : World} {g : Nat} {a : Value} {T : TypeId} (x : Value) (hg : w.heap[g]? = some (.cells #[a] T (0, 0))) : (w.setCell ⟨g, 0, none⟩ x).heap[g]? = some (.cells #[x] T (0, 0)) := by
  rw [heap_setCell_same w g 0 _ _ _ hg]; simp
/-- Where the reading stands. -/
structure PAt (w : World) (cs : Int) (all : List UInt8) (k : Nat) (v : Value) (wr : World) : Prop where
  out : ∃ xs : List UInt8, FeedAt cs all k xs ∧ wr.ownsRow w.heap.size 5 1 v xs.length (xs.map cb) ∧ Below w.heap.size w wr
theorem PAt.le {w : World} {cs : Int} {all : List UInt8} {k : Nat} {v : Value} {wr : World} (h : PAt w cs all k v wr) : k ≤ all.length := by
  obtain ⟨xs, h1, _, _⟩ := h.out; exact h1.le
theorem PAt.bel {w : World} {cs : Int} {all : List UInt8} {k : Nat} {v : Value} {wr : World} (h : PAt w cs all k v wr) : Below w.heap.size w wr := by
  obtain ⟨xs, _, _, h3⟩ := h.out; exact h3
theorem pAt_zero (w : World) (cs : Int) (all : List UInt8) (L : Nat) (hL : L ≤ maxLen) : PAt w cs all 0 (.slice (some ⟨w.heap.size, 0, none⟩) 0 L) (w.alloc (.cells (madeCells #[.int .u8 0] L) 5)) := by
  refine ⟨[], feedAt_zero cs all, ?_, below_lit _ _⟩
  exact Own.owns (bs := []) ⟨madeCells #[.int .u8 0] L, heap_alloc_new w _, Nat.zero_le _, hL, by rw [← Array.length_toList, zeros_length], by simp⟩ rfl (Nat.le_refl _)

theorem owns_set {w : World} {B n gb : Nat} {v x : Value} {bs : List UInt8} (h : w.ownsRow B 5 1 v n (bs.map cb)) (hg : gb < B) : (w.setCell ⟨gb, 0, none⟩ x).ownsRow B 5 1 v n (bs.map cb) := by
  have hn : bs.length = n := by simpa using h.1
  obtain ⟨ao, c, rfl, hO⟩ := ownO_of h
  rcases hO with ⟨rfl, rfl, rfl⟩ | ⟨q, rfl, hb, hO⟩
  · simp at hn; subst hn; exact World.ownsRow_nil _ _ _ _
  · exact (own_set hO (by omega)).owns hn hb
theorem owns_drewN {w : World} {B n : Nat} {v : Value} {bs : List UInt8} (h : w.ownsRow B 5 1 v n (bs.map cb)) (N : Nat) : (w.drewN N).ownsRow B 5 1 v n (bs.map cb) := h
theorem owns_below {w w' : World} {B n : Nat} {v : Value} {bs : List UInt8} (h : w.ownsRow B 5 1 v n (bs.map cb)) (hB : Below w.heap.size w w') : w'.ownsRow B 5 1 v n (bs.map cb) := by
  have hn : bs.length = n := by simpa using h.1
  obtain ⟨ao, c, rfl, hO⟩ := ownO_of h
  exact (hO.below hB).owns hn

/-- What is left lies somewhere. -/
abbrev LeftAt (w : World) (ao : Option Addr) (n c : Nat) (bs : List UInt8) : Prop := Reads w ao n bs ∧ ((ao = none ∧ c = 0) ∨ ∃ q off, ao = some ⟨q, off, none⟩ ∧ q < w.heap.size)
theorem part_cut {w : World} {q c L k gb : Nat} {x : Value} {all : List UInt8} (h : Own w q c all) (hL : all.length = L) (hk : k ≤ L) (hq : q ≠ gb) {N : Nat} : LeftAt ((w.setCell ⟨gb, 0, none⟩ x).drewN N) (some ⟨q, k, none⟩) (L - k) (c - k) (all.drop k) := by
  have hO : Own ((w.setCell ⟨gb, 0, none⟩ x).drewN N) q c all := (own_set h hq).below (below_drewN' _ _ N)
  exact ⟨hO.reads_drop hL k hk, .inr ⟨q, k, rfl, hO.lt⟩⟩
theorem part_end {w0 w : World} {cs : Int} {held part all xs : List UInt8} {gb gs L cq k n c : Nat} {aq ao : Option Addr} {XS : Array UInt8} (h : PartSt w0 cs all gb gs aq L cq w) {N : Nat} {x : Value} (_ : all.length = L) (hall : held ++ part = all) (hF : FeedAt cs all k xs) (hst : k < all.length → hdOk cs (all.drop k) = false) (hX : xs.toArray = XS)
    (hl : LeftAt ((w.setCell ⟨gb, 0, none⟩ x).drewN N) ao n c (all.drop k)) : PartOut w0 cs (held ++ part) (.returned (.tuple #[.string ⟨XS⟩, .slice ao n c])) ((w.setCell ⟨gb, 0, none⟩ x).drewN N) := by
  subst hX hall
  exact ⟨k, xs, ao, n, c, rfl, hF, hst, hl.1, hl.2, Below.next (bset h.bel x h.pb) (below_drewN' _ _ N)⟩

set_option maxHeartbeats 2000000 in
theorem part_any (cs : Int) (gb gs lh ch lp cp : Nat) (ah ap : Option Addr) (held part : List UInt8) (w0 w : World) (hb : Below w0.heap.size w0 w)
    (hgb : w.heap[gb]? = some (.cells #[.slice ah lh ch] 22 (0, 0))) (hgs : w.cell? ⟨gs, 0, none⟩ = some (setV cs)) (hne : gs ≠ gb) (hpb : w0.heap.size ≤ gb)
    (h1 : Reads w0 ah lh held) (h2 : Reads w0 ap lp part) (hl1 : lh ≤ 4194304) (hl2 : lp ≤ 4194304) (T : Hd (AllAt w0)) :
    Calls Tryd.prog 59 #[.slice ap lp cp, .pointer (some ⟨gb, 0, none⟩), .pointer (some ⟨gs, 0, none⟩)] w (PartOut w0 cs (held ++ part)) := by
  obtain ⟨i0, hi, hz0, hz1, hz2⟩ := info_parts info8
  have H1 : Hd (Reads w0 ah lh held) := ⟨h1⟩
  have H2 : Hd (Reads w0 ap lp part) := ⟨h2⟩
  have HB : Hd (Below w0.heap.size w0 w) := ⟨hb⟩
  obtain ⟨p0, p1⟩ := cells1 w gb _ _ hgb
  have HG : Hd (w.heap[gb]? = some (.cells #[.slice ah lh ch] 22 (0, 0))) := ⟨hgb⟩
  have HS : Hd (w.cell? ⟨gs, 0, none⟩ = some (setV cs)) := ⟨hgs⟩
  have HNE : Hd (gs ≠ gb ∧ w0.heap.size ≤ gb) := ⟨hne, hpb⟩
  clear h1 h2 hb hgb hgs hne hpb
  go_enter Tryd.func59, Tryd.ntmps59
  go_wp2_with fail
  refine (concat_two w.heap.size lh ch lp cp ah ap held part _ (alloc_new w _ rfl) (H1.out.below rfl (Below.next HB.out (below_lit _ _))) (H2.out.below rfl (Below.next HB.out (below_lit _ _))) (by omega) (by omega)).mono ?_
  rintro e w1 ⟨aq, cq, rfl, hO1, hB1⟩
  obtain ⟨all, hall⟩ : ∃ all, held ++ part = all := ⟨_, rfl⟩
  obtain ⟨L, hL⟩ : ∃ L, all.length = L := ⟨_, rfl⟩
  have HL : Hd (all.length = L) := ⟨hL⟩
  have HALL : Hd (held ++ part = all) := ⟨hall⟩
  have hL2 : L ≤ 8388608 := by rw [← hL, ← hall, List.length_append, H1.out.1, H2.out.1]; omega
  rw [hall] at hO1 ⊢
  rw [hL]
  have hsz := lt_block HG.out
  have hB2 : Below w.heap.size w w1 := Below.next (below_lit _ _) hB1
  have G1 := (hB2.block gb hsz).trans HG.out
  have S1 := cell_below HS.out hB2
  have O2 : OwnO (w1.setCell ⟨gb, 0, none⟩ (.slice aq L cq)) w0.heap.size aq cq all := by
    rcases hO1 with h | ⟨q, hq, hq2, hO⟩
    · exact .inl h
    · have hq3 : gb < q := by have := hq2; simp at this; omega
      exact .inr ⟨q, hq, by have := HNE.out.2; omega, own_set hO (by omega)⟩
  have HQG : Hd (∀ q, aq = some ⟨q, 0, none⟩ → q ≠ gb) := ⟨fun q hq => by
    rcases hO1 with ⟨h, _⟩ | ⟨q', hq', hq2, _⟩
    · rw [h] at hq; cases hq
    · rw [hq'] at hq; cases hq; simp at hq2; omega⟩
  have ST : Hd (PartSt w0 cs all gb gs aq L cq (w1.setCell ⟨gb, 0, none⟩ (.slice aq L cq))) := ⟨set1 _ G1, cell_set S1 HNE.out.1, O2, HNE.out.2, bset (Below.next HB.out hB2) _ HNE.out.2⟩
  obtain ⟨m0, m1⟩ := cells1 w1 gb _ _ G1
  clear p0 p1 hO1 hB1 hB2 G1 S1 O2 hall hL HG HS hsz H1 H2 HB
  generalize hw2 : w1.setCell ⟨gb, 0, none⟩ (.slice aq L cq) = w2 at *
  obtain ⟨b0, b1⟩ := cells1 w2 gb _ _ ST.out.box
  go_wp2_with (at_make; refine wpList_make_both _ rfl _ _ 22 rfl 5 i0 (.int .u8 0) Tryd.underlying22 hi hz0 hz1 _ _ _ _ 0 L rfl rfl rfl ?C ?nm ?b2 ?b3 ?_)
  case C => rfl
  case nm => omega
  case b2 => rw [hz2]; omega
  case b3 => unfold maxLen; omega
  have W0 : Hd (PAt w2 cs all 0 (.slice (some ⟨w2.heap.size, 0, none⟩) 0 L) (w2.alloc (.cells (madeCells #[.int .u8 0] L) 5))) := ⟨pAt_zero w2 cs all L (by unfold maxLen; omega)⟩
  clear hw2 m0 m1 b0 b1
  go_wp2_with fail
  go_loopw [6, 7] (fun v i wr => ∃ k : Nat, i = .int .i64 k ∧ Hd (PAt w2 cs all k v wr)) (fun _ i _ => L - (intOf i).toNat)
  case atStart => exact ⟨0, rfl, W0⟩
  case round =>
    clear W0
    obtain ⟨k, rfl, R⟩ := hrel
    have f1 := R.out.le
    rw [HL.out] at f1
    have S : Hd (PartSt w0 cs all gb gs aq L cq wr) := ⟨ST.out.below R.out.bel⟩
    obtain ⟨b0, b1⟩ := cells1 wr gb _ _ S.out.box
    have b2 := S.out.set
    have hgb2 : Hd (gb < w2.heap.size) := ⟨lt_block ST.out.box⟩
    by_cases hlt : k < L
    · have hkI : (k : Int) < (L : Int) := by omega
      obtain ⟨q, rfl, hqb, hO⟩ : ∃ q, aq = some ⟨q, 0, none⟩ ∧ w0.heap.size ≤ q ∧ Own wr q cq all := by
        rcases S.out.own with ⟨_, _, h⟩ | h
        · have := HL.out; rw [h] at this; simp at this; omega
        · exact h
      have HO : Hd (Own wr q cq all) := ⟨hO⟩
      have hqg : Hd (q ≠ gb) := ⟨HQG.out q rfl⟩
      have hLc : L ≤ cq := by have := hO.le; rw [HL.out] at this; exact this
      clear hqb hO
      obtain ⟨sv, hsv⟩ : ∃ sv, setV cs = sv := ⟨_, rfl⟩
      have HSV : Hd (setV cs = sv) := ⟨hsv⟩
      rw [hsv] at b2
      clear hsv
      go_wp2_with fail
      rewrite [← HSV.out]
      refine (implSignAt_any cs q 0 L cq k all _ HL.out hLc (HO.out.cell HL.out) (by omega) hlt ⟨T.out.below S.out.bel⟩).mono ?_
      rintro e w3 ⟨n, next, ok, rfl, hS, hB⟩
      rewrite [HSV.out]
      have hk2 : k < all.length := by rw [HL.out]; exact hlt
      obtain ⟨xs, x1, x2, x3⟩ := R.out.out
      have hx4 : xs.length ≤ 33554432 := by have := x1.size; omega
      have X2 : Hd (w3.ownsRow w2.heap.size 5 1 u6 xs.length (xs.map cb)) := ⟨owns_below x2 hB⟩
      have X3 : Hd (Below w2.heap.size w2 w3) := ⟨Below.next x3 hB⟩
      have S3 : Hd (PartSt w0 cs all gb gs (some ⟨q, 0, none⟩) L cq w3) := ⟨S.out.below hB⟩
      have HO3 : Hd (Own w3 q cq all) := ⟨HO.out.below hB⟩
      cases ho : hdOk cs (all.drop k) with
      | true =>
        obtain ⟨s1, s2⟩ := hS.yes ho
        obtain rfl : ok = true := hS.ok.trans ho
        subst s1 s2
        have hf := hd_fits (drop_ne hk2) ho
        have N1 := feedAt_yes x1 hk2 ho
        have hp := hf.pos
        have hle := N1.le
        rw [HL.out] at hle
        have NX : Hd (FeedAt cs all (k + hdK cs (all.drop k)) (xs ++ signB (hdN cs (all.drop k)))) := ⟨N1⟩
        clear hS hf N1 x1 x2 x3 ho hB R b0 b1 b2 S HO HO3 S3
        generalize hdK cs (all.drop k) = K at *
        generalize hdN cs (all.drop k) = N at *
        go_wp2_with fail
        refine (addSign_any u6 xs xs.length N _ w2.heap.size rfl X2.out X3.out.size (by omega)).mono ?_
        rintro e w4 ⟨v2, rfl, hO2, hG2, _⟩
        have R2 : Hd (PAt w2 cs all (k + K) v2 w4) := ⟨⟨_, NX.out, hO2, X3.out.grown hG2 X3.out.size (fun i hi => own_block X2.out hi)⟩⟩
        clear hO2 hG2 X2 X3
        go_wp2_with fail
        go_roundw
        case rel => exact ⟨k + K, by go_num, R2⟩
        case measure => simp [intOf]; omega
      | false =>
        obtain rfl : ok = false := hS.ok.trans ho
        have HX : Hd (FeedAt cs all k xs ∧ (k < all.length → hdOk cs (all.drop k) = false)) := ⟨x1, fun _ => ho⟩
        clear hS x1 x2 x3 ho hB R b0 b1 b2 S HO
        obtain ⟨b0, b1⟩ := cells1 w3 gb _ _ S3.out.box
        have hk3 : (k : Int) ≤ (L : Int) := by omega
        have hL3 : (L : Int) ≤ (cq : Int) := by omega
        have hck : ¬ cq = k := by omega
        have hcv : ∀ N, (convert 22 9 u6).run Tryd.prog ((w3.setCell ⟨gb, 0, none⟩ (.slice (some ⟨q, k, none⟩) (L - k) (cq - k))).drewN N) = .ok (.string ⟨xs.toArray⟩) ((w3.setCell ⟨gb, 0, none⟩ (.slice (some ⟨q, k, none⟩) (L - k) (cq - k))).drewN N) := fun N => conv_owned (owns_drewN (owns_set X2.out hgb2.out) N)
        obtain ⟨XS, hXS⟩ : ∃ XS, xs.toArray = XS := ⟨_, rfl⟩
        have HXS : Hd (xs.toArray = XS) := ⟨hXS⟩
        rw [hXS] at hcv
        have hcell : (w3.setCell ⟨gb, 0, none⟩ (.slice (some ⟨q, k, none⟩) (L - k) (cq - k))).cell? ⟨gb, 0, none⟩ = some (.slice (some ⟨q, k, none⟩) (L - k) (cq - k)) := (cells1 _ gb _ _ (set1 _ S3.out.box)).1
        clear hXS
        go_wp2_with fail
        go_quiet (fail)
        go_wp2_with fail
        go_ret2
        exact part_end S3.out HL.out HALL.out HX.out.1 HX.out.2 HXS.out (part_cut HO3.out HL.out f1 hqg.out)
    · have hkI : ¬ (k : Int) < (L : Int) := by omega
      obtain rfl : k = L := by omega
      obtain ⟨xs, x1, x2, x3⟩ := R.out.out
      have HX : Hd (FeedAt cs all k xs ∧ (k < all.length → hdOk cs (all.drop k) = false)) := ⟨x1, fun h => by rw [HL.out] at h; omega⟩
      have X2 : Hd (wr.ownsRow w2.heap.size 5 1 u6 xs.length (xs.map cb)) := ⟨x2⟩
      obtain ⟨XS, hXS⟩ : ∃ XS, xs.toArray = XS := ⟨_, rfl⟩
      have HXS : Hd (xs.toArray = XS) := ⟨hXS⟩
      clear x1 x2 x3 R b2
      have hk3 : (k : Int) ≤ (k : Int) := by omega
      rcases S.out.own with ⟨rfl, rfl, hz⟩ | ⟨q, rfl, hqb, hO⟩
      · obtain rfl : k = 0 := by rw [← HL.out, hz]; rfl
        have hcv : ∀ N, (convert 22 9 u6).run Tryd.prog ((wr.setCell ⟨gb, 0, none⟩ (.slice none 0 0)).drewN N) = .ok (.string ⟨xs.toArray⟩) ((wr.setCell ⟨gb, 0, none⟩ (.slice none 0 0)).drewN N) := fun N => conv_owned (owns_drewN (owns_set X2.out hgb2.out) N)
        rw [hXS] at hcv
        have hcell : (wr.setCell ⟨gb, 0, none⟩ (.slice none 0 0)).cell? ⟨gb, 0, none⟩ = some (.slice none 0 0) := (cells1 _ gb _ _ (set1 _ S.out.box)).1
        have HZ : Hd (all = []) := ⟨hz⟩
        clear hXS hz
        go_wp2_with fail
        go_quiet (fail)
        go_wp2_with fail
        go_ret2
        exact part_end S.out HL.out HALL.out HX.out.1 HX.out.2 HXS.out ⟨⟨by rw [HZ.out]; rfl, .inl rfl⟩, .inl ⟨rfl, rfl⟩⟩
      · have HO3 : Hd (Own wr q cq all) := ⟨hO⟩
        have hqg : Hd (q ≠ gb) := ⟨HQG.out q rfl⟩
        have hL3 : (k : Int) ≤ (cq : Int) := by have := hO.le; rw [HL.out] at this; omega
        have HD : Hd (all.drop k = []) := ⟨List.drop_eq_nil_of_le (by rw [HL.out]; omega)⟩
        clear hO hqb
        by_cases hck : cq = k
        · subst hck
          have hcv : ∀ N, (convert 22 9 u6).run Tryd.prog ((wr.setCell ⟨gb, 0, none⟩ (.slice (some ⟨q, 0, none⟩) 0 0)).drewN N) = .ok (.string ⟨xs.toArray⟩) ((wr.setCell ⟨gb, 0, none⟩ (.slice (some ⟨q, 0, none⟩) 0 0)).drewN N) := fun N => conv_owned (owns_drewN (owns_set X2.out hgb2.out) N)
          rw [hXS] at hcv
          have hcell : (wr.setCell ⟨gb, 0, none⟩ (.slice (some ⟨q, 0, none⟩) 0 0)).cell? ⟨gb, 0, none⟩ = some (.slice (some ⟨q, 0, none⟩) 0 0) := (cells1 _ gb _ _ (set1 _ S.out.box)).1
          clear hXS
          go_wp2_with fail
          go_quiet (fail)
          go_wp2_with fail
          go_ret2
          exact part_end S.out HL.out HALL.out HX.out.1 HX.out.2 HXS.out ⟨⟨by rw [HD.out]; rfl, .inl rfl⟩, .inr ⟨q, _, rfl, (own_set HO3.out hqg.out).lt⟩⟩
        · have hcv : ∀ N, (convert 22 9 u6).run Tryd.prog ((wr.setCell ⟨gb, 0, none⟩ (.slice (some ⟨q, k, none⟩) 0 (cq - k))).drewN N) = .ok (.string ⟨xs.toArray⟩) ((wr.setCell ⟨gb, 0, none⟩ (.slice (some ⟨q, k, none⟩) 0 (cq - k))).drewN N) := fun N => conv_owned (owns_drewN (owns_set X2.out hgb2.out) N)
          rw [hXS] at hcv
          have hcell : (wr.setCell ⟨gb, 0, none⟩ (.slice (some ⟨q, k, none⟩) 0 (cq - k))).cell? ⟨gb, 0, none⟩ = some (.slice (some ⟨q, k, none⟩) 0 (cq - k)) := (cells1 _ gb _ _ (set1 _ S.out.box)).1
          clear hXS
          go_wp2_with fail
          go_quiet (fail)
          go_wp2_with fail
          go_ret2
          exact part_end S.out HL.out HALL.out HX.out.1 HX.out.2 HXS.out ⟨⟨by rw [HD.out]; rfl, .inl rfl⟩, .inr ⟨q, _, rfl, (own_set HO3.out hqg.out).lt⟩⟩

end Go.Proofs.YtjbideiifoadkaaDoor
