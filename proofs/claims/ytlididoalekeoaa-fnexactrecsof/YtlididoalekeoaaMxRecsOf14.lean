/- Parts of the proof, one behind the other. -/
import Derived.Test.YtlididoalekeoaaMxRecsOf6
import Derived.Test.YtlididoalekeoaaMxRecsOf13
import Derived.Deep.RegionHeld3
import Derived.Test.YtlididoalekeoaaMxRecsOf7
/- The marks of a list of Row. -/
namespace Go.Proofs.Ytlididoalekeoaa
set_option maxRecDepth 4000
open Go.RowKit

theorem owRow_flat {w : World} {cs : List Value} {F : Fp} {l0 : ByteArray} {l1 : Int} {l2 : List UInt8} {l3 : Int} {l4 : List UInt8} {l5 : Int} {l6 : Bool} (h : OwRow w cs F (⟨l0, l1, l2, l3, l4, l5, l6⟩ : RowD)) : ∃ (x2 : Option Addr) (m2 d2 : Nat) (x4 : Option Addr) (m4 d4 : Nat) (G2 : Fp) (G4 : Fp), cs = [.string l0, .int .i64 l1, .slice x2 m2 d2, .int .i64 l3, .slice x4 m4 d4, .int .i64 l5, .bool l6] ∧ l0.size ≤ maxLen ∧ OwC w [.slice x2 m2 d2] G2 l2 ∧ OwC w [.slice x4 m4 d4] G4 l4 ∧ (∀ x, G2 x → ¬ G4 x) ∧ (∀ x, F x ↔ G2 x ∨ G4 x) := by
  obtain ⟨x2, m2, d2, x4, m4, d4, F1, F3, rfl, hz, r1, r3, hd, hU⟩ := h
  obtain ⟨_, _, _, G2, e1, c1, u1⟩ := r1
  obtain ⟨_, _, _, G4, e3, c3, u3⟩ := r3
  simp only [List.cons.injEq, Value.slice.injEq, and_true, true_and] at e1 e3
  obtain ⟨rfl, rfl, rfl⟩ := e1
  obtain ⟨rfl, rfl, rfl⟩ := e3
  exact ⟨_, _, _, _, _, _, G2, G4, rfl, hz, c1, c3, fun x h1 h2 => hd x ((u1 x).2 h1) ((u3 x).2 h2), fun x => by rw [hU x, u1 x, u3 x]⟩
theorem owRow_of {w : World} {cs : List Value} {F : Fp} {l0 : ByteArray} {l1 : Int} {l2 : List UInt8} {l3 : Int} {l4 : List UInt8} {l5 : Int} {l6 : Bool} (h : ∃ (x2 : Option Addr) (m2 d2 : Nat) (x4 : Option Addr) (m4 d4 : Nat) (G2 : Fp) (G4 : Fp), cs = [.string l0, .int .i64 l1, .slice x2 m2 d2, .int .i64 l3, .slice x4 m4 d4, .int .i64 l5, .bool l6] ∧ l0.size ≤ maxLen ∧ OwC w [.slice x2 m2 d2] G2 l2 ∧ OwC w [.slice x4 m4 d4] G4 l4 ∧ (∀ x, G2 x → ¬ G4 x) ∧ (∀ x, F x ↔ G2 x ∨ G4 x)) : OwRow w cs F (⟨l0, l1, l2, l3, l4, l5, l6⟩ : RowD) := by
  obtain ⟨x2, m2, d2, x4, m4, d4, G2, G4, rfl, hz, c1, c3, hd, hU⟩ := h
  exact ⟨_, _, _, _, _, _, G2, G4, rfl, hz, ⟨_, _, _, G2, rfl, c1, fun x => Iff.rfl⟩, ⟨_, _, _, G4, rfl, c3, fun x => Iff.rfl⟩, hd, hU⟩
def mkRow (m : Nat) (a : RowD) : RowD := (⟨markT (m), ((m + 1 : Nat) : Int), mkB (m + 1 + 1) (a.b1), ((m + 1 + 1 + ctB (a.b1) : Nat) : Int), mkB (m + 1 + 1 + ctB (a.b1) + 1) (a.b2), ((m + 1 + 1 + ctB (a.b1) + 1 + ctB (a.b2) : Nat) : Int), decide ((m + 1 + 1 + ctB (a.b1) + 1 + ctB (a.b2) + 1) % 3 = 0)⟩ : RowD)
abbrev ctRowS : List RowD → Nat := ctS ctRow
abbrev mkRowS (m : Nat) : List RowD → List RowD := mkS mkRow ctRow m

set_option maxHeartbeats 8000000 in
theorem markRowS_ow (ao : Option Addr) (len cap m : Nat) (ls : List RowD) (F : Fp) (w : World) (h : OwRowS w [.slice ao len cap] F ls) (hs : m + ctRowS ls ≤ 1073741824) (hm : 0 < m) :
    Calls Try.prog 74 #[.slice ao len cap, .int .i64 (m : Int)] w (MkOut OwRowS [.slice ao len cap] F (mkRowS m ls) (m + ctRowS ls) w) := by
  have h9 := h
  obtain ⟨v, css, Fs, e, P⟩ := h
  simp only [List.cons.injEq, and_true] at e
  subst e
  obtain ⟨a', c', e, hf⟩ := ownsRow_form P.own
  simp only [Value.slice.injEq] at e
  obtain ⟨rfl, hl, rfl⟩ := e
  by_cases hz : len = 0
  · obtain rfl : ls = [] := List.eq_nil_of_length_eq_zero (by omega)
    subst hz
    have H9 : Hd (OwRowS w [.slice ao 0 cap] F []) := ⟨h9⟩
    clear h9 P hf hl hs
    go_enter Try.func74, Try.ntmps74
    go_wp2_with fail
    refine wp_loop_rounds 1 ?_
    rewrite [rounds_succ]
    go_wp2_with fail
    go_ret
    exact ⟨rfl, H9.out, Chg.refl _ _⟩
  rcases hf with ⟨_, h0⟩ | ⟨g, rfl⟩
  · exact absurd (hl.trans h0) hz
  have HN : Hd (ls.length = len ∧ m + ctRowS ls ≤ 1073741824) := ⟨hl.symm, hs⟩
  have HM0 : Hd (0 < m) := ⟨hm⟩
  have hlen : len ≤ 9223372036854775807 := by have h7 := ownsRow_max P.own; unfold maxLen at h7; omega
  obtain ⟨R, hR⟩ : ∃ R, m + ctRowS ls = R := ⟨_, rfl⟩
  have HR : Hd (m + ctRowS ls = R) := ⟨hR⟩
  rw [hR]
  have HZ : Hd (m + ctRowS (ls.take 0) = m) := ⟨rfl⟩
  have HP : Hd (∃ css, OwP 7 84 OwRow w (.slice (some ⟨g, 0, none⟩) len cap) css Fs F (mixS mkRow ctRow m ls 0) ∧ Chg w w F) := ⟨css, by rw [mixS_zero]; exact P, Chg.refl _ _⟩
  clear h9 P hl hs hz hR css hm
  go_enter Try.func74, Try.ntmps74
  go_wp2
  go_loopw [1, 5] (fun q i wr => ∃ k : Nat, k ≤ len ∧ i = .int .i64 k ∧ ∃ l : Nat, q = .int .i64 (l : Int) ∧ Hd (m + ctRowS (ls.take k) = l) ∧ Hd (∃ css, OwP 7 84 OwRow wr (.slice (some ⟨g, 0, none⟩) len cap) css Fs F (mixS mkRow ctRow m ls k) ∧ Chg w wr F)) (fun _ i _ => len - (intOf i).toNat)
  case atStart => exact ⟨0, Nat.zero_le _, rfl, m, rfl, HZ, HP⟩
  case round =>
    obtain ⟨k, hk, rfl, p0, rfl, HL, HP1⟩ := hrel
    clear HZ HP
    by_cases hlt : k < len
    · have hlt' : (k : Int) < (len : Int) := by omega
      have h0 : (0 : Int) ≤ (k : Int) := by omega
      obtain ⟨a, ha⟩ := get_some (l := ls) (j := k) (by rw [HN.out.1]; exact hlt)
      obtain ⟨css, P, C⟩ := HP1.out
      have hml : (mixS mkRow ctRow m ls k).length = len := by rw [mixS_len _ _ _ _ (by have := HN.out.1; omega), HN.out.1]
      obtain ⟨c, hc, hcn, hE⟩ := P.cellsAt (mixS_get mkRow ctRow m ls ha)
      have HS : Hd (m + ctRowS (ls.take (k + 1)) = p0 + ctRow a ∧ p0 + ctRow a ≤ 1073741824) := ⟨by
        have h1 : ctRowS (ls.take (k + 1)) = ctRowS (ls.take k) + ctRow a := ctS_take_succ ctRow ha
        have h2 : ctRowS (ls.take (k + 1)) ≤ ctRowS ls := ctS_take_le ctRow ls (k + 1)
        have := HL.out; have := HN.out; omega⟩
      have hks : k < css.length := by rw [P.size, hml]; exact hlt
      have hcl : css.length = len := by rw [P.size, hml]
      have hown : wr.ownsRow 0 84 7 (.slice (some ⟨g, 0, none⟩) len cap) len (css.set k c).flatten := by rw [set_self hc, ← hml]; have := P.own; rw [hml] at this ⊢; exact this
      have hset : (mixS mkRow ctRow m ls k).set k (mkRow p0 a) = mixS mkRow ctRow m ls (k + 1) := by rw [← HL.out]; exact mixS_set mkRow ctRow m ls ha
      have hgF : ∀ x, Fs k x → x ≠ g := fun x hx e => (P.sub k x (by rw [hml]; exact hlt) hx).2 (by rw [e]; rfl)
      have HQ : Hd (OwP 7 84 OwRow wr (.slice (some ⟨g, 0, none⟩) len cap) css Fs F (mixS mkRow ctRow m ls k) ∧ Chg w wr F ∧ (mixS mkRow ctRow m ls k).length = len ∧ k < css.length ∧ css.length = len ∧ c.length = 7 ∧ (mixS mkRow ctRow m ls k).set k (mkRow p0 a) = mixS mkRow ctRow m ls (k + 1) ∧ ∀ x, Fs k x → x ≠ g) := ⟨P, C, hml, hks, hcl, hcn, hset, hgF⟩
      obtain ⟨l0, l1, l2, l3, l4, l5, l6⟩ := a
      obtain ⟨x2, m2, d2, x4, m4, d4, G2, G4, rfl, hz0, r2, r4, e0, hU⟩ := owRow_flat hE
      have HU : Hd ((∀ x, G2 x → ¬ G4 x) ∧ ∀ x, Fs k x ↔ G2 x ∨ G4 x) := ⟨e0, hU⟩
      have O0 : Hd (wr.ownsRow 0 84 7 (.slice (some ⟨g, 0, none⟩) len cap) len (css.set k [.string l0, .int .i64 l1, .slice x2 m2 d2, .int .i64 l3, .slice x4 m4 d4, .int .i64 l5, .bool l6]).flatten) := ⟨hown⟩
      have S2_0 : Hd (OwC wr [.slice x2 m2 d2] G2 l2) := ⟨r2⟩
      have S4_0 : Hd (OwC wr [.slice x4 m4 d4] G4 l4) := ⟨r4⟩
      have D0 : Hd (Chg wr wr (fun x => x = g ∨ Fs k x)) := ⟨Chg.refl _ _⟩
      obtain ⟨p1, hp1⟩ : ∃ p : Nat, p0 + 1 = p := ⟨_, rfl⟩
      have P1 : Hd (p0 + 1 = p1) := ⟨hp1⟩
      obtain ⟨p2, hp2⟩ : ∃ p : Nat, p1 + 1 = p := ⟨_, rfl⟩
      have P2 : Hd (p1 + 1 = p2) := ⟨hp2⟩
      obtain ⟨p3, hp3⟩ : ∃ p : Nat, p2 + ctB l2 = p := ⟨_, rfl⟩
      have P3 : Hd (p2 + ctB l2 = p3) := ⟨hp3⟩
      obtain ⟨p4, hp4⟩ : ∃ p : Nat, p3 + 1 = p := ⟨_, rfl⟩
      have P4 : Hd (p3 + 1 = p4) := ⟨hp4⟩
      obtain ⟨p5, hp5⟩ : ∃ p : Nat, p4 + ctB l4 = p := ⟨_, rfl⟩
      have P5 : Hd (p4 + ctB l4 = p5) := ⟨hp5⟩
      obtain ⟨p6, hp6⟩ : ∃ p : Nat, p5 + 1 = p := ⟨_, rfl⟩
      have P6 : Hd (p5 + 1 = p6) := ⟨hp6⟩
      obtain ⟨p7, hp7⟩ : ∃ p : Nat, p6 + 1 = p := ⟨_, rfl⟩
      have P7 : Hd (p6 + 1 = p7) := ⟨hp7⟩
      have HS2 : Hd (m + ctRowS (ls.take (k + 1)) = p0 + 1 + 1 + ctB l2 + 1 + ctB l4 + 1 + 1 ∧ p0 + 1 + 1 + ctB l2 + 1 + ctB l4 + 1 + 1 ≤ 1073741824) := ⟨by have h7 := HS.out; unfold ctRow at h7; (try dsimp only at h7); omega⟩
      have HT : Hd (m + ctRowS (ls.take (k + 1)) = p7 ∧ p7 ≤ 1073741824) := ⟨by have := HS2.out; have := P1.out; have := P2.out; have := P3.out; have := P4.out; have := P5.out; have := P6.out; have := P7.out; omega⟩
      have HPos : Hd (0 < p0) := ⟨by have := HL.out; have := HM0.out; omega⟩
      have i0 : ((p0 : Nat) : Int) + 1 = ((p1 : Nat) : Int) := by have := P1.out; omega
      have I0 : Hd (((p0 : Nat) : Int) + 1 = ((p1 : Nat) : Int)) := ⟨i0⟩
      clear i0
      have j0 : ((p0 : Nat) : Int) + 1 ≤ 1073741824 := by have := HT.out.2; have := P1.out; have := P2.out; have := P3.out; have := P4.out; have := P5.out; have := P6.out; have := P7.out; omega
      have i1 : ((p1 : Nat) : Int) + 1 = ((p2 : Nat) : Int) := by have := P2.out; omega
      have I1 : Hd (((p1 : Nat) : Int) + 1 = ((p2 : Nat) : Int)) := ⟨i1⟩
      clear i1
      have j1 : ((p1 : Nat) : Int) + 1 ≤ 1073741824 := by have := HT.out.2; have := P2.out; have := P3.out; have := P4.out; have := P5.out; have := P6.out; have := P7.out; omega
      have i3 : ((p3 : Nat) : Int) + 1 = ((p4 : Nat) : Int) := by have := P4.out; omega
      have I3 : Hd (((p3 : Nat) : Int) + 1 = ((p4 : Nat) : Int)) := ⟨i3⟩
      clear i3
      have j3 : ((p3 : Nat) : Int) + 1 ≤ 1073741824 := by have := HT.out.2; have := P4.out; have := P5.out; have := P6.out; have := P7.out; omega
      have i5 : ((p5 : Nat) : Int) + 1 = ((p6 : Nat) : Int) := by have := P6.out; omega
      have I5 : Hd (((p5 : Nat) : Int) + 1 = ((p6 : Nat) : Int)) := ⟨i5⟩
      clear i5
      have j5 : ((p5 : Nat) : Int) + 1 ≤ 1073741824 := by have := HT.out.2; have := P6.out; have := P7.out; omega
      have i6 : ((p6 : Nat) : Int) + 1 = ((p7 : Nat) : Int) := by have := P7.out; omega
      have I6 : Hd (((p6 : Nat) : Int) + 1 = ((p7 : Nat) : Int)) := ⟨i6⟩
      clear i6
      have j6 : ((p6 : Nat) : Int) + 1 ≤ 1073741824 := by have := HT.out.2; have := P7.out; omega
      clear HS HS2 P C hc hcn hown hset hgF hks hcl hml ha hE hU hp1 hp2 hp3 hp4 hp5 hp6 hp7 r2 r4 e0 hz0
      go_wp2_with fail
      refine (markText_any p0 _ (by have := HPos.out; omega) (by have := HT.out.2; have := P1.out; have := P2.out; have := P3.out; have := P4.out; have := P5.out; have := P6.out; have := P7.out; omega)).mono ?_
      rintro e v1 ⟨rfl, hB⟩
      have O1 : Hd (v1.ownsRow 0 84 7 (.slice (some ⟨g, 0, none⟩) len cap) len (css.set k [.string l0, .int .i64 l1, .slice x2 m2 d2, .int .i64 l3, .slice x4 m4 d4, .int .i64 l5, .bool l6]).flatten) := ⟨ownsRow_keep O0.out (fun b hb => hB.block b (by have h7 := (O0.out.lt b hb).2; exact h7))⟩
      have D1 : Hd (Chg wr v1 (fun x => x = g ∨ Fs k x)) := ⟨D0.out.trans (Chg.of_below hB)⟩
      have S2_1 : Hd (OwC v1 [.slice x2 m2 d2] G2 (l2)) := ⟨owC_ok.below S2_0.out hB⟩
      have S4_1 : Hd (OwC v1 [.slice x4 m4 d4] G4 (l4)) := ⟨owC_ok.below S4_0.out hB⟩
      clear hB O0 D0 S2_0 S4_0
      have u2 := ownsRow_cell O1.out rfl HQ.out.2.2.2.1 HQ.out.2.2.2.2.1 HQ.out.1.lens rfl (i := 2) rfl
      have t0 := ownsRow_cell O1.out rfl HQ.out.2.2.2.1 HQ.out.2.2.2.2.1 HQ.out.1.lens rfl (i := 0) rfl
      have f0 := ownsRow_free O1.out rfl (k * 7)
      have t1 := ownsRow_cell O1.out rfl HQ.out.2.2.2.1 HQ.out.2.2.2.2.1 HQ.out.1.lens rfl (i := 1) rfl
      have f1 := ownsRow_free O1.out rfl (k * 7 + 1)
      simp only [Nat.add_zero] at t0
      have O2 : Hd ((v1.setCell ⟨g, k * 7, none⟩ (.string (markT p0))).ownsRow 0 84 7 (.slice (some ⟨g, 0, none⟩) len cap) len (css.set k [.string (markT p0), .int .i64 l1, .slice x2 m2 d2, .int .i64 l3, .slice x4 m4 d4, .int .i64 l5, .bool l6]).flatten) := ⟨by have h7 := ownsRow_put (u := (.string (markT p0) : Value)) O1.out rfl HQ.out.2.2.2.1 HQ.out.1.lens rfl (i := 0) (by omega) rfl; simp only [Nat.add_zero] at h7; exact h7⟩
      have D2 : Hd (Chg wr (v1.setCell ⟨g, k * 7, none⟩ (.string (markT p0))) (fun x => x = g ∨ Fs k x)) := ⟨D1.out.setCell (.inl rfl) _⟩
      have S2_2 : Hd (OwC (v1.setCell ⟨g, k * 7, none⟩ (.string (markT p0))) [.slice x2 m2 d2] G2 (l2)) := ⟨owC_ok.keep S2_1.out (fun b hb => heap_setCell_other _ _ _ _ (HQ.out.2.2.2.2.2.2.2 b (by have hx := hb; exact (HU.out.2 b).2 (.inl hx))))⟩
      have S4_2 : Hd (OwC (v1.setCell ⟨g, k * 7, none⟩ (.string (markT p0))) [.slice x4 m4 d4] G4 (l4)) := ⟨owC_ok.keep S4_1.out (fun b hb => heap_setCell_other _ _ _ _ (HQ.out.2.2.2.2.2.2.2 b (by have hx := hb; exact (HU.out.2 b).2 (.inr (hx)))))⟩
      clear O1 D1 S2_1 S4_1
      have O3 : Hd (((v1.setCell ⟨g, k * 7, none⟩ (.string (markT p0))).setCell ⟨g, k * 7 + 1, none⟩ (.int .i64 ((p1 : Nat) : Int))).ownsRow 0 84 7 (.slice (some ⟨g, 0, none⟩) len cap) len (css.set k [.string (markT p0), .int .i64 ((p1 : Nat) : Int), .slice x2 m2 d2, .int .i64 l3, .slice x4 m4 d4, .int .i64 l5, .bool l6]).flatten) := ⟨by have h7 := ownsRow_put (u := (.int .i64 ((p1 : Nat) : Int) : Value)) O2.out rfl HQ.out.2.2.2.1 HQ.out.1.lens rfl (i := 1) (by omega) rfl; exact h7⟩
      have D3 : Hd (Chg wr ((v1.setCell ⟨g, k * 7, none⟩ (.string (markT p0))).setCell ⟨g, k * 7 + 1, none⟩ (.int .i64 ((p1 : Nat) : Int))) (fun x => x = g ∨ Fs k x)) := ⟨D2.out.setCell (.inl rfl) _⟩
      have S2_3 : Hd (OwC ((v1.setCell ⟨g, k * 7, none⟩ (.string (markT p0))).setCell ⟨g, k * 7 + 1, none⟩ (.int .i64 ((p1 : Nat) : Int))) [.slice x2 m2 d2] G2 (l2)) := ⟨owC_ok.keep S2_2.out (fun b hb => heap_setCell_other _ _ _ _ (HQ.out.2.2.2.2.2.2.2 b (by have hx := hb; exact (HU.out.2 b).2 (.inl hx))))⟩
      have S4_3 : Hd (OwC ((v1.setCell ⟨g, k * 7, none⟩ (.string (markT p0))).setCell ⟨g, k * 7 + 1, none⟩ (.int .i64 ((p1 : Nat) : Int))) [.slice x4 m4 d4] G4 (l4)) := ⟨owC_ok.keep S4_2.out (fun b hb => heap_setCell_other _ _ _ _ (HQ.out.2.2.2.2.2.2.2 b (by have hx := hb; exact (HU.out.2 b).2 (.inr (hx)))))⟩
      clear O2 D2 S2_2 S4_2
      go_wp2_with fail
      rewrite [I0.out]
      rewrite [I1.out]
      refine (markByteS_oc x2 m2 d2 p2 l2 G2 _ S2_3.out (by have := HT.out.2; have := P3.out; have := P4.out; have := P5.out; have := P6.out; have := P7.out; omega)).mono ?_
      rintro e v2 ⟨rfl, hO, hC⟩
      rewrite [show p2 + ctB l2 = p3 from P3.out]
      have O4 : Hd (v2.ownsRow 0 84 7 (.slice (some ⟨g, 0, none⟩) len cap) len (css.set k [.string (markT p0), .int .i64 ((p1 : Nat) : Int), .slice x2 m2 d2, .int .i64 l3, .slice x4 m4 d4, .int .i64 l5, .bool l6]).flatten) := ⟨ownsRow_keep O3.out (fun b hb => hC.block b (by have h7 := (O3.out.lt b hb).2; exact h7) (fun hx => by simp [Value.ownBlock] at hb; exact HQ.out.2.2.2.2.2.2.2 b ((HU.out.2 b).2 (.inl hx)) hb.symm))⟩
      have D4 : Hd (Chg wr v2 (fun x => x = g ∨ Fs k x)) := ⟨D3.out.trans (hC.mono (fun x hx => .inr ((HU.out.2 x).2 (.inl hx))))⟩
      have S2_4 : Hd (OwC v2 [.slice x2 m2 d2] G2 (mkB p2 l2)) := ⟨hO⟩
      have S4_4 : Hd (OwC v2 [.slice x4 m4 d4] G4 (l4)) := ⟨owC_ok.chg S4_3.out hC (fun x hx hy => HU.out.1 x hy hx)⟩
      clear hO hC u2 O3 D3 S2_3 S4_3 t0 f0 j0 t1 f1 j1
      have u4 := ownsRow_cell O4.out rfl HQ.out.2.2.2.1 HQ.out.2.2.2.2.1 HQ.out.1.lens rfl (i := 4) rfl
      have t3 := ownsRow_cell O4.out rfl HQ.out.2.2.2.1 HQ.out.2.2.2.2.1 HQ.out.1.lens rfl (i := 3) rfl
      have f3 := ownsRow_free O4.out rfl (k * 7 + 3)
      have O5 : Hd ((v2.setCell ⟨g, k * 7 + 3, none⟩ (.int .i64 ((p3 : Nat) : Int))).ownsRow 0 84 7 (.slice (some ⟨g, 0, none⟩) len cap) len (css.set k [.string (markT p0), .int .i64 ((p1 : Nat) : Int), .slice x2 m2 d2, .int .i64 ((p3 : Nat) : Int), .slice x4 m4 d4, .int .i64 l5, .bool l6]).flatten) := ⟨by have h7 := ownsRow_put (u := (.int .i64 ((p3 : Nat) : Int) : Value)) O4.out rfl HQ.out.2.2.2.1 HQ.out.1.lens rfl (i := 3) (by omega) rfl; exact h7⟩
      have D5 : Hd (Chg wr (v2.setCell ⟨g, k * 7 + 3, none⟩ (.int .i64 ((p3 : Nat) : Int))) (fun x => x = g ∨ Fs k x)) := ⟨D4.out.setCell (.inl rfl) _⟩
      have S2_5 : Hd (OwC (v2.setCell ⟨g, k * 7 + 3, none⟩ (.int .i64 ((p3 : Nat) : Int))) [.slice x2 m2 d2] G2 (mkB p2 l2)) := ⟨owC_ok.keep S2_4.out (fun b hb => heap_setCell_other _ _ _ _ (HQ.out.2.2.2.2.2.2.2 b (by have hx := hb; exact (HU.out.2 b).2 (.inl hx))))⟩
      have S4_5 : Hd (OwC (v2.setCell ⟨g, k * 7 + 3, none⟩ (.int .i64 ((p3 : Nat) : Int))) [.slice x4 m4 d4] G4 (l4)) := ⟨owC_ok.keep S4_4.out (fun b hb => heap_setCell_other _ _ _ _ (HQ.out.2.2.2.2.2.2.2 b (by have hx := hb; exact (HU.out.2 b).2 (.inr (hx)))))⟩
      clear O4 D4 S2_4 S4_4
      go_wp2_with fail
      rewrite [I3.out]
      refine (markByteS_oc x4 m4 d4 p4 l4 G4 _ S4_5.out (by have := HT.out.2; have := P5.out; have := P6.out; have := P7.out; omega)).mono ?_
      rintro e v3 ⟨rfl, hO, hC⟩
      rewrite [show p4 + ctB l4 = p5 from P5.out]
      have O6 : Hd (v3.ownsRow 0 84 7 (.slice (some ⟨g, 0, none⟩) len cap) len (css.set k [.string (markT p0), .int .i64 ((p1 : Nat) : Int), .slice x2 m2 d2, .int .i64 ((p3 : Nat) : Int), .slice x4 m4 d4, .int .i64 l5, .bool l6]).flatten) := ⟨ownsRow_keep O5.out (fun b hb => hC.block b (by have h7 := (O5.out.lt b hb).2; exact h7) (fun hx => by simp [Value.ownBlock] at hb; exact HQ.out.2.2.2.2.2.2.2 b ((HU.out.2 b).2 (.inr (hx))) hb.symm))⟩
      have D6 : Hd (Chg wr v3 (fun x => x = g ∨ Fs k x)) := ⟨D5.out.trans (hC.mono (fun x hx => .inr ((HU.out.2 x).2 (.inr (hx)))))⟩
      have S2_6 : Hd (OwC v3 [.slice x2 m2 d2] G2 (mkB p2 l2)) := ⟨owC_ok.chg S2_5.out hC (fun x hx hy => HU.out.1 x hx hy)⟩
      have S4_6 : Hd (OwC v3 [.slice x4 m4 d4] G4 (mkB p4 l4)) := ⟨hO⟩
      clear hO hC u4 O5 D5 S2_5 S4_5 t3 f3 j3
      have t5 := ownsRow_cell O6.out rfl HQ.out.2.2.2.1 HQ.out.2.2.2.2.1 HQ.out.1.lens rfl (i := 5) rfl
      have f5 := ownsRow_free O6.out rfl (k * 7 + 5)
      have t6 := ownsRow_cell O6.out rfl HQ.out.2.2.2.1 HQ.out.2.2.2.2.1 HQ.out.1.lens rfl (i := 6) rfl
      have f6 := ownsRow_free O6.out rfl (k * 7 + 6)
      have O7 : Hd ((v3.setCell ⟨g, k * 7 + 5, none⟩ (.int .i64 ((p5 : Nat) : Int))).ownsRow 0 84 7 (.slice (some ⟨g, 0, none⟩) len cap) len (css.set k [.string (markT p0), .int .i64 ((p1 : Nat) : Int), .slice x2 m2 d2, .int .i64 ((p3 : Nat) : Int), .slice x4 m4 d4, .int .i64 ((p5 : Nat) : Int), .bool l6]).flatten) := ⟨by have h7 := ownsRow_put (u := (.int .i64 ((p5 : Nat) : Int) : Value)) O6.out rfl HQ.out.2.2.2.1 HQ.out.1.lens rfl (i := 5) (by omega) rfl; exact h7⟩
      have D7 : Hd (Chg wr (v3.setCell ⟨g, k * 7 + 5, none⟩ (.int .i64 ((p5 : Nat) : Int))) (fun x => x = g ∨ Fs k x)) := ⟨D6.out.setCell (.inl rfl) _⟩
      have S2_7 : Hd (OwC (v3.setCell ⟨g, k * 7 + 5, none⟩ (.int .i64 ((p5 : Nat) : Int))) [.slice x2 m2 d2] G2 (mkB p2 l2)) := ⟨owC_ok.keep S2_6.out (fun b hb => heap_setCell_other _ _ _ _ (HQ.out.2.2.2.2.2.2.2 b (by have hx := hb; exact (HU.out.2 b).2 (.inl hx))))⟩
      have S4_7 : Hd (OwC (v3.setCell ⟨g, k * 7 + 5, none⟩ (.int .i64 ((p5 : Nat) : Int))) [.slice x4 m4 d4] G4 (mkB p4 l4)) := ⟨owC_ok.keep S4_6.out (fun b hb => heap_setCell_other _ _ _ _ (HQ.out.2.2.2.2.2.2.2 b (by have hx := hb; exact (HU.out.2 b).2 (.inr (hx)))))⟩
      clear O6 D6 S2_6 S4_6
      have O8 : Hd (((v3.setCell ⟨g, k * 7 + 5, none⟩ (.int .i64 ((p5 : Nat) : Int))).setCell ⟨g, k * 7 + 6, none⟩ (.bool (decide (p6 % 3 = 0)))).ownsRow 0 84 7 (.slice (some ⟨g, 0, none⟩) len cap) len (css.set k [.string (markT p0), .int .i64 ((p1 : Nat) : Int), .slice x2 m2 d2, .int .i64 ((p3 : Nat) : Int), .slice x4 m4 d4, .int .i64 ((p5 : Nat) : Int), .bool (decide (p6 % 3 = 0))]).flatten) := ⟨by have h7 := ownsRow_put (u := (.bool (decide (p6 % 3 = 0)) : Value)) O7.out rfl HQ.out.2.2.2.1 HQ.out.1.lens rfl (i := 6) (by omega) rfl; exact h7⟩
      have D8 : Hd (Chg wr ((v3.setCell ⟨g, k * 7 + 5, none⟩ (.int .i64 ((p5 : Nat) : Int))).setCell ⟨g, k * 7 + 6, none⟩ (.bool (decide (p6 % 3 = 0)))) (fun x => x = g ∨ Fs k x)) := ⟨D7.out.setCell (.inl rfl) _⟩
      have S2_8 : Hd (OwC ((v3.setCell ⟨g, k * 7 + 5, none⟩ (.int .i64 ((p5 : Nat) : Int))).setCell ⟨g, k * 7 + 6, none⟩ (.bool (decide (p6 % 3 = 0)))) [.slice x2 m2 d2] G2 (mkB p2 l2)) := ⟨owC_ok.keep S2_7.out (fun b hb => heap_setCell_other _ _ _ _ (HQ.out.2.2.2.2.2.2.2 b (by have hx := hb; exact (HU.out.2 b).2 (.inl hx))))⟩
      have S4_8 : Hd (OwC ((v3.setCell ⟨g, k * 7 + 5, none⟩ (.int .i64 ((p5 : Nat) : Int))).setCell ⟨g, k * 7 + 6, none⟩ (.bool (decide (p6 % 3 = 0)))) [.slice x4 m4 d4] G4 (mkB p4 l4)) := ⟨owC_ok.keep S4_7.out (fun b hb => heap_setCell_other _ _ _ _ (HQ.out.2.2.2.2.2.2.2 b (by have hx := hb; exact (HU.out.2 b).2 (.inr (hx)))))⟩
      clear O7 D7 S2_7 S4_7
      have HB6 : Hd (((((p6 : Nat) : Int) % 3 == 0) : Bool) = decide (p6 % 3 = 0)) := ⟨by by_cases hx : p6 % 3 = 0 <;> simp [hx] <;> omega⟩
      go_wp2_with fail
      rewrite [I5.out]
      rewrite [I6.out]
      rewrite [HB6.out]
      clear HB6
      have HE : OwRow ((v3.setCell ⟨g, k * 7 + 5, none⟩ (.int .i64 ((p5 : Nat) : Int))).setCell ⟨g, k * 7 + 6, none⟩ (.bool (decide (p6 % 3 = 0)))) [.string (markT p0), .int .i64 ((p1 : Nat) : Int), .slice x2 m2 d2, .int .i64 ((p3 : Nat) : Int), .slice x4 m4 d4, .int .i64 ((p5 : Nat) : Int), .bool (decide (p6 % 3 = 0))] (Fs k) (mkRow p0 (⟨l0, l1, l2, l3, l4, l5, l6⟩ : RowD)) := by
        unfold mkRow
        dsimp only
        rw [P1.out, P2.out, P3.out, P4.out, P5.out, P6.out]
        exact owRow_of ⟨x2, m2, d2, x4, m4, d4, G2, G4, rfl, markT_size (by have := HT.out.2; have := P1.out; have := P2.out; have := P3.out; have := P4.out; have := P5.out; have := P6.out; have := P7.out; omega), S2_8.out, S4_8.out, HU.out.1, HU.out.2⟩
      have HP2 : Hd (∃ css, OwP 7 84 OwRow ((v3.setCell ⟨g, k * 7 + 5, none⟩ (.int .i64 ((p5 : Nat) : Int))).setCell ⟨g, k * 7 + 6, none⟩ (.bool (decide (p6 % 3 = 0)))) (.slice (some ⟨g, 0, none⟩) len cap) css Fs F (mixS mkRow ctRow m ls (k + 1)) ∧ Chg w ((v3.setCell ⟨g, k * 7 + 5, none⟩ (.int .i64 ((p5 : Nat) : Int))).setCell ⟨g, k * 7 + 6, none⟩ (.bool (decide (p6 % 3 = 0)))) F) := ⟨css.set k [.string (markT p0), .int .i64 ((p1 : Nat) : Int), .slice x2 m2 d2, .int .i64 ((p3 : Nat) : Int), .slice x4 m4 d4, .int .i64 ((p5 : Nat) : Int), .bool (decide (p6 % 3 = 0))], by
        rw [← HQ.out.2.2.2.2.2.2.1]
        exact HQ.out.1.upd owRow_ok (by rw [HQ.out.2.2.1]; exact hlt) (by rw [HQ.out.2.2.1]; exact O8.out) rfl HE (fun x hx h1 h2 => D8.out.block x (HQ.out.1.lt x hx) (fun h => h.elim (fun e => h1 (by rw [e]; rfl)) h2)) D8.out.size,
        HQ.out.2.1.trans (D8.out.mono (fun x hx => hx.elim (fun e => HQ.out.1.blk x (by rw [e]; rfl)) (fun h => (HQ.out.1.sub k x (by rw [HQ.out.2.2.1]; exact hlt) h).1)))⟩
      have HL1 : Hd (m + ctRowS (ls.take (k + 1)) = p7) := ⟨HT.out.1⟩
      clear HE HQ HT HL HP1 HPos O8 D8 S2_8 S4_8 P1 P2 P3 P4 P5 P6 P7 I0 I1 I3 I5 I6 HU
      go_wp2_with fail
      go_roundw
      case rel => exact ⟨k + 1, by omega, by go_num, p7, rfl, HL1, HP2⟩
      case measure => simp [intOf]; omega
    · have HF : Hd (p0 = R) := ⟨by have h1 := HL.out; rw [List.take_of_length_le (by have := HN.out.1; omega)] at h1; rw [← h1, ← HR.out]⟩
      have hkl : k = ls.length := by have := HN.out.1; omega
      have HO : Hd (OwRowS wr [.slice (some ⟨g, 0, none⟩) len cap] F (mkRowS m ls) ∧ Chg w wr F) := ⟨by
        obtain ⟨css, P, C⟩ := HP1.out
        rw [hkl, mixS_all] at P
        exact ⟨⟨_, css, Fs, rfl, P⟩, C⟩⟩
      clear HL HP1 hkl
      go_wp2
      go_ret
      exact ⟨by rw [← HF.out]; rfl, HO.out.1, HO.out.2⟩

end Go.Proofs.Ytlididoalekeoaa
/- A list of Row that was marked: held. -/
namespace Go.Proofs.Ytlididoalekeoaa
set_option maxRecDepth 4000
open Go.RowKit

theorem rdRow_flat {w : World} {cs : List Value} {l0 : ByteArray} {l1 : Int} {l2 : List UInt8} {l3 : Int} {l4 : List UInt8} {l5 : Int} {l6 : Bool} (h : RdRow w cs (⟨l0, l1, l2, l3, l4, l5, l6⟩ : RowD)) : ∃ (x2 : Option Addr) (m2 d2 : Nat) (x4 : Option Addr) (m4 d4 : Nat), cs = [.string l0, .int .i64 l1, .slice x2 m2 d2, .int .i64 l3, .slice x4 m4 d4, .int .i64 l5, .bool l6] ∧ RdB w [.slice x2 m2 d2] l2 ∧ RdB w [.slice x4 m4 d4] l4 := by
  obtain ⟨x2, m2, d2, x4, m4, d4, rfl, _, r1, r3⟩ := h
  obtain ⟨_, _, _, e1, c1⟩ := r1
  obtain ⟨_, _, _, e3, c3⟩ := r3
  simp only [List.cons.injEq, Value.slice.injEq, and_true, true_and] at e1 e3
  obtain ⟨rfl, rfl, rfl⟩ := e1
  obtain ⟨rfl, rfl, rfl⟩ := e3
  exact ⟨_, _, _, _, _, _, rfl, c1, c3⟩

end Go.Proofs.Ytlididoalekeoaa
/- The marks of a list of Mark. -/
namespace Go.Proofs.Ytlididoalekeoaa
set_option maxRecDepth 4000
open Go.RowKit

abbrev ctMarkS : List MarkD → Nat := ctS ctMark
abbrev mkMarkS (m : Nat) : List MarkD → List MarkD := mkS mkMark ctMark m

set_option maxHeartbeats 4000000 in
theorem markMarkS_ow (ao : Option Addr) (len cap m : Nat) (ls : List MarkD) (F : Fp) (w : World) (h : OwMarkS w [.slice ao len cap] F ls) (hs : m + ctMarkS ls ≤ 1073741824) :
    Calls Try.prog 75 #[.slice ao len cap, .int .i64 (m : Int)] w (MkOut OwMarkS [.slice ao len cap] F (mkMarkS m ls) (m + ctMarkS ls) w) := by
  have h9 := h
  obtain ⟨v, css, Fs, e, P⟩ := h
  simp only [List.cons.injEq, and_true] at e
  subst e
  obtain ⟨a', c', e, hf⟩ := ownsRow_form P.own
  simp only [Value.slice.injEq] at e
  obtain ⟨rfl, hl, rfl⟩ := e
  by_cases hz : len = 0
  · obtain rfl : ls = [] := List.eq_nil_of_length_eq_zero (by omega)
    subst hz
    have H9 : Hd (OwMarkS w [.slice ao 0 cap] F []) := ⟨h9⟩
    clear h9 P hf hl hs
    go_enter Try.func75, Try.ntmps75
    go_wp2_with fail
    refine wp_loop_rounds 1 ?_
    rewrite [rounds_succ]
    go_wp2_with fail
    go_ret
    exact ⟨rfl, H9.out, Chg.refl _ _⟩
  rcases hf with ⟨_, h0⟩ | ⟨g, rfl⟩
  · exact absurd (hl.trans h0) hz
  have HN : Hd (ls.length = len ∧ m + ctMarkS ls ≤ 1073741824) := ⟨hl.symm, hs⟩
  have hlen : len ≤ 9223372036854775807 := by have h7 := ownsRow_max P.own; unfold maxLen at h7; omega
  obtain ⟨R, hR⟩ : ∃ R, m + ctMarkS ls = R := ⟨_, rfl⟩
  have HR : Hd (m + ctMarkS ls = R) := ⟨hR⟩
  rw [hR]
  have HZ : Hd (m + ctMarkS (ls.take 0) = m) := ⟨rfl⟩
  have HP : Hd (∃ css, OwP 3 89 OwMark w (.slice (some ⟨g, 0, none⟩) len cap) css Fs F (mixS mkMark ctMark m ls 0) ∧ Chg w w F) := ⟨css, by rw [mixS_zero]; exact P, Chg.refl _ _⟩
  clear h9 P hl hs hz hR css
  go_enter Try.func75, Try.ntmps75
  go_wp2
  go_loopw [1, 5] (fun q i wr => ∃ k : Nat, k ≤ len ∧ i = .int .i64 k ∧ ∃ l : Nat, q = .int .i64 (l : Int) ∧ Hd (m + ctMarkS (ls.take k) = l) ∧ Hd (∃ css, OwP 3 89 OwMark wr (.slice (some ⟨g, 0, none⟩) len cap) css Fs F (mixS mkMark ctMark m ls k) ∧ Chg w wr F)) (fun _ i _ => len - (intOf i).toNat)
  case atStart => exact ⟨0, Nat.zero_le _, rfl, m, rfl, HZ, HP⟩
  case round =>
    obtain ⟨k, hk, rfl, p0, rfl, HL, HP1⟩ := hrel
    clear HZ HP
    by_cases hlt : k < len
    · have hlt' : (k : Int) < (len : Int) := by omega
      have h0 : (0 : Int) ≤ (k : Int) := by omega
      obtain ⟨a, ha⟩ := get_some (l := ls) (j := k) (by rw [HN.out.1]; exact hlt)
      obtain ⟨css, P, C⟩ := HP1.out
      have hml : (mixS mkMark ctMark m ls k).length = len := by rw [mixS_len _ _ _ _ (by have := HN.out.1; omega), HN.out.1]
      obtain ⟨c, hc, hcn, hE⟩ := P.cellsAt (mixS_get mkMark ctMark m ls ha)
      have HS : Hd (m + ctMarkS (ls.take (k + 1)) = p0 + ctMark a ∧ p0 + ctMark a ≤ 1073741824) := ⟨by
        have h1 : ctMarkS (ls.take (k + 1)) = ctMarkS (ls.take k) + ctMark a := ctS_take_succ ctMark ha
        have h2 : ctMarkS (ls.take (k + 1)) ≤ ctMarkS ls := ctS_take_le ctMark ls (k + 1)
        have := HL.out; have := HN.out; omega⟩
      have hks : k < css.length := by rw [P.size, hml]; exact hlt
      have hcl : css.length = len := by rw [P.size, hml]
      have hown : wr.ownsRow 0 89 3 (.slice (some ⟨g, 0, none⟩) len cap) len (css.set k c).flatten := by rw [set_self hc, ← hml]; have := P.own; rw [hml] at this ⊢; exact this
      have hset : (mixS mkMark ctMark m ls k).set k (mkMark p0 a) = mixS mkMark ctMark m ls (k + 1) := by rw [← HL.out]; exact mixS_set mkMark ctMark m ls ha
      have hgF : ∀ x, Fs k x → x ≠ g := fun x hx e => (P.sub k x (by rw [hml]; exact hlt) hx).2 (by rw [e]; rfl)
      have HQ : Hd (OwP 3 89 OwMark wr (.slice (some ⟨g, 0, none⟩) len cap) css Fs F (mixS mkMark ctMark m ls k) ∧ Chg w wr F ∧ (mixS mkMark ctMark m ls k).length = len ∧ k < css.length ∧ css.length = len ∧ c.length = 3 ∧ (mixS mkMark ctMark m ls k).set k (mkMark p0 a) = mixS mkMark ctMark m ls (k + 1) ∧ ∀ x, Fs k x → x ≠ g) := ⟨P, C, hml, hks, hcl, hcn, hset, hgF⟩
      obtain ⟨l0, l1, l2⟩ := a
      simp only [OwMark] at hE
      obtain ⟨rfl, hU⟩ := hE
      have HU : Hd ((True) ∧ ∀ x, Fs k x ↔ False) := ⟨trivial, fun x => ⟨fun h => hU x h, fun h => h.elim⟩⟩
      have O0 : Hd (wr.ownsRow 0 89 3 (.slice (some ⟨g, 0, none⟩) len cap) len (css.set k [.int .i64 l0, .int .i64 l1, .int .i64 l2]).flatten) := ⟨hown⟩
      have D0 : Hd (Chg wr wr (fun x => x = g ∨ Fs k x)) := ⟨Chg.refl _ _⟩
      obtain ⟨p1, hp1⟩ : ∃ p : Nat, p0 + 1 = p := ⟨_, rfl⟩
      have P1 : Hd (p0 + 1 = p1) := ⟨hp1⟩
      obtain ⟨p2, hp2⟩ : ∃ p : Nat, p1 + 1 = p := ⟨_, rfl⟩
      have P2 : Hd (p1 + 1 = p2) := ⟨hp2⟩
      obtain ⟨p3, hp3⟩ : ∃ p : Nat, p2 + 1 = p := ⟨_, rfl⟩
      have P3 : Hd (p2 + 1 = p3) := ⟨hp3⟩
      have HS2 : Hd (m + ctMarkS (ls.take (k + 1)) = p0 + 1 + 1 + 1 ∧ p0 + 1 + 1 + 1 ≤ 1073741824) := ⟨by have h7 := HS.out; unfold ctMark at h7; (try dsimp only at h7); omega⟩
      have HT : Hd (m + ctMarkS (ls.take (k + 1)) = p3 ∧ p3 ≤ 1073741824) := ⟨by have := HS2.out; have := P1.out; have := P2.out; have := P3.out; omega⟩
      have i0 : ((p0 : Nat) : Int) + 1 = ((p1 : Nat) : Int) := by have := P1.out; omega
      have I0 : Hd (((p0 : Nat) : Int) + 1 = ((p1 : Nat) : Int)) := ⟨i0⟩
      clear i0
      have j0 : ((p0 : Nat) : Int) + 1 ≤ 1073741824 := by have := HT.out.2; have := P1.out; have := P2.out; have := P3.out; omega
      have i1 : ((p1 : Nat) : Int) + 1 = ((p2 : Nat) : Int) := by have := P2.out; omega
      have I1 : Hd (((p1 : Nat) : Int) + 1 = ((p2 : Nat) : Int)) := ⟨i1⟩
      clear i1
      have j1 : ((p1 : Nat) : Int) + 1 ≤ 1073741824 := by have := HT.out.2; have := P2.out; have := P3.out; omega
      have i2 : ((p2 : Nat) : Int) + 1 = ((p3 : Nat) : Int) := by have := P3.out; omega
      have I2 : Hd (((p2 : Nat) : Int) + 1 = ((p3 : Nat) : Int)) := ⟨i2⟩
      clear i2
      have j2 : ((p2 : Nat) : Int) + 1 ≤ 1073741824 := by have := HT.out.2; have := P3.out; omega
      clear HS HS2 P C hc hcn hown hset hgF hks hcl hml ha hp1 hp2 hp3 hU
      have t0 := ownsRow_cell O0.out rfl HQ.out.2.2.2.1 HQ.out.2.2.2.2.1 HQ.out.1.lens rfl (i := 0) rfl
      have t1 := ownsRow_cell O0.out rfl HQ.out.2.2.2.1 HQ.out.2.2.2.2.1 HQ.out.1.lens rfl (i := 1) rfl
      have t2 := ownsRow_cell O0.out rfl HQ.out.2.2.2.1 HQ.out.2.2.2.2.1 HQ.out.1.lens rfl (i := 2) rfl
      simp only [Nat.add_zero] at t0
      have f0 := ownsRow_free O0.out rfl (k * 3)
      have f1 := ownsRow_free O0.out rfl (k * 3 + 1)
      have f2 := ownsRow_free O0.out rfl (k * 3 + 2)
      have O1 : Hd ((wr.setCell ⟨g, k * 3, none⟩ (.int .i64 ((p0 : Nat) : Int))).ownsRow 0 89 3 (.slice (some ⟨g, 0, none⟩) len cap) len (css.set k [.int .i64 ((p0 : Nat) : Int), .int .i64 l1, .int .i64 l2]).flatten) := ⟨by have h7 := ownsRow_put (u := (.int .i64 ((p0 : Nat) : Int) : Value)) O0.out rfl HQ.out.2.2.2.1 HQ.out.1.lens rfl (i := 0) (by omega) rfl; simp only [Nat.add_zero] at h7; exact h7⟩
      have D1 : Hd (Chg wr (wr.setCell ⟨g, k * 3, none⟩ (.int .i64 ((p0 : Nat) : Int))) (fun x => x = g ∨ Fs k x)) := ⟨D0.out.setCell (.inl rfl) _⟩
      clear O0 D0
      have O2 : Hd (((wr.setCell ⟨g, k * 3, none⟩ (.int .i64 ((p0 : Nat) : Int))).setCell ⟨g, k * 3 + 1, none⟩ (.int .i64 ((p1 : Nat) : Int))).ownsRow 0 89 3 (.slice (some ⟨g, 0, none⟩) len cap) len (css.set k [.int .i64 ((p0 : Nat) : Int), .int .i64 ((p1 : Nat) : Int), .int .i64 l2]).flatten) := ⟨by have h7 := ownsRow_put (u := (.int .i64 ((p1 : Nat) : Int) : Value)) O1.out rfl HQ.out.2.2.2.1 HQ.out.1.lens rfl (i := 1) (by omega) rfl; exact h7⟩
      have D2 : Hd (Chg wr ((wr.setCell ⟨g, k * 3, none⟩ (.int .i64 ((p0 : Nat) : Int))).setCell ⟨g, k * 3 + 1, none⟩ (.int .i64 ((p1 : Nat) : Int))) (fun x => x = g ∨ Fs k x)) := ⟨D1.out.setCell (.inl rfl) _⟩
      clear O1 D1
      have O3 : Hd ((((wr.setCell ⟨g, k * 3, none⟩ (.int .i64 ((p0 : Nat) : Int))).setCell ⟨g, k * 3 + 1, none⟩ (.int .i64 ((p1 : Nat) : Int))).setCell ⟨g, k * 3 + 2, none⟩ (.int .i64 ((p2 : Nat) : Int))).ownsRow 0 89 3 (.slice (some ⟨g, 0, none⟩) len cap) len (css.set k [.int .i64 ((p0 : Nat) : Int), .int .i64 ((p1 : Nat) : Int), .int .i64 ((p2 : Nat) : Int)]).flatten) := ⟨by have h7 := ownsRow_put (u := (.int .i64 ((p2 : Nat) : Int) : Value)) O2.out rfl HQ.out.2.2.2.1 HQ.out.1.lens rfl (i := 2) (by omega) rfl; exact h7⟩
      have D3 : Hd (Chg wr (((wr.setCell ⟨g, k * 3, none⟩ (.int .i64 ((p0 : Nat) : Int))).setCell ⟨g, k * 3 + 1, none⟩ (.int .i64 ((p1 : Nat) : Int))).setCell ⟨g, k * 3 + 2, none⟩ (.int .i64 ((p2 : Nat) : Int))) (fun x => x = g ∨ Fs k x)) := ⟨D2.out.setCell (.inl rfl) _⟩
      clear O2 D2
      go_wp2_with fail
      rewrite [I0.out]
      rewrite [I1.out]
      rewrite [I2.out]
      have HE : OwMark (((wr.setCell ⟨g, k * 3, none⟩ (.int .i64 ((p0 : Nat) : Int))).setCell ⟨g, k * 3 + 1, none⟩ (.int .i64 ((p1 : Nat) : Int))).setCell ⟨g, k * 3 + 2, none⟩ (.int .i64 ((p2 : Nat) : Int))) [.int .i64 ((p0 : Nat) : Int), .int .i64 ((p1 : Nat) : Int), .int .i64 ((p2 : Nat) : Int)] (Fs k) (mkMark p0 (⟨l0, l1, l2⟩ : MarkD)) := by
        unfold mkMark
        try dsimp only
        rw [P1.out, P2.out]
        exact ⟨rfl, fun x h => ((HU.out.2 x).1 h).elim⟩
      have HP2 : Hd (∃ css, OwP 3 89 OwMark (((wr.setCell ⟨g, k * 3, none⟩ (.int .i64 ((p0 : Nat) : Int))).setCell ⟨g, k * 3 + 1, none⟩ (.int .i64 ((p1 : Nat) : Int))).setCell ⟨g, k * 3 + 2, none⟩ (.int .i64 ((p2 : Nat) : Int))) (.slice (some ⟨g, 0, none⟩) len cap) css Fs F (mixS mkMark ctMark m ls (k + 1)) ∧ Chg w (((wr.setCell ⟨g, k * 3, none⟩ (.int .i64 ((p0 : Nat) : Int))).setCell ⟨g, k * 3 + 1, none⟩ (.int .i64 ((p1 : Nat) : Int))).setCell ⟨g, k * 3 + 2, none⟩ (.int .i64 ((p2 : Nat) : Int))) F) := ⟨css.set k [.int .i64 ((p0 : Nat) : Int), .int .i64 ((p1 : Nat) : Int), .int .i64 ((p2 : Nat) : Int)], by
        rw [← HQ.out.2.2.2.2.2.2.1]
        exact HQ.out.1.upd owMark_ok (by rw [HQ.out.2.2.1]; exact hlt) (by rw [HQ.out.2.2.1]; exact O3.out) rfl HE (fun x hx h1 h2 => D3.out.block x (HQ.out.1.lt x hx) (fun h => h.elim (fun e => h1 (by rw [e]; rfl)) h2)) D3.out.size,
        HQ.out.2.1.trans (D3.out.mono (fun x hx => hx.elim (fun e => HQ.out.1.blk x (by rw [e]; rfl)) (fun h => (HQ.out.1.sub k x (by rw [HQ.out.2.2.1]; exact hlt) h).1)))⟩
      have HL1 : Hd (m + ctMarkS (ls.take (k + 1)) = p3) := ⟨HT.out.1⟩
      clear HE HQ HT HL HP1 O3 D3 P1 P2 P3 I0 I1 I2 HU
      go_wp2_with fail
      go_roundw
      case rel => exact ⟨k + 1, by omega, by go_num, p3, rfl, HL1, HP2⟩
      case measure => simp [intOf]; omega
    · have HF : Hd (p0 = R) := ⟨by have h1 := HL.out; rw [List.take_of_length_le (by have := HN.out.1; omega)] at h1; rw [← h1, ← HR.out]⟩
      have hkl : k = ls.length := by have := HN.out.1; omega
      have HO : Hd (OwMarkS wr [.slice (some ⟨g, 0, none⟩) len cap] F (mkMarkS m ls) ∧ Chg w wr F) := ⟨by
        obtain ⟨css, P, C⟩ := HP1.out
        rw [hkl, mixS_all] at P
        exact ⟨⟨_, css, Fs, rfl, P⟩, C⟩⟩
      clear HL HP1 hkl
      go_wp2
      go_ret
      exact ⟨by rw [← HF.out]; rfl, HO.out.1, HO.out.2⟩

end Go.Proofs.Ytlididoalekeoaa
/- A list of Mark that was marked: held. -/
namespace Go.Proofs.Ytlididoalekeoaa
set_option maxRecDepth 4000
open Go.RowKit

end Go.Proofs.Ytlididoalekeoaa
/- The marks of a Tab. -/
namespace Go.Proofs.Ytlididoalekeoaa
set_option maxRecDepth 4000
open Go.RowKit

def cuTab (a : TabD) : Nat := ctRowS (a.rows) + ctMarkS (a.marks)
def mtTab (m : Nat) (a : TabD) : TabD := (⟨mkRowS (m) (a.rows), a.phase, mkMarkS (m + ctRowS (a.rows)) (a.marks)⟩ : TabD)

set_option maxHeartbeats 4000000 in
theorem markTab_ow (cs : List Value) (F : Fp) (a : TabD) (m : Nat) (w : World) (h : OwTab w cs F a) (hs : m + cuTab a ≤ 1073741824) (hm : 0 < m) :
    Calls Try.prog 26 #[.agg cs.toArray, .int .i64 (m : Int)] w (MkOut OwTab cs F (mtTab m a) (m + cuTab a) w) := by
  obtain ⟨l0, l1, l2⟩ := a
  simp only [OwTab] at h
  obtain ⟨x0, m0, d0, x2, m2, d2, F0, F2, rfl, r0, r2, e0, hU⟩ := h
  have HM0 : Hd (0 < m) := ⟨hm⟩
  clear hm
  unfold cuTab mtTab
  unfold cuTab at hs
  dsimp only at hs ⊢
  have HU : Hd ((∀ x, F0 x → ¬ F2 x) ∧ (∀ x, F x ↔ F0 x ∨ F2 x)) := ⟨e0, hU⟩
  have HS : Hd (m + (ctRowS l0 + ctMarkS l2) ≤ 1073741824) := ⟨hs⟩
  have O0 : Hd (OwRowS w [.slice x0 m0 d0] F0 l0) := ⟨r0⟩
  have O2 : Hd (OwMarkS w [.slice x2 m2 d2] F2 l2) := ⟨r2⟩
  clear hs r0 r2 e0 hU
  go_enter Try.func26, Try.ntmps26
  go_wp2_with fail
  generalize hA : Obj.cells #[Value.slice x0 m0 d0, .int .i64 l1, .slice x2 m2 d2] 43 = A
  have h0 : Below w.heap.size w (w.alloc A) := below_lit w A
  refine (markRowS_ow x0 m0 d0 (m) l0 F0 _ (owRowS_ok.below O0.out h0) (by have := HS.out; omega) HM0.out).mono ?_
  rintro e w1 ⟨rfl, hO, hC⟩
  have C1 : Hd (Chg w w1 F) := ⟨(Chg.of_below h0).trans (hC.mono (fun x hx => (HU.out.2 x).2 (.inl hx)))⟩
  have K1 : Hd (w1.heap[w.heap.size]? = some (.cells #[Value.slice x0 m0 d0, .int .i64 l1, .slice x2 m2 d2] 43 (0, 0))) := ⟨by rw [hC.block w.heap.size (by simp) (fun hx => by have := owRowS_ok.lt O0.out _ hx; omega), ← hA]; subst hA; exact heap_alloc_new w _⟩
  have O0_1 : Hd (OwRowS w1 [.slice x0 m0 d0] F0 (mkRowS (m) l0)) := ⟨hO⟩
  have O2_1 : Hd (OwMarkS w1 [.slice x2 m2 d2] F2 (l2)) := ⟨owMarkS_ok.chg (owMarkS_ok.below O2.out h0) hC (fun x hx hy => HU.out.1 x hy hx)⟩
  clear hO hC h0
  clear hA
  have c2 := cellsA K1.out 2 rfl
  go_wp2_with fail
  clear c2
  refine (markMarkS_ow x2 m2 d2 (m + ctRowS l0) l2 F2 _ O2_1.out (by have := HS.out; omega)).mono ?_
  rintro e w2 ⟨rfl, hO, hC⟩
  have C2 : Hd (Chg w w2 F) := ⟨C1.out.trans (hC.mono (fun x hx => (HU.out.2 x).2 (.inr (hx))))⟩
  have K2 : Hd (w2.heap[w.heap.size]? = some (.cells #[Value.slice x0 m0 d0, .int .i64 l1, .slice x2 m2 d2] 43 (0, 0))) := ⟨(hC.block w.heap.size (lt_of_block K1.out) (fun hx => by have := owMarkS_ok.lt O2.out _ hx; omega)).trans K1.out⟩
  have O0_2 : Hd (OwRowS w2 [.slice x0 m0 d0] F0 (mkRowS (m) l0)) := ⟨owRowS_ok.chg O0_1.out hC (fun x hx hy => HU.out.1 x hx hy)⟩
  have O2_2 : Hd (OwMarkS w2 [.slice x2 m2 d2] F2 (mkMarkS (m + ctRowS l0) l2)) := ⟨hO⟩
  clear hO hC O0_1 O2_1 C1 K1
  go_wp2_with fail
  go_ret
  exact ⟨congrArg (fun z : Nat => Ending.returned (Value.int IntKind.i64 (z : Int))) (by omega), ⟨x0, m0, d0, x2, m2, d2, F0, F2, rfl, O0_2.out, O2_2.out, HU.out.1, HU.out.2⟩, C2.out⟩

end Go.Proofs.Ytlididoalekeoaa
