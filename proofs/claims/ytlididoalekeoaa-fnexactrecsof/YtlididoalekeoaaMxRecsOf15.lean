/- Parts of the proof, one behind the other. -/
import Derived.Test.YtlididoalekeoaaMxRecsOf11
import Derived.Test.YtlididoalekeoaaMxRecsOf13
import Derived.Test.YtlididoalekeoaaMxRecsOf14
/- The marks of a list of Rec. -/
namespace Go.Proofs.Ytlididoalekeoaa
set_option maxRecDepth 4000
open Go.RowKit

theorem owRec_flat {w : World} {cs : List Value} {F : Fp} {l0 : Int} {l1 : ByteArray} {l2 : Int} {l3 : List UInt8} {l4 : Int} {l5 : List UInt8} {l6 : Int} {l7 : Bool} {l8 : ByteArray} {l9 : Int} {l10 : Int} {l11 : Int} {l12 : Int} (h : OwRec w cs F (⟨l0, (⟨l1, l2, l3, l4, l5, l6, l7⟩ : RowD), l8, l9, l10, l11, l12⟩ : RecD)) : ∃ (x3 : Option Addr) (m3 d3 : Nat) (x5 : Option Addr) (m5 d5 : Nat) (G3 : Fp) (G5 : Fp), cs = [.int .i64 l0, .string l1, .int .i64 l2, .slice x3 m3 d3, .int .i64 l4, .slice x5 m5 d5, .int .i64 l6, .bool l7, .string l8, .int .i64 l9, .int .i64 l10, .int .i64 l11, .int .i64 l12] ∧ l1.size ≤ maxLen ∧ l8.size ≤ maxLen ∧ OwC w [.slice x3 m3 d3] G3 l3 ∧ OwC w [.slice x5 m5 d5] G5 l5 ∧ (∀ x, G3 x → ¬ G5 x) ∧ (∀ x, F x ↔ G3 x ∨ G5 x) := by
  obtain ⟨x3, m3, d3, x5, m5, d5, F1, rfl, hz8, r1, hF⟩ := h
  obtain ⟨_, _, _, _, _, _, G3, G5, e, hz1, c3, c5, hd, hU⟩ := owRow_flat r1
  simp only [List.cons.injEq, Value.slice.injEq, and_true, true_and] at e
  obtain ⟨⟨rfl, rfl, rfl⟩, rfl, rfl, rfl⟩ := e
  exact ⟨_, _, _, _, _, _, G3, G5, rfl, hz1, hz8, c3, c5, hd, fun x => (hF x).trans (hU x)⟩
theorem owRec_of {w : World} {cs : List Value} {F : Fp} {l0 : Int} {l1 : ByteArray} {l2 : Int} {l3 : List UInt8} {l4 : Int} {l5 : List UInt8} {l6 : Int} {l7 : Bool} {l8 : ByteArray} {l9 : Int} {l10 : Int} {l11 : Int} {l12 : Int} (h : ∃ (x3 : Option Addr) (m3 d3 : Nat) (x5 : Option Addr) (m5 d5 : Nat) (G3 : Fp) (G5 : Fp), cs = [.int .i64 l0, .string l1, .int .i64 l2, .slice x3 m3 d3, .int .i64 l4, .slice x5 m5 d5, .int .i64 l6, .bool l7, .string l8, .int .i64 l9, .int .i64 l10, .int .i64 l11, .int .i64 l12] ∧ l1.size ≤ maxLen ∧ l8.size ≤ maxLen ∧ OwC w [.slice x3 m3 d3] G3 l3 ∧ OwC w [.slice x5 m5 d5] G5 l5 ∧ (∀ x, G3 x → ¬ G5 x) ∧ (∀ x, F x ↔ G3 x ∨ G5 x)) : OwRec w cs F (⟨l0, (⟨l1, l2, l3, l4, l5, l6, l7⟩ : RowD), l8, l9, l10, l11, l12⟩ : RecD) := by
  obtain ⟨x3, m3, d3, x5, m5, d5, G3, G5, rfl, hz1, hz8, c3, c5, hd, hU⟩ := h
  exact ⟨_, _, _, _, _, _, F, rfl, hz8, owRow_of ⟨_, _, _, _, _, _, G3, G5, rfl, hz1, c3, c5, hd, hU⟩, fun x => Iff.rfl⟩
def mkRec (m : Nat) (a : RecD) : RecD := (⟨((m : Nat) : Int), (⟨markT (m + 1), ((m + 1 + 1 : Nat) : Int), mkB (m + 1 + 1 + 1) (a.r.b1), ((m + 1 + 1 + 1 + ctB (a.r.b1) : Nat) : Int), mkB (m + 1 + 1 + 1 + ctB (a.r.b1) + 1) (a.r.b2), ((m + 1 + 1 + 1 + ctB (a.r.b1) + 1 + ctB (a.r.b2) : Nat) : Int), decide ((m + 1 + 1 + 1 + ctB (a.r.b1) + 1 + ctB (a.r.b2) + 1) % 3 = 0)⟩ : RowD), markT (m + 1 + 1 + 1 + ctB (a.r.b1) + 1 + ctB (a.r.b2) + 1 + 1), ((m + 1 + 1 + 1 + ctB (a.r.b1) + 1 + ctB (a.r.b2) + 1 + 1 + 1 : Nat) : Int), ((m + 1 + 1 + 1 + ctB (a.r.b1) + 1 + ctB (a.r.b2) + 1 + 1 + 1 + 1 : Nat) : Int), ((m + 1 + 1 + 1 + ctB (a.r.b1) + 1 + ctB (a.r.b2) + 1 + 1 + 1 + 1 + 1 : Nat) : Int), ((m + 1 + 1 + 1 + ctB (a.r.b1) + 1 + ctB (a.r.b2) + 1 + 1 + 1 + 1 + 1 + 1 : Nat) : Int)⟩ : RecD)
abbrev ctRecS : List RecD → Nat := ctS ctRec
abbrev mkRecS (m : Nat) : List RecD → List RecD := mkS mkRec ctRec m

set_option maxHeartbeats 8000000 in
theorem markRecS_ow (ao : Option Addr) (len cap m : Nat) (ls : List RecD) (F : Fp) (w : World) (h : OwRecS w [.slice ao len cap] F ls) (hs : m + ctRecS ls ≤ 1073741824) (hm : 0 < m) :
    Calls Try.prog 27 #[.slice ao len cap, .int .i64 (m : Int)] w (MkOut OwRecS [.slice ao len cap] F (mkRecS m ls) (m + ctRecS ls) w) := by
  have h9 := h
  obtain ⟨v, css, Fs, e, P⟩ := h
  simp only [List.cons.injEq, and_true] at e
  subst e
  obtain ⟨a', c', e, hf⟩ := ownsRow_form P.own
  simp only [Value.slice.injEq] at e
  obtain ⟨rfl, hl, rfl⟩ := e
  by_cases hz : len = 0
  · obtain rfl : ls = [] := List.eq_nil_of_length_eq_zero (by omega)
    subst hz
    have H9 : Hd (OwRecS w [.slice ao 0 cap] F []) := ⟨h9⟩
    clear h9 P hf hl hs
    go_enter Try.func27, Try.ntmps27
    go_wp2_with fail
    refine wp_loop_rounds 1 ?_
    rewrite [rounds_succ]
    go_wp2_with fail
    go_ret
    exact ⟨rfl, H9.out, Chg.refl _ _⟩
  rcases hf with ⟨_, h0⟩ | ⟨g, rfl⟩
  · exact absurd (hl.trans h0) hz
  have HN : Hd (ls.length = len ∧ m + ctRecS ls ≤ 1073741824) := ⟨hl.symm, hs⟩
  have HM0 : Hd (0 < m) := ⟨hm⟩
  have hlen : len ≤ 9223372036854775807 := by have h7 := ownsRow_max P.own; unfold maxLen at h7; omega
  obtain ⟨R, hR⟩ : ∃ R, m + ctRecS ls = R := ⟨_, rfl⟩
  have HR : Hd (m + ctRecS ls = R) := ⟨hR⟩
  rw [hR]
  have HZ : Hd (m + ctRecS (ls.take 0) = m) := ⟨rfl⟩
  have HP : Hd (∃ css, OwP 13 86 OwRec w (.slice (some ⟨g, 0, none⟩) len cap) css Fs F (mixS mkRec ctRec m ls 0) ∧ Chg w w F) := ⟨css, by rw [mixS_zero]; exact P, Chg.refl _ _⟩
  clear h9 P hl hs hz hR css hm
  go_enter Try.func27, Try.ntmps27
  go_wp2
  go_loopw [1, 5] (fun q i wr => ∃ k : Nat, k ≤ len ∧ i = .int .i64 k ∧ ∃ l : Nat, q = .int .i64 (l : Int) ∧ Hd (m + ctRecS (ls.take k) = l) ∧ Hd (∃ css, OwP 13 86 OwRec wr (.slice (some ⟨g, 0, none⟩) len cap) css Fs F (mixS mkRec ctRec m ls k) ∧ Chg w wr F)) (fun _ i _ => len - (intOf i).toNat)
  case atStart => exact ⟨0, Nat.zero_le _, rfl, m, rfl, HZ, HP⟩
  case round =>
    obtain ⟨k, hk, rfl, p0, rfl, HL, HP1⟩ := hrel
    clear HZ HP
    by_cases hlt : k < len
    · have hlt' : (k : Int) < (len : Int) := by omega
      have h0 : (0 : Int) ≤ (k : Int) := by omega
      obtain ⟨a, ha⟩ := get_some (l := ls) (j := k) (by rw [HN.out.1]; exact hlt)
      obtain ⟨css, P, C⟩ := HP1.out
      have hml : (mixS mkRec ctRec m ls k).length = len := by rw [mixS_len _ _ _ _ (by have := HN.out.1; omega), HN.out.1]
      obtain ⟨c, hc, hcn, hE⟩ := P.cellsAt (mixS_get mkRec ctRec m ls ha)
      have HS : Hd (m + ctRecS (ls.take (k + 1)) = p0 + ctRec a ∧ p0 + ctRec a ≤ 1073741824) := ⟨by
        have h1 : ctRecS (ls.take (k + 1)) = ctRecS (ls.take k) + ctRec a := ctS_take_succ ctRec ha
        have h2 : ctRecS (ls.take (k + 1)) ≤ ctRecS ls := ctS_take_le ctRec ls (k + 1)
        have := HL.out; have := HN.out; omega⟩
      have hks : k < css.length := by rw [P.size, hml]; exact hlt
      have hcl : css.length = len := by rw [P.size, hml]
      have hown : wr.ownsRow 0 86 13 (.slice (some ⟨g, 0, none⟩) len cap) len (css.set k c).flatten := by rw [set_self hc, ← hml]; have := P.own; rw [hml] at this ⊢; exact this
      have hset : (mixS mkRec ctRec m ls k).set k (mkRec p0 a) = mixS mkRec ctRec m ls (k + 1) := by rw [← HL.out]; exact mixS_set mkRec ctRec m ls ha
      have hgF : ∀ x, Fs k x → x ≠ g := fun x hx e => (P.sub k x (by rw [hml]; exact hlt) hx).2 (by rw [e]; rfl)
      have HQ : Hd (OwP 13 86 OwRec wr (.slice (some ⟨g, 0, none⟩) len cap) css Fs F (mixS mkRec ctRec m ls k) ∧ Chg w wr F ∧ (mixS mkRec ctRec m ls k).length = len ∧ k < css.length ∧ css.length = len ∧ c.length = 13 ∧ (mixS mkRec ctRec m ls k).set k (mkRec p0 a) = mixS mkRec ctRec m ls (k + 1) ∧ ∀ x, Fs k x → x ≠ g) := ⟨P, C, hml, hks, hcl, hcn, hset, hgF⟩
      obtain ⟨l0, ⟨l1, l2, l3, l4, l5, l6, l7⟩, l8, l9, l10, l11, l12⟩ := a
      obtain ⟨x3, m3, d3, x5, m5, d5, G3, G5, rfl, hz1, hz8, r3, r5, e0, hU⟩ := owRec_flat hE
      have HU : Hd ((∀ x, G3 x → ¬ G5 x) ∧ ∀ x, Fs k x ↔ G3 x ∨ G5 x) := ⟨e0, hU⟩
      have O0 : Hd (wr.ownsRow 0 86 13 (.slice (some ⟨g, 0, none⟩) len cap) len (css.set k [.int .i64 l0, .string l1, .int .i64 l2, .slice x3 m3 d3, .int .i64 l4, .slice x5 m5 d5, .int .i64 l6, .bool l7, .string l8, .int .i64 l9, .int .i64 l10, .int .i64 l11, .int .i64 l12]).flatten) := ⟨hown⟩
      have S3_0 : Hd (OwC wr [.slice x3 m3 d3] G3 l3) := ⟨r3⟩
      have S5_0 : Hd (OwC wr [.slice x5 m5 d5] G5 l5) := ⟨r5⟩
      have D0 : Hd (Chg wr wr (fun x => x = g ∨ Fs k x)) := ⟨Chg.refl _ _⟩
      obtain ⟨p1, hp1⟩ : ∃ p : Nat, p0 + 1 = p := ⟨_, rfl⟩
      have P1 : Hd (p0 + 1 = p1) := ⟨hp1⟩
      obtain ⟨p2, hp2⟩ : ∃ p : Nat, p1 + 1 = p := ⟨_, rfl⟩
      have P2 : Hd (p1 + 1 = p2) := ⟨hp2⟩
      obtain ⟨p3, hp3⟩ : ∃ p : Nat, p2 + 1 = p := ⟨_, rfl⟩
      have P3 : Hd (p2 + 1 = p3) := ⟨hp3⟩
      obtain ⟨p4, hp4⟩ : ∃ p : Nat, p3 + ctB l3 = p := ⟨_, rfl⟩
      have P4 : Hd (p3 + ctB l3 = p4) := ⟨hp4⟩
      obtain ⟨p5, hp5⟩ : ∃ p : Nat, p4 + 1 = p := ⟨_, rfl⟩
      have P5 : Hd (p4 + 1 = p5) := ⟨hp5⟩
      obtain ⟨p6, hp6⟩ : ∃ p : Nat, p5 + ctB l5 = p := ⟨_, rfl⟩
      have P6 : Hd (p5 + ctB l5 = p6) := ⟨hp6⟩
      obtain ⟨p7, hp7⟩ : ∃ p : Nat, p6 + 1 = p := ⟨_, rfl⟩
      have P7 : Hd (p6 + 1 = p7) := ⟨hp7⟩
      obtain ⟨p8, hp8⟩ : ∃ p : Nat, p7 + 1 = p := ⟨_, rfl⟩
      have P8 : Hd (p7 + 1 = p8) := ⟨hp8⟩
      obtain ⟨p9, hp9⟩ : ∃ p : Nat, p8 + 1 = p := ⟨_, rfl⟩
      have P9 : Hd (p8 + 1 = p9) := ⟨hp9⟩
      obtain ⟨p10, hp10⟩ : ∃ p : Nat, p9 + 1 = p := ⟨_, rfl⟩
      have P10 : Hd (p9 + 1 = p10) := ⟨hp10⟩
      obtain ⟨p11, hp11⟩ : ∃ p : Nat, p10 + 1 = p := ⟨_, rfl⟩
      have P11 : Hd (p10 + 1 = p11) := ⟨hp11⟩
      obtain ⟨p12, hp12⟩ : ∃ p : Nat, p11 + 1 = p := ⟨_, rfl⟩
      have P12 : Hd (p11 + 1 = p12) := ⟨hp12⟩
      obtain ⟨p13, hp13⟩ : ∃ p : Nat, p12 + 1 = p := ⟨_, rfl⟩
      have P13 : Hd (p12 + 1 = p13) := ⟨hp13⟩
      have HS2 : Hd (m + ctRecS (ls.take (k + 1)) = p0 + 1 + 1 + 1 + ctB l3 + 1 + ctB l5 + 1 + 1 + 1 + 1 + 1 + 1 + 1 ∧ p0 + 1 + 1 + 1 + ctB l3 + 1 + ctB l5 + 1 + 1 + 1 + 1 + 1 + 1 + 1 ≤ 1073741824) := ⟨by have h7 := HS.out; unfold ctRec at h7; (try dsimp only at h7); omega⟩
      have HT : Hd (m + ctRecS (ls.take (k + 1)) = p13 ∧ p13 ≤ 1073741824) := ⟨by have := HS2.out; have := P1.out; have := P2.out; have := P3.out; have := P4.out; have := P5.out; have := P6.out; have := P7.out; have := P8.out; have := P9.out; have := P10.out; have := P11.out; have := P12.out; have := P13.out; omega⟩
      have HPos : Hd (0 < p0) := ⟨by have := HL.out; have := HM0.out; omega⟩
      have i0 : ((p0 : Nat) : Int) + 1 = ((p1 : Nat) : Int) := by have := P1.out; omega
      have I0 : Hd (((p0 : Nat) : Int) + 1 = ((p1 : Nat) : Int)) := ⟨i0⟩
      clear i0
      have j0 : ((p0 : Nat) : Int) + 1 ≤ 1073741824 := by have := HT.out.2; have := P1.out; have := P2.out; have := P3.out; have := P4.out; have := P5.out; have := P6.out; have := P7.out; have := P8.out; have := P9.out; have := P10.out; have := P11.out; have := P12.out; have := P13.out; omega
      have i1 : ((p1 : Nat) : Int) + 1 = ((p2 : Nat) : Int) := by have := P2.out; omega
      have I1 : Hd (((p1 : Nat) : Int) + 1 = ((p2 : Nat) : Int)) := ⟨i1⟩
      clear i1
      have j1 : ((p1 : Nat) : Int) + 1 ≤ 1073741824 := by have := HT.out.2; have := P2.out; have := P3.out; have := P4.out; have := P5.out; have := P6.out; have := P7.out; have := P8.out; have := P9.out; have := P10.out; have := P11.out; have := P12.out; have := P13.out; omega
      have i2 : ((p2 : Nat) : Int) + 1 = ((p3 : Nat) : Int) := by have := P3.out; omega
      have I2 : Hd (((p2 : Nat) : Int) + 1 = ((p3 : Nat) : Int)) := ⟨i2⟩
      clear i2
      have j2 : ((p2 : Nat) : Int) + 1 ≤ 1073741824 := by have := HT.out.2; have := P3.out; have := P4.out; have := P5.out; have := P6.out; have := P7.out; have := P8.out; have := P9.out; have := P10.out; have := P11.out; have := P12.out; have := P13.out; omega
      have i4 : ((p4 : Nat) : Int) + 1 = ((p5 : Nat) : Int) := by have := P5.out; omega
      have I4 : Hd (((p4 : Nat) : Int) + 1 = ((p5 : Nat) : Int)) := ⟨i4⟩
      clear i4
      have j4 : ((p4 : Nat) : Int) + 1 ≤ 1073741824 := by have := HT.out.2; have := P5.out; have := P6.out; have := P7.out; have := P8.out; have := P9.out; have := P10.out; have := P11.out; have := P12.out; have := P13.out; omega
      have i6 : ((p6 : Nat) : Int) + 1 = ((p7 : Nat) : Int) := by have := P7.out; omega
      have I6 : Hd (((p6 : Nat) : Int) + 1 = ((p7 : Nat) : Int)) := ⟨i6⟩
      clear i6
      have j6 : ((p6 : Nat) : Int) + 1 ≤ 1073741824 := by have := HT.out.2; have := P7.out; have := P8.out; have := P9.out; have := P10.out; have := P11.out; have := P12.out; have := P13.out; omega
      have i7 : ((p7 : Nat) : Int) + 1 = ((p8 : Nat) : Int) := by have := P8.out; omega
      have I7 : Hd (((p7 : Nat) : Int) + 1 = ((p8 : Nat) : Int)) := ⟨i7⟩
      clear i7
      have j7 : ((p7 : Nat) : Int) + 1 ≤ 1073741824 := by have := HT.out.2; have := P8.out; have := P9.out; have := P10.out; have := P11.out; have := P12.out; have := P13.out; omega
      have i8 : ((p8 : Nat) : Int) + 1 = ((p9 : Nat) : Int) := by have := P9.out; omega
      have I8 : Hd (((p8 : Nat) : Int) + 1 = ((p9 : Nat) : Int)) := ⟨i8⟩
      clear i8
      have j8 : ((p8 : Nat) : Int) + 1 ≤ 1073741824 := by have := HT.out.2; have := P9.out; have := P10.out; have := P11.out; have := P12.out; have := P13.out; omega
      have i9 : ((p9 : Nat) : Int) + 1 = ((p10 : Nat) : Int) := by have := P10.out; omega
      have I9 : Hd (((p9 : Nat) : Int) + 1 = ((p10 : Nat) : Int)) := ⟨i9⟩
      clear i9
      have j9 : ((p9 : Nat) : Int) + 1 ≤ 1073741824 := by have := HT.out.2; have := P10.out; have := P11.out; have := P12.out; have := P13.out; omega
      have i10 : ((p10 : Nat) : Int) + 1 = ((p11 : Nat) : Int) := by have := P11.out; omega
      have I10 : Hd (((p10 : Nat) : Int) + 1 = ((p11 : Nat) : Int)) := ⟨i10⟩
      clear i10
      have j10 : ((p10 : Nat) : Int) + 1 ≤ 1073741824 := by have := HT.out.2; have := P11.out; have := P12.out; have := P13.out; omega
      have i11 : ((p11 : Nat) : Int) + 1 = ((p12 : Nat) : Int) := by have := P12.out; omega
      have I11 : Hd (((p11 : Nat) : Int) + 1 = ((p12 : Nat) : Int)) := ⟨i11⟩
      clear i11
      have j11 : ((p11 : Nat) : Int) + 1 ≤ 1073741824 := by have := HT.out.2; have := P12.out; have := P13.out; omega
      have i12 : ((p12 : Nat) : Int) + 1 = ((p13 : Nat) : Int) := by have := P13.out; omega
      have I12 : Hd (((p12 : Nat) : Int) + 1 = ((p13 : Nat) : Int)) := ⟨i12⟩
      clear i12
      have j12 : ((p12 : Nat) : Int) + 1 ≤ 1073741824 := by have := HT.out.2; have := P13.out; omega
      clear HS HS2 P C hc hcn hown hset hgF hks hcl hml ha hE hU hp1 hp2 hp3 hp4 hp5 hp6 hp7 hp8 hp9 hp10 hp11 hp12 hp13 r3 r5 e0 hz1 hz8
      have t0 := ownsRow_cell O0.out rfl HQ.out.2.2.2.1 HQ.out.2.2.2.2.1 HQ.out.1.lens rfl (i := 0) rfl
      have f0 := ownsRow_free O0.out rfl (k * 13)
      simp only [Nat.add_zero] at t0
      have O1 : Hd ((wr.setCell ⟨g, k * 13, none⟩ (.int .i64 ((p0 : Nat) : Int))).ownsRow 0 86 13 (.slice (some ⟨g, 0, none⟩) len cap) len (css.set k [.int .i64 ((p0 : Nat) : Int), .string l1, .int .i64 l2, .slice x3 m3 d3, .int .i64 l4, .slice x5 m5 d5, .int .i64 l6, .bool l7, .string l8, .int .i64 l9, .int .i64 l10, .int .i64 l11, .int .i64 l12]).flatten) := ⟨by have h7 := ownsRow_put (u := (.int .i64 ((p0 : Nat) : Int) : Value)) O0.out rfl HQ.out.2.2.2.1 HQ.out.1.lens rfl (i := 0) (by omega) rfl; simp only [Nat.add_zero] at h7; exact h7⟩
      have D1 : Hd (Chg wr (wr.setCell ⟨g, k * 13, none⟩ (.int .i64 ((p0 : Nat) : Int))) (fun x => x = g ∨ Fs k x)) := ⟨D0.out.setCell (.inl rfl) _⟩
      have S3_1 : Hd (OwC (wr.setCell ⟨g, k * 13, none⟩ (.int .i64 ((p0 : Nat) : Int))) [.slice x3 m3 d3] G3 (l3)) := ⟨owC_ok.keep S3_0.out (fun b hb => heap_setCell_other _ _ _ _ (HQ.out.2.2.2.2.2.2.2 b (by have hx := hb; exact (HU.out.2 b).2 (.inl hx))))⟩
      have S5_1 : Hd (OwC (wr.setCell ⟨g, k * 13, none⟩ (.int .i64 ((p0 : Nat) : Int))) [.slice x5 m5 d5] G5 (l5)) := ⟨owC_ok.keep S5_0.out (fun b hb => heap_setCell_other _ _ _ _ (HQ.out.2.2.2.2.2.2.2 b (by have hx := hb; exact (HU.out.2 b).2 (.inr (hx)))))⟩
      clear O0 D0 S3_0 S5_0
      go_wp2_with fail
      rewrite [I0.out]
      refine (markText_any p1 _ (by have := HPos.out; have := P1.out; omega) (by have := HT.out.2; have := P2.out; have := P3.out; have := P4.out; have := P5.out; have := P6.out; have := P7.out; have := P8.out; have := P9.out; have := P10.out; have := P11.out; have := P12.out; have := P13.out; omega)).mono ?_
      rintro e v1 ⟨rfl, hB⟩
      have O2 : Hd (v1.ownsRow 0 86 13 (.slice (some ⟨g, 0, none⟩) len cap) len (css.set k [.int .i64 ((p0 : Nat) : Int), .string l1, .int .i64 l2, .slice x3 m3 d3, .int .i64 l4, .slice x5 m5 d5, .int .i64 l6, .bool l7, .string l8, .int .i64 l9, .int .i64 l10, .int .i64 l11, .int .i64 l12]).flatten) := ⟨ownsRow_keep O1.out (fun b hb => hB.block b (by have h7 := (O1.out.lt b hb).2; exact h7))⟩
      have D2 : Hd (Chg wr v1 (fun x => x = g ∨ Fs k x)) := ⟨D1.out.trans (Chg.of_below hB)⟩
      have S3_2 : Hd (OwC v1 [.slice x3 m3 d3] G3 (l3)) := ⟨owC_ok.below S3_1.out hB⟩
      have S5_2 : Hd (OwC v1 [.slice x5 m5 d5] G5 (l5)) := ⟨owC_ok.below S5_1.out hB⟩
      clear hB O1 D1 S3_1 S5_1 t0 f0 j0
      have u3 := ownsRow_cell O2.out rfl HQ.out.2.2.2.1 HQ.out.2.2.2.2.1 HQ.out.1.lens rfl (i := 3) rfl
      have t1 := ownsRow_cell O2.out rfl HQ.out.2.2.2.1 HQ.out.2.2.2.2.1 HQ.out.1.lens rfl (i := 1) rfl
      have f1 := ownsRow_free O2.out rfl (k * 13 + 1)
      have t2 := ownsRow_cell O2.out rfl HQ.out.2.2.2.1 HQ.out.2.2.2.2.1 HQ.out.1.lens rfl (i := 2) rfl
      have f2 := ownsRow_free O2.out rfl (k * 13 + 2)
      have O3 : Hd ((v1.setCell ⟨g, k * 13 + 1, none⟩ (.string (markT p1))).ownsRow 0 86 13 (.slice (some ⟨g, 0, none⟩) len cap) len (css.set k [.int .i64 ((p0 : Nat) : Int), .string (markT p1), .int .i64 l2, .slice x3 m3 d3, .int .i64 l4, .slice x5 m5 d5, .int .i64 l6, .bool l7, .string l8, .int .i64 l9, .int .i64 l10, .int .i64 l11, .int .i64 l12]).flatten) := ⟨by have h7 := ownsRow_put (u := (.string (markT p1) : Value)) O2.out rfl HQ.out.2.2.2.1 HQ.out.1.lens rfl (i := 1) (by omega) rfl; exact h7⟩
      have D3 : Hd (Chg wr (v1.setCell ⟨g, k * 13 + 1, none⟩ (.string (markT p1))) (fun x => x = g ∨ Fs k x)) := ⟨D2.out.setCell (.inl rfl) _⟩
      have S3_3 : Hd (OwC (v1.setCell ⟨g, k * 13 + 1, none⟩ (.string (markT p1))) [.slice x3 m3 d3] G3 (l3)) := ⟨owC_ok.keep S3_2.out (fun b hb => heap_setCell_other _ _ _ _ (HQ.out.2.2.2.2.2.2.2 b (by have hx := hb; exact (HU.out.2 b).2 (.inl hx))))⟩
      have S5_3 : Hd (OwC (v1.setCell ⟨g, k * 13 + 1, none⟩ (.string (markT p1))) [.slice x5 m5 d5] G5 (l5)) := ⟨owC_ok.keep S5_2.out (fun b hb => heap_setCell_other _ _ _ _ (HQ.out.2.2.2.2.2.2.2 b (by have hx := hb; exact (HU.out.2 b).2 (.inr (hx)))))⟩
      clear O2 D2 S3_2 S5_2
      have O4 : Hd (((v1.setCell ⟨g, k * 13 + 1, none⟩ (.string (markT p1))).setCell ⟨g, k * 13 + 2, none⟩ (.int .i64 ((p2 : Nat) : Int))).ownsRow 0 86 13 (.slice (some ⟨g, 0, none⟩) len cap) len (css.set k [.int .i64 ((p0 : Nat) : Int), .string (markT p1), .int .i64 ((p2 : Nat) : Int), .slice x3 m3 d3, .int .i64 l4, .slice x5 m5 d5, .int .i64 l6, .bool l7, .string l8, .int .i64 l9, .int .i64 l10, .int .i64 l11, .int .i64 l12]).flatten) := ⟨by have h7 := ownsRow_put (u := (.int .i64 ((p2 : Nat) : Int) : Value)) O3.out rfl HQ.out.2.2.2.1 HQ.out.1.lens rfl (i := 2) (by omega) rfl; exact h7⟩
      have D4 : Hd (Chg wr ((v1.setCell ⟨g, k * 13 + 1, none⟩ (.string (markT p1))).setCell ⟨g, k * 13 + 2, none⟩ (.int .i64 ((p2 : Nat) : Int))) (fun x => x = g ∨ Fs k x)) := ⟨D3.out.setCell (.inl rfl) _⟩
      have S3_4 : Hd (OwC ((v1.setCell ⟨g, k * 13 + 1, none⟩ (.string (markT p1))).setCell ⟨g, k * 13 + 2, none⟩ (.int .i64 ((p2 : Nat) : Int))) [.slice x3 m3 d3] G3 (l3)) := ⟨owC_ok.keep S3_3.out (fun b hb => heap_setCell_other _ _ _ _ (HQ.out.2.2.2.2.2.2.2 b (by have hx := hb; exact (HU.out.2 b).2 (.inl hx))))⟩
      have S5_4 : Hd (OwC ((v1.setCell ⟨g, k * 13 + 1, none⟩ (.string (markT p1))).setCell ⟨g, k * 13 + 2, none⟩ (.int .i64 ((p2 : Nat) : Int))) [.slice x5 m5 d5] G5 (l5)) := ⟨owC_ok.keep S5_3.out (fun b hb => heap_setCell_other _ _ _ _ (HQ.out.2.2.2.2.2.2.2 b (by have hx := hb; exact (HU.out.2 b).2 (.inr (hx)))))⟩
      clear O3 D3 S3_3 S5_3
      go_wp2_with fail
      rewrite [I1.out]
      rewrite [I2.out]
      refine (markByteS_oc x3 m3 d3 p3 l3 G3 _ S3_4.out (by have := HT.out.2; have := P4.out; have := P5.out; have := P6.out; have := P7.out; have := P8.out; have := P9.out; have := P10.out; have := P11.out; have := P12.out; have := P13.out; omega)).mono ?_
      rintro e v2 ⟨rfl, hO, hC⟩
      rewrite [show p3 + ctB l3 = p4 from P4.out]
      have O5 : Hd (v2.ownsRow 0 86 13 (.slice (some ⟨g, 0, none⟩) len cap) len (css.set k [.int .i64 ((p0 : Nat) : Int), .string (markT p1), .int .i64 ((p2 : Nat) : Int), .slice x3 m3 d3, .int .i64 l4, .slice x5 m5 d5, .int .i64 l6, .bool l7, .string l8, .int .i64 l9, .int .i64 l10, .int .i64 l11, .int .i64 l12]).flatten) := ⟨ownsRow_keep O4.out (fun b hb => hC.block b (by have h7 := (O4.out.lt b hb).2; exact h7) (fun hx => by simp [Value.ownBlock] at hb; exact HQ.out.2.2.2.2.2.2.2 b ((HU.out.2 b).2 (.inl hx)) hb.symm))⟩
      have D5 : Hd (Chg wr v2 (fun x => x = g ∨ Fs k x)) := ⟨D4.out.trans (hC.mono (fun x hx => .inr ((HU.out.2 x).2 (.inl hx))))⟩
      have S3_5 : Hd (OwC v2 [.slice x3 m3 d3] G3 (mkB p3 l3)) := ⟨hO⟩
      have S5_5 : Hd (OwC v2 [.slice x5 m5 d5] G5 (l5)) := ⟨owC_ok.chg S5_4.out hC (fun x hx hy => HU.out.1 x hy hx)⟩
      clear hO hC u3 O4 D4 S3_4 S5_4 t1 f1 j1 t2 f2 j2
      have u5 := ownsRow_cell O5.out rfl HQ.out.2.2.2.1 HQ.out.2.2.2.2.1 HQ.out.1.lens rfl (i := 5) rfl
      have t4 := ownsRow_cell O5.out rfl HQ.out.2.2.2.1 HQ.out.2.2.2.2.1 HQ.out.1.lens rfl (i := 4) rfl
      have f4 := ownsRow_free O5.out rfl (k * 13 + 4)
      have O6 : Hd ((v2.setCell ⟨g, k * 13 + 4, none⟩ (.int .i64 ((p4 : Nat) : Int))).ownsRow 0 86 13 (.slice (some ⟨g, 0, none⟩) len cap) len (css.set k [.int .i64 ((p0 : Nat) : Int), .string (markT p1), .int .i64 ((p2 : Nat) : Int), .slice x3 m3 d3, .int .i64 ((p4 : Nat) : Int), .slice x5 m5 d5, .int .i64 l6, .bool l7, .string l8, .int .i64 l9, .int .i64 l10, .int .i64 l11, .int .i64 l12]).flatten) := ⟨by have h7 := ownsRow_put (u := (.int .i64 ((p4 : Nat) : Int) : Value)) O5.out rfl HQ.out.2.2.2.1 HQ.out.1.lens rfl (i := 4) (by omega) rfl; exact h7⟩
      have D6 : Hd (Chg wr (v2.setCell ⟨g, k * 13 + 4, none⟩ (.int .i64 ((p4 : Nat) : Int))) (fun x => x = g ∨ Fs k x)) := ⟨D5.out.setCell (.inl rfl) _⟩
      have S3_6 : Hd (OwC (v2.setCell ⟨g, k * 13 + 4, none⟩ (.int .i64 ((p4 : Nat) : Int))) [.slice x3 m3 d3] G3 (mkB p3 l3)) := ⟨owC_ok.keep S3_5.out (fun b hb => heap_setCell_other _ _ _ _ (HQ.out.2.2.2.2.2.2.2 b (by have hx := hb; exact (HU.out.2 b).2 (.inl hx))))⟩
      have S5_6 : Hd (OwC (v2.setCell ⟨g, k * 13 + 4, none⟩ (.int .i64 ((p4 : Nat) : Int))) [.slice x5 m5 d5] G5 (l5)) := ⟨owC_ok.keep S5_5.out (fun b hb => heap_setCell_other _ _ _ _ (HQ.out.2.2.2.2.2.2.2 b (by have hx := hb; exact (HU.out.2 b).2 (.inr (hx)))))⟩
      clear O5 D5 S3_5 S5_5
      go_wp2_with fail
      rewrite [I4.out]
      refine (markByteS_oc x5 m5 d5 p5 l5 G5 _ S5_6.out (by have := HT.out.2; have := P6.out; have := P7.out; have := P8.out; have := P9.out; have := P10.out; have := P11.out; have := P12.out; have := P13.out; omega)).mono ?_
      rintro e v3 ⟨rfl, hO, hC⟩
      rewrite [show p5 + ctB l5 = p6 from P6.out]
      have O7 : Hd (v3.ownsRow 0 86 13 (.slice (some ⟨g, 0, none⟩) len cap) len (css.set k [.int .i64 ((p0 : Nat) : Int), .string (markT p1), .int .i64 ((p2 : Nat) : Int), .slice x3 m3 d3, .int .i64 ((p4 : Nat) : Int), .slice x5 m5 d5, .int .i64 l6, .bool l7, .string l8, .int .i64 l9, .int .i64 l10, .int .i64 l11, .int .i64 l12]).flatten) := ⟨ownsRow_keep O6.out (fun b hb => hC.block b (by have h7 := (O6.out.lt b hb).2; exact h7) (fun hx => by simp [Value.ownBlock] at hb; exact HQ.out.2.2.2.2.2.2.2 b ((HU.out.2 b).2 (.inr (hx))) hb.symm))⟩
      have D7 : Hd (Chg wr v3 (fun x => x = g ∨ Fs k x)) := ⟨D6.out.trans (hC.mono (fun x hx => .inr ((HU.out.2 x).2 (.inr (hx)))))⟩
      have S3_7 : Hd (OwC v3 [.slice x3 m3 d3] G3 (mkB p3 l3)) := ⟨owC_ok.chg S3_6.out hC (fun x hx hy => HU.out.1 x hx hy)⟩
      have S5_7 : Hd (OwC v3 [.slice x5 m5 d5] G5 (mkB p5 l5)) := ⟨hO⟩
      clear hO hC u5 O6 D6 S3_6 S5_6 t4 f4 j4
      have t6 := ownsRow_cell O7.out rfl HQ.out.2.2.2.1 HQ.out.2.2.2.2.1 HQ.out.1.lens rfl (i := 6) rfl
      have f6 := ownsRow_free O7.out rfl (k * 13 + 6)
      have t7 := ownsRow_cell O7.out rfl HQ.out.2.2.2.1 HQ.out.2.2.2.2.1 HQ.out.1.lens rfl (i := 7) rfl
      have f7 := ownsRow_free O7.out rfl (k * 13 + 7)
      have O8 : Hd ((v3.setCell ⟨g, k * 13 + 6, none⟩ (.int .i64 ((p6 : Nat) : Int))).ownsRow 0 86 13 (.slice (some ⟨g, 0, none⟩) len cap) len (css.set k [.int .i64 ((p0 : Nat) : Int), .string (markT p1), .int .i64 ((p2 : Nat) : Int), .slice x3 m3 d3, .int .i64 ((p4 : Nat) : Int), .slice x5 m5 d5, .int .i64 ((p6 : Nat) : Int), .bool l7, .string l8, .int .i64 l9, .int .i64 l10, .int .i64 l11, .int .i64 l12]).flatten) := ⟨by have h7 := ownsRow_put (u := (.int .i64 ((p6 : Nat) : Int) : Value)) O7.out rfl HQ.out.2.2.2.1 HQ.out.1.lens rfl (i := 6) (by omega) rfl; exact h7⟩
      have D8 : Hd (Chg wr (v3.setCell ⟨g, k * 13 + 6, none⟩ (.int .i64 ((p6 : Nat) : Int))) (fun x => x = g ∨ Fs k x)) := ⟨D7.out.setCell (.inl rfl) _⟩
      have S3_8 : Hd (OwC (v3.setCell ⟨g, k * 13 + 6, none⟩ (.int .i64 ((p6 : Nat) : Int))) [.slice x3 m3 d3] G3 (mkB p3 l3)) := ⟨owC_ok.keep S3_7.out (fun b hb => heap_setCell_other _ _ _ _ (HQ.out.2.2.2.2.2.2.2 b (by have hx := hb; exact (HU.out.2 b).2 (.inl hx))))⟩
      have S5_8 : Hd (OwC (v3.setCell ⟨g, k * 13 + 6, none⟩ (.int .i64 ((p6 : Nat) : Int))) [.slice x5 m5 d5] G5 (mkB p5 l5)) := ⟨owC_ok.keep S5_7.out (fun b hb => heap_setCell_other _ _ _ _ (HQ.out.2.2.2.2.2.2.2 b (by have hx := hb; exact (HU.out.2 b).2 (.inr (hx)))))⟩
      clear O7 D7 S3_7 S5_7
      have O9 : Hd (((v3.setCell ⟨g, k * 13 + 6, none⟩ (.int .i64 ((p6 : Nat) : Int))).setCell ⟨g, k * 13 + 7, none⟩ (.bool (decide (p7 % 3 = 0)))).ownsRow 0 86 13 (.slice (some ⟨g, 0, none⟩) len cap) len (css.set k [.int .i64 ((p0 : Nat) : Int), .string (markT p1), .int .i64 ((p2 : Nat) : Int), .slice x3 m3 d3, .int .i64 ((p4 : Nat) : Int), .slice x5 m5 d5, .int .i64 ((p6 : Nat) : Int), .bool (decide (p7 % 3 = 0)), .string l8, .int .i64 l9, .int .i64 l10, .int .i64 l11, .int .i64 l12]).flatten) := ⟨by have h7 := ownsRow_put (u := (.bool (decide (p7 % 3 = 0)) : Value)) O8.out rfl HQ.out.2.2.2.1 HQ.out.1.lens rfl (i := 7) (by omega) rfl; exact h7⟩
      have D9 : Hd (Chg wr ((v3.setCell ⟨g, k * 13 + 6, none⟩ (.int .i64 ((p6 : Nat) : Int))).setCell ⟨g, k * 13 + 7, none⟩ (.bool (decide (p7 % 3 = 0)))) (fun x => x = g ∨ Fs k x)) := ⟨D8.out.setCell (.inl rfl) _⟩
      have S3_9 : Hd (OwC ((v3.setCell ⟨g, k * 13 + 6, none⟩ (.int .i64 ((p6 : Nat) : Int))).setCell ⟨g, k * 13 + 7, none⟩ (.bool (decide (p7 % 3 = 0)))) [.slice x3 m3 d3] G3 (mkB p3 l3)) := ⟨owC_ok.keep S3_8.out (fun b hb => heap_setCell_other _ _ _ _ (HQ.out.2.2.2.2.2.2.2 b (by have hx := hb; exact (HU.out.2 b).2 (.inl hx))))⟩
      have S5_9 : Hd (OwC ((v3.setCell ⟨g, k * 13 + 6, none⟩ (.int .i64 ((p6 : Nat) : Int))).setCell ⟨g, k * 13 + 7, none⟩ (.bool (decide (p7 % 3 = 0)))) [.slice x5 m5 d5] G5 (mkB p5 l5)) := ⟨owC_ok.keep S5_8.out (fun b hb => heap_setCell_other _ _ _ _ (HQ.out.2.2.2.2.2.2.2 b (by have hx := hb; exact (HU.out.2 b).2 (.inr (hx)))))⟩
      clear O8 D8 S3_8 S5_8
      have HB7 : Hd (((((p7 : Nat) : Int) % 3 == 0) : Bool) = decide (p7 % 3 = 0)) := ⟨by by_cases hx : p7 % 3 = 0 <;> simp [hx] <;> omega⟩
      go_wp2_with fail
      rewrite [I6.out]
      rewrite [I7.out]
      rewrite [HB7.out]
      clear HB7
      refine (markText_any p8 _ (by have := HPos.out; have := P1.out; have := P2.out; have := P3.out; have := P4.out; have := P5.out; have := P6.out; have := P7.out; have := P8.out; omega) (by have := HT.out.2; have := P9.out; have := P10.out; have := P11.out; have := P12.out; have := P13.out; omega)).mono ?_
      rintro e v4 ⟨rfl, hB⟩
      have O10 : Hd (v4.ownsRow 0 86 13 (.slice (some ⟨g, 0, none⟩) len cap) len (css.set k [.int .i64 ((p0 : Nat) : Int), .string (markT p1), .int .i64 ((p2 : Nat) : Int), .slice x3 m3 d3, .int .i64 ((p4 : Nat) : Int), .slice x5 m5 d5, .int .i64 ((p6 : Nat) : Int), .bool (decide (p7 % 3 = 0)), .string l8, .int .i64 l9, .int .i64 l10, .int .i64 l11, .int .i64 l12]).flatten) := ⟨ownsRow_keep O9.out (fun b hb => hB.block b (by have h7 := (O9.out.lt b hb).2; exact h7))⟩
      have D10 : Hd (Chg wr v4 (fun x => x = g ∨ Fs k x)) := ⟨D9.out.trans (Chg.of_below hB)⟩
      have S3_10 : Hd (OwC v4 [.slice x3 m3 d3] G3 (mkB p3 l3)) := ⟨owC_ok.below S3_9.out hB⟩
      have S5_10 : Hd (OwC v4 [.slice x5 m5 d5] G5 (mkB p5 l5)) := ⟨owC_ok.below S5_9.out hB⟩
      clear hB O9 D9 S3_9 S5_9 t6 f6 j6 t7 f7 j7
      have t8 := ownsRow_cell O10.out rfl HQ.out.2.2.2.1 HQ.out.2.2.2.2.1 HQ.out.1.lens rfl (i := 8) rfl
      have f8 := ownsRow_free O10.out rfl (k * 13 + 8)
      have t9 := ownsRow_cell O10.out rfl HQ.out.2.2.2.1 HQ.out.2.2.2.2.1 HQ.out.1.lens rfl (i := 9) rfl
      have f9 := ownsRow_free O10.out rfl (k * 13 + 9)
      have t10 := ownsRow_cell O10.out rfl HQ.out.2.2.2.1 HQ.out.2.2.2.2.1 HQ.out.1.lens rfl (i := 10) rfl
      have f10 := ownsRow_free O10.out rfl (k * 13 + 10)
      have t11 := ownsRow_cell O10.out rfl HQ.out.2.2.2.1 HQ.out.2.2.2.2.1 HQ.out.1.lens rfl (i := 11) rfl
      have f11 := ownsRow_free O10.out rfl (k * 13 + 11)
      have t12 := ownsRow_cell O10.out rfl HQ.out.2.2.2.1 HQ.out.2.2.2.2.1 HQ.out.1.lens rfl (i := 12) rfl
      have f12 := ownsRow_free O10.out rfl (k * 13 + 12)
      have O11 : Hd ((v4.setCell ⟨g, k * 13 + 8, none⟩ (.string (markT p8))).ownsRow 0 86 13 (.slice (some ⟨g, 0, none⟩) len cap) len (css.set k [.int .i64 ((p0 : Nat) : Int), .string (markT p1), .int .i64 ((p2 : Nat) : Int), .slice x3 m3 d3, .int .i64 ((p4 : Nat) : Int), .slice x5 m5 d5, .int .i64 ((p6 : Nat) : Int), .bool (decide (p7 % 3 = 0)), .string (markT p8), .int .i64 l9, .int .i64 l10, .int .i64 l11, .int .i64 l12]).flatten) := ⟨by have h7 := ownsRow_put (u := (.string (markT p8) : Value)) O10.out rfl HQ.out.2.2.2.1 HQ.out.1.lens rfl (i := 8) (by omega) rfl; exact h7⟩
      have D11 : Hd (Chg wr (v4.setCell ⟨g, k * 13 + 8, none⟩ (.string (markT p8))) (fun x => x = g ∨ Fs k x)) := ⟨D10.out.setCell (.inl rfl) _⟩
      have S3_11 : Hd (OwC (v4.setCell ⟨g, k * 13 + 8, none⟩ (.string (markT p8))) [.slice x3 m3 d3] G3 (mkB p3 l3)) := ⟨owC_ok.keep S3_10.out (fun b hb => heap_setCell_other _ _ _ _ (HQ.out.2.2.2.2.2.2.2 b (by have hx := hb; exact (HU.out.2 b).2 (.inl hx))))⟩
      have S5_11 : Hd (OwC (v4.setCell ⟨g, k * 13 + 8, none⟩ (.string (markT p8))) [.slice x5 m5 d5] G5 (mkB p5 l5)) := ⟨owC_ok.keep S5_10.out (fun b hb => heap_setCell_other _ _ _ _ (HQ.out.2.2.2.2.2.2.2 b (by have hx := hb; exact (HU.out.2 b).2 (.inr (hx)))))⟩
      clear O10 D10 S3_10 S5_10
      have O12 : Hd (((v4.setCell ⟨g, k * 13 + 8, none⟩ (.string (markT p8))).setCell ⟨g, k * 13 + 9, none⟩ (.int .i64 ((p9 : Nat) : Int))).ownsRow 0 86 13 (.slice (some ⟨g, 0, none⟩) len cap) len (css.set k [.int .i64 ((p0 : Nat) : Int), .string (markT p1), .int .i64 ((p2 : Nat) : Int), .slice x3 m3 d3, .int .i64 ((p4 : Nat) : Int), .slice x5 m5 d5, .int .i64 ((p6 : Nat) : Int), .bool (decide (p7 % 3 = 0)), .string (markT p8), .int .i64 ((p9 : Nat) : Int), .int .i64 l10, .int .i64 l11, .int .i64 l12]).flatten) := ⟨by have h7 := ownsRow_put (u := (.int .i64 ((p9 : Nat) : Int) : Value)) O11.out rfl HQ.out.2.2.2.1 HQ.out.1.lens rfl (i := 9) (by omega) rfl; exact h7⟩
      have D12 : Hd (Chg wr ((v4.setCell ⟨g, k * 13 + 8, none⟩ (.string (markT p8))).setCell ⟨g, k * 13 + 9, none⟩ (.int .i64 ((p9 : Nat) : Int))) (fun x => x = g ∨ Fs k x)) := ⟨D11.out.setCell (.inl rfl) _⟩
      have S3_12 : Hd (OwC ((v4.setCell ⟨g, k * 13 + 8, none⟩ (.string (markT p8))).setCell ⟨g, k * 13 + 9, none⟩ (.int .i64 ((p9 : Nat) : Int))) [.slice x3 m3 d3] G3 (mkB p3 l3)) := ⟨owC_ok.keep S3_11.out (fun b hb => heap_setCell_other _ _ _ _ (HQ.out.2.2.2.2.2.2.2 b (by have hx := hb; exact (HU.out.2 b).2 (.inl hx))))⟩
      have S5_12 : Hd (OwC ((v4.setCell ⟨g, k * 13 + 8, none⟩ (.string (markT p8))).setCell ⟨g, k * 13 + 9, none⟩ (.int .i64 ((p9 : Nat) : Int))) [.slice x5 m5 d5] G5 (mkB p5 l5)) := ⟨owC_ok.keep S5_11.out (fun b hb => heap_setCell_other _ _ _ _ (HQ.out.2.2.2.2.2.2.2 b (by have hx := hb; exact (HU.out.2 b).2 (.inr (hx)))))⟩
      clear O11 D11 S3_11 S5_11
      have O13 : Hd ((((v4.setCell ⟨g, k * 13 + 8, none⟩ (.string (markT p8))).setCell ⟨g, k * 13 + 9, none⟩ (.int .i64 ((p9 : Nat) : Int))).setCell ⟨g, k * 13 + 10, none⟩ (.int .i64 ((p10 : Nat) : Int))).ownsRow 0 86 13 (.slice (some ⟨g, 0, none⟩) len cap) len (css.set k [.int .i64 ((p0 : Nat) : Int), .string (markT p1), .int .i64 ((p2 : Nat) : Int), .slice x3 m3 d3, .int .i64 ((p4 : Nat) : Int), .slice x5 m5 d5, .int .i64 ((p6 : Nat) : Int), .bool (decide (p7 % 3 = 0)), .string (markT p8), .int .i64 ((p9 : Nat) : Int), .int .i64 ((p10 : Nat) : Int), .int .i64 l11, .int .i64 l12]).flatten) := ⟨by have h7 := ownsRow_put (u := (.int .i64 ((p10 : Nat) : Int) : Value)) O12.out rfl HQ.out.2.2.2.1 HQ.out.1.lens rfl (i := 10) (by omega) rfl; exact h7⟩
      have D13 : Hd (Chg wr (((v4.setCell ⟨g, k * 13 + 8, none⟩ (.string (markT p8))).setCell ⟨g, k * 13 + 9, none⟩ (.int .i64 ((p9 : Nat) : Int))).setCell ⟨g, k * 13 + 10, none⟩ (.int .i64 ((p10 : Nat) : Int))) (fun x => x = g ∨ Fs k x)) := ⟨D12.out.setCell (.inl rfl) _⟩
      have S3_13 : Hd (OwC (((v4.setCell ⟨g, k * 13 + 8, none⟩ (.string (markT p8))).setCell ⟨g, k * 13 + 9, none⟩ (.int .i64 ((p9 : Nat) : Int))).setCell ⟨g, k * 13 + 10, none⟩ (.int .i64 ((p10 : Nat) : Int))) [.slice x3 m3 d3] G3 (mkB p3 l3)) := ⟨owC_ok.keep S3_12.out (fun b hb => heap_setCell_other _ _ _ _ (HQ.out.2.2.2.2.2.2.2 b (by have hx := hb; exact (HU.out.2 b).2 (.inl hx))))⟩
      have S5_13 : Hd (OwC (((v4.setCell ⟨g, k * 13 + 8, none⟩ (.string (markT p8))).setCell ⟨g, k * 13 + 9, none⟩ (.int .i64 ((p9 : Nat) : Int))).setCell ⟨g, k * 13 + 10, none⟩ (.int .i64 ((p10 : Nat) : Int))) [.slice x5 m5 d5] G5 (mkB p5 l5)) := ⟨owC_ok.keep S5_12.out (fun b hb => heap_setCell_other _ _ _ _ (HQ.out.2.2.2.2.2.2.2 b (by have hx := hb; exact (HU.out.2 b).2 (.inr (hx)))))⟩
      clear O12 D12 S3_12 S5_12
      have O14 : Hd (((((v4.setCell ⟨g, k * 13 + 8, none⟩ (.string (markT p8))).setCell ⟨g, k * 13 + 9, none⟩ (.int .i64 ((p9 : Nat) : Int))).setCell ⟨g, k * 13 + 10, none⟩ (.int .i64 ((p10 : Nat) : Int))).setCell ⟨g, k * 13 + 11, none⟩ (.int .i64 ((p11 : Nat) : Int))).ownsRow 0 86 13 (.slice (some ⟨g, 0, none⟩) len cap) len (css.set k [.int .i64 ((p0 : Nat) : Int), .string (markT p1), .int .i64 ((p2 : Nat) : Int), .slice x3 m3 d3, .int .i64 ((p4 : Nat) : Int), .slice x5 m5 d5, .int .i64 ((p6 : Nat) : Int), .bool (decide (p7 % 3 = 0)), .string (markT p8), .int .i64 ((p9 : Nat) : Int), .int .i64 ((p10 : Nat) : Int), .int .i64 ((p11 : Nat) : Int), .int .i64 l12]).flatten) := ⟨by have h7 := ownsRow_put (u := (.int .i64 ((p11 : Nat) : Int) : Value)) O13.out rfl HQ.out.2.2.2.1 HQ.out.1.lens rfl (i := 11) (by omega) rfl; exact h7⟩
      have D14 : Hd (Chg wr ((((v4.setCell ⟨g, k * 13 + 8, none⟩ (.string (markT p8))).setCell ⟨g, k * 13 + 9, none⟩ (.int .i64 ((p9 : Nat) : Int))).setCell ⟨g, k * 13 + 10, none⟩ (.int .i64 ((p10 : Nat) : Int))).setCell ⟨g, k * 13 + 11, none⟩ (.int .i64 ((p11 : Nat) : Int))) (fun x => x = g ∨ Fs k x)) := ⟨D13.out.setCell (.inl rfl) _⟩
      have S3_14 : Hd (OwC ((((v4.setCell ⟨g, k * 13 + 8, none⟩ (.string (markT p8))).setCell ⟨g, k * 13 + 9, none⟩ (.int .i64 ((p9 : Nat) : Int))).setCell ⟨g, k * 13 + 10, none⟩ (.int .i64 ((p10 : Nat) : Int))).setCell ⟨g, k * 13 + 11, none⟩ (.int .i64 ((p11 : Nat) : Int))) [.slice x3 m3 d3] G3 (mkB p3 l3)) := ⟨owC_ok.keep S3_13.out (fun b hb => heap_setCell_other _ _ _ _ (HQ.out.2.2.2.2.2.2.2 b (by have hx := hb; exact (HU.out.2 b).2 (.inl hx))))⟩
      have S5_14 : Hd (OwC ((((v4.setCell ⟨g, k * 13 + 8, none⟩ (.string (markT p8))).setCell ⟨g, k * 13 + 9, none⟩ (.int .i64 ((p9 : Nat) : Int))).setCell ⟨g, k * 13 + 10, none⟩ (.int .i64 ((p10 : Nat) : Int))).setCell ⟨g, k * 13 + 11, none⟩ (.int .i64 ((p11 : Nat) : Int))) [.slice x5 m5 d5] G5 (mkB p5 l5)) := ⟨owC_ok.keep S5_13.out (fun b hb => heap_setCell_other _ _ _ _ (HQ.out.2.2.2.2.2.2.2 b (by have hx := hb; exact (HU.out.2 b).2 (.inr (hx)))))⟩
      clear O13 D13 S3_13 S5_13
      have O15 : Hd ((((((v4.setCell ⟨g, k * 13 + 8, none⟩ (.string (markT p8))).setCell ⟨g, k * 13 + 9, none⟩ (.int .i64 ((p9 : Nat) : Int))).setCell ⟨g, k * 13 + 10, none⟩ (.int .i64 ((p10 : Nat) : Int))).setCell ⟨g, k * 13 + 11, none⟩ (.int .i64 ((p11 : Nat) : Int))).setCell ⟨g, k * 13 + 12, none⟩ (.int .i64 ((p12 : Nat) : Int))).ownsRow 0 86 13 (.slice (some ⟨g, 0, none⟩) len cap) len (css.set k [.int .i64 ((p0 : Nat) : Int), .string (markT p1), .int .i64 ((p2 : Nat) : Int), .slice x3 m3 d3, .int .i64 ((p4 : Nat) : Int), .slice x5 m5 d5, .int .i64 ((p6 : Nat) : Int), .bool (decide (p7 % 3 = 0)), .string (markT p8), .int .i64 ((p9 : Nat) : Int), .int .i64 ((p10 : Nat) : Int), .int .i64 ((p11 : Nat) : Int), .int .i64 ((p12 : Nat) : Int)]).flatten) := ⟨by have h7 := ownsRow_put (u := (.int .i64 ((p12 : Nat) : Int) : Value)) O14.out rfl HQ.out.2.2.2.1 HQ.out.1.lens rfl (i := 12) (by omega) rfl; exact h7⟩
      have D15 : Hd (Chg wr (((((v4.setCell ⟨g, k * 13 + 8, none⟩ (.string (markT p8))).setCell ⟨g, k * 13 + 9, none⟩ (.int .i64 ((p9 : Nat) : Int))).setCell ⟨g, k * 13 + 10, none⟩ (.int .i64 ((p10 : Nat) : Int))).setCell ⟨g, k * 13 + 11, none⟩ (.int .i64 ((p11 : Nat) : Int))).setCell ⟨g, k * 13 + 12, none⟩ (.int .i64 ((p12 : Nat) : Int))) (fun x => x = g ∨ Fs k x)) := ⟨D14.out.setCell (.inl rfl) _⟩
      have S3_15 : Hd (OwC (((((v4.setCell ⟨g, k * 13 + 8, none⟩ (.string (markT p8))).setCell ⟨g, k * 13 + 9, none⟩ (.int .i64 ((p9 : Nat) : Int))).setCell ⟨g, k * 13 + 10, none⟩ (.int .i64 ((p10 : Nat) : Int))).setCell ⟨g, k * 13 + 11, none⟩ (.int .i64 ((p11 : Nat) : Int))).setCell ⟨g, k * 13 + 12, none⟩ (.int .i64 ((p12 : Nat) : Int))) [.slice x3 m3 d3] G3 (mkB p3 l3)) := ⟨owC_ok.keep S3_14.out (fun b hb => heap_setCell_other _ _ _ _ (HQ.out.2.2.2.2.2.2.2 b (by have hx := hb; exact (HU.out.2 b).2 (.inl hx))))⟩
      have S5_15 : Hd (OwC (((((v4.setCell ⟨g, k * 13 + 8, none⟩ (.string (markT p8))).setCell ⟨g, k * 13 + 9, none⟩ (.int .i64 ((p9 : Nat) : Int))).setCell ⟨g, k * 13 + 10, none⟩ (.int .i64 ((p10 : Nat) : Int))).setCell ⟨g, k * 13 + 11, none⟩ (.int .i64 ((p11 : Nat) : Int))).setCell ⟨g, k * 13 + 12, none⟩ (.int .i64 ((p12 : Nat) : Int))) [.slice x5 m5 d5] G5 (mkB p5 l5)) := ⟨owC_ok.keep S5_14.out (fun b hb => heap_setCell_other _ _ _ _ (HQ.out.2.2.2.2.2.2.2 b (by have hx := hb; exact (HU.out.2 b).2 (.inr (hx)))))⟩
      clear O14 D14 S3_14 S5_14
      go_wp2_with fail
      rewrite [I8.out]
      rewrite [I9.out]
      rewrite [I10.out]
      rewrite [I11.out]
      rewrite [I12.out]
      have HE : OwRec (((((v4.setCell ⟨g, k * 13 + 8, none⟩ (.string (markT p8))).setCell ⟨g, k * 13 + 9, none⟩ (.int .i64 ((p9 : Nat) : Int))).setCell ⟨g, k * 13 + 10, none⟩ (.int .i64 ((p10 : Nat) : Int))).setCell ⟨g, k * 13 + 11, none⟩ (.int .i64 ((p11 : Nat) : Int))).setCell ⟨g, k * 13 + 12, none⟩ (.int .i64 ((p12 : Nat) : Int))) [.int .i64 ((p0 : Nat) : Int), .string (markT p1), .int .i64 ((p2 : Nat) : Int), .slice x3 m3 d3, .int .i64 ((p4 : Nat) : Int), .slice x5 m5 d5, .int .i64 ((p6 : Nat) : Int), .bool (decide (p7 % 3 = 0)), .string (markT p8), .int .i64 ((p9 : Nat) : Int), .int .i64 ((p10 : Nat) : Int), .int .i64 ((p11 : Nat) : Int), .int .i64 ((p12 : Nat) : Int)] (Fs k) (mkRec p0 (⟨l0, (⟨l1, l2, l3, l4, l5, l6, l7⟩ : RowD), l8, l9, l10, l11, l12⟩ : RecD)) := by
        unfold mkRec
        dsimp only
        rw [P1.out, P2.out, P3.out, P4.out, P5.out, P6.out, P7.out, P8.out, P9.out, P10.out, P11.out, P12.out]
        exact owRec_of ⟨x3, m3, d3, x5, m5, d5, G3, G5, rfl, markT_size (by have := HT.out.2; have := P1.out; have := P2.out; have := P3.out; have := P4.out; have := P5.out; have := P6.out; have := P7.out; have := P8.out; have := P9.out; have := P10.out; have := P11.out; have := P12.out; have := P13.out; omega), markT_size (by have := HT.out.2; have := P1.out; have := P2.out; have := P3.out; have := P4.out; have := P5.out; have := P6.out; have := P7.out; have := P8.out; have := P9.out; have := P10.out; have := P11.out; have := P12.out; have := P13.out; omega), S3_15.out, S5_15.out, HU.out.1, HU.out.2⟩
      have HP2 : Hd (∃ css, OwP 13 86 OwRec (((((v4.setCell ⟨g, k * 13 + 8, none⟩ (.string (markT p8))).setCell ⟨g, k * 13 + 9, none⟩ (.int .i64 ((p9 : Nat) : Int))).setCell ⟨g, k * 13 + 10, none⟩ (.int .i64 ((p10 : Nat) : Int))).setCell ⟨g, k * 13 + 11, none⟩ (.int .i64 ((p11 : Nat) : Int))).setCell ⟨g, k * 13 + 12, none⟩ (.int .i64 ((p12 : Nat) : Int))) (.slice (some ⟨g, 0, none⟩) len cap) css Fs F (mixS mkRec ctRec m ls (k + 1)) ∧ Chg w (((((v4.setCell ⟨g, k * 13 + 8, none⟩ (.string (markT p8))).setCell ⟨g, k * 13 + 9, none⟩ (.int .i64 ((p9 : Nat) : Int))).setCell ⟨g, k * 13 + 10, none⟩ (.int .i64 ((p10 : Nat) : Int))).setCell ⟨g, k * 13 + 11, none⟩ (.int .i64 ((p11 : Nat) : Int))).setCell ⟨g, k * 13 + 12, none⟩ (.int .i64 ((p12 : Nat) : Int))) F) := ⟨css.set k [.int .i64 ((p0 : Nat) : Int), .string (markT p1), .int .i64 ((p2 : Nat) : Int), .slice x3 m3 d3, .int .i64 ((p4 : Nat) : Int), .slice x5 m5 d5, .int .i64 ((p6 : Nat) : Int), .bool (decide (p7 % 3 = 0)), .string (markT p8), .int .i64 ((p9 : Nat) : Int), .int .i64 ((p10 : Nat) : Int), .int .i64 ((p11 : Nat) : Int), .int .i64 ((p12 : Nat) : Int)], by
        rw [← HQ.out.2.2.2.2.2.2.1]
        exact HQ.out.1.upd owRec_ok (by rw [HQ.out.2.2.1]; exact hlt) (by rw [HQ.out.2.2.1]; exact O15.out) rfl HE (fun x hx h1 h2 => D15.out.block x (HQ.out.1.lt x hx) (fun h => h.elim (fun e => h1 (by rw [e]; rfl)) h2)) D15.out.size,
        HQ.out.2.1.trans (D15.out.mono (fun x hx => hx.elim (fun e => HQ.out.1.blk x (by rw [e]; rfl)) (fun h => (HQ.out.1.sub k x (by rw [HQ.out.2.2.1]; exact hlt) h).1)))⟩
      have HL1 : Hd (m + ctRecS (ls.take (k + 1)) = p13) := ⟨HT.out.1⟩
      clear HE HQ HT HL HP1 HPos O15 D15 S3_15 S5_15 P1 P2 P3 P4 P5 P6 P7 P8 P9 P10 P11 P12 P13 I0 I1 I2 I4 I6 I7 I8 I9 I10 I11 I12 HU
      go_wp2_with fail
      go_roundw
      case rel => exact ⟨k + 1, by omega, by go_num, p13, rfl, HL1, HP2⟩
      case measure => simp [intOf]; omega
    · have HF : Hd (p0 = R) := ⟨by have h1 := HL.out; rw [List.take_of_length_le (by have := HN.out.1; omega)] at h1; rw [← h1, ← HR.out]⟩
      have hkl : k = ls.length := by have := HN.out.1; omega
      have HO : Hd (OwRecS wr [.slice (some ⟨g, 0, none⟩) len cap] F (mkRecS m ls) ∧ Chg w wr F) := ⟨by
        obtain ⟨css, P, C⟩ := HP1.out
        rw [hkl, mixS_all] at P
        exact ⟨⟨_, css, Fs, rfl, P⟩, C⟩⟩
      clear HL HP1 hkl
      go_wp2
      go_ret
      exact ⟨by rw [← HF.out]; rfl, HO.out.1, HO.out.2⟩

end Go.Proofs.Ytlididoalekeoaa
