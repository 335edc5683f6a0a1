/- The program's copy of a device: copyDev. -/
import Derived.Test.YtidbhdlhcmjhkaaDevBox
import Derived.Deep.RegionHeld3
import Derived.Deep.DeepCutAuto
namespace Go.Proofs.Ytidbhdlhcmjhkaa
set_option maxRecDepth 4000
open Go.RowKit

/-- A device that is made: sectors of nothing, writes of nothing. -/
def zeroedD (m0 m1 : Nat) (f : Int) (b : Bool) : DevD := ⟨List.replicate m0 [], List.replicate m1 ⟨0, []⟩, f, b⟩
theorem boxDev_made {w : World} {q g0 g1 m0 m1 : Nat} {f : Int} {b : Bool} (l0 : m0 ≤ 1073741824) (l1 : m1 ≤ 1073741824) (hq : w.heap[q]? = some (.cells #[.slice (some ⟨g0, 0, none⟩) m0 m0, .slice (some ⟨g1, 0, none⟩) m1 m1, .int .i64 f, .bool b] 27 (0, 0)))
    (h0 : w.heap[g0]? = some (.cells (madeCells (Value.slice none 0 0).cells (m0 * 1)) 22 (0, 0))) (h1 : w.heap[g1]? = some (.cells (madeCells (Value.agg #[.int .i64 0, .slice none 0 0]).cells (m1 * 2)) 35 (0, 0))) (n0 : g0 ≠ q) (n1 : g1 ≠ q) (n2 : g0 ≠ g1) :
    BoxDev w q (fun x => x = g0 ∨ x = g1) (zeroedD m0 m1 f b) := by
  have e0 := made_flat ([.slice none 0 0] : List Value) (n := 1) rfl (by omega) m0
  have e1 := made_flat ([.int .i64 0, .slice none 0 0] : List Value) (n := 2) rfl (by omega) m1
  have o0 : w.ownsRow 0 22 1 (.slice (some ⟨g0, 0, none⟩) m0 m0) m0 (List.replicate m0 ([.slice none 0 0] : List Value)).flatten := by
    rw [← e0]
    exact ⟨by simp [madeCells], .inr ⟨g0, m0, _, rfl, Nat.zero_le _, h0, Nat.le_refl _, by unfold maxLen; omega, by simp [madeCells], by rw [List.take_of_length_le (by simp [madeCells])]; rfl⟩⟩
  have o1 : w.ownsRow 0 35 2 (.slice (some ⟨g1, 0, none⟩) m1 m1) m1 (List.replicate m1 ([.int .i64 0, .slice none 0 0] : List Value)).flatten := by
    rw [← e1]
    exact ⟨by simp [madeCells], .inr ⟨g1, m1, _, rfl, Nat.zero_le _, h1, Nat.le_refl _, by unfold maxLen; omega, by simp [madeCells], by rw [List.take_of_length_le (by simp [madeCells])]; rfl⟩⟩
  refine boxDev_of (F0 := fun x => x = g0) (F1 := fun x => x = g1) hq ⟨_, _, _, rfl, owP_made o0 rfl (lt_of_block h0) (owB_nil w)⟩ ⟨_, _, _, rfl, owP_made o1 rfl (lt_of_block h1) (owWr_zero w)⟩ (fun x hx hy => n2 (hx.symm.trans hy)) (fun x => Iff.rfl) (fun h => h.elim (fun e => n0 e.symm) (fun e => n1 e.symm))

/-- What copyDev has: the argument's box, the result's, the copy's. -/
structure CpAt (w : World) (A : Array Value) (q : Nat) (d : DevD) (wx : World) : Prop where
  bel : Below w.heap.size w wx
  arg : wx.heap[w.heap.size]? = some (.cells A 27 (0, 0))
  res : wx.heap[w.heap.size + 1]? = some (.cells #[.slice none 0 0, .slice none 0 0, .int .i64 0, .bool false] 27 (0, 0))
  box : ∃ F : Fp, BoxDev wx q F d ∧ ∀ x, F x → w.heap.size + 2 ≤ x
  q2 : w.heap.size + 2 ≤ q
theorem CpAt.below {w : World} {A : Array Value} {q : Nat} {d : DevD} {wx wy : World} (h : CpAt w A q d wx) (hb : Below wx.heap.size wx wy) : CpAt w A q d wy := by
  obtain ⟨F, hB, hF⟩ := h.box
  exact ⟨Below.next h.bel hb, (hb.block _ (lt_of_block h.arg)).trans h.arg, (hb.block _ (lt_of_block h.res)).trans h.res, ⟨F, hB.below hb, hF⟩, h.q2⟩
theorem below_lit5 (w : World) (A B C D X : Obj) : Below w.heap.size w (((((w.alloc A).alloc B).alloc C).alloc D).alloc X) := (below_lit4 w A B C D).alloc (by simp; omega) X
theorem laid5 (w : World) (A B C D X : Obj) : (((((w.alloc A).alloc B).alloc C).alloc D).alloc X).heap[w.heap.size]? = some A ∧ (((((w.alloc A).alloc B).alloc C).alloc D).alloc X).heap[w.heap.size + 1]? = some B ∧ (((((w.alloc A).alloc B).alloc C).alloc D).alloc X).heap[w.heap.size + 1 + 1]? = some C ∧ (((((w.alloc A).alloc B).alloc C).alloc D).alloc X).heap[w.heap.size + 1 + 1 + 1]? = some D ∧ (((((w.alloc A).alloc B).alloc C).alloc D).alloc X).heap[w.heap.size + 1 + 1 + 1 + 1]? = some X := by
  obtain ⟨h1, h2, h3, h4⟩ := laid4 w A B C D
  refine ⟨?_, ?_, ?_, ?_, alloc_new _ _ (by simp)⟩
  · rw [alloc_old _ _ (by simp <;> omega)]; exact h1
  · rw [alloc_old _ _ (by simp <;> omega)]; exact h2
  · rw [alloc_old _ _ (by simp <;> omega)]; exact h3
  · rw [alloc_old _ _ (by simp <;> omega)]; exact h4
theorem cpAt_made {w wx : World} {A M0 M1 : Array Value} {q g0 g1 m0 m1 : Nat} {f : Int} {b : Bool} (l0 : m0 ≤ 1073741824) (l1 : m1 ≤ 1073741824) (hM : madeCells (Value.slice none 0 0).cells (m0 * 1) = M0 ∧ madeCells (Value.agg #[.int .i64 0, .slice none 0 0]).cells (m1 * 2) = M1) (bel : Below w.heap.size w wx) (arg : wx.heap[w.heap.size]? = some (.cells A 27 (0, 0)))
    (res : wx.heap[w.heap.size + 1]? = some (.cells #[.slice none 0 0, .slice none 0 0, .int .i64 0, .bool false] 27 (0, 0)))
    (hq : wx.heap[q]? = some (.cells #[.slice (some ⟨g0, 0, none⟩) m0 m0, .slice (some ⟨g1, 0, none⟩) m1 m1, .int .i64 f, .bool b] 27 (0, 0)))
    (h0 : wx.heap[g0]? = some (.cells M0 22 (0, 0))) (h1 : wx.heap[g1]? = some (.cells M1 35 (0, 0))) (n0 : g0 ≠ q) (n1 : g1 ≠ q) (n2 : g0 ≠ g1) (k0 : w.heap.size + 2 ≤ q) (k1 : w.heap.size + 2 ≤ g0) (k2 : w.heap.size + 2 ≤ g1) : CpAt w A q (zeroedD m0 m1 f b) wx := by
  obtain ⟨rfl, rfl⟩ := hM
  exact ⟨bel, arg, res, ⟨_, boxDev_made l0 l1 hq h0 h1 n0 n1 n2, fun x hx => hx.elim (fun e => by rw [e]; exact k1) (fun e => by rw [e]; exact k2)⟩, k0⟩
theorem make_run {P : Program} (t e : TypeId) {i : TypeInfo} {z : Value} (ht : P.underlying t = some (.slice e)) (hi : P.info? e = some i) (hz : i.zero = some z) (n : Nat) {s b : Nat} (hs : i.size = s) (hb : i.bytes = b) (h0 : 0 < b) (hbytes : b * n ≤ 281474976710656) (w : World) :
    (Instr.makeSlice t (.int .i64 (n : Int)) (.int .i64 (n : Int))).run P w = .ok (.slice (some ⟨w.heap.size, 0, none⟩) n n) (w.alloc (.cells (madeCells z.cells (n * s)) e)) := by
  subst hs hb
  have hb' : (i.bytes : Int) * (n : Int) ≤ 281474976710656 := by
    have h : ((i.bytes * n : Nat) : Int) ≤ 281474976710656 := by omega
    rwa [Int.natCast_mul] at h
  have h63 : (n : Int) ≤ 9223372036854775807 := by
    have : n ≤ i.bytes * n := Nat.le_mul_of_pos_left n h0
    omega
  have h := run_make (P := P) w t e i z ht hi hz .i64 .i64 n n (by omega) (by omega) hb' h63
  simpa using h

set_option maxHeartbeats 4000000 in
theorem implCopyDev_rd (cs : List Value) (d : DevD) (w : World) (h : RdDev w cs d) (hw : wtDev d ≤ 1073741824) :
    Calls Try.prog 29 #[.agg cs.toArray] w (AnsAgg OwDev d w) := by
  obtain ⟨x0, m0, d0, x1, m1, d1, rfl, r0, r1⟩ := h
  obtain ⟨secs, cache, f, b⟩ := d
  simp only [wtDev] at hw
  dsimp only at r0 r1 ⊢
  have R0 : Hd (RdByteSS w [.slice x0 m0 d0] secs ∧ wtS wtB secs ≤ 1073741824) := ⟨r0, by have h8 : wtS wtB secs + wtS wtWr cache ≤ 1073741824 := hw; omega⟩
  have R1 : Hd (RdWrS w [.slice x1 m1 d1] cache ∧ wtS wtWr cache ≤ 1073741824) := ⟨r1, by have h8 : wtS wtB secs + wtS wtWr cache ≤ 1073741824 := hw; omega⟩
  have hl0 : m0 ≤ 1073741824 := by have h7 := wtS_len wtB secs; have h8 := (rdByteSS_parts r0).2.1; have := R0.out.2; omega
  have hl1 : m1 ≤ 1073741824 := by have h7 := wtS_len wtWr cache; have h8 := (rdWrS_parts r1).2.1; have := R1.out.2; omega
  have HL : Hd (secs.length = m0 ∧ cache.length = m1) := ⟨(rdByteSS_parts r0).2.1, (rdWrS_parts r1).2.1⟩
  obtain ⟨i0, hi0, hz0, hs0, hb0⟩ := info_parts infoByteSS
  obtain ⟨i1, hi1, hz1, hs1, hb1⟩ := info_parts infoWrS
  have k0 := fun w => make_run 24 22 Try.underlying24 hi0 hz0 m0 hs0 hb0 (by omega) (by omega) w
  have k1 := fun w => make_run 25 35 Try.underlying25 hi1 hz1 m1 hs1 hb1 (by omega) (by omega) w
  obtain ⟨M0, hM0⟩ : ∃ M0, madeCells (Value.slice none 0 0).cells (m0 * 1) = M0 := ⟨_, rfl⟩
  obtain ⟨M1, hM1⟩ : ∃ M1, madeCells (Value.agg #[.int .i64 0, .slice none 0 0]).cells (m1 * 2) = M1 := ⟨_, rfl⟩
  rw [hM0] at k0
  rw [hM1] at k1
  have HM : Hd (madeCells (Value.slice none 0 0).cells (m0 * 1) = M0 ∧ madeCells (Value.agg #[.int .i64 0, .slice none 0 0]).cells (m1 * 2) = M1) := ⟨hM0, hM1⟩
  clear hM0 hM1 r0 r1 hw hi0 hz0 hs0 hb0 hi1 hz1 hs1 hb1
  go_enter Try.func29, Try.ntmps29
  go_wp2_with fail
  go_cut [3] (fun p wx => ∃ q, p = .pointer (some ⟨q, 0, none⟩) ∧ Hd (CpAt w #[.slice x0 m0 d0, .slice x1 m1 d1, .int .i64 f, .bool b] q (zeroedD m0 m1 f b) wx))
  case first =>
    go_region
    all_goals go_wp2_with fail
    all_goals go_meet
    all_goals (case rel => first | exact ⟨_, rfl, ⟨cpAt_made hl0 hl1 HM.out (below_lit5 w _ _ _ _ _).drew (laid5 w _ _ _ _ _).1 (laid5 w _ _ _ _ _).2.1 (laid5 w _ _ _ _ _).2.2.1 (laid5 w _ _ _ _ _).2.2.2.1 (laid5 w _ _ _ _ _).2.2.2.2 (by omega) (by omega) (by omega) (by omega) (by omega) (by omega)⟩⟩ | exact ⟨_, rfl, ⟨cpAt_made hl0 hl1 HM.out (below_lit5 w _ _ _ _ _).drew (laid5 w _ _ _ _ _).1 (laid5 w _ _ _ _ _).2.1 (laid5 w _ _ _ _ _).2.2.1 (laid5 w _ _ _ _ _).2.2.2.2 (laid5 w _ _ _ _ _).2.2.2.1 (by omega) (by omega) (by omega) (by omega) (by omega) (by omega)⟩⟩ | exact ⟨_, rfl, ⟨cpAt_made hl0 hl1 HM.out (below_lit5 w _ _ _ _ _).drew (laid5 w _ _ _ _ _).1 (laid5 w _ _ _ _ _).2.1 (laid5 w _ _ _ _ _).2.2.2.1 (laid5 w _ _ _ _ _).2.2.1 (laid5 w _ _ _ _ _).2.2.2.2 (by omega) (by omega) (by omega) (by omega) (by omega) (by omega)⟩⟩ | exact ⟨_, rfl, ⟨cpAt_made hl0 hl1 HM.out (below_lit5 w _ _ _ _ _).drew (laid5 w _ _ _ _ _).1 (laid5 w _ _ _ _ _).2.1 (laid5 w _ _ _ _ _).2.2.2.1 (laid5 w _ _ _ _ _).2.2.2.2 (laid5 w _ _ _ _ _).2.2.1 (by omega) (by omega) (by omega) (by omega) (by omega) (by omega)⟩⟩ | exact ⟨_, rfl, ⟨cpAt_made hl0 hl1 HM.out (below_lit5 w _ _ _ _ _).drew (laid5 w _ _ _ _ _).1 (laid5 w _ _ _ _ _).2.1 (laid5 w _ _ _ _ _).2.2.2.2 (laid5 w _ _ _ _ _).2.2.1 (laid5 w _ _ _ _ _).2.2.2.1 (by omega) (by omega) (by omega) (by omega) (by omega) (by omega)⟩⟩ | exact ⟨_, rfl, ⟨cpAt_made hl0 hl1 HM.out (below_lit5 w _ _ _ _ _).drew (laid5 w _ _ _ _ _).1 (laid5 w _ _ _ _ _).2.1 (laid5 w _ _ _ _ _).2.2.2.2 (laid5 w _ _ _ _ _).2.2.2.1 (laid5 w _ _ _ _ _).2.2.1 (by omega) (by omega) (by omega) (by omega) (by omega) (by omega)⟩⟩)
  case rest =>
    obtain ⟨q, rfl, HC⟩ := hcut
    have c0 := cellsA HC.out.arg 0 rfl
    clear k0 k1 HM
    go_wp2_with fail
    have HC0 : Hd (CpAt w #[.slice x0 m0 d0, .slice x1 m1 d1, .int .i64 f, .bool b] q ⟨fillS secs [] 0, List.replicate m1 ⟨0, []⟩, f, b⟩ wc) := ⟨by have h7 := HC.out; rw [zeroedD] at h7; rw [fillS_zero, HL.out.1]; exact h7⟩
    clear HC c0
    go_loopw [24] (fun i wr => ∃ k : Nat, k ≤ m0 ∧ i = .int .i64 k ∧ Hd (CpAt w #[.slice x0 m0 d0, .slice x1 m1 d1, .int .i64 f, .bool b] q ⟨fillS secs [] k, List.replicate m1 ⟨0, []⟩, f, b⟩ wr)) (fun i _ => m0 - (intOf i).toNat)
    case atStart => exact ⟨0, Nat.zero_le _, rfl, HC0⟩
    case round =>
      obtain ⟨k, hk, rfl, HK⟩ := hrel
      clear HC0
      by_cases hlt : k < m0
      · have hlt' : (k : Int) < (m0 : Int) := by omega
        have h0 : (0 : Int) ≤ (k : Int) := by omega
        obtain ⟨b0, o0, hx0, G⟩ : ∃ b0 o0, x0 = some ⟨b0, o0, none⟩ ∧ ∀ j a, secs[j]? = some a → ∃ c, c.length = 1 ∧ RdB w c a ∧ ∀ i v, c[i]? = some v → w.cell? ⟨b0, o0 + j * 1 + i, none⟩ = some v := by
          rcases (rdByteSS_parts R0.out.1).2.2 with h | h
          · have := HL.out.1; rw [h] at this; simp at this; omega
          · exact h
        subst hx0
        obtain ⟨a, ha⟩ := get_some (l := secs) (j := k) (by rw [HL.out.1]; exact hlt)
        obtain ⟨c, hcn, hR, hcell⟩ := G k a ha
        replace hR := rdB_ok.below hR HK.out.bel
        obtain ⟨y0, n0, e0, rfl, _, _⟩ := id hR
        have t0 := cell_below (hcell 0 _ rfl) HK.out.bel
        simp only [Nat.mul_one, Nat.add_zero] at t0
        obtain ⟨F, hBx, hF⟩ := HK.out.box
        obtain ⟨g, D0', V1, hq, hg1, hg2, hg3, ov, u0, u1⟩ := hBx.atSec (k := k) (m := m0) (by show (fillS secs [] k).length = m0; rw [fillS_len secs _ (by have := HL.out.1; omega)]; exact HL.out.1) hlt
        dsimp only at hq
        have HQ : Hd (BoxDev wr q F ⟨fillS secs [] k, List.replicate m1 ⟨0, []⟩, f, b⟩ ∧ (∀ x, F x → w.heap.size + 2 ≤ x) ∧ wr.heap[q]? = some (.cells #[.slice (some ⟨g, 0, none⟩) m0 D0', V1, .int .i64 f, .bool b] 27 (0, 0)) ∧ (fillS secs [] k).set k a = fillS secs [] (k + 1) ∧ g < wr.heap.size ∧ g ≠ q ∧ w.heap.size + 2 ≤ g) :=
          ⟨hBx, hF, hq, fillS_set secs [] ha, hg1, hg2, hF g hg3⟩
        have HA : Hd (RdB wr [.slice y0 n0 e0] a ∧ a.length ≤ 1073741824) := ⟨hR, by have h7 := wtS_le wtB ha; have h8 := R0.out.2; unfold wtB at h7 h8; omega⟩
        have KK : Hd (∀ w', Below wr.heap.size wr w' → w'.cell? ⟨q, 0, none⟩ = some (.slice (some ⟨g, 0, none⟩) m0 D0')) := ⟨fun w' hb => cell_below (cellsA HQ.out.2.2.1 0 rfl) hb⟩
        have UU : Hd (wr.cell? ⟨g, k, none⟩ = some ov ∧ wr.frozen? ⟨g, k, none⟩ = false) := ⟨u0, u1⟩
        have D0 : Hd (Below wr.heap.size wr wr.drew) := ⟨(Below.refl _ wr).drew⟩
        clear hcell hcn ha hR hBx hF hq hg1 hg2 hg3 u0 u1 G
        have NE : Hd ((⟨q, 0, none⟩ : Addr).block ≠ g) := ⟨fun e => HQ.out.2.2.2.2.2.1 e.symm⟩
        have c9 := KK.out wr (Below.refl _ wr)
        go_wp2_with fail
        go_region_held (fun w' => w'.cell? ⟨q, 0, none⟩ = some (.slice (some ⟨g, 0, none⟩) m0 D0')) (first | (with_reducible exact KK.out _ D1.out) | (with_reducible exact KK.out _ D0.out) | (with_reducible exact cell_set (KK.out _ D1.out) NE.out))
          (first | (go_at_call 32; refine (clone_rd y0 n0 e0 a _ (rdB_ok.below HA.out.1 D0.out) HA.out.2).mono ?_; rintro e wv ⟨⟨z0, zn, zc, rfl, hN⟩, hB⟩; have D1 : Hd (Below wr.heap.size wr wv) := ⟨Below.next D0.out hB⟩; have HN : Hd (New wr.heap.size OwB wv [.slice z0 zn zc] a) := ⟨hN⟩; have t9 : wv.cell? ⟨g, k, none⟩ = some ov := (cell_below UU.out.1 D1.out); have f9 : wv.frozen? ⟨g, k, none⟩ = false := (by rw [World.frozen?_of_block (w := wr) (a := ⟨g, k, none⟩) (D1.out.block g HQ.out.2.2.2.2.1)]; exact UU.out.2); clear hB hN))
        have HZ : Hd (CpAt w #[.slice (some ⟨b0, o0, none⟩) m0 d0, .slice x1 m1 d1, .int .i64 f, .bool b] q ⟨fillS secs [] (k + 1), List.replicate m1 ⟨0, []⟩, f, b⟩ (wv.setCell ⟨g, k, none⟩ (.slice z0 zn zc))) := ⟨by
          obtain ⟨F', hB', hF'⟩ := HQ.out.1.putSec HQ.out.2.2.1 hlt D1.out HN.out
          rw [HQ.out.2.2.2.1] at hB'
          have hK := HK.out.below D1.out
          have hg2 := HQ.out.2.2.2.2.2.2
          exact ⟨bset hK.bel _ (by omega), block_set hK.arg (by omega), block_set hK.res (by omega), ⟨F', hB', fun x hx => (hF' x hx).elim (HQ.out.2.1 x) (fun h => by have := HQ.out.2.2.2.2.1; omega)⟩, hK.q2⟩⟩
        clear KK D0 D1 HQ HA UU HN HK t9 f9 t0 c9 NE
        go_wp2_with fail
        go_roundw
        case rel => exact ⟨k + 1, by omega, by go_num, HZ⟩
        case measure => simp [intOf]; omega
      · have HC1 : Hd (CpAt w #[.slice x0 m0 d0, .slice x1 m1 d1, .int .i64 f, .bool b] q ⟨secs, fillS cache ⟨0, []⟩ 0, f, b⟩ wr) := ⟨by
          have h7 := HK.out
          have e : k = secs.length := by have := HL.out.1; omega
          rw [e, fillS_all] at h7
          rw [fillS_zero, HL.out.2]; exact h7⟩
        clear HK
        have c1 := cellsA HC1.out.arg 1 rfl
        go_wp2_with fail
        clear c1
        go_loopw [39] (fun i wr => ∃ k : Nat, k ≤ m1 ∧ i = .int .i64 k ∧ Hd (CpAt w #[.slice x0 m0 d0, .slice x1 m1 d1, .int .i64 f, .bool b] q ⟨secs, fillS cache ⟨0, []⟩ k, f, b⟩ wr)) (fun i _ => m1 - (intOf i).toNat)
        case atStart => exact ⟨0, Nat.zero_le _, rfl, HC1⟩
        case round =>
          obtain ⟨k, hk, rfl, HK⟩ := hrel
          clear HC1
          by_cases hlt : k < m1
          · have hlt' : (k : Int) < (m1 : Int) := by omega
            have h0 : (0 : Int) ≤ (k : Int) := by omega
            obtain ⟨b0, o0, hx0, G⟩ : ∃ b0 o0, x1 = some ⟨b0, o0, none⟩ ∧ ∀ j a, cache[j]? = some a → ∃ c, c.length = 2 ∧ RdWr w c a ∧ ∀ i v, c[i]? = some v → w.cell? ⟨b0, o0 + j * 2 + i, none⟩ = some v := by
              rcases (rdWrS_parts R1.out.1).2.2 with h | h
              · have := HL.out.2; rw [h] at this; simp at this; omega
              · exact h
            subst hx0
            obtain ⟨a, ha⟩ := get_some (l := cache) (j := k) (by rw [HL.out.2]; exact hlt)
            obtain ⟨c, hcn, hR, hcell⟩ := G k a ha
            replace hR := rdWr_ok.below hR HK.out.bel
            have hset : (fillS cache ⟨0, []⟩ k).set k a = fillS cache ⟨0, []⟩ (k + 1) := fillS_set cache ⟨0, []⟩ ha
            have hwt : wtWr a ≤ 1073741824 := by have h7 := wtS_le wtWr ha; have h8 := R1.out.2; omega
            obtain ⟨nn, bb⟩ := a
            obtain ⟨y0, n0, e0, rfl, hRb⟩ := hR
            dsimp only at hRb
            have t0 := cell_below (hcell 0 _ rfl) HK.out.bel
            have t1 := cell_below (hcell 1 _ rfl) HK.out.bel
            simp only [Nat.add_zero] at t0
            obtain ⟨F, hBx, hF⟩ := HK.out.box
            obtain ⟨g, D1', V0, hq, hg1, hg2, hg3, ov, ow, u0, u1, v0, v1⟩ := hBx.atWr (k := k) (m := m1) (by show (fillS cache ⟨0, []⟩ k).length = m1; rw [fillS_len cache _ (by have := HL.out.2; omega)]; exact HL.out.2) hlt
            dsimp only at hq
            have HQ : Hd (BoxDev wr q F ⟨secs, fillS cache ⟨0, []⟩ k, f, b⟩ ∧ (∀ x, F x → w.heap.size + 2 ≤ x) ∧ wr.heap[q]? = some (.cells #[V0, .slice (some ⟨g, 0, none⟩) m1 D1', .int .i64 f, .bool b] 27 (0, 0)) ∧ (fillS cache ⟨0, []⟩ k).set k ⟨nn, bb⟩ = fillS cache ⟨0, []⟩ (k + 1) ∧ g < wr.heap.size ∧ g ≠ q ∧ w.heap.size + 2 ≤ g) :=
              ⟨hBx, hF, hq, hset, hg1, hg2, hF g hg3⟩
            have HA : Hd (RdB wr [.slice y0 n0 e0] bb ∧ bb.length ≤ 1073741824) := ⟨hRb, hwt⟩
            have hql : q < wr.heap.size := lt_of_block hq
            have HW : Hd (Below wr.heap.size wr (wr.alloc (.cells #[.int .i64 nn, .slice y0 n0 e0] 35)) ∧ (wr.alloc (.cells #[.int .i64 nn, .slice y0 n0 e0] 35)).heap[wr.heap.size]? = some (.cells #[.int .i64 nn, .slice y0 n0 e0] 35 (0, 0))) := ⟨below_lit wr _, heap_alloc_new wr _⟩
            have KK : Hd (∀ w', Below wr.heap.size wr w' → w'.heap[wr.heap.size]? = some (.cells #[.int .i64 nn, .slice y0 n0 e0] 35 (0, 0)) → w'.cell? ⟨q, 1, none⟩ = some (.slice (some ⟨g, 0, none⟩) m1 D1') ∧ w'.cell? ⟨wr.heap.size, 0, none⟩ = some (.int .i64 nn) ∧ w'.cell? ⟨wr.heap.size, 1, none⟩ = some (.slice y0 n0 e0)) := ⟨fun w' hb hz => ⟨cell_below (cellsA HQ.out.2.2.1 1 rfl) hb, cellsA hz 0 rfl, cellsA hz 1 rfl⟩⟩
            have UU : Hd (wr.cell? ⟨g, k * 2, none⟩ = some ov ∧ wr.cell? ⟨g, k * 2 + 1, none⟩ = some ow ∧ wr.frozen? ⟨g, k * 2, none⟩ = false ∧ wr.frozen? ⟨g, k * 2 + 1, none⟩ = false) := ⟨u0, u1, v0, v1⟩
            clear hcell hcn ha hRb hBx hF hq hg1 hg2 hg3 u0 u1 v0 v1 G hset hwt hql
            go_wp2_with fail
            generalize wr.alloc (.cells #[.int .i64 nn, .slice y0 n0 e0] 35) = WB at *
            have D0 : Hd (Below wr.heap.size wr WB.drew ∧ WB.drew.heap[wr.heap.size]? = some (.cells #[.int .i64 nn, .slice y0 n0 e0] 35 (0, 0))) := ⟨HW.out.1.drew, HW.out.2⟩
            have NE : Hd ((⟨q, 1, none⟩ : Addr).block ≠ g ∧ (⟨wr.heap.size, 0, none⟩ : Addr).block ≠ g ∧ (⟨wr.heap.size, 1, none⟩ : Addr).block ≠ g) := ⟨fun e => HQ.out.2.2.2.2.2.1 e.symm, fun e => by have := HQ.out.2.2.2.2.1; have e' : wr.heap.size = g := e; omega, fun e => by have := HQ.out.2.2.2.2.1; have e' : wr.heap.size = g := e; omega⟩
            go_region_held (fun w' => w'.cell? ⟨q, 1, none⟩ = some (.slice (some ⟨g, 0, none⟩) m1 D1') ∧ w'.cell? ⟨wr.heap.size, 0, none⟩ = some (.int .i64 nn) ∧ w'.cell? ⟨wr.heap.size, 1, none⟩ = some (.slice y0 n0 e0))
              (first | (with_reducible exact KK.out _ D1.out.1 D1.out.2) | (with_reducible exact KK.out _ D0.out.1 D0.out.2) | (with_reducible exact ⟨cell_set (cell_set (KK.out _ D1.out.1 D1.out.2).1 NE.out.1) NE.out.1, cell_set (cell_set (KK.out _ D1.out.1 D1.out.2).2.1 NE.out.2.1) NE.out.2.1, cell_set (cell_set (KK.out _ D1.out.1 D1.out.2).2.2 NE.out.2.2) NE.out.2.2⟩))
              (first | (go_at_call 32; refine (clone_rd y0 n0 e0 bb _ (rdB_ok.below HA.out.1 D0.out.1) HA.out.2).mono ?_; rintro e wv ⟨⟨z0, zn, zc, rfl, hN⟩, hB⟩; have D1 : Hd (Below wr.heap.size wr wv ∧ wv.heap[wr.heap.size]? = some (.cells #[.int .i64 nn, .slice y0 n0 e0] 35 (0, 0))) := ⟨Below.next D0.out.1 hB, (hB.block _ (lt_of_block D0.out.2)).trans D0.out.2⟩; have HN : Hd (New wr.heap.size OwB wv [.slice z0 zn zc] bb) := (⟨by obtain ⟨G, hE, hG⟩ := hN; exact ⟨G, hE, fun x hx => Nat.le_trans D0.out.1.size (hG x hx)⟩⟩); have t8 : wv.cell? ⟨g, k * 2, none⟩ = some ov := (cell_below UU.out.1 D1.out.1); have t9 : wv.cell? ⟨g, k * 2 + 1, none⟩ = some ow := (cell_below UU.out.2.1 D1.out.1); have f8 : wv.frozen? ⟨g, k * 2, none⟩ = false := (by rw [World.frozen?_of_block (w := wr) (a := ⟨g, k * 2, none⟩) (D1.out.1.block g HQ.out.2.2.2.2.1)]; exact UU.out.2.2.1); have f9 : wv.frozen? ⟨g, k * 2 + 1, none⟩ = false := (by rw [World.frozen?_of_block (w := wr) (a := ⟨g, k * 2 + 1, none⟩) (D1.out.1.block g HQ.out.2.2.2.2.1)]; exact UU.out.2.2.2); clear hB hN))
            have HZ : Hd (CpAt w #[.slice x0 m0 d0, .slice (some ⟨b0, o0, none⟩) m1 d1, .int .i64 f, .bool b] q ⟨secs, fillS cache ⟨0, []⟩ (k + 1), f, b⟩ ((wv.setCell ⟨g, k * 2, none⟩ (.int .i64 nn)).setCell ⟨g, k * 2 + 1, none⟩ (.slice z0 zn zc))) := ⟨by
              obtain ⟨F', hB', hF'⟩ := HQ.out.1.putWr (nn := nn) HQ.out.2.2.1 hlt D1.out.1 HN.out
              rw [HQ.out.2.2.2.1] at hB'
              have hK := HK.out.below D1.out.1
              have hg2 := HQ.out.2.2.2.2.2.2
              exact ⟨bset (bset hK.bel _ (by omega)) _ (by omega), block_set (block_set hK.arg (by omega)) (by omega), block_set (block_set hK.res (by omega)) (by omega), ⟨F', hB', fun x hx => (hF' x hx).elim (HQ.out.2.1 x) (fun h => by have := HQ.out.2.2.2.2.1; omega)⟩, hK.q2⟩⟩
            clear KK D0 D1 HQ HA UU HN HK HW t8 t9 f8 f9 t0 t1 NE
            go_wp2_with fail
            go_roundw
            case rel => exact ⟨k + 1, by omega, by go_num, HZ⟩
            case measure => simp [intOf]; omega
          · obtain ⟨F, hBx, hF⟩ := HK.out.box
            obtain ⟨X0, N0, D0', X1, N1, D1', F0, F1, hq, q0, q1, hd, hu, hn⟩ := hBx.parts
            have e : k = cache.length := by have := HL.out.2; omega
            rw [e, fillS_all] at q1
            dsimp only at hq q0 q1
            have HF : Hd (OwByteSS wr [.slice X0 N0 D0'] F0 secs ∧ OwWrS wr [.slice X1 N1 D1'] F1 cache ∧ (∀ x, F0 x → ¬ F1 x) ∧ (∀ x, F0 x ∨ F1 x → w.heap.size + 2 ≤ x) ∧ Below w.heap.size w wr ∧ wr.heap[w.heap.size + 1]? = some (.cells #[.slice none 0 0, .slice none 0 0, .int .i64 0, .bool false] 27 (0, 0))) :=
              ⟨q0, q1, hd, fun x hx => hF x ((hu x).2 hx), HK.out.bel, HK.out.res⟩
            have c0 := cellsA hq 0 rfl
            have c1 := cellsA hq 1 rfl
            have c2 := cellsA hq 2 rfl
            have c3 := cellsA hq 3 rfl
            have z0 := cellsA HF.out.2.2.2.2.2 0 rfl
            have z1 := cellsA HF.out.2.2.2.2.2 1 rfl
            have z2 := cellsA HF.out.2.2.2.2.2 2 rfl
            have z3 := cellsA HF.out.2.2.2.2.2 3 rfl
            have s0 := freeA HF.out.2.2.2.2.2 0
            have s1 := freeA HF.out.2.2.2.2.2 1
            have s2 := freeA HF.out.2.2.2.2.2 2
            have s3 := freeA HF.out.2.2.2.2.2 3
            clear hBx hF hq q0 q1 hd hu hn e HK
            go_wp2_with fail
            refine bodyPost_ret (results_cell_row rfl _ _ (w.heap.size + 1) _ _ (0, 0) _ rfl (setA (setA (setA (setA HF.out.2.2.2.2.2 0 _ rfl) 1 _ rfl) 2 _ rfl) 3 _ rfl) Try.underlying27 rfl (by kernel_rfl)) rfl ?_
            exact ⟨⟨[_, _, _, _], rfl, fun x => F0 x ∨ F1 x, ⟨X0, N0, D0', X1, N1, D1', F0, F1, rfl, owByteSS_ok.keep HF.out.1 (fun b hb => block_set (block_set (block_set (block_set rfl (by have := HF.out.2.2.2.1 b (.inl hb); omega)) (by have := HF.out.2.2.2.1 b (.inl hb); omega)) (by have := HF.out.2.2.2.1 b (.inl hb); omega)) (by have := HF.out.2.2.2.1 b (.inl hb); omega)), owWrS_ok.keep HF.out.2.1 (fun b hb => block_set (block_set (block_set (block_set rfl (by have := HF.out.2.2.2.1 b (.inr hb); omega)) (by have := HF.out.2.2.2.1 b (.inr hb); omega)) (by have := HF.out.2.2.2.1 b (.inr hb); omega)) (by have := HF.out.2.2.2.1 b (.inr hb); omega)), HF.out.2.2.1, fun x => Iff.rfl⟩, fun x hx => by have := HF.out.2.2.2.1 x hx; omega⟩,
              bset (bset (bset (bset HF.out.2.2.2.2.1 _ (by omega)) _ (by omega)) _ (by omega)) _ (by omega)⟩

end Go.Proofs.Ytidbhdlhcmjhkaa
