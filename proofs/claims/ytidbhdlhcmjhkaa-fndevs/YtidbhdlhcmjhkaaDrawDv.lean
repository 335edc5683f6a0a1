/- Contracts: a device that is drawn, right, up, with room. -/
import Derived.Test.YtidbhdlhcmjhkaaDraw
import Derived.Test.YtidbhdlhcmjhkaaDevWs
import Derived.Test.YtidbhdlhcmjhkaaDevLg
import Derived.Test.YtidbhdlhcmjhkaaDevNw
import Derived.Test.YtidbhdlhcmjhkaaDevQ
namespace Go.Proofs.Ytidbhdlhcmjhkaa
set_option maxRecDepth 4000
open Go.RowKit

theorem fresh_flush {d : DevD} (h : Fresh d) : Fresh (flushD d) ∧ (flushD d).cache.length = 0 ∧ (flushD d).secs.length = d.secs.length := by
  have e : flushD d = { d with fuse := fuseDown d.fuse, secs := putL d.secs d.cache, cache := [] } := by
    unfold flushD
    rw [if_neg (by rw [h.ok, h.up]; simp), if_neg (by rw [h.fuse]; omega)]
  have ho := flush_ok h.ok
  rw [e] at ho ⊢
  refine ⟨⟨ho, h.up, ?_, by show 0 < 40; omega⟩, rfl, putL_len _ _⟩
  show fuseDown d.fuse = -1
  rw [h.fuse]; rfl
theorem fresh_put {d : DevD} {n : Int} {b : List UInt8} (h : Fresh d) (hc : d.cache.length < 39) : Fresh (writeD d n b) ∧ (writeD d n b).cache.length ≤ d.cache.length + 1 ∧ (writeD d n b).secs.length = d.secs.length := by
  by_cases hn : inSecs d n = true
  · by_cases hb : b.length ≤ 120
    · have e := fresh_write h hn hb
      have ho := write_ok (n := n) (b := b) h.ok
      rw [e] at ho ⊢
      refine ⟨⟨ho, h.up, h.fuse, ?_⟩, ?_, rfl⟩
      · show (d.cache ++ [_]).length < 40
        rw [List.length_append]; simp; omega
      · show (d.cache ++ [_]).length ≤ _
        rw [List.length_append]; simp
    · have e : writeD d n b = d := if_pos (by unfold writeOn; rw [decide_eq_false hb]; simp)
      rw [e]; exact ⟨h, by omega, rfl⟩
  · have e : writeD d n b = d := if_pos (by unfold writeOn; simp [hn])
    rw [e]; exact ⟨h, by omega, rfl⟩
theorem fresh_new {n : Int} (h1 : 1 ≤ n) (h2 : n ≤ 64) : Fresh (devNew n) ∧ (devNew n).cache.length = 0 ∧ (devNew n).secs.length = n.toNat := by
  have e : devNew n = ⟨List.replicate n.toNat [], [], -1, false⟩ := if_pos (by unfold inB; simp [h1, h2])
  rw [e]
  refine ⟨⟨devOk_of (fun s hs => ?_) (fun x hx => by cases hx) ?_ (by show (0 : Nat) ≤ 40; omega) ⟨by show (-1 : Int) ≤ -1; omega, by show (-1 : Int) ≤ 1000; omega⟩, rfl, rfl, by show (0 : Nat) < 40; omega⟩, rfl, by simp⟩
  · rw [(List.mem_replicate.1 hs).2]; simp
  · show 1 ≤ (List.replicate n.toNat ([] : List UInt8)).length ∧ (List.replicate n.toNat ([] : List UInt8)).length ≤ 64
    rw [List.length_replicate]; omega
/-- What a device that is right weighs. -/
theorem sum_le {α : Type} (f : α → Nat) (B : Nat) : ∀ {ls : List α}, (∀ a ∈ ls, f a ≤ B) → (ls.map f).sum ≤ B * ls.length
  | [], _ => by simp
  | a :: r, h => by
    rw [List.map_cons, List.sum_cons, List.length_cons, Nat.mul_succ]
    have h1 := h a (by simp)
    have h2 := sum_le f B (ls := r) (fun b hb => h b (by simp [hb]))
    omega
theorem dev_wt {d : DevD} (h : devOk d = true) : wtDev d ≤ 1000000 := by
  obtain ⟨h1, h2, h3, h4, _⟩ := devOk_parts h
  have e : wtDev d = wtS wtB d.secs + wtS wtWr d.cache := rfl
  have s1 := sum_le wtB 120 (ls := d.secs) (fun a ha => h1 a ha)
  have s2 := sum_le wtWr 120 (ls := d.cache) (fun a ha => (h2 a ha).2)
  rw [e]
  unfold wtS
  omega

theorem rdDev_of_ow {w : World} {cs : List Value} {F : Fp} {d : DevD} (h : OwDev w cs F d) : RdDev w cs d := owDev_ok.rd h
theorem chg_set4 {w w1 : World} {F : Fp} {q : Nat} {v0 v1 v2 v3 : Value} (h : Chg w w1 F) (hq : w.heap.size ≤ q) : Chg w ((((w1.setCell ⟨q, 0, none⟩ v0).setCell ⟨q, 1, none⟩ v1).setCell ⟨q, 2, none⟩ v2).setCell ⟨q, 3, none⟩ v3) F :=
  ⟨h.os, h.tape, h.output, by simp; exact h.size, fun k hk hn => by
    rw [heap_setCell_other _ _ _ _ (by simp; omega), heap_setCell_other _ _ _ _ (by simp; omega), heap_setCell_other _ _ _ _ (by simp; omega), heap_setCell_other _ _ _ _ (by simp; omega)]
    exact h.block k hk hn⟩
/-- A cursor, a device in its box, the result's variable, each apart from the others. -/
structure DvAt (w : World) (g q : Nat) (ao : Option Addr) (len cap : Nat) (bs : List UInt8) (d : DevD) (w' : World) : Prop where
  cur : Cursor w' g ao len cap bs
  box : ∃ F : Fp, BoxDev w' q F d ∧ ∀ x, F x → w.heap.size + 1 ≤ x
  res : w'.heap[w.heap.size]? = some (.cells #[.slice none 0 0, .slice none 0 0, .int .i64 0, .bool false] 27 (0, 0))
  chg : Chg w w' (fun x => x = g)
theorem DvAt.step {w : World} {g q : Nat} {ao : Option Addr} {len cap : Nat} {bs : List UInt8} {d : DevD} {w1 w2 : World} (h : DvAt w g q ao len cap bs d w1) (hg : g < w.heap.size) (hq : w.heap.size + 1 ≤ q) (hc : Cursor w2 g ao len cap bs) (hgr : w1.grownBy w2 (some g)) : DvAt w g q ao len cap bs d w2 := by
  obtain ⟨F, hB, hF⟩ := h.box
  refine ⟨hc, ⟨F, hB.keep (hgr.block q hB.lt.1 (fun e => by simp at e; omega)) (fun b hb => hgr.block b (hB.lt.2 b hb) (fun e => by simp at e; have := hF b hb; omega)), hF⟩, (hgr.block _ (lt_of_block h.res) (fun e => by simp at e; omega)).trans h.res, h.chg.trans (Chg.of_grown hgr (fun k e => by simp at e; exact e.symm))⟩
theorem DvAt.turned {w : World} {g q : Nat} {ao : Option Addr} {len cap : Nat} {bs : List UInt8} {d d' : DevD} {w1 w2 : World} {F : Fp} (h : DvAt w g q ao len cap bs d w1) (hg : g < w.heap.size) (hq : w.heap.size + 1 ≤ q) (hF : ∀ x, F x → w.heap.size + 1 ≤ x) (hO : BxOut q F d' w1 w2) : DvAt w g q ao len cap bs d' w2 := by
  obtain ⟨F', hB, hF'⟩ := hO.box
  have hsz := h.chg.size
  have hr := lt_of_block h.res
  have hno : ∀ k, k ≤ w.heap.size → ¬ (k = q ∨ F k) := fun k hk e => by
    rcases e with e | e
    · omega
    · have := hF k e; omega
  exact ⟨h.cur.kept (fun k hk => hO.chg.block k (by omega) (hno k (by omega))), ⟨F', hB, fun x hx => by
    rcases hF' x hx with h1 | h1
    · exact hF x h1
    · omega⟩, (hO.chg.block _ hr (hno _ (Nat.le_refl _))).trans h.res,
    ⟨hO.chg.os.trans h.chg.os, hO.chg.tape.trans h.chg.tape, hO.chg.output.trans h.chg.output, Nat.le_trans hsz hO.chg.size, fun k hk hn => (hO.chg.block k (by omega) (hno k (by omega))).trans (h.chg.block k hk hn)⟩⟩

/-- What is drawn: a device that is right, up, with room. -/
structure DvOut (w : World) (g : Nat) (e : Ending) (w' : World) : Prop where
  out : ∃ (d : DevD) (cs : List Value), e = .returned (.agg cs.toArray) ∧ Fresh d ∧ d.cache.length ≤ 7 ∧ (2 ≤ d.secs.length ∧ d.secs.length ≤ 7) ∧ ∃ F : Fp, OwDev w' cs F d ∧ ∀ x, F x → w.heap.size ≤ x
  chg : Chg w w' (fun x => x = g)

set_option maxHeartbeats 4000000 in
theorem l10Draw_any (g : Nat) (ao : Option Addr) (len cap : Nat) (bs : List UInt8) (w : World) (hl : len ≤ 1073741824) (h : Cursor w g ao len cap bs) :
    Calls Try.prog 28 #[.pointer (some ⟨g, 0, none⟩)] w (DvOut w g) := by
  have hg := h.lt
  have HG : Hd (g < w.heap.size) := ⟨hg⟩
  have HC : Hd (Cursor (w.alloc (.cells #[.slice none 0 0, .slice none 0 0, .int .i64 0, .bool false] 27)) g ao len cap bs) := ⟨h.below (below_lit w _)⟩
  obtain ⟨W0, hW0⟩ : ∃ W, w.alloc (.cells #[.slice none 0 0, .slice none 0 0, .int .i64 0, .bool false] 27) = W := ⟨_, rfl⟩
  have KR : Hd (W0.heap[w.heap.size]? = some (.cells #[.slice none 0 0, .slice none 0 0, .int .i64 0, .bool false] 27 (0, 0)) ∧ Below w.heap.size w W0) := ⟨by rw [← hW0]; exact ⟨heap_alloc_new w _, below_lit w _⟩⟩
  rw [hW0] at HC
  clear h hg
  go_enter Try.func28, Try.ntmps28
  go_wp2_with fail
  clear hW0
  refine (l1Below_any g ao len cap bs 6 _ hl (by omega) (by omega) HC.out).mono ?_
  rintro e w1 ⟨x, hx, rfl, hc, hgr⟩
  have HC1 : Hd (Cursor w1 g ao len cap bs) := ⟨hc⟩
  have KR1 : Hd (w1.heap[w.heap.size]? = some (.cells #[.slice none 0 0, .slice none 0 0, .int .i64 0, .bool false] 27 (0, 0)) ∧ Chg w w1 (fun x => x = g)) := ⟨(hgr.block _ (lt_of_block KR.out.1) (fun e => by simp at e; have := HG.out; omega)).trans KR.out.1, (Chg.of_below KR.out.2).trans (Chg.of_grown hgr (fun k e => by simp at e; exact e.symm))⟩
  clear hc hgr HC KR
  go_wp2_with fail
  refine (specDevNew_ow (2 + (x : Int)) _).mono ?_
  rintro e w2 ⟨⟨csd, rfl, F0, hE, hF⟩, hB⟩
  obtain ⟨hfr, hc0, hs0⟩ := fresh_new (n := 2 + (x : Int)) (by omega) (by omega)
  generalize devNew (2 + (x : Int)) = d0 at *
  have hE0 := hE
  obtain ⟨y0, m0, e0, y1, m1, e1, _, _, rfl, _⟩ := hE0
  obtain ⟨q, hq⟩ : ∃ b, w2.heap.size = b := ⟨_, rfl⟩
  obtain ⟨W3, hW3⟩ : ∃ W, w2.alloc (.cells #[.slice y0 m0 e0, .slice y1 m1 e1, .int .i64 d0.fuse, .bool d0.down] 27) = W := ⟨_, rfl⟩
  have hsz := lt_of_block KR1.out.1
  have hB3 : Below w1.heap.size w1 W3 := by rw [← hW3]; exact Below.next hB (below_lit _ _)
  have HV0 : Hd (DvAt w g q ao len cap bs d0 W3) := ⟨⟨HC1.out.below hB3, ⟨F0, ⟨_, by rw [← hW3, ← hq]; exact heap_alloc_new w2 _, by rw [← hW3]; exact owDev_ok.below hE (below_lit _ _), fun h => by have := owDev_ok.lt hE _ h; omega⟩, fun x hx => by have := hF x hx; omega⟩, (hB3.block _ hsz).trans KR1.out.1, KR1.out.2.trans (Chg.of_below hB3)⟩⟩
  have HQ : Hd (w.heap.size + 1 ≤ q) := ⟨by have := hB.size; omega⟩
  have HD0 : Hd (Fresh d0 ∧ d0.cache.length = 0 ∧ (2 ≤ d0.secs.length ∧ d0.secs.length ≤ 7)) := ⟨hfr, hc0, by omega⟩
  clear hE hF hB hfr hc0 hs0 hsz hB3 HC1 KR1 hx
  go_wp2_with fail
  clear hW3 hq
  refine (l1Below_any g ao len cap bs 8 _ hl (by omega) (by omega) HV0.out.cur).mono ?_
  rintro e w4 ⟨j, hj, rfl, hc, hgr⟩
  have HV1 : Hd (DvAt w g q ao len cap bs d0 w4) := ⟨HV0.out.step HG.out HQ.out hc hgr⟩
  have HJ : Hd (j ≤ 7) := ⟨by omega⟩
  clear hc hgr HV0 hj
  go_wp2_with fail
  go_loopw [4] (fun i wr => ∃ (k : Nat) (d : DevD), i = .int .i64 (k : Int) ∧ Hd (k ≤ 7 ∧ Fresh d ∧ d.cache.length + k ≤ 7 ∧ (2 ≤ d.secs.length ∧ d.secs.length ≤ 7)) ∧ Hd (DvAt w g q ao len cap bs d wr)) (fun i _ => (intOf i).toNat)
  case atStart => exact ⟨j, d0, rfl, ⟨HJ.out, HD0.out.1, by have := HD0.out.2.1; have := HJ.out; omega, HD0.out.2.2⟩, HV1⟩
  case round =>
    obtain ⟨k, d, rfl, HK, HV⟩ := hrel
    clear HV1 HD0 HJ
    by_cases hk : 0 < k
    · have hk0 : (0 : Int) < (k : Int) := by omega
      have hk7 : k ≤ 7 := HK.out.1
      have hwk : wrap64 ((k : Int) - 1) = ((k - 1 : Nat) : Int) := by rw [wrap64_in (by omega) (by omega)]; omega
      go_wp2_with fail
      refine (l1Once_any g ao len cap bs 4 _ hl (by omega) (by omega) HV.out.cur).mono ?_
      rintro e w5 ⟨b, rfl, hc, hgr⟩
      have HV2 : Hd (DvAt w g q ao len cap bs d w5) := ⟨HV.out.step HG.out HQ.out hc hgr⟩
      clear hc hgr HV
      obtain ⟨F, HB⟩ : ∃ F : Fp, Hd (BoxDev w5 q F d ∧ ∀ x, F x → w.heap.size + 1 ≤ x) := by obtain ⟨F, h⟩ := HV2.out.box; exact ⟨F, ⟨h⟩⟩
      cases b with
      | true =>
        go_wp2_with fail
        refine (specL10Flush_rd q F d _ HB.out.1 HK.out.2.1.ok).mono ?_
        rintro e w6 ⟨rfl, hO⟩
        have HV3 : Hd (DvAt w g q ao len cap bs (flushD d) w6) := ⟨HV2.out.turned HG.out HQ.out HB.out.2 hO⟩
        have HK3 : Hd (k - 1 ≤ 7 ∧ Fresh (flushD d) ∧ (flushD d).cache.length + (k - 1) ≤ 7 ∧ (2 ≤ (flushD d).secs.length ∧ (flushD d).secs.length ≤ 7)) := ⟨by
          obtain ⟨h1, h2, h3⟩ := fresh_flush HK.out.2.1
          have := HK.out
          exact ⟨by omega, h1, by omega, by omega⟩⟩
        clear hO HB HV2 HK
        go_wp2_with fail
        go_roundw
        case rel => exact ⟨k - 1, flushD d, by go_num, HK3, HV3⟩
        case measure => simp [intOf]; omega
      | false =>
        obtain ⟨y0, m0, e0, y1, m1, e1, hbx⟩ := HB.out.1.cells
        have hm0 : 2 ≤ m0 ∧ m0 ≤ 7 := by
          obtain ⟨cs, h1, h2, _⟩ := HB.out.1
          obtain ⟨z0, k0, f0, z1, k1, f1, _, _, rfl, r0, _⟩ := h2
          rw [h1] at hbx
          simp at hbx
          have h3 := (owS_len r0).1
          have h4 := HK.out.2.2.2
          omega
        have c0 := cellsA hbx 0 rfl
        clear hbx
        go_wp2_with fail
        refine (l1Below_any g ao len cap bs m0 _ hl (by omega) (by omega) HV2.out.cur).mono ?_
        rintro e w6 ⟨n6, _, rfl, hc, hgr⟩
        have HV3 : Hd (DvAt w g q ao len cap bs d w6) := ⟨HV2.out.step HG.out HQ.out hc hgr⟩
        clear hc hgr HV2 HB c0
        go_wp2_with fail
        refine (l1Below_any g ao len cap bs 4 _ hl (by omega) (by omega) HV3.out.cur).mono ?_
        rintro e w7 ⟨n7, hn7, rfl, hc, hgr⟩
        have HV4 : Hd (DvAt w g q ao len cap bs d w7) := ⟨HV3.out.step HG.out HQ.out hc hgr⟩
        clear hc hgr HV3
        go_wp2_with fail
        refine (l1Bytes_any g ao len cap bs n7 _ hl (by omega) HV4.out.cur).mono ?_
        rintro e w8 ⟨qb, cb, ds, rfl, hds, hqb, hown, hc, hgr⟩
        have hq7 : q < w7.heap.size := by obtain ⟨F, hB, _⟩ := HV4.out.box; exact hB.lt.1
        have HV5 : Hd (DvAt w g q ao len cap bs d w8) := ⟨HV4.out.step HG.out HQ.out hc hgr⟩
        have HBy : Hd (∀ w', Chg w8 w' (fun x => x = q) → RdB w' [.slice (some ⟨qb, 0, none⟩) n7 cb] ds) := ⟨fun w' hch => owB_ok.rd (owB_ok.keep (owB_row (c := cb) hown.row hds) (fun b hb => hch.block b (by rw [hb]; exact hown.lt) (fun e => by omega)))⟩
        have HN : Hd (ds.length = n7) := ⟨hds⟩
        clear hc hgr HV4 hown hds hqb hq7
        obtain ⟨F, HB⟩ : ∃ F : Fp, Hd (BoxDev w8 q F d ∧ ∀ x, F x → w.heap.size + 1 ≤ x) := by obtain ⟨F, h⟩ := HV5.out.box; exact ⟨F, ⟨h⟩⟩
        go_wp2_with fail
        refine (specL10Write_rd q F d (n6 : Int) (some ⟨qb, 0, none⟩) n7 cb ds _ HB.out.1 HK.out.2.1.ok HN.out HBy).mono ?_
        rintro e w9 ⟨rfl, hO⟩
        have HV6 : Hd (DvAt w g q ao len cap bs (writeD d (n6 : Int) ds) w9) := ⟨HV5.out.turned HG.out HQ.out HB.out.2 hO⟩
        have HK3 : Hd (k - 1 ≤ 7 ∧ Fresh (writeD d (n6 : Int) ds) ∧ (writeD d (n6 : Int) ds).cache.length + (k - 1) ≤ 7 ∧ (2 ≤ (writeD d (n6 : Int) ds).secs.length ∧ (writeD d (n6 : Int) ds).secs.length ≤ 7)) := ⟨by
          have := HK.out
          obtain ⟨h1, h2, h3⟩ := fresh_put (n := (n6 : Int)) (b := ds) HK.out.2.1 (by omega)
          exact ⟨by omega, h1, by omega, by omega⟩⟩
        clear hO HB HV5 HK HBy HN
        go_wp2_with fail
        go_roundw
        case rel => exact ⟨k - 1, writeD d (n6 : Int) ds, by go_num, HK3, HV6⟩
        case measure => simp [intOf]; omega
    · have hk0 : ¬ (0 : Int) < (k : Int) := by omega
      obtain ⟨F, hBx, hF⟩ := HV.out.box
      obtain ⟨cs, hbx, hO, hnF⟩ := hBx
      obtain ⟨y0, m0, e0, y1, m1, e1, G0, G1, rfl, hrest⟩ := id hO
      have HO : Hd (OwDev wr [.slice y0 m0 e0, .slice y1 m1 e1, .int .i64 d.fuse, .bool d.down] F d ∧ ∀ x, F x → w.heap.size + 1 ≤ x) := ⟨hO, hF⟩
      have c0 := cellsA hbx 0 rfl
      have c1 := cellsA hbx 1 rfl
      have c2 := cellsA hbx 2 rfl
      have c3 := cellsA hbx 3 rfl
      have z0 := cellsA HV.out.res 0 rfl
      have z1 := cellsA HV.out.res 1 rfl
      have z2 := cellsA HV.out.res 2 rfl
      have z3 := cellsA HV.out.res 3 rfl
      have f0 := freeA HV.out.res 0
      have f1 := freeA HV.out.res 1
      have f2 := freeA HV.out.res 2
      have f3 := freeA HV.out.res 3
      clear hO hF hbx hrest hnF
      go_wp2_with fail
      refine bodyPost_ret (results_cell_row rfl _ _ w.heap.size _ _ (0, 0) _ rfl (four_at HV.out.res _ _ _ _) Try.underlying27 rfl (by kernel_rfl)) rfl ?_
      have hne : ∀ b, F b → b ≠ w.heap.size := fun b hb => by have := HO.out.2 b hb; omega
      refine ⟨⟨d, _, rfl, HK.out.2.1, by have := HK.out; omega, HK.out.2.2.2, F, (owDev_ok.keep HO.out.1 (fun b hb => block_set (block_set (block_set (block_set rfl (hne b hb)) (hne b hb)) (hne b hb)) (hne b hb))), fun x hx => by have := HO.out.2 x hx; omega⟩, ?_⟩
      exact chg_set4 HV.out.chg (Nat.le_refl _)

theorem drawDev_any (ao : Option Addr) (len cap : Nat) (bs : List UInt8) (w : World) (hl : len ≤ 1073741824) (hr : Reads w ao len bs) :
    Calls Try.prog 6 #[.slice ao len cap] w fun e w' => ∃ (d : DevD) (cs : List Value), e = .returned (.agg cs.toArray) ∧ Fresh d ∧ d.cache.length ≤ 7 ∧ (2 ≤ d.secs.length ∧ d.secs.length ≤ 7) ∧ RdDev w' cs d ∧ Below w.heap.size w w' := by
  have HR : Hd (Reads (w.alloc (.cells #[.slice none 0 0, .slice none 0 0, .int .i64 0, .bool false] 27)) ao len bs) := ⟨(rdB_parts (rdB_ok.below (⟨ao, len, cap, rfl, by unfold maxLen; omega, hr⟩ : RdB w [.slice ao len cap] bs) (below_lit w _))).2⟩
  obtain ⟨W0, hW0⟩ : ∃ W, w.alloc (.cells #[.slice none 0 0, .slice none 0 0, .int .i64 0, .bool false] 27) = W := ⟨_, rfl⟩
  have KR : Hd (W0.heap[w.heap.size]? = some (.cells #[.slice none 0 0, .slice none 0 0, .int .i64 0, .bool false] 27 (0, 0)) ∧ Below w.heap.size w W0) := ⟨by rw [← hW0]; exact ⟨heap_alloc_new w _, below_lit w _⟩⟩
  rw [hW0] at HR
  clear hr
  go_enter Try.func6, Try.ntmps6
  go_wp2_with fail
  clear hW0
  refine (l1New_any ao len cap bs _ hl HR.out).mono ?_
  rintro e w1 ⟨rfl, hc, hB⟩
  have hlt := lt_of_block KR.out.1
  have HC : Hd (Cursor w1 W0.heap.size ao len cap bs) := ⟨hc⟩
  have KR1 : Hd (w1.heap[w.heap.size]? = some (.cells #[.slice none 0 0, .slice none 0 0, .int .i64 0, .bool false] 27 (0, 0)) ∧ Below w.heap.size w w1 ∧ w.heap.size < W0.heap.size) := ⟨(hB.block _ hlt).trans KR.out.1, Below.next KR.out.2 hB, hlt⟩
  clear hc hB KR HR hlt
  generalize W0.heap.size = g at *
  go_wp2_with fail
  refine (l10Draw_any g ao len cap bs _ hl HC.out).mono ?_
  rintro e w2 ⟨⟨d, cs, rfl, hfr, hc7, hs7, F, hR, hF⟩, hch⟩
  have KR2 : Hd (w2.heap[w.heap.size]? = some (.cells #[.slice none 0 0, .slice none 0 0, .int .i64 0, .bool false] 27 (0, 0)) ∧ Below w.heap.size w w2) := ⟨(hch.block _ (lt_of_block KR1.out.1) (fun e => by have := KR1.out.2.2; omega)).trans KR1.out.1, KR1.out.2.1.trans (hch.below (fun x hx => by have := KR1.out.2.2; omega) KR1.out.2.1.size)⟩
  obtain ⟨y0, m0, e0, y1, m1, e1, _, _, rfl, hrest⟩ := id hR
  have HD : Hd ((Fresh d ∧ d.cache.length ≤ 7 ∧ (2 ≤ d.secs.length ∧ d.secs.length ≤ 7)) ∧ OwDev w2 [.slice y0 m0 e0, .slice y1 m1 e1, .int .i64 d.fuse, .bool d.down] F d ∧ ∀ x, F x → x ≠ w.heap.size) := ⟨⟨hfr, hc7, hs7⟩, hR, fun x hx => by have := hF x hx; have := lt_of_block KR1.out.1; omega⟩
  have z0 := cellsA KR2.out.1 0 rfl
  have z1 := cellsA KR2.out.1 1 rfl
  have z2 := cellsA KR2.out.1 2 rfl
  have z3 := cellsA KR2.out.1 3 rfl
  have f0 := freeA KR2.out.1 0
  have f1 := freeA KR2.out.1 1
  have f2 := freeA KR2.out.1 2
  have f3 := freeA KR2.out.1 3
  clear hfr hc7 hs7 hR hF hch hrest HC KR1
  go_wp2_with fail
  refine bodyPost_ret (results_cell_row rfl _ _ w.heap.size _ _ (0, 0) _ rfl (four_at KR2.out.1 _ _ _ _) Try.underlying27 rfl (by kernel_rfl)) rfl ?_
  exact ⟨d, _, rfl, HD.out.1.1, HD.out.1.2.1, HD.out.1.2.2, owDev_ok.rd (owDev_ok.keep HD.out.2.1 (fun b hb => block_set (block_set (block_set (block_set rfl (HD.out.2.2 b hb)) (HD.out.2.2 b hb)) (HD.out.2.2 b hb)) (HD.out.2.2 b hb))), bset (bset (bset (bset KR2.out.2 _ (Nat.le_refl _)) _ (Nat.le_refl _)) _ (Nat.le_refl _)) _ (Nat.le_refl _)⟩

end Go.Proofs.Ytidbhdlhcmjhkaa
