/- The contract of RowOf, in the specification. -/
import Derived.Test.YtpafjehphajbhaaGreatDoorRowWa
namespace Go.Proofs.YtpafjehphajbhaaGreatDoor
set_option maxRecDepth 4000
open Go.RowKit

theorem rowV_f {p : Int} {k : ByteArray} {cs : Int} {s : List UInt8} (h : formB p k cs s = false) : rowV p k cs s = ⟨⟨#[]⟩, 0, [], 0, [], 0, false⟩ ∧ rowC p k cs s = 1 := by
  unfold rowV rowC
  rw [h]
  exact ⟨rfl, rfl⟩
section
variable {p : Int} {k : ByteArray} {cs : Int} {s xo xu : List UInt8}
theorem formB_p (h : p < 0 ∨ p > 7) : formB p k cs s = false := by
  unfold formB
  rw [show inB p 0 7 = false from decide_eq_false (by omega)]; rfl
theorem rowV_unfit (h : formB p k cs s = true) (hp : p = 0 ∨ p = 7) (ho : oOk cs s = false) : rowV p k cs s = ⟨⟨#[]⟩, 0, [], 0, [], 0, false⟩ ∧ rowC p k cs s = 3 := by
  unfold rowV rowC
  rw [h, ho]
  simp [hp, zeroRow]
theorem rowV_old (h : formB p k cs s = true) (hp : p = 0 ∨ p = 6 ∨ p = 7) (ho : oOk cs s = true) (hx : encS cs s = xo) : rowV p k cs s = ⟨k, cs, xo, 0, [], 1, false⟩ ∧ rowC p k cs s = 0 := by
  unfold rowV rowC
  rw [h, ho]
  rcases hp with rfl | rfl | rfl <;> simp [oldRow, hx]
theorem rowV_new (h : formB p k cs s = true) (hp : p = 4 ∨ p = 5) (hx : encS 0 s = xu) : rowV p k cs s = ⟨k, 0, [], 0, xu, 2, false⟩ ∧ rowC p k cs s = 0 := by
  unfold rowV rowC
  rw [h]
  rcases hp with rfl | rfl <;> simp [newRow, hx]
theorem rowV_aside (h : formB p k cs s = true) (hp : p = 1 ∨ p = 2 ∨ p = 3 ∨ p = 6) (ho : oOk cs s = false) (hx : encS 0 s = xu) : rowV p k cs s = ⟨k, 0, [], 0, xu, 2, true⟩ ∧ rowC p k cs s = 0 := by
  unfold rowV rowC
  rw [h, ho]
  rcases hp with rfl | rfl | rfl | rfl <;> simp [newRow, hx]
theorem rowV_both (h : formB p k cs s = true) (hp : p = 1 ∨ p = 2 ∨ p = 3) (ho : oOk cs s = true) (hx : encS cs s = xo) (hu : encS 0 s = xu) : rowV p k cs s = ⟨k, cs, xo, 0, xu, 3, false⟩ ∧ rowC p k cs s = 0 := by
  unfold rowV rowC
  rw [h, ho]
  rcases hp with rfl | rfl | rfl <;> simp [bothRow, hx, hu]
end

/-- A row that is answered, with a code. -/
structure RowTup (w : World) (r : RowD) (c : Int) (e : Ending) (w' : World) : Prop where
  out : ∃ a1 n1 c1 a2 n2 c2, e = .returned (.tuple #[.agg #[.string r.key, .int .i64 r.t1, .slice a1 n1 c1, .int .i64 r.t2, .slice a2 n2 c2, .int .i64 r.has, .bool r.aside], .int .i64 c]) ∧ r.b1.length = n1 ∧ r.b2.length = n2 ∧ Apart w' (w.heap.size + 2) a1 c1 r.b1 a2 c2 r.b2 ∧ w.heap.size + 1 < w'.heap.size ∧ Below w.heap.size w w'

/-- The result's box and the cell of today's signs. -/
structure UCell (w : World) (d : Nat) (t : Int) (ao : Option Addr) (n c : Nat) (bs : List UInt8) (wx : World) : Prop where
  res : wx.heap[w.heap.size]? = some (.cells #[.string ⟨#[]⟩, .int .i64 0, .slice none 0 0, .int .i64 0, .slice none 0 0, .int .i64 0, .bool false] 29 (0, 0))
  bel : Below w.heap.size w wx
  sz : w.heap.size + 1 < wx.heap.size
  box : wx.heap[d]? = some (.cells #[.int .i64 t, .slice ao n c] 27 (0, 0))
  own : OwnO wx (w.heap.size + 2) ao c bs
  len : bs.length = n
  wd : w.heap.size < d
section
variable {w : World} {d : Nat} {t : Int} {ao : Option Addr} {n c : Nat} {bs : List UInt8} {wx wy : World}
theorem UCell.below (h : UCell w d t ao n c bs wx) (hB : Below wx.heap.size wx wy) : UCell w d t ao n c bs wy :=
  ⟨(hB.block _ (lt_of_block h.res)).trans h.res, Below.next h.bel hB, Nat.lt_of_lt_of_le h.sz hB.size, (hB.block _ (lt_of_block h.box)).trans h.box, h.own.below hB, h.len, h.wd⟩
theorem uCell_new {v1 : World} (hn : bs.length = n) (hO : OwnO v1 ((w.alloc (.cells #[.string ⟨#[]⟩, .int .i64 0, .slice none 0 0, .int .i64 0, .slice none 0 0, .int .i64 0, .bool false] 29)).heap.size + 1) ao c bs) (hs : (w.alloc (.cells #[.string ⟨#[]⟩, .int .i64 0, .slice none 0 0, .int .i64 0, .slice none 0 0, .int .i64 0, .bool false] 29)).heap.size < v1.heap.size) (hB : Below (w.alloc (.cells #[.string ⟨#[]⟩, .int .i64 0, .slice none 0 0, .int .i64 0, .slice none 0 0, .int .i64 0, .bool false] 29)).heap.size (w.alloc (.cells #[.string ⟨#[]⟩, .int .i64 0, .slice none 0 0, .int .i64 0, .slice none 0 0, .int .i64 0, .bool false] 29)) v1) :
    UCell w v1.heap.size t ao n c bs (v1.alloc (.cells #[.int .i64 t, .slice ao n c] 27)) := by
  have hr : v1.heap[w.heap.size]? = some (.cells #[.string ⟨#[]⟩, .int .i64 0, .slice none 0 0, .int .i64 0, .slice none 0 0, .int .i64 0, .bool false] 29 (0, 0)) := (hB.block w.heap.size (by simp)).trans (heap_alloc_new w _)
  have hb : Below w.heap.size w v1 := Below.next (below_lit w _) hB
  simp at hs hO
  exact ⟨((below_lit v1 _).block _ (lt_of_block hr)).trans hr, Below.next hb (below_lit v1 _), by simp; omega, alloc_new v1 _ rfl, (hO.below (below_lit v1 _)).mono (by omega), hn, by omega⟩
/-- And the cell of the old signs. -/
structure OCell (w : World) (d : Nat) (t : Int) (ao : Option Addr) (n c : Nat) (bs : List UInt8) (d' : Nat) (t' : Int) (ao' : Option Addr) (n' c' : Nat) (bs' : List UInt8) (wx : World) : Prop where
  res : wx.heap[w.heap.size]? = some (.cells #[.string ⟨#[]⟩, .int .i64 0, .slice none 0 0, .int .i64 0, .slice none 0 0, .int .i64 0, .bool false] 29 (0, 0))
  bel : Below w.heap.size w wx
  sz : w.heap.size + 1 < wx.heap.size
  box1 : wx.heap[d]? = some (.cells #[.int .i64 t, .slice ao n c] 27 (0, 0))
  own1 : OwnO wx (w.heap.size + 2) ao c bs
  len1 : bs.length = n
  wd : w.heap.size < d
  box2 : wx.heap[d']? = some (.cells #[.int .i64 t', .slice ao' n' c'] 27 (0, 0))
  own2 : OwnO wx (w.heap.size + 2) ao' c' bs'
  len2 : bs'.length = n'
  dd : d < d'
  ne : ∀ q, ao' = some ⟨q, 0, none⟩ → ao ≠ some ⟨q, 0, none⟩
theorem oCell_new {t' : Int} {ao' : Option Addr} {n' c' : Nat} {bs' : List UInt8} {v : World} (h : UCell w d t ao n c bs wx) (hn : bs'.length = n') (hO : OwnO v (wx.heap.size + 1) ao' c' bs') (hB : Below wx.heap.size wx v) :
    OCell w d t ao n c bs v.heap.size t' ao' n' c' bs' (v.alloc (.cells #[.int .i64 t', .slice ao' n' c'] 27)) := by
  have h2 := h.below hB
  have h3 := h2.below (below_lit v (.cells #[.int .i64 t', .slice ao' n' c'] 27))
  exact ⟨h3.res, h3.bel, h3.sz, h3.box, h3.own, h3.len, h3.wd, alloc_new v _ rfl, (hO.below (below_lit v _)).mono (by have := h.sz; omega), hn, lt_of_block h2.box, fun q hq h4 => by have := ownO_ge hO hq; have := ownO_lt h.own h4; omega⟩
/-- The result's box is filled: a row and a code are handed back. -/
theorem rowTup_of {k' : ByteArray} {t1' : Int} {a1' : Option Addr} {n1' c1' : Nat} {b1' : List UInt8} {t2' : Int} {a2' : Option Addr} {n2' c2' : Nat} {b2' : List UInt8} {has' : Int} {asd' : Bool}
    (hB : Below w.heap.size w wx) (hs : w.heap.size + 1 < wx.heap.size) (hA : Apart wx (w.heap.size + 2) a1' c1' b1' a2' c2' b2') (hl1 : b1'.length = n1') (hl2 : b2'.length = n2') (code : Int) :
    RowTup w ⟨k', t1', b1', t2', b2', has', asd'⟩ code (.returned (.tuple #[.agg #[.string k', .int .i64 t1', .slice a1' n1' c1', .int .i64 t2', .slice a2' n2' c2', .int .i64 has', .bool asd'], .int .i64 code]))
      (((((((wx.setCell ⟨w.heap.size, 0, none⟩ (.string k')).setCell ⟨w.heap.size, 1, none⟩ (.int .i64 t1')).setCell ⟨w.heap.size, 2, none⟩ (.slice a1' n1' c1')).setCell ⟨w.heap.size, 3, none⟩ (.int .i64 t2')).setCell ⟨w.heap.size, 4, none⟩ (.slice a2' n2' c2')).setCell ⟨w.heap.size, 5, none⟩ (.int .i64 has')).setCell ⟨w.heap.size, 6, none⟩ (.bool asd')) :=
  ⟨a1', n1', c1', a2', n2', c2', rfl, hl1, hl2, hA.of_set7 (by omega), by simp; omega, bset7 hB (Nat.le_refl _)⟩
end

set_option maxHeartbeats 4000000 in
theorem specRowOf_any (p : Int) (k : ByteArray) (cs : Int) (s : ByteArray) (w : World) (hk : k.size ≤ 1048576) (hs : s.size ≤ 1048576) :
    Calls Tryz.prog 8 #[.int .i64 p, .string k, .int .i64 cs, .string s] w (RowTup w (rowV p k cs s.data.toList) (rowC p k cs s.data.toList)) := by
  generalize ht : s.data.toList = t
  have Ht : Hd (s.data.toList = t) := ⟨ht⟩
  clear ht
  obtain ⟨ip, h9⟩ : ∃ x, inB p 0 7 = x := ⟨_, rfl⟩
  have HIP : Hd (inB p 0 7 = ip) := ⟨h9⟩
  clear h9
  obtain ⟨nk, h9⟩ : ∃ x, nameOkB k = x := ⟨_, rfl⟩
  have HNK : Hd (nameOkB k = nk) := ⟨h9⟩
  clear h9
  obtain ⟨ic, h9⟩ : ∃ x, inB cs 1 5 = x := ⟨_, rfl⟩
  have HIC : Hd (inB cs 1 5 = ic) := ⟨h9⟩
  clear h9
  obtain ⟨ou, h9⟩ : ∃ x, oOk 0 t = x := ⟨_, rfl⟩
  have HOU : Hd (oOk 0 t = ou) := ⟨h9⟩
  clear h9
  obtain ⟨oo, h9⟩ : ∃ x, oOk cs t = x := ⟨_, rfl⟩
  have HOO : Hd (oOk cs t = oo) := ⟨h9⟩
  clear h9
  obtain ⟨xu, h9⟩ : ∃ x, oB 0 t = x := ⟨_, rfl⟩
  have HXU : Hd (oB 0 t = xu) := ⟨h9⟩
  clear h9
  obtain ⟨xo, h9⟩ : ∃ x, oB cs t = x := ⟨_, rfl⟩
  have HXO : Hd (oB cs t = xo) := ⟨h9⟩
  clear h9
  obtain ⟨gu, h9⟩ : ∃ x, oTag 0 t = x := ⟨_, rfl⟩
  have HGU : Hd (oTag 0 t = gu) := ⟨h9⟩
  clear h9
  obtain ⟨go, h9⟩ : ∃ x, oTag cs t = x := ⟨_, rfl⟩
  have HGO : Hd (oTag cs t = go) := ⟨h9⟩
  clear h9
  have EU : Hd (ou = true → gu = 0 ∧ encS 0 t = xu) := ⟨fun e => by obtain ⟨_, _, e1, e2⟩ := oOk_t (HOU.out.trans e); exact ⟨HGU.out.symm.trans e1, e2.symm.trans HXU.out⟩⟩
  have EO : Hd (oo = true → go = cs ∧ encS cs t = xo) := ⟨fun e => by obtain ⟨_, _, e1, e2⟩ := oOk_t (HOO.out.trans e); exact ⟨HGO.out.symm.trans e1, e2.symm.trans HXO.out⟩⟩
  go_enter Tryz.func8, Tryz.ntmps8
  go_wp2_with fail
  refine (specCellOf_any 0 s _ hs).mono ?_
  rewrite [Ht.out, HOU.out, HXU.out, HGU.out]
  rintro e v1 ⟨au, nu, cu, rfl, hn, hO, hsz, hB⟩
  have U1 : Hd (UCell w v1.heap.size gu au nu cu xu (v1.alloc (.cells #[.int .i64 gu, .slice au nu cu] 27))) := ⟨uCell_new hn hO hsz hB⟩
  generalize hd : v1.heap.size = d1 at *
  clear hn hO hsz hB
  go_wp2_with fail
  generalize hw : (v1.alloc (.cells #[.int .i64 gu, .slice au nu cu] 27)) = V1 at *
  clear hd hw
  refine (l1In_any p 0 7 _).mono ?_
  rintro e v2 ⟨rfl, hw⟩
  replace hw := same_below hw
  rewrite [HIP.out]
  have U2 : Hd (UCell w d1 gu au nu cu xu v2) := ⟨U1.out.below hw⟩
  clear hw U1
  cases ip with
  | false =>
    obtain ⟨r0, r1, r2, r3, r4, r5, r6⟩ := cells7 _ w.heap.size _ _ _ _ _ _ _ _ U2.out.res
    obtain ⟨s0, s1, s2, s3, s4, s5, s6⟩ := free7 _ w.heap.size _ _ _ _ _ _ _ _ U2.out.res
    go_wp2_with fail
    refine bodyPost_ret (results_row_tmp rfl _ _ w.heap.size _ _ (0, 0) _ rfl (set7 _ _ _ _ _ _ _ U2.out.res) Tryz.underlying29 rfl (by kernel_rfl)) rfl ?_
    rw [(rowV_f (p := p) (k := k) (cs := cs) (s := t) (by unfold formB; rw [HIP.out]; simp)).1, (rowV_f (p := p) (k := k) (cs := cs) (s := t) (by unfold formB; rw [HIP.out]; simp)).2]
    exact rowTup_of U2.out.bel U2.out.sz ⟨.inl ⟨rfl, rfl, rfl⟩, .inl ⟨rfl, rfl, rfl⟩, fun q hq => by cases hq⟩ rfl rfl 1
  | true =>
    go_wp2_with fail
    refine (specNameOk_any k _ hk).mono ?_
    rintro e v3 ⟨rfl, hw⟩
    replace hw := same_below hw
    rewrite [HNK.out]
    have U3 : Hd (UCell w d1 gu au nu cu xu v3) := ⟨U2.out.below hw⟩
    clear hw U2
    cases nk with
    | false =>
      obtain ⟨r0, r1, r2, r3, r4, r5, r6⟩ := cells7 _ w.heap.size _ _ _ _ _ _ _ _ U3.out.res
      obtain ⟨s0, s1, s2, s3, s4, s5, s6⟩ := free7 _ w.heap.size _ _ _ _ _ _ _ _ U3.out.res
      go_wp2_with fail
      refine bodyPost_ret (results_row_tmp rfl _ _ w.heap.size _ _ (0, 0) _ rfl (set7 _ _ _ _ _ _ _ U3.out.res) Tryz.underlying29 rfl (by kernel_rfl)) rfl ?_
      rw [(rowV_f (p := p) (k := k) (cs := cs) (s := t) (by unfold formB; rw [HNK.out]; simp)).1, (rowV_f (p := p) (k := k) (cs := cs) (s := t) (by unfold formB; rw [HNK.out]; simp)).2]
      exact rowTup_of U3.out.bel U3.out.sz ⟨.inl ⟨rfl, rfl, rfl⟩, .inl ⟨rfl, rfl, rfl⟩, fun q hq => by cases hq⟩ rfl rfl 1
    | true =>
      go_wp2_with fail
      refine (l1In_any cs 1 5 _).mono ?_
      rintro e v4 ⟨rfl, hw⟩
      replace hw := same_below hw
      rewrite [HIC.out]
      have U4 : Hd (UCell w d1 gu au nu cu xu v4) := ⟨U3.out.below hw⟩
      clear hw U3
      cases ic with
      | false =>
        obtain ⟨r0, r1, r2, r3, r4, r5, r6⟩ := cells7 _ w.heap.size _ _ _ _ _ _ _ _ U4.out.res
        obtain ⟨s0, s1, s2, s3, s4, s5, s6⟩ := free7 _ w.heap.size _ _ _ _ _ _ _ _ U4.out.res
        go_wp2_with fail
        refine bodyPost_ret (results_row_tmp rfl _ _ w.heap.size _ _ (0, 0) _ rfl (set7 _ _ _ _ _ _ _ U4.out.res) Tryz.underlying29 rfl (by kernel_rfl)) rfl ?_
        rw [(rowV_f (p := p) (k := k) (cs := cs) (s := t) (by unfold formB; rw [HIC.out]; simp)).1, (rowV_f (p := p) (k := k) (cs := cs) (s := t) (by unfold formB; rw [HIC.out]; simp)).2]
        exact rowTup_of U4.out.bel U4.out.sz ⟨.inl ⟨rfl, rfl, rfl⟩, .inl ⟨rfl, rfl, rfl⟩, fun q hq => by cases hq⟩ rfl rfl 1
      | true =>
        cases ou with
        | false =>
          obtain ⟨r0, r1, r2, r3, r4, r5, r6⟩ := cells7 _ w.heap.size _ _ _ _ _ _ _ _ U4.out.res
          obtain ⟨s0, s1, s2, s3, s4, s5, s6⟩ := free7 _ w.heap.size _ _ _ _ _ _ _ _ U4.out.res
          go_wp2_with fail
          refine bodyPost_ret (results_row_tmp rfl _ _ w.heap.size _ _ (0, 0) _ rfl (set7 _ _ _ _ _ _ _ U4.out.res) Tryz.underlying29 rfl (by kernel_rfl)) rfl ?_
          rw [(rowV_f (p := p) (k := k) (cs := cs) (s := t) (by unfold formB; rw [HOU.out]; simp)).1, (rowV_f (p := p) (k := k) (cs := cs) (s := t) (by unfold formB; rw [HOU.out]; simp)).2]
          exact rowTup_of U4.out.bel U4.out.sz ⟨.inl ⟨rfl, rfl, rfl⟩, .inl ⟨rfl, rfl, rfl⟩, fun q hq => by cases hq⟩ rfl rfl 1
        | true =>
          obtain ⟨hg0, hxu⟩ : gu = 0 ∧ encS 0 t = xu := by simpa using EU.out
          subst hg0
          have HU : Hd (encS 0 t = xu) := ⟨hxu⟩
          clear hxu
          have HF : Hd (formB p k cs t = true) := ⟨by unfold formB; rw [HIP.out, HNK.out, HIC.out, HOU.out]; rfl⟩
          go_wp2_with fail
          refine (specCellOf_any cs s _ hs).mono ?_
          rewrite [Ht.out, HOO.out, HXO.out, HGO.out]
          rintro e v5 ⟨a5, n5, c5, rfl, hn, hO, hsz, hB⟩
          have U5 : Hd (OCell w d1 0 au nu cu xu v5.heap.size go a5 n5 c5 xo (v5.alloc (.cells #[.int .i64 go, .slice a5 n5 c5] 27))) := ⟨oCell_new U4.out hn hO hB⟩
          generalize hd5 : v5.heap.size = d5 at *
          clear hn hO hsz hB U4
          have hp : p = 0 ∨ p = 1 ∨ p = 2 ∨ p = 3 ∨ p = 4 ∨ p = 5 ∨ p = 6 ∨ p = 7 := by have h9 := HIP.out; unfold inB at h9; rw [decide_eq_true_iff] at h9; omega
          have n1 : ¬ d1 = d5 := by have := U5.out.dd; omega
          have n2 : ¬ d5 = d1 := fun h => n1 h.symm
          have n3 : ¬ w.heap.size = d1 := by have := U5.out.wd; omega
          have n4 : ¬ w.heap.size = d5 := by have := U5.out.wd; have := U5.out.dd; omega
          obtain ⟨r0, r1, r2, r3, r4, r5, r6⟩ := cells7 _ w.heap.size _ _ _ _ _ _ _ _ U5.out.res
          obtain ⟨s0, s1, s2, s3, s4, s5, s6⟩ := free7 _ w.heap.size _ _ _ _ _ _ _ _ U5.out.res
          obtain ⟨k0, k1, _, _⟩ := cells2 _ d1 _ _ _ U5.out.box1
          obtain ⟨j0, j1, _, _⟩ := cells2 _ d5 _ _ _ U5.out.box2
          rcases hp with rfl | rfl | rfl | rfl | rfl | rfl | rfl | rfl
          · cases oo with
            | false =>
              go_wp2_with fail
              refine bodyPost_ret (results_row_tmp rfl _ _ w.heap.size _ _ (0, 0) _ rfl (set7 _ _ _ _ _ _ _ U5.out.res) Tryz.underlying29 rfl (by kernel_rfl)) rfl ?_
              rw [(rowV_unfit HF.out (by omega) HOO.out).1, (rowV_unfit HF.out (by omega) HOO.out).2]
              exact rowTup_of U5.out.bel U5.out.sz ⟨.inl ⟨rfl, rfl, rfl⟩, .inl ⟨rfl, rfl, rfl⟩, fun q hq => by cases hq⟩ rfl rfl 3
            | true =>
              obtain ⟨ho0, hxo⟩ : go = cs ∧ encS cs t = xo := by simpa using EO.out
              subst ho0
              have HXX : Hd (encS _ t = xo) := ⟨hxo⟩
              clear hxo
              go_wp2_with fail
              refine bodyPost_ret (results_row_tmp rfl _ _ w.heap.size _ _ (0, 0) _ rfl (set7 _ _ _ _ _ _ _ U5.out.res) Tryz.underlying29 rfl (by kernel_rfl)) rfl ?_
              rw [(rowV_old HF.out (by omega) HOO.out HXX.out).1, (rowV_old HF.out (by omega) HOO.out HXX.out).2]
              exact rowTup_of U5.out.bel U5.out.sz ⟨U5.out.own2, .inl ⟨rfl, rfl, rfl⟩, fun q hq h2 => by cases h2⟩ U5.out.len2 rfl 0
          · cases oo with
            | false =>
              go_wp2_with fail
              refine bodyPost_ret (results_row_tmp rfl _ _ w.heap.size _ _ (0, 0) _ rfl (set7 _ _ _ _ _ _ _ U5.out.res) Tryz.underlying29 rfl (by kernel_rfl)) rfl ?_
              rw [(rowV_aside HF.out (by omega) HOO.out HU.out).1, (rowV_aside HF.out (by omega) HOO.out HU.out).2]
              exact rowTup_of U5.out.bel U5.out.sz ⟨.inl ⟨rfl, rfl, rfl⟩, U5.out.own1, fun q hq => by cases hq⟩ rfl U5.out.len1 0
            | true =>
              obtain ⟨ho0, hxo⟩ : go = cs ∧ encS cs t = xo := by simpa using EO.out
              subst ho0
              have HXX : Hd (encS _ t = xo) := ⟨hxo⟩
              clear hxo
              go_wp2_with fail
              refine bodyPost_ret (results_row_tmp rfl _ _ w.heap.size _ _ (0, 0) _ rfl (set7 _ _ _ _ _ _ _ U5.out.res) Tryz.underlying29 rfl (by kernel_rfl)) rfl ?_
              rw [(rowV_both HF.out (by omega) HOO.out HXX.out HU.out).1, (rowV_both HF.out (by omega) HOO.out HXX.out HU.out).2]
              exact rowTup_of U5.out.bel U5.out.sz ⟨U5.out.own2, U5.out.own1, U5.out.ne⟩ U5.out.len2 U5.out.len1 0
          · cases oo with
            | false =>
              go_wp2_with fail
              refine bodyPost_ret (results_row_tmp rfl _ _ w.heap.size _ _ (0, 0) _ rfl (set7 _ _ _ _ _ _ _ U5.out.res) Tryz.underlying29 rfl (by kernel_rfl)) rfl ?_
              rw [(rowV_aside HF.out (by omega) HOO.out HU.out).1, (rowV_aside HF.out (by omega) HOO.out HU.out).2]
              exact rowTup_of U5.out.bel U5.out.sz ⟨.inl ⟨rfl, rfl, rfl⟩, U5.out.own1, fun q hq => by cases hq⟩ rfl U5.out.len1 0
            | true =>
              obtain ⟨ho0, hxo⟩ : go = cs ∧ encS cs t = xo := by simpa using EO.out
              subst ho0
              have HXX : Hd (encS _ t = xo) := ⟨hxo⟩
              clear hxo
              go_wp2_with fail
              refine bodyPost_ret (results_row_tmp rfl _ _ w.heap.size _ _ (0, 0) _ rfl (set7 _ _ _ _ _ _ _ U5.out.res) Tryz.underlying29 rfl (by kernel_rfl)) rfl ?_
              rw [(rowV_both HF.out (by omega) HOO.out HXX.out HU.out).1, (rowV_both HF.out (by omega) HOO.out HXX.out HU.out).2]
              exact rowTup_of U5.out.bel U5.out.sz ⟨U5.out.own2, U5.out.own1, U5.out.ne⟩ U5.out.len2 U5.out.len1 0
          · cases oo with
            | false =>
              go_wp2_with fail
              refine bodyPost_ret (results_row_tmp rfl _ _ w.heap.size _ _ (0, 0) _ rfl (set7 _ _ _ _ _ _ _ U5.out.res) Tryz.underlying29 rfl (by kernel_rfl)) rfl ?_
              rw [(rowV_aside HF.out (by omega) HOO.out HU.out).1, (rowV_aside HF.out (by omega) HOO.out HU.out).2]
              exact rowTup_of U5.out.bel U5.out.sz ⟨.inl ⟨rfl, rfl, rfl⟩, U5.out.own1, fun q hq => by cases hq⟩ rfl U5.out.len1 0
            | true =>
              obtain ⟨ho0, hxo⟩ : go = cs ∧ encS cs t = xo := by simpa using EO.out
              subst ho0
              have HXX : Hd (encS _ t = xo) := ⟨hxo⟩
              clear hxo
              go_wp2_with fail
              refine bodyPost_ret (results_row_tmp rfl _ _ w.heap.size _ _ (0, 0) _ rfl (set7 _ _ _ _ _ _ _ U5.out.res) Tryz.underlying29 rfl (by kernel_rfl)) rfl ?_
              rw [(rowV_both HF.out (by omega) HOO.out HXX.out HU.out).1, (rowV_both HF.out (by omega) HOO.out HXX.out HU.out).2]
              exact rowTup_of U5.out.bel U5.out.sz ⟨U5.out.own2, U5.out.own1, U5.out.ne⟩ U5.out.len2 U5.out.len1 0
          · go_wp2_with fail
            refine bodyPost_ret (results_row_tmp rfl _ _ w.heap.size _ _ (0, 0) _ rfl (set7 _ _ _ _ _ _ _ U5.out.res) Tryz.underlying29 rfl (by kernel_rfl)) rfl ?_
            rw [(rowV_new HF.out (by omega) HU.out).1, (rowV_new HF.out (by omega) HU.out).2]
            exact rowTup_of U5.out.bel U5.out.sz ⟨.inl ⟨rfl, rfl, rfl⟩, U5.out.own1, fun q hq => by cases hq⟩ rfl U5.out.len1 0
          · go_wp2_with fail
            refine bodyPost_ret (results_row_tmp rfl _ _ w.heap.size _ _ (0, 0) _ rfl (set7 _ _ _ _ _ _ _ U5.out.res) Tryz.underlying29 rfl (by kernel_rfl)) rfl ?_
            rw [(rowV_new HF.out (by omega) HU.out).1, (rowV_new HF.out (by omega) HU.out).2]
            exact rowTup_of U5.out.bel U5.out.sz ⟨.inl ⟨rfl, rfl, rfl⟩, U5.out.own1, fun q hq => by cases hq⟩ rfl U5.out.len1 0
          · cases oo with
            | false =>
              go_wp2_with fail
              refine bodyPost_ret (results_row_tmp rfl _ _ w.heap.size _ _ (0, 0) _ rfl (set7 _ _ _ _ _ _ _ U5.out.res) Tryz.underlying29 rfl (by kernel_rfl)) rfl ?_
              rw [(rowV_aside HF.out (by omega) HOO.out HU.out).1, (rowV_aside HF.out (by omega) HOO.out HU.out).2]
              exact rowTup_of U5.out.bel U5.out.sz ⟨.inl ⟨rfl, rfl, rfl⟩, U5.out.own1, fun q hq => by cases hq⟩ rfl U5.out.len1 0
            | true =>
              obtain ⟨ho0, hxo⟩ : go = cs ∧ encS cs t = xo := by simpa using EO.out
              subst ho0
              have HXX : Hd (encS _ t = xo) := ⟨hxo⟩
              clear hxo
              go_wp2_with fail
              refine bodyPost_ret (results_row_tmp rfl _ _ w.heap.size _ _ (0, 0) _ rfl (set7 _ _ _ _ _ _ _ U5.out.res) Tryz.underlying29 rfl (by kernel_rfl)) rfl ?_
              rw [(rowV_old HF.out (by omega) HOO.out HXX.out).1, (rowV_old HF.out (by omega) HOO.out HXX.out).2]
              exact rowTup_of U5.out.bel U5.out.sz ⟨U5.out.own2, .inl ⟨rfl, rfl, rfl⟩, fun q hq h2 => by cases h2⟩ U5.out.len2 rfl 0
          · cases oo with
            | false =>
              go_wp2_with fail
              refine bodyPost_ret (results_row_tmp rfl _ _ w.heap.size _ _ (0, 0) _ rfl (set7 _ _ _ _ _ _ _ U5.out.res) Tryz.underlying29 rfl (by kernel_rfl)) rfl ?_
              rw [(rowV_unfit HF.out (by omega) HOO.out).1, (rowV_unfit HF.out (by omega) HOO.out).2]
              exact rowTup_of U5.out.bel U5.out.sz ⟨.inl ⟨rfl, rfl, rfl⟩, .inl ⟨rfl, rfl, rfl⟩, fun q hq => by cases hq⟩ rfl rfl 3
            | true =>
              obtain ⟨ho0, hxo⟩ : go = cs ∧ encS cs t = xo := by simpa using EO.out
              subst ho0
              have HXX : Hd (encS _ t = xo) := ⟨hxo⟩
              clear hxo
              go_wp2_with fail
              refine bodyPost_ret (results_row_tmp rfl _ _ w.heap.size _ _ (0, 0) _ rfl (set7 _ _ _ _ _ _ _ U5.out.res) Tryz.underlying29 rfl (by kernel_rfl)) rfl ?_
              rw [(rowV_old HF.out (by omega) HOO.out HXX.out).1, (rowV_old HF.out (by omega) HOO.out HXX.out).2]
              exact rowTup_of U5.out.bel U5.out.sz ⟨U5.out.own2, .inl ⟨rfl, rfl, rfl⟩, fun q hq h2 => by cases h2⟩ U5.out.len2 rfl 0

end Go.Proofs.YtpafjehphajbhaaGreatDoor
