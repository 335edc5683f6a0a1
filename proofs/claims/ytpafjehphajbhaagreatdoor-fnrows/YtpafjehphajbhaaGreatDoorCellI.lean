/- Contracts of CellOk, CellText and CellOf, in the program. -/
import Derived.Test.YtpafjehphajbhaaGreatDoorCellU
namespace Go.Proofs.YtpafjehphajbhaaGreatDoor
set_option maxRecDepth 4000
open Go.RowKit

set_option maxHeartbeats 400000 in
theorem implCellOk_any (tag : Int) (ao : Option Addr) (n c : Nat) (w : World) :
    Calls Tryz.prog 66 #[.agg #[.int .i64 tag, .slice ao n c]] w fun e w' => e = .returned (.bool (cOk tag n)) ∧ Below w.heap.size w w' := by
  unfold cOk
  cases hi : inB tag 0 5 with
  | false =>
    have hcs : ¬ (0 ≤ tag ∧ tag ≤ 5) := of_decide_eq_false hi
    clear hi
    go_enter Tryz.func66, Tryz.ntmps66
    go_wp2_with fail
    refine (setOf_no tag _ hcs).mono ?_
    rintro e w1 ⟨rfl, hw1⟩
    replace hw1 := hw1.symm
    subst hw1
    clear hcs
    go_wp2_with fail
    go_ret
    exact ⟨rfl, below_lit _ _⟩
  | true =>
    have hcs := in_cs hi
    clear hi
    go_enter Tryz.func66, Tryz.ntmps66
    go_wp2_with fail
    refine (setOf_yes tag _ hcs).mono ?_
    rintro e w1 ⟨rfl, hw1⟩
    replace hw1 := hw1.symm
    subst hw1
    generalize setV tag = sv
    clear hcs
    go_wp2_with fail
    go_ret
    exact ⟨rfl, below_lit _ _⟩

/-- What a cell says, in the program: a text beside whether there is one. -/
structure SaidOut (w : World) (s : List UInt8) (ok : Bool) (e : Ending) (w' : World) : Prop where
  out : e = .returned (.agg #[.string ⟨s.toArray⟩, .bool ok]) ∧ Below w.heap.size w w'

set_option maxHeartbeats 400000 in
theorem implSaying_any (tag : Int) (ao : Option Addr) (n c : Nat) (bs : List UInt8) (w : World) (h : CellAt w ao n c bs) (hl : n ≤ 1048576) (T : Hd (AllAt w)) :
    Calls Tryz.prog 69 #[.agg #[.int .i64 tag, .slice ao n c]] w (SaidOut w (tS tag bs) (tOk tag bs)) := by
  have HC : Hd (CellAt w ao n c bs) := ⟨h⟩
  have Hn : Hd (bs.length = n) := ⟨h.size⟩
  clear h
  cases hk : cOk tag n with
  | false =>
    obtain ⟨e1, e2⟩ := tS_no (tag := tag) (bs := bs) (by rw [Hn.out]; exact hk)
    rw [e1, e2]
    have HK : Hd (cOk tag n = false) := ⟨hk⟩
    clear hk e1 e2
    go_enter Tryz.func69, Tryz.ntmps69
    go_wp2_with fail
    refine (implCellOk_any tag ao n c _).mono ?_
    rintro e w1 ⟨rfl, hB⟩
    rewrite [HK.out]
    have HB : Hd (Below w.heap.size w w1) := ⟨Below.next (below_lit2 w _ _) hB⟩
    have R1 : Hd (w1.heap[w.heap.size + 1]? = some (.cells #[.string ⟨#[]⟩, .bool false] 70 (0, 0))) := ⟨(two_at hB).2⟩
    obtain ⟨r0, r1, r2, r3⟩ := cells2 _ (w.heap.size + 1) _ _ _ R1.out
    clear hB
    go_wp2_with fail
    refine bodyPost_ret (results_cell_row rfl _ _ (w.heap.size + 1) _ _ (0, 0) _ rfl (set2 _ _ R1.out) Tryz.underlying70 rfl (by kernel_rfl)) rfl ?_
    exact ⟨rfl, bset (bset HB.out _ (by omega)) _ (by omega)⟩
  | true =>
    obtain ⟨e1, e2⟩ := tS_yes (tag := tag) (bs := bs) (by rw [Hn.out]; exact hk)
    rw [e1, e2]
    have HK : Hd (cOk tag n = true) := ⟨hk⟩
    clear hk e1 e2
    obtain ⟨S, hS⟩ : ∃ S, (decS tag bs).toArray = S := ⟨_, rfl⟩
    have HS : Hd ((decS tag bs).toArray = S) := ⟨hS⟩
    obtain ⟨ok, hok⟩ : ∃ ok, decOk tag bs = ok := ⟨_, rfl⟩
    have HO : Hd (decOk tag bs = ok) := ⟨hok⟩
    have HE : Hd (⟨(decS tag bs).toArray⟩ = (⟨S⟩ : ByteArray)) := ⟨by rw [hS]⟩
    clear hS hok
    go_enter Tryz.func69, Tryz.ntmps69
    go_wp2_with fail
    refine (implCellOk_any tag ao n c _).mono ?_
    rintro e w1 ⟨rfl, hB⟩
    rewrite [HK.out]
    have HB : Hd (Below w.heap.size w w1) := ⟨Below.next (below_lit2 w _ _) hB⟩
    have R1 : Hd (w1.heap[w.heap.size + 1]? = some (.cells #[.string ⟨#[]⟩, .bool false] 70 (0, 0))) := ⟨(two_at hB).2⟩
    obtain ⟨b0, b1, _, _⟩ := cells2 w1 w.heap.size _ _ _ (two_at hB).1
    clear hB
    go_wp2_with fail
    refine (implDecode_o tag ao n c bs _ (HC.out.below HB.out) hl ⟨T.out.below HB.out⟩).mono ?_
    rintro e w2 ⟨rfl, hB2⟩
    rewrite [HS.out, HO.out]
    have HB2 : Hd (Below w.heap.size w w2) := ⟨Below.next HB.out hB2⟩
    have R2 : Hd (w2.heap[w.heap.size + 1]? = some (.cells #[.string ⟨#[]⟩, .bool false] 70 (0, 0))) := ⟨(hB2.block _ (lt_of_block R1.out)).trans R1.out⟩
    obtain ⟨r0, r1, r2, r3⟩ := cells2 _ (w.heap.size + 1) _ _ _ R2.out
    clear hB2 HB b0 b1 R1
    go_wp2_with fail
    refine bodyPost_ret (results_cell_row rfl _ _ (w.heap.size + 1) _ _ (0, 0) _ rfl (set2 _ _ R2.out) Tryz.underlying70 rfl (by kernel_rfl)) rfl ?_
    exact ⟨by rw [HE.out, HO.out], bset (bset HB2.out _ (by omega)) _ (by omega)⟩

theorem said_at {w : World} {S : Array UInt8} {ok : Bool} : (w.alloc (.cells #[.string ⟨S⟩, .bool ok] 70)).heap[w.heap.size]? = some (.cells #[.string ⟨S⟩, .bool ok] 70 (0, 0)) := alloc_new w _ rfl

set_option maxHeartbeats 400000 in
theorem implCellText_any (tag : Int) (ao : Option Addr) (n c : Nat) (bs : List UInt8) (w : World) (h : CellAt w ao n c bs) (hl : n ≤ 1048576) (T : Hd (AllAt w)) :
    Calls Tryz.prog 42 #[.agg #[.int .i64 tag, .slice ao n c]] w (TextB w (tS tag bs) (tOk tag bs)) := by
  have HC : Hd (CellAt w ao n c bs) := ⟨h⟩
  obtain ⟨S, hS⟩ : ∃ S, (tS tag bs).toArray = S := ⟨_, rfl⟩
  have HS : Hd ((tS tag bs).toArray = S) := ⟨hS⟩
  obtain ⟨ok, hok⟩ : ∃ ok, tOk tag bs = ok := ⟨_, rfl⟩
  have HO : Hd (tOk tag bs = ok) := ⟨hok⟩
  have HE : Hd (⟨(tS tag bs).toArray⟩ = (⟨S⟩ : ByteArray)) := ⟨by rw [hS]⟩
  clear h hS hok
  go_enter Tryz.func42, Tryz.ntmps42
  go_wp2_with fail
  refine (implSaying_any tag ao n c bs _ (HC.out.below (below_lit w _)) hl ⟨T.out.below (below_lit w _)⟩).mono ?_
  rintro e w1 ⟨rfl, hB⟩
  rewrite [HS.out, HO.out]
  have HB : Hd (Below w.heap.size w w1) := ⟨Below.next (below_lit w _) hB⟩
  clear hB
  go_wp2_with fail
  have B2 : Hd (Below w.heap.size w (w1.alloc (.cells #[.string ⟨S⟩, .bool ok] 70))) := ⟨Below.next HB.out (below_lit w1 _)⟩
  go_quiet (fail)
  go_wp2_with fail
  go_ret2
  exact ⟨by rw [HE.out, HO.out]; rfl, Below.next B2.out (below_drewN' _ _ _)⟩

set_option maxHeartbeats 1000000 in
theorem implCellOf_any (tag : Int) (s : ByteArray) (w : World) (hs : s.size ≤ 1048576) (T : Hd (AllAt w)) :
    Calls Tryz.prog 36 #[.int .i64 tag, .string s] w (CellOut w (oTag tag s.data.toList) (oB tag s.data.toList) (oOk tag s.data.toList)) := by
  generalize ht : s.data.toList = t
  have Ht : Hd (s.data.toList = t) := ⟨ht⟩
  clear ht
  obtain ⟨ok, hok⟩ : ∃ ok, encOk tag t = ok := ⟨_, rfl⟩
  have HO : Hd (encOk tag t = ok) := ⟨hok⟩
  obtain ⟨es, hes⟩ : ∃ es, encS tag t = es := ⟨_, rfl⟩
  have HE : Hd (encS tag t = es) := ⟨hes⟩
  obtain ⟨n, hn⟩ : ∃ n, es.length = n := ⟨_, rfl⟩
  have HN : Hd (es.length = n) := ⟨hn⟩
  have E1 : Hd (ok = true → inB tag 0 5 = true) := ⟨fun h => by
    have := hok.trans h
    simp only [encOk, encIn, Bool.and_eq_true] at this
    exact this.1.1⟩
  have E2 : Hd (oOk tag t = (ok && cOk tag n)) := ⟨by
    cases hk : ok with
    | false => unfold oOk; rw [hok, hk]; rfl
    | true => unfold oOk cOk; rw [hok, hk, hes, hn, E1.out hk]; simp⟩
  have E3 : Hd (oOk tag t = true → oTag tag t = tag ∧ oB tag t = es) := ⟨fun h => by
    obtain ⟨_, _, e1, e2⟩ := oOk_t h
    exact ⟨e1, by rw [e2, hes]⟩⟩
  have E4 : Hd (oOk tag t = false → oTag tag t = 0 ∧ oB tag t = []) := ⟨oOk_f⟩
  clear hok hes hn
  go_enter Tryz.func36, Tryz.ntmps36
  go_wp2_with fail
  refine (implEncode_any tag s _ hs ⟨T.out.below (below_lit w _)⟩).mono ?_
  rewrite [Ht.out, HO.out, HE.out]
  rintro e w1 ⟨g1, c1, rfl, hg1, hO1, hB1⟩
  rewrite [HN.out]
  have B1 : Hd (Below w.heap.size w w1) := ⟨Below.next (below_lit w _) hB1⟩
  have K1 : Hd (w1.heap[w.heap.size]? = some (.cells #[.int .i64 0, .slice none 0 0] 27 (0, 0))) := ⟨box_at hB1⟩
  have hg2 : w.heap.size < g1 := by simp at hg1; omega
  have O1 : Hd (Own w1 g1 c1 es) := ⟨hO1⟩
  clear hO1 hB1 hg1
  have hb2 : Below w1.heap.size w1 (w1.alloc (.cells #[.int .i64 tag, .slice (some ⟨g1, 0, none⟩) n c1] 27)) := below_lit w1 _
  have B2 : Hd (Below w.heap.size w (w1.alloc (.cells #[.int .i64 tag, .slice (some ⟨g1, 0, none⟩) n c1] 27))) := ⟨Below.next B1.out hb2⟩
  have K2 : Hd ((w1.alloc (.cells #[.int .i64 tag, .slice (some ⟨g1, 0, none⟩) n c1] 27)).heap[w.heap.size]? = some (.cells #[.int .i64 0, .slice none 0 0] 27 (0, 0))) := ⟨(hb2.block _ (lt_of_block K1.out)).trans K1.out⟩
  have C2 : Hd ((w1.alloc (.cells #[.int .i64 tag, .slice (some ⟨g1, 0, none⟩) n c1] 27)).heap[w1.heap.size]? = some (.cells #[.int .i64 tag, .slice (some ⟨g1, 0, none⟩) n c1] 27 (0, 0))) := ⟨alloc_new w1 _ rfl⟩
  have O2 : Hd (Own (w1.alloc (.cells #[.int .i64 tag, .slice (some ⟨g1, 0, none⟩) n c1] 27)) g1 c1 es) := ⟨O1.out.below hb2⟩
  clear hb2
  cases ok with
  | false =>
    have E5 : Hd (oOk tag t = false ∧ oTag tag t = 0 ∧ oB tag t = []) := ⟨by have h := E2.out; simp at h; exact ⟨h, E4.out h⟩⟩
    obtain ⟨r0, r1, r2, r3⟩ := cells2 _ w.heap.size _ _ _ K2.out
    clear E1 E2 E3 E4
    go_wp2_with fail
    refine bodyPost_ret (results_row_tmp rfl _ _ w.heap.size _ _ (0, 0) _ rfl (set2 _ _ K2.out) Tryz.underlying27 rfl (by kernel_rfl)) rfl ?_
    obtain ⟨f1, f2, f3⟩ := E5.out
    rw [f1, f2, f3]
    exact ⟨none, 0, 0, rfl, rfl, .inl ⟨rfl, rfl, rfl⟩, by simpa using lt_of_block K2.out, bset (bset B2.out _ (Nat.le_refl _)) _ (Nat.le_refl _)⟩
  | true =>
    go_wp2_with fail
    refine (implCellOk_any tag (some ⟨g1, 0, none⟩) n c1 _).mono ?_
    rintro e w3 ⟨rfl, hB3⟩
    have B3 : Hd (Below w.heap.size w w3) := ⟨Below.next B2.out hB3⟩
    have K3 : Hd (w3.heap[w.heap.size]? = some (.cells #[.int .i64 0, .slice none 0 0] 27 (0, 0))) := ⟨(hB3.block _ (lt_of_block K2.out)).trans K2.out⟩
    have C3 : Hd (w3.heap[w1.heap.size]? = some (.cells #[.int .i64 tag, .slice (some ⟨g1, 0, none⟩) n c1] 27 (0, 0))) := ⟨(hB3.block _ (lt_of_block C2.out)).trans C2.out⟩
    have O3 : Hd (Own w3 g1 c1 es) := ⟨O2.out.below hB3⟩
    obtain ⟨r0, r1, r2, r3⟩ := cells2 _ w.heap.size _ _ _ K3.out
    obtain ⟨a0, a1, _, _⟩ := cells2 _ w1.heap.size _ _ _ C3.out
    clear hB3 B2 K2 C2 O2
    cases hk : cOk tag n with
    | false =>
      have E5 : Hd (oOk tag t = false ∧ oTag tag t = 0 ∧ oB tag t = []) := ⟨by have h := E2.out; rw [hk] at h; simp at h; exact ⟨h, E4.out h⟩⟩
      clear E1 E2 E3 E4 hk
      go_wp2_with fail
      refine bodyPost_ret (results_row_tmp rfl _ _ w.heap.size _ _ (0, 0) _ rfl (set2 _ _ K3.out) Tryz.underlying27 rfl (by kernel_rfl)) rfl ?_
      obtain ⟨f1, f2, f3⟩ := E5.out
      rw [f1, f2, f3]
      exact ⟨none, 0, 0, rfl, rfl, .inl ⟨rfl, rfl, rfl⟩, by simpa using lt_of_block K3.out, bset (bset B3.out _ (Nat.le_refl _)) _ (Nat.le_refl _)⟩
    | true =>
      have E5 : Hd (oOk tag t = true ∧ oTag tag t = tag ∧ oB tag t = es) := ⟨by have h := E2.out; rw [hk] at h; simp at h; exact ⟨h, E3.out h⟩⟩
      clear E1 E2 E3 E4 hk
      go_wp2_with fail
      refine bodyPost_ret (results_row_tmp rfl _ _ w.heap.size _ _ (0, 0) _ rfl (set2 _ _ K3.out) Tryz.underlying27 rfl (by kernel_rfl)) rfl ?_
      obtain ⟨f1, f2, f3⟩ := E5.out
      rw [f1, f2, f3]
      exact ⟨_, n, c1, rfl, HN.out, .inr ⟨g1, rfl, by omega, (O3.out.of_block (block_set rfl (by omega))).of_block (block_set rfl (by omega))⟩, by simpa using lt_of_block K3.out, bset (bset B3.out _ (Nat.le_refl _)) _ (Nat.le_refl _)⟩

end Go.Proofs.YtpafjehphajbhaaGreatDoor
