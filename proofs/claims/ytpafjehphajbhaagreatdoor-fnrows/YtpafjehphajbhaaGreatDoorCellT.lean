/- Contracts of CellOk, CellText, CellOf, Turn and SameText, in the specification. -/
import Derived.Test.YtpafjehphajbhaaGreatDoorCellP
import Derived.Test.YtpafjehphajbhaaGreatDoorCellS
import Derived.Test.YtpafjehphajbhaaGreatDoorDecNil
namespace Go.Proofs.YtpafjehphajbhaaGreatDoor
set_option maxRecDepth 4000
open Go.RowKit

/-- A cell that is answered, with a flag: its bytes are new memory, or nil; at least the result's own box was laid. -/
structure CellOut (w : World) (tag : Int) (bs : List UInt8) (ok : Bool) (e : Ending) (w' : World) : Prop where
  out : ∃ ao n c, e = .returned (.tuple #[.agg #[.int .i64 tag, .slice ao n c], .bool ok]) ∧ bs.length = n ∧ OwnO w' (w.heap.size + 1) ao c bs ∧ w.heap.size < w'.heap.size ∧ Below w.heap.size w w'

theorem box_at {w w1 : World} {v : Value} {tag : Int} (hb : Below (w.alloc (.cells #[.int .i64 tag, v] 27)).heap.size (w.alloc (.cells #[.int .i64 tag, v] 27)) w1) :
    w1.heap[w.heap.size]? = some (.cells #[.int .i64 tag, v] 27 (0, 0)) := (hb.block w.heap.size (by simp)).trans (heap_alloc_new w _)

set_option maxHeartbeats 400000 in
theorem specCellOk_any (tag : Int) (ao : Option Addr) (n c : Nat) (w : World) :
    Calls Tryz.prog 57 #[.agg #[.int .i64 tag, .slice ao n c]] w fun e w' => e = .returned (.bool (cOk tag n)) ∧ Below w.heap.size w w' := by
  obtain ⟨ok, hok⟩ : ∃ ok, inB tag 0 5 = ok := ⟨_, rfl⟩
  have HK : Hd (inB tag 0 5 = ok) := ⟨hok⟩
  unfold cOk
  rw [hok]
  clear hok
  go_enter Tryz.func57, Tryz.ntmps57
  go_wp2_with fail
  refine (l5Cs_any tag _).mono ?_
  rintro e w1 ⟨rfl, hw1⟩
  subst hw1
  rewrite [HK.out]
  clear HK
  cases ok with
  | false =>
    go_wp2_with fail
    go_ret
    exact ⟨rfl, below_lit _ _⟩
  | true =>
    go_wp2_with fail
    go_ret
    exact ⟨rfl, below_lit _ _⟩

set_option maxHeartbeats 400000 in
theorem specCellText_any (tag : Int) (ao : Option Addr) (n c : Nat) (bs : List UInt8) (w : World) (h : CellAt w ao n c bs) (hl : n ≤ 1048576) :
    Calls Tryz.prog 52 #[.agg #[.int .i64 tag, .slice ao n c]] w (TextB w (tS tag bs) (tOk tag bs)) := by
  have HC : Hd (CellAt w ao n c bs) := ⟨h⟩
  have Hn : Hd (bs.length = n) := ⟨h.size⟩
  clear h
  cases hk : cOk tag n with
  | false =>
    obtain ⟨e1, e2⟩ := tS_no (tag := tag) (bs := bs) (by rw [Hn.out]; exact hk)
    rw [e1, e2]
    have HK : Hd (cOk tag n = false) := ⟨hk⟩
    clear hk e1 e2
    go_enter Tryz.func52, Tryz.ntmps52
    go_wp2_with fail
    refine (specCellOk_any tag ao n c _).mono ?_
    rintro e w1 ⟨rfl, hB⟩
    rewrite [HK.out]
    have HB : Hd (Below w.heap.size w w1) := ⟨Below.next (below_lit w _) hB⟩
    clear hB
    go_wp2_with fail
    go_ret2
    exact ⟨rfl, HB.out⟩
  | true =>
    obtain ⟨e1, e2⟩ := tS_yes (tag := tag) (bs := bs) (by rw [Hn.out]; exact hk)
    rw [e1, e2]
    have HK : Hd (cOk tag n = true) := ⟨hk⟩
    clear hk e1 e2
    obtain ⟨S, hS⟩ : ∃ S, decS tag bs = S := ⟨_, rfl⟩
    have HS : Hd (decS tag bs = S) := ⟨hS⟩
    obtain ⟨ok, hok⟩ : ∃ ok, decOk tag bs = ok := ⟨_, rfl⟩
    have HO : Hd (decOk tag bs = ok) := ⟨hok⟩
    rw [hS, hok]
    clear hS hok
    go_enter Tryz.func52, Tryz.ntmps52
    go_wp2_with fail
    refine (specCellOk_any tag ao n c _).mono ?_
    rintro e w1 ⟨rfl, hB⟩
    rewrite [HK.out]
    have HB : Hd (Below w.heap.size w w1) := ⟨Below.next (below_lit w _) hB⟩
    obtain ⟨b0, b1, _, _⟩ := cells2 w1 w.heap.size _ _ _ (box_at hB)
    clear hB
    go_wp2_with fail
    refine (specDecode_o tag ao n c bs _ (HC.out.below HB.out) hl).mono ?_
    rintro e w2 ⟨rfl, hB2⟩
    rewrite [HS.out, HO.out]
    have HB2 : Hd (Below w.heap.size w w2) := ⟨Below.next HB.out hB2⟩
    clear hB2 HB b0 b1
    go_wp2_with fail
    go_ret2
    exact ⟨rfl, HB2.out⟩

set_option maxHeartbeats 400000 in
theorem specCellOf_any (tag : Int) (s : ByteArray) (w : World) (hs : s.size ≤ 1048576) :
    Calls Tryz.prog 39 #[.int .i64 tag, .string s] w (CellOut w (oTag tag s.data.toList) (oB tag s.data.toList) (oOk tag s.data.toList)) := by
  generalize ht : s.data.toList = t
  have Ht : Hd (s.data.toList = t) := ⟨ht⟩
  clear ht
  cases ho : oOk tag t with
  | false =>
    obtain ⟨e1, e2⟩ := oOk_f ho
    rw [e1, e2]
    obtain ⟨ok, hok⟩ : ∃ ok, encOk tag t = ok := ⟨_, rfl⟩
    have HO : Hd (encOk tag t = ok) := ⟨hok⟩
    obtain ⟨n, hn⟩ : ∃ n, (encS tag t).length = n := ⟨_, rfl⟩
    have HN : Hd ((encS tag t).length = n) := ⟨hn⟩
    have hbig : ok = true → 20 < (n : Int) := by
      intro h
      unfold oOk at ho
      rw [hok, hn, h] at ho
      simp at ho
      omega
    clear ho e1 e2 hok hn
    go_enter Tryz.func39, Tryz.ntmps39
    go_wp2_with fail
    refine (specEncode_any tag s _ hs).mono ?_
    rewrite [Ht.out, HO.out]
    rintro e w1 ⟨g1, c1, rfl, _, hO1, hB1⟩
    rewrite [HN.out]
    have HB : Hd (Below w.heap.size w w1) := ⟨Below.next (below_lit w _) hB1⟩
    have HK : Hd (w1.heap[w.heap.size]? = some (.cells #[.int .i64 0, .slice none 0 0] 27 (0, 0))) := ⟨box_at hB1⟩
    obtain ⟨b0, b1, b2, b3⟩ := cells2 w1 w.heap.size _ _ _ HK.out
    clear hO1 hB1
    cases ok with
    | false =>
      clear hbig
      go_wp2_with fail
      refine bodyPost_ret (results_row_tmp rfl _ _ w.heap.size _ _ (0, 0) _ rfl (set2 _ _ HK.out) Tryz.underlying27 rfl (by kernel_rfl)) rfl ?_
      exact ⟨none, 0, 0, rfl, rfl, .inl ⟨rfl, rfl, rfl⟩, by simpa using lt_of_block HK.out, bset (bset HB.out _ (Nat.le_refl _)) _ (Nat.le_refl _)⟩
    | true =>
      have hb2 := hbig rfl
      clear hbig
      go_wp2_with fail
      refine bodyPost_ret (results_row_tmp rfl _ _ w.heap.size _ _ (0, 0) _ rfl (set2 _ _ HK.out) Tryz.underlying27 rfl (by kernel_rfl)) rfl ?_
      exact ⟨none, 0, 0, rfl, rfl, .inl ⟨rfl, rfl, rfl⟩, by simpa using lt_of_block HK.out, bset (bset HB.out _ (Nat.le_refl _)) _ (Nat.le_refl _)⟩
  | true =>
    obtain ⟨h1, h2, e1, e2⟩ := oOk_t ho
    rw [e1, e2]
    have HO : Hd (encOk tag t = true) := ⟨h1⟩
    obtain ⟨es, hes⟩ : ∃ es, encS tag t = es := ⟨_, rfl⟩
    have HE : Hd (encS tag t = es) := ⟨hes⟩
    obtain ⟨n, hn⟩ : ∃ n, es.length = n := ⟨_, rfl⟩
    have HN : Hd (es.length = n) := ⟨hn⟩
    rw [hes] at h2 ⊢
    have hle : (n : Int) ≤ 20 := by omega
    clear ho e1 e2 h1 h2 hes hn
    go_enter Tryz.func39, Tryz.ntmps39
    go_wp2_with fail
    refine (specEncode_any tag s _ hs).mono ?_
    rewrite [Ht.out, HO.out, HE.out]
    rintro e w1 ⟨g1, c1, rfl, hg1, hO1, hB1⟩
    rewrite [HN.out]
    have HB : Hd (Below w.heap.size w w1) := ⟨Below.next (below_lit w _) hB1⟩
    have HK : Hd (w1.heap[w.heap.size]? = some (.cells #[.int .i64 0, .slice none 0 0] 27 (0, 0))) := ⟨box_at hB1⟩
    obtain ⟨b0, b1, b2, b3⟩ := cells2 w1 w.heap.size _ _ _ HK.out
    have hg2 : w.heap.size < g1 := by simp at hg1; omega
    have HO1 : Hd (Own w1 g1 c1 es) := ⟨hO1⟩
    clear hO1 hB1 hg1
    go_wp2_with fail
    refine bodyPost_ret (results_row_tmp rfl _ _ w.heap.size _ _ (0, 0) _ rfl (set2 _ _ HK.out) Tryz.underlying27 rfl (by kernel_rfl)) rfl ?_
    exact ⟨_, n, c1, rfl, HN.out, .inr ⟨g1, rfl, by omega, (HO1.out.of_block (block_set rfl (by omega))).of_block (block_set rfl (by omega))⟩, by simpa using lt_of_block HK.out, bset (bset HB.out _ (Nat.le_refl _)) _ (Nat.le_refl _)⟩

end Go.Proofs.YtpafjehphajbhaaGreatDoor
