/- Contracts of the program's endings and mayGoOn: whether bytes are nothing, or begin a sign and do not end it. -/
import Derived.Test.YtjbideiifoadkaaDoorFillP
import Derived.Test.YtjbideiifoadkaaDoorCodeI
import Derived.Test.YtjbideiifoadkaaDoorConcat
import Derived.Test.YtjbideiifoadkaaDoorRepeat
namespace Go.Proofs.YtjbideiifoadkaaDoor
set_option maxRecDepth 4000
open Go.RowKit

theorem as_be (w : World) (c : Int) : (Instr.typeAssert (.iface 80 (.agg #[.int .i64 c])) 53 81 true).run Tryd.prog w = .ok (.tuple #[.agg #[], .bool false]) w := by kernel_rfl

theorem lit_bytes (w : World) (zs : List UInt8) : Reads (w.alloc (.cells (zs.map cb).toArray 5)) (some ⟨w.heap.size, 0, none⟩) zs.length zs := by
  refine ⟨rfl, .inr ⟨_, 0, rfl, fun j hj => ?_⟩⟩
  rw [cell_of_row (w.alloc _) _ (0 + j) _ _ (0, 0) (heap_alloc_new w _)]
  simp [cb, List.getD, List.getElem?_eq_getElem hj]

set_option maxHeartbeats 400000 in
theorem endings_any (cs : Int) (w : World) : Calls Tryd.prog 54 #[setV cs] w fun e w' => ∃ ao c, e = .returned (.slice ao (endL cs).length c) ∧ Reads w' ao (endL cs).length (endL cs) ∧ Below w.heap.size w w' := by
  by_cases h0 : cs = 0
  · subst h0
    have a1 := fun w => as_uu w
    rewrite [setV_utf]
    go_enter Tryd.func54, Tryd.ntmps54
    go_wp2_with fail
    go_ret
    exact ⟨_, 2, rfl, lit_bytes w [128, 191], below_lit _ _⟩
  by_cases h5 : cs = 5
  · subst h5
    have a1 := fun w => as_eu w
    have a2 := fun w => as_ee w
    rewrite [setV_euc]
    clear h0
    go_enter Tryd.func54, Tryd.ntmps54
    go_wp2_with fail
    go_ret
    exact ⟨_, 1, rfl, lit_bytes w [161], below_lit _ _⟩
  · have a1 := fun w c => as_bu w c
    have a2 := fun w c => as_be w c
    have HE : Hd (endL cs = []) := ⟨endL_byte h0 h5⟩
    rewrite [setV_byte h0 h5]
    clear h0 h5
    go_enter Tryd.func54, Tryd.ntmps54
    go_wp2_with fail
    go_ret
    exact ⟨none, 0, by rw [HE.out]; rfl, by rw [HE.out]; exact ⟨rfl, .inl rfl⟩, Below.refl _ _⟩

theorem lit_byte (w : World) (c : UInt8) : (w.alloc (.cells #[.int .u8 (c.toNat : Int)] 5)).cell? ⟨w.heap.size, 0, none⟩ = some (cb c) := by
  rw [cell_of_row (w.alloc _) _ 0 _ _ (0, 0) (heap_alloc_new w _)]; rfl

/-- Where the loop of mayGoOn stands. -/
structure MayAt (w : World) (cs : Int) (bs : List UInt8) (ae : Option Addr) (k : Nat) (wr : World) : Prop where
  no : NoFill cs bs k
  le : k ≤ (endL cs).length
  ends : Reads wr ae (endL cs).length (endL cs)
  bel : Below w.heap.size w wr

theorem MayAt.below {w : World} {cs : Int} {bs : List UInt8} {ae : Option Addr} {k : Nat} {wr wx : World} (h : MayAt w cs bs ae k wr) (hB : Below wr.heap.size wr wx) : MayAt w cs bs ae k wx :=
  ⟨h.no, h.le, h.ends.below rfl hB, Below.next h.bel hB⟩

set_option maxHeartbeats 1000000 in
theorem mayGoOn_some (cs : Int) (ao : Option Addr) (len cap : Nat) (bs : List UInt8) (w : World) (hr : Reads w ao len bs) (h0 : 0 < len) (h3 : len ≤ 3) (T : Hd (AllAt w)) :
    Calls Tryd.prog 37 #[setV cs, .slice ao len cap] w fun e w' => e = .returned (.bool (mayB cs bs)) ∧ Below w.heap.size w w' := by
  have hne : bs ≠ [] := by intro e; have := hr.1; rw [e] at this; simp at this; omega
  have HM : Hd (bs ≠ [] ∧ mayB cs bs = beg cs bs) := ⟨hne, mayB_some hne⟩
  have Hr : Hd (Reads w ao len bs) := ⟨hr⟩
  clear hr hne
  have n0 : ((len : Int) == 0) = false := by simp; omega
  have n3 : ¬ (3 : Int) < (len : Int) := by omega
  generalize hsv : setV cs = sv
  have HSV : Hd (setV cs = sv) := ⟨hsv⟩
  clear hsv
  obtain ⟨N, hN⟩ : ∃ N, (endL cs).length = N := ⟨_, rfl⟩
  have HN : Hd ((endL cs).length = N) := ⟨hN⟩
  have hN2 : N ≤ 2 := by rw [← hN]; exact endL_len cs
  clear hN
  go_enter Tryd.func37, Tryd.ntmps37
  go_wp2_with fail
  rewrite [← HSV.out]
  refine (endings_any cs w).mono ?_
  rintro e w1 ⟨ae, ce, rfl, hR1, hB1⟩
  rewrite [HSV.out, HN.out]
  have W0 : Hd (MayAt w cs bs ae 0 w1) := ⟨noFill_zero cs bs, Nat.zero_le _, hR1, hB1⟩
  clear hR1 hB1
  go_wp2_with fail
  go_loopw [22] (fun i wr => ∃ k : Nat, i = .int .i64 k ∧ Hd (MayAt w cs bs ae k wr)) (fun i _ => N - (intOf i).toNat)
  case atStart => exact ⟨0, rfl, W0⟩
  case round =>
    clear W0
    obtain ⟨k, rfl, R⟩ := hrel
    by_cases hlt : k < N
    · have hkI : (k : Int) < (N : Int) := by omega
      have hk0 : (0 : Int) ≤ (k : Int) := by omega
      obtain ⟨eb, eo, he, hc⟩ : ∃ b off, ae = some ⟨b, off, none⟩ ∧ ∀ j, j < N → wr.cell? ⟨b, off + j, none⟩ = some (.int .u8 (((endL cs).getD j 0).toNat : Int)) := by
        have h := R.out.ends.2
        rw [HN.out] at h
        rcases h with h | ⟨b, off, h1, h2⟩
        · omega
        · exact ⟨b, off, h1, h2⟩
      subst he
      have hck := hc k hlt
      obtain ⟨c, hcc⟩ : ∃ c, (endL cs).getD k 0 = c := ⟨_, rfl⟩
      have HCC : Hd ((endL cs).getD k 0 = c) := ⟨hcc⟩
      rw [hcc] at hck
      clear hc hcc
      go_wp2_with fail
      refine (repeat_three wr.heap.size c _ (lit_byte wr c)).mono ?_
      rintro e w2 ⟨g2, rfl, hg2, hR2, hB2⟩
      have R2 : Hd (MayAt w cs bs (some ⟨eb, eo, none⟩) k w2) := ⟨(R.out.below (below_lit _ _)).below hB2⟩
      have F2 : Hd (Row w2 g2 [c, c, c]) := ⟨hR2⟩
      clear hg2 hR2 hB2 R hck
      go_wp2_with fail
      refine (concat_two w2.heap.size len cap 3 3 ao (some ⟨g2, 0, none⟩) bs [c, c, c] _ (alloc_new w2 _ rfl) (Hr.out.below rfl (Below.next R2.out.bel (below_lit _ _))) ((F2.out.below (below_lit _ _)).reads rfl) (by omega) (by omega)).mono ?_
      rintro e w3 ⟨aq, cq, rfl, hO3, hB3⟩
      have R3 : Hd (MayAt w cs bs (some ⟨eb, eo, none⟩) k w3) := ⟨(R2.out.below (below_lit _ _)).below hB3⟩
      obtain ⟨q, rfl, hO4⟩ : ∃ q, aq = some ⟨q, 0, none⟩ ∧ Own w3 q cq (bs ++ [c, c, c]) := by
        rcases hO3 with ⟨_, _, h⟩ | ⟨q, h1, _, h2⟩
        · simp at h
        · exact ⟨q, h1, h2⟩
      obtain ⟨fl, hfl⟩ : ∃ fl, bs ++ [c, c, c] = fl := ⟨_, rfl⟩
      have HFL : Hd (bs ++ [c, c, c] = fl) := ⟨hfl⟩
      have HFN : Hd (fl.length = len + 3) := ⟨by rw [← hfl, List.length_append, Hr.out.1]; rfl⟩
      rw [hfl] at hO4 ⊢
      rw [HFN.out]
      have O4 : Hd (Own w3 q cq fl) := ⟨hO4⟩
      have hcq : len + 3 ≤ cq := by have := hO4.le; rw [HFN.out] at this; exact this
      clear hO3 hB3 hO4 R2 F2 hfl
      go_wp2_with fail
      rewrite [← HSV.out]
      refine (implSignAt_any cs q 0 (len + 3) cq 0 fl _ HFN.out hcq (O4.out.cell HFN.out) (by omega) (by omega) ⟨T.out.below R3.out.bel⟩).mono ?_
      rintro e w4 ⟨n, next, ok, rfl, hS, hB4⟩
      rewrite [HSV.out]
      have R4 : Hd (MayAt w cs bs (some ⟨eb, eo, none⟩) k w4) := ⟨R3.out.below hB4⟩
      have hF : Hd (fillB cs bs c = (hdOk cs fl && decide (bs.length < hdK cs fl))) := ⟨by unfold fillB; rw [HFL.out]⟩
      have hS1 : ok = hdOk cs fl := hS.ok
      cases hok : hdOk cs fl with
      | false =>
        have FF : Hd (fillB cs bs ((endL cs).getD k 0) = false) := ⟨by rw [HCC.out, hF.out, hok]; rfl⟩
        rw [hok] at hS1
        subst hS1
        clear hS hF hok hB4 R3 O4
        go_wp2_with fail
        go_roundw
        case rel => exact ⟨k + 1, by go_num, ⟨noFill_next R4.out.no FF.out, by rw [HN.out]; omega, R4.out.ends, R4.out.bel⟩⟩
        case measure => simp [intOf]; omega
      | true =>
        obtain ⟨_, s2⟩ := hS.yes hok
        rw [hok] at hS1
        subst hS1
        have s3 : next = (hdK cs fl : Int) := s2.trans (by rw [List.drop_zero]; omega)
        have HE : Hd (fillB cs bs c = decide (len < hdK cs fl)) := ⟨by rw [hF.out, hok, Hr.out.1]; rfl⟩
        clear hS hF hok hB4 R3 O4 s2
        generalize hdK cs fl = K at *
        subst s3
        by_cases hK : len < K
        · have hKI : (len : Int) < (K : Int) := by omega
          have BT : Hd (mayB cs bs = true) := ⟨by rw [HM.out.2]; exact fill_yes HM.out.1 (by rw [HN.out]; exact hlt) (by rw [HCC.out, HE.out]; exact decide_eq_true hK)⟩
          go_wp2_with fail
          go_ret
          exact ⟨ret_bool BT.out.symm, R4.out.bel⟩
        · have hKI : ¬ (len : Int) < (K : Int) := by omega
          have FF : Hd (fillB cs bs ((endL cs).getD k 0) = false) := ⟨by rw [HCC.out, HE.out]; exact decide_eq_false hK⟩
          clear HE
          go_wp2_with fail
          go_roundw
          case rel => exact ⟨k + 1, by go_num, ⟨noFill_next R4.out.no FF.out, by rw [HN.out]; omega, R4.out.ends, R4.out.bel⟩⟩
          case measure => simp [intOf]; omega
    · have hkI : ¬ (k : Int) < (N : Int) := by omega
      have BF : Hd (mayB cs bs = false) := ⟨by rw [HM.out.2]; exact noFill_end HM.out.1 R.out.no (by rw [HN.out]; omega)⟩
      go_wp2_with fail
      go_ret
      exact ⟨ret_bool BF.out.symm, R.out.bel⟩

set_option maxHeartbeats 400000 in
theorem mayGoOn_nil (cs : Int) (ao : Option Addr) (cap : Nat) (w : World) : Calls Tryd.prog 37 #[setV cs, .slice ao 0 cap] w fun e w' => e = .returned (.bool true) ∧ w = w' := by
  generalize setV cs = sv
  go_enter Tryd.func37, Tryd.ntmps37
  go_wp2_with fail
  go_ret
  exact ⟨rfl, rfl⟩

set_option maxHeartbeats 400000 in
theorem mayGoOn_long (cs : Int) (ao : Option Addr) (len cap : Nat) (w : World) (h : 3 < len) : Calls Tryd.prog 37 #[setV cs, .slice ao len cap] w fun e w' => e = .returned (.bool false) ∧ w = w' := by
  generalize setV cs = sv
  have n0 : ((len : Int) == 0) = false := by simp; omega
  have n3 : (3 : Int) < (len : Int) := by omega
  go_enter Tryd.func37, Tryd.ntmps37
  go_wp2_with fail
  go_ret
  exact ⟨rfl, rfl⟩

/-- Whether bytes are nothing, or begin a sign and do not end it, in the program. -/
theorem mayGoOn_any (cs : Int) (ao : Option Addr) (len cap : Nat) (bs : List UInt8) (w : World) (hr : Reads w ao len bs) (T : Hd (AllAt w)) :
    Calls Tryd.prog 37 #[setV cs, .slice ao len cap] w fun e w' => e = .returned (.bool (mayB cs bs)) ∧ Below w.heap.size w w' := by
  by_cases h0 : len = 0
  · subst h0
    refine (mayGoOn_nil cs ao cap w).mono ?_
    rintro e w1 ⟨rfl, rfl⟩
    rw [List.eq_nil_of_length_eq_zero hr.1]
    exact ⟨rfl, Below.refl _ _⟩
  by_cases h3 : len ≤ 3
  · exact mayGoOn_some cs ao len cap bs w hr (by omega) h3 T
  · refine (mayGoOn_long cs ao len cap w (by omega)).mono ?_
    rintro e w1 ⟨rfl, rfl⟩
    rw [mayB_long (by rw [hr.1]; omega)]
    exact ⟨rfl, Below.refl _ _⟩

end Go.Proofs.YtjbideiifoadkaaDoor
