/- The program: settle. -/
import Derived.Test.YtidbhdlhcmjhkaaDevSt
namespace Go.Proofs.Ytidbhdlhcmjhkaa
set_option maxRecDepth 4000
open Go.RowKit Go.Maps

theorem chg_turned {w a b : World} {F : Fp} {r : Nat} (h : Chg w a F) (hg : a.grownBy b (some r)) (hr : w.heap.size ≤ r) : Chg w b F :=
  ⟨hg.os.trans h.os, hg.tape.trans h.tape, hg.output.trans h.output, Nat.le_trans h.size hg.size, fun x hx hn => (hg.block x (by have := h.size; omega) (fun e => by simp at e; omega)).trans (h.block x hx hn)⟩
theorem readL_const (n : Int) : ∀ (c : List WrD), (∃ q ∈ c, q.n = n) → ∀ s t, readL n s c = readL n t c
  | [], h, _, _ => by obtain ⟨q, hq, _⟩ := h; cases hq
  | x :: r, h, s, t => by
    show readL n (readStep n s x) r = readL n (readStep n t x) r
    by_cases e : x.n = n
    · rw [show readStep n s x = readStep n t x by simp [readStep, e]]
    · obtain ⟨q, hq, hqn⟩ := h
      rcases List.mem_cons.1 hq with h1 | h1
      · subst h1; exact absurd hqn e
      · exact readL_const n r ⟨q, h1, hqn⟩ _ _
/-- What settle has behind k rounds. -/
structure StAt (wB w : World) (g m0 d0 : Nat) (secs : List (List UInt8)) (c : List WrD) (F : Fp) (bM m1 : Nat) (D0 : DataW Value) (k : Nat) (D : DataW Value) (Fk : Fp) (wr : World) : Prop where
  own : OwByteSS wr [.slice (some ⟨g, 0, none⟩) m0 d0] Fk (setK secs c k)
  map : wr.ownsMap Try.prog 3 wrElem bM m1 D
  past : ∀ n : Nat, n < k → Maps.has D (.int .i64 (n : Int)) = false
  rest : ∀ n : Nat, k ≤ n → Maps.has D (.int .i64 (n : Int)) = Maps.has D0 (.int .i64 (n : Int)) ∧ ∀ z, D.atKey (.int .i64 (n : Int)) z = D0.atKey (.int .i64 (n : Int)) z
  sub : ∀ n : Int, Maps.has D (.int .i64 n) = true → Maps.has D0 (.int .i64 n) = true
  bel : Below wB.heap.size wB wr
  chg : Chg w wr F
  low : ∀ x, Fk x → F x ∨ w.heap.size ≤ x
  nb : ¬ Fk bM
  lo : w.heap.size ≤ bM

set_option maxHeartbeats 8000000 in
theorem implSettle_any (wB : World) (g m0 d0 : Nat) (secs : List (List UInt8)) (F : Fp) (x1 : Option Addr) (m1 d1 : Nat) (c : List WrD) (w : World) (hB : Below wB.heap.size wB w) (hF : ∀ x, F x → wB.heap.size ≤ x) (h : OwByteSS w [.slice (some ⟨g, 0, none⟩) m0 d0] F secs)
    (hr : RdWrOn wB w [.slice x1 m1 d1] c) (hm1 : m1 ≤ 1000) (hk : ∀ q ∈ c, (0 ≤ q.n ∧ q.n ≤ (m0 : Int) - 1) ∧ q.b.length ≤ 120) (hm : m0 ≤ 64) (hs : ∀ s ∈ secs, s.length ≤ 120) :
    Calls Try.prog 33 #[.slice (some ⟨g, 0, none⟩) m0 d0, .slice x1 m1 d1] w fun e w' => e = .returned (.tuple #[]) ∧ Chg w w' F ∧ ∃ F' : Fp, OwByteSS w' [.slice (some ⟨g, 0, none⟩) m0 d0] F' (putL secs c) ∧ ∀ x, F' x → F x ∨ w.heap.size ≤ x := by
  have HP : Hd (Below wB.heap.size wB w ∧ (∀ x, F x → wB.heap.size ≤ x) ∧ OwByteSS w [.slice (some ⟨g, 0, none⟩) m0 d0] F secs ∧ (∀ q ∈ c, (0 ≤ q.n ∧ q.n ≤ (m0 : Int) - 1) ∧ q.b.length ≤ 120) ∧ secs.length = m0 ∧ ∀ s ∈ secs, s.length ≤ 120) := ⟨hB, hF, h, hk, (owS_len h).1, hs⟩
  have HR : Hd (RdWrOn wB w [.slice x1 m1 d1] c) := ⟨hr⟩
  clear hB hF h hr hk hs
  go_enter Try.func33, Try.ntmps33
  go_wp2_with fail
  refine (implLastWrs_base wB x1 m1 d1 c _ HR.out hm1 (fun q hq => by have := (HP.out.2.2.2.1 q hq).1; omega)).mono ?_
  rintro e w1 ⟨bM, D0, rfl, hbM, hown, hmap, hB1⟩
  have HM : Hd (MapOf wB c D0) := ⟨hmap⟩
  have H0 : Hd (StAt wB w g m0 d0 secs c F bM m1 D0 0 D0 F w1) := ⟨by rw [setK_zero]; exact owByteSS_ok.below HP.out.2.2.1 hB1, hown, fun n h => by omega, fun n _ => ⟨rfl, fun _ => rfl⟩, fun n h => h, HP.out.1.trans (hB1.mono HP.out.1.size), Chg.of_below hB1, fun x hx => .inl hx, fun hx => by have := owByteSS_ok.lt HP.out.2.2.1 bM hx; omega, hbM⟩
  clear hbM hown hmap hB1 HR
  go_wp2_with fail
  go_loopw [5] (fun i wr => ∃ k : Nat, k ≤ m0 ∧ i = .int .i64 k ∧ Hd (∃ D Fk, StAt wB w g m0 d0 secs c F bM m1 D0 k D Fk wr)) (fun i _ => m0 - (intOf i).toNat)
  case atStart => exact ⟨0, Nat.zero_le _, rfl, ⟨_, _, H0.out⟩⟩
  case round =>
    obtain ⟨k, hk, rfl, HK⟩ := hrel
    clear H0
    obtain ⟨D, Fk, hS⟩ := HK.out
    have ST : Hd (StAt wB w g m0 d0 secs c F bM m1 D0 k D Fk wr) := ⟨hS⟩
    clear HK hS
    obtain ⟨sz, hsz⟩ : ∃ sz, Maps.size D = sz := ⟨_, rfl⟩
    by_cases hz : sz = 0
    · have HZ : Hd (setK secs c k = putL secs c) := ⟨by
        refine setK_all (fun n hn s => ?_) (fun x hx => ((HP.out.2.2.2.1 x hx).1).1)
        have hno : Maps.has D (.int .i64 (n : Int)) = false := by
          cases e : Maps.has D (.int .i64 (n : Int)) with
          | false => rfl
          | true =>
            exfalso
            have h7 := ST.out.map
            obtain ⟨es, clock, _, _, _, rfl⟩ := h7
            rw [Maps.size_eq] at hsz
            have h8 := List.eq_nil_of_length_eq_zero (hsz.trans hz)
            rw [h8] at e
            simp [Maps.has_eq] at e
        exact (HM.out.no (n : Int) ((ST.out.rest n hn).1.symm.trans hno)).1 s⟩
      have hz' : decide ((sz : Int) > 0) = false := decide_eq_false (by omega)
      go_wp2_with (at_len; refine wpList_len_own _ rfl (.tmp 10) 55 rfl 3 35 Try.underlying55 wrElem bM m1 D rfl ST.out.map ?_; rewrite [hsz])
      go_end0
      exact ⟨rfl, ST.out.chg, Fk, by rw [← HZ.out]; exact ST.out.own, ST.out.low⟩
    · have hz' : decide ((sz : Int) > 0) = true := decide_eq_true (by omega)
      have HLT : Hd (k < m0) := ⟨by
        obtain ⟨i, hi⟩ := has_some ST.out.map (by rw [hsz]; exact hz)
        obtain ⟨_, q, hq, hqn⟩ := HM.out.yes i (ST.out.sub i hi)
        have h7 := (HP.out.2.2.2.1 q hq).1
        obtain ⟨n, hn⟩ : ∃ n : Nat, i = (n : Int) := ⟨i.toNat, by omega⟩
        subst hn
        have h8 : ¬ n < k := fun hlt => by rw [ST.out.past n hlt] at hi; cases hi
        omega⟩
      have hkm : k < m0 := HLT.out
      have HZ : Hd (∀ w : World, (zeroValue 35).run Try.prog w = .ok (.agg #[.int .i64 0, .slice none 0 0]) w) := ⟨fun w => by rfl⟩
      have HKY : Hd (keyOf Try.prog 3 (.int .i64 (k : Int)) = some (.int .i64 (k : Int))) := ⟨keyOf_int_mk Try.underlying3 (int_wf (by omega))⟩
      obtain ⟨B, hHas⟩ : ∃ B, Maps.has D (.int .i64 (k : Int)) = B := ⟨_, rfl⟩
      cases B with
      | false =>
        have HAT : Hd (Maps.has D (.int .i64 (k : Int)) = false ∧ ∀ z, D.atKey (.int .i64 (k : Int)) z = z) := ⟨hHas, fun z => Maps.atKey_of_not_has hHas z⟩
        have HN : Hd (∃ D Fk, StAt wB w g m0 d0 secs c F bM m1 D0 (k + 1) D Fk (wr.alloc (.cells #[.int .i64 0, .slice none 0 0] 35))) := ⟨D, Fk, by
          have hno := (HM.out.no (k : Int) ((ST.out.rest k (Nat.le_refl _)).1.symm.trans hHas)).1
          exact ⟨by rw [← setK_same hno]; exact owByteSS_ok.below ST.out.own (below_lit wr _), ST.out.map.alloc _, fun n hn => by
            by_cases e : n = k
            · rw [e]; exact hHas
            · exact ST.out.past n (by omega), fun n hn => ST.out.rest n (by omega), ST.out.sub, Below.next ST.out.bel (below_lit wr _), ST.out.chg.alloc _, ST.out.low, ST.out.nb, ST.out.lo⟩⟩
        clear hHas
        go_wp2_with (first | (at_len; refine wpList_len_own _ rfl (.tmp 10) 55 rfl 3 35 Try.underlying55 wrElem bM m1 D rfl ST.out.map ?_; rewrite [hsz]) | (at_lookup; refine wpList_lookup_own_ok _ rfl (.tmp 16) (.tmp 17) 55 rfl 3 35 (int_keyed Try.underlying3) Try.underlying55 wrElem (HZ.out _) (.held (.agg #[.int .i64 0, .slice none 0 0])) [] rfl bM m1 D rfl ST.out.map (.int .i64 (k : Int)) (.int .i64 (k : Int)) rfl HKY.out ?_; intro v ps hv; obtain rfl : v = .agg #[.int .i64 0, .slice none 0 0] := elem_of hv (HAT.out.2 _); rewrite [HAT.out.1]; clear hv))
        go_roundw
        case rel => exact ⟨k + 1, by omega, by go_num, HN⟩
        case measure => simp [intOf]; omega
      | true =>
        obtain ⟨⟨y, l, cc, hat, hrd⟩, hex⟩ := HM.out.yes (k : Int) ((ST.out.rest k (Nat.le_refl _)).1.symm.trans hHas)
        obtain ⟨b, hb⟩ : ∃ b, readL (k : Int) [] c = b := ⟨_, rfl⟩
        obtain ⟨ce, a, _, hcl, hcell, hfr, hFkg, _⟩ := owS_at ST.out.own hkm
        obtain ⟨_, _, _, _, _, _, hFg, _⟩ := owS_at HP.out.2.2.1 hkm
        obtain ⟨ov, hov⟩ := get_some (l := ce) (j := 0) (by omega)
        have u0 := hcell 0 ov hov
        simp only [Nat.mul_one, Nat.add_zero] at u0
        have HA : Hd (RdB (wr.alloc (.cells #[.int .i64 (k : Int), .slice y l cc] 35)) [.slice y l cc] b ∧ b.length ≤ 120 ∧ (∀ s, readL (k : Int) s c = b) ∧ F g ∧ wr.cell? ⟨g, k, none⟩ = some ov ∧ wr.frozen? ⟨g, k, none⟩ = false ∧ g < wr.heap.size ∧ bM ≠ g) :=
          ⟨by rw [← hb]; exact rdB_ok.below (hrd []) (Below.next ST.out.bel (below_lit wr _)), by rw [← hb]; exact readL_small _ _ (by simp) (fun x hx => (HP.out.2.2.2.1 x hx).2), fun s => by rw [← hb]; exact readL_const _ c hex s [], hFg, u0, hfr k, World.block_lt_of_cell? wr _ u0, fun e => ST.out.nb (by rw [e]; exact hFkg)⟩
        have HAT : Hd (Maps.has D (.int .i64 (k : Int)) = true ∧ ∀ z, D.atKey (.int .i64 (k : Int)) z = .held (.agg #[.int .i64 (k : Int), .slice y l cc])) := ⟨hHas, fun z => ((ST.out.rest k (Nat.le_refl _)).2 z).trans (hat z)⟩
        clear hat hrd hex hb hcl hcell hfr hFkg hFg hov u0 hHas
        go_wp2_with (first | (at_len; refine wpList_len_own _ rfl (.tmp 10) 55 rfl 3 35 Try.underlying55 wrElem bM m1 D rfl ST.out.map ?_; rewrite [hsz]) | (at_lookup; refine wpList_lookup_own_ok _ rfl (.tmp 16) (.tmp 17) 55 rfl 3 35 (int_keyed Try.underlying3) Try.underlying55 wrElem (HZ.out _) (.held (.agg #[.int .i64 0, .slice none 0 0])) [] rfl bM m1 D rfl ST.out.map (.int .i64 (k : Int)) (.int .i64 (k : Int)) rfl HKY.out ?_; intro v ps hv; obtain rfl : v = .agg #[.int .i64 (k : Int), .slice y l cc] := elem_of hv (HAT.out.2 _); rewrite [HAT.out.1]; clear hv))
        refine (clone_rd y l cc b _ HA.out.1 (by have := HA.out.2.1; omega)).mono ?_
        rintro e wv ⟨⟨z0, zn, zc, rfl, hN⟩, hB⟩
        have HB : Hd (New (wr.alloc (.cells #[.int .i64 (k : Int), .slice y l cc] 35)).heap.size OwB wv [.slice z0 zn zc] b ∧ Below (wr.alloc (.cells #[.int .i64 (k : Int), .slice y l cc] 35)).heap.size (wr.alloc (.cells #[.int .i64 (k : Int), .slice y l cc] 35)) wv) := ⟨hN, hB⟩
        have HBW : Hd (Below wr.heap.size wr wv) := ⟨Below.next (below_lit wr _) hB⟩
        clear hN hB
        have t9 := cell_below HA.out.2.2.2.2.1 HBW.out
        have f9 : wv.frozen? ⟨g, k, none⟩ = false := by rw [World.frozen?_of_block (w := wr) (a := ⟨g, k, none⟩) (HBW.out.block g HA.out.2.2.2.2.2.2.1)]; exact HA.out.2.2.2.2.2.1
        have HV : Hd ((wv.setCell ⟨g, k, none⟩ (.slice z0 zn zc)).ownsMap Try.prog 3 wrElem bM m1 D) := ⟨((ST.out.map.kept (grown_below HBW.out none) (by simp)).setCell (a := ⟨g, k, none⟩) HA.out.2.2.2.2.2.2.2 _)⟩
        have hlt' : (k : Int) < (m0 : Int) := by omega
        have h0 : (0 : Int) ≤ (k : Int) := by omega
        go_wp2_with (at_delete; refine wpList_delete_own _ rfl (.tmp 28) (.tmp 29) 55 3 rfl 35 (int_keyed Try.underlying3) Try.underlying55 wrElem bM m1 D rfl HV.out (.int .i64 (k : Int)) (.int .i64 (k : Int)) rfl HKY.out ?_)
        intro w2 hown2 hturn2
        have HN : Hd (∃ D Fk, StAt wB w g m0 d0 secs c F bM m1 D0 (k + 1) D Fk w2) := ⟨by
          obtain ⟨G, hE, hG⟩ := HB.out.1
          have hlt := ST.out.map.lt
          have hne : ∀ n : Int, n ≠ (k : Int) → Lit.int .i64 n ≠ Lit.int .i64 (k : Int) := fun n h e => h (by injection e)
          have r2 := owS_put owB_ok (owByteSS_ok.below ST.out.own (below_lit wr (.cells #[.int .i64 (k : Int), .slice y l cc] 35))) hkm rfl (Chg.of_below HB.out.2) hE hG
          rw [Nat.mul_one, setK_put HA.out.2.2.1 (by rw [HP.out.2.2.2.2.1]; exact hkm)] at r2
          have hsz2 := ST.out.chg.size
          refine ⟨D.del (.int .i64 (k : Int)), fun x => Fk x ∨ G x, owByteSS_ok.keep r2 (fun x hx => hturn2.grown.block x (owByteSS_ok.lt r2 x hx) (fun e => ?_)), hown2, fun n hn => ?_, fun n hn => ?_, fun n hn => ?_,
            below_grows (bset (Below.next ST.out.bel HBW.out) _ (HP.out.2.1 g HA.out.2.2.2.1)) hturn2.grown (bset (Below.next ST.out.bel HBW.out) _ (HP.out.2.1 g HA.out.2.2.2.1)).size (Nat.le_trans HP.out.1.size ST.out.lo), chg_turned ((ST.out.chg.trans (Chg.of_below HBW.out)).setCell HA.out.2.2.2.1 _) hturn2.grown ST.out.lo, fun x hx => ?_, fun hx => ?_, ST.out.lo⟩
          · simp only [Option.some.injEq] at e
            subst e
            rcases hx with hx | hx
            · exact ST.out.nb hx
            · have := hG _ hx; simp at this; omega
          · by_cases e : n = k
            · rw [e]; exact Maps.has_del_same
            · rw [Maps.has_del_other (hne _ (by omega))]; exact ST.out.past n (by omega)
          · have h1 := hne (n : Int) (by omega)
            exact ⟨(Maps.has_del_other h1).trans (ST.out.rest n (by omega)).1, fun z => (Maps.atKey_del_other h1 z).trans ((ST.out.rest n (by omega)).2 z)⟩
          · by_cases e : n = (k : Int)
            · rw [e, Maps.has_del_same] at hn; cases hn
            · rw [Maps.has_del_other (hne _ e)] at hn; exact ST.out.sub n hn
          · rcases hx with hx | hx
            · exact ST.out.low x hx
            · have := hG x hx; simp at this; exact .inr (by omega)
          · rcases hx with hx | hx
            · exact ST.out.nb hx
            · have := hG _ hx; simp at this; omega⟩
        clear hown2 hturn2 HV t9 f9 HB HBW HA HAT ST
        go_wp2_with fail
        go_roundw
        case rel => exact ⟨k + 1, by omega, by go_num, HN⟩
        case measure => simp [intOf]; omega

end Go.Proofs.Ytidbhdlhcmjhkaa
