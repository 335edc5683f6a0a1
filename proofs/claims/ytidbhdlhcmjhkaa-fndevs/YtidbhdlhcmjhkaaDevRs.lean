/- The specification: ReadSec. -/
import Derived.Test.YtidbhdlhcmjhkaaDevCp
namespace Go.Proofs.Ytidbhdlhcmjhkaa
set_option maxRecDepth 4000
open Go.RowKit

theorem readL_take (n : Int) (s : List UInt8) {c : List WrD} {k : Nat} {a : WrD} (h : c[k]? = some a) : readL n s (c.take (k + 1)) = if a.n = n then a.b else readL n s (c.take k) := by
  rw [take_one h]
  simp [readL, readStep, List.foldl_append]
theorem emp_new (w : World) : New w.heap.size OwB (w.alloc (.cells #[] 5)) [.slice (some ⟨w.heap.size, 0, none⟩) 0 0] [] :=
  ⟨fun y => y = w.heap.size, ⟨fun y hy => by rw [hy]; simp, some ⟨w.heap.size, 0, none⟩, 0, 0, rfl, rfl, .inr ⟨w.heap.size, rfl, rfl, #[], heap_alloc_new w _, by simp, by unfold maxLen; simp, by simp⟩⟩, fun y hy => by omega⟩

set_option maxHeartbeats 4000000 in
theorem specReadSec_ow (cs : List Value) (d : DevD) (n : Int) (w : World) (h : RdDev w cs d) :
    Calls Try.prog 20 #[.agg cs.toArray, .int .i64 n] w (AnsSl OwB (readD d n) w) := by
  have h' := h
  obtain ⟨x0, m0, d0, x1, m1, d1, rfl, r0, r1⟩ := h
  obtain ⟨f, hf⟩ : ∃ f, d.fuse = f := ⟨_, rfl⟩
  obtain ⟨b, hbb⟩ : ∃ b, d.down = b := ⟨_, rfl⟩
  rw [hf, hbb] at h' ⊢
  have HD : Hd (RdDev w [.slice x0 m0 d0, .slice x1 m1 d1, .int .i64 f, .bool b] d) := ⟨h'⟩
  replace r0 := rdByteSS_parts r0
  replace r1 := rdWrS_parts r1
  have hm0 : m0 ≤ 9223372036854775807 := by have := r0.1; unfold maxLen at this; exact this
  have hm1 : m1 ≤ 9223372036854775807 := by have := r1.1; unfold maxLen at this; exact this
  have HL : Hd (d.secs.length = m0 ∧ d.cache.length = m1) := ⟨r0.2.1, r1.2.1⟩
  have HR0 : Hd (d.secs = [] ∨ ∃ b off, x0 = some ⟨b, off, none⟩ ∧ ∀ j a, d.secs[j]? = some a → ∃ c, c.length = 1 ∧ RdB w c a ∧ ∀ i v, c[i]? = some v → w.cell? ⟨b, off + j * 1 + i, none⟩ = some v) := ⟨r0.2.2⟩
  have HR1 : Hd (d.cache = [] ∨ ∃ b off, x1 = some ⟨b, off, none⟩ ∧ ∀ j a, d.cache[j]? = some a → ∃ c, c.length = 2 ∧ RdWr w c a ∧ ∀ i v, c[i]? = some v → w.cell? ⟨b, off + j * 2 + i, none⟩ = some v) := ⟨r1.2.2⟩
  obtain ⟨R, hR⟩ : ∃ R, readD d n = R := ⟨_, rfl⟩
  obtain ⟨V, hV⟩ : ∃ V, devOk d = V := ⟨_, rfl⟩
  obtain ⟨U, hU⟩ : ∃ U, inB n 0 ((m0 : Int) - 1) = U := ⟨_, rfl⟩
  have HR : Hd (R = (if (V && U) = true then readL n (secAt d n) d.cache else [])) := ⟨by rw [← hR, ← hV, ← hU]; unfold readD inSecs; rw [inB_is, HL.out.1]⟩
  have HV : Hd (devOk d = V) := ⟨hV⟩
  have HU : Hd (inB n 0 ((m0 : Int) - 1) = U) := ⟨hU⟩
  have hwr : wrap64 ((m0 : Int) - 1) = (m0 : Int) - 1 := wrap64_in (by omega) (by omega)
  rw [hR]
  clear r0 r1 h' hf hbb hR hV hU
  go_enter Try.func20, Try.ntmps20
  go_wp2_with fail
  refine (specDevOk_rd _ d _ (rdDev_ok.below HD.out (below_lit w _))).mono ?_
  rintro e w1 ⟨rfl, hB⟩
  rewrite [HV.out]
  have P : Hd (Good w #[.slice x0 m0 d0, .slice x1 m1 d1, .int .i64 f, .bool b] w1) := ⟨Good.below ⟨below_lit w _, heap_alloc_new w _⟩ hB⟩
  clear hB
  cases V with
  | false =>
    have HE : Hd (R = []) := ⟨HR.out⟩
    clear HR HV HU
    go_wp2_with fail
    go_ret
    refine ⟨⟨_, _, _, rfl, ?_⟩, P.out.1.trans (below_lit w1 _ |>.mono P.out.1.size)⟩
    rw [HE.out]
    obtain ⟨F, h1, h2⟩ := emp_new w1
    exact ⟨F, h1, fun x hx => Nat.le_trans P.out.1.size (h2 x hx)⟩
  | true =>
    have c0 := cellsA P.out.2 0 rfl
    go_wp2_with fail
    refine (l1In_is HU.out _).mono ?_
    rintro e w' ⟨rfl, hw⟩
    replace hw := hw.symm
    subst hw
    cases U with
    | false =>
      have HE : Hd (R = []) := ⟨HR.out⟩
      clear HR HV HU
      go_wp2_with fail
      go_ret
      refine ⟨⟨_, _, _, rfl, ?_⟩, P.out.1.trans (below_lit w1 _ |>.mono P.out.1.size)⟩
      rw [HE.out]
      obtain ⟨F, h1, h2⟩ := emp_new w1
      exact ⟨F, h1, fun x hx => Nat.le_trans P.out.1.size (h2 x hx)⟩
    | true =>
      have h9 := HU.out
      rw [inB_is, decide_eq_true_eq] at h9
      obtain ⟨m, rfl⟩ : ∃ m : Nat, n = (m : Int) := ⟨n.toNat, by omega⟩
      have hmlt : m < m0 := by omega
      have hlt' : (m : Int) < (m0 : Int) := by omega
      have h0 : (0 : Int) ≤ (m : Int) := by omega
      obtain ⟨b0, o0, hx0, G⟩ : ∃ b0 o0, x0 = some ⟨b0, o0, none⟩ ∧ ∀ j a, d.secs[j]? = some a → ∃ c, c.length = 1 ∧ RdB w c a ∧ ∀ i v, c[i]? = some v → w.cell? ⟨b0, o0 + j * 1 + i, none⟩ = some v := by
        rcases HR0.out with h | h
        · have := HL.out.1; rw [h] at this; simp at this; omega
        · exact h
      subst hx0
      obtain ⟨a, ha⟩ := get_some (l := d.secs) (j := m) (by rw [HL.out.1]; exact hmlt)
      obtain ⟨c, hcn, hRR, hcell⟩ := G m a ha
      obtain ⟨y0, n0, e0, rfl, _, _⟩ := id hRR
      have t0 := cell_below (hcell 0 _ rfl) P.out.1
      simp only [Nat.mul_one, Nat.add_zero] at t0
      obtain ⟨a1, a2, _⟩ := devOk_parts HV.out
      have HE : Hd (R = readL (m : Int) a d.cache ∧ ∀ x ∈ d.cache, x.b.length ≤ 120) := ⟨by rw [HR.out, show secAt d (m : Int) = a by unfold secAt; simp [List.getD, ha]]; rfl, fun x hx => (a2 x hx).2⟩
      have H0 : Hd (RdB w [.slice y0 n0 e0] (readL (m : Int) a (d.cache.take 0)) ∧ (readL (m : Int) a (d.cache.take 0)).length ≤ 120) := ⟨hRR, a1 a (List.mem_of_getElem? ha)⟩
      clear hcell hcn hRR G ha a1 a2 HR HV HU h9
      go_wp2_with fail
      clear t0 c0
      go_loopw [5, 6] (fun v i wr => ∃ (k : Nat) (x : Option Addr) (l c : Nat), k ≤ m1 ∧ v = .slice x l c ∧ i = .int .i64 k ∧ Hd (RdB w [.slice x l c] (readL (m : Int) a (d.cache.take k)) ∧ (readL (m : Int) a (d.cache.take k)).length ≤ 120) ∧ Hd (Good w #[.slice (some ⟨b0, o0, none⟩) m0 d0, .slice x1 m1 d1, .int .i64 f, .bool b] wr)) (fun _ i _ => m1 - (intOf i).toNat)
      case atStart => exact ⟨0, _, _, _, Nat.zero_le _, rfl, rfl, H0, P⟩
      case round =>
        obtain ⟨k, x, l, c, hk, rfl, rfl, HK, PK⟩ := hrel
        clear H0 P
        have c1 := cellsA PK.out.2 1 rfl
        by_cases hlt : k < m1
        · have hlt2 : (k : Int) < (m1 : Int) := by omega
          have h02 : (0 : Int) ≤ (k : Int) := by omega
          obtain ⟨b1, o1, hx1, G⟩ : ∃ b1 o1, x1 = some ⟨b1, o1, none⟩ ∧ ∀ j a, d.cache[j]? = some a → ∃ c, c.length = 2 ∧ RdWr w c a ∧ ∀ i v, c[i]? = some v → w.cell? ⟨b1, o1 + j * 2 + i, none⟩ = some v := by
            rcases HR1.out with h | h
            · have := HL.out.2; rw [h] at this; simp at this; omega
            · exact h
          subst hx1
          obtain ⟨q, hq⟩ := get_some (l := d.cache) (j := k) (by rw [HL.out.2]; exact hlt)
          obtain ⟨c2, hcn, hRR, hcell⟩ := G k q hq
          obtain ⟨y1, n1, e1, rfl, hr⟩ := hRR
          have t0 := cell_below (hcell 0 _ rfl) PK.out.1
          have t1 := cell_below (hcell 1 _ rfl) PK.out.1
          simp only [Nat.add_zero] at t0
          have hstep := readL_take (m : Int) a hq
          obtain ⟨nn, hnn⟩ : ∃ nn, q.n = nn := ⟨_, rfl⟩
          rw [hnn] at t0 hstep
          by_cases hn : nn = (m : Int)
          · have hn' : (nn == (m : Int)) = true := by simpa using hn
            rw [if_pos hn] at hstep
            have HK1 : Hd (RdB w [.slice y1 n1 e1] (readL (m : Int) a (d.cache.take (k + 1))) ∧ (readL (m : Int) a (d.cache.take (k + 1))).length ≤ 120) := ⟨by rw [hstep]; exact ⟨hr, HE.out.2 q (List.mem_of_getElem? hq)⟩⟩
            clear hcell hcn hr hnn G hstep hq HK hn
            go_wp2_with fail
            go_roundw
            case rel => exact ⟨k + 1, _, _, _, by omega, rfl, by go_num, HK1, PK⟩
            case measure => simp [intOf]; omega
          · have hn' : (nn == (m : Int)) = false := by simpa using hn
            rw [if_neg hn] at hstep
            have HK1 : Hd (RdB w [.slice x l c] (readL (m : Int) a (d.cache.take (k + 1))) ∧ (readL (m : Int) a (d.cache.take (k + 1))).length ≤ 120) := ⟨by rw [hstep]; exact HK.out⟩
            clear hcell hcn hr hnn G hstep hq HK hn
            go_wp2_with fail
            go_roundw
            case rel => exact ⟨k + 1, _, _, _, by omega, rfl, by go_num, HK1, PK⟩
            case measure => simp [intOf]; omega
        · have HK2 : Hd (RdB w [.slice x l c] R ∧ R.length ≤ 120) := ⟨by
            have h7 := HK.out
            rw [List.take_of_length_le (by have := HL.out.2; omega), ← HE.out.1] at h7
            exact h7⟩
          clear HK HE
          go_wp2_with (at_builtin; refine wpList_emp rfl (.tmp 46) (.tmp 47) rfl wr.heap.size rfl (heap_alloc_new wr _) x l c R rfl (rdB_ok.below HK2.out.1 (Below.next PK.out.1 (below_lit wr _))) (by have := HK2.out.2; omega) ?_)
          intro z0 zc wv hN hG
          have HF : Hd (New wr.heap.size OwB wv [.slice z0 l zc] R ∧ Below w.heap.size w wv) := ⟨hN, Below.next PK.out.1 (below_grows (below_lit wr _) hG (by simp) (Nat.le_refl _))⟩
          clear hN hG c1
          go_wp2_with fail
          go_ret
          obtain ⟨F, h1, h2⟩ := HF.out.1
          exact ⟨⟨_, _, _, rfl, F, h1, fun x hx => Nat.le_trans PK.out.1.size (h2 x hx)⟩, HF.out.2⟩

end Go.Proofs.Ytidbhdlhcmjhkaa
