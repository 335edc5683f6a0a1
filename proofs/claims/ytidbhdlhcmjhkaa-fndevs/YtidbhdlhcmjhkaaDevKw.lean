/- The program: keptWrs: the list's row is new, its bytes lie where they lay. -/
import Derived.Test.YtidbhdlhcmjhkaaDevKp
import Derived.Test.YtidbhdlhcmjhkaaDevSe
namespace Go.Proofs.Ytidbhdlhcmjhkaa
set_option maxRecDepth 4000
open Go.RowKit

theorem and_bit (x : Int) : bits .and .i64 x 1 = x % 2 := by
  show IntKind.i64.wrap ((BitVec.ofInt 64 x &&& BitVec.ofInt 64 (1 : Int)).toNat : Int) = _
  have e : (BitVec.ofInt 64 x &&& BitVec.ofInt 64 (1 : Int)).toNat = (x % 2).toNat := by
    rw [BitVec.toNat_and, show (BitVec.ofInt 64 (1 : Int)).toNat = 1 from rfl, Nat.and_one_is_mod, BitVec.toNat_ofInt]
    omega
  rw [e, IntKind.wrap_i64]
  omega
/-- How an element reads whose bytes are a base world's. -/
def OwK (wB : World) : Ow WrD := fun _ cs F a => (∀ x, ¬ F x) ∧ RdWr wB cs a
theorem owK_ok (wB : World) : OwOk 2 (OwK wB) (fun _ => RdWr wB) := ⟨fun h => rdWr_ok.len h.2, fun h x hx => (h.1 x hx).elim, fun h _ => h, fun h => h.2⟩
theorem keptL_zero : ∀ (c : List WrD) (i : Nat), keptL 0 i c = []
  | [], _ => rfl
  | x :: r, i => by
    unfold keptL
    rw [if_neg (by simp [keepBit]), keptL_zero r]
theorem keepBit_big {K : Int} {i : Nat} (h0 : 0 ≤ K) (h1 : K ≤ 1073741823) (hi : 30 ≤ i) : keepBit K i = false := by
  have h2 : (1073741824 : Int) ≤ 2 ^ i := by
    have h3 : 2 ^ 30 ≤ 2 ^ i := Nat.pow_le_pow_right (by omega) hi
    have h4 : ((2 ^ 30 : Nat) : Int) ≤ ((2 ^ i : Nat) : Int) := Int.ofNat_le.2 h3
    simpa using h4
  have h5 : K / 2 ^ i = 0 := Int.ediv_eq_zero_of_lt h0 (by omega)
  unfold keepBit
  rw [h5]; rfl
theorem keptL_step {K : Int} (h0 : 0 ≤ K) (h1 : K ≤ 1073741823) {c : List WrD} {k : Nat} {a : WrD} (ha : c[k]? = some a) : keptL K 0 (c.take (k + 1)) = keptL K 0 (c.take k) ++ if keepBit K k = true then [a] else [] := by
  have hk := get_lt ha
  rw [take_one ha, keptL_append]
  have e : 0 + (c.take k).length = k := by simp; omega
  rw [e]
  by_cases h30 : k < 30
  · by_cases hb : keepBit K k = true
    · rw [if_pos ⟨h30, hb⟩, if_pos hb]
    · rw [if_neg (fun h => hb h.2), if_neg hb]
  · rw [if_neg (fun h => h30 h.1), if_neg (by rw [keepBit_big h0 h1 (by omega)]; simp)]
theorem owK_nil (wB w : World) : OwS 2 35 (OwK wB) (w.alloc (.cells #[] 35)) [.slice (some ⟨w.heap.size, 0, none⟩) 0 0] (fun x => x = w.heap.size) [] := by
  have ho : (w.alloc (.cells #[] 35)).ownsRow 0 35 2 (.slice (some ⟨w.heap.size, 0, none⟩) 0 0) 0 (List.replicate 0 ([.int .i64 0, .slice none 0 0] : List Value)).flatten :=
    ⟨by simp, .inr ⟨w.heap.size, 0, #[], rfl, Nat.zero_le _, heap_alloc_new w _, Nat.le_refl _, by unfold maxLen; omega, by simp, by simp⟩⟩
  exact ⟨_, _, _, rfl, owP_made (m := 0) (z := (⟨0, []⟩ : WrD)) ho rfl (lt_of_block (heap_alloc_new w _)) ⟨fun _ h => h, none, 0, 0, rfl, (owB_ok.rd (owB_nil wB))⟩⟩
theorem OwP.cong {α : Type} {n : Nat} {T : TypeId} {E : Ow α} {w w' : World} {v : Value} {css : List (List Value)} {Fs : Nat → Fp} {F : Fp} {ls : List α} (h : OwP n T E w v css Fs F ls) (hE : ∀ j c a, E w c (Fs j) a → E w' c (Fs j) a) (hb : ∀ b, v.ownBlock = some b → w'.heap[b]? = w.heap[b]?) (hsz : w.heap.size ≤ w'.heap.size) : OwP n T E w' v css Fs F ls where
  own := ownsRow_keep h.own hb
  size := h.size
  lens := h.lens
  lt := fun x hx => by have := h.lt x hx; omega
  blk := h.blk
  sub := h.sub
  apart := h.apart
  els := fun j c a hc ha => hE j c a (h.els j c a hc ha)

set_option maxHeartbeats 8000000 in
theorem implKeptWrs_in (wB : World) (x1 : Option Addr) (m1 d1 : Nat) (c : List WrD) (keep : Int) (w : World) (h : RdWrOn wB w [.slice x1 m1 d1] c) (hc : m1 ≤ 40) (hk0 : ¬ keep < 0) (hk1 : ¬ 1073741823 < keep) :
    Calls Try.prog 34 #[.slice x1 m1 d1, .int .i64 keep] w fun e w' => ∃ y n cc, e = .returned (.slice y n cc) ∧ n ≤ 40 ∧ RdWrOn wB w' [.slice y n cc] (keptL keep 0 c) ∧ Below w.heap.size w w' := by
  have r1 := rdWrOn_parts h
  have HL : Hd (c.length = m1 ∧ 0 ≤ keep ∧ keep ≤ 1073741823) := ⟨r1.2.1, by omega, by omega⟩
  have HR1 : Hd (c = [] ∨ ∃ b off, x1 = some ⟨b, off, none⟩ ∧ ∀ j a, c[j]? = some a → ∃ e, e.length = 2 ∧ RdWr wB e a ∧ ∀ i v, e[i]? = some v → w.cell? ⟨b, off + j * 2 + i, none⟩ = some v) := ⟨r1.2.2⟩
  clear r1 h
  obtain ⟨i1, hi1, hz1, hs1, hb1⟩ := info_parts infoWrS
  have H0 : Hd (∃ F, OwS 2 35 (OwK wB) (w.alloc (.cells #[] 35)) [.slice (some ⟨w.heap.size, 0, none⟩) 0 0] F (keptL keep 0 (c.take 0)) ∧ (∀ x, F x → w.heap.size ≤ x) ∧ Below w.heap.size w (w.alloc (.cells #[] 35))) := ⟨_, owK_nil wB w, fun x hx => by omega, below_lit w _⟩
  go_enter Try.func34, Try.ntmps34
  go_wp2_with fail
  generalize w.alloc (.cells #[] 35) = W0 at *
  go_loopw [17, 5] (fun i v wr => ∃ k : Nat, k ≤ m1 ∧ i = .int .i64 k ∧ ∃ y n cc, v = .slice y n cc ∧ Hd (∃ F, OwS 2 35 (OwK wB) wr [.slice y n cc] F (keptL keep 0 (c.take k)) ∧ (∀ x, F x → w.heap.size ≤ x) ∧ Below w.heap.size w wr)) (fun i _ _ => m1 - (intOf i).toNat)
  case atStart => exact ⟨0, Nat.zero_le _, rfl, _, _, _, rfl, H0⟩
  case round =>
    obtain ⟨k, hk, rfl, y, n, cc, rfl, HK⟩ := hrel
    clear H0
    by_cases hlt : k < m1
    · have hlt' : (k : Int) < (m1 : Int) := by omega
      have h0 : (0 : Int) ≤ (k : Int) := by omega
      obtain ⟨b1, o1, hx1, G⟩ : ∃ b1 o1, x1 = some ⟨b1, o1, none⟩ ∧ ∀ j a, c[j]? = some a → ∃ e, e.length = 2 ∧ RdWr wB e a ∧ ∀ i v, e[i]? = some v → w.cell? ⟨b1, o1 + j * 2 + i, none⟩ = some v := by
        rcases HR1.out with h | h
        · have := HL.out.1; rw [h] at this; simp at this; omega
        · exact h
      subst hx1
      obtain ⟨a, ha⟩ := get_some (l := c) (j := k) (by rw [HL.out.1]; exact hlt)
      obtain ⟨e2, hcn, hR, hcell⟩ := G k a ha
      have HE := hR
      obtain ⟨y1, n1, e1, rfl, hr⟩ := hR
      obtain ⟨F, hO, hF, hB⟩ := HK.out
      have t0 := cell_below (hcell 0 _ rfl) hB
      have t1 := cell_below (hcell 1 _ rfl) hB
      simp only [Nat.add_zero] at t0
      obtain ⟨nn, hnn⟩ : ∃ nn, a.n = nn := ⟨_, rfl⟩
      rw [hnn] at t0 HE
      obtain ⟨B, hBit⟩ : ∃ B, keepBit keep k = B := ⟨_, rfl⟩
      have hstep := keptL_step HL.out.2.1 HL.out.2.2 ha
      rw [hBit] at hstep
      obtain ⟨u, hu⟩ : ∃ u, keep / 2 ^ k = u := ⟨_, rfl⟩
      have hand : bits .and .i64 (keep / 2 ^ k) 1 = if B = true then 1 else 0 := by
        rw [and_bit, ← hBit]
        unfold keepBit
        by_cases e : keep / 2 ^ k % 2 = 1
        · rw [e]; rfl
        · rw [decide_eq_false e]
          have := Int.emod_nonneg (keep / 2 ^ k) (b := 2) (by omega)
          have := Int.emod_lt_of_pos (keep / 2 ^ k) (b := 2) (by omega)
          simp
          omega
      rw [hu] at hand
      have HW : Hd (∃ F, OwS 2 35 (OwK wB) (wr.alloc (.cells #[.int .i64 nn, .slice y1 n1 e1] 35)) [.slice y n cc] F (keptL keep 0 (c.take k)) ∧ (∀ x, F x → w.heap.size ≤ x) ∧ Below w.heap.size w (wr.alloc (.cells #[.int .i64 nn, .slice y1 n1 e1] 35))) := ⟨F, (owS_ok (owK_ok wB)).below hO (below_lit wr _), hF, Below.next hB (below_lit wr _)⟩
      have HLN : Hd ((keptL keep 0 (c.take k)).length ≤ 40) := ⟨by have := keptL_len keep (c.take k) 0; simp at this; omega⟩
      have HEW : Hd (RdWr wB [.int .i64 nn, .slice y1 n1 e1] a) := ⟨HE⟩
      clear hO hF hB HK G hcell hcn hr ha HE hBit
      cases B with
      | false =>
        have hand' : bits .and .i64 u 1 = 0 := by simpa using hand
        have HN : Hd (∃ F, OwS 2 35 (OwK wB) (wr.alloc (.cells #[.int .i64 nn, .slice y1 n1 e1] 35)) [.slice y n cc] F (keptL keep 0 (c.take (k + 1))) ∧ (∀ x, F x → w.heap.size ≤ x) ∧ Below w.heap.size w (wr.alloc (.cells #[.int .i64 nn, .slice y1 n1 e1] 35))) := ⟨by rw [show keptL keep 0 (c.take (k + 1)) = keptL keep 0 (c.take k) by rw [hstep]; simp]; exact HW.out⟩
        clear hand hstep HW
        go_wp2_with fail
        go_roundw
        case rel => exact ⟨k + 1, by omega, by go_num, y, n, cc, rfl, HN⟩
        case measure => simp [intOf]; omega
      | true =>
        have hand' : bits .and .i64 u 1 = 1 := by simpa using hand
        have HS : Hd (keptL keep 0 (c.take (k + 1)) = keptL keep 0 (c.take k) ++ [a]) := ⟨by rw [hstep]; simp⟩
        clear hand hstep
        obtain ⟨F, hO, hF, hB⟩ := HW.out
        have HX : Hd (OwS 2 35 (OwK wB) ((wr.alloc (.cells #[.int .i64 nn, .slice y1 n1 e1] 35)).alloc (.cells #[.int .i64 nn, .slice y1 n1 e1] 35)) [.slice y n cc] F (keptL keep 0 (c.take k)) ∧ (∀ x, F x → w.heap.size ≤ x) ∧ Below w.heap.size w ((wr.alloc (.cells #[.int .i64 nn, .slice y1 n1 e1] 35)).alloc (.cells #[.int .i64 nn, .slice y1 n1 e1] 35))) := ⟨(owS_ok (owK_ok wB)).below hO (below_lit _ _), hF, Below.next hB (below_lit _ _)⟩
        clear hO hF hB HW
        go_wp2_with (at_builtin; refine wpList_push rfl (owK_ok wB) (.tmp 27) (.tmp 29) 25 rfl Try.underlying25 hi1 hz1 hs1 hb1 rfl (by omega) (v := .slice y n cc) rfl HX.out.1 (q := wr.heap.size + 1) (c' := [.int .i64 nn, .slice y1 n1 e1]) (a' := a) (G := fun _ => False) rfl (alloc_new (wr.alloc (.cells #[.int .i64 nn, .slice y1 n1 e1] 35)) _ (by simp)) rfl (by intro u hu; simp only [List.mem_cons, List.not_mem_nil, or_false] at hu; rcases hu with rfl | rfl <;> rfl) ⟨fun _ h => h, HEW.out⟩ (fun _ h => h.elim) (by have := HLN.out; unfold maxLen; omega) (by have := HLN.out; omega) ?_)
        intro v' wz F' hOw hF' hgrow
        obtain ⟨x2, n2, d2, hv'⟩ : ∃ x2 n2 d2, v' = .slice x2 n2 d2 := by
          obtain ⟨x2, d2, e, _⟩ := owS_slice hOw
          exact ⟨x2, _, d2, e⟩
        subst hv'
        have HN : Hd (∃ F, OwS 2 35 (OwK wB) wz [.slice x2 n2 d2] F (keptL keep 0 (c.take (k + 1))) ∧ (∀ x, F x → w.heap.size ≤ x) ∧ Below w.heap.size w wz) := ⟨by
          obtain ⟨hO, hF, hB⟩ := HX.out
          refine ⟨F', by rw [HS.out]; exact hOw, fun x hx => ?_, hB.grown hgrow hB.size (fun b hb => ?_)⟩
          · rcases hF' x hx with h | h
            · exact hF x h
            · have h7 := hB.size
              simp only [World.size_alloc] at h7
              omega
          · obtain ⟨x3, d3, e, hcase⟩ := owS_slice hO
            simp only [Value.slice.injEq] at e
            rcases hcase with ⟨h1, _⟩ | ⟨g, h1, h2⟩
            · rw [e.1, h1] at hb; cases hb
            · rw [e.1, h1] at hb; simp [Value.ownBlock] at hb; rw [← hb]; exact hF g h2⟩
        clear hOw hF' hgrow HX HS HEW
        go_wp2_with fail
        go_roundw
        case rel => exact ⟨k + 1, by omega, by go_num, x2, n2, d2, rfl, HN⟩
        case measure => simp [intOf]; omega
    · have HZ : Hd (n ≤ 40 ∧ RdWrOn wB wr [.slice y n cc] (keptL keep 0 c) ∧ Below w.heap.size w wr) := ⟨by
        obtain ⟨F, hO, hF, hB⟩ := HK.out
        rw [List.take_of_length_le (by have := HL.out.1; omega)] at hO
        have h1 := (owS_len hO).1
        have h2 := keptL_len keep c 0
        have h3 := HL.out.1
        exact ⟨by omega, owS_rd (owK_ok wB) hO, hB⟩⟩
      clear HK
      go_wp2_with fail
      go_ret
      exact ⟨_, _, _, rfl, HZ.out⟩

end Go.Proofs.Ytidbhdlhcmjhkaa
