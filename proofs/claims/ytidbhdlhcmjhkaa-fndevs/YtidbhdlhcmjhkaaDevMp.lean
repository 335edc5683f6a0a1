/- The program: the last write to each sector, in a map (over a base world). -/
import Derived.Test.YtidbhdlhcmjhkaaDevRs
import Derived.Test.YtidbhdlhcmjhkaaDevI
import Derived.Maps.OwnSet
namespace Go.Proofs.Ytidbhdlhcmjhkaa
set_option maxRecDepth 4000
open Go.RowKit Go.Maps

/-- How an element of the map reads: as it is. -/
def wrElem (v : Value) : Option (DataW Value × List MemPlace) := some (.held v, [])
theorem int_wf {n : Int} (h : -9223372036854775808 ≤ n ∧ n ≤ 9223372036854775807) : (Lit.int .i64 n).wf = true := by
  simp [Lit.wf, IntKind.min, IntKind.max, IntKind.bits, IntKind.signed] <;> omega
/-- What the map says of the writes c, read in w. -/
structure MapOf (w : World) (c : List WrD) (D : DataW Value) : Prop where
  yes : ∀ n : Int, Maps.has D (.int .i64 n) = true → (∃ x m d, (∀ z, D.atKey (.int .i64 n) z = .held (.agg #[.int .i64 n, .slice x m d])) ∧ ∀ s, RdB w [.slice x m d] (readL n s c)) ∧ ∃ q ∈ c, q.n = n
  no : ∀ n : Int, Maps.has D (.int .i64 n) = false → (∀ s, readL n s c = s) ∧ ∀ q ∈ c, q.n ≠ n
theorem mapOf_nil (w : World) : MapOf w [] (.map []) := ⟨fun n h => by simp [Maps.has_eq] at h, fun n _ => ⟨fun s => rfl, fun q hq => by cases hq⟩⟩
theorem int_key (n : Int) : WideAt.IsKeyLit (.int .i64 n) := by simp [WideAt.IsKeyLit]
theorem MapOf.put {w : World} {c : List WrD} {k : Nat} {D : DataW Value} (h : MapOf w (c.take k) D) (hD : Maps.IsMap D) {a : WrD} (ha : c[k]? = some a) {x : Option Addr} {m d : Nat} (hr : RdB w [.slice x m d] a.b) :
    MapOf w (c.take (k + 1)) (D.put (.int .i64 a.n) (.held (.agg #[.int .i64 a.n, .slice x m d]))) := by
  have hm : ∀ q, q ∈ c.take (k + 1) ↔ q ∈ c.take k ∨ q = a := fun q => by rw [take_one ha]; simp
  refine ⟨fun n hn => ?_, fun n hn => ?_⟩
  · by_cases e : n = a.n
    · subst e
      exact ⟨⟨x, m, d, fun z => Maps.atKey_put_same hD (int_key _) _ z, fun s => by rw [readL_take _ s ha, if_pos rfl]; exact hr⟩, a, (hm a).2 (.inr rfl), rfl⟩
    · have hne : Lit.int .i64 n ≠ Lit.int .i64 a.n := fun e2 => e (by injection e2)
      rw [Maps.has_put_other hne] at hn
      obtain ⟨⟨x', m', d', h1, h2⟩, q, hq, hqn⟩ := h.yes n hn
      exact ⟨⟨x', m', d', fun z => (Maps.atKey_put_other hne _ z).trans (h1 z), fun s => by rw [readL_take _ s ha, if_neg (fun e2 => e e2.symm)]; exact h2 s⟩, q, (hm q).2 (.inl hq), hqn⟩
  · by_cases e : n = a.n
    · subst e
      rw [Maps.has_put_same hD (int_key _)] at hn
      cases hn
    · have hne : Lit.int .i64 n ≠ Lit.int .i64 a.n := fun e2 => e (by injection e2)
      rw [Maps.has_put_other hne] at hn
      obtain ⟨h1, h2⟩ := h.no n hn
      exact ⟨fun s => by rw [readL_take _ s ha, if_neg (fun e2 => e e2.symm)]; exact h1 s, fun q hq => ((hm q).1 hq).elim (h2 q) (fun e2 => by rw [e2]; exact fun e3 => e e3.symm)⟩

/-- A list of writes whose row lies in w, whose bytes are read in a base world. -/
abbrev RdWrOn (wB : World) : Rd (List WrD) := RdS 2 (fun _ => RdWr wB)
theorem rdWrOn_parts {wB w : World} {ao : Option Addr} {len cap : Nat} {ls : List WrD} (h : RdWrOn wB w [.slice ao len cap] ls) : len ≤ maxLen ∧ ls.length = len ∧ (ls = [] ∨ ∃ b off, ao = some ⟨b, off, none⟩ ∧ ∀ j a, ls[j]? = some a → ∃ c, c.length = 2 ∧ RdWr wB c a ∧ ∀ i v, c[i]? = some v → w.cell? ⟨b, off + j * 2 + i, none⟩ = some v) := by
  obtain ⟨_, _, _, e, hm, hl, h⟩ := h
  simp only [List.cons.injEq, Value.slice.injEq, and_true] at e
  obtain ⟨rfl, rfl, rfl⟩ := e
  exact ⟨hm, hl, h⟩
theorem rdWrOn_of {wB w : World} {cs : List Value} {ls : List WrD} (h : RdWrS wB cs ls) (hb : Below wB.heap.size wB w) : RdWrOn wB w cs ls := by
  obtain ⟨ao, len, cap, e, hm, hl, h⟩ := h
  refine ⟨ao, len, cap, e, hm, hl, h.imp id (fun ⟨b, off, e, g⟩ => ⟨b, off, e, fun j a ha => ?_⟩)⟩
  obtain ⟨c, h1, h2, h3⟩ := g j a ha
  exact ⟨c, h1, h2, fun i v hv => cell_below (h3 i v hv) hb⟩
theorem rdWrOn_below {wB w w' : World} {cs : List Value} {ls : List WrD} (h : RdWrOn wB w cs ls) (hb : Below w.heap.size w w') : RdWrOn wB w' cs ls := by
  obtain ⟨ao, len, cap, e, hm, hl, h⟩ := h
  refine ⟨ao, len, cap, e, hm, hl, h.imp id (fun ⟨b, off, e, g⟩ => ⟨b, off, e, fun j a ha => ?_⟩)⟩
  obtain ⟨c, h1, h2, h3⟩ := g j a ha
  exact ⟨c, h1, h2, fun i v hv => cell_below (h3 i v hv) hb⟩

set_option maxHeartbeats 4000000 in
theorem implLastWrs_base (wB : World) (x1 : Option Addr) (m1 d1 : Nat) (c : List WrD) (w : World) (h : RdWrOn wB w [.slice x1 m1 d1] c) (hc : m1 ≤ 1000) (hk : ∀ q ∈ c, 0 ≤ q.n ∧ q.n ≤ 1000) :
    Calls Try.prog 36 #[.slice x1 m1 d1] w fun e w' => ∃ b D, e = .returned (.map (some b)) ∧ w.heap.size ≤ b ∧ w'.ownsMap Try.prog 3 wrElem b m1 D ∧ MapOf wB c D ∧ Below w.heap.size w w' := by
  have r1 := rdWrOn_parts h
  have HL : Hd (c.length = m1 ∧ ∀ q ∈ c, 0 ≤ q.n ∧ q.n ≤ 1000) := ⟨r1.2.1, hk⟩
  have HR1 : Hd (c = [] ∨ ∃ b off, x1 = some ⟨b, off, none⟩ ∧ ∀ j a, c[j]? = some a → ∃ e, e.length = 2 ∧ RdWr wB e a ∧ ∀ i v, e[i]? = some v → w.cell? ⟨b, off + j * 2 + i, none⟩ = some v) := ⟨r1.2.2⟩
  clear r1 h hk
  have hmk : ∀ w : World, (Instr.makeMap 55 none).run Try.prog w = .ok (.map (some w.heap.size)) (w.alloc (.map #[] 0)) := fun w => run_makeMap _ w
  have H0 : Hd (∃ D, (w.alloc (.map #[] 0)).ownsMap Try.prog 3 wrElem w.heap.size 0 D ∧ MapOf wB (c.take 0) D ∧ Below w.heap.size w (w.alloc (.map #[] 0))) := ⟨_, World.ownsMap_made w _ _ _, mapOf_nil wB, below_lit w _⟩
  go_enter Try.func36, Try.ntmps36
  go_wp2_with fail
  clear hmk
  generalize w.alloc (.map #[] 0) = W0 at *
  go_loopw [9] (fun i wr => ∃ k : Nat, k ≤ m1 ∧ i = .int .i64 k ∧ Hd (∃ D, wr.ownsMap Try.prog 3 wrElem w.heap.size k D ∧ MapOf wB (c.take k) D ∧ Below w.heap.size w wr)) (fun i _ => m1 - (intOf i).toNat)
  case atStart => exact ⟨0, Nat.zero_le _, rfl, H0⟩
  case round =>
    obtain ⟨k, hk, rfl, HK⟩ := hrel
    clear H0
    obtain ⟨D, hown, hmap, hbel⟩ := HK.out
    have HM : Hd (wr.ownsMap Try.prog 3 wrElem w.heap.size k D ∧ MapOf wB (c.take k) D ∧ Below w.heap.size w wr) := ⟨hown, hmap, hbel⟩
    clear HK hown hmap hbel
    by_cases hlt : k < m1
    · have hlt' : (k : Int) < (m1 : Int) := by omega
      have h0 : (0 : Int) ≤ (k : Int) := by omega
      obtain ⟨b1, o1, hx1, G⟩ : ∃ b1 o1, x1 = some ⟨b1, o1, none⟩ ∧ ∀ j a, c[j]? = some a → ∃ e, e.length = 2 ∧ RdWr wB e a ∧ ∀ i v, e[i]? = some v → w.cell? ⟨b1, o1 + j * 2 + i, none⟩ = some v := by
        rcases HR1.out with h | h
        · have := HL.out.1; rw [h] at this; simp at this; omega
        · exact h
      subst hx1
      obtain ⟨a, ha⟩ := get_some (l := c) (j := k) (by rw [HL.out.1]; exact hlt)
      obtain ⟨e2, hcn, hR, hcell⟩ := G k a ha
      obtain ⟨y1, n1, e1, rfl, hr⟩ := hR
      have t0 := cell_below (hcell 0 _ rfl) HM.out.2.2
      have t1 := cell_below (hcell 1 _ rfl) HM.out.2.2
      simp only [Nat.add_zero] at t0
      obtain ⟨nn, hnn⟩ : ∃ nn, a.n = nn := ⟨_, rfl⟩
      have hput := HM.out.2.1.put HM.out.1.isMap ha hr
      have hin := HL.out.2 a (List.mem_of_getElem? ha)
      rw [hnn] at t0 hput hin
      have HP : Hd (MapOf wB (c.take (k + 1)) (D.put (.int .i64 nn) (.held (.agg #[.int .i64 nn, .slice y1 n1 e1]))) ∧ 0 ≤ nn ∧ nn ≤ 1000) := ⟨hput, hin⟩
      have HO : Hd ((wr.alloc (.cells #[.int .i64 nn, .slice y1 n1 e1] 35)).ownsMap Try.prog 3 wrElem w.heap.size k D) := ⟨HM.out.1.alloc _⟩
      have HB : Hd (Below w.heap.size w (wr.alloc (.cells #[.int .i64 nn, .slice y1 n1 e1] 35))) := ⟨Below.next HM.out.2.2 (below_lit wr _)⟩
      clear hcell hcn hr hnn G ha hput hin HM
      go_wp2_with (at_mapUpdate; refine wpList_mapUpdate_in _ rfl (.tmp 13) (.tmp 15) (.tmp 16) 55 rfl 3 35 (int_keyed Try.underlying3) Try.underlying55 wrElem w.heap.size k D rfl HO.out (by unfold maxLen; omega) (.int .i64 nn) (.agg #[.int .i64 nn, .slice y1 n1 e1]) (.int .i64 nn) rfl rfl (keyOf_int_mk Try.underlying3 (int_wf (by have := HP.out.2; omega))) (.held (.agg #[.int .i64 nn, .slice y1 n1 e1])) [] rfl ?_)
      intro w2 hown2 hturn2
      have HZ : Hd (∃ D, w2.ownsMap Try.prog 3 wrElem w.heap.size (k + 1) D ∧ MapOf wB (c.take (k + 1)) D ∧ Below w.heap.size w w2) := ⟨_, hown2, HP.out.1, below_grows HB.out hturn2.grown HB.out.size (Nat.le_refl _)⟩
      clear hown2 hturn2 HO HB HP t0 t1
      go_wp2_with fail
      go_roundw
      case rel => exact ⟨k + 1, by omega, by go_num, HZ⟩
      case measure => simp [intOf]; omega
    · have HZ : Hd (wr.ownsMap Try.prog 3 wrElem w.heap.size m1 D ∧ MapOf wB c D ∧ Below w.heap.size w wr) := ⟨HM.out.1.mono hk, by have h7 := HM.out.2.1; rw [List.take_of_length_le (by have := HL.out.1; omega)] at h7; exact h7, HM.out.2.2⟩
      clear HM
      go_wp2_with fail
      go_ret
      exact ⟨_, D, rfl, Nat.le_refl _, HZ.out⟩

theorem implLastWrs_any (x1 : Option Addr) (m1 d1 : Nat) (c : List WrD) (w : World) (h : RdWrS w [.slice x1 m1 d1] c) (hc : m1 ≤ 1000) (hk : ∀ q ∈ c, 0 ≤ q.n ∧ q.n ≤ 1000) :
    Calls Try.prog 36 #[.slice x1 m1 d1] w fun e w' => ∃ b D, e = .returned (.map (some b)) ∧ w.heap.size ≤ b ∧ w'.ownsMap Try.prog 3 wrElem b m1 D ∧ MapOf w c D ∧ Below w.heap.size w w' := implLastWrs_base w x1 m1 d1 c w (rdWrOn_of h (Below.refl _ w)) hc hk

end Go.Proofs.Ytidbhdlhcmjhkaa
