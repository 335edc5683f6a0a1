/- Plain facts on the program's way to ask whether bytes begin a sign and do not end it: filled up, a sign stands there that reaches beyond them. Contracts of the library's slices.Grow of nil and slices.Concat of two slices of bytes. The contract of the library's bytes.Repeat of one byte, three times. Contracts of the program's endings and mayGoOn: whether bytes are nothing, or begin a sign and do not end it. Contracts of the program's DecNew, DecOk and DecEnd. -/
import Derived.Test.YtjbideiifoadkaaDoorStreamA
import Derived.Lib.AppendZeros
import Derived.Lib.MakeNoZero
import Derived.Test.YtjbideiifoadkaaDoorCodeA
namespace Go.Proofs.YtjbideiifoadkaaDoor
set_option maxRecDepth 4000
open Go.RowKit

/-- Filled up by a byte, a sign stands at the head that reaches beyond what was there. -/
def fillB (cs : Int) (b : List UInt8) (c : UInt8) : Bool := hdOk cs (b ++ [c, c, c]) && decide (b.length < hdK cs (b ++ [c, c, c]))
theorem fill_got {b : List UInt8} {c : UInt8} {n : Int} (hs : isSign n) (hp : signB n <+: b ++ [c, c, c]) (hl : b.length < (signB n).length) : fillB 0 b c = true := by
  unfold fillB hdOk hdK; rw [hd_got ⟨hs, hp⟩]; simpa using hl
theorem fill_beg {b : List UInt8} {c : UInt8} (hb : b ≠ []) (h : fillB 0 b c = true) : BegU b := by
  simp only [fillB, Bool.and_eq_true, decide_eq_true_eq] at h
  obtain ⟨h1, h2⟩ := h
  rw [hdOk_utf] at h1
  obtain ⟨g1, g2⟩ := gotB_t h1
  have e := hd_got g1
  unfold hdK at h2; rw [e] at h2
  generalize (cand (b ++ [c, c, c]) : Int) = n at *
  have h3 : b.length < (signB n).length := h2
  exact pre_beg g1.1 hb (List.prefix_of_prefix_length_le (List.prefix_append b _) g1.2 (by omega)) h3
theorem fill_not {b : List UInt8} {c : UInt8} (hb : b ≠ []) (h : begU b = false) : fillB 0 b c = false := by
  cases e : fillB 0 b c
  · rfl
  · exact absurd (fill_beg hb e) (begU_not h)

theorem fill_first {b : List UInt8} {x : Nat} (h : b.length = 1) (hx : gv b 0 = x) (h1 : 194 ≤ x) (h2 : x ≤ 244) : (fillB 0 b 128 || fillB 0 b 191) = true := by
  have hb := list_one h
  rw [hx] at hb
  by_cases a1 : x ≤ 223
  · obtain ⟨n, hs, hn⟩ := two_got h1 a1 (b := 128) (by omega) (by omega)
    rw [fill_got (n := n) hs (by rw [hn, hb]; exact ⟨[128, 128], rfl⟩) (by rw [hn, h]; simp)]; rfl
  by_cases a2 : x ≤ 239
  · by_cases a3 : x = 224
    · obtain ⟨n, hs, hn⟩ := three_got (a := x) (by omega) a2 (b := 191) (c := 191) ⟨by omega, by omega, by omega, by omega, by omega, by omega⟩ (by omega) (by omega)
      rw [fill_got (c := 191) (n := n) hs (by rw [hn, hb]; exact ⟨[191], rfl⟩) (by rw [hn, h]; simp)]; simp
    · obtain ⟨n, hs, hn⟩ := three_got (a := x) (by omega) a2 (b := 128) (c := 128) ⟨by omega, by omega, by omega, by omega, by omega, by omega⟩ (by omega) (by omega)
      rw [fill_got (c := 128) (n := n) hs (by rw [hn, hb]; exact ⟨[128], rfl⟩) (by rw [hn, h]; simp)]; rfl
  · by_cases a3 : x = 240
    · obtain ⟨n, hs, hn⟩ := four_got (a := x) (by omega) h2 (b := 191) (c := 191) (d := 191) ⟨by omega, by omega, by omega, by omega, by omega, by omega⟩ (by omega) (by omega) (by omega) (by omega)
      rw [fill_got (c := 191) (n := n) hs (by rw [hn, hb]; exact ⟨[], rfl⟩) (by rw [hn, h]; simp)]; simp
    · obtain ⟨n, hs, hn⟩ := four_got (a := x) (by omega) h2 (b := 128) (c := 128) (d := 128) ⟨by omega, by omega, by omega, by omega, by omega, by omega⟩ (by omega) (by omega) (by omega) (by omega)
      rw [fill_got (c := 128) (n := n) hs (by rw [hn, hb]; exact ⟨[], rfl⟩) (by rw [hn, h]; simp)]; rfl
theorem fill_second {b : List UInt8} {x y : Nat} (h : b.length = 2) (hx : gv b 0 = x) (hy : gv b 1 = y) (h1 : 224 ≤ x) (h2 : x ≤ 244) (h3 : Snd x y) : fillB 0 b 128 = true := by
  have hb := list_two h
  rw [hx, hy] at hb
  by_cases a2 : x ≤ 239
  · obtain ⟨n, hs, hn⟩ := three_got h1 a2 h3 (c := 128) (by omega) (by omega)
    exact fill_got (n := n) hs (by rw [hn, hb]; exact ⟨[128, 128], rfl⟩) (by rw [hn, h]; simp)
  · obtain ⟨n, hs, hn⟩ := four_got (by omega) h2 h3 (c := 128) (d := 128) (by omega) (by omega) (by omega) (by omega)
    exact fill_got (n := n) hs (by rw [hn, hb]; exact ⟨[128], rfl⟩) (by rw [hn, h]; simp)
theorem fill_third {b : List UInt8} {x y z : Nat} (h : b.length = 3) (hx : gv b 0 = x) (hy : gv b 1 = y) (hz : gv b 2 = z) (h1 : 240 ≤ x) (h2 : x ≤ 244) (h3 : Snd x y) (h4 : 128 ≤ z) (h5 : z < 192) : fillB 0 b 128 = true := by
  have hb := list_three h
  rw [hx, hy, hz] at hb
  obtain ⟨n, hs, hn⟩ := four_got h1 h2 h3 h4 h5 (d := 128) (by omega) (by omega)
  exact fill_got (n := n) hs (by rw [hn, hb]; exact ⟨[128, 128], rfl⟩) (by rw [hn, h]; simp)
/-- One of two bytes fills up whatever is begun, and nothing else. -/
theorem fill_utf {b : List UInt8} (hb : b ≠ []) : (fillB 0 b 128 || fillB 0 b 191) = beg 0 b := by
  rw [beg_utf]
  cases h : begU b
  · rw [fill_not hb h, fill_not hb h]; rfl
  · rcases begU_is h with ⟨l, a, c⟩ | ⟨l, a, c, d⟩ | ⟨l, a, c, d, e, f⟩
    · exact fill_first l rfl a c
    · rw [fill_second l rfl rfl a c d]; rfl
    · rw [fill_third l rfl rfl rfl a c d e f]; rfl
theorem fill_euc {b : List UInt8} (hb : b ≠ []) : fillB 5 b 161 = beg 5 b := by
  have hl := len_pos hb
  have g0 : gv (b ++ [161, 161, 161]) 0 = gv b 0 := gv_app hl
  rw [beg_euc]
  unfold fillB hdOk hdK
  rw [hd_euc, g0]
  by_cases h1 : gv b 0 < 128
  · rw [if_pos h1]
    have e2 : decide (b.length = 1 ∧ (gv b 0 = 164 ∨ gv b 0 = 165)) = false := decide_eq_false (by omega)
    rw [e2]; simpa using hb
  · rw [if_neg h1]
    by_cases h2 : b.length = 1
    · have g1 : gv (b ++ [161, 161, 161]) 1 = 161 := by
        match b, h2 with
        | [a], _ => rfl
      rw [g1]
      by_cases h3 : gv b 0 = 164 ∨ gv b 0 = 165
      · have hp : psOk (gv b 0 : Int) ((161 : Nat) : Int) = true := by rcases h3 with h3 | h3 <;> rw [h3] <;> rfl
        rw [if_pos ⟨by simp, hp⟩, decide_eq_true (show b.length = 1 ∧ (gv b 0 = 164 ∨ gv b 0 = 165) from ⟨h2, h3⟩)]
        simp [h2]
      · have hp : ¬ psOk (gv b 0 : Int) ((161 : Nat) : Int) = true := fun hp => h3 (by rcases ps_first hp with e | e <;> omega)
        rw [if_neg (fun h => hp h.2), decide_eq_false (fun h : b.length = 1 ∧ (gv b 0 = 164 ∨ gv b 0 = 165) => h3 h.2)]; rfl
    · rw [decide_eq_false (fun h : b.length = 1 ∧ (gv b 0 = 164 ∨ gv b 0 = 165) => h2 h.1)]
      split
      · simp; omega
      · rfl

/-- The bytes by which the program fills up, in a set. -/
def endL (cs : Int) : List UInt8 := if cs = 0 then [128, 191] else if cs = 5 then [161] else []
theorem endL_utf : endL 0 = [128, 191] := rfl
theorem endL_euc : endL 5 = [161] := rfl
theorem endL_byte {cs : Int} (h0 : cs ≠ 0) (h5 : cs ≠ 5) : endL cs = [] := by unfold endL; rw [if_neg h0, if_neg h5]
theorem endL_len (cs : Int) : (endL cs).length ≤ 2 := by
  unfold endL; split
  · simp
  · split <;> simp
theorem fill_any {cs : Int} {b : List UInt8} (hb : b ≠ []) : (endL cs).any (fillB cs b) = beg cs b := by
  by_cases h0 : cs = 0
  · subst h0; rw [endL_utf, ← fill_utf hb]; simp
  by_cases h5 : cs = 5
  · subst h5; rw [endL_euc, ← fill_euc hb]; simp
  · rw [endL_byte h0 h5, beg_byte h0 h5]; rfl
/-- No byte ahead of place k filled it up. -/
def NoFill (cs : Int) (b : List UInt8) (k : Nat) : Prop := ∀ j, j < k → fillB cs b ((endL cs).getD j 0) = false
theorem noFill_zero (cs : Int) (b : List UInt8) : NoFill cs b 0 := fun _ hj => absurd hj (Nat.not_lt_zero _)
theorem noFill_next {cs : Int} {b : List UInt8} {k : Nat} (h : NoFill cs b k) (hk : fillB cs b ((endL cs).getD k 0) = false) : NoFill cs b (k + 1) := fun j hj => by
  by_cases e : j = k
  · rw [e]; exact hk
  · exact h j (by omega)
theorem noFill_end {cs : Int} {b : List UInt8} {k : Nat} (hb : b ≠ []) (h : NoFill cs b k) (hk : (endL cs).length ≤ k) : beg cs b = false := by
  rw [← fill_any hb, List.any_eq_false]
  intro x hx
  obtain ⟨j, hj, rfl⟩ := List.mem_iff_getElem.1 hx
  have := h j (by omega)
  rw [List.getD, List.getElem?_eq_getElem hj] at this
  simpa using this
theorem fill_yes {cs : Int} {b : List UInt8} {k : Nat} (hb : b ≠ []) (hk : k < (endL cs).length) (h : fillB cs b ((endL cs).getD k 0) = true) : beg cs b = true := by
  rw [← fill_any hb, List.any_eq_true]
  refine ⟨(endL cs)[k], List.getElem_mem hk, ?_⟩
  rw [List.getD, List.getElem?_eq_getElem hk] at h
  exact h

/-- Whether bytes are nothing, or begin a sign and do not end it. -/
def mayB (cs : Int) (b : List UInt8) : Bool := decide (b = []) || beg cs b
theorem mayB_nil (cs : Int) : mayB cs [] = true := rfl
theorem mayB_some {cs : Int} {b : List UInt8} (h : b ≠ []) : mayB cs b = beg cs b := by unfold mayB; rw [decide_eq_false h]; rfl
theorem mayB_long {cs : Int} {b : List UInt8} (h : 3 < b.length) : mayB cs b = false := by
  rw [mayB_some (by intro e; rw [e] at h; simp at h)]
  cases e : beg cs b
  · rfl
  · have := beg_len e; omega

/-- A slice of bytes of new memory, or nil where there is none. -/
def OwnO (w : World) (B : Nat) (ao : Option Addr) (c : Nat) (bs : List UInt8) : Prop :=
  (ao = none ∧ c = 0 ∧ bs = []) ∨ ∃ q, ao = some ⟨q, 0, none⟩ ∧ B ≤ q ∧ Own w q c bs
theorem ownO_of {w : World} {B n : Nat} {v : Value} {bs : List UInt8} (h : w.ownsRow B 5 1 v n (bs.map cb)) : ∃ ao c, v = .slice ao n c ∧ OwnO w B ao c bs := by
  by_cases hv : v = .slice none 0 0
  · subst hv
    have hn : n = 0 := by
      rcases h.2 with ⟨_, h0⟩ | ⟨g, cap, cur, h', _⟩
      · exact h0
      · cases h'
    have hl : bs.length = n := by simpa using h.1
    subst hn
    exact ⟨none, 0, rfl, .inl ⟨rfl, rfl, List.eq_nil_of_length_eq_zero hl⟩⟩
  · obtain ⟨g, c, rfl, hb, hO⟩ := own_row h hv
    exact ⟨_, c, rfl, .inr ⟨g, rfl, hb, hO⟩⟩
theorem OwnO.owns {w : World} {B c n : Nat} {ao : Option Addr} {bs : List UInt8} (h : OwnO w B ao c bs) (hn : bs.length = n) : w.ownsRow B 5 1 (.slice ao n c) n (bs.map cb) := by
  rcases h with ⟨rfl, rfl, rfl⟩ | ⟨q, rfl, hb, hO⟩
  · simp at hn; subst hn; exact World.ownsRow_nil w B _ _
  · exact hO.owns hn hb
theorem OwnO.reads {w : World} {B c n : Nat} {ao : Option Addr} {bs : List UInt8} (h : OwnO w B ao c bs) (hn : bs.length = n) : Reads w ao n bs := by
  rcases h with ⟨rfl, rfl, rfl⟩ | ⟨q, rfl, hb, hO⟩
  · exact ⟨hn, .inl (by simpa using hn.symm)⟩
  · exact hO.row.reads hn
theorem OwnO.below {w w' : World} {B c : Nat} {ao : Option Addr} {bs : List UInt8} (h : OwnO w B ao c bs) (hb : Below w.heap.size w w') : OwnO w' B ao c bs := by
  rcases h with h | ⟨q, rfl, h1, hO⟩
  · exact .inl h
  · exact .inr ⟨q, rfl, h1, hO.below hb⟩
theorem OwnO.mono {w : World} {B B' c : Nat} {ao : Option Addr} {bs : List UInt8} (h : OwnO w B ao c bs) (hb : B' ≤ B) : OwnO w B' ao c bs := by
  rcases h with h | ⟨q, rfl, h1, hO⟩
  · exact .inl h
  · exact .inr ⟨q, rfl, by omega, hO⟩

theorem reads_none {w : World} {m : Nat} {ys : List UInt8} (h : Reads w none m ys) : m = 0 ∧ ys = [] := by
  have h0 : m = 0 := by
    rcases h.2 with h0 | ⟨b, off, e, _⟩
    · exact h0
    · cases e
  subst h0
  exact ⟨rfl, List.eq_nil_of_length_eq_zero h.1⟩
theorem reads_news {w : World} {a : Addr} {m : Nat} {ys : List UInt8} (h : Reads w (some a) m ys) : ∀ j u, (ys.map cb)[j]? = some u → w.cell? (a.add j) = some u := by
  rcases h.2 with h0 | ⟨b, off, e, hc⟩
  · intro j u hu
    have : ys = [] := List.eq_nil_of_length_eq_zero (h.1.trans h0)
    subst this; cases hu
  · cases e; exact map_cb_cell h.1 hc

/-- append of whatever slice onto one of the call's own, nil ones too. -/
theorem run_app_o (w : World) (ty : TypeId) (base n : Nat) (v : Value) (xs ys : List UInt8) (hown : w.ownsRow base 5 1 v n (xs.map cb)) (hbw : base ≤ w.heap.size) (ao : Option Addr) (m cc : Nat) (hr : Reads w ao m ys) (hlim : n + m ≤ 2147483648) :
    ∃ v' w', (Builtin.append_ #[22, 22] ty #[v, .slice ao m cc]).run Tryd.prog w = .ok v' w' ∧ w'.ownsRow base 5 1 v' (n + m) ((xs ++ ys).map cb) ∧ w.grownBy w' v.ownBlock := by
  obtain ⟨i0, hi, hz0, hz1, hz2⟩ := info_parts info8
  cases ao with
  | some a =>
    obtain ⟨v', w', h1, h2, h3, _, _⟩ := run_append_own_at (P := Tryd.prog) w base 22 ty 5 i0 (.int .u8 0) 1 1 Tryd.underlying22 hi hz0 hz1 hz2 rfl (by decide) v n (xs.map cb) hown a m cc (ys.map cb) (by simpa using hr.1) (reads_news hr) (one_cb ys) (by unfold maxLen; omega) (by omega) hbw
    exact ⟨v', w', h1, by rw [List.map_append]; exact h2, h3⟩
  | none =>
    obtain ⟨rfl, rfl⟩ := reads_none hr
    refine ⟨v, w, ?_, by simpa using hown, ⟨rfl, rfl, rfl, Nat.le_refl _, fun _ _ _ => rfl⟩⟩
    rcases hown.2 with ⟨rfl, rfl⟩ | ⟨g, cap, cur, rfl, hbg, hg, hnc, hcm, hcs, htake⟩
    · simp [Builtin.append_, run_underlying Tryd.underlying22, sizeOf, typeInfo, hi, Builtin.lenOf, Builtin.firstCells]
    · simp [Builtin.append_, run_underlying Tryd.underlying22, sizeOf, typeInfo, hi, Builtin.lenOf, Builtin.firstCells, loadCells, hnc, storeCells]
theorem wpList_app_o {w : World} {ops : Array Oper} {rest : List Oper} {o : Oper} {a : Act} {Q : Exit → Act → World → Prop} (hgd : o.guard = none) (s x : Operand)
    (ho : o.op = .call { callee := .builtin .append, args := #[s, x], argTypes := #[22, 22] })
    (base n : Nat) (v : Value) (xs ys : List UInt8) (hs : a.eval s = v) (hown : w.ownsRow base 5 1 v n (xs.map cb)) (hbw : base ≤ w.heap.size) (ao : Option Addr) (m cc : Nat) (hx : a.eval x = .slice ao m cc) (hr : Reads w ao m ys) (hlim : n + m ≤ 2147483648)
    (h : ∀ v' w', w'.ownsRow base 5 1 v' (n + m) ((xs ++ ys).map cb) → w.grownBy w' v.ownBlock → wpList Tryd.prog ops Q rest (a.put o.dst v') w') : wpList Tryd.prog ops Q (o :: rest) a w := by
  refine wpList_plain hgd fun _ hK => ?_
  obtain ⟨v', w', hrun, h1, h2⟩ := run_app_o w o.type base n v xs ys hown hbw ao m cc hr hlim
  unfold Oper.wp execOp
  simp only [ho, resolve, invoke, builtin, Sem.run_bind, Sem.run_pure, Result.andThen_ok, List.map_toArray, List.map_cons, List.map_nil, hs, hx, hrun]
  exact hK _ _ (h v' w' h1 h2)

set_option maxHeartbeats 400000 in
theorem grow_zero (w : World) : Calls Tryd.prog 76 #[.slice none 0 0, .int .i64 0] w fun e w' => e = .returned (.slice none 0 0) ∧ w = w' := by
  go_enter Tryd.func76, Tryd.ntmps76
  go_wp2
  go_ret
  exact ⟨rfl, rfl⟩

set_option maxHeartbeats 400000 in
theorem grow_some (n : Nat) (w : World) (h0 : 0 < n) (hn : n ≤ 2147483648) : Calls Tryd.prog 76 #[.slice none 0 0, .int .i64 (n : Int)] w fun e w' => ∃ c, e = .returned (.slice (some ⟨w.heap.size, 0, none⟩) 0 c) ∧ Own w' w.heap.size c [] ∧ Below w.heap.size w w' := by
  obtain ⟨i0, hi, hz0, hz1, hz2⟩ := info_parts info8
  have h1 : ¬ (n : Int) < 0 := by omega
  have h2 : (0 : Int) < (n : Int) := by omega
  have hw : wrap64 (n : Int) = (n : Int) := wrap64_in (by omega) (by omega)
  obtain ⟨C, hC⟩ : ∃ C, grownCap w n 0 5 = C := ⟨_, rfl⟩
  have hge := grownCap_ge w n 0 5
  have hle := grownCap_le_maxLen w n 0 5 (by unfold maxLen; omega)
  have hr := fun ty => Lib.run_append_nil_zeros (P := Tryd.prog) w 22 3 ty 5 i0 (.int .u8 0) .i64 .i64 Tryd.underlying22 Tryd.underlying3 hi hz0 n h0 (by omega) (by omega) (by rw [hz2]; omega)
  rw [hC] at hge hle
  have HO : Hd (Own (w.drew.alloc (.cells (Builtin.zeroCells (Value.int .u8 0).cells n ++ Builtin.zeroCells (Value.int .u8 0).cells (C - n)) 5)) w.heap.size C []) := ⟨⟨_, heap_alloc_new w.drew _, by simp, hle, by rw [Array.size_append, size_zeroCells, size_zeroCells]; simp [Value.cells]; omega, by simp⟩⟩
  have HB : Hd (Below w.heap.size w (w.drew.alloc (.cells (Builtin.zeroCells (Value.int .u8 0).cells n ++ Builtin.zeroCells (Value.int .u8 0).cells (C - n)) 5))) := ⟨Below.next (Below.refl _ w).drew (below_lit _ _)⟩
  simp only [hC] at hr
  have hcI : (0 : Int) ≤ (C : Int) := by omega
  have HR : Hd (∀ ty, (Builtin.append_ #[22, 3] ty #[.slice none 0 0, .int .i64 (n : Int)]).run Tryd.prog w = .ok (.slice (some ⟨w.heap.size, 0, none⟩) n C) (w.drew.alloc (.cells (Builtin.zeroCells (Value.int .u8 0).cells n ++ Builtin.zeroCells (Value.int .u8 0).cells (C - n)) 5))) := ⟨hr⟩
  generalize w.drew.alloc (.cells (Builtin.zeroCells (Value.int .u8 0).cells n ++ Builtin.zeroCells (Value.int .u8 0).cells (C - n)) 5) = w1 at *
  clear hr hge hle hC
  go_enter Tryd.func76, Tryd.ntmps76
  go_wp2_with (at_builtin; refine Lib.wpList_append_run _ rfl (.tmp 20) (.tmp 21) 22 3 rfl _ _ rfl rfl _ _ (HR.out _) ?_)
  go_ret
  exact ⟨C, rfl, HO.out, HB.out⟩

/-- What slices.Concat answers. -/
structure Joined (w : World) (bs : List UInt8) (e : Ending) (w' : World) : Prop where
  out : ∃ ao c, e = .returned (.slice ao bs.length c) ∧ OwnO w' w.heap.size ao c bs ∧ Below w.heap.size w w'

theorem grow_any (n : Nat) (w : World) (hn : n ≤ 2147483648) : Calls Tryd.prog 76 #[.slice none 0 0, .int .i64 (n : Int)] w fun e w' => ∃ ao c, e = .returned (.slice ao 0 c) ∧ OwnO w' w.heap.size ao c [] ∧ Below w.heap.size w w' := by
  by_cases h0 : n = 0
  · subst h0
    refine (grow_zero w).mono ?_
    rintro e w1 ⟨rfl, rfl⟩
    exact ⟨none, 0, rfl, .inl ⟨rfl, rfl, rfl⟩, Below.refl _ _⟩
  · refine (grow_some n w (by omega) hn).mono ?_
    rintro e w1 ⟨c, rfl, hO, hB⟩
    exact ⟨_, c, rfl, .inr ⟨_, rfl, Nat.le_refl _, hO⟩, hB⟩

theorem cells2 (w : World) (g : Nat) (a b : Value) (T : TypeId) (hg : w.heap[g]? = some (.cells #[a, b] T (0, 0))) : w.cell? ⟨g, 0, none⟩ = some a ∧ w.cell? ⟨g, 1, none⟩ = some b := by
  refine ⟨?_, ?_⟩
  · rw [cell_of_row w g 0 _ _ (0, 0) hg]; rfl
  · rw [cell_of_row w g 1 _ _ (0, 0) hg]; rfl

set_option maxHeartbeats 1000000 in
theorem concat_two (g l1 c1 l2 c2 : Nat) (a1 a2 : Option Addr) (xs ys : List UInt8) (w : World) (hg : w.heap[g]? = some (.cells #[.slice a1 l1 c1, .slice a2 l2 c2] 22 (0, 0))) (h1 : Reads w a1 l1 xs) (h2 : Reads w a2 l2 ys) (hl1 : l1 ≤ 1073741824) (hl2 : l2 ≤ 1073741824) :
    Calls Tryd.prog 55 #[.slice (some ⟨g, 0, none⟩) 2 2] w (Joined w (xs ++ ys)) := by
  obtain ⟨k0, k1⟩ := cells2 w g _ _ _ hg
  have H1 : Hd (Reads w a1 l1 xs) := ⟨h1⟩
  have H2 : Hd (Reads w a2 l2 ys) := ⟨h2⟩
  have K : Hd (w.cell? ⟨g, 0, none⟩ = some (.slice a1 l1 c1) ∧ w.cell? ⟨g, 1, none⟩ = some (.slice a2 l2 c2)) := ⟨k0, k1⟩
  have w1 : wrap64 (l1 : Int) = (l1 : Int) := wrap64_in (by omega) (by omega)
  have w2 : wrap64 ((l1 : Int) + (l2 : Int)) = (l1 : Int) + (l2 : Int) := wrap64_in (by omega) (by omega)
  have n1 : ¬ (l1 : Int) < 0 := by omega
  have n2 : ¬ (l1 : Int) + (l2 : Int) < 0 := by omega
  clear h1 h2 hg
  go_enter Tryd.func55, Tryd.ntmps55
  go_wp2_with fail
  refine wp_loop_rounds 3 ?_
  rewrite [rounds_succ]
  go_wp2_with fail
  rewrite [rounds_succ]
  go_wp2_with fail
  rewrite [rounds_succ]
  go_wp2_with fail
  have hL : (l1 : Int) + (l2 : Int) = ((l1 + l2 : Nat) : Int) := by omega
  rewrite [hL]
  refine (grow_any (l1 + l2) w (by omega)).mono ?_
  rintro e w3 ⟨ag, cg, rfl, hO, hB⟩
  have HB : Hd (Below w.heap.size w w3) := ⟨hB⟩
  have HO : Hd (w3.ownsRow w.heap.size 5 1 (.slice ag 0 cg) 0 (([] : List UInt8).map cb)) := ⟨hO.owns rfl⟩
  clear k0 k1 hO hB hL w1 w2 n1 n2
  have k0 := cell_below K.out.1 HB.out
  have k1 := cell_below K.out.2 HB.out
  generalize hv0 : Value.slice ag 0 cg = v0 at *
  clear hv0
  go_wp2_with fail
  refine wp_loop_rounds 3 ?_
  rewrite [rounds_succ]
  go_wp2_with (at_builtin; refine wpList_app_o rfl (.tmp 31) (.tmp 32) rfl w.heap.size 0 v0 [] xs rfl HO.out HB.out.size a1 l1 c1 rfl (H1.out.below rfl HB.out) (by omega) ?_)
  intro v1 w4 hO4 hG4
  have HB4 : Hd (Below w.heap.size w w4) := ⟨HB.out.grown hG4 HB.out.size (fun k e => own_block HO.out e)⟩
  have HO4 : Hd (w4.ownsRow w.heap.size 5 1 v1 l1 (xs.map cb)) := ⟨hO4⟩
  clear hO4 hG4 k0 k1 HB HO
  have k0 := cell_below K.out.1 HB4.out
  have k1 := cell_below K.out.2 HB4.out
  go_wp2_with fail
  rewrite [rounds_succ]
  go_wp2_with (at_builtin; refine wpList_app_o rfl (.tmp 31) (.tmp 32) rfl w.heap.size l1 v1 xs ys rfl HO4.out HB4.out.size a2 l2 c2 rfl (H2.out.below rfl HB4.out) (by omega) ?_)
  intro v2 w5 hO5 hG5
  have HB5 : Hd (Below w.heap.size w w5) := ⟨HB4.out.grown hG5 HB4.out.size (fun k e => own_block HO4.out e)⟩
  have HO5 : Hd (w5.ownsRow w.heap.size 5 1 v2 (l1 + l2) ((xs ++ ys).map cb)) := ⟨by rw [List.map_append]; exact hO5⟩
  clear hO5 hG5 k0 k1 HB4 HO4
  have k0 := cell_below K.out.1 HB5.out
  have k1 := cell_below K.out.2 HB5.out
  go_wp2_with fail
  rewrite [rounds_succ]
  go_wp2_with fail
  go_ret
  obtain ⟨ao, c, rfl, hO⟩ := ownO_of HO5.out
  have e1 := H1.out.1
  have e2 := H2.out.1
  exact ⟨ao, c, by rw [List.length_append, e1, e2]; rfl, hO, HB5.out⟩

/-- Block g has room for three bytes, of which the first j are c. -/
structure Buf3 (w : World) (g j : Nat) (c : UInt8) : Prop where
  out : ∃ cur : Array Value, w.heap[g]? = some (.cells cur 5 (0, 0)) ∧ 3 ≤ cur.size ∧ cur.size ≤ maxLen ∧ cur.toList.take j = List.replicate j (cb c)
theorem Buf3.row {w : World} {g : Nat} {c : UInt8} (h : Buf3 w g 3 c) : Row w g [c, c, c] := by
  obtain ⟨cur, h1, h2, h3, h4⟩ := h.out
  exact ⟨cur, h1, h2, h3, h4⟩
theorem Buf3.first {w : World} {g j : Nat} {c : UInt8} (h : Buf3 w g j c) (hj : 0 < j) : w.cell? ⟨g, 0, none⟩ = some (cb c) := by
  obtain ⟨cur, h1, h2, h3, h4⟩ := h.out
  rw [cell_of_row w g 0 cur _ (0, 0) h1]
  have : (cur.toList.take j)[0]? = (List.replicate j (cb c))[0]? := by rw [h4]
  rw [List.getElem?_take, if_pos hj] at this
  simpa [hj] using this
theorem Buf3.drew {w : World} {g j : Nat} {c : UInt8} (h : Buf3 w g j c) : Buf3 w.drew g j c := ⟨h.out⟩
theorem run_copy_one (w : World) (ty : TypeId) (g j dl dc sl sc : Nat) (a : Addr) (c : UInt8) (h : Buf3 w g j c) (hj : j < 3) (hm : Nat.min sl dl = 1) (hsrc : w.cell? a = some (cb c)) :
    ∃ w', (Builtin.copy_ #[22, 22] ty #[.slice (some ⟨g, j, none⟩) dl dc, .slice (some a) sl sc]).run Tryd.prog w = .ok (.int .i64 1) w' ∧ Buf3 w' g (j + 1) c ∧ ∀ B w0, Below B w0 w → B ≤ g → Below B w0 w' := by
  obtain ⟨cur, h1, h2, h3, h4⟩ := h.out
  have hr := run_copy_row (P := Tryd.prog) w 22 22 ty 5 g j dl dc a sl sc cur 5 [cb c] Tryd.underlying22 size8 h1 (by rw [hm]; rfl) (by
    intro k v hk
    match k, hk with
    | 0, hk => simp at hk; subst hk; rw [show a.add 0 = a from by simp [Addr.add]]; exact hsrc
    | k + 1, hk => simp at hk) (by simp; omega) (by intro v hv; simp at hv; subst hv; rfl)
  refine ⟨_, hr, ⟨_, setRow_heap w g cur _ _ _ h1, ?_, ?_, ?_⟩, fun B w0 hb hB => below_setRow hb hB _⟩
  · simp; omega
  · simp; omega
  · have hl : (cur.toList.take j).length = j := by simp; omega
    have e : (cur.toList.take j ++ [cb c] ++ cur.toList.drop (j + [cb c].length)).toArray.toList = cur.toList.take j ++ [cb c] ++ cur.toList.drop (j + 1) := by simp
    rw [e, List.take_append_of_le_length (by simp; omega), List.take_of_length_le (by simp; omega), h4, ← List.replicate_succ']
theorem wp_copy_one {w : World} {o : Oper} {a : Act} {K : Act → World → Prop} {Q : Exit → Act → World → Prop} (d s : Operand)
    (ho : o.op = .call { callee := .builtin .copy, args := #[d, s], argTypes := #[22, 22] })
    (g j dl dc sl sc : Nat) (ad : Addr) (c : UInt8) (hd : a.eval d = .slice (some ⟨g, j, none⟩) dl dc) (hs : a.eval s = .slice (some ad) sl sc) (h : Buf3 w g j c) (hj : j < 3) (hm : Nat.min sl dl = 1) (hsrc : w.cell? ad = some (cb c))
    (hk : ∀ w', Buf3 w' g (j + 1) c → (∀ B w0, Below B w0 w → B ≤ g → Below B w0 w') → K (a.put o.dst (.int .i64 1)) w') : o.wp Tryd.prog a w K Q := by
  obtain ⟨w', hr, h1, h2⟩ := run_copy_one w o.type g j dl dc sl sc ad c h hj hm hsrc
  unfold Oper.wp execOp
  simp only [ho, resolve, invoke, builtin, Sem.run_bind, Sem.run_pure, Result.andThen_ok, List.map_toArray, List.map_cons, List.map_nil, hd, hs, hr]
  exact hk w' h1 h2
theorem wpList_copy_one {w : World} {ops : Array Oper} {rest : List Oper} {o : Oper} {a : Act} {Q : Exit → Act → World → Prop} (hgd : o.guard = none) (d s : Operand)
    (ho : o.op = .call { callee := .builtin .copy, args := #[d, s], argTypes := #[22, 22] })
    (g j dl dc sl sc : Nat) (ad : Addr) (c : UInt8) (hd : a.eval d = .slice (some ⟨g, j, none⟩) dl dc) (hs : a.eval s = .slice (some ad) sl sc) (h : Buf3 w g j c) (hj : j < 3) (hm : Nat.min sl dl = 1) (hsrc : w.cell? ad = some (cb c))
    (hk : ∀ w', Buf3 w' g (j + 1) c → (∀ B w0, Below B w0 w → B ≤ g → Below B w0 w') → wpList Tryd.prog ops Q rest (a.put o.dst (.int .i64 1)) w') : wpList Tryd.prog ops Q (o :: rest) a w :=
  wpList_plain hgd fun _ hK => wp_copy_one d s ho g j dl dc sl sc ad c hd hs h hj hm hsrc fun w' h1 h2 => hK _ _ (hk w' h1 h2)
theorem step_copy_one {w : World} {ops : Array Oper} {o : Oper} {a : Act} {K : Act → World → Prop} {Q : Exit → Act → World → Prop} {E : Prop} (hgd : o.guard = none) (dst : Option Tmp) (hdst : o.dst = dst) (d s : Operand)
    (ho : o.op = .call { callee := .builtin .copy, args := #[d, s], argTypes := #[22, 22] })
    (g j dl dc sl sc : Nat) (ad : Addr) (c : UInt8) (hd : a.eval d = .slice (some ⟨g, j, none⟩) dl dc) (hs : a.eval s = .slice (some ad) sl sc) (h : Buf3 w g j c) (hj : j < 3) (hm : Nat.min sl dl = 1) (hsrc : w.cell? ad = some (cb c))
    (hk : ∀ w', Buf3 w' g (j + 1) c → (∀ B w0, Below B w0 w → B ≤ g → Below B w0 w') → K (a.put dst (.int .i64 1)) w') :
    if Region.wanted o (yielded ops a.tmps) = true then Oper.wp Tryd.prog o a w K Q else E := by
  have hw : Region.wanted o (yielded ops a.tmps) = true := by simp [Region.wanted, hgd]
  rw [if_pos hw]
  subst hdst
  exact wp_copy_one d s ho g j dl dc sl sc ad c hd hs h hj hm hsrc hk

set_option maxHeartbeats 400000 in
theorem mul64_three (w : World) : Calls Tryd.prog 94 #[.int .u64 1, .int .u64 3] w fun e w' => e = .returned (.tuple #[.int .u64 0, .int .u64 3]) ∧ w = w' := by
  go_enter Tryd.func94, Tryd.ntmps94
  go_wp2
  go_ret2
  exact ⟨rfl, rfl⟩

set_option maxHeartbeats 400000 in
theorem mul_three (w : World) : Calls Tryd.prog 77 #[.int .u64 1, .int .u64 3] w fun e w' => e = .returned (.tuple #[.int .u64 0, .int .u64 3]) ∧ w = w' := by
  go_enter Tryd.func77, Tryd.ntmps77
  go_wp2_with fail
  refine (mul64_three w).mono ?_
  rintro e w1 ⟨rfl, rfl⟩
  go_wp2_with fail
  go_ret2
  exact ⟨rfl, rfl⟩

set_option maxHeartbeats 1000000 in
theorem repeat_three (b : Nat) (c : UInt8) (w : World) (hc : w.cell? ⟨b, 0, none⟩ = some (cb c)) :
    Calls Tryd.prog 56 #[.slice (some ⟨b, 0, none⟩) 1 1, .int .i64 3] w fun e w' => ∃ g, e = .returned (.slice (some ⟨g, 0, none⟩) 3 3) ∧ w.heap.size ≤ g ∧ Row w' g [c, c, c] ∧ Below w.heap.size w w' := by
  have HC : Hd (w.cell? ⟨b, 0, none⟩ = some (cb c)) := ⟨hc⟩
  clear hc
  obtain ⟨cs, hrunM, hle, hmx⟩ := Lib.run_makeNoZero (P := Tryd.prog) w #[3] 22 5 Tryd.underlying22 3 (by omega)
  have hcall : (callFunc 78 #[.int .i64 3]).run Tryd.prog w = .ok (.value (.slice (some ⟨w.heap.size, 0, none⟩) 3 cs.size)) ((w.alloc (.cells cs 5)).drewN 2) := by
    rw [run_callFunc_extern Tryd.func78 (by kernel_rfl) (by kernel_rfl) (by kernel_rfl) (e := Extern.BytealgMakeNoZero.makeNoZero #[3] #[22]) (by kernel_rfl)]
    have h3 : (Value.int .i64 3) = Value.int .i64 ((3 : Nat) : Int) := rfl
    rw [h3, hrunM]
    rfl
  have HB0 : Hd (Buf3 ((w.alloc (.cells cs 5)).drewN 2) w.heap.size 0 c) := ⟨⟨cs, heap_alloc_new w _, hle, hmx (by unfold maxLen; omega), rfl⟩⟩
  have HL0 : Hd (Below w.heap.size w ((w.alloc (.cells cs 5)).drewN 2)) := ⟨Below.next (below_lit _ _) (below_drewN' _ _ 2)⟩
  have hcz : (3 : Int) ≤ (cs.size : Int) := by omega
  clear hrunM hle hmx
  generalize (w.alloc (.cells cs 5)).drewN 2 = w1 at *
  generalize cs.size = C at *
  have e2 : IntKind.i64.wrap 2 = 2 := by decide
  have e3 : IntKind.i64.wrap 3 = 3 := by decide
  go_enter Tryd.func56, Tryd.ntmps56
  go_wp2_with fail
  refine (mul_three w).mono ?_
  rintro e w0 ⟨rfl, hw⟩
  replace hw := hw.symm
  subst hw
  go_wp2_with (refine wpList_copy_one rfl (.tmp 58) (.tmp 59) rfl w0.heap.size 0 3 3 1 1 ⟨b, 0, none⟩ c rfl rfl HB0.out (by omega) rfl (cell_below HC.out HL0.out) ?_)
  intro w2 hb2 hl2
  have HB2 : Hd (Buf3 w2 w0.heap.size 1 c) := ⟨hb2⟩
  have HL2 : Hd (Below w0.heap.size w0 w2) := ⟨hl2 _ _ HL0.out (Nat.le_refl _)⟩
  clear hb2 hl2 hcall HB0 HL0
  go_wp2_with fail
  refine wp_loop_rounds 3 ?_
  rewrite [rounds_succ]
  go_wp2_with fail
  go_region_held_law (fun w' => Hd (Below w0.heap.size w0 w')) (first | exact ⟨HL2.out.drew⟩ | exact HL3 | assumption)
    (first | (refine step_copy_one rfl (some 74) rfl (.tmp 70) (.tmp 73) rfl w0.heap.size 1 2 2 1 3 ⟨w0.heap.size, 0, none⟩ c rfl rfl HB2.out.drew (by omega) rfl (HB2.out.drew.first (by omega)) ?_; intro w3 hb3 hl3; have HB3 : Hd (Buf3 w3 w0.heap.size 2 c) := (⟨hb3⟩); have HL3 : Hd (Below w0.heap.size w0 w3) := (⟨hl3 _ _ HL2.out.drew (Nat.le_refl _)⟩)))
  clear hb3 hl3 HB2 HL2
  go_wp2_with fail
  rewrite [rounds_succ]
  go_wp2_with fail
  go_region_held_law (fun w' => Hd (Below w0.heap.size w0 w')) (first | exact ⟨HL3.out.drew⟩ | exact HL4 | assumption)
    (first | (refine step_copy_one rfl (some 74) rfl (.tmp 70) (.tmp 73) rfl w0.heap.size 2 1 1 2 3 ⟨w0.heap.size, 0, none⟩ c rfl rfl HB3.out.drew (by omega) rfl (HB3.out.drew.first (by omega)) ?_; intro w4 hb4 hl4; have HB4 : Hd (Buf3 w4 w0.heap.size 3 c) := (⟨hb4⟩); have HL4 : Hd (Below w0.heap.size w0 w4) := (⟨hl4 _ _ HL3.out.drew (Nat.le_refl _)⟩)))
  clear hb4 hl4 HB3 HL3
  go_wp2_with fail
  rewrite [rounds_succ]
  go_wp2_with fail
  go_ret
  exact ⟨w0.heap.size, rfl, Nat.le_refl _, HB4.out.row, HL4.out⟩

theorem as_be (w : World) (c : Int) : (Instr.typeAssert (.iface 80 (.agg #[.int .i64 c])) 53 81 true).run Tryd.prog w = .ok (.tuple #[.agg #[], .bool false]) w := by kernel_rfl

theorem lit_bytes (w : World) (zs : List UInt8) : Reads (w.alloc (.cells (zs.map cb).toArray 5)) (some ⟨w.heap.size, 0, none⟩) zs.length zs := by
  refine ⟨rfl, .inr ⟨_, 0, rfl, fun j hj => ?_⟩⟩
  rw [cell_of_row (w.alloc _) _ (0 + j) _ _ (0, 0) (heap_alloc_new w _)]
  simp [cb, List.getD, List.getElem?_eq_getElem hj]

set_option maxHeartbeats 400000 in
theorem endings_any (cs : Int) (w : World) : Calls Tryd.prog 54 #[setV cs] w fun e w' => ∃ ao c, e = .returned (.slice ao (endL cs).length c) ∧ Reads w' ao (endL cs).length (endL cs) ∧ Below w.heap.size w w' := by
  by_cases h0 : cs = 0
  · subst h0
    have a1 := fun w => as_uu w
    rewrite [setV_utf]
    go_enter Tryd.func54, Tryd.ntmps54
    go_wp2_with fail
    go_ret
    exact ⟨_, 2, rfl, lit_bytes w [128, 191], below_lit _ _⟩
  by_cases h5 : cs = 5
  · subst h5
    have a1 := fun w => as_eu w
    have a2 := fun w => as_ee w
    rewrite [setV_euc]
    clear h0
    go_enter Tryd.func54, Tryd.ntmps54
    go_wp2_with fail
    go_ret
    exact ⟨_, 1, rfl, lit_bytes w [161], below_lit _ _⟩
  · have a1 := fun w c => as_bu w c
    have a2 := fun w c => as_be w c
    have HE : Hd (endL cs = []) := ⟨endL_byte h0 h5⟩
    rewrite [setV_byte h0 h5]
    clear h0 h5
    go_enter Tryd.func54, Tryd.ntmps54
    go_wp2_with fail
    go_ret
    exact ⟨none, 0, by rw [HE.out]; rfl, by rw [HE.out]; exact ⟨rfl, .inl rfl⟩, Below.refl _ _⟩

theorem lit_byte (w : World) (c : UInt8) : (w.alloc (.cells #[.int .u8 (c.toNat : Int)] 5)).cell? ⟨w.heap.size, 0, none⟩ = some (cb c) := by
  rw [cell_of_row (w.alloc _) _ 0 _ _ (0, 0) (heap_alloc_new w _)]; rfl

/-- Where the loop of mayGoOn stands. -/
structure MayAt (w : World) (cs : Int) (bs : List UInt8) (ae : Option Addr) (k : Nat) (wr : World) : Prop where
  no : NoFill cs bs k
  le : k ≤ (endL cs).length
  ends : Reads wr ae (endL cs).length (endL cs)
  bel : Below w.heap.size w wr

theorem MayAt.below {w : World} {cs : Int} {bs : List UInt8} {ae : Option Addr} {k : Nat} {wr wx : World} (h : MayAt w cs bs ae k wr) (hB : Below wr.heap.size wr wx) : MayAt w cs bs ae k wx :=
  ⟨h.no, h.le, h.ends.below rfl hB, Below.next h.bel hB⟩

set_option maxHeartbeats 1000000 in
theorem mayGoOn_some (cs : Int) (ao : Option Addr) (len cap : Nat) (bs : List UInt8) (w : World) (hr : Reads w ao len bs) (h0 : 0 < len) (h3 : len ≤ 3) (T : Hd (AllAt w)) :
    Calls Tryd.prog 37 #[setV cs, .slice ao len cap] w fun e w' => e = .returned (.bool (mayB cs bs)) ∧ Below w.heap.size w w' := by
  have hne : bs ≠ [] := by intro e; have := hr.1; rw [e] at this; simp at this; omega
  have HM : Hd (bs ≠ [] ∧ mayB cs bs = beg cs bs) := ⟨hne, mayB_some hne⟩
  have Hr : Hd (Reads w ao len bs) := ⟨hr⟩
  clear hr hne
  have n0 : ((len : Int) == 0) = false := by simp; omega
  have n3 : ¬ (3 : Int) < (len : Int) := by omega
  generalize hsv : setV cs = sv
  have HSV : Hd (setV cs = sv) := ⟨hsv⟩
  clear hsv
  obtain ⟨N, hN⟩ : ∃ N, (endL cs).length = N := ⟨_, rfl⟩
  have HN : Hd ((endL cs).length = N) := ⟨hN⟩
  have hN2 : N ≤ 2 := by rw [← hN]; exact endL_len cs
  clear hN
  go_enter Tryd.func37, Tryd.ntmps37
  go_wp2_with fail
  rewrite [← HSV.out]
  refine (endings_any cs w).mono ?_
  rintro e w1 ⟨ae, ce, rfl, hR1, hB1⟩
  rewrite [HSV.out, HN.out]
  have W0 : Hd (MayAt w cs bs ae 0 w1) := ⟨noFill_zero cs bs, Nat.zero_le _, hR1, hB1⟩
  clear hR1 hB1
  go_wp2_with fail
  go_loopw [22] (fun i wr => ∃ k : Nat, i = .int .i64 k ∧ Hd (MayAt w cs bs ae k wr)) (fun i _ => N - (intOf i).toNat)
  case atStart => exact ⟨0, rfl, W0⟩
  case round =>
    clear W0
    obtain ⟨k, rfl, R⟩ := hrel
    by_cases hlt : k < N
    · have hkI : (k : Int) < (N : Int) := by omega
      have hk0 : (0 : Int) ≤ (k : Int) := by omega
      obtain ⟨eb, eo, he, hc⟩ : ∃ b off, ae = some ⟨b, off, none⟩ ∧ ∀ j, j < N → wr.cell? ⟨b, off + j, none⟩ = some (.int .u8 (((endL cs).getD j 0).toNat : Int)) := by
        have h := R.out.ends.2
        rw [HN.out] at h
        rcases h with h | ⟨b, off, h1, h2⟩
        · omega
        · exact ⟨b, off, h1, h2⟩
      subst he
      have hck := hc k hlt
      obtain ⟨c, hcc⟩ : ∃ c, (endL cs).getD k 0 = c := ⟨_, rfl⟩
      have HCC : Hd ((endL cs).getD k 0 = c) := ⟨hcc⟩
      rw [hcc] at hck
      clear hc hcc
      go_wp2_with fail
      refine (repeat_three wr.heap.size c _ (lit_byte wr c)).mono ?_
      rintro e w2 ⟨g2, rfl, hg2, hR2, hB2⟩
      have R2 : Hd (MayAt w cs bs (some ⟨eb, eo, none⟩) k w2) := ⟨(R.out.below (below_lit _ _)).below hB2⟩
      have F2 : Hd (Row w2 g2 [c, c, c]) := ⟨hR2⟩
      clear hg2 hR2 hB2 R hck
      go_wp2_with fail
      refine (concat_two w2.heap.size len cap 3 3 ao (some ⟨g2, 0, none⟩) bs [c, c, c] _ (alloc_new w2 _ rfl) (Hr.out.below rfl (Below.next R2.out.bel (below_lit _ _))) ((F2.out.below (below_lit _ _)).reads rfl) (by omega) (by omega)).mono ?_
      rintro e w3 ⟨aq, cq, rfl, hO3, hB3⟩
      have R3 : Hd (MayAt w cs bs (some ⟨eb, eo, none⟩) k w3) := ⟨(R2.out.below (below_lit _ _)).below hB3⟩
      obtain ⟨q, rfl, hO4⟩ : ∃ q, aq = some ⟨q, 0, none⟩ ∧ Own w3 q cq (bs ++ [c, c, c]) := by
        rcases hO3 with ⟨_, _, h⟩ | ⟨q, h1, _, h2⟩
        · simp at h
        · exact ⟨q, h1, h2⟩
      obtain ⟨fl, hfl⟩ : ∃ fl, bs ++ [c, c, c] = fl := ⟨_, rfl⟩
      have HFL : Hd (bs ++ [c, c, c] = fl) := ⟨hfl⟩
      have HFN : Hd (fl.length = len + 3) := ⟨by rw [← hfl, List.length_append, Hr.out.1]; rfl⟩
      rw [hfl] at hO4 ⊢
      rw [HFN.out]
      have O4 : Hd (Own w3 q cq fl) := ⟨hO4⟩
      have hcq : len + 3 ≤ cq := by have := hO4.le; rw [HFN.out] at this; exact this
      clear hO3 hB3 hO4 R2 F2 hfl
      go_wp2_with fail
      rewrite [← HSV.out]
      refine (implSignAt_any cs q 0 (len + 3) cq 0 fl _ HFN.out hcq (O4.out.cell HFN.out) (by omega) (by omega) ⟨T.out.below R3.out.bel⟩).mono ?_
      rintro e w4 ⟨n, next, ok, rfl, hS, hB4⟩
      rewrite [HSV.out]
      have R4 : Hd (MayAt w cs bs (some ⟨eb, eo, none⟩) k w4) := ⟨R3.out.below hB4⟩
      have hF : Hd (fillB cs bs c = (hdOk cs fl && decide (bs.length < hdK cs fl))) := ⟨by unfold fillB; rw [HFL.out]⟩
      have hS1 : ok = hdOk cs fl := hS.ok
      cases hok : hdOk cs fl with
      | false =>
        have FF : Hd (fillB cs bs ((endL cs).getD k 0) = false) := ⟨by rw [HCC.out, hF.out, hok]; rfl⟩
        rw [hok] at hS1
        subst hS1
        clear hS hF hok hB4 R3 O4
        go_wp2_with fail
        go_roundw
        case rel => exact ⟨k + 1, by go_num, ⟨noFill_next R4.out.no FF.out, by rw [HN.out]; omega, R4.out.ends, R4.out.bel⟩⟩
        case measure => simp [intOf]; omega
      | true =>
        obtain ⟨_, s2⟩ := hS.yes hok
        rw [hok] at hS1
        subst hS1
        have s3 : next = (hdK cs fl : Int) := s2.trans (by rw [List.drop_zero]; omega)
        have HE : Hd (fillB cs bs c = decide (len < hdK cs fl)) := ⟨by rw [hF.out, hok, Hr.out.1]; rfl⟩
        clear hS hF hok hB4 R3 O4 s2
        generalize hdK cs fl = K at *
        subst s3
        by_cases hK : len < K
        · have hKI : (len : Int) < (K : Int) := by omega
          have BT : Hd (mayB cs bs = true) := ⟨by rw [HM.out.2]; exact fill_yes HM.out.1 (by rw [HN.out]; exact hlt) (by rw [HCC.out, HE.out]; exact decide_eq_true hK)⟩
          go_wp2_with fail
          go_ret
          exact ⟨ret_bool BT.out.symm, R4.out.bel⟩
        · have hKI : ¬ (len : Int) < (K : Int) := by omega
          have FF : Hd (fillB cs bs ((endL cs).getD k 0) = false) := ⟨by rw [HCC.out, HE.out]; exact decide_eq_false hK⟩
          clear HE
          go_wp2_with fail
          go_roundw
          case rel => exact ⟨k + 1, by go_num, ⟨noFill_next R4.out.no FF.out, by rw [HN.out]; omega, R4.out.ends, R4.out.bel⟩⟩
          case measure => simp [intOf]; omega
    · have hkI : ¬ (k : Int) < (N : Int) := by omega
      have BF : Hd (mayB cs bs = false) := ⟨by rw [HM.out.2]; exact noFill_end HM.out.1 R.out.no (by rw [HN.out]; omega)⟩
      go_wp2_with fail
      go_ret
      exact ⟨ret_bool BF.out.symm, R.out.bel⟩

set_option maxHeartbeats 400000 in
theorem mayGoOn_nil (cs : Int) (ao : Option Addr) (cap : Nat) (w : World) : Calls Tryd.prog 37 #[setV cs, .slice ao 0 cap] w fun e w' => e = .returned (.bool true) ∧ w = w' := by
  generalize setV cs = sv
  go_enter Tryd.func37, Tryd.ntmps37
  go_wp2_with fail
  go_ret
  exact ⟨rfl, rfl⟩

set_option maxHeartbeats 400000 in
theorem mayGoOn_long (cs : Int) (ao : Option Addr) (len cap : Nat) (w : World) (h : 3 < len) : Calls Tryd.prog 37 #[setV cs, .slice ao len cap] w fun e w' => e = .returned (.bool false) ∧ w = w' := by
  generalize setV cs = sv
  have n0 : ((len : Int) == 0) = false := by simp; omega
  have n3 : (3 : Int) < (len : Int) := by omega
  go_enter Tryd.func37, Tryd.ntmps37
  go_wp2_with fail
  go_ret
  exact ⟨rfl, rfl⟩

/-- Whether bytes are nothing, or begin a sign and do not end it, in the program. -/
theorem mayGoOn_any (cs : Int) (ao : Option Addr) (len cap : Nat) (bs : List UInt8) (w : World) (hr : Reads w ao len bs) (T : Hd (AllAt w)) :
    Calls Tryd.prog 37 #[setV cs, .slice ao len cap] w fun e w' => e = .returned (.bool (mayB cs bs)) ∧ Below w.heap.size w w' := by
  by_cases h0 : len = 0
  · subst h0
    refine (mayGoOn_nil cs ao cap w).mono ?_
    rintro e w1 ⟨rfl, rfl⟩
    rw [List.eq_nil_of_length_eq_zero hr.1]
    exact ⟨rfl, Below.refl _ _⟩
  by_cases h3 : len ≤ 3
  · exact mayGoOn_some cs ao len cap bs w hr (by omega) h3 T
  · refine (mayGoOn_long cs ao len cap w (by omega)).mono ?_
    rintro e w1 ⟨rfl, rfl⟩
    rw [mayB_long (by rw [hr.1]; omega)]
    exact ⟨rfl, Below.refl _ _⟩

set_option maxHeartbeats 400000 in
theorem implDecNew_any (cs : Int) (w : World) :
    Calls Tryd.prog 12 #[.int .i64 cs] w fun e w' => e = .returned (.agg #[.int .i64 cs, .slice none 0 0, .bool false]) ∧ Below w.heap.size w w' := by
  go_enter Tryd.func12, Tryd.ntmps12
  go_wp2_with fail
  refine bodyPost_ret (results_cell_row rfl _ _ w.heap.size _ _ (0, 0) _ rfl (heap_alloc_new w _) Tryd.underlying30 rfl (by kernel_rfl)) rfl ?_
  exact ⟨rfl, below_lit w _⟩

theorem inB_yes {cs : Int} (h : 0 ≤ cs ∧ cs ≤ 5) : inB cs 0 5 = true := by unfold inB; simpa using h
theorem inB_no {cs : Int} (h : ¬ (0 ≤ cs ∧ cs ≤ 5)) : inB cs 0 5 = false := by unfold inB; simp; omega
theorem sOk_may {cs : Int} {bs : List UInt8} (h : 0 ≤ cs ∧ cs ≤ 5) : sOk cs bs false = mayB cs bs := by unfold sOk mayB; rw [inB_yes h]; simp
theorem sOk_badly {cs : Int} {bs : List UInt8} (h : 0 ≤ cs ∧ cs ≤ 5) : sOk cs bs true = decide (bs = []) := by unfold sOk; rw [inB_yes h]; simp

set_option maxHeartbeats 1000000 in
theorem implDecOk_any (cs : Int) (ao : Option Addr) (len cap : Nat) (bad : Bool) (bs : List UInt8) (w : World) (hr : Reads w ao len bs) (T : Hd (AllAt w)) :
    Calls Tryd.prog 13 #[.agg #[.int .i64 cs, .slice ao len cap, .bool bad]] w fun e w' => e = .returned (.bool (sOk cs bs bad)) ∧ Below w.heap.size w w' := by
  have Hr : Hd (Reads w ao len bs) := ⟨hr⟩
  clear hr
  go_enter Tryd.func13, Tryd.ntmps13
  go_wp2_with fail
  by_cases hcs : 0 ≤ cs ∧ cs ≤ 5
  · refine (setOf_yes cs _ hcs).mono ?_
    rintro e w1 ⟨rfl, rfl⟩
    have HC : Hd (0 ≤ cs ∧ cs ≤ 5) := ⟨hcs⟩
    clear hcs
    obtain ⟨sv, hsv⟩ : ∃ sv, setV cs = sv := ⟨_, rfl⟩
    have HSV : Hd (setV cs = sv) := ⟨hsv⟩
    rewrite [hsv]
    clear hsv
    cases bad with
    | true =>
      have HZ : Hd (((len : Int) == 0) = sOk cs bs true) := ⟨by
        rw [sOk_badly HC.out]
        by_cases h : len = 0
        · rw [h, List.eq_nil_of_length_eq_zero (Hr.out.1.trans h)]; rfl
        · have e : ((len : Int) == 0) = false := by simp; exact h
          rw [e]; exact (decide_eq_false (fun q => h (by rw [← Hr.out.1, q]; rfl))).symm⟩
      go_wp2_with fail
      go_ret
      exact ⟨ret_bool HZ.out, below_lit w _⟩
    | false =>
      have HZ : Hd (mayB cs bs = sOk cs bs false) := ⟨(sOk_may HC.out).symm⟩
      go_wp2_with fail
      rewrite [← HSV.out]
      refine (mayGoOn_any cs ao len cap bs _ (Hr.out.below rfl (below_lit w _)) ⟨T.out.below (below_lit w _)⟩).mono ?_
      rintro e w2 ⟨rfl, hB⟩
      rewrite [HSV.out]
      have HB : Hd (Below w.heap.size w w2) := ⟨Below.next (below_lit w _) hB⟩
      clear hB
      go_wp2_with fail
      go_ret
      exact ⟨ret_bool HZ.out, HB.out⟩
  · refine (setOf_no cs _ hcs).mono ?_
    rintro e w1 ⟨rfl, rfl⟩
    have HZ : Hd (sOk cs bs bad = false) := ⟨sOk_out (inB_no hcs)⟩
    clear hcs
    go_wp2_with fail
    go_ret
    exact ⟨ret_bool HZ.out.symm, below_lit w _⟩

set_option maxHeartbeats 1000000 in
theorem implDecEnd_any (cs : Int) (ao : Option Addr) (len cap : Nat) (bad : Bool) (bs : List UInt8) (w : World) (hr : Reads w ao len bs) (T : Hd (AllAt w)) :
    Calls Tryd.prog 17 #[.agg #[.int .i64 cs, .slice ao len cap, .bool bad]] w fun e w' => e = .returned (.bool (sOk cs bs bad && !bad && decide (bs = []))) ∧ Below w.heap.size w w' := by
  have Hr : Hd (Reads w ao len bs) := ⟨hr⟩
  clear hr
  go_enter Tryd.func17, Tryd.ntmps17
  go_wp2_with fail
  generalize hA : Obj.cells #[Value.int IntKind.i64 cs, Value.slice ao len cap, Value.bool bad] 30 = A
  refine (implDecOk_any cs ao len cap bad bs _ (Hr.out.below rfl (below_lit w A)) ⟨T.out.below (below_lit w A)⟩).mono ?_
  rintro e w1 ⟨rfl, hb⟩
  subst hA
  obtain ⟨p0, p1, p2, _, _, _⟩ := cells3 w1 w.heap.size _ _ _ _ ((hb.block w.heap.size (by simp)).trans (alloc_new w _ rfl))
  have HB : Hd (Below w.heap.size w w1) := ⟨Below.next (below_lit w _) hb⟩
  have HZ : Hd (decide (bs = []) = ((len : Int) == 0)) := ⟨by
    by_cases h : len = 0
    · rw [h, List.eq_nil_of_length_eq_zero (Hr.out.1.trans h)]; rfl
    · have e : ((len : Int) == 0) = false := by simp; exact h
      rw [e]; exact decide_eq_false (fun q => h (by rw [← Hr.out.1, q]; rfl))⟩
  clear hb
  cases hs : sOk cs bs bad with
  | false =>
    have HS : Hd (sOk cs bs bad = false) := ⟨hs⟩
    clear hs
    go_wp2_with fail
    go_ret
    exact ⟨ret_bool (by rw [HS.out]; rfl), HB.out⟩
  | true =>
    have HS : Hd (sOk cs bs bad = true) := ⟨hs⟩
    clear hs
    cases bad with
    | true =>
      go_wp2_with fail
      go_ret
      exact ⟨ret_bool (by rw [HS.out]; rfl), HB.out⟩
    | false =>
      go_wp2_with fail
      go_ret
      exact ⟨ret_bool (by rw [HS.out, HZ.out]; rfl), HB.out⟩

end Go.Proofs.YtjbideiifoadkaaDoor
