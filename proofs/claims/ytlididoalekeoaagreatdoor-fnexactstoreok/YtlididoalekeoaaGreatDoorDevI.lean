/- The program: whether a device has a sector, whether bytes fit it, whether it is right. -/
import Derived.Test.YtlididoalekeoaaGreatDoorDpDev
import Derived.Test.YtlididoalekeoaaGreatDoorDevQ
namespace Go.Proofs.YtlididoalekeoaaGreatDoor
set_option maxRecDepth 4000
open Go.RowKit

theorem inSecs_is (d : DevD) (n : Int) {m : Nat} (h : d.secs.length = m) : inSecs d n = decide (0 ≤ n ∧ n < (m : Int)) := by
  unfold inSecs
  rw [h]
  exact decide_eq_decide.2 ⟨fun h => ⟨h.1, by omega⟩, fun h => ⟨h.1, by omega⟩⟩

set_option maxHeartbeats 1000000 in
theorem implHasSec_rd (cs : List Value) (d : DevD) (n : Int) (w : World) (h : RdDev w cs d) :
    Calls Tryz.prog 60 #[.agg cs.toArray, .int .i64 n] w fun e w' => e = .returned (.bool (inSecs d n)) ∧ Below w.heap.size w w' := by
  obtain ⟨x0, m0, d0, x1, m1, d1, rfl, r0, r1⟩ := h
  rw [inSecs_is d n (rdByteSS_parts r0).2.1]
  generalize d.fuse = f
  generalize d.down = b
  clear r0 r1
  by_cases h1 : 0 ≤ n
  · by_cases h2 : n < (m0 : Int)
    · rw [decide_eq_true ⟨h1, h2⟩]
      go_enter Tryz.func60, Tryz.ntmps60
      go_wp2
      go_ret
      exact ⟨rfl, below_lit w _⟩
    · rw [decide_eq_false (fun h => h2 h.2)]
      go_enter Tryz.func60, Tryz.ntmps60
      go_wp2
      go_ret
      exact ⟨rfl, below_lit w _⟩
  · rw [decide_eq_false (fun h => h1 h.1)]
    go_enter Tryz.func60, Tryz.ntmps60
    go_wp2
    go_ret
    exact ⟨rfl, below_lit w _⟩

def wrFitsD (d : DevD) (n : Int) (len : Nat) : Bool := inSecs d n && decide (len ≤ 120)
set_option maxHeartbeats 1000000 in
theorem implWrFits_rd (cs : List Value) (d : DevD) (n : Int) (ao : Option Addr) (len cap : Nat) (w : World) (h : RdDev w cs d) :
    Calls Tryz.prog 32 #[.agg cs.toArray, .int .i64 n, .slice ao len cap] w fun e w' => e = .returned (.bool (wrFitsD d n len)) ∧ Below w.heap.size w w' := by
  have HD : Hd (RdDev w cs d) := ⟨h⟩
  obtain ⟨x0, m0, d0, x1, m1, d1, rfl, r0, r1⟩ := h
  obtain ⟨f, hf⟩ : ∃ f, d.fuse = f := ⟨_, rfl⟩
  obtain ⟨b, hb⟩ : ∃ b, d.down = b := ⟨_, rfl⟩
  rw [hf, hb] at HD ⊢
  obtain ⟨I, hI⟩ : ∃ I, inSecs d n = I := ⟨_, rfl⟩
  have HI : Hd (inSecs d n = I) := ⟨hI⟩
  obtain ⟨R, hR⟩ : ∃ R, wrFitsD d n len = R := ⟨_, rfl⟩
  have HR : Hd (R = (I && decide (len ≤ 120))) := ⟨by rw [← hR, ← hI]; rfl⟩
  rw [hR]
  clear r0 r1 hf hb hI hR
  go_enter Tryz.func32, Tryz.ntmps32
  go_wp2_with fail
  refine (implHasSec_rd _ d n _ (rdDev_ok.below HD.out (below_lit w _))).mono ?_
  rintro e w1 ⟨rfl, hB⟩
  rewrite [HI.out]
  have B1 : Hd (Below w.heap.size w w1) := ⟨Below.next (below_lit w _) hB⟩
  clear hB HI
  cases I
  · go_wp2_with fail
    go_ret
    exact ⟨by rw [HR.out]; rfl, B1.out⟩
  · by_cases h2 : len ≤ 120
    · have h3 : (len : Int) ≤ 120 := by omega
      have HF : Hd (R = true) := ⟨by rw [HR.out, decide_eq_true h2]; rfl⟩
      clear h2
      go_wp2_with fail
      go_ret
      exact ⟨by rw [HF.out]; rfl, B1.out⟩
    · have h3 : decide ((len : Int) ≤ 120) = false := decide_eq_false (by omega)
      have HF : Hd (R = false) := ⟨by rw [HR.out, decide_eq_false h2]; rfl⟩
      clear h2
      go_wp2_with fail
      go_ret
      exact ⟨by rw [HF.out]; rfl, B1.out⟩

theorem all_take {α : Type} (p : α → Bool) (ls : List α) (k : Nat) {a : α} (h : ls[k]? = some a) (hp : (ls.take k).all p = true) (ha : p a = true) : (ls.take (k + 1)).all p = true := by
  rw [List.take_add_one, h, Option.toList_some, List.all_append, hp]; simp [ha]
theorem all_not {α : Type} (p : α → Bool) {ls : List α} {k : Nat} {a : α} (h : ls[k]? = some a) (ha : p a = false) : ls.all p = false := by
  rw [List.all_eq_false]
  exact ⟨a, List.mem_of_getElem? h, by simp [ha]⟩
def secOk (s : List UInt8) : Bool := decide (s.length ≤ 120)
theorem devOk_is (d : DevD) {m0 m1 : Nat} (h0 : d.secs.length = m0) (h1 : d.cache.length = m1) : devOk d = (d.secs.all secOk && d.cache.all (wrOk m0) && decide (1 ≤ m0 ∧ m0 ≤ 64) && decide (m1 ≤ 40) && decide (-1 ≤ d.fuse ∧ d.fuse ≤ 1000)) := by
  subst h0 h1; rfl
theorem wrOk_fits (d : DevD) (x : WrD) : wrFitsD d x.n x.b.length = wrOk d.secs.length x := rfl

set_option maxHeartbeats 4000000 in
theorem implDevOk_rd (cs : List Value) (d : DevD) (w : World) (h : RdDev w cs d) :
    Calls Tryz.prog 16 #[.agg cs.toArray] w fun e w' => e = .returned (.bool (devOk d)) ∧ Below w.heap.size w w' := by
  have HD : Hd (RdDev w cs d) := ⟨h⟩
  obtain ⟨x0, m0, d0, x1, m1, d1, rfl, r0, r1⟩ := h
  obtain ⟨f, hf⟩ : ∃ f, d.fuse = f := ⟨_, rfl⟩
  obtain ⟨b, hb⟩ : ∃ b, d.down = b := ⟨_, rfl⟩
  replace r0 := rdByteSS_parts r0
  replace r1 := rdWrS_parts r1
  have hok := devOk_is d r0.2.1 r1.2.1
  rw [hf] at hok HD ⊢
  rw [hb] at HD ⊢
  have hm0 : m0 ≤ 9223372036854775807 := by have := r0.1; unfold maxLen at this; exact this
  have hm1 : m1 ≤ 9223372036854775807 := by have := r1.1; unfold maxLen at this; exact this
  by_cases g1 : (m0 : Int) < 1
  · rw [show devOk d = false from by rw [hok, decide_eq_false (by omega : ¬ (1 ≤ m0 ∧ m0 ≤ 64))]; simp]
    clear r0 r1 hok
    go_enter Tryz.func16, Tryz.ntmps16
    go_wp2
    go_ret
    exact ⟨rfl, below_lit w _⟩
  by_cases g2 : (m0 : Int) > 64
  · rw [show devOk d = false from by rw [hok, decide_eq_false (by omega : ¬ (1 ≤ m0 ∧ m0 ≤ 64))]; simp]
    clear r0 r1 hok
    go_enter Tryz.func16, Tryz.ntmps16
    go_wp2
    go_ret
    exact ⟨rfl, below_lit w _⟩
  by_cases g3 : (m1 : Int) > 40
  · rw [show devOk d = false from by rw [hok, decide_eq_false (by omega : ¬ m1 ≤ 40)]; simp]
    clear r0 r1 hok
    go_enter Tryz.func16, Tryz.ntmps16
    go_wp2
    go_ret
    exact ⟨rfl, below_lit w _⟩
  have hok2 : devOk d = (d.secs.all secOk && d.cache.all (wrOk m0) && decide (-1 ≤ f ∧ f ≤ 1000)) := by
    rw [hok, decide_eq_true (by omega : 1 ≤ m0 ∧ m0 ≤ 64), decide_eq_true (by omega : m1 ≤ 40)]; simp
  obtain ⟨b0, o0, hx0, G0⟩ : ∃ b0 o0, x0 = some ⟨b0, o0, none⟩ ∧ ∀ j a, d.secs[j]? = some a → ∃ c, c.length = 1 ∧ RdB w c a ∧ ∀ i v, c[i]? = some v → w.cell? ⟨b0, o0 + j * 1 + i, none⟩ = some v := by
    rcases r0.2.2 with h | ⟨b0, o0, e, G⟩
    · have := r0.2.1; rw [h] at this; simp at this; omega
    · exact ⟨b0, o0, e, G⟩
  subst hx0
  have HL : Hd (d.secs.length = m0 ∧ d.cache.length = m1) := ⟨r0.2.1, r1.2.1⟩
  have HG0 : Hd (∀ j a, d.secs[j]? = some a → ∃ c, c.length = 1 ∧ RdB w c a ∧ ∀ i v, c[i]? = some v → w.cell? ⟨b0, o0 + j * 1 + i, none⟩ = some v) := ⟨G0⟩
  have HR1 : Hd (d.cache = [] ∨ ∃ b off, x1 = some ⟨b, off, none⟩ ∧ ∀ j a, d.cache[j]? = some a → ∃ c, c.length = 2 ∧ RdWr w c a ∧ ∀ i v, c[i]? = some v → w.cell? ⟨b, off + j * 2 + i, none⟩ = some v) := ⟨r1.2.2⟩
  obtain ⟨R, hR⟩ : ∃ R, devOk d = R := ⟨_, rfl⟩
  rw [hR]
  have HOK : Hd (R = (d.secs.all secOk && d.cache.all (wrOk m0) && decide (-1 ≤ f ∧ f ≤ 1000))) := ⟨by rw [← hR]; exact hok2⟩
  clear r0 r1 hok hok2 G0 hR
  go_enter Tryz.func16, Tryz.ntmps16
  go_wp2_with fail
  generalize hA : Obj.cells #[Value.slice (some ⟨b0, o0, none⟩) m0 d0, Value.slice x1 m1 d1, Value.int IntKind.i64 f, Value.bool b] 36 = A
  have HB : Hd (Below w.heap.size w (w.alloc A)) := ⟨below_lit w A⟩
  have HA : Hd ((w.alloc A).heap[w.heap.size]? = some (.cells #[.slice (some ⟨b0, o0, none⟩) m0 d0, .slice x1 m1 d1, .int .i64 f, .bool b] 36 (0, 0))) := ⟨by rw [hA]; exact heap_alloc_new w A⟩
  clear hA
  generalize w.alloc A = wa at *
  go_loop [26] (fun i => ∃ k : Nat, k ≤ m0 ∧ i = .int .i64 k ∧ Hd ((d.secs.take k).all secOk = true)) (fun i => m0 - (intOf i).toNat)
  case atStart => exact ⟨0, Nat.zero_le _, rfl, ⟨rfl⟩⟩
  case round =>
    obtain ⟨k, hk, rfl, HK⟩ := hrel
    by_cases hlt : k < m0
    · have hlt' : (k : Int) < (m0 : Int) := by omega
      have h0 : (0 : Int) ≤ (k : Int) := by omega
      obtain ⟨a, ha⟩ := get_some (l := d.secs) (j := k) (by rw [HL.out.1]; exact hlt)
      obtain ⟨c, hcn, hR, hcell⟩ := HG0.out k a ha
      obtain ⟨y0, n0, e0, rfl, hm, hr⟩ := hR
      have t0 := hcell 0 _ rfl
      rw [← HB.out.cell (p := ⟨b0, o0 + k * 1 + 0, none⟩) (World.block_lt_of_cell? w _ t0)] at t0
      simp only [Nat.mul_one, Nat.add_zero] at t0
      by_cases hs : n0 ≤ 120
      · have hs' : ¬ (n0 : Int) > 120 := by omega
        have HK1 : Hd ((d.secs.take (k + 1)).all secOk = true) := ⟨all_take secOk _ k ha HK.out (decide_eq_true (by rw [hr.1]; exact hs))⟩
        clear hcell hcn ha hm hr HK
        go_wp2
        go_round
        case rel => exact ⟨k + 1, by omega, by go_num, HK1⟩
        case measure => simp [intOf]; omega
      · have hs' : (n0 : Int) > 120 := by omega
        have HF : Hd (R = false) := ⟨by rw [HOK.out, all_not secOk ha (decide_eq_false (by rw [hr.1]; exact hs))]; rfl⟩
        clear hcell hcn ha hm hr HK
        go_wp2
        go_ret
        exact ⟨by rw [HF.out]; rfl, HB.out⟩
    · have HK1 : Hd (d.secs.all secOk = true) := ⟨by have h7 := HK.out; rw [List.take_of_length_le (by have := HL.out.1; omega)] at h7; exact h7⟩
      have c1 := cellsA HA.out 1 rfl
      clear HK
      go_wp2_with fail
      rcases HR1.out with h | ⟨b1, o1, hx1, G1⟩
      · have hm : m1 = 0 := by have := HL.out.2; rw [h] at this; exact this.symm
        have HF : Hd (R = decide (-1 ≤ f ∧ f ≤ 1000)) := ⟨by rw [HOK.out, HK1.out, h]; rfl⟩
        clear HL HR1 h HK1
        subst hm
        have c2 := cellsA HA.out 2 rfl
        refine wp_loop_rounds 1 ?_
        rewrite [rounds_succ]
        by_cases q1 : -1 ≤ f
        · have q1' : decide (f ≥ -1) = true := decide_eq_true q1
          by_cases q2 : f ≤ 1000
          · have q2' : decide (f ≤ 1000) = true := decide_eq_true q2
            have HF2 : Hd (R = true) := ⟨by rw [HF.out, decide_eq_true ⟨q1, q2⟩]⟩
            clear q1 HF
            go_wp2_with fail
            go_ret
            exact ⟨by rw [HF2.out]; rfl, HB.out⟩
          · have q2' : decide (f ≤ 1000) = false := decide_eq_false q2
            have HF2 : Hd (R = false) := ⟨by rw [HF.out, decide_eq_false (fun h => q2 h.2)]⟩
            clear q1 HF
            go_wp2_with fail
            go_ret
            exact ⟨by rw [HF2.out]; rfl, HB.out⟩
        · have q1' : decide (f ≥ -1) = false := decide_eq_false q1
          have HF2 : Hd (R = false) := ⟨by rw [HF.out, decide_eq_false (fun h => q1 h.1)]⟩
          clear q1 HF
          go_wp2_with fail
          go_ret
          exact ⟨by rw [HF2.out]; rfl, HB.out⟩
      · subst hx1
        have HG1 : Hd (∀ j a, d.cache[j]? = some a → ∃ c, c.length = 2 ∧ RdWr w c a ∧ ∀ i v, c[i]? = some v → w.cell? ⟨b1, o1 + j * 2 + i, none⟩ = some v) := ⟨G1⟩
        have HB2 : Hd (Below w.heap.size w wa ∧ wa.heap[w.heap.size]? = some (.cells #[.slice (some ⟨b0, o0, none⟩) m0 d0, .slice (some ⟨b1, o1, none⟩) m1 d1, .int .i64 f, .bool b] 36 (0, 0))) := ⟨HB.out, HA.out⟩
        clear G1 HR1 c1 HB HA
        go_loopw [37] (fun i wr => ∃ k : Nat, k ≤ m1 ∧ i = .int .i64 k ∧ Hd ((d.cache.take k).all (wrOk m0) = true) ∧ Hd (Below w.heap.size w wr ∧ wr.heap[w.heap.size]? = some (.cells #[.slice (some ⟨b0, o0, none⟩) m0 d0, .slice (some ⟨b1, o1, none⟩) m1 d1, .int .i64 f, .bool b] 36 (0, 0)))) (fun i _ => m1 - (intOf i).toNat)
        case atStart => exact ⟨0, Nat.zero_le _, rfl, ⟨rfl⟩, HB2⟩
        case round =>
          obtain ⟨k, hk, rfl, HK, HW⟩ := hrel
          clear HB2
          by_cases hlt : k < m1
          · have hlt' : (k : Int) < (m1 : Int) := by omega
            have h0 : (0 : Int) ≤ (k : Int) := by omega
            obtain ⟨a, ha⟩ := get_some (l := d.cache) (j := k) (by rw [HL.out.2]; exact hlt)
            obtain ⟨c, hcn, hR, hcell⟩ := HG1.out k a ha
            obtain ⟨y1, n1, e1, rfl, hr⟩ := hR
            have t0 := cell_below (hcell 0 _ rfl) HW.out.1
            have t1 := cell_below (hcell 1 _ rfl) HW.out.1
            simp only [Nat.add_zero] at t0
            have HX : Hd (a.b.length = n1) := ⟨(rdB_parts hr).2.1⟩
            obtain ⟨nn, hnn⟩ : ∃ nn, a.n = nn := ⟨_, rfl⟩
            rw [hnn] at t0
            have HNN : Hd (a.n = nn) := ⟨hnn⟩
            have HAA : Hd (d.cache[k]? = some a) := ⟨ha⟩
            clear hcell hcn ha hr hnn
            have hlt2 : w.heap.size < wr.heap.size := lt_of_block HW.out.2
            have HQW : Hd ((wr.alloc (Obj.cells #[Value.int IntKind.i64 nn, Value.slice y1 n1 e1] 62)).heap[w.heap.size]? = some (.cells #[.slice (some ⟨b0, o0, none⟩) m0 d0, .slice (some ⟨b1, o1, none⟩) m1 d1, .int .i64 f, .bool b] 36 (0, 0))) := ⟨(alloc_old wr _ hlt2).trans HW.out.2⟩
            have c0 := cellsA HQW.out 0 rfl
            have c1 := cellsA HQW.out 1 rfl
            have c2 := cellsA HQW.out 2 rfl
            have c3 := cellsA HQW.out 3 rfl
            clear hlt2
            go_wp2_with fail
            have hlt2 : w.heap.size < wr.heap.size := lt_of_block HW.out.2
            generalize hQ : Obj.cells #[Value.int IntKind.i64 nn, Value.slice y1 n1 e1] 62 = Q
            refine (implWrFits_rd _ d nn y1 n1 e1 _ (rdDev_ok.below HD.out (Below.next HW.out.1 (below_lit wr Q)))).mono ?_
            rintro e w1 ⟨rfl, hB⟩
            have HW1 : Hd (Below w.heap.size w w1 ∧ w1.heap[w.heap.size]? = some (.cells #[.slice (some ⟨b0, o0, none⟩) m0 d0, .slice (some ⟨b1, o1, none⟩) m1 d1, .int .i64 f, .bool b] 36 (0, 0))) :=
              ⟨Below.next (Below.next HW.out.1 (below_lit wr Q)) hB, (hB.block _ (by simp; omega)).trans ((alloc_old wr Q hlt2).trans HW.out.2)⟩
            obtain ⟨V, hV⟩ : ∃ V, wrFitsD d nn n1 = V := ⟨_, rfl⟩
            rewrite [hV]
            have HV : Hd (wrOk m0 a = V) := ⟨by rw [← hV, ← HX.out, ← HNN.out, ← HL.out.1]; exact (wrOk_fits d a).symm⟩
            clear hB c0 c1 c2 c3 t0 t1 HW HQW hQ hV hlt2
            cases V
            · have HF : Hd (R = false) := ⟨by rw [HOK.out, all_not (wrOk m0) HAA.out HV.out]; simp⟩
              go_wp2_with fail
              go_ret
              exact ⟨by rw [HF.out]; rfl, HW1.out.1⟩
            · have HK2 : Hd ((d.cache.take (k + 1)).all (wrOk m0) = true) := ⟨all_take (wrOk m0) _ k HAA.out HK.out HV.out⟩
              clear HK HV HAA HX HNN
              go_wp2_with fail
              go_roundw
              case rel => exact ⟨k + 1, by omega, by go_num, HK2, HW1⟩
              case measure => simp [intOf]; omega
          · have HF : Hd (R = decide (-1 ≤ f ∧ f ≤ 1000)) := ⟨by
              have h7 := HK.out
              rw [List.take_of_length_le (by have := HL.out.2; omega)] at h7
              rw [HOK.out, HK1.out, h7]; rfl⟩
            have c2 := cellsA HW.out.2 2 rfl
            clear HK
            by_cases q1 : -1 ≤ f
            · have q1' : decide (f ≥ -1) = true := decide_eq_true q1
              by_cases q2 : f ≤ 1000
              · have q2' : decide (f ≤ 1000) = true := decide_eq_true q2
                have HF2 : Hd (R = true) := ⟨by rw [HF.out, decide_eq_true ⟨q1, q2⟩]⟩
                clear q1 HF
                go_wp2_with fail
                go_ret
                exact ⟨by rw [HF2.out]; rfl, HW.out.1⟩
              · have q2' : decide (f ≤ 1000) = false := decide_eq_false q2
                have HF2 : Hd (R = false) := ⟨by rw [HF.out, decide_eq_false (fun h => q2 h.2)]⟩
                clear q1 HF
                go_wp2_with fail
                go_ret
                exact ⟨by rw [HF2.out]; rfl, HW.out.1⟩
            · have q1' : decide (f ≥ -1) = false := decide_eq_false q1
              have HF2 : Hd (R = false) := ⟨by rw [HF.out, decide_eq_false (fun h => q1 h.1)]⟩
              clear q1 HF
              go_wp2_with fail
              go_ret
              exact ⟨by rw [HF2.out]; rfl, HW.out.1⟩

end Go.Proofs.YtlididoalekeoaaGreatDoor
