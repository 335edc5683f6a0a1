/- A device in a box, part by part; a sector, a write appended. -/
import Derived.Test.YtidbhdlhcmjhkaaDevW
namespace Go.Proofs.Ytidbhdlhcmjhkaa
set_option maxRecDepth 4000
open Go.RowKit

/-- What the box holds, part by part. -/
structure CpParts (w : World) (A : Array Value) (q : Nat) (d : DevD) (x0 : Option Addr) (m0 d0 : Nat) (x1 : Option Addr) (m1 d1 : Nat) (F0 F1 : Fp) (wx : World) : Prop where
  bel : Below w.heap.size w wx
  arg : wx.heap[w.heap.size]? = some (.cells A 27 (0, 0))
  res : wx.heap[w.heap.size + 1]? = some (.cells #[.slice none 0 0, .slice none 0 0, .int .i64 0, .bool false] 27 (0, 0))
  box : wx.heap[q]? = some (.cells #[.slice x0 m0 d0, .slice x1 m1 d1, .int .i64 d.fuse, .bool d.down] 27 (0, 0))
  r0 : OwByteSS wx [.slice x0 m0 d0] F0 d.secs
  r1 : OwWrS wx [.slice x1 m1 d1] F1 d.cache
  dis : ∀ x, F0 x → ¬ F1 x
  low0 : ∀ x, F0 x → w.heap.size + 2 ≤ x ∧ x ≠ q
  low1 : ∀ x, F1 x → w.heap.size + 2 ≤ x ∧ x ≠ q
  q2 : w.heap.size + 2 ≤ q
theorem CpAt.split {w wx : World} {A : Array Value} {q : Nat} {d : DevD} (h : CpAt w A q d wx) : ∃ x0 m0 d0 x1 m1 d1 F0 F1, CpParts w A q d x0 m0 d0 x1 m1 d1 F0 F1 wx := by
  obtain ⟨F, hB, hF⟩ := h.box
  obtain ⟨x0, m0, d0, x1, m1, d1, F0, F1, hq, r0, r1, h1, h2, hn⟩ := hB.parts
  exact ⟨x0, m0, d0, x1, m1, d1, F0, F1, h.bel, h.arg, h.res, hq, r0, r1, h1, fun x hx => ⟨hF x ((h2 x).2 (.inl hx)), fun e => hn ((h2 q).2 (.inl (by rw [← e]; exact hx)))⟩, fun x hx => ⟨hF x ((h2 x).2 (.inr hx)), fun e => hn ((h2 q).2 (.inr (by rw [← e]; exact hx)))⟩, h.q2⟩
theorem CpParts.join {w wx : World} {A : Array Value} {q : Nat} {d : DevD} {x0 : Option Addr} {m0 d0 : Nat} {x1 : Option Addr} {m1 d1 : Nat} {F0 F1 : Fp} (h : CpParts w A q d x0 m0 d0 x1 m1 d1 F0 F1 wx) : CpAt w A q d wx :=
  ⟨h.bel, h.arg, h.res, ⟨fun x => F0 x ∨ F1 x, boxDev_of h.box h.r0 h.r1 h.dis (fun _ => Iff.rfl) (fun hx => hx.elim (fun hx => (h.low0 q hx).2 rfl) (fun hx => (h.low1 q hx).2 rfl)), fun x hx => hx.elim (fun hx => (h.low0 x hx).1) (fun hx => (h.low1 x hx).1)⟩, h.q2⟩
theorem CpParts.below {w wx wy : World} {A : Array Value} {q : Nat} {d : DevD} {x0 : Option Addr} {m0 d0 : Nat} {x1 : Option Addr} {m1 d1 : Nat} {F0 F1 : Fp} (h : CpParts w A q d x0 m0 d0 x1 m1 d1 F0 F1 wx) (hb : Below wx.heap.size wx wy) : CpParts w A q d x0 m0 d0 x1 m1 d1 F0 F1 wy :=
  ⟨Below.next h.bel hb, (hb.block _ (lt_of_block h.arg)).trans h.arg, (hb.block _ (lt_of_block h.res)).trans h.res, (hb.block _ (lt_of_block h.box)).trans h.box, owByteSS_ok.below h.r0 hb, owWrS_ok.below h.r1 hb, h.dis, h.low0, h.low1, h.q2⟩
/-- A write is appended to the cache that lies in the box. -/
theorem CpParts.push {w wx w' : World} {A : Array Value} {q : Nat} {d : DevD} {x0 : Option Addr} {m0 d0 : Nat} {x1 : Option Addr} {m1 d1 : Nat} {F0 F1 F' G : Fp} (h : CpParts w A q d x0 m0 d0 x1 m1 d1 F0 F1 wx) {x2 : Option Addr} {m2 d2 B : Nat} {c' : List WrD}
    (hp : OwWrS w' [.slice x2 m2 d2] F' c') (hF' : ∀ x, F' x → F1 x ∨ G x ∨ wx.heap.size ≤ x) (hG : ∀ x, G x → B ≤ x) (hqB : q < B) (h0B : ∀ x, F0 x → x < B) (hg : wx.grownBy w' (Value.slice x1 m1 d1).ownBlock) :
    CpParts w A q { d with cache := c' } x0 m0 d0 x2 m2 d2 F0 F' (w'.setCell ⟨q, 1, none⟩ (.slice x2 m2 d2)) := by
  have hown : ∀ k, (Value.slice x1 m1 d1).ownBlock = some k → F1 k := by
    intro k hk
    obtain ⟨v, css, Fs, e, P⟩ := h.r1
    simp only [List.cons.injEq, and_true] at e
    subst e
    exact P.blk k hk
  have ho2 : ∀ k, k < wx.heap.size → ¬ F1 k → w'.heap[k]? = wx.heap[k]? := fun k hk hn => hg.block k hk (fun e => hn (hown k e.symm))
  have hq := lt_of_block h.box
  have h2 := h.q2
  have ha := lt_of_block h.arg
  have hr := lt_of_block h.res
  have hbx := (ho2 q hq (fun hx => (h.low1 q hx).2 rfl)).trans h.box
  have hne' : ∀ x, F' x → w.heap.size + 2 ≤ x ∧ x ≠ q := by
    intro x hx
    rcases hF' x hx with hx | hx | hx
    · exact h.low1 x hx
    · have := hG x hx; exact ⟨by omega, by omega⟩
    · exact ⟨by omega, by omega⟩
  refine ⟨?_, block_set ((ho2 _ ha (fun hx => by have := (h.low1 _ hx).1; omega)).trans h.arg) (by omega), block_set ((ho2 _ hr (fun hx => by have := (h.low1 _ hx).1; omega)).trans h.res) (by omega), setA hbx 1 _ rfl,
    owByteSS_ok.keep h.r0 (fun x hx => block_set (ho2 x (owByteSS_ok.lt h.r0 x hx) (h.dis x hx)) (h.low0 x hx).2), owWrS_ok.keep hp (fun x hx => block_set rfl (hne' x hx).2), fun x hx hy => ?_, h.low0, hne', h2⟩
  · refine bset ?_ _ (by omega)
    exact ⟨hg.os.trans h.bel.os, hg.tape.trans h.bel.tape, hg.output.trans h.bel.output, Nat.le_trans h.bel.size hg.size, fun k hk => (ho2 k (by omega) (fun hx => by have := (h.low1 k hx).1; omega)).trans (h.bel.block k hk)⟩
  · rcases hF' x hy with hy | hy | hy
    · exact h.dis x hx hy
    · have := hG x hy; have := h0B x hx; omega
    · have := owByteSS_ok.lt h.r0 x hx; omega

/-- A sector is appended. -/
theorem CpParts.pushSec {w wx w' : World} {A : Array Value} {q : Nat} {d : DevD} {x0 : Option Addr} {m0 d0 : Nat} {x1 : Option Addr} {m1 d1 : Nat} {F0 F1 F' G : Fp} (h : CpParts w A q d x0 m0 d0 x1 m1 d1 F0 F1 wx) {x2 : Option Addr} {m2 d2 B : Nat} {c' : List (List UInt8)}
    (hp : OwByteSS w' [.slice x2 m2 d2] F' c') (hF' : ∀ x, F' x → F0 x ∨ G x ∨ wx.heap.size ≤ x) (hG : ∀ x, G x → B ≤ x) (hqB : q < B) (h0B : ∀ x, F1 x → x < B) (hg : wx.grownBy w' (Value.slice x0 m0 d0).ownBlock) :
    CpParts w A q { d with secs := c' } x2 m2 d2 x1 m1 d1 F' F1 (w'.setCell ⟨q, 0, none⟩ (.slice x2 m2 d2)) := by
  have hown : ∀ k, (Value.slice x0 m0 d0).ownBlock = some k → F0 k := by
    intro k hk
    obtain ⟨v, css, Fs, e, P⟩ := h.r0
    simp only [List.cons.injEq, and_true] at e
    subst e
    exact P.blk k hk
  have ho2 : ∀ k, k < wx.heap.size → ¬ F0 k → w'.heap[k]? = wx.heap[k]? := fun k hk hn => hg.block k hk (fun e => hn (hown k e.symm))
  have hq := lt_of_block h.box
  have h2 := h.q2
  have ha := lt_of_block h.arg
  have hr := lt_of_block h.res
  have hbx := (ho2 q hq (fun hx => (h.low0 q hx).2 rfl)).trans h.box
  have hne' : ∀ x, F' x → w.heap.size + 2 ≤ x ∧ x ≠ q := by
    intro x hx
    rcases hF' x hx with hx | hx | hx
    · exact h.low0 x hx
    · have := hG x hx; exact ⟨by omega, by omega⟩
    · exact ⟨by omega, by omega⟩
  refine ⟨?_, block_set ((ho2 _ ha (fun hx => by have := (h.low0 _ hx).1; omega)).trans h.arg) (by omega), block_set ((ho2 _ hr (fun hx => by have := (h.low0 _ hx).1; omega)).trans h.res) (by omega), setA hbx 0 _ rfl,
    owByteSS_ok.keep hp (fun x hx => block_set rfl (hne' x hx).2), owWrS_ok.keep h.r1 (fun x hx => block_set (ho2 x (owWrS_ok.lt h.r1 x hx) (fun hy => h.dis x hy hx)) (h.low1 x hx).2), fun x hy hx => ?_, hne', h.low1, h2⟩
  · refine bset ?_ _ (by omega)
    exact ⟨hg.os.trans h.bel.os, hg.tape.trans h.bel.tape, hg.output.trans h.bel.output, Nat.le_trans h.bel.size hg.size, fun k hk => (ho2 k (by omega) (fun hx => by have := (h.low0 k hx).1; omega)).trans (h.bel.block k hk)⟩
  · rcases hF' x hy with hy | hy | hy
    · exact h.dis x hy hx
    · have := hG x hy; have := h0B x hx; omega
    · have := owWrS_ok.lt h.r1 x hx; omega

theorem CpAt.splitAt {w wx : World} {A : Array Value} {q : Nat} {d : DevD} (h : CpAt w A q d wx) {x0 : Option Addr} {m0 d0 : Nat} {x1 : Option Addr} {m1 d1 : Nat} {f : Int} {b : Bool} (hq : wx.heap[q]? = some (.cells #[.slice x0 m0 d0, .slice x1 m1 d1, .int .i64 f, .bool b] 27 (0, 0))) :
    ∃ F0 F1, CpParts w A q d x0 m0 d0 x1 m1 d1 F0 F1 wx := by
  obtain ⟨y0, n0, e0, y1, n1, e1, F0, F1, hP⟩ := h.split
  have hq' := hP.box
  rw [hq] at hq'
  simp only [Option.some.injEq, Obj.cells.injEq, Array.mk.injEq, List.cons.injEq, Value.slice.injEq, and_true] at hq'
  obtain ⟨⟨rfl, rfl, rfl⟩, ⟨rfl, rfl, rfl⟩, _⟩ := hq'
  exact ⟨F0, F1, hP⟩

theorem CpParts.boxAt {w wx wz : World} {A : Array Value} {q : Nat} {d : DevD} {x0 : Option Addr} {m0 d0 : Nat} {x1 : Option Addr} {m1 d1 : Nat} {F0 F1 : Fp} (h : CpParts w A q d x0 m0 d0 x1 m1 d1 F0 F1 wx) (hg : wx.grownBy wz (Value.slice x1 m1 d1).ownBlock) :
    wz.heap[q]? = some (.cells #[.slice x0 m0 d0, .slice x1 m1 d1, .int .i64 d.fuse, .bool d.down] 27 (0, 0)) := by
  rw [hg.block q (lt_of_block h.box) (fun e => ?_)]
  · exact h.box
  · obtain ⟨v, css, Fs, e2, P⟩ := h.r1
    simp only [List.cons.injEq, and_true] at e2
    subst e2
    exact (h.low1 q (P.blk q e.symm)).2 rfl

theorem CpParts.boxAt0 {w wx wz : World} {A : Array Value} {q : Nat} {d : DevD} {x0 : Option Addr} {m0 d0 : Nat} {x1 : Option Addr} {m1 d1 : Nat} {F0 F1 : Fp} (h : CpParts w A q d x0 m0 d0 x1 m1 d1 F0 F1 wx) (hg : wx.grownBy wz (Value.slice x0 m0 d0).ownBlock) :
    wz.heap[q]? = some (.cells #[.slice x0 m0 d0, .slice x1 m1 d1, .int .i64 d.fuse, .bool d.down] 27 (0, 0)) := by
  rw [hg.block q (lt_of_block h.box) (fun e => ?_)]
  · exact h.box
  · obtain ⟨v, css, Fs, e2, P⟩ := h.r0
    simp only [List.cons.injEq, and_true] at e2
    subst e2
    exact (h.low0 q (P.blk q e.symm)).2 rfl

end Go.Proofs.Ytidbhdlhcmjhkaa
