/- DevNew, of the program and of the specification. -/
import Derived.Test.YtmoalbopbgfgdabDevSp
import Derived.Test.YtmoalbopbgfgdabDevX
import Derived.Test.YtmoalbopbgfgdabExact
import Derived.Deep.RegionHeldLaw
namespace Go.Proofs.Ytmoalbopbgfgdab
set_option maxRecDepth 4000
open Go.RowKit

def devNew (n : Int) : DevD := if inB n 1 64 = true then ⟨List.replicate n.toNat [], [], -1, false⟩ else zeroDev
theorem owDev_zero (w : World) : OwDev w [.slice none 0 0, .slice none 0 0, .int .i64 0, .bool false] (fun _ => False) zeroDev :=
  ⟨none, 0, 0, none, 0, 0, _, _, rfl, owS_nil w 1 52 OwB, owS_nil w 2 54 OwWr, fun _ h => h.elim, fun x => by simp⟩
theorem four_at {w : World} {q : Nat} {T : TypeId} {a b c d : Value} (h : w.heap[q]? = some (.cells #[a, b, c, d] T (0, 0))) (v0 v1 v2 v3 : Value) :
    ((((w.setCell ⟨q, 0, none⟩ v0).setCell ⟨q, 1, none⟩ v1).setCell ⟨q, 2, none⟩ v2).setCell ⟨q, 3, none⟩ v3).heap[q]? = some (.cells #[v0, v1, v2, v3] T (0, 0)) := setA (setA (setA (setA h 0 _ rfl) 1 _ rfl) 2 _ rfl) 3 _ rfl
theorem four_ans {w wx : World} {q : Nat} {d : DevD} {v0 v1 v2 v3 : Value} (hb : Below w.heap.size w wx) (hq : w.heap.size ≤ q) {F : Fp} (hO : OwDev wx [v0, v1, v2, v3] F d) (hF : ∀ x, F x → w.heap.size ≤ x ∧ x ≠ q) :
    AnsAgg OwDev d w (.returned (.agg #[v0, v1, v2, v3])) ((((wx.setCell ⟨q, 0, none⟩ v0).setCell ⟨q, 1, none⟩ v1).setCell ⟨q, 2, none⟩ v2).setCell ⟨q, 3, none⟩ v3) :=
  ⟨⟨_, rfl, F, owDev_ok.keep hO (fun b h => block_set (block_set (block_set (block_set rfl (hF b h).2) (hF b h).2) (hF b h).2) (hF b h).2), fun x hx => (hF x hx).1⟩, bset (bset (bset (bset hb _ hq) _ hq) _ hq) _ hq⟩

/-- What the specification's DevNew has: the result's box, the device's. -/
structure DnAt (w : World) (k : Nat) (x : Option Addr) (d : Nat) (F : Fp) (wx : World) : Prop where
  bel : Below w.heap.size w wx
  res : wx.heap[w.heap.size]? = some (.cells #[.slice none 0 0, .slice none 0 0, .int .i64 0, .bool false] 29 (0, 0))
  box : wx.heap[w.heap.size + 1]? = some (.cells #[.slice x k d, .slice none 0 0, .int .i64 (-1), .bool false] 29 (0, 0))
  own : OwByteSS wx [.slice x k d] F (List.replicate k [])
  low : ∀ y, F y → w.heap.size + 2 ≤ y
theorem DnAt.below {w wx wy : World} {k : Nat} {x : Option Addr} {d : Nat} {F : Fp} (h : DnAt w k x d F wx) (hb : Below wx.heap.size wx wy) : DnAt w k x d F wy :=
  ⟨Below.next h.bel hb, (hb.block _ (lt_of_block h.res)).trans h.res, (hb.block _ (lt_of_block h.box)).trans h.box, owByteSS_ok.below h.own hb, h.low⟩
theorem DnAt.hown {w wx : World} {k : Nat} {x : Option Addr} {d : Nat} {F : Fp} (h : DnAt w k x d F wx) : ∀ y, (Value.slice x k d).ownBlock = some y → F y := by
  intro y hy
  obtain ⟨v, css, Fs, e, P⟩ := h.own
  simp only [List.cons.injEq, and_true] at e
  subst e
  exact P.blk y hy
theorem DnAt.grown {w wx wz : World} {k : Nat} {x : Option Addr} {d : Nat} {F : Fp} (h : DnAt w k x d F wx) (hg : wx.grownBy wz (Value.slice x k d).ownBlock) :
    wz.heap[w.heap.size + 1]? = some (.cells #[.slice x k d, .slice none 0 0, .int .i64 (-1), .bool false] 29 (0, 0)) := by
  rw [hg.block _ (lt_of_block h.box) (fun e => by have := h.low _ (h.hown _ e.symm); omega)]
  exact h.box
theorem DnAt.push {w wx wz : World} {k : Nat} {x : Option Addr} {d : Nat} {F F' : Fp} (h : DnAt w k x d F wx) (hg : wx.grownBy wz (Value.slice x k d).ownBlock) {x2 : Option Addr} {d2 : Nat}
    (hp : OwByteSS wz [.slice x2 (k + 1) d2] F' (List.replicate k [] ++ [[]])) (hF' : ∀ y, F' y → w.heap.size + 2 ≤ y) : DnAt w (k + 1) x2 d2 F' (wz.setCell ⟨w.heap.size + 1, 0, none⟩ (.slice x2 (k + 1) d2)) := by
  have hr := lt_of_block h.res
  have ho : ∀ y, y < wx.heap.size → ¬ F y → wz.heap[y]? = wx.heap[y]? := fun y hy hn => hg.block y hy (fun e => hn (h.hown y e.symm))
  refine ⟨bset ⟨hg.os.trans h.bel.os, hg.tape.trans h.bel.tape, hg.output.trans h.bel.output, Nat.le_trans h.bel.size hg.size, fun y hy => (ho y (by omega) (fun hx => by have := h.low y hx; omega)).trans (h.bel.block y hy)⟩ _ (by omega), block_set ((ho _ hr (fun hx => by have := h.low _ hx; omega)).trans h.res) (by omega), setA (h.grown hg) 0 _ rfl, ?_, hF'⟩
  have e : (List.replicate (k + 1) ([] : List UInt8)) = List.replicate k [] ++ [[]] := List.replicate_succ'
  rw [e]
  exact owByteSS_ok.keep hp (fun y hy => block_set rfl (by have := hF' y hy; omega))
theorem rdDev_zero (w : World) : RdDev w [.slice none 0 0, .slice none 0 0, .int .i64 0, .bool false] zeroDev := owDev_ok.rd (owDev_zero w)

end Go.Proofs.Ytmoalbopbgfgdab
