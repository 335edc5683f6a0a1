/- The contract of Signs in the specification. -/
import Derived.Test.YtgefabagpcjegabDoorSignsI
import Derived.Test.YtgefabagpcjegabDoorGetSpecB
import Derived.Lib.ConvBytes
namespace Go.Proofs.YtgefabagpcjegabDoor
set_option maxRecDepth 4000
open Go.RowKit

/-- The bytes of a text, in new memory. -/
structure Bytes (w W : World) (s : ByteArray) (cap : Nat) : Prop where
  cap : s.size ≤ cap
  cell : ∀ j, j < s.size → W.cell? ⟨w.heap.size, 0 + j, none⟩ = some (.int .u8 ((s.data.toList.getD j 0).toNat : Int))
  bel : Below w.heap.size w W
  size : W.heap.size = w.heap.size + 1
  typ : ∃ cs fz, W.heap[w.heap.size]? = some (.cells cs 5 fz)
theorem conv_string (s : ByteArray) (w : World) : ∃ (cap : Nat) (W : World), (convert 9 22 (.string s)).run Tryd.prog w = .ok (.slice (some ⟨w.heap.size, 0, none⟩) s.size cap) W ∧ Bytes w W s cap := by
  refine ⟨_, _, Lib.run_convert_string_bytes w _ _ 5 s Tryd.underlying9 Tryd.underlying22 Tryd.underlying5, ⟨grownCap_ge _ _ _ _, fun j hj => by rw [Nat.zero_add]; exact Lib.bytesWorld_cell w _ s j hj, ?_, Lib.bytesWorld_size w _ s, _, _, Lib.bytesWorld_at_new w _ s⟩⟩
  refine ⟨?_, ?_, ?_, by rw [Lib.bytesWorld_size]; omega, fun k hk => Lib.bytesWorld_at_old w _ s k hk⟩
  all_goals
    unfold Lib.bytesWorld World.freeze
    rw [if_neg (by decide)]
    rfl

/-- Where the loop over the bytes stands. -/
structure SpecAt (w : World) (gb : Nat) (s : ByteArray) (l : List Int) (pos q c : Nat) (wr : World) : Prop where
  own : OwnI wr q c l
  qg : w.heap.size ≤ q
  byt : ∀ j, j < s.size → wr.cell? ⟨gb, 0 + j, none⟩ = some (.int .u8 ((s.data.toList.getD j 0).toNat : Int))
  typ : ∃ cs fz, wr.heap[gb]? = some (.cells cs 5 fz)
  bel : Below w.heap.size w wr
  rd : ReadTo s l pos

theorem SpecAt.gbl {w : World} {gb : Nat} {s : ByteArray} {l : List Int} {pos q c : Nat} {wr : World} (h : SpecAt w gb s l pos q c wr) : gb < wr.heap.size := by
  obtain ⟨cs, fz, hg⟩ := h.typ
  exact (Array.getElem?_eq_some_iff.1 hg).1
theorem own_ne {wr : World} {gb q c : Nat} {l : List Int} (h : OwnI wr q c l) (ht : ∃ cs fz, wr.heap[gb]? = some (.cells cs 5 fz)) : q ≠ gb := by
  rintro rfl
  obtain ⟨cs, fz, hg⟩ := ht
  obtain ⟨cur, hq, _⟩ := h
  rw [hg] at hq
  simp at hq
theorem SpecAt.below {w : World} {gb : Nat} {s : ByteArray} {l : List Int} {pos q c : Nat} {wr wr' : World} (h : SpecAt w gb s l pos q c wr) (hb : Below wr.heap.size wr wr') : SpecAt w gb s l pos q c wr' :=
  ⟨h.own.below hb, h.qg, fun j hj => (hb.cell (p := ⟨gb, 0 + j, none⟩) h.gbl).trans (h.byt j hj), by obtain ⟨cs, fz, hg⟩ := h.typ; exact ⟨cs, fz, (hb.block gb h.gbl).trans hg⟩, Below.next h.bel hb, h.rd⟩
theorem SpecAt.next {w : World} {gb : Nat} {s : ByteArray} {l : List Int} {pos q c : Nat} {wr w3 : World} {z : Int} {v : Value} {o : Obj} (h : SpecAt w gb s l pos q c wr) (hown : w3.ownsRow q 3 1 v (l.length + 1) (l.map ci ++ [.int .i64 z])) (hgr : (wr.alloc o).grownBy w3 (some q)) (hne : v ≠ .slice none 0 0) (hg : Got (s.data.toList.drop pos) z) : ∃ q' c', v = .slice (some ⟨q', 0, none⟩) (l ++ [z]).length c' ∧ SpecAt w gb s (l ++ [z]) (pos + (signB z).length) q' c' w3 := by
  have hown' : w3.ownsRow q 3 1 v (l.length + 1) ((l ++ [z]).map ci) := by rw [List.map_append]; exact hown
  obtain ⟨q', c', hv, hq', hO⟩ := own_rowI hown' hne
  have hgb := h.gbl
  have hqb := own_ne h.own h.typ
  have hb : w3.heap[gb]? = wr.heap[gb]? := by
    rw [hgr.block gb (by simp; omega) (by simp; omega), Below.heap_alloc wr o gb hgb]
  have hbs := h.bel.size
  exact ⟨q', c', by rw [hv, List.length_append]; rfl, ⟨hO, Nat.le_trans h.qg hq', fun j hj => (World.cell?_of_block (w := wr) (a := ⟨gb, 0 + j, none⟩) hb).trans (h.byt j hj), by obtain ⟨cs, fz, hg⟩ := h.typ; exact ⟨cs, fz, hb.trans hg⟩, (h.bel.alloc hbs o).grown hgr (by simp; omega) (fun k hk => by simp at hk; have := h.qg; omega), readTo_next h.rd hg⟩⟩

end Go.Proofs.YtgefabagpcjegabDoor
