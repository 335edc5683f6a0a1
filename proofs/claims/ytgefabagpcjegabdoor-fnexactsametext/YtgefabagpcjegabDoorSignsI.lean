/- The contract of Signs in the program. -/
import Derived.Test.YtgefabagpcjegabDoorInts
import Derived.Test.YtgefabagpcjegabDoorSign
import Derived.Test.YtgefabagpcjegabDoorUniDec
import Derived.Lib.OthersKept
namespace Go.Proofs.YtgefabagpcjegabDoor
set_option maxRecDepth 4000
open Go.RowKit

/-- What Signs answers. -/
structure SignsOut (w : World) (t : List UInt8) (e : Ending) (w' : World) : Prop where
  out : ∃ (g c : Nat) (l : List Int) (ok : Bool), e = .returned (.tuple #[.slice (some ⟨g, 0, none⟩) l.length c, .bool ok]) ∧ SignsAre t l ok ∧ w.heap.size ≤ g ∧ OwnI w' g c l ∧ Below w.heap.size w w'

theorem ext_list (s : ByteArray) (a b : Nat) : (s.extract a b).toList = (s.data.toList.drop a).take (b - a) := Lib.extract_toList s a b

/-- Where the loop over a text stands. -/
structure ReadTo (s : ByteArray) (l : List Int) (pos : Nat) : Prop where
  sg : ∀ n ∈ l, isSign n
  eq : s.data.toList = l.flatMap signB ++ s.data.toList.drop pos
  at_ : (l.flatMap signB).length = pos
  le : pos ≤ s.size
  len : l.length ≤ pos
theorem readTo_zero (s : ByteArray) : ReadTo s [] 0 := ⟨by simp, by simp, rfl, Nat.zero_le _, Nat.le_refl _⟩
theorem readTo_next {s : ByteArray} {l : List Int} {pos : Nat} {n : Int} (h : ReadTo s l pos) (hg : Got (s.data.toList.drop pos) n) : ReadTo s (l ++ [n]) (pos + (signB n).length) := by
  have hlen : s.data.toList.length = s.size := by rw [Array.length_toList]; rfl
  obtain ⟨hs, r, hr⟩ := hg
  have hp := signB_pos hs
  have e : s.data.toList.drop (pos + (signB n).length) = r := by rw [← List.drop_drop, ← hr, List.drop_left]
  refine ⟨?_, ?_, ?_, ?_, ?_⟩
  · intro m hm
    rcases List.mem_append.1 hm with hm | hm
    · exact h.sg m hm
    · rw [List.mem_singleton.1 hm]; exact hs
  · rw [e, List.flatMap_append, List.append_assoc]
    have h2 : ([n] : List Int).flatMap signB = signB n := by simp
    rw [h2, hr]; exact h.eq
  · rw [List.flatMap_append, List.length_append, h.at_]; simp
  · have := congrArg List.length hr
    rw [List.length_append, List.length_drop, hlen] at this
    have := h.le; omega
  · have := h.len
    rw [List.length_append]; simp; omega
theorem readTo_end {s : ByteArray} {l : List Int} {pos : Nat} (h : ReadTo s l pos) (hp : ¬ pos < s.size) : SignsAre s.data.toList l true := by
  refine .inl ⟨rfl, h.sg, ?_⟩
  have hlen : s.data.toList.length = s.size := by rw [Array.length_toList]; rfl
  have e : s.data.toList.drop pos = [] := List.drop_eq_nil_of_le (by omega)
  have := h.eq
  rw [e, List.append_nil] at this; exact this.symm
theorem readTo_stuck {s : ByteArray} {l : List Int} {pos : Nat} (h : ReadTo s l pos) (hp : pos < s.size) (hn : ¬ ∃ n, Got (s.data.toList.drop pos) n) : SignsAre s.data.toList [] false := by
  have hlen : s.data.toList.length = s.size := by rw [Array.length_toList]; rfl
  refine .inr ⟨rfl, rfl, signed_stuck h.sg h.eq ?_ hn⟩
  intro e
  have := congrArg List.length e
  rw [List.length_drop, hlen] at this; simp at this; omega

structure ImplAt (w : World) (s : ByteArray) (l : List Int) (pos : Nat) (wr : World) : Prop where
  own : OwnI wr w.heap.size s.size l
  it : wr.heap[w.heap.size + 1]? = some (.stringIter s pos)
  bel : Below w.heap.size w wr
  rd : ReadTo s l pos

theorem OwnI.iterAt {wr : World} {g c k : Nat} {l : List Int} (h : OwnI wr g c l) (hne : g ≠ k) (s : ByteArray) (pos : Nat) : OwnI (wr.iterAt k s pos) g c l := h.of_block (Lib.iterAt_other wr k g s pos hne)

theorem next_is (wr : World) (k : Nat) (s : ByteArray) (pos n L : Nat) (ty : TypeId) (hk : wr.heap[k]? = some (.stringIter s pos)) (h : pos < s.size) (hdec : Utf8.decode s pos = (n, L)) :
    (Instr.next (.pointer (some ⟨k, 0, none⟩)) true ty).run Tryd.prog wr = .ok (.tuple #[.bool true, .int .i64 pos, .int .i32 (n : Int)]) (wr.iterAt k s (pos + L)) := by
  have e := Lib.run_next_any_at (P := Tryd.prog) wr k s pos ty hk h
  simp only [hdec] at e
  exact e
theorem implAt_zero (w : World) (s : ByteArray) (hs : s.size ≤ maxLen) : ImplAt w s [] 0 ((w.alloc (.cells (madeCells #[.int .i64 0] s.size) 3)).iter s 0) := by
  have hO : OwnI (w.alloc (.cells (madeCells #[.int .i64 0] s.size) 3)) w.heap.size s.size [] :=
    ⟨madeCells #[.int .i64 0] s.size, heap_alloc_new w _, Nat.zero_le _, hs, by rw [← Array.length_toList, toList_madeCells_one]; simp, by simp⟩
  have hB : Below w.heap.size w (w.alloc (.cells (madeCells #[.int .i64 0] s.size) 3)) := (Below.refl _ w).alloc (Nat.le_refl _) _
  refine ⟨hO.of_block (Below.heap_alloc _ _ _ (by simp)), ?_, hB.alloc (by simp) _, readTo_zero s⟩
  have := World.iter_heap (w.alloc (.cells (madeCells #[.int .i64 0] s.size) 3)) s 0
  simpa using this
/-- Behind 'next'. -/
structure ImplMid (w : World) (s : ByteArray) (l : List Int) (pos : Nat) (wr : World) : Prop where
  own : OwnI wr w.heap.size s.size l
  it : wr.heap[w.heap.size + 1]? = some (.stringIter s pos)
  bel : Below w.heap.size w wr
theorem implMid {w wr : World} {s : ByteArray} {l : List Int} {pos : Nat} (h : ImplAt w s l pos wr) (p : Nat) : ImplMid w s l p (wr.iterAt (w.heap.size + 1) s p) :=
  ⟨h.own.iterAt (by omega) s p, Lib.iterAt_heap wr _ s pos p h.it, Lib.below_iterAt h.bel (by omega) s p⟩
theorem implNext {w W1 w3 : World} {s : ByteArray} {l : List Int} {p : Nat} {z : Int} {o : Obj} (h : ImplMid w s l p W1) (hown : w3.ownsRow w.heap.size 3 1 (.slice (some ⟨w.heap.size, 0, none⟩) (l.length + 1) s.size) (l.length + 1) (l.map ci ++ [.int .i64 z])) (hgr : (W1.alloc o).grownBy w3 (some w.heap.size)) (hr : ReadTo s (l ++ [z]) p) : ImplAt w s (l ++ [z]) p w3 := by
  have hsz : w.heap.size + 1 < W1.heap.size := (Array.getElem?_eq_some_iff.1 h.it).1
  have hown' : w3.ownsRow w.heap.size 3 1 (.slice (some ⟨w.heap.size, 0, none⟩) (l.length + 1) s.size) (l.length + 1) ((l ++ [z]).map ci) := by rw [List.map_append]; exact hown
  obtain ⟨g, c, hv, _, hO⟩ := own_rowI hown' (by simp)
  simp only [Value.slice.injEq, Option.some.injEq, Addr.mk.injEq, and_true, true_and] at hv
  refine ⟨by rw [hv.1, hv.2]; exact hO, ?_, (h.bel.alloc (by have := h.bel.size; omega) o).grown hgr (by simp; omega) (fun q hq => by simp at hq; omega), hr⟩
  rw [hgr.block _ (by simp; omega) (by simp), Below.heap_alloc W1 o _ hsz]
  exact h.it

end Go.Proofs.YtgefabagpcjegabDoor
