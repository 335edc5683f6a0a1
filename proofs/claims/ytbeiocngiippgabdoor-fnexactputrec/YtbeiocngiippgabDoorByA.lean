/- Bytes that lie at the head of a block, with their room, in the words of Deep: what the laws' copies of bytes are. -/
import Derived.Test.YtbeiocngiippgabDoorDeepA
namespace Go.Proofs.YtbeiocngiippgabDoor
set_option maxRecDepth 4000
open Go.RowKit

def RdA : Rd (List UInt8) := fun w cs bs => ∃ q n c, cs = [.slice (some ⟨q, 0, none⟩) n c] ∧ n ≤ maxLen ∧ n ≤ c ∧ Lies w q n bs
def OwA : Ow (List UInt8) := fun w cs F bs => ∃ q n c, cs = [.slice (some ⟨q, 0, none⟩) n c] ∧ OwB w [.slice (some ⟨q, 0, none⟩) n c] F bs ∧ n ≤ c
theorem rdA_ok : RdOk 1 RdA := ⟨fun ⟨_, _, _, e, _⟩ => by rw [e]; rfl, fun {w w'} _ _ ⟨q, n, c, e, hm, h1, h⟩ hs => ⟨q, n, c, e, hm, h1, h.size, lt_of_same (hs q h.lt) h.lt, fun j hj => by
  rw [World.cell?_of_block (w := w) (a := ⟨q, 0 + j, none⟩) (hs q h.lt)]; exact h.cell j hj⟩⟩
theorem rdA_w {w : World} {cs : List Value} {bs : List UInt8} (h : RdA w cs bs) : RdB w cs bs := by
  obtain ⟨q, n, c, e, hm, _, h⟩ := h
  exact ⟨_, n, c, e, hm, h.size, .inr ⟨q, 0, rfl, h.cell⟩⟩
theorem rdA_parts {w : World} {ao : Option Addr} {n c : Nat} {bs : List UInt8} (h : RdA w [.slice ao n c] bs) : ∃ q, ao = some ⟨q, 0, none⟩ ∧ n ≤ maxLen ∧ n ≤ c ∧ Lies w q n bs := by
  obtain ⟨q, _, _, e, hm, hr⟩ := h
  simp only [List.cons.injEq, Value.slice.injEq, and_true] at e
  obtain ⟨rfl, rfl, rfl⟩ := e
  exact ⟨q, rfl, hm, hr⟩
theorem owA_parts {w : World} {ao : Option Addr} {n c : Nat} {F : Fp} {bs : List UInt8} (h : OwA w [.slice ao n c] F bs) : ∃ q, ao = some ⟨q, 0, none⟩ ∧ OwB w [.slice ao n c] F bs ∧ n ≤ c := by
  obtain ⟨q, _, _, e, hm, hr⟩ := h
  simp only [List.cons.injEq, Value.slice.injEq, and_true] at e
  obtain ⟨rfl, rfl, rfl⟩ := e
  exact ⟨q, rfl, hm, hr⟩
theorem owA_ok : OwOk 1 OwA RdA where
  len := fun ⟨_, _, _, e, _⟩ => by rw [e]; rfl
  lt := fun ⟨_, _, _, _, h, _⟩ => h.1
  keep := fun ⟨q, n, c, e, h, h2⟩ hs => ⟨q, n, c, e, owB_ok.keep h hs, h2⟩
  rd := fun {w _ _ bs} ⟨q, n, c, e, h, h2⟩ => by
    obtain ⟨_, hn, hr⟩ := owB_parts h
    refine ⟨q, n, c, e, (rdB_parts (owB_ok.rd h)).1, h2, ?_⟩
    rcases hr with ⟨e2, _⟩ | ⟨g, e2, _, hR⟩
    · cases e2
    · simp only [Option.some.injEq, Addr.mk.injEq, and_true] at e2
      subst e2
      exact ⟨hn, hR.lt, fun j hj => by rw [Nat.zero_add]; exact hR.cell j (by omega)⟩

theorem toByteS_oa (ao : Option Addr) (len cap : Nat) (bs : List UInt8) (w : World) (h : RdB w [.slice ao len cap] bs) (hw : wtB bs ≤ 1073741824) :
    Calls Tryd.prog 8 #[.slice ao len cap] w (AnsSl OwA bs w) := by
  obtain ⟨_, hr⟩ := rdB_parts h
  unfold wtB at hw
  refine (toByteS_any ao len cap bs w hr (by rw [← hr.1]; exact hw)).mono ?_
  rintro e w' ⟨rfl, hR, hB⟩
  exact ⟨⟨_, _, _, rfl, fun x => x = w.heap.size, ⟨_, _, _, rfl, owB_row hR hr.1, Nat.le_refl _⟩, fun x hx => by rw [hx]; exact Nat.le_refl _⟩, hB⟩

theorem markByteS_oa (ao : Option Addr) (len cap m : Nat) (bs : List UInt8) (F : Fp) (w : World) (h : OwA w [.slice ao len cap] F bs) (hs : m + ctB bs ≤ 1073741824) :
    Calls Tryd.prog 13 #[.slice ao len cap, .int .i64 (m : Int)] w (MkOut OwA [.slice ao len cap] F (mkB m bs) (m + ctB bs) w) := by
  obtain ⟨q, e, h1, h2⟩ := owA_parts h
  subst e
  refine (markByteS_ow _ len cap m bs F w h1 hs).mono ?_
  rintro e w' ⟨he, hO, hC⟩
  exact ⟨he, ⟨_, _, _, rfl, hO, h2⟩, hC⟩

/-- A slice of new memory, as an answer. -/
theorem ansSl_own {w w' : World} {g k n : Nat} {bs : List UInt8} (hn : bs.length = n) (hg : w.heap.size ≤ g) (hO : Own w' g k bs) (hB : Below w.heap.size w w') : AnsSl OwB bs w (.returned (.slice (some ⟨g, 0, none⟩) n k)) w' :=
  ⟨⟨_, _, _, rfl, fun x => x = g, owB_row hO.row hn, fun x hx => by rw [hx]; exact hg⟩, hB⟩

end Go.Proofs.YtbeiocngiippgabDoor
