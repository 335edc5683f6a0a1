/- Contracts of writeAll, Encode, EncodeLossy and Fits, in the program. -/
import Derived.Test.YtjbideiifoadkaaDoorCodeW
import Derived.Test.YtjbideiifoadkaaDoorSignsI
namespace Go.Proofs.YtjbideiifoadkaaDoor
set_option maxRecDepth 4000
open Go.RowKit

theorem WAt.fits {w : World} {cs : Int} {l : List Int} {k q c n lost : Nat} {wr : World} (h : WAt w cs l k q c n lost wr) : n ≤ 4 * k ∧ lost ≤ k ∧ k ≤ l.length ∧ q < wr.heap.size := by
  obtain ⟨bs, h1, h2, _, h4, _⟩ := h.out
  have := h2.size
  exact ⟨by omega, by omega, h2.le, h4.lt⟩
theorem WAt.bel {w : World} {cs : Int} {l : List Int} {k q c n lost : Nat} {wr : World} (h : WAt w cs l k q c n lost wr) : Below w.heap.size w wr := by
  obtain ⟨bs, _, _, _, _, h5⟩ := h.out; exact h5
theorem WAt.owns {w : World} {cs : Int} {l : List Int} {k q c n lost : Nat} {wr wx : World} (h : WAt w cs l k q c n lost wr) (hb : Below wr.heap.size wr wx) : wx.ownsRow w.heap.size 5 1 (.slice (some ⟨q, 0, none⟩) n c) n ((writeB cs (l.take k)).map cb) := by
  obtain ⟨bs, h1, h2, h3, h4, _⟩ := h.out
  have e : bs = writeB cs (l.take k) := h2.text
  rw [← e]
  exact (h4.below hb).owns h1 h3

theorem own_none (w : World) : Own (w.alloc (.cells #[] 5)) w.heap.size 0 [] := ⟨#[], heap_alloc_new w _, by simp, Nat.zero_le _, rfl, by simp⟩

/-- Bytes and a flag; bytes and a number; in new memory. -/
structure EncOut (w : World) (bs : List UInt8) (ok : Bool) (e : Ending) (w' : World) : Prop where
  out : ∃ g c, e = .returned (.tuple #[.slice (some ⟨g, 0, none⟩) bs.length c, .bool ok]) ∧ w.heap.size ≤ g ∧ Own w' g c bs ∧ Below w.heap.size w w'
structure EncLOut (w : World) (bs : List UInt8) (n : Nat) (e : Ending) (w' : World) : Prop where
  out : ∃ g c, e = .returned (.tuple #[.slice (some ⟨g, 0, none⟩) bs.length c, .int .i64 (n : Int)]) ∧ w.heap.size ≤ g ∧ Own w' g c bs ∧ Below w.heap.size w w'

theorem enc_out {cs : Int} {t : List UInt8} (h : encIn cs t = false) : encOk cs t = false ∧ encS cs t = [] ∧ encLS cs t = [] ∧ encLN cs t = 0 := by
  have h1 : encOk cs t = false := by unfold encOk; rw [h]; rfl
  exact ⟨h1, by unfold encS; rw [h1]; rfl, by unfold encLS; rw [h]; rfl, by unfold encLN; rw [h]; rfl⟩
theorem enc_no {cs : Int} {t : List UInt8} (hw : lostW cs (signsOf t) ≠ 0) : encOk cs t = false ∧ encS cs t = [] := by
  have h1 : encOk cs t = false := by unfold encOk; rw [decide_eq_false hw]; simp
  exact ⟨h1, by unfold encS; rw [h1]; rfl⟩
theorem enc_yes {cs : Int} {t : List UInt8} (h : encIn cs t = true) (hw : lostW cs (signsOf t) = 0) : encOk cs t = true ∧ encS cs t = writeB cs (signsOf t) := by
  have h1 : encOk cs t = true := by unfold encOk; rw [h, decide_eq_true hw]; rfl
  exact ⟨h1, by unfold encS; rw [if_pos h1]⟩
theorem enc_lin {cs : Int} {t : List UInt8} (h : encIn cs t = true) : encLS cs t = writeB cs (signsOf t) ∧ encLN cs t = lostW cs (signsOf t) :=
  ⟨if_pos h, if_pos h⟩
theorem encIn_t {cs : Int} {t : List UInt8} (hc : inB cs 0 5 = true) (h : lostI (itemsOf 0 t) = 0) : encIn cs t = true := by unfold encIn; rw [hc, decide_eq_true h]; rfl
theorem encIn_f {cs : Int} {t : List UInt8} (h : lostI (itemsOf 0 t) ≠ 0) : encIn cs t = false := by unfold encIn; rw [decide_eq_false h]; simp
theorem encIn_c {cs : Int} {t : List UInt8} (h : inB cs 0 5 = false) : encIn cs t = false := by unfold encIn; rw [h]; rfl
theorem size_list (s : ByteArray) : s.data.toList.length = s.size := by rw [Array.length_toList]; rfl

theorem signsOf_len (t : List UInt8) (h : lostI (itemsOf 0 t) = 0) : (signsOf t).length ≤ t.length := by
  obtain ⟨l, _, sg⟩ := items_signed h
  rw [signsOf_signed sg]
  exact signsAre_len (.inl ⟨rfl, sg⟩)
theorem encLS_len (cs : Int) (s : ByteArray) (hs : s.size ≤ 1048576) : (encLS cs s.data.toList).length ≤ 4194304 := by
  unfold encLS
  split
  · rename_i h
    simp only [encIn, Bool.and_eq_true, decide_eq_true_eq] at h
    have h1 := writeB_len cs (signsOf s.data.toList)
    have h2 := signsOf_len _ h.2
    rw [size_list] at h2
    omega
  · simp
theorem encS_len (cs : Int) (s : ByteArray) (hs : s.size ≤ 1048576) : (encS cs s.data.toList).length ≤ 4194304 := by
  cases h : encOk cs s.data.toList
  · unfold encS; rw [h]; simp
  · rw [← (enc_lossy h).2]; exact encLS_len cs s hs

end Go.Proofs.YtjbideiifoadkaaDoor
