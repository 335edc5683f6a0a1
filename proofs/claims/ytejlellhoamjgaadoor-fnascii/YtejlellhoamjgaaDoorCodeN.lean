/- Plain facts: a text as a list of its bytes; how long what bytes say can be. -/
import Derived.Test.YtejlellhoamjgaaDoorCodeA
namespace Go.Proofs.YtejlellhoamjgaaDoor
set_option maxRecDepth 4000
open Go.RowKit

theorem list_of (bs : List UInt8) : (⟨bs.toArray⟩ : ByteArray).data.toList = bs := rfl
theorem arr_of (s : ByteArray) : (⟨s.data.toList.toArray⟩ : ByteArray) = s := by
  obtain ⟨⟨l⟩⟩ := s
  rfl
theorem app_list (a b : ByteArray) : (a ++ b).data.toList = a.data.toList ++ b.data.toList := by
  rw [ByteArray.data_append, Array.toList_append]
theorem app_bytes (a b : List UInt8) : (⟨a.toArray⟩ : ByteArray) ++ (⟨b.toArray⟩ : ByteArray) = ⟨(a ++ b).toArray⟩ := by
  have h := app_list ⟨a.toArray⟩ ⟨b.toArray⟩
  rw [list_of, list_of] at h
  rw [← h, arr_of]
theorem size_of (bs : List UInt8) : (⟨bs.toArray⟩ : ByteArray).size = bs.length := by
  show bs.toArray.size = _
  rw [List.size_toArray]
theorem textI_len {cs : Int} : ∀ (k : Nat) (t : List UInt8), t.length ≤ k → (textI (itemsOf cs t)).length ≤ 4 * t.length
  | 0, t, hk => by
    obtain rfl : t = [] := List.eq_nil_of_length_eq_zero (by omega)
    rw [itemsOf_nil]; simp [textI]
  | k + 1, t, hk => by
    by_cases ht : t = []
    · subst ht; rw [itemsOf_nil]; simp [textI]
    · have hl := len_pos ht
      cases hh : hdOk cs t
      · have ih := textI_len (cs := cs) k (t.drop 1) (by simp; omega)
        have := signB_len (signI none)
        rw [itemsOf_no ht hh, textI_cons, List.length_append]
        rw [List.length_drop] at ih
        omega
      · have hf := hd_fits ht hh
        have hp := hf.pos
        have hle := hf.le
        have ih := textI_len (cs := cs) k (t.drop (hdK cs t)) (by simp; omega)
        have := signB_len (signI (some (hdN cs t)))
        rw [itemsOf_yes ht hh, textI_cons, List.length_append]
        rw [List.length_drop] at ih
        omega
theorem decS_len (cs : Int) (t : List UInt8) : (decS cs t).length ≤ 4 * t.length := by
  unfold decS
  split
  · exact textI_len t.length t (Nat.le_refl _)
  · simp
theorem decLS_len (cs : Int) (t : List UInt8) : (decLS cs t).length ≤ 4 * t.length := by
  unfold decLS
  split
  · exact textI_len t.length t (Nat.le_refl _)
  · simp

end Go.Proofs.YtejlellhoamjgaaDoor
