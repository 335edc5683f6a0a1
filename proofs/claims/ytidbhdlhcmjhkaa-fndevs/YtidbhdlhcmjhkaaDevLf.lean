/- The specification: l10Flush; FlushDev. -/
import Derived.Test.YtidbhdlhcmjhkaaDevFl
import Derived.Test.YtidbhdlhcmjhkaaDevWs
import Derived.Deep.RegionHeld3
namespace Go.Proofs.Ytidbhdlhcmjhkaa
set_option maxRecDepth 4000
open Go.RowKit

section
variable {α : Type} {n : Nat} {T : TypeId} {E : Ow α} {R : Rd α} {w w' : World} {v : Value} {css : List (List Value)} {Fs : Nat → Fp} {F : Fp} {ls : List α}
/-- An element is put whose blocks are apart from all that the list owns. -/
theorem OwP.put2 (h : OwP n T E w v css Fs F ls) (ok : OwOk n E R) {k : Nat} {c' : List Value} {a' : α} {G : Fp} (hk : k < ls.length) (hrow : w'.ownsRow 0 T n v ls.length (css.set k c').flatten) (hc' : c'.length = n)
    (hG : E w' c' G a') (hGF : ∀ x, G x → ¬ F x) (hsame : ∀ x, F x → v.ownBlock ≠ some x → w'.heap[x]? = w.heap[x]?) (hsz : w.heap.size ≤ w'.heap.size) :
    OwP n T E w' v (css.set k c') (fun j => if j = k then G else Fs j) (fun x => F x ∨ G x) (ls.set k a') where
  own := by rw [List.length_set]; exact hrow
  size := by simp [h.size]
  lens := fun c hc => by
    rcases List.mem_or_eq_of_mem_set hc with hc | rfl
    · exact h.lens c hc
    · exact hc'
  lt := fun x hx => by
    rcases hx with hx | hx
    · have := h.lt x hx; omega
    · exact ok.lt hG x hx
  blk := fun x hx => .inl (h.blk x hx)
  sub := fun j x hj hx => by
    rw [List.length_set] at hj
    split at hx
    · exact ⟨.inr hx, fun e => hGF x hx (h.blk x e)⟩
    · exact ⟨.inl (h.sub j x hj hx).1, (h.sub j x hj hx).2⟩
  apart := fun i j x hi hj hij hx hy => by
    rw [List.length_set] at hi hj
    by_cases e1 : i = k
    · rw [if_pos e1] at hx
      rw [if_neg (fun e2 => hij (e1.trans e2.symm))] at hy
      exact hGF x hx (h.sub j x hj hy).1
    · rw [if_neg e1] at hx
      by_cases e2 : j = k
      · rw [if_pos e2] at hy
        exact hGF x hy (h.sub i x hi hx).1
      · rw [if_neg e2] at hy
        exact h.apart i j x hi hj hij hx hy
  els := fun j c a hc ha => by
    by_cases e : j = k
    · subst e
      rw [List.getElem?_set_self (by rw [h.size]; exact hk)] at hc
      rw [List.getElem?_set_self hk] at ha
      cases hc
      cases ha
      rw [if_pos rfl]
      exact hG
    · rw [List.getElem?_set_ne (fun e2 => e e2.symm)] at hc ha
      rw [if_neg e]
      exact ok.keep (h.els j c a hc ha) (fun x hx => hsame x (h.sub j x (get_lt ha) hx).1 (h.sub j x (get_lt ha) hx).2)
/-- The same of the list: its row's block alone is turned. -/
theorem owS_put2 (ok : OwOk n E R) {g len cap k : Nat} {c' : List Value} {a' : α} {G : Fp} (h : OwS n T E w [.slice (some ⟨g, 0, none⟩) len cap] F ls) (hk : k < len) (hc' : c'.length = n)
    (hE : E w c' G a') (hG : ∀ x, G x → ¬ F x) : OwS n T E (setRow w g (k * n) c') [.slice (some ⟨g, 0, none⟩) len cap] (fun x => F x ∨ G x) (ls.set k a') := by
  have hlen := (owS_len h).1
  obtain ⟨v', css, Fs, e, P⟩ := h
  simp only [List.cons.injEq, and_true] at e
  subst e
  have hkl : k < ls.length := by omega
  obtain ⟨a, ha⟩ := get_some hkl
  obtain ⟨c, hc, hcn, _⟩ := P.cellsAt ha
  have hg := P.blk g rfl
  have ho : w.ownsRow 0 T n (.slice (some ⟨g, 0, none⟩) len cap) ls.length (css.set k c).flatten := by
    rw [set_self hc]; exact P.own
  have h1 := setRow_row (rest := c') rfl (by rw [P.size]; exact hkl) P.lens w 0 c hcn (by omega) ho
  rw [Nat.add_zero, List.take_zero, List.nil_append] at h1
  refine ⟨_, _, _, rfl, P.put2 ok hkl h1 hc' (ok.keep hE (fun b hb2 => setRow_other g c' w _ (fun e => hG b hb2 (by rw [e]; exact hg)))) hG (fun x hx h1 => ?_) (by rw [setRow_size]; exact Nat.le_refl _)⟩
  rw [setRow_other g c' w _ (fun e => h1 (by rw [e]; rfl))]
/-- Its elements, each with blocks of its own. -/
theorem owS_all {g len cap : Nat} (h : OwS n T E w [.slice (some ⟨g, 0, none⟩) len cap] F ls) : ∃ Fs : Nat → Fp, (∀ k a, ls[k]? = some a → ∃ c, c.length = n ∧ (∀ i v, c[i]? = some v → w.cell? ⟨g, k * n + i, none⟩ = some v) ∧ E w c (Fs k) a) ∧ (∀ k x, k < ls.length → Fs k x → F x ∧ x ≠ g) ∧ (∀ i j x, i < ls.length → j < ls.length → i ≠ j → Fs i x → ¬ Fs j x) ∧ F g := by
  obtain ⟨v', css, Fs, e, P⟩ := h
  simp only [List.cons.injEq, and_true] at e
  subst e
  refine ⟨Fs, fun k a ha => ?_, fun k x hk hx => ⟨(P.sub k x hk hx).1, fun e => (P.sub k x hk hx).2 (by rw [e]; rfl)⟩, P.apart, P.blk g rfl⟩
  obtain ⟨c, hc, hcn, hE⟩ := P.cellsAt ha
  refine ⟨c, hcn, fun i v hv => ?_, hE⟩
  rw [P.cell rfl hc (by rw [← hcn]; exact get_lt hv)]; exact hv
end

end Go.Proofs.Ytidbhdlhcmjhkaa
