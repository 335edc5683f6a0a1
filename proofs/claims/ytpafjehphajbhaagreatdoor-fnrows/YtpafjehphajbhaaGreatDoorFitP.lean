/- Plain facts on texts of few signs that a set has: they fit a cell. -/
import Derived.Test.YtpafjehphajbhaaGreatDoorCellP
namespace Go.Proofs.YtpafjehphajbhaaGreatDoor
set_option maxRecDepth 4000
open Go.RowKit

/-- A sign that a set has. -/
def Fit (cs n : Int) : Prop := isSign n ∧ putOk cs n = true
theorem fits_enc {cs : Int} (hc : inB cs 0 5 = true) {l : List Int} (h : ∀ n ∈ l, Fit cs n) : encOk cs (l.flatMap signB) = true ∧ encS cs (l.flatMap signB) = writeB cs l := by
  have sg : Signed (l.flatMap signB) l := ⟨fun n hn => (h n hn).1, rfl⟩
  have so := signsOf_signed sg
  have li : lostI (itemsOf 0 (l.flatMap signB)) = 0 := by rw [signed_items sg, lostI_map]
  have lw : lostW cs l = 0 := lostW_put fun n hn => (h n hn).2
  have ok : encOk cs (l.flatMap signB) = true := by
    simp only [encOk, encIn, Bool.and_eq_true, decide_eq_true_eq]
    exact ⟨⟨hc, li⟩, by rw [so]; exact lw⟩
  exact ⟨ok, by unfold encS; rw [if_pos ok, so]⟩
theorem fit_utf {cs n : Int} (h : Fit cs n) : Fit 0 n := ⟨h.1, by rw [putOk_utf]; exact sign_t h.1⟩
theorem fits_cell {cs : Int} (hc : inB cs 0 5 = true) {l : List Int} (h : ∀ n ∈ l, Fit cs n) (hl : l.length ≤ 5) : oOk cs (l.flatMap signB) = true := by
  obtain ⟨e1, e2⟩ := fits_enc hc h
  have := writeB_len cs l
  simp only [oOk, Bool.and_eq_true, decide_eq_true_eq]
  exact ⟨e1, by rw [e2]; omega⟩
theorem fits_both {cs : Int} (hc : inB cs 0 5 = true) {l : List Int} (h : ∀ n ∈ l, Fit cs n) (hl : l.length ≤ 5) : oOk cs (l.flatMap signB) = true ∧ oOk 0 (l.flatMap signB) = true :=
  ⟨fits_cell hc h hl, fits_cell (by decide) (fun n hn => fit_utf (h n hn)) hl⟩
/-- The letter x is in all sets. -/
theorem fit_x (cs : Int) (hc : 1 ≤ cs ∧ cs ≤ 4) : Fit cs 120 := by
  have hb : bsOk cs 120 = true ∧ bsN cs 120 = 120 := by
    have e : signOf cs 120 = 120 := sign_low hc (by omega) (by omega)
    exact ⟨by unfold bsOk; rw [e]; rfl, by unfold bsN; rw [e]; rfl⟩
  have h := sb_back hb.1
  rw [hb.2] at h
  exact ⟨.inl ⟨by omega, by omega⟩, by unfold putOk; rw [if_neg (by omega), if_neg (by omega)]; exact h.2⟩
theorem fit_byte {cs b : Int} (hc : 1 ≤ cs ∧ cs ≤ 4) (h : bsOk cs b = true) : Fit cs (bsN cs b) :=
  ⟨bs_sign h, by unfold putOk; rw [if_neg (by omega), if_neg (by omega)]; exact (sb_back h).2⟩
theorem fit_euc : ∀ z ∈ ([97, 32, 12353, 12435, 12449, 12534, 12354] : List Int), Fit 5 z := by
  intro z hz
  have h : ∀ z ∈ ([97, 32, 12353, 12435, 12449, 12534, 12354] : List Int), signOkB z = true ∧ eucOk z = true := by decide
  obtain ⟨h1, h2⟩ := h z hz
  exact ⟨sign_sign h1, by unfold putOk; rw [if_neg (by omega), if_pos rfl]; exact h2⟩

end Go.Proofs.YtpafjehphajbhaaGreatDoor
