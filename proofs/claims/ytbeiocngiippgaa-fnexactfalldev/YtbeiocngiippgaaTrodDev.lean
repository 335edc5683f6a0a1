/- From the reading of a law's argument to the words of Deep: ByteS, ByteSS, Wr, WrS, Dev. -/
import Derived.Test.YtbeiocngiippgaaTrod
import Derived.Test.YtbeiocngiippgaaDpByteSS
import Derived.Test.YtbeiocngiippgaaDpWr
import Derived.Test.YtbeiocngiippgaaDpWrS
import Derived.Test.YtbeiocngiippgaaDpDev
namespace Go.Proofs.Ytbeiocngiippgaa
set_option maxRecDepth 4000
open Go.RowKit Go.ChangeShapes Go.WideShapes Go.ChangeAt

theorem rdB_trod' : RdT 22 RdB := rdB_trod Try.underlying22 Try.underlying5 (by kernel_rfl)

theorem rdByteSS_trod : RdT 24 RdByteSS := rdS_trod Try.underlying24 (by kernel_rfl) (by omega) rdB_trod' rdB_ok

theorem rdWr_trod : RdT 86 RdWr := by
  intro H enc W base sp held fuel cs x h
  obtain ⟨xs, m, _, _, hcl, hxl, hf⟩ := DataW.trod_struct Try.underlying86 h
  rw [show Try.prog.cellsOf 86 = 2 from by kernel_rfl] at hcl
  rcases cs with _ | ⟨c0, cs⟩
  · simp at hcl
  rcases cs with _ | ⟨c1, cs⟩
  · simp at hcl
  rcases cs with _ | ⟨c2, cs⟩
  rotate_left
  · simp at hcl
  obtain ⟨y0, hy0⟩ := get_some (l := xs) (j := 0) (by rw [hxl]; decide)
  have h0 := hf 0 _ rfl
  rw [hy0] at h0
  replace h0 : DataW.trod enc Try.prog W base sp held m 3 (List.take (Try.prog.cellsOf 3) (List.drop 0 _)) = some y0 := h0
  rw [show Try.prog.cellsOf 3 = 1 from by kernel_rfl] at h0
  replace h0 : DataW.trod enc Try.prog W base sp held m 3 [c0] = some y0 := h0
  obtain ⟨a0, e0, _⟩ := DataW.trod_int Try.underlying3 h0
  simp only [List.cons.injEq, and_true] at e0
  subst e0
  obtain ⟨y1, hy1⟩ := get_some (l := xs) (j := 1) (by rw [hxl]; decide)
  have h1 := hf 1 _ rfl
  rw [hy1] at h1
  replace h1 : DataW.trod enc Try.prog W base sp held m 22 (List.take (Try.prog.cellsOf 22) (List.drop 1 _)) = some y1 := h1
  rw [show Try.prog.cellsOf 22 = 1 from by kernel_rfl] at h1
  replace h1 : DataW.trod enc Try.prog W base sp held m 22 [c1] = some y1 := h1
  obtain ⟨a1, hr1⟩ := rdB_trod' enc W base sp held m _ y1 h1
  obtain ⟨x1, m1, d1, e1⟩ : ∃ x m d, c1 = .slice x m d := by obtain ⟨x, m, d, e, _⟩ := id hr1; simp only [List.cons.injEq, and_true] at e; exact ⟨x, m, d, e⟩
  subst e1
  exact ⟨⟨a0, a1⟩, x1, m1, d1, rfl, hr1⟩

theorem rdWrS_trod : RdT 44 RdWrS := rdS_trod Try.underlying44 (by kernel_rfl) (by omega) rdWr_trod rdWr_ok

theorem rdDev_trod : RdT 46 RdDev := by
  intro H enc W base sp held fuel cs x h
  obtain ⟨xs, m, _, _, hcl, hxl, hf⟩ := DataW.trod_struct Try.underlying46 h
  rw [show Try.prog.cellsOf 46 = 4 from by kernel_rfl] at hcl
  rcases cs with _ | ⟨c0, cs⟩
  · simp at hcl
  rcases cs with _ | ⟨c1, cs⟩
  · simp at hcl
  rcases cs with _ | ⟨c2, cs⟩
  · simp at hcl
  rcases cs with _ | ⟨c3, cs⟩
  · simp at hcl
  rcases cs with _ | ⟨c4, cs⟩
  rotate_left
  · simp at hcl
  obtain ⟨y0, hy0⟩ := get_some (l := xs) (j := 0) (by rw [hxl]; decide)
  have h0 := hf 0 _ rfl
  rw [hy0] at h0
  replace h0 : DataW.trod enc Try.prog W base sp held m 24 (List.take (Try.prog.cellsOf 24) (List.drop 0 _)) = some y0 := h0
  rw [show Try.prog.cellsOf 24 = 1 from by kernel_rfl] at h0
  replace h0 : DataW.trod enc Try.prog W base sp held m 24 [c0] = some y0 := h0
  obtain ⟨a0, hr0⟩ := rdByteSS_trod enc W base sp held m _ y0 h0
  obtain ⟨x0, m0, d0, e0⟩ : ∃ x m d, c0 = .slice x m d := by obtain ⟨x, m, d, e, _⟩ := id hr0; simp only [List.cons.injEq, and_true] at e; exact ⟨x, m, d, e⟩
  subst e0
  obtain ⟨y1, hy1⟩ := get_some (l := xs) (j := 1) (by rw [hxl]; decide)
  have h1 := hf 1 _ rfl
  rw [hy1] at h1
  replace h1 : DataW.trod enc Try.prog W base sp held m 44 (List.take (Try.prog.cellsOf 44) (List.drop 1 _)) = some y1 := h1
  rw [show Try.prog.cellsOf 44 = 1 from by kernel_rfl] at h1
  replace h1 : DataW.trod enc Try.prog W base sp held m 44 [c1] = some y1 := h1
  obtain ⟨a1, hr1⟩ := rdWrS_trod enc W base sp held m _ y1 h1
  obtain ⟨x1, m1, d1, e1⟩ : ∃ x m d, c1 = .slice x m d := by obtain ⟨x, m, d, e, _⟩ := id hr1; simp only [List.cons.injEq, and_true] at e; exact ⟨x, m, d, e⟩
  subst e1
  obtain ⟨y2, hy2⟩ := get_some (l := xs) (j := 2) (by rw [hxl]; decide)
  have h2 := hf 2 _ rfl
  rw [hy2] at h2
  replace h2 : DataW.trod enc Try.prog W base sp held m 3 (List.take (Try.prog.cellsOf 3) (List.drop 2 _)) = some y2 := h2
  rw [show Try.prog.cellsOf 3 = 1 from by kernel_rfl] at h2
  replace h2 : DataW.trod enc Try.prog W base sp held m 3 [c2] = some y2 := h2
  obtain ⟨a2, e2, _⟩ := DataW.trod_int Try.underlying3 h2
  simp only [List.cons.injEq, and_true] at e2
  subst e2
  obtain ⟨y3, hy3⟩ := get_some (l := xs) (j := 3) (by rw [hxl]; decide)
  have h3 := hf 3 _ rfl
  rw [hy3] at h3
  replace h3 : DataW.trod enc Try.prog W base sp held m 4 (List.take (Try.prog.cellsOf 4) (List.drop 3 _)) = some y3 := h3
  rw [show Try.prog.cellsOf 4 = 1 from by kernel_rfl] at h3
  replace h3 : DataW.trod enc Try.prog W base sp held m 4 [c3] = some y3 := h3
  obtain ⟨a3, e3, _⟩ := DataW.trod_bool Try.underlying4 h3
  simp only [List.cons.injEq, and_true] at e3
  subst e3
  exact ⟨⟨a0, a1, a2, a3⟩, x0, m0, d0, x1, m1, d1, rfl, hr0, hr1⟩

end Go.Proofs.Ytbeiocngiippgaa
