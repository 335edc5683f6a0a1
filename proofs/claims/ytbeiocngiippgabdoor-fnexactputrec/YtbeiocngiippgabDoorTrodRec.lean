/- From the reading of a law's argument to the words of Deep: Cell, Row, Rec. -/
import Derived.Test.YtbeiocngiippgabDoorTrod
import Derived.Test.YtbeiocngiippgabDoorDpCell
import Derived.Test.YtbeiocngiippgabDoorDpRow
import Derived.Test.YtbeiocngiippgabDoorDpRec
namespace Go.Proofs.YtbeiocngiippgabDoor
set_option maxRecDepth 4000
open Go.RowKit Go.ChangeShapes Go.WideShapes Go.ChangeAt

theorem rdB_trod' : RdT 22 RdB := rdB_trod Tryd.underlying22 Tryd.underlying5 (by kernel_rfl)

theorem rdCell_trod : RdT 24 RdCell := by
  intro H enc W base sp held fuel cs x h
  obtain ⟨xs, m, _, _, hcl, hxl, hf⟩ := DataW.trod_struct Tryd.underlying24 h
  rw [show Tryd.prog.cellsOf 24 = 2 from by kernel_rfl] at hcl
  rcases cs with _ | ⟨c0, cs⟩
  · simp at hcl
  rcases cs with _ | ⟨c1, cs⟩
  · simp at hcl
  rcases cs with _ | ⟨c2, cs⟩
  rotate_left
  · simp at hcl
  obtain ⟨y0, hy0⟩ := get_some (l := xs) (j := 0) (by rw [hxl]; decide)
  have h0 := hf 0 _ rfl
  rw [hy0] at h0
  replace h0 : DataW.trod enc Tryd.prog W base sp held m 3 (List.take (Tryd.prog.cellsOf 3) (List.drop 0 _)) = some y0 := h0
  rw [show Tryd.prog.cellsOf 3 = 1 from by kernel_rfl] at h0
  replace h0 : DataW.trod enc Tryd.prog W base sp held m 3 [c0] = some y0 := h0
  obtain ⟨a0, e0, _⟩ := DataW.trod_int Tryd.underlying3 h0
  simp only [List.cons.injEq, and_true] at e0
  subst e0
  obtain ⟨y1, hy1⟩ := get_some (l := xs) (j := 1) (by rw [hxl]; decide)
  have h1 := hf 1 _ rfl
  rw [hy1] at h1
  replace h1 : DataW.trod enc Tryd.prog W base sp held m 22 (List.take (Tryd.prog.cellsOf 22) (List.drop 1 _)) = some y1 := h1
  rw [show Tryd.prog.cellsOf 22 = 1 from by kernel_rfl] at h1
  replace h1 : DataW.trod enc Tryd.prog W base sp held m 22 [c1] = some y1 := h1
  obtain ⟨a1, hr1⟩ := rdB_trod' enc W base sp held m _ y1 h1
  obtain ⟨x1, m1, d1, e1⟩ : ∃ x m d, c1 = .slice x m d := by obtain ⟨x, m, d, e, _⟩ := id hr1; simp only [List.cons.injEq, and_true] at e; exact ⟨x, m, d, e⟩
  subst e1
  exact ⟨(⟨a0, a1⟩ : CellD), x1, m1, d1, rfl, hr1⟩

theorem rdRow_trod : RdT 26 RdRow := by
  intro H enc W base sp held fuel cs x h
  obtain ⟨xs, m, _, _, hcl, hxl, hf⟩ := DataW.trod_struct Tryd.underlying26 h
  rw [show Tryd.prog.cellsOf 26 = 7 from by kernel_rfl] at hcl
  rcases cs with _ | ⟨c0, cs⟩
  · simp at hcl
  rcases cs with _ | ⟨c1, cs⟩
  · simp at hcl
  rcases cs with _ | ⟨c2, cs⟩
  · simp at hcl
  rcases cs with _ | ⟨c3, cs⟩
  · simp at hcl
  rcases cs with _ | ⟨c4, cs⟩
  · simp at hcl
  rcases cs with _ | ⟨c5, cs⟩
  · simp at hcl
  rcases cs with _ | ⟨c6, cs⟩
  · simp at hcl
  rcases cs with _ | ⟨c7, cs⟩
  rotate_left
  · simp at hcl
  obtain ⟨y0, hy0⟩ := get_some (l := xs) (j := 0) (by rw [hxl]; decide)
  have h0 := hf 0 _ rfl
  rw [hy0] at h0
  replace h0 : DataW.trod enc Tryd.prog W base sp held m 9 (List.take (Tryd.prog.cellsOf 9) (List.drop 0 _)) = some y0 := h0
  rw [show Tryd.prog.cellsOf 9 = 1 from by kernel_rfl] at h0
  replace h0 : DataW.trod enc Tryd.prog W base sp held m 9 [c0] = some y0 := h0
  obtain ⟨a0, e0, _, hz0⟩ := DataW.trod_string Tryd.underlying9 h0
  simp only [List.cons.injEq, and_true] at e0
  subst e0
  obtain ⟨y1, hy1⟩ := get_some (l := xs) (j := 1) (by rw [hxl]; decide)
  have h1 := hf 1 _ rfl
  rw [hy1] at h1
  replace h1 : DataW.trod enc Tryd.prog W base sp held m 24 (List.take (Tryd.prog.cellsOf 24) (List.drop 1 _)) = some y1 := h1
  rw [show Tryd.prog.cellsOf 24 = 2 from by kernel_rfl] at h1
  replace h1 : DataW.trod enc Tryd.prog W base sp held m 24 [c1, c2] = some y1 := h1
  obtain ⟨⟨a1, a2⟩, hr1⟩ := rdCell_trod enc W base sp held m _ y1 h1
  have hq1 := hr1
  simp only [RdCell] at hq1
  obtain ⟨x2, m2, d2, e1, _⟩ := hq1
  simp only [List.cons.injEq, and_true] at e1
  obtain ⟨rfl, rfl⟩ := e1
  obtain ⟨y2, hy2⟩ := get_some (l := xs) (j := 2) (by rw [hxl]; decide)
  have h2 := hf 2 _ rfl
  rw [hy2] at h2
  replace h2 : DataW.trod enc Tryd.prog W base sp held m 24 (List.take (Tryd.prog.cellsOf 24) (List.drop 3 _)) = some y2 := h2
  rw [show Tryd.prog.cellsOf 24 = 2 from by kernel_rfl] at h2
  replace h2 : DataW.trod enc Tryd.prog W base sp held m 24 [c3, c4] = some y2 := h2
  obtain ⟨⟨a3, a4⟩, hr3⟩ := rdCell_trod enc W base sp held m _ y2 h2
  have hq3 := hr3
  simp only [RdCell] at hq3
  obtain ⟨x4, m4, d4, e2, _⟩ := hq3
  simp only [List.cons.injEq, and_true] at e2
  obtain ⟨rfl, rfl⟩ := e2
  obtain ⟨y3, hy3⟩ := get_some (l := xs) (j := 3) (by rw [hxl]; decide)
  have h3 := hf 3 _ rfl
  rw [hy3] at h3
  replace h3 : DataW.trod enc Tryd.prog W base sp held m 3 (List.take (Tryd.prog.cellsOf 3) (List.drop 5 _)) = some y3 := h3
  rw [show Tryd.prog.cellsOf 3 = 1 from by kernel_rfl] at h3
  replace h3 : DataW.trod enc Tryd.prog W base sp held m 3 [c5] = some y3 := h3
  obtain ⟨a5, e3, _⟩ := DataW.trod_int Tryd.underlying3 h3
  simp only [List.cons.injEq, and_true] at e3
  subst e3
  obtain ⟨y4, hy4⟩ := get_some (l := xs) (j := 4) (by rw [hxl]; decide)
  have h4 := hf 4 _ rfl
  rw [hy4] at h4
  replace h4 : DataW.trod enc Tryd.prog W base sp held m 4 (List.take (Tryd.prog.cellsOf 4) (List.drop 6 _)) = some y4 := h4
  rw [show Tryd.prog.cellsOf 4 = 1 from by kernel_rfl] at h4
  replace h4 : DataW.trod enc Tryd.prog W base sp held m 4 [c6] = some y4 := h4
  obtain ⟨a6, e4, _⟩ := DataW.trod_bool Tryd.underlying4 h4
  simp only [List.cons.injEq, and_true] at e4
  subst e4
  exact ⟨(⟨a0, a1, a2, a3, a4, a5, a6⟩ : RowD), x2, m2, d2, x4, m4, d4, rfl, hz0, hr1, hr3⟩

theorem rdRec_trod : RdT 43 RdRec := by
  intro H enc W base sp held fuel cs x h
  obtain ⟨xs, m, _, _, hcl, hxl, hf⟩ := DataW.trod_struct Tryd.underlying43 h
  rw [show Tryd.prog.cellsOf 43 = 13 from by kernel_rfl] at hcl
  rcases cs with _ | ⟨c0, cs⟩
  · simp at hcl
  rcases cs with _ | ⟨c1, cs⟩
  · simp at hcl
  rcases cs with _ | ⟨c2, cs⟩
  · simp at hcl
  rcases cs with _ | ⟨c3, cs⟩
  · simp at hcl
  rcases cs with _ | ⟨c4, cs⟩
  · simp at hcl
  rcases cs with _ | ⟨c5, cs⟩
  · simp at hcl
  rcases cs with _ | ⟨c6, cs⟩
  · simp at hcl
  rcases cs with _ | ⟨c7, cs⟩
  · simp at hcl
  rcases cs with _ | ⟨c8, cs⟩
  · simp at hcl
  rcases cs with _ | ⟨c9, cs⟩
  · simp at hcl
  rcases cs with _ | ⟨c10, cs⟩
  · simp at hcl
  rcases cs with _ | ⟨c11, cs⟩
  · simp at hcl
  rcases cs with _ | ⟨c12, cs⟩
  · simp at hcl
  rcases cs with _ | ⟨c13, cs⟩
  rotate_left
  · simp at hcl
  obtain ⟨y0, hy0⟩ := get_some (l := xs) (j := 0) (by rw [hxl]; decide)
  have h0 := hf 0 _ rfl
  rw [hy0] at h0
  replace h0 : DataW.trod enc Tryd.prog W base sp held m 3 (List.take (Tryd.prog.cellsOf 3) (List.drop 0 _)) = some y0 := h0
  rw [show Tryd.prog.cellsOf 3 = 1 from by kernel_rfl] at h0
  replace h0 : DataW.trod enc Tryd.prog W base sp held m 3 [c0] = some y0 := h0
  obtain ⟨a0, e0, _⟩ := DataW.trod_int Tryd.underlying3 h0
  simp only [List.cons.injEq, and_true] at e0
  subst e0
  obtain ⟨y1, hy1⟩ := get_some (l := xs) (j := 1) (by rw [hxl]; decide)
  have h1 := hf 1 _ rfl
  rw [hy1] at h1
  replace h1 : DataW.trod enc Tryd.prog W base sp held m 26 (List.take (Tryd.prog.cellsOf 26) (List.drop 1 _)) = some y1 := h1
  rw [show Tryd.prog.cellsOf 26 = 7 from by kernel_rfl] at h1
  replace h1 : DataW.trod enc Tryd.prog W base sp held m 26 [c1, c2, c3, c4, c5, c6, c7] = some y1 := h1
  obtain ⟨⟨a1, a2, a3, a4, a5, a6, a7⟩, hr1⟩ := rdRow_trod enc W base sp held m _ y1 h1
  have hq1 := hr1
  simp only [RdRow] at hq1
  obtain ⟨x3, m3, d3, x5, m5, d5, e1, _⟩ := hq1
  simp only [List.cons.injEq, and_true] at e1
  obtain ⟨rfl, rfl, rfl, rfl, rfl, rfl, rfl⟩ := e1
  obtain ⟨y2, hy2⟩ := get_some (l := xs) (j := 2) (by rw [hxl]; decide)
  have h2 := hf 2 _ rfl
  rw [hy2] at h2
  replace h2 : DataW.trod enc Tryd.prog W base sp held m 9 (List.take (Tryd.prog.cellsOf 9) (List.drop 8 _)) = some y2 := h2
  rw [show Tryd.prog.cellsOf 9 = 1 from by kernel_rfl] at h2
  replace h2 : DataW.trod enc Tryd.prog W base sp held m 9 [c8] = some y2 := h2
  obtain ⟨a8, e2, _, hz8⟩ := DataW.trod_string Tryd.underlying9 h2
  simp only [List.cons.injEq, and_true] at e2
  subst e2
  obtain ⟨y3, hy3⟩ := get_some (l := xs) (j := 3) (by rw [hxl]; decide)
  have h3 := hf 3 _ rfl
  rw [hy3] at h3
  replace h3 : DataW.trod enc Tryd.prog W base sp held m 3 (List.take (Tryd.prog.cellsOf 3) (List.drop 9 _)) = some y3 := h3
  rw [show Tryd.prog.cellsOf 3 = 1 from by kernel_rfl] at h3
  replace h3 : DataW.trod enc Tryd.prog W base sp held m 3 [c9] = some y3 := h3
  obtain ⟨a9, e3, _⟩ := DataW.trod_int Tryd.underlying3 h3
  simp only [List.cons.injEq, and_true] at e3
  subst e3
  obtain ⟨y4, hy4⟩ := get_some (l := xs) (j := 4) (by rw [hxl]; decide)
  have h4 := hf 4 _ rfl
  rw [hy4] at h4
  replace h4 : DataW.trod enc Tryd.prog W base sp held m 3 (List.take (Tryd.prog.cellsOf 3) (List.drop 10 _)) = some y4 := h4
  rw [show Tryd.prog.cellsOf 3 = 1 from by kernel_rfl] at h4
  replace h4 : DataW.trod enc Tryd.prog W base sp held m 3 [c10] = some y4 := h4
  obtain ⟨a10, e4, _⟩ := DataW.trod_int Tryd.underlying3 h4
  simp only [List.cons.injEq, and_true] at e4
  subst e4
  obtain ⟨y5, hy5⟩ := get_some (l := xs) (j := 5) (by rw [hxl]; decide)
  have h5 := hf 5 _ rfl
  rw [hy5] at h5
  replace h5 : DataW.trod enc Tryd.prog W base sp held m 3 (List.take (Tryd.prog.cellsOf 3) (List.drop 11 _)) = some y5 := h5
  rw [show Tryd.prog.cellsOf 3 = 1 from by kernel_rfl] at h5
  replace h5 : DataW.trod enc Tryd.prog W base sp held m 3 [c11] = some y5 := h5
  obtain ⟨a11, e5, _⟩ := DataW.trod_int Tryd.underlying3 h5
  simp only [List.cons.injEq, and_true] at e5
  subst e5
  obtain ⟨y6, hy6⟩ := get_some (l := xs) (j := 6) (by rw [hxl]; decide)
  have h6 := hf 6 _ rfl
  rw [hy6] at h6
  replace h6 : DataW.trod enc Tryd.prog W base sp held m 3 (List.take (Tryd.prog.cellsOf 3) (List.drop 12 _)) = some y6 := h6
  rw [show Tryd.prog.cellsOf 3 = 1 from by kernel_rfl] at h6
  replace h6 : DataW.trod enc Tryd.prog W base sp held m 3 [c12] = some y6 := h6
  obtain ⟨a12, e6, _⟩ := DataW.trod_int Tryd.underlying3 h6
  simp only [List.cons.injEq, and_true] at e6
  subst e6
  exact ⟨(⟨a0, (⟨a1, a2, a3, a4, a5, a6, a7⟩ : RowD), a8, a9, a10, a11, a12⟩ : RecD), x3, m3, d3, x5, m5, d5, rfl, hz8, hr1⟩

end Go.Proofs.YtbeiocngiippgabDoor
