/- From the reading of a law's argument to the words of Deep: Cell, Row, RowS, Mark, MarkS, Tab. -/
import Derived.Test.YtlididoalekeoaaGreatDoorTrod
import Derived.Test.YtlididoalekeoaaGreatDoorDpCell
import Derived.Test.YtlididoalekeoaaGreatDoorDpRow
import Derived.Test.YtlididoalekeoaaGreatDoorDpRowS
import Derived.Test.YtlididoalekeoaaGreatDoorDpMark
import Derived.Test.YtlididoalekeoaaGreatDoorDpMarkS
import Derived.Test.YtlididoalekeoaaGreatDoorDpTab
namespace Go.Proofs.YtlididoalekeoaaGreatDoor
set_option maxRecDepth 4000
open Go.RowKit Go.ChangeShapes Go.WideShapes Go.ChangeAt

theorem rdB_trod' : RdT 60 RdB := rdB_trod Tryz.underlying60 Tryz.underlying5 (by kernel_rfl)

theorem rdCell_trod : RdT 94 RdCell := by
  intro H enc W base sp held fuel cs x h
  obtain ⟨xs, m, _, _, hcl, hxl, hf⟩ := DataW.trod_struct Tryz.underlying94 h
  rw [show Tryz.prog.cellsOf 94 = 2 from by kernel_rfl] at hcl
  rcases cs with _ | ⟨c0, cs⟩
  · simp at hcl
  rcases cs with _ | ⟨c1, cs⟩
  · simp at hcl
  rcases cs with _ | ⟨c2, cs⟩
  rotate_left
  · simp at hcl
  obtain ⟨y0, hy0⟩ := get_some (l := xs) (j := 0) (by rw [hxl]; decide)
  have h0 := hf 0 _ rfl
  rw [hy0] at h0
  replace h0 : DataW.trod enc Tryz.prog W base sp held m 3 (List.take (Tryz.prog.cellsOf 3) (List.drop 0 _)) = some y0 := h0
  rw [show Tryz.prog.cellsOf 3 = 1 from by kernel_rfl] at h0
  replace h0 : DataW.trod enc Tryz.prog W base sp held m 3 [c0] = some y0 := h0
  obtain ⟨a0, e0, _⟩ := DataW.trod_int Tryz.underlying3 h0
  simp only [List.cons.injEq, and_true] at e0
  subst e0
  obtain ⟨y1, hy1⟩ := get_some (l := xs) (j := 1) (by rw [hxl]; decide)
  have h1 := hf 1 _ rfl
  rw [hy1] at h1
  replace h1 : DataW.trod enc Tryz.prog W base sp held m 60 (List.take (Tryz.prog.cellsOf 60) (List.drop 1 _)) = some y1 := h1
  rw [show Tryz.prog.cellsOf 60 = 1 from by kernel_rfl] at h1
  replace h1 : DataW.trod enc Tryz.prog W base sp held m 60 [c1] = some y1 := h1
  obtain ⟨a1, hr1⟩ := rdB_trod' enc W base sp held m _ y1 h1
  obtain ⟨x1, m1, d1, e1⟩ : ∃ x m d, c1 = .slice x m d := by obtain ⟨x, m, d, e, _⟩ := id hr1; simp only [List.cons.injEq, and_true] at e; exact ⟨x, m, d, e⟩
  subst e1
  exact ⟨(⟨a0, a1⟩ : CellD), x1, m1, d1, rfl, hr1⟩

theorem rdRow_trod : RdT 96 RdRow := by
  intro H enc W base sp held fuel cs x h
  obtain ⟨xs, m, _, _, hcl, hxl, hf⟩ := DataW.trod_struct Tryz.underlying96 h
  rw [show Tryz.prog.cellsOf 96 = 7 from by kernel_rfl] at hcl
  rcases cs with _ | ⟨c0, cs⟩
  · simp at hcl
  rcases cs with _ | ⟨c1, cs⟩
  · simp at hcl
  rcases cs with _ | ⟨c2, cs⟩
  · simp at hcl
  rcases cs with _ | ⟨c3, cs⟩
  · simp at hcl
  rcases cs with _ | ⟨c4, cs⟩
  · simp at hcl
  rcases cs with _ | ⟨c5, cs⟩
  · simp at hcl
  rcases cs with _ | ⟨c6, cs⟩
  · simp at hcl
  rcases cs with _ | ⟨c7, cs⟩
  rotate_left
  · simp at hcl
  obtain ⟨y0, hy0⟩ := get_some (l := xs) (j := 0) (by rw [hxl]; decide)
  have h0 := hf 0 _ rfl
  rw [hy0] at h0
  replace h0 : DataW.trod enc Tryz.prog W base sp held m 9 (List.take (Tryz.prog.cellsOf 9) (List.drop 0 _)) = some y0 := h0
  rw [show Tryz.prog.cellsOf 9 = 1 from by kernel_rfl] at h0
  replace h0 : DataW.trod enc Tryz.prog W base sp held m 9 [c0] = some y0 := h0
  obtain ⟨a0, e0, _, hz0⟩ := DataW.trod_string Tryz.underlying9 h0
  simp only [List.cons.injEq, and_true] at e0
  subst e0
  obtain ⟨y1, hy1⟩ := get_some (l := xs) (j := 1) (by rw [hxl]; decide)
  have h1 := hf 1 _ rfl
  rw [hy1] at h1
  replace h1 : DataW.trod enc Tryz.prog W base sp held m 94 (List.take (Tryz.prog.cellsOf 94) (List.drop 1 _)) = some y1 := h1
  rw [show Tryz.prog.cellsOf 94 = 2 from by kernel_rfl] at h1
  replace h1 : DataW.trod enc Tryz.prog W base sp held m 94 [c1, c2] = some y1 := h1
  obtain ⟨⟨a1, a2⟩, hr1⟩ := rdCell_trod enc W base sp held m _ y1 h1
  have hq1 := hr1
  simp only [RdCell] at hq1
  obtain ⟨x2, m2, d2, e1, _⟩ := hq1
  simp only [List.cons.injEq, and_true] at e1
  obtain ⟨rfl, rfl⟩ := e1
  obtain ⟨y2, hy2⟩ := get_some (l := xs) (j := 2) (by rw [hxl]; decide)
  have h2 := hf 2 _ rfl
  rw [hy2] at h2
  replace h2 : DataW.trod enc Tryz.prog W base sp held m 94 (List.take (Tryz.prog.cellsOf 94) (List.drop 3 _)) = some y2 := h2
  rw [show Tryz.prog.cellsOf 94 = 2 from by kernel_rfl] at h2
  replace h2 : DataW.trod enc Tryz.prog W base sp held m 94 [c3, c4] = some y2 := h2
  obtain ⟨⟨a3, a4⟩, hr3⟩ := rdCell_trod enc W base sp held m _ y2 h2
  have hq3 := hr3
  simp only [RdCell] at hq3
  obtain ⟨x4, m4, d4, e2, _⟩ := hq3
  simp only [List.cons.injEq, and_true] at e2
  obtain ⟨rfl, rfl⟩ := e2
  obtain ⟨y3, hy3⟩ := get_some (l := xs) (j := 3) (by rw [hxl]; decide)
  have h3 := hf 3 _ rfl
  rw [hy3] at h3
  replace h3 : DataW.trod enc Tryz.prog W base sp held m 3 (List.take (Tryz.prog.cellsOf 3) (List.drop 5 _)) = some y3 := h3
  rw [show Tryz.prog.cellsOf 3 = 1 from by kernel_rfl] at h3
  replace h3 : DataW.trod enc Tryz.prog W base sp held m 3 [c5] = some y3 := h3
  obtain ⟨a5, e3, _⟩ := DataW.trod_int Tryz.underlying3 h3
  simp only [List.cons.injEq, and_true] at e3
  subst e3
  obtain ⟨y4, hy4⟩ := get_some (l := xs) (j := 4) (by rw [hxl]; decide)
  have h4 := hf 4 _ rfl
  rw [hy4] at h4
  replace h4 : DataW.trod enc Tryz.prog W base sp held m 4 (List.take (Tryz.prog.cellsOf 4) (List.drop 6 _)) = some y4 := h4
  rw [show Tryz.prog.cellsOf 4 = 1 from by kernel_rfl] at h4
  replace h4 : DataW.trod enc Tryz.prog W base sp held m 4 [c6] = some y4 := h4
  obtain ⟨a6, e4, _⟩ := DataW.trod_bool Tryz.underlying4 h4
  simp only [List.cons.injEq, and_true] at e4
  subst e4
  exact ⟨(⟨a0, a1, a2, a3, a4, a5, a6⟩ : RowD), x2, m2, d2, x4, m4, d4, rfl, hz0, hr1, hr3⟩

theorem rdRowS_trod : RdT 26 RdRowS := rdS_trod Tryz.underlying26 (by kernel_rfl) (by omega) rdRow_trod rdRow_ok

theorem rdMark_trod : RdT 106 RdMark := by
  intro H enc W base sp held fuel cs x h
  obtain ⟨xs, m, _, _, hcl, hxl, hf⟩ := DataW.trod_struct Tryz.underlying106 h
  rw [show Tryz.prog.cellsOf 106 = 3 from by kernel_rfl] at hcl
  rcases cs with _ | ⟨c0, cs⟩
  · simp at hcl
  rcases cs with _ | ⟨c1, cs⟩
  · simp at hcl
  rcases cs with _ | ⟨c2, cs⟩
  · simp at hcl
  rcases cs with _ | ⟨c3, cs⟩
  rotate_left
  · simp at hcl
  obtain ⟨y0, hy0⟩ := get_some (l := xs) (j := 0) (by rw [hxl]; decide)
  have h0 := hf 0 _ rfl
  rw [hy0] at h0
  replace h0 : DataW.trod enc Tryz.prog W base sp held m 3 (List.take (Tryz.prog.cellsOf 3) (List.drop 0 _)) = some y0 := h0
  rw [show Tryz.prog.cellsOf 3 = 1 from by kernel_rfl] at h0
  replace h0 : DataW.trod enc Tryz.prog W base sp held m 3 [c0] = some y0 := h0
  obtain ⟨a0, e0, _⟩ := DataW.trod_int Tryz.underlying3 h0
  simp only [List.cons.injEq, and_true] at e0
  subst e0
  obtain ⟨y1, hy1⟩ := get_some (l := xs) (j := 1) (by rw [hxl]; decide)
  have h1 := hf 1 _ rfl
  rw [hy1] at h1
  replace h1 : DataW.trod enc Tryz.prog W base sp held m 3 (List.take (Tryz.prog.cellsOf 3) (List.drop 1 _)) = some y1 := h1
  rw [show Tryz.prog.cellsOf 3 = 1 from by kernel_rfl] at h1
  replace h1 : DataW.trod enc Tryz.prog W base sp held m 3 [c1] = some y1 := h1
  obtain ⟨a1, e1, _⟩ := DataW.trod_int Tryz.underlying3 h1
  simp only [List.cons.injEq, and_true] at e1
  subst e1
  obtain ⟨y2, hy2⟩ := get_some (l := xs) (j := 2) (by rw [hxl]; decide)
  have h2 := hf 2 _ rfl
  rw [hy2] at h2
  replace h2 : DataW.trod enc Tryz.prog W base sp held m 3 (List.take (Tryz.prog.cellsOf 3) (List.drop 2 _)) = some y2 := h2
  rw [show Tryz.prog.cellsOf 3 = 1 from by kernel_rfl] at h2
  replace h2 : DataW.trod enc Tryz.prog W base sp held m 3 [c2] = some y2 := h2
  obtain ⟨a2, e2, _⟩ := DataW.trod_int Tryz.underlying3 h2
  simp only [List.cons.injEq, and_true] at e2
  subst e2
  exact ⟨(⟨a0, a1, a2⟩ : MarkD), rfl⟩

theorem rdMarkS_trod : RdT 27 RdMarkS := rdS_trod Tryz.underlying27 (by kernel_rfl) (by omega) rdMark_trod rdMark_ok

theorem rdTab_trod : RdT 29 RdTab := by
  intro H enc W base sp held fuel cs x h
  obtain ⟨xs, m, _, _, hcl, hxl, hf⟩ := DataW.trod_struct Tryz.underlying29 h
  rw [show Tryz.prog.cellsOf 29 = 3 from by kernel_rfl] at hcl
  rcases cs with _ | ⟨c0, cs⟩
  · simp at hcl
  rcases cs with _ | ⟨c1, cs⟩
  · simp at hcl
  rcases cs with _ | ⟨c2, cs⟩
  · simp at hcl
  rcases cs with _ | ⟨c3, cs⟩
  rotate_left
  · simp at hcl
  obtain ⟨y0, hy0⟩ := get_some (l := xs) (j := 0) (by rw [hxl]; decide)
  have h0 := hf 0 _ rfl
  rw [hy0] at h0
  replace h0 : DataW.trod enc Tryz.prog W base sp held m 26 (List.take (Tryz.prog.cellsOf 26) (List.drop 0 _)) = some y0 := h0
  rw [show Tryz.prog.cellsOf 26 = 1 from by kernel_rfl] at h0
  replace h0 : DataW.trod enc Tryz.prog W base sp held m 26 [c0] = some y0 := h0
  obtain ⟨a0, hr0⟩ := rdRowS_trod enc W base sp held m _ y0 h0
  obtain ⟨x0, m0, d0, e0⟩ : ∃ x m d, c0 = .slice x m d := by obtain ⟨x, m, d, e, _⟩ := id hr0; simp only [List.cons.injEq, and_true] at e; exact ⟨x, m, d, e⟩
  subst e0
  obtain ⟨y1, hy1⟩ := get_some (l := xs) (j := 1) (by rw [hxl]; decide)
  have h1 := hf 1 _ rfl
  rw [hy1] at h1
  replace h1 : DataW.trod enc Tryz.prog W base sp held m 3 (List.take (Tryz.prog.cellsOf 3) (List.drop 1 _)) = some y1 := h1
  rw [show Tryz.prog.cellsOf 3 = 1 from by kernel_rfl] at h1
  replace h1 : DataW.trod enc Tryz.prog W base sp held m 3 [c1] = some y1 := h1
  obtain ⟨a1, e1, _⟩ := DataW.trod_int Tryz.underlying3 h1
  simp only [List.cons.injEq, and_true] at e1
  subst e1
  obtain ⟨y2, hy2⟩ := get_some (l := xs) (j := 2) (by rw [hxl]; decide)
  have h2 := hf 2 _ rfl
  rw [hy2] at h2
  replace h2 : DataW.trod enc Tryz.prog W base sp held m 27 (List.take (Tryz.prog.cellsOf 27) (List.drop 2 _)) = some y2 := h2
  rw [show Tryz.prog.cellsOf 27 = 1 from by kernel_rfl] at h2
  replace h2 : DataW.trod enc Tryz.prog W base sp held m 27 [c2] = some y2 := h2
  obtain ⟨a2, hr2⟩ := rdMarkS_trod enc W base sp held m _ y2 h2
  obtain ⟨x2, m2, d2, e2⟩ : ∃ x m d, c2 = .slice x m d := by obtain ⟨x, m, d, e, _⟩ := id hr2; simp only [List.cons.injEq, and_true] at e; exact ⟨x, m, d, e⟩
  subst e2
  exact ⟨(⟨a0, a1, a2⟩ : TabD), x0, m0, d0, x2, m2, d2, rfl, hr0, hr2⟩

end Go.Proofs.YtlididoalekeoaaGreatDoor
