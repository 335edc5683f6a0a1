/- From the reading of a law's argument to the words of Deep: a Dev, a Store. -/
import Derived.Test.YtlididoalekeoaaGreatDoorTrodTab
import Derived.Test.YtlididoalekeoaaGreatDoorDpStore
namespace Go.Proofs.YtlididoalekeoaaGreatDoor
set_option maxRecDepth 4000
open Go.RowKit Go.ChangeShapes Go.WideShapes Go.ChangeAt

theorem rdByteSS_trod : RdT 22 RdByteSS := rdS_trod Tryz.underlying22 (by kernel_rfl) (by omega) rdB_trod' rdB_ok

theorem rdWr_trod : RdT 92 RdWr := by
  intro H enc W base sp held fuel cs x h
  obtain ⟨xs, m, _, _, hcl, hxl, hf⟩ := DataW.trod_struct Tryz.underlying92 h
  rw [show Tryz.prog.cellsOf 92 = 2 from by kernel_rfl] at hcl
  rcases cs with _ | ⟨c0, cs⟩
  · simp at hcl
  rcases cs with _ | ⟨c1, cs⟩
  · simp at hcl
  rcases cs with _ | ⟨c2, cs⟩
  rotate_left
  · simp at hcl
  obtain ⟨y0, hy0⟩ := get_some (l := xs) (j := 0) (by rw [hxl]; decide)
  have h0 := hf 0 _ rfl
  rw [hy0] at h0
  replace h0 : DataW.trod enc Tryz.prog W base sp held m 3 (List.take (Tryz.prog.cellsOf 3) (List.drop 0 _)) = some y0 := h0
  rw [show Tryz.prog.cellsOf 3 = 1 from by kernel_rfl] at h0
  replace h0 : DataW.trod enc Tryz.prog W base sp held m 3 [c0] = some y0 := h0
  obtain ⟨a0, e0, _⟩ := DataW.trod_int Tryz.underlying3 h0
  simp only [List.cons.injEq, and_true] at e0
  subst e0
  obtain ⟨y1, hy1⟩ := get_some (l := xs) (j := 1) (by rw [hxl]; decide)
  have h1 := hf 1 _ rfl
  rw [hy1] at h1
  replace h1 : DataW.trod enc Tryz.prog W base sp held m 60 (List.take (Tryz.prog.cellsOf 60) (List.drop 1 _)) = some y1 := h1
  rw [show Tryz.prog.cellsOf 60 = 1 from by kernel_rfl] at h1
  replace h1 : DataW.trod enc Tryz.prog W base sp held m 60 [c1] = some y1 := h1
  obtain ⟨a1, hr1⟩ := rdB_trod' enc W base sp held m _ y1 h1
  obtain ⟨x1, m1, d1, e1⟩ : ∃ x m d, c1 = .slice x m d := by obtain ⟨x, m, d, e, _⟩ := id hr1; simp only [List.cons.injEq, and_true] at e; exact ⟨x, m, d, e⟩
  subst e1
  exact ⟨⟨a0, a1⟩, x1, m1, d1, rfl, hr1⟩

theorem rdWrS_trod : RdT 23 RdWrS := rdS_trod Tryz.underlying23 (by kernel_rfl) (by omega) rdWr_trod rdWr_ok

theorem rdDev_trod : RdT 25 RdDev := by
  intro H enc W base sp held fuel cs x h
  obtain ⟨xs, m, _, _, hcl, hxl, hf⟩ := DataW.trod_struct Tryz.underlying25 h
  rw [show Tryz.prog.cellsOf 25 = 4 from by kernel_rfl] at hcl
  rcases cs with _ | ⟨c0, cs⟩
  · simp at hcl
  rcases cs with _ | ⟨c1, cs⟩
  · simp at hcl
  rcases cs with _ | ⟨c2, cs⟩
  · simp at hcl
  rcases cs with _ | ⟨c3, cs⟩
  · simp at hcl
  rcases cs with _ | ⟨c4, cs⟩
  rotate_left
  · simp at hcl
  obtain ⟨y0, hy0⟩ := get_some (l := xs) (j := 0) (by rw [hxl]; decide)
  have h0 := hf 0 _ rfl
  rw [hy0] at h0
  replace h0 : DataW.trod enc Tryz.prog W base sp held m 22 (List.take (Tryz.prog.cellsOf 22) (List.drop 0 _)) = some y0 := h0
  rw [show Tryz.prog.cellsOf 22 = 1 from by kernel_rfl] at h0
  replace h0 : DataW.trod enc Tryz.prog W base sp held m 22 [c0] = some y0 := h0
  obtain ⟨a0, hr0⟩ := rdByteSS_trod enc W base sp held m _ y0 h0
  obtain ⟨x0, m0, d0, e0⟩ : ∃ x m d, c0 = .slice x m d := by obtain ⟨x, m, d, e, _⟩ := id hr0; simp only [List.cons.injEq, and_true] at e; exact ⟨x, m, d, e⟩
  subst e0
  obtain ⟨y1, hy1⟩ := get_some (l := xs) (j := 1) (by rw [hxl]; decide)
  have h1 := hf 1 _ rfl
  rw [hy1] at h1
  replace h1 : DataW.trod enc Tryz.prog W base sp held m 23 (List.take (Tryz.prog.cellsOf 23) (List.drop 1 _)) = some y1 := h1
  rw [show Tryz.prog.cellsOf 23 = 1 from by kernel_rfl] at h1
  replace h1 : DataW.trod enc Tryz.prog W base sp held m 23 [c1] = some y1 := h1
  obtain ⟨a1, hr1⟩ := rdWrS_trod enc W base sp held m _ y1 h1
  obtain ⟨x1, m1, d1, e1⟩ : ∃ x m d, c1 = .slice x m d := by obtain ⟨x, m, d, e, _⟩ := id hr1; simp only [List.cons.injEq, and_true] at e; exact ⟨x, m, d, e⟩
  subst e1
  obtain ⟨y2, hy2⟩ := get_some (l := xs) (j := 2) (by rw [hxl]; decide)
  have h2 := hf 2 _ rfl
  rw [hy2] at h2
  replace h2 : DataW.trod enc Tryz.prog W base sp held m 3 (List.take (Tryz.prog.cellsOf 3) (List.drop 2 _)) = some y2 := h2
  rw [show Tryz.prog.cellsOf 3 = 1 from by kernel_rfl] at h2
  replace h2 : DataW.trod enc Tryz.prog W base sp held m 3 [c2] = some y2 := h2
  obtain ⟨a2, e2, _⟩ := DataW.trod_int Tryz.underlying3 h2
  simp only [List.cons.injEq, and_true] at e2
  subst e2
  obtain ⟨y3, hy3⟩ := get_some (l := xs) (j := 3) (by rw [hxl]; decide)
  have h3 := hf 3 _ rfl
  rw [hy3] at h3
  replace h3 : DataW.trod enc Tryz.prog W base sp held m 4 (List.take (Tryz.prog.cellsOf 4) (List.drop 3 _)) = some y3 := h3
  rw [show Tryz.prog.cellsOf 4 = 1 from by kernel_rfl] at h3
  replace h3 : DataW.trod enc Tryz.prog W base sp held m 4 [c3] = some y3 := h3
  obtain ⟨a3, e3, _⟩ := DataW.trod_bool Tryz.underlying4 h3
  simp only [List.cons.injEq, and_true] at e3
  subst e3
  exact ⟨⟨a0, a1, a2, a3⟩, x0, m0, d0, x1, m1, d1, rfl, hr0, hr1⟩

theorem rdStore_trod : RdT 31 RdStore := by
  intro H enc W base sp held fuel cs x h
  obtain ⟨xs, m, _, _, hcl, hxl, hf⟩ := DataW.trod_struct Tryz.underlying31 h
  rw [show Tryz.prog.cellsOf 31 = 9 from by kernel_rfl] at hcl
  rcases cs with _ | ⟨c0, cs⟩
  · simp at hcl
  rcases cs with _ | ⟨c1, cs⟩
  · simp at hcl
  rcases cs with _ | ⟨c2, cs⟩
  · simp at hcl
  rcases cs with _ | ⟨c3, cs⟩
  · simp at hcl
  rcases cs with _ | ⟨c4, cs⟩
  · simp at hcl
  rcases cs with _ | ⟨c5, cs⟩
  · simp at hcl
  rcases cs with _ | ⟨c6, cs⟩
  · simp at hcl
  rcases cs with _ | ⟨c7, cs⟩
  · simp at hcl
  rcases cs with _ | ⟨c8, cs⟩
  · simp at hcl
  rcases cs with _ | ⟨c9, cs⟩
  rotate_left
  · simp at hcl
  obtain ⟨y0, hy0⟩ := get_some (l := xs) (j := 0) (by rw [hxl]; decide)
  have h0 := hf 0 _ rfl
  rw [hy0] at h0
  replace h0 : DataW.trod enc Tryz.prog W base sp held m 25 (List.take (Tryz.prog.cellsOf 25) (List.drop 0 _)) = some y0 := h0
  rw [show Tryz.prog.cellsOf 25 = 4 from by kernel_rfl] at h0
  replace h0 : DataW.trod enc Tryz.prog W base sp held m 25 [c0, c1, c2, c3] = some y0 := h0
  obtain ⟨⟨a0, a1, a2, a3⟩, hr0⟩ := rdDev_trod enc W base sp held m _ y0 h0
  have hq0 := hr0
  simp only [RdDev] at hq0
  obtain ⟨x0, m0, d0, x1, m1, d1, e0, _⟩ := hq0
  simp only [List.cons.injEq, and_true] at e0
  obtain ⟨rfl, rfl, rfl, rfl⟩ := e0
  obtain ⟨y1, hy1⟩ := get_some (l := xs) (j := 1) (by rw [hxl]; decide)
  have h1 := hf 1 _ rfl
  rw [hy1] at h1
  replace h1 : DataW.trod enc Tryz.prog W base sp held m 29 (List.take (Tryz.prog.cellsOf 29) (List.drop 4 _)) = some y1 := h1
  rw [show Tryz.prog.cellsOf 29 = 3 from by kernel_rfl] at h1
  replace h1 : DataW.trod enc Tryz.prog W base sp held m 29 [c4, c5, c6] = some y1 := h1
  obtain ⟨⟨a4, a5, a6⟩, hr4⟩ := rdTab_trod enc W base sp held m _ y1 h1
  have hq4 := hr4
  simp only [RdTab] at hq4
  obtain ⟨x4, m4, d4, x6, m6, d6, e1, _⟩ := hq4
  simp only [List.cons.injEq, and_true] at e1
  obtain ⟨rfl, rfl, rfl⟩ := e1
  obtain ⟨y2, hy2⟩ := get_some (l := xs) (j := 2) (by rw [hxl]; decide)
  have h2 := hf 2 _ rfl
  rw [hy2] at h2
  replace h2 : DataW.trod enc Tryz.prog W base sp held m 3 (List.take (Tryz.prog.cellsOf 3) (List.drop 7 _)) = some y2 := h2
  rw [show Tryz.prog.cellsOf 3 = 1 from by kernel_rfl] at h2
  replace h2 : DataW.trod enc Tryz.prog W base sp held m 3 [c7] = some y2 := h2
  obtain ⟨a7, e2, _⟩ := DataW.trod_int Tryz.underlying3 h2
  simp only [List.cons.injEq, and_true] at e2
  subst e2
  obtain ⟨y3, hy3⟩ := get_some (l := xs) (j := 3) (by rw [hxl]; decide)
  have h3 := hf 3 _ rfl
  rw [hy3] at h3
  replace h3 : DataW.trod enc Tryz.prog W base sp held m 3 (List.take (Tryz.prog.cellsOf 3) (List.drop 8 _)) = some y3 := h3
  rw [show Tryz.prog.cellsOf 3 = 1 from by kernel_rfl] at h3
  replace h3 : DataW.trod enc Tryz.prog W base sp held m 3 [c8] = some y3 := h3
  obtain ⟨a8, e3, _⟩ := DataW.trod_int Tryz.underlying3 h3
  simp only [List.cons.injEq, and_true] at e3
  subst e3
  exact ⟨(⟨(⟨a0, a1, a2, a3⟩ : DevD), (⟨a4, a5, a6⟩ : TabD), a7, a8⟩ : StoreD), x0, m0, d0, x1, m1, d1, x4, m4, d4, x6, m6, d6, rfl, hr0, hr4⟩

end Go.Proofs.YtlididoalekeoaaGreatDoor
