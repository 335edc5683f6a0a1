/- Contracts of the specification's ByteSign. -/
import Derived.Test.YtgefabagpcjegaaDoorCommon
import Derived.Test.YtgefabagpcjegaaDoorSets
namespace Go.Proofs.YtgefabagpcjegaaDoor
set_option maxRecDepth 4000
open Go.RowKit


set_option maxHeartbeats 400000 in
theorem l3Nine_any (b : Int) (w : World) :
    Calls Tryd.prog 80 #[.int .i64 b] w fun e w' => e = .returned (.int .i64 (nineB b)) ∧ w' = w := by
  rcases (show b = 164 ∨ b = 166 ∨ b = 168 ∨ b = 180 ∨ b = 184 ∨ b = 188 ∨ b = 189 ∨ b = 190 ∨ (b ≠ 164 ∧ b ≠ 166 ∧ b ≠ 168 ∧ b ≠ 180 ∧ b ≠ 184 ∧ b ≠ 188 ∧ b ≠ 189 ∧ b ≠ 190) from by omega) with rfl | rfl | rfl | rfl | rfl | rfl | rfl | rfl | ⟨h1, h2, h3, h4, h5, h6, h7, h8⟩
  iterate 8
    · go_enter Tryd.func80, Tryd.ntmps80
      go_wp2_with fail
      go_ret
      exact ⟨ret_int (by decide), rfl⟩
  · have e0 : Hd (b = nineB b) := ⟨by unfold nineB; simp [h1, h2, h3, h4, h5, h6, h7, h8]⟩
    go_enter Tryd.func80, Tryd.ntmps80
    go_wp2_with fail
    go_ret
    exact ⟨ret_int e0.out, rfl⟩


set_option maxHeartbeats 1000000 in
theorem l3Koi_any (b : Int) (w : World) (h1 : 128 ≤ b) (h2 : b ≤ 255) :
    Calls Tryd.prog 81 #[.int .i64 b] w fun e w' => e = .returned (.int .i64 (koiB b)) ∧ Below w.heap.size w w' := by
  rcases (show 224 ≤ b ∨ (192 ≤ b ∧ b < 224) ∨ b = 163 ∨ b = 179 ∨ (b < 192 ∧ b ≠ 163 ∧ b ≠ 179) from by omega) with h | ⟨h, hb⟩ | h | h | ⟨h, ha, hb⟩
  · have hc : (w.alloc (.cells #[.int .i64 1102, .int .i64 1072, .int .i64 1073, .int .i64 1094, .int .i64 1076, .int .i64 1077, .int .i64 1092, .int .i64 1075, .int .i64 1093, .int .i64 1080, .int .i64 1081, .int .i64 1082, .int .i64 1083, .int .i64 1084, .int .i64 1085, .int .i64 1086, .int .i64 1087, .int .i64 1103, .int .i64 1088, .int .i64 1089, .int .i64 1090, .int .i64 1091, .int .i64 1078, .int .i64 1074, .int .i64 1100, .int .i64 1099, .int .i64 1079, .int .i64 1096, .int .i64 1101, .int .i64 1097, .int .i64 1095, .int .i64 1098] 3)).cell? ⟨w.heap.size, (b - 224).toNat, none⟩ = some (.int .i64 (koiT.getD (b - 224).toNat 0)) := lit_ints w koiT _ _ (show _ < 32 from by omega)
    have hf := koi_fit (b - 224).toNat (by omega)
    have e0 : Hd (koiT.getD (b - 224).toNat 0 - 32 = koiB b) := ⟨(koi_up h).symm⟩
    have hB := Hd.mk (below_lit w (.cells #[.int .i64 1102, .int .i64 1072, .int .i64 1073, .int .i64 1094, .int .i64 1076, .int .i64 1077, .int .i64 1092, .int .i64 1075, .int .i64 1093, .int .i64 1080, .int .i64 1081, .int .i64 1082, .int .i64 1083, .int .i64 1084, .int .i64 1085, .int .i64 1086, .int .i64 1087, .int .i64 1103, .int .i64 1088, .int .i64 1089, .int .i64 1090, .int .i64 1091, .int .i64 1078, .int .i64 1074, .int .i64 1100, .int .i64 1099, .int .i64 1079, .int .i64 1096, .int .i64 1101, .int .i64 1097, .int .i64 1095, .int .i64 1098] 3))
    generalize koiT.getD (b - 224).toNat 0 = t at *
    go_enter Tryd.func81, Tryd.ntmps81
    go_wp2_with fail
    go_ret
    exact ⟨ret_int e0.out, hB.out⟩
  · have hc : (w.alloc (.cells #[.int .i64 1102, .int .i64 1072, .int .i64 1073, .int .i64 1094, .int .i64 1076, .int .i64 1077, .int .i64 1092, .int .i64 1075, .int .i64 1093, .int .i64 1080, .int .i64 1081, .int .i64 1082, .int .i64 1083, .int .i64 1084, .int .i64 1085, .int .i64 1086, .int .i64 1087, .int .i64 1103, .int .i64 1088, .int .i64 1089, .int .i64 1090, .int .i64 1091, .int .i64 1078, .int .i64 1074, .int .i64 1100, .int .i64 1099, .int .i64 1079, .int .i64 1096, .int .i64 1101, .int .i64 1097, .int .i64 1095, .int .i64 1098] 3)).cell? ⟨w.heap.size, (b - 192).toNat, none⟩ = some (.int .i64 (koiT.getD (b - 192).toNat 0)) := lit_ints w koiT _ _ (show _ < 32 from by omega)
    have e0 : Hd (koiT.getD (b - 192).toNat 0 = koiB b) := ⟨(koi_mid h hb).symm⟩
    have hB := Hd.mk (below_lit w (.cells #[.int .i64 1102, .int .i64 1072, .int .i64 1073, .int .i64 1094, .int .i64 1076, .int .i64 1077, .int .i64 1092, .int .i64 1075, .int .i64 1093, .int .i64 1080, .int .i64 1081, .int .i64 1082, .int .i64 1083, .int .i64 1084, .int .i64 1085, .int .i64 1086, .int .i64 1087, .int .i64 1103, .int .i64 1088, .int .i64 1089, .int .i64 1090, .int .i64 1091, .int .i64 1078, .int .i64 1074, .int .i64 1100, .int .i64 1099, .int .i64 1079, .int .i64 1096, .int .i64 1101, .int .i64 1097, .int .i64 1095, .int .i64 1098] 3))
    generalize koiT.getD (b - 192).toNat 0 = t at *
    go_enter Tryd.func81, Tryd.ntmps81
    go_wp2_with fail
    go_ret
    exact ⟨ret_int e0.out, hB.out⟩
  · subst h
    go_enter Tryd.func81, Tryd.ntmps81
    go_wp2_with fail
    go_ret
    exact ⟨ret_int (by decide), below_lit _ _⟩
  · subst h
    go_enter Tryd.func81, Tryd.ntmps81
    go_wp2_with fail
    go_ret
    exact ⟨ret_int (by decide), below_lit _ _⟩
  · have e0 : Hd ((-1 : Int) = koiB b) := ⟨(koi_none h ha hb).symm⟩
    go_enter Tryd.func81, Tryd.ntmps81
    go_wp2_with fail
    go_ret
    exact ⟨ret_int e0.out, below_lit _ _⟩

end Go.Proofs.YtgefabagpcjegaaDoor
