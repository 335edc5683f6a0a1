/- putWords behind no bytes. -/
import Derived.Test.YtlididoalekeoaaPut
namespace Go.Proofs.Ytlididoalekeoaa
set_option maxRecDepth 4000
open Go.RowKit

set_option maxHeartbeats 400000 in
theorem putWords_none (wb wl wc : Nat) (ws : List Int) (w : World) (hw : ws.length = wl) (hwl : wl ≤ 1048576) (hwo : ∀ j, j < wl → w.cell? ⟨wb, j, none⟩ = some (.int .i64 (ws.getD j 0))) :
    Calls Try.prog 53 #[.slice none 0 0, .slice (some ⟨wb, 0, none⟩) wl wc] w fun e w' => ∃ c, e = .returned (.slice (some ⟨w.heap.size, 0, none⟩) (2 * wl) c) ∧ Own w' w.heap.size c (wordBytes ws) ∧ Below w.heap.size w w' := by
  obtain ⟨i0, hi, hz0, hz1, hz2⟩ := info_parts info8
  have hw' : Hid (ws.length = wl) := hw
  have hwo' : Hid (∀ j, j < wl → w.cell? ⟨wb, j, none⟩ = some (.int .i64 (ws.getD j 0))) := hwo
  clear hw hwo
  go_enter Try.func53, Try.ntmps53
  go_wp2_with (first | (at_make; refine wpList_make_both _ rfl _ _ 22 rfl 5 i0 (.int .u8 0) Try.underlying22 hi hz0 hz1 _ _ _ _ 0 (2 * wl) rfl rfl rfl ?C ?nm ?b2 ?b3 ?_) | refine wpList_copy_splice rfl (.tmp 17) (.tmp 18) 22 22 rfl 5 Try.underlying22 size8 _ _ _ _ _ _ rfl rfl w.heap.size 0 (madeCells #[.int .u8 0] (2 * wl)).toList 5 ?hg [] rfl (fun h => by simp at h) ?hfit (one_cb []) w.heap.size w ?hbb ?hBg ?_)
  case C => omega
  case nm => omega
  case b2 => rw [hz2]; omega
  case b3 => unfold maxLen; omega
  case hg => simpa using heap_alloc_new w _
  case hfit => rw [zeros_length]; simp
  case hbb => exact (Below.refl _ w).alloc (Nat.le_refl _) _
  case hBg => exact Nat.le_refl _
  intro w2 HG2 hB2
  have ho2 : Hid (w2.ownsRow w.heap.size 5 1 (.slice (some ⟨w.heap.size, 0, none⟩) 0 (2 * wl)) 0 ((wordBytes (ws.take 0)).map cb)) := by
    have h := own_splice (w := w2) (g := w.heap.size) (cap := 2 * wl) (bs := []) (L := (madeCells #[.int .u8 0] (2 * wl)).toList) (zeros_length _) (Nat.zero_le _) (by unfold maxLen; omega) HG2.out
    show World.ownsRow _ _ _ _ _ _ _
    simpa [wordBytes] using h
  have HB2 : Hid (Below w.heap.size w w2) := hB2
  clear HG2 hB2
  go_wp2_with fail
  go_loopw [5, 22] (fun out i wr => ∃ k : Nat, k ≤ wl ∧ i = .int .i64 k ∧ out = .slice (some ⟨w.heap.size, 0, none⟩) (2 * k) (2 * wl) ∧ Hid (wr.ownsRow w.heap.size 5 1 (.slice (some ⟨w.heap.size, 0, none⟩) (2 * k) (2 * wl)) (2 * k) ((wordBytes (ws.take k)).map cb)) ∧ Hid (Below w.heap.size w wr)) (fun _ i _ => wl - (intOf i).toNat)
  case atStart => exact ⟨0, Nat.zero_le _, rfl, rfl, ho2, HB2⟩
  case round =>
    obtain ⟨k, hk, rfl, rfl, hown, hbel⟩ := hrel
    by_cases hlt : k < wl
    · have hcw := hwo'.out k hlt
      have hbl := World.block_lt_of_cell? w _ hcw
      have hcr : wr.cell? ⟨wb, k, none⟩ = some (.int .i64 (ws.getD k 0)) := (hbel.out.cell (p := ⟨wb, k, none⟩) hbl).trans hcw
      have hsz := hbel.out.size
      have hlt' : k < ws.length := by rw [hw'.out]; exact hlt
      have hsn : Hid (wordBytes (ws.take (k + 1)) = wordBytes (ws.take k) ++ [hiB (ws.getD k 0), loB (ws.getD k 0)]) := by
        show _ = _
        rw [List.take_succ_eq_append_getElem hlt', wordBytes_snoc]
        simp [List.getD, List.getElem?_eq_getElem hlt']
      clear hcw hbl hlt'
      generalize ws.getD k 0 = n at *
      go_wp2_with (at_builtin; refine wpList_append_fits _ rfl (.tmp 26) (.tmp 32) 22 rfl w.heap.size 5 i0 1 Try.underlying22 hi hz1 w.heap.size (2 * k) (2 * wl) _ rfl (hown.out.alloc _) ⟨wr.heap.size, 0, none⟩ 2 2 [.int .u8 (n / 256 % 256), .int .u8 (n % 256)] rfl rfl ?c1 ?c2 ?c3 ?_)
      case c1 =>
        intro j u hj
        match j, hj with
        | 0, hj => simp at hj; subst hj; simp [Addr.add]
        | 1, hj => simp at hj; subst hj; simp [Addr.add]
      case c2 => intro u hu; simp at hu; rcases hu with rfl | rfl <;> rfl
      case c3 => omega
      intro w3 hown3 hgr3
      have HO : Hid (w3.ownsRow w.heap.size 5 1 (.slice (some ⟨w.heap.size, 0, none⟩) (2 * (k + 1)) (2 * wl)) (2 * (k + 1)) ((wordBytes (ws.take (k + 1))).map cb)) := by
        show World.ownsRow _ _ _ _ _ _ _
        rw [hsn.out, show 2 * (k + 1) = 2 * k + 2 from by omega]
        have e2 : (wordBytes (ws.take k) ++ [hiB n, loB n]).map cb = (wordBytes (ws.take k)).map cb ++ [.int .u8 (n / 256 % 256), .int .u8 (n % 256)] := by
          rw [hiB_val, loB_val]; simp [cb]
        rw [e2]; exact hown3
      have HB : Hid (Below w.heap.size w w3) := (hbel.out.alloc hsz _).grown hgr3 (by simp; omega) (fun q h => by simp at h; omega)
      clear hown3 hgr3 hsn hown hbel
      go_wp2
      go_roundw
      case rel => exact ⟨k + 1, by omega, by go_num, by rw [show 2 * (k + 1) = 2 * k + 2 from by omega], HO, HB⟩
      case measure => simp [intOf]; omega
    · have hke : k = wl := by omega
      have hR : Hid (Own wr w.heap.size (2 * wl) (wordBytes ws)) := by
        have h1 := hown.out
        rw [hke, List.take_of_length_le (by rw [hw'.out]; exact Nat.le_refl _)] at h1
        obtain ⟨g, c, hv, _, hr⟩ := own_row h1 (by simp)
        simp only [Value.slice.injEq, Option.some.injEq, Addr.mk.injEq, and_true, true_and] at hv
        show Own _ _ _ _
        rw [hv.1, hv.2]; exact hr
      have hfin : Hid (2 * k = 2 * wl) := by show _ = _; rw [hke]
      clear hke hown
      go_wp2
      go_ret
      exact ⟨_, by rw [hfin.out]; rfl, hR.out, hbel.out⟩

end Go.Proofs.Ytlididoalekeoaa
