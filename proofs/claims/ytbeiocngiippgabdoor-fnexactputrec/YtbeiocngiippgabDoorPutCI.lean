/- A cell behind other bytes: impl.putCell. -/
import Derived.Test.YtbeiocngiippgabDoorPutCS
import Derived.Deep.RegionHeldLaw
namespace Go.Proofs.YtbeiocngiippgabDoor
set_option maxRecDepth 4000
open Go.RowKit


set_option maxHeartbeats 4000000 in
theorem implPutCell_any (q n c : Nat) (bs : List UInt8) (t : Int) (ao : Option Addr) (m d : Nat) (s : List UInt8) (w : World) (hb : Own w q c bs) (hn : bs.length = n) (hs : CellAt w ao m d s) (hne : ∀ x, ao = some ⟨x, 0, none⟩ → x ≠ q) (hm : m ≤ 1048576) (hl : n ≤ 2000000) :
    Calls Tryd.prog 37 #[.slice (some ⟨q, 0, none⟩) n c, .agg #[.int .i64 t, .slice ao m d]] w fun e w' => ∃ g k, e = .returned (.slice (some ⟨g, 0, none⟩) (putCellB bs t s).length k) ∧ w.heap.size ≤ g ∧ Own w' g k (putCellB bs t s) ∧ Chg w w' (fun x => x = q) := by
  have HO : Hd (Own w q c bs ∧ bs.length = n ∧ CellAt w ao m d s ∧ ∀ x, ao = some ⟨x, 0, none⟩ → x ≠ q) := ⟨hb, hn, hs, hne⟩
  have HSZ : Hd (s.length ≤ 1048576) := ⟨by rw [hs.size]; exact hm⟩
  obtain ⟨S, hS⟩ : ∃ S, s.toArray = S := ⟨_, rfl⟩
  have HS : Hd (s.toArray = S) := ⟨hS⟩
  obtain ⟨v, hv⟩ : ∃ v, IntKind.u8.wrap t = v := ⟨_, rfl⟩
  have HV : Hd (v = ((byB t).toNat : Int)) := ⟨by rw [← hv, IntKind.wrap_u8]; exact byB_val t⟩
  clear hb hn hs hne hS
  have W0 : Hd (Below w.heap.size w (w.alloc (.cells #[.int .i64 t, .slice ao m d] 30)).drew) := ⟨(below_lit w _).drew⟩
  have W1 : Hd (Below w.heap.size w (((w.alloc (.cells #[.int .i64 t, .slice ao m d] 30)).alloc (.cells #[.int .u8 v] 5)).drew)) := ⟨(below_lit2 w _ _).drew⟩
  have K0 : Hd ((w.alloc (.cells #[.int .i64 t, .slice ao m d] 30)).drew.cell? ⟨w.heap.size, 0, none⟩ = some (.int .i64 t) ∧ (w.alloc (.cells #[.int .i64 t, .slice ao m d] 30)).drew.cell? ⟨w.heap.size, 1, none⟩ = some (.slice ao m d) ∧ (convert 22 9 (.slice ao m d)).run Tryd.prog (w.alloc (.cells #[.int .i64 t, .slice ao m d] 30)).drew = .ok (.string ⟨S⟩) (w.alloc (.cells #[.int .i64 t, .slice ao m d] 30)).drew) := ⟨by simp, by simp, by rw [← HS.out]; exact (HO.out.2.2.1.below W0.out).conv⟩
  have K1 : Hd ((((w.alloc (.cells #[.int .i64 t, .slice ao m d] 30)).alloc (.cells #[.int .u8 v] 5)).drew).cell? ⟨w.heap.size, 0, none⟩ = some (.int .i64 t) ∧ (((w.alloc (.cells #[.int .i64 t, .slice ao m d] 30)).alloc (.cells #[.int .u8 v] 5)).drew).cell? ⟨w.heap.size, 1, none⟩ = some (.slice ao m d) ∧ (convert 22 9 (.slice ao m d)).run Tryd.prog (((w.alloc (.cells #[.int .i64 t, .slice ao m d] 30)).alloc (.cells #[.int .u8 v] 5)).drew) = .ok (.string ⟨S⟩) (((w.alloc (.cells #[.int .i64 t, .slice ao m d] 30)).alloc (.cells #[.int .u8 v] 5)).drew)) :=
    ⟨cell_below (cellsA (heap_alloc_new w _) 0 rfl) (below_lit _ _).drew, cell_below (cellsA (heap_alloc_new w _) 1 rfl) (below_lit _ _).drew, by rw [← HS.out]; exact (HO.out.2.2.1.below W1.out).conv⟩
  have OW : Hd (Own (((w.alloc (.cells #[.int .i64 t, .slice ao m d] 30)).alloc (.cells #[.int .u8 v] 5)).drew) q c bs) := ⟨HO.out.1.below W1.out⟩
  go_enter Tryd.func37, Tryd.ntmps37
  go_wp2_with fail
  go_region_held_law (fun w' => w'.cell? ⟨w.heap.size, 0, none⟩ = some (.int .i64 t) ∧ w'.cell? ⟨w.heap.size, 1, none⟩ = some (.slice ao m d) ∧ (convert 22 9 (.slice ao m d)).run Tryd.prog w' = .ok (.string ⟨S⟩) w') (first | (with_reducible exact KP.out) | (with_reducible exact K2.out) | (with_reducible exact K1.out) | (with_reducible exact K0.out))
    (first
      | (have G2 := K2; clear G2; go_at_call 35; refine (implPutText_any g1 0 (n + 1) c1 (bs ++ [byB t]) ⟨S⟩ _ ?_ ?_ ?_ ?_ ?_).mono ?_; (rw [← HS.out]; show s.toArray.size ≤ 1073741824; have := HSZ.out; simp; omega); (rw [List.length_append, HO.out.2.1]; rfl); exact (fun j hj => O2.out.1.cell (by rw [List.length_append, HO.out.2.1]; rfl) j hj); exact O2.out.1.lt; omega; rintro e w3 ⟨g2, c2, rfl, hg, hO3, hB3⟩; have O3 : Hd (Own w3 g2 c2 (putText (bs ++ [byB t]) ⟨S⟩) ∧ w2.heap.size ≤ g2 ∧ Below w2.heap.size w2 w3) := ⟨hO3, hg, hB3⟩; have KP : Hd (w3.cell? ⟨w.heap.size, 0, none⟩ = some (.int .i64 t) ∧ w3.cell? ⟨w.heap.size, 1, none⟩ = some (.slice ao m d) ∧ (convert 22 9 (.slice ao m d)).run Tryd.prog w3 = .ok (.string ⟨S⟩) w3) := (⟨cell_below K2.out.1 hB3, cell_below K2.out.2.1 hB3, by rw [← HS.out]; exact (O2.out.2.2.2.below hB3).conv⟩); clear hO3 hg hB3)
      | (refine step_app rfl (.tmp 5) (.tmp 9) rfl 0 q n c bs [byB t] rfl OW.out HO.out.2.1 (Nat.zero_le _) (Nat.zero_le _) ⟨w.heap.size + 1, 0, none⟩ 1 1 rfl rfl ?_ (by omega) ?_; (intro j u hu; rw [show ([byB t].map cb) = [Value.int .u8 v] from (by rw [HV.out]; rfl)] at hu; exact (by rw [Addr.add_lit, Nat.zero_add]; exact cell_below (cellsA (alloc_new (w.alloc (.cells #[.int .i64 t, .slice ao m d] 30)) (.cells #[.int .u8 v] 5) (by simp)) j (by simpa using hu)) (Below.refl _ _).drew)); intro g1 c1 w2 hO2 hG2 hA2 _; have CA : CellAt w2 ao m d s := (by exact cellAt_grown (HO.out.2.2.1.below W1.out) hG2 HO.out.2.2.2); have O2 : Hd (Own w2 g1 c1 (bs ++ [byB t]) ∧ (((w.alloc (.cells #[.int .i64 t, .slice ao m d] 30)).alloc (.cells #[.int .u8 v] 5)).drew).grownBy w2 (some q) ∧ (g1 = q ∨ g1 = (((w.alloc (.cells #[.int .i64 t, .slice ao m d] 30)).alloc (.cells #[.int .u8 v] 5)).drew).heap.size) ∧ CellAt w2 ao m d s) := ⟨hO2, hG2, hA2, CA⟩; have K2 : Hd (w2.cell? ⟨w.heap.size, 0, none⟩ = some (.int .i64 t) ∧ w2.cell? ⟨w.heap.size, 1, none⟩ = some (.slice ao m d) ∧ (convert 22 9 (.slice ao m d)).run Tryd.prog w2 = .ok (.string ⟨S⟩) w2) := (⟨grown_cell hG2 K1.out.1 (by have := HO.out.1.lt; show w.heap.size ≠ q; omega), grown_cell hG2 K1.out.2.1 (by have := HO.out.1.lt; show w.heap.size ≠ q; omega), by rw [← HS.out]; exact CA.conv⟩); clear hO2 hG2 hA2 CA))
  have HF : Hd (Own w3 g2 c2 (putCellB bs t s) ∧ w.heap.size ≤ g2 ∧ Chg w w3 (fun x => x = q)) := ⟨by
    have h1 := O3.out.1
    rw [← HS.out] at h1
    refine ⟨h1, ?_, ?_⟩
    · have := O3.out.2.1; have h2 := O2.out.2.1.size; simp at h2; omega
    · exact (Chg.of_below W1.out |>.trans (Chg.of_grown O2.out.2.1 (fun k e => by simp at e; exact e.symm))).trans (Chg.of_below O3.out.2.2)⟩
  have HL : Hd ((putText (bs ++ [byB t]) ⟨S⟩).length = (putCellB bs t s).length) := ⟨by rw [← HS.out]; rfl⟩
  clear O3 O2 K0 K1 K2 KP W0 W1 OW HO HV
  go_wp2_with fail
  go_ret
  exact ⟨g2, c2, by rw [← HL.out]; rfl, HF.out.2.1, HF.out.1, HF.out.2.2⟩

end Go.Proofs.YtbeiocngiippgabDoor
