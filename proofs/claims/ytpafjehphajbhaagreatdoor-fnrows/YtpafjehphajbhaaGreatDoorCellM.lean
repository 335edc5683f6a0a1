/- The contract of SameText, in the program. -/
import Derived.Test.YtpafjehphajbhaaGreatDoorCellJ
import Derived.Deep.RegionHeld3
namespace Go.Proofs.YtpafjehphajbhaaGreatDoor
set_option maxRecDepth 4000
open Go.RowKit

set_option maxHeartbeats 1000000 in
theorem implSameText_any (t1 : Int) (o1 : Option Addr) (n1 c1 : Nat) (b1 : List UInt8) (t2 : Int) (o2 : Option Addr) (n2 c2 : Nat) (b2 : List UInt8) (w : World) (h1 : CellAt w o1 n1 c1 b1) (hl1 : n1 ≤ 1048576) (h2 : CellAt w o2 n2 c2 b2) (hl2 : n2 ≤ 1048576) (T : Hd (AllAt w)) :
    Calls Tryz.prog 46 #[.agg #[.int .i64 t1, .slice o1 n1 c1], .agg #[.int .i64 t2, .slice o2 n2 c2]] w fun e w' => e = .returned (.bool (mOk t1 b1 t2 b2)) ∧ Below w.heap.size w w' := by
  have H1 : Hd (CellAt w o1 n1 c1 b1) := ⟨h1⟩
  have H2 : Hd (CellAt w o2 n2 c2 b2) := ⟨h2⟩
  obtain ⟨x, hx⟩ : ∃ x, (tS t1 b1).toArray = x := ⟨_, rfl⟩
  have HX : Hd ((tS t1 b1).toArray = x) := ⟨hx⟩
  obtain ⟨y, hy⟩ : ∃ y, (tS t2 b2).toArray = y := ⟨_, rfl⟩
  have HY : Hd ((tS t2 b2).toArray = y) := ⟨hy⟩
  obtain ⟨k1, hk1⟩ : ∃ k, tOk t1 b1 = k := ⟨_, rfl⟩
  have HK1 : Hd (tOk t1 b1 = k1) := ⟨hk1⟩
  obtain ⟨k2, hk2⟩ : ∃ k, tOk t2 b2 = k := ⟨_, rfl⟩
  have HK2 : Hd (tOk t2 b2 = k2) := ⟨hk2⟩
  have E : Hd (mOk t1 b1 t2 b2 = (k1 && k2 && ((⟨x⟩ : ByteArray).toList == (⟨y⟩ : ByteArray).toList))) := ⟨by
    rw [ByteArray.toList_eq, ByteArray.toList_eq, ← hx, ← hy, ← hk1, ← hk2]
    rfl⟩
  rewrite [E.out]
  obtain ⟨r, hr⟩ : ∃ r, (k1 && k2 && ((⟨x⟩ : ByteArray).toList == (⟨y⟩ : ByteArray).toList)) = r := ⟨_, rfl⟩
  have HR : Hd ((k1 && k2 && ((⟨x⟩ : ByteArray).toList == (⟨y⟩ : ByteArray).toList)) = r) := ⟨hr⟩
  rewrite [hr]
  clear h1 h2 hx hy hk1 hk2 E hr
  go_enter Tryz.func46, Tryz.ntmps46
  go_wp2_with fail
  have B0 : Hd (Below w.heap.size w ((w.alloc (.cells #[.int .i64 t1, .slice o1 n1 c1] 27)).alloc (.cells #[.int .i64 t2, .slice o2 n2 c2] 27))) := ⟨below_lit2 w _ _⟩
  obtain ⟨l1, l2⟩ := laid2 w (.cells #[.int .i64 t1, .slice o1 n1 c1] 27) (.cells #[.int .i64 t2, .slice o2 n2 c2] 27)
  generalize (w.alloc (.cells #[.int .i64 t1, .slice o1 n1 c1] 27)).alloc (.cells #[.int .i64 t2, .slice o2 n2 c2] 27) = W at *
  obtain ⟨p0, p1, _, _⟩ := cells2 W w.heap.size _ _ _ l1
  obtain ⟨q0, q1, _, _⟩ := cells2 W (w.heap.size + 1) _ _ _ l2
  have K : Hd (∀ w', Below W.heap.size W w' → (fun w' => (w'.cell? ⟨w.heap.size, 0, none⟩ = some (.int .i64 t1) ∧ w'.cell? ⟨w.heap.size, 1, none⟩ = some (.slice o1 n1 c1)) ∧ w'.cell? ⟨w.heap.size + 1, 0, none⟩ = some (.int .i64 t2) ∧ w'.cell? ⟨w.heap.size + 1, 1, none⟩ = some (.slice o2 n2 c2)) w') := ⟨fun w' hb => ⟨⟨cell_below p0 hb, cell_below p1 hb⟩, cell_below q0 hb, cell_below q1 hb⟩⟩
  clear l1 l2
  go_region_held (fun w' => (w'.cell? ⟨w.heap.size, 0, none⟩ = some (.int .i64 t1) ∧ w'.cell? ⟨w.heap.size, 1, none⟩ = some (.slice o1 n1 c1)) ∧ w'.cell? ⟨w.heap.size + 1, 0, none⟩ = some (.int .i64 t2) ∧ w'.cell? ⟨w.heap.size + 1, 1, none⟩ = some (.slice o2 n2 c2)) (first | assumption | exact K.out _ (Below.refl _ W).drew | exact K.out _ D3.out | exact K.out _ D2.out | exact K.out _ D1.out)
    (first | (go_at_call 71; refine (sameAs_any x y k1 k2 _).mono ?_; rintro e w3 ⟨rfl, hb⟩; rewrite [HR.out]; have D3 : Hd (Below W.heap.size W w3) := ⟨Below.next D2.out hb⟩; clear hb) | (have G1 := D1; clear G1; go_at_call 69; refine (implSaying_any t2 o2 n2 c2 b2 _ (H2.out.below (Below.next B0.out D1.out)) hl2 ⟨T.out.below (Below.next B0.out D1.out)⟩).mono ?_; rintro e w2 ⟨rfl, hb⟩; rewrite [HY.out, HK2.out]; have D2 : Hd (Below W.heap.size W w2) := ⟨Below.next D1.out hb⟩; clear hb) | (go_at_call 69; refine (implSaying_any t1 o1 n1 c1 b1 _ (H1.out.below B0.out.drew) hl1 ⟨T.out.below B0.out.drew⟩).mono ?_; rintro e w1 ⟨rfl, hb⟩; rewrite [HX.out, HK1.out]; have D1 : Hd (Below W.heap.size W w1) := ⟨Below.next (Below.refl _ W).drew hb⟩; clear hb))
  go_wp2_with fail
  go_ret
  exact ⟨rfl, Below.next B0.out D3.out⟩

end Go.Proofs.YtpafjehphajbhaaGreatDoor
