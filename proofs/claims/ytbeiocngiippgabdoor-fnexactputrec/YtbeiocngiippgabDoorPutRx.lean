/- PutRow in the laws' words. -/
import Derived.Test.YtbeiocngiippgabDoorPutRI
import Derived.Test.YtbeiocngiippgabDoorByA
import Derived.Test.YtbeiocngiippgabDoorExact
namespace Go.Proofs.YtbeiocngiippgabDoor
set_option maxRecDepth 4000
open Go.RowKit

theorem implPutRow_rd (ao : Option Addr) (n c : Nat) (bs : List UInt8) (cs : List Value) (r : RowD) (w : World) (h0 : RdA w [.slice ao n c] bs) (h1 : RcRow w cs r) (w0 : bs.length ≤ 1048576) (w1 : wtRow r ≤ 1048576) (T : Hd (AllAt w)) :
    Calls Tryd.prog 10 #[.slice ao n c, .agg cs.toArray] w (AnsSl OwB (putRowB bs r) w) := by
  obtain ⟨q, e, _, hc, hL⟩ := rdA_parts h0
  subst e
  refine (implPutRow_any q n c bs cs r w hL hc h1 w1 (by have := hL.size; omega) T).mono ?_
  rintro e w' ⟨g, k, rfl, hg, hO, hB⟩
  exact ansSl_own rfl hg hO hB

theorem specPutRow_rd (ao : Option Addr) (n c : Nat) (bs : List UInt8) (cs : List Value) (r : RowD) (w : World) (h0 : RdA w [.slice ao n c] bs) (h1 : RcRow w cs r) (w0 : bs.length ≤ 1048576) (w1 : wtRow r ≤ 1048576) :
    Calls Tryd.prog 7 #[.slice ao n c, .agg cs.toArray] w (AnsRS RdB (putRowB bs r) w) := by
  obtain ⟨q, e, _, hc, hL⟩ := rdA_parts h0
  subst e
  refine (specPutRow_any q n c bs cs r w hL hc h1 w1 (by have := hL.size; omega)).mono ?_
  rintro e w' ⟨g, k, rfl, hg, hO, hB⟩
  exact (ansSl_own rfl hg hO hB).toR owB_ok

theorem putRow_wt {bs : List UInt8} {r : RowD} (h : bs.length ≤ 1048576) : wtB (putRowB bs r) ≤ 1073741824 ∧ 1 + ctB (putRowB bs r) ≤ 1073741824 := by
  have := putRowB_len bs r
  unfold wtB ctB
  omega
theorem cuRow_wt (r : RowD) : cuRow r ≤ wtRow r := by simp only [cuRow, wtRow, cuCell, wtCell, ctB, wtB]; omega

end Go.Proofs.YtbeiocngiippgabDoor
