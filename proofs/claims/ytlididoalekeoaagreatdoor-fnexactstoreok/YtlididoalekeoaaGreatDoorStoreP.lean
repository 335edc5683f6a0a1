/- Whether a store is right. -/
import Derived.Test.YtlididoalekeoaaGreatDoorStoreDat
import Derived.Test.YtlididoalekeoaaGreatDoorAscP
namespace Go.Proofs.YtlididoalekeoaaGreatDoor
set_option maxRecDepth 4000
open Go.RowKit

def storeOk (a : StoreD) : Bool := devOk a.d && decide (a.d.secs.length = 62) && (decide (a.d.cache.length = 0) || a.d.down) && tabOk a.t && inB a.gen 1 60000 && inB a.place 0 30
theorem storeOk_dev {a : StoreD} (h : devOk a.d = false) : storeOk a = false := by unfold storeOk; rw [h]; rfl
theorem storeOk_secs {a : StoreD} (h : a.d.secs.length ≠ 62) : storeOk a = false := by unfold storeOk; simp [h]
theorem storeOk_cache {a : StoreD} (h : a.d.cache.length ≠ 0) (hd : a.d.down = false) : storeOk a = false := by unfold storeOk; simp [h, hd]
theorem storeOk_rest {a : StoreD} (h1 : devOk a.d = true) (h2 : a.d.secs.length = 62) (h3 : a.d.cache.length = 0 ∨ a.d.down = true) : storeOk a = (tabOk a.t && inB a.gen 1 60000 && inB a.place 0 30) := by
  unfold storeOk
  rw [h1]
  rcases h3 with h | h <;> simp [h2, h, Bool.and_assoc]

end Go.Proofs.YtlididoalekeoaaGreatDoor
