/- What the drawn laws of stage 5 carry along. -/
import Derived.Test.YtpafjehphajbhaaGreatDoorDrawA
import Derived.Test.YtpafjehphajbhaaGreatDoorText
import Derived.Test.YtpafjehphajbhaaGreatDoorCodeA
namespace Go.Proofs.YtpafjehphajbhaaGreatDoor
set_option maxRecDepth 4000
open Go.RowKit

/-- What stays through a law: nothing old has turned, the code reads as before, the tables lie in their variables. -/
structure CStays (w : World) (a0 : Option Addr) (len0 : Nat) (bs : List UInt8) (W : World) : Prop where
  below : Below w.heap.size w W
  reads : Reads W a0 len0 bs
  tabs : AllAt W
theorem CStays.start {w : World} {a0 : Option Addr} {len0 : Nat} {bs : List UInt8} (h : AllAt w) (hr : Reads w a0 len0 bs) : CStays w a0 len0 bs w := ⟨Below.refl _ _, hr, h⟩
theorem CStays.next {w : World} {a0 : Option Addr} {len0 : Nat} {bs : List UInt8} {W V : World} (h : CStays w a0 len0 bs W) (hb : Below W.heap.size W V) : CStays w a0 len0 bs V :=
  ⟨Below.next h.below hb, h.reads.below rfl hb, h.tabs.below hb⟩

theorem signs_true {t : List UInt8} {l k : List Int} {ok : Bool} (h : SignsAre t l ok) (hs : Signed t k) : ok = true := by
  rcases h with ⟨h, _⟩ | ⟨_, _, h⟩
  · exact h
  · exact absurd ⟨k, hs⟩ h

end Go.Proofs.YtpafjehphajbhaaGreatDoor
