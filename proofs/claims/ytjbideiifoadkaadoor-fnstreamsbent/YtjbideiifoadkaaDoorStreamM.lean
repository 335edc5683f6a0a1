/- What the law on drawn states, bent or not, rests on besides: contracts with a letter for each answer. -/
import Derived.Test.YtjbideiifoadkaaDoorStreamL
import Derived.Test.YtjbideiifoadkaaDoorFeedN
namespace Go.Proofs.YtjbideiifoadkaaDoor
set_option maxRecDepth 4000
open Go.RowKit

theorem specFeed_to (cs : Int) (hb hn hc b len cap : Nat) (bad : Bool) (held part hd : List UInt8) (bd : Bool) (t : ByteArray) (n : Nat) (w : World) (h1 : Lies w hb hn held) (h2 : Lies w b len part) (hl1 : hn ≤ 1048576) (hl2 : len ≤ 1048576)
    (e1 : fedH cs held bad part = hd) (e2 : fedB cs held bad part = bd) (e3 : (⟨(fedT cs held bad part).toArray⟩ : ByteArray) = t) (e4 : hd.length = n) :
    Calls Tryd.prog 20 #[.agg #[.int .i64 cs, .slice (some ⟨hb, 0, none⟩) hn hc, .bool bad], .slice (some ⟨b, 0, none⟩) len cap] w (FedTo w cs hd bd t n) := by
  subst e1 e2 e3 e4
  refine (specFeed_some cs hb 0 hn hc bad held b 0 len cap part w h1.size h1.cell hl1 h2.size h2.cell hl2).mono ?_
  rintro e w1 ⟨g, c, rfl, hg, hO, hB⟩
  exact ⟨_, c, rfl, .inr ⟨g, rfl, hg, hO⟩, hB⟩
/-- A truth is answered. -/
structure BoolTo (w : World) (v : Bool) (e : Ending) (w' : World) : Prop where
  out : e = .returned (.bool v) ∧ Below w.heap.size w w'
theorem implDecOk_to (cs : Int) (ao : Option Addr) (len cap : Nat) (bad : Bool) (bs : List UInt8) (v : Bool) (w : World) (hr : Reads w ao len bs) (T : Hd (AllAt w)) (hv : sOk cs bs bad = v) :
    Calls Tryd.prog 13 #[.agg #[.int .i64 cs, .slice ao len cap, .bool bad]] w (BoolTo w v) := by
  subst hv; exact (implDecOk_any cs ao len cap bad bs w hr T).mono fun _ _ h => ⟨h⟩
theorem specDecOk_to (cs : Int) (ao : Option Addr) (len cap : Nat) (bad : Bool) (bs : List UInt8) (v : Bool) (w : World) (hr : Reads w ao len bs) (hl : len ≤ 1073741824) (hv : sOk cs bs bad = v) :
    Calls Tryd.prog 14 #[.agg #[.int .i64 cs, .slice ao len cap, .bool bad]] w (BoolTo w v) := by
  subst hv; exact (specDecOk_any cs ao len cap bad bs w hr hl).mono fun _ _ h => ⟨h⟩
theorem implDecEnd_to (cs : Int) (ao : Option Addr) (len cap : Nat) (bad : Bool) (bs : List UInt8) (v : Bool) (w : World) (hr : Reads w ao len bs) (T : Hd (AllAt w)) (hv : (sOk cs bs bad && !bad && decide (bs = [])) = v) :
    Calls Tryd.prog 17 #[.agg #[.int .i64 cs, .slice ao len cap, .bool bad]] w (BoolTo w v) := by
  subst hv; exact (implDecEnd_any cs ao len cap bad bs w hr T).mono fun _ _ h => ⟨h⟩
theorem specDecEnd_to (cs : Int) (ao : Option Addr) (len cap : Nat) (bad : Bool) (bs : List UInt8) (v : Bool) (w : World) (hr : Reads w ao len bs) (hl : len ≤ 1073741824) (hv : (sOk cs bs bad && !bad && decide (bs = [])) = v) :
    Calls Tryd.prog 23 #[.agg #[.int .i64 cs, .slice ao len cap, .bool bad]] w (BoolTo w v) := by
  subst hv; exact (specDecEnd_any cs ao len cap bad bs w hr hl).mono fun _ _ h => ⟨h⟩

end Go.Proofs.YtjbideiifoadkaaDoor
