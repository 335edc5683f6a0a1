/- What the laws of stage 6 carry along of states that may hold nil. -/
import Derived.Test.YtjbideiifoadkaaDoorFeedI
import Derived.Test.YtjbideiifoadkaaDoorFeedL
namespace Go.Proofs.YtjbideiifoadkaaDoor
set_option maxRecDepth 4000
open Go.RowKit

/-- A slice that is nil, or the row of block g. -/
def RowO (w : World) (ao : Option Addr) (g : Nat) (bs : List UInt8) : Prop := (ao = none ∧ bs = []) ∨ (ao = some ⟨g, 0, none⟩ ∧ Row w g bs)
theorem RowO.reads {w : World} {ao : Option Addr} {g n : Nat} {bs : List UInt8} (h : RowO w ao g bs) (hn : bs.length = n) : Reads w ao n bs := by
  rcases h with ⟨rfl, rfl⟩ | ⟨rfl, hR⟩
  · exact ⟨hn, .inl (by simpa using hn.symm)⟩
  · exact hR.reads hn
theorem RowO.below {w w' : World} {ao : Option Addr} {g : Nat} {bs : List UInt8} (h : RowO w ao g bs) (hB : Below w.heap.size w w') : RowO w' ao g bs := by
  rcases h with h | ⟨h, hR⟩
  · exact .inl h
  · exact .inr ⟨h, hR.below hB⟩
theorem RowO.grown {w w' : World} {ao : Option Addr} {g k : Nat} {bs : List UInt8} (h : RowO w ao g bs) (hG : w.grownBy w' (some k)) (hg : g ≠ k) : RowO w' ao g bs := by
  rcases h with h | ⟨h, hR⟩
  · exact .inl h
  · exact .inr ⟨h, hR.grown hG hg⟩
/-- Where there is nil a number stands for the block that is none. -/
theorem rowO_of {w : World} {B c : Nat} {ao : Option Addr} {bs : List UInt8} (h : OwnO w B ao c bs) (hB : B ≤ w.heap.size) : ∃ g, RowO w ao g bs ∧ B ≤ g ∧ g ≠ w.heap.size := by
  rcases h with ⟨rfl, _, rfl⟩ | ⟨q, rfl, hq, hO⟩
  · exact ⟨w.heap.size + 1, .inl ⟨rfl, rfl⟩, by omega, by omega⟩
  · exact ⟨q, .inr ⟨rfl, hO.row⟩, hq, by have := hO.lt; omega⟩

/-- A state in its box, which may hold nil. -/
structure BoxO (w : World) (d : Nat) (cs : Int) (ao : Option Addr) (g n c : Nat) (bd : Bool) (ls : List UInt8) (wi : World) : Prop where
  box : wi.heap[d]? = some (.cells #[.int .i64 cs, .slice ao n c, .bool bd] 30 (0, 0))
  row : RowO wi ao g ls
  len : ls.length = n
  wd : w.heap.size < d
  wg : w.heap.size < g
theorem BoxO.below {w : World} {d : Nat} {cs : Int} {ao : Option Addr} {g n c : Nat} {bd : Bool} {ls : List UInt8} {wi wj : World} (h : BoxO w d cs ao g n c bd ls wi) (hB : Below wi.heap.size wi wj) : BoxO w d cs ao g n c bd ls wj :=
  ⟨(hB.block _ (lt_block h.box)).trans h.box, h.row.below hB, h.len, h.wd, h.wg⟩
theorem BoxO.grown {w : World} {d : Nat} {cs : Int} {ao : Option Addr} {g n c k : Nat} {bd : Bool} {ls : List UInt8} {wi wj : World} (h : BoxO w d cs ao g n c bd ls wi) (hG : wi.grownBy wj (some k)) (hd : d ≠ k) (hg : g ≠ k) : BoxO w d cs ao g n c bd ls wj :=
  ⟨grown_block hG h.box hd, h.row.grown hG hg, h.len, h.wd, h.wg⟩
theorem BoxO.marked {w : World} {d : Nat} {cs : Int} {ao : Option Addr} {g n c : Nat} {bd : Bool} {ls es : List UInt8} {wi wj : World} (h : BoxO w d cs ao g n c bd ls wi) (hG : wi.grownBy wj (some g)) (hR : RowO wj ao g es) (hl : es.length = n) (hd : d ≠ g) : BoxO w d cs ao g n c bd es wj :=
  ⟨grown_block hG h.box hd, hR, hl, h.wd, h.wg⟩
theorem boxO_new {w wi : World} {cs : Int} {ao : Option Addr} {g n c : Nat} {bd : Bool} {ls : List UInt8} (hR : RowO wi ao g ls) (hl : ls.length = n) (hw : w.heap.size < wi.heap.size) (hg : w.heap.size < g) : BoxO w wi.heap.size cs ao g n c bd ls (wi.alloc (.cells #[.int .i64 cs, .slice ao n c, .bool bd] 30)) :=
  ⟨alloc_new wi _ rfl, hR.below (below_lit wi _), hl, hw, hg⟩

set_option maxHeartbeats 400000 in
theorem markByteS_nil (c : Nat) (m : Int) (w : World) : Calls Tryd.prog 30 #[.slice none 0 c, .int .i64 m] w fun e w' => e = .returned (.int .i64 m) ∧ w = w' := by
  go_enter Tryd.func30, Tryd.ntmps30
  go_wp2_with fail
  refine wp_loop_rounds 1 ?_
  rewrite [rounds_succ]
  go_wp2_with fail
  go_ret
  exact ⟨rfl, rfl⟩

set_option maxHeartbeats 400000 in
theorem heldByteS_nil (c : Nat) (m : Int) (w : World) : Calls Tryd.prog 46 #[.slice none 0 c, .int .i64 m] w fun e w' => e = .returned (.int .i64 m) ∧ w = w' := by
  go_enter Tryd.func46, Tryd.ntmps46
  go_wp2_with fail
  refine wp_loop_rounds 1 ?_
  rewrite [rounds_succ]
  go_wp2_with fail
  go_ret
  exact ⟨rfl, rfl⟩

set_option maxHeartbeats 400000 in
theorem markDec_nil (cs : Int) (c : Nat) (m : Int) (bad : Bool) (w : World) :
    Calls Tryd.prog 29 #[.agg #[.int .i64 cs, .slice none 0 c, .bool bad], .int .i64 m] w fun e w' => e = .returned (.int .i64 m) ∧ Below w.heap.size w w' := by
  go_enter Tryd.func29, Tryd.ntmps29
  go_wp2_with fail
  refine (markByteS_nil c m _).mono ?_
  rintro e w1 ⟨rfl, hw⟩
  subst hw
  go_wp2_with fail
  go_ret
  exact ⟨rfl, below_lit w _⟩

set_option maxHeartbeats 400000 in
theorem heldDec_nil (cs : Int) (c m : Nat) (bad : Bool) (w : World) :
    Calls Tryd.prog 31 #[.agg #[.int .i64 cs, .slice none 0 c, .bool bad], .int .i64 (m : Int)] w fun e w' => e = .returned (.int .i64 (m : Int)) ∧ Below w.heap.size w w' := by
  have h2 : ¬ (m : Int) < 0 := by omega
  go_enter Tryd.func31, Tryd.ntmps31
  go_wp2_with fail
  refine (heldByteS_nil c m _).mono ?_
  rintro e w1 ⟨rfl, hw⟩
  subst hw
  go_wp2_with fail
  go_ret
  exact ⟨rfl, below_lit w _⟩

theorem markDec_o (cs : Int) (ao : Option Addr) (g len cap m : Nat) (bad : Bool) (bs : List UInt8) (w : World) (hn : bs.length = len) (hR : RowO w ao g bs) (hl : len ≤ 1073741824) (hm : m ≤ 1099511627776) :
    Calls Tryd.prog 29 #[.agg #[.int .i64 cs, .slice ao len cap, .bool bad], .int .i64 (m : Int)] w fun e w' => e = .returned (.int .i64 ((m + len : Nat) : Int)) ∧ RowO w' ao g (marks m len) ∧ w.grownBy w' (some g) := by
  rcases hR with ⟨rfl, rfl⟩ | ⟨rfl, hR⟩
  · simp at hn
    subst hn
    refine (markDec_nil cs cap m bad w).mono ?_
    rintro e w1 ⟨rfl, hB⟩
    exact ⟨rfl, .inl ⟨rfl, List.eq_nil_of_length_eq_zero (marks_length m 0)⟩, grown_below hB _⟩
  · refine (markDec_any cs g len cap m bad bs w hn hR hl hm).mono ?_
    rintro e w1 ⟨rfl, hR1, hG⟩
    exact ⟨rfl, .inr ⟨rfl, hR1⟩, hG⟩
theorem heldDec_o (cs : Int) (ao : Option Addr) (g len cap m : Nat) (bad : Bool) (w : World) (hR : RowO w ao g (marks m len)) (hl : len ≤ 1073741824) (hm : m ≤ 1099511627776) :
    Calls Tryd.prog 31 #[.agg #[.int .i64 cs, .slice ao len cap, .bool bad], .int .i64 (m : Int)] w fun e w' => e = .returned (.int .i64 ((m + len : Nat) : Int)) ∧ Below w.heap.size w w' := by
  rcases hR with ⟨rfl, hz⟩ | ⟨rfl, hR⟩
  · have hn : len = 0 := by have := marks_length m len; rw [hz] at this; simpa using this.symm
    subst hn
    exact heldDec_nil cs cap m bad w
  · exact heldDec_any cs g len cap m bad w hR hl hm

end Go.Proofs.YtjbideiifoadkaaDoor
