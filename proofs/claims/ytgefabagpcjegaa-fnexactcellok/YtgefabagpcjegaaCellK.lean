/- Contracts of CellOk, in the specification and in the program, and what its law carries along: for a seat with CellOk alone. -/
import Derived.Test.YtgefabagpcjegaaCellS
import Derived.Deep.RegionHeld3
namespace Go.Proofs.Ytgefabagpcjegaa
set_option maxRecDepth 4000
open Go.RowKit

theorem in_cs {cs : Int} (h : inB cs 0 5 = true) : 0 ≤ cs ∧ cs ≤ 5 := of_decide_eq_true h

/-- The set of a number, as the program holds it. -/
def setV (cs : Int) : Value := if cs = 0 then .iface 41 (.agg #[]) else if cs = 5 then .iface 44 (.agg #[]) else .iface 43 (.agg #[.int .i64 cs])
theorem setV_utf : setV 0 = .iface 41 (.agg #[]) := rfl
theorem setV_euc : setV 5 = .iface 44 (.agg #[]) := rfl
theorem setV_byte {cs : Int} (h0 : cs ≠ 0) (h5 : cs ≠ 5) : setV cs = .iface 43 (.agg #[.int .i64 cs]) := by
  unfold setV; rw [if_neg h0, if_neg h5]

set_option maxHeartbeats 400000 in
theorem setOf_yes (cs : Int) (w : World) (h : 0 ≤ cs ∧ cs ≤ 5) : Calls Try.prog 12 #[.int .i64 cs] w fun e w' => e = .returned (.tuple #[setV cs, .bool true]) ∧ w' = w := by
  rcases (show cs = 0 ∨ cs = 1 ∨ cs = 2 ∨ cs = 3 ∨ cs = 4 ∨ cs = 5 from by omega) with rfl | rfl | rfl | rfl | rfl | rfl
  all_goals
    go_enter Try.func12, Try.ntmps12
    go_wp2_with fail
    go_ret2
    exact ⟨rfl, rfl⟩

set_option maxHeartbeats 400000 in
theorem setOf_no (cs : Int) (w : World) (h : ¬ (0 ≤ cs ∧ cs ≤ 5)) : Calls Try.prog 12 #[.int .i64 cs] w fun e w' => e = .returned (.tuple #[.nilIface, .bool false]) ∧ w' = w := by
  have h0 : (cs == 0) = false := by simp; omega
  have h1 : (cs == 1) = false := by simp; omega
  have h2 : (cs == 2) = false := by simp; omega
  have h3 : (cs == 3) = false := by simp; omega
  have h4 : (cs == 4) = false := by simp; omega
  have h5 : (cs == 5) = false := by simp; omega
  clear h
  go_enter Try.func12, Try.ntmps12
  go_wp2_with fail
  go_ret2
  exact ⟨rfl, rfl⟩

set_option maxHeartbeats 400000 in
theorem l5Cs_any (cs : Int) (w : World) : Calls Try.prog 10 #[.int .i64 cs] w fun e w' => e = .returned (.bool (inB cs 0 5)) ∧ w' = w := by
  obtain ⟨ok, hok⟩ : ∃ ok, inB cs 0 5 = ok := ⟨_, rfl⟩
  have HK : Hd (inB cs 0 5 = ok) := ⟨hok⟩
  clear hok
  go_enter Try.func10, Try.ntmps10
  go_wp2_with fail
  refine (l1In_any cs 0 5 _).mono ?_
  rintro e w1 ⟨rfl, hw⟩
  replace hw := hw.symm
  subst hw
  rewrite [HK.out]
  go_wp2_with fail
  go_ret
  exact ⟨ret_bool HK.out.symm, rfl⟩

/-- Whether it is a cell: its tag and how many bytes it has. -/
def cOk (tag : Int) (n : Nat) : Bool := inB tag 0 5 && decide ((n : Int) ≤ 20)

set_option maxHeartbeats 400000 in
theorem specCellOk_any (tag : Int) (ao : Option Addr) (n c : Nat) (w : World) :
    Calls Try.prog 5 #[.agg #[.int .i64 tag, .slice ao n c]] w fun e w' => e = .returned (.bool (cOk tag n)) ∧ Below w.heap.size w w' := by
  obtain ⟨ok, hok⟩ : ∃ ok, inB tag 0 5 = ok := ⟨_, rfl⟩
  have HK : Hd (inB tag 0 5 = ok) := ⟨hok⟩
  unfold cOk
  rw [hok]
  clear hok
  go_enter Try.func5, Try.ntmps5
  go_wp2_with fail
  refine (l5Cs_any tag _).mono ?_
  rintro e w1 ⟨rfl, hw1⟩
  subst hw1
  rewrite [HK.out]
  clear HK
  cases ok with
  | false =>
    go_wp2_with fail
    go_ret
    exact ⟨rfl, below_lit _ _⟩
  | true =>
    go_wp2_with fail
    go_ret
    exact ⟨rfl, below_lit _ _⟩

set_option maxHeartbeats 400000 in
theorem implCellOk_any (tag : Int) (ao : Option Addr) (n c : Nat) (w : World) :
    Calls Try.prog 7 #[.agg #[.int .i64 tag, .slice ao n c]] w fun e w' => e = .returned (.bool (cOk tag n)) ∧ Below w.heap.size w w' := by
  unfold cOk
  cases hi : inB tag 0 5 with
  | false =>
    have hcs : ¬ (0 ≤ tag ∧ tag ≤ 5) := of_decide_eq_false hi
    clear hi
    go_enter Try.func7, Try.ntmps7
    go_wp2_with fail
    refine (setOf_no tag _ hcs).mono ?_
    rintro e w1 ⟨rfl, hw1⟩
    replace hw1 := hw1.symm
    subst hw1
    clear hcs
    go_wp2_with fail
    go_ret
    exact ⟨rfl, below_lit _ _⟩
  | true =>
    have hcs := in_cs hi
    clear hi
    go_enter Try.func7, Try.ntmps7
    go_wp2_with fail
    refine (setOf_yes tag _ hcs).mono ?_
    rintro e w1 ⟨rfl, hw1⟩
    replace hw1 := hw1.symm
    subst hw1
    generalize setV tag = sv
    clear hcs
    go_wp2_with fail
    go_ret
    exact ⟨rfl, below_lit _ _⟩

/-- The law's own argument, in its box. -/
structure ExC (w : World) (d : Nat) (tag : Int) (a0 : Option Addr) (len0 cap0 : Nat) (bs : List UInt8) (wi : World) : Prop where
  box : wi.heap[d]? = some (.cells #[.int .i64 tag, .slice a0 len0 cap0] 24 (0, 0))
  rA : Reads w a0 len0 bs
  bel : Below w.heap.size w wi
  wd : w.heap.size ≤ d
theorem ExC.below {w : World} {d : Nat} {tag : Int} {a0 : Option Addr} {len0 cap0 : Nat} {bs : List UInt8} {wi wj : World} (h : ExC w d tag a0 len0 cap0 bs wi) (hB : Below wi.heap.size wi wj) : ExC w d tag a0 len0 cap0 bs wj :=
  ⟨(hB.block _ (lt_of_block h.box)).trans h.box, h.rA, Below.next h.bel hB, h.wd⟩
theorem ExC.reads {w : World} {d : Nat} {tag : Int} {a0 : Option Addr} {len0 cap0 : Nat} {bs : List UInt8} {wi : World} (h : ExC w d tag a0 len0 cap0 bs wi) : Reads wi a0 len0 bs := h.rA.below rfl h.bel

/-- A cell in its box d, its bytes in block g (where they are nil: a number of a block of which nothing is carried). -/
structure BoxC (d : Nat) (tag : Int) (ao : Option Addr) (g n c : Nat) (bs : List UInt8) (wi : World) : Prop where
  box : wi.heap[d]? = some (.cells #[.int .i64 tag, .slice ao n c] 27 (0, 0))
  row : RowO wi ao g bs
  len : bs.length = n
  hc : n ≤ c
  hz : ao = none → c = 0
  lt : g < d
theorem BoxC.below {d : Nat} {tag : Int} {ao : Option Addr} {g n c : Nat} {bs : List UInt8} {wi wj : World} (h : BoxC d tag ao g n c bs wi) (hB : Below wi.heap.size wi wj) : BoxC d tag ao g n c bs wj :=
  ⟨(hB.block _ (lt_of_block h.box)).trans h.box, h.row.below hB, h.len, h.hc, h.hz, h.lt⟩
theorem BoxC.reads {d : Nat} {tag : Int} {ao : Option Addr} {g n c : Nat} {bs : List UInt8} {wi : World} (h : BoxC d tag ao g n c bs wi) : Reads wi ao n bs := h.row.reads h.len
theorem boxC_row {w1 : World} {tag : Int} {g n : Nat} {bs : List UInt8} (hR : Row w1 g bs) (hn : bs.length = n) : BoxC w1.heap.size tag (some ⟨g, 0, none⟩) g n n bs (w1.alloc (.cells #[.int .i64 tag, .slice (some ⟨g, 0, none⟩) n n] 27)) :=
  ⟨alloc_new w1 _ rfl, .inr ⟨rfl, hR.below (below_lit w1 _)⟩, hn, Nat.le_refl _, (fun h => by cases h), hR.lt⟩

end Go.Proofs.Ytgefabagpcjegaa
