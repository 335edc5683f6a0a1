/- Contracts of l9Old, l9New, l9None and RowText, in the specification. -/
import Derived.Test.YtpafjehphajbhaaGreatDoorRowS
import Derived.Test.YtpafjehphajbhaaGreatDoorRowP
import Derived.Test.YtpafjehphajbhaaGreatDoorCellU
namespace Go.Proofs.YtpafjehphajbhaaGreatDoor
set_option maxRecDepth 4000
open Go.RowKit

/-- A row in its box. -/
structure RBox (w : World) (d : Nat) (k : ByteArray) (t1 : Int) (a1 : Option Addr) (n1 c1 : Nat) (t2 : Int) (a2 : Option Addr) (n2 c2 : Nat) (has : Int) (asd : Bool) (wx : World) : Prop where
  box : wx.heap[d]? = some (.cells #[.string k, .int .i64 t1, .slice a1 n1 c1, .int .i64 t2, .slice a2 n2 c2, .int .i64 has, .bool asd] 29 (0, 0))
  bel : Below w.heap.size w wx
theorem RBox.below {w : World} {d : Nat} {k : ByteArray} {t1 : Int} {a1 : Option Addr} {n1 c1 : Nat} {t2 : Int} {a2 : Option Addr} {n2 c2 : Nat} {has : Int} {asd : Bool} {wx wy : World} (h : RBox w d k t1 a1 n1 c1 t2 a2 n2 c2 has asd wx) (hB : Below wx.heap.size wx wy) : RBox w d k t1 a1 n1 c1 t2 a2 n2 c2 has asd wy :=
  ⟨(hB.block _ (lt_of_block h.box)).trans h.box, Below.next h.bel hB⟩
theorem rBox_new (w : World) (k : ByteArray) (t1 : Int) (a1 : Option Addr) (n1 c1 : Nat) (t2 : Int) (a2 : Option Addr) (n2 c2 : Nat) (has : Int) (asd : Bool) :
    RBox w w.heap.size k t1 a1 n1 c1 t2 a2 n2 c2 has asd (w.alloc (.cells #[.string k, .int .i64 t1, .slice a1 n1 c1, .int .i64 t2, .slice a2 n2 c2, .int .i64 has, .bool asd] 29)) := ⟨alloc_new w _ rfl, below_lit w _⟩

set_option maxHeartbeats 400000 in
theorem l9Old_any (k : ByteArray) (t1 : Int) (a1 : Option Addr) (n1 c1 : Nat) (t2 : Int) (a2 : Option Addr) (n2 c2 : Nat) (has : Int) (asd : Bool) (w : World) :
    Calls Tryz.prog 55 #[.agg #[.string k, .int .i64 t1, .slice a1 n1 c1, .int .i64 t2, .slice a2 n2 c2, .int .i64 has, .bool asd]] w fun e w' => e = .returned (.bool (oldB has)) ∧ Below w.heap.size w w' := by
  unfold oldB
  go_enter Tryz.func55, Tryz.ntmps55
  go_wp2_with fail
  go_ret
  exact ⟨rfl, below_lit w _⟩
set_option maxHeartbeats 400000 in
theorem l9New_any (k : ByteArray) (t1 : Int) (a1 : Option Addr) (n1 c1 : Nat) (t2 : Int) (a2 : Option Addr) (n2 c2 : Nat) (has : Int) (asd : Bool) (w : World) :
    Calls Tryz.prog 51 #[.agg #[.string k, .int .i64 t1, .slice a1 n1 c1, .int .i64 t2, .slice a2 n2 c2, .int .i64 has, .bool asd]] w fun e w' => e = .returned (.bool (newB has)) ∧ Below w.heap.size w w' := by
  unfold newB
  go_enter Tryz.func51, Tryz.ntmps51
  go_wp2_with fail
  go_ret
  exact ⟨rfl, below_lit w _⟩

set_option maxHeartbeats 400000 in
theorem l9None_any (t : Int) (ao : Option Addr) (n c : Nat) (w : World) :
    Calls Tryz.prog 56 #[.agg #[.int .i64 t, .slice ao n c]] w fun e w' => e = .returned (.bool (noneB t n)) ∧ Below w.heap.size w w' := by
  unfold noneB
  cases ht : (t == 0) with
  | false =>
    go_enter Tryz.func56, Tryz.ntmps56
    go_wp2_with fail
    go_ret
    exact ⟨rfl, below_lit w _⟩
  | true =>
    go_enter Tryz.func56, Tryz.ntmps56
    go_wp2_with fail
    go_ret
    exact ⟨rfl, below_lit w _⟩

set_option maxHeartbeats 400000 in
theorem specRowText_any (k : ByteArray) (t1 : Int) (a1 : Option Addr) (n1 c1 : Nat) (t2 : Int) (a2 : Option Addr) (n2 c2 : Nat) (has : Int) (asd : Bool) (b1 b2 : List UInt8) (w : World) (h1 : CellAt w a1 n1 c1 b1) (h2 : CellAt w a2 n2 c2 b2) (hl1 : n1 ≤ 1048576) (hl2 : n2 ≤ 1048576) :
    Calls Tryz.prog 21 #[.agg #[.string k, .int .i64 t1, .slice a1 n1 c1, .int .i64 t2, .slice a2 n2 c2, .int .i64 has, .bool asd]] w (TextB w (rS ⟨k, t1, b1, t2, b2, has, asd⟩) (rT ⟨k, t1, b1, t2, b2, has, asd⟩)) := by
  have H1 : Hd (CellAt w a1 n1 c1 b1) := ⟨h1⟩
  have H2 : Hd (CellAt w a2 n2 c2 b2) := ⟨h2⟩
  have F0 : Hd (RBox w w.heap.size k t1 a1 n1 c1 t2 a2 n2 c2 has asd (w.alloc (.cells #[.string k, .int .i64 t1, .slice a1 n1 c1, .int .i64 t2, .slice a2 n2 c2, .int .i64 has, .bool asd] 29))) := ⟨rBox_new w k t1 a1 n1 c1 t2 a2 n2 c2 has asd⟩
  clear h1 h2
  cases hn : newB has with
  | true =>
    have HN : Hd (newB has = true) := ⟨hn⟩
    have e1 : rS ⟨k, t1, b1, t2, b2, has, asd⟩ = tS t2 b2 := if_pos hn
    have e2 : rT ⟨k, t1, b1, t2, b2, has, asd⟩ = tOk t2 b2 := if_pos hn
    rw [e1, e2]
    clear hn e1 e2
    obtain ⟨S, hS⟩ : ∃ S, (tS t2 b2).toArray = S := ⟨_, rfl⟩
    have HS : Hd ((tS t2 b2).toArray = S) := ⟨hS⟩
    obtain ⟨ok, hok⟩ : ∃ ok, tOk t2 b2 = ok := ⟨_, rfl⟩
    have HO : Hd (tOk t2 b2 = ok) := ⟨hok⟩
    have HE : Hd (⟨(tS t2 b2).toArray⟩ = (⟨S⟩ : ByteArray)) := ⟨by rw [hS]⟩
    clear hS hok
    go_enter Tryz.func21, Tryz.ntmps21
    go_wp2_with fail
    refine (l9New_any k t1 a1 n1 c1 t2 a2 n2 c2 has asd _).mono ?_
    rintro e w1 ⟨rfl, hB⟩
    rewrite [HN.out]
    have F1 : Hd (RBox w w.heap.size k t1 a1 n1 c1 t2 a2 n2 c2 has asd w1) := ⟨F0.out.below hB⟩
    obtain ⟨_, x1, x2, x3, x4, _, _⟩ := cells7 w1 w.heap.size _ _ _ _ _ _ _ _ F1.out.box
    clear hB F0
    go_wp2_with fail
    refine (specCellText_any t2 a2 n2 c2 b2 _ (H2.out.below F1.out.bel) hl2).mono ?_
    rintro e w2 ⟨rfl, hB⟩
    rewrite [HS.out, HO.out]
    have B2 : Hd (Below w.heap.size w w2) := ⟨Below.next F1.out.bel hB⟩
    clear hB x1 x2 x3 x4 F1
    go_wp2_with fail
    go_ret2
    exact ⟨by rw [HE.out, HO.out]; rfl, B2.out⟩
  | false =>
    have HN : Hd (newB has = false) := ⟨hn⟩
    have e1 : rS ⟨k, t1, b1, t2, b2, has, asd⟩ = tS t1 b1 := if_neg (by rw [hn]; simp)
    have e2 : rT ⟨k, t1, b1, t2, b2, has, asd⟩ = tOk t1 b1 := if_neg (by rw [hn]; simp)
    rw [e1, e2]
    clear hn e1 e2
    obtain ⟨S, hS⟩ : ∃ S, (tS t1 b1).toArray = S := ⟨_, rfl⟩
    have HS : Hd ((tS t1 b1).toArray = S) := ⟨hS⟩
    obtain ⟨ok, hok⟩ : ∃ ok, tOk t1 b1 = ok := ⟨_, rfl⟩
    have HO : Hd (tOk t1 b1 = ok) := ⟨hok⟩
    have HE : Hd (⟨(tS t1 b1).toArray⟩ = (⟨S⟩ : ByteArray)) := ⟨by rw [hS]⟩
    clear hS hok
    go_enter Tryz.func21, Tryz.ntmps21
    go_wp2_with fail
    refine (l9New_any k t1 a1 n1 c1 t2 a2 n2 c2 has asd _).mono ?_
    rintro e w1 ⟨rfl, hB⟩
    rewrite [HN.out]
    have F1 : Hd (RBox w w.heap.size k t1 a1 n1 c1 t2 a2 n2 c2 has asd w1) := ⟨F0.out.below hB⟩
    obtain ⟨_, x1, x2, x3, x4, _, _⟩ := cells7 w1 w.heap.size _ _ _ _ _ _ _ _ F1.out.box
    clear hB F0
    go_wp2_with fail
    refine (specCellText_any t1 a1 n1 c1 b1 _ (H1.out.below F1.out.bel) hl1).mono ?_
    rintro e w2 ⟨rfl, hB⟩
    rewrite [HS.out, HO.out]
    have B2 : Hd (Below w.heap.size w w2) := ⟨Below.next F1.out.bel hB⟩
    clear hB x1 x2 x3 x4 F1
    go_wp2_with fail
    go_ret2
    exact ⟨by rw [HE.out, HO.out]; rfl, B2.out⟩

end Go.Proofs.YtpafjehphajbhaaGreatDoor
