/- What FnCells and FnCellsBent carry along: cells in their boxes; the contract of sameCell; plain facts. -/
import Derived.Test.YtpafjehphajbhaaGreatDoorCellM
import Derived.Test.YtpafjehphajbhaaGreatDoorDrawM
import Derived.Test.YtpafjehphajbhaaGreatDoorCodeL
import Derived.Test.YtpafjehphajbhaaGreatDoorConvC
namespace Go.Proofs.YtpafjehphajbhaaGreatDoor
set_option maxRecDepth 4000
open Go.RowKit

set_option maxHeartbeats 400000 in
theorem sameCell_true (tag : Int) (a1 : Option Addr) (n1 c1 : Nat) (a2 : Option Addr) (n2 c2 : Nat) (bs : List UInt8) (w : World) (h1 : CellAt w a1 n1 c1 bs) (h2 : CellAt w a2 n2 c2 bs) :
    Calls Tryz.prog 26 #[.agg #[.int .i64 tag, .slice a1 n1 c1], .agg #[.int .i64 tag, .slice a2 n2 c2]] w fun e w' => e = .returned (.bool true) ∧ Below w.heap.size w w' := by
  have k1 := (h1.below (below_lit2 w (.cells #[.int .i64 tag, .slice a1 n1 c1] 27) (.cells #[.int .i64 tag, .slice a2 n2 c2] 27))).conv
  have k2 := (h2.below (below_lit2 w (.cells #[.int .i64 tag, .slice a1 n1 c1] 27) (.cells #[.int .i64 tag, .slice a2 n2 c2] 27))).conv
  generalize bs.toArray = S at *
  have f1 : (tag == tag) = true := by simp
  have f2 : ((⟨S⟩ : ByteArray).toList == (⟨S⟩ : ByteArray).toList) = true := by simp
  clear h1 h2
  go_enter Tryz.func26, Tryz.ntmps26
  go_wp2_with fail
  go_ret
  exact ⟨rfl, below_lit2 w _ _⟩

/-- A cell in its box d. -/
structure CBox (d : Nat) (tag : Int) (ao : Option Addr) (n c : Nat) (bs : List UInt8) (wi : World) : Prop where
  box : wi.heap[d]? = some (.cells #[.int .i64 tag, .slice ao n c] 27 (0, 0))
  at_ : CellAt wi ao n c bs
theorem CBox.below {d : Nat} {tag : Int} {ao : Option Addr} {n c : Nat} {bs : List UInt8} {wi wj : World} (h : CBox d tag ao n c bs wi) (hB : Below wi.heap.size wi wj) : CBox d tag ao n c bs wj :=
  ⟨(hB.block _ (lt_of_block h.box)).trans h.box, h.at_.below hB⟩
theorem cBox_new {w1 : World} {tag : Int} {ao : Option Addr} {n c : Nat} {bs : List UInt8} (h : CellAt w1 ao n c bs) : CBox w1.heap.size tag ao n c bs (w1.alloc (.cells #[.int .i64 tag, .slice ao n c] 27)) :=
  ⟨alloc_new w1 _ rfl, h.below (below_lit w1 _)⟩
theorem CBox.val {d : Nat} {tag : Int} {ao : Option Addr} {n c : Nat} {bs : List UInt8} {wi wj : World} (h : CBox d tag ao n c bs wi) (hB : Below wi.heap.size wi wj) : wj.cell? ⟨d, 0, none⟩ = some (.int .i64 tag) ∧ wj.cell? ⟨d, 1, none⟩ = some (.slice ao n c) := by
  obtain ⟨h0, h1, _, _⟩ := cells2 _ d _ _ _ (h.below hB).box
  exact ⟨h0, h1⟩

theorem tOk_c {tag : Int} {bs : List UInt8} {n : Nat} (h : tOk tag bs = true) (hn : bs.length = n) : cOk tag n = true := by
  rw [← hn]
  simp only [tOk, Bool.and_eq_true] at h
  exact h.1
/-- Of a cell that was turned: what is said of it. -/
theorem turned_yes {tag to xT : Int} {bs xs : List UInt8} {ok : Bool} (hT : nTag tag bs to = xT) (hB : nB tag bs to = xs) (hK : nOk tag bs to = ok) (h : ok = true) :
    mOk xT xs tag bs = true ∧ nOk xT xs tag = true ∧ nB xT xs tag = bs ∧ nTag xT xs tag = tag ∧ xT = to := by
  have hk := hK.trans h
  obtain ⟨_, _, e3, _⟩ := nOk_t hk
  obtain ⟨_, _, b3, b4⟩ := turn_back hk
  have hs := same_turn hk
  have e : xT = to := by rw [← hT, e3]
  subst e
  rw [hB] at b3 b4 hs
  exact ⟨hs, b3, b4, (nOk_t b3).2.2.1, rfl⟩
theorem turned_no {tag to xT : Int} {bs xs : List UInt8} {ok : Bool} (hT : nTag tag bs to = xT) (hB : nB tag bs to = xs) (hK : nOk tag bs to = ok) (h : ok = false) : xT = tag ∧ xs = bs := by
  obtain ⟨e1, e2⟩ := nOk_f (hK.trans h)
  exact ⟨by rw [← hT, e1], by rw [← hB, e2]⟩
theorem said_yes {tag eT : Int} {s : ByteArray} {es : List UInt8} {n : Nat} {ok : Bool} (hT : oTag tag s.data.toList = eT) (hB : oB tag s.data.toList = es) (hK : oOk tag s.data.toList = ok) (hn : es.length = n) (h : ok = true) :
    tOk eT es = true ∧ (⟨(tS eT es).toArray⟩ : ByteArray) = s ∧ cOk eT n = true := by
  obtain ⟨_, _, e3, e4⟩ := oOk_t (hK.trans h)
  obtain ⟨c1, c2, c3⟩ := cell_back (hK.trans h)
  have e : eT = tag := by rw [← hT, e3]
  subst e
  rw [hB] at e4
  rw [← e4] at c1 c2 c3
  refine ⟨c2, ?_, by rw [← hn]; exact c1⟩
  rw [c3]
theorem turned_len {tag to : Int} {bs xs : List UInt8} (hB : nB tag bs to = xs) (h : bs.length ≤ 81) : xs.length ≤ 81 := by
  have := nB_len tag to bs
  rw [hB] at this
  omega

end Go.Proofs.YtpafjehphajbhaaGreatDoor
