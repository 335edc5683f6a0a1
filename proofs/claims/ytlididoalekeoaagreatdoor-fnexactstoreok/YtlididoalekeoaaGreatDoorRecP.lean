/- Plain facts on records: what is right; a row's bytes, a record's bytes; what is read of bytes. -/
import Derived.Test.YtlididoalekeoaaGreatDoorRecDat
import Derived.Test.YtlididoalekeoaaGreatDoorRowA
import Derived.Test.YtlididoalekeoaaGreatDoorTextA
namespace Go.Proofs.YtlididoalekeoaaGreatDoor
set_option maxRecDepth 4000
open Go.RowKit

def noRowB (r : RowD) : Bool := r.key.toList.isEmpty && noneB r.t1 r.b1.length && noneB r.t2 r.b2.length && (r.has == 0) && !r.aside
def whoB (r : RecD) : Bool := if r.who = 0 then (r.seq == 0) && (r.code == 0) && (r.kind != 4) else inB r.who 1 9 && inB r.seq 0 65535 && inB r.code 0 6
def recOk (r : RecD) : Bool :=
  inB r.kind 1 4 && (if r.kind = 1 then rOk r.r else noRowB r.r) && (if r.kind = 2 then nameOkB r.key else r.key.toList.isEmpty) && (if r.kind = 3 then inB r.n 0 7 else r.n == 0) && whoB r

/-- A byte of a number. -/
def byB (n : Int) : UInt8 := UInt8.ofNat (n % 256).toNat
theorem byB_val (n : Int) : n % 256 = ((byB n).toNat : Int) := by
  unfold byB; rw [UInt8.toNat_ofNat']; omega
def bitB (b : Bool) : UInt8 := if b = true then 1 else 0
/-- A cell, a row behind other bytes. -/
def putCellB (b : List UInt8) (t : Int) (s : List UInt8) : List UInt8 := putText (b ++ [byB t]) ⟨s.toArray⟩
def putRowB (b : List UInt8) (r : RowD) : List UInt8 :=
  if rOk r = false then b
  else
    let h := putText b r.key ++ [byB r.has, bitB r.aside]
    let o := if oldB r.has = true then putCellB h r.t1 r.b1 else h
    if newB r.has = true then putCellB o r.t2 r.b2 else o
theorem putText_small {b : List UInt8} {s : ByteArray} (h : ¬ 60 < s.size) : putText b s = b ++ [hiB (s.size : Int), loB (s.size : Int)] ++ s.data.toList := if_neg h
theorem putCellB_len (b : List UInt8) (t : Int) (s : List UInt8) : (putCellB b t s).length ≤ b.length + 63 := by
  have := putText_len (b ++ [byB t]) ⟨s.toArray⟩
  unfold putCellB
  simp at this
  omega
theorem putRowB_len (b : List UInt8) (r : RowD) : (putRowB b r).length ≤ b.length + 190 := by
  unfold putRowB
  split
  · omega
  · have h1 := putText_len b r.key
    have h2 : ∀ h : List UInt8, (if oldB r.has = true then putCellB h r.t1 r.b1 else h).length ≤ h.length + 63 := fun h => by
      split
      · exact putCellB_len _ _ _
      · omega
    have h3 : ∀ h : List UInt8, (if newB r.has = true then putCellB h r.t2 r.b2 else h).length ≤ h.length + 63 := fun h => by
      split
      · exact putCellB_len _ _ _
      · omega
    have h4 := h2 (putText b r.key ++ [byB r.has, bitB r.aside])
    have h5 := h3 (if oldB r.has = true then putCellB (putText b r.key ++ [byB r.has, bitB r.aside]) r.t1 r.b1 else putText b r.key ++ [byB r.has, bitB r.aside])
    simp only [List.length_append, List.length_cons, List.length_nil] at h4
    show (if newB r.has = true then putCellB _ r.t2 r.b2 else _).length ≤ _
    omega

end Go.Proofs.YtlididoalekeoaaGreatDoor
