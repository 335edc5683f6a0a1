/- Two slices of bytes that are new, and apart. -/
import Derived.Test.YtlididoalekeoaaGreatDoorBoxA
import Derived.Test.YtlididoalekeoaaGreatDoorSet7
namespace Go.Proofs.YtlididoalekeoaaGreatDoor
set_option maxRecDepth 4000
open Go.RowKit

theorem OwnO.of_set {w : World} {B q j c : Nat} {v : Value} {ao : Option Addr} {bs : List UInt8} (h : OwnO w B ao c bs) (hq : q < B) : OwnO (w.setCell ⟨q, j, none⟩ v) B ao c bs := by
  rcases h with h | ⟨g, rfl, h1, hO⟩
  · exact .inl h
  · exact .inr ⟨g, rfl, h1, hO.of_block (block_set rfl (by omega))⟩
/-- Two slices of bytes, each in new memory, or nil; not the same. -/
structure Apart (w : World) (B : Nat) (a1 : Option Addr) (c1 : Nat) (b1 : List UInt8) (a2 : Option Addr) (c2 : Nat) (b2 : List UInt8) : Prop where
  one : OwnO w B a1 c1 b1
  two : OwnO w B a2 c2 b2
  ne : ∀ q, a1 = some ⟨q, 0, none⟩ → a2 ≠ some ⟨q, 0, none⟩
theorem Apart.below {w w' : World} {B : Nat} {a1 : Option Addr} {c1 : Nat} {b1 : List UInt8} {a2 : Option Addr} {c2 : Nat} {b2 : List UInt8} (h : Apart w B a1 c1 b1 a2 c2 b2) (hB : Below w.heap.size w w') : Apart w' B a1 c1 b1 a2 c2 b2 := ⟨h.one.below hB, h.two.below hB, h.ne⟩
theorem Apart.mono {w : World} {B B' : Nat} {a1 : Option Addr} {c1 : Nat} {b1 : List UInt8} {a2 : Option Addr} {c2 : Nat} {b2 : List UInt8} (h : Apart w B a1 c1 b1 a2 c2 b2) (hb : B' ≤ B) : Apart w B' a1 c1 b1 a2 c2 b2 := ⟨h.one.mono hb, h.two.mono hb, h.ne⟩
theorem Apart.of_set {w : World} {B q j : Nat} {v : Value} {a1 : Option Addr} {c1 : Nat} {b1 : List UInt8} {a2 : Option Addr} {c2 : Nat} {b2 : List UInt8} (h : Apart w B a1 c1 b1 a2 c2 b2) (hq : q < B) : Apart (w.setCell ⟨q, j, none⟩ v) B a1 c1 b1 a2 c2 b2 := ⟨h.one.of_set hq, h.two.of_set hq, h.ne⟩
theorem Apart.of_set7 {w : World} {B q : Nat} {x0 x1 x2 x3 x4 x5 x6 : Value} {a1 : Option Addr} {c1 : Nat} {b1 : List UInt8} {a2 : Option Addr} {c2 : Nat} {b2 : List UInt8} (h : Apart w B a1 c1 b1 a2 c2 b2) (hq : q < B) :
    Apart (((((((w.setCell ⟨q, 0, none⟩ x0).setCell ⟨q, 1, none⟩ x1).setCell ⟨q, 2, none⟩ x2).setCell ⟨q, 3, none⟩ x3).setCell ⟨q, 4, none⟩ x4).setCell ⟨q, 5, none⟩ x5).setCell ⟨q, 6, none⟩ x6) B a1 c1 b1 a2 c2 b2 :=
  ((((((h.of_set hq).of_set hq).of_set hq).of_set hq).of_set hq).of_set hq).of_set hq

end Go.Proofs.YtlididoalekeoaaGreatDoor
