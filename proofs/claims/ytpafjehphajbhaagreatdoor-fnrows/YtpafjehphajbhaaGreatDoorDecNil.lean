/- Contracts of Decode at bytes that are nil, and at bytes that may be nil. -/
import Derived.Test.YtpafjehphajbhaaGreatDoorCodeA
import Derived.Test.YtpafjehphajbhaaGreatDoorBoxA
import Derived.Test.YtpafjehphajbhaaGreatDoorDrawA
namespace Go.Proofs.YtpafjehphajbhaaGreatDoor
set_option maxRecDepth 4000
open Go.RowKit

theorem dec_nil (cs : Int) : decOk cs [] = inB cs 0 5 ∧ decS cs [] = [] := by
  have e : decOk cs [] = inB cs 0 5 := by simp [decOk, itemsOf_nil, lostI]
  refine ⟨e, ?_⟩
  unfold decS
  split
  · rw [itemsOf_nil]; rfl
  · rfl

set_option maxHeartbeats 400000 in
theorem readAll_nil (cs : Int) (w : World) :
    Calls Tryz.prog 99 #[setV cs, .slice none 0 0] w (TextN w [] 0) := by
  obtain ⟨i0, hi, hz0, hz1, hz2⟩ := info_parts info8
  generalize setV cs = sv
  go_enter Tryz.func99, Tryz.ntmps99
  go_wp2_with (at_make; refine wpList_make_both _ rfl _ _ 22 rfl 5 i0 (.int .u8 0) Tryz.underlying22 hi hz0 hz1 _ _ _ _ 0 0 rfl rfl rfl ?C ?nm ?b2 ?b3 ?_)
  case C => rfl
  case nm => omega
  case b2 => rw [hz2]; omega
  case b3 => unfold maxLen; omega
  have HB : Hd (Below w.heap.size w (w.alloc (.cells (madeCells #[.int .u8 0] 0) 5))) := ⟨below_lit w _⟩
  have hcv : (convert 22 9 (.slice (some ⟨w.heap.size, 0, none⟩) 0 0)).run Tryz.prog (w.alloc (.cells (madeCells #[.int .u8 0] 0) 5)) = .ok (.string ⟨#[]⟩) (w.alloc (.cells (madeCells #[.int .u8 0] 0) 5)) :=
    conv_owned (B := w.heap.size) (n := 0) (bs := []) (Own.owns (bs := []) ⟨madeCells #[.int .u8 0] 0, heap_alloc_new w _, Nat.le_refl _, Nat.zero_le _, by simp [madeCells], by simp⟩ rfl (Nat.le_refl _))
  generalize w.alloc (.cells (madeCells #[.int .u8 0] 0) 5) = w1 at *
  go_wp2_with fail
  refine wp_loop_rounds 1 ?_
  rewrite [rounds_succ]
  go_wp2_with fail
  go_ret2
  exact ⟨rfl, HB.out⟩

set_option maxHeartbeats 400000 in
theorem implDecode_nil (cs : Int) (w : World) : Calls Tryz.prog 86 #[.int .i64 cs, .slice none 0 0] w (TextB w (decS cs []) (decOk cs [])) := by
  rw [(dec_nil cs).1, (dec_nil cs).2]
  cases hi : inB cs 0 5 with
  | false =>
    have hcs : ¬ (0 ≤ cs ∧ cs ≤ 5) := of_decide_eq_false hi
    clear hi
    go_enter Tryz.func86, Tryz.ntmps86
    go_wp2_with fail
    refine (setOf_no cs _ hcs).mono ?_
    rintro e w1 ⟨rfl, hw1⟩
    replace hw1 := hw1.symm
    subst hw1
    clear hcs
    go_wp2_with fail
    go_ret2
    exact ⟨rfl, Below.refl _ _⟩
  | true =>
    have hcs := in_cs hi
    clear hi
    go_enter Tryz.func86, Tryz.ntmps86
    go_wp2_with fail
    refine (setOf_yes cs _ hcs).mono ?_
    rintro e w1 ⟨rfl, hw1⟩
    replace hw1 := hw1.symm
    subst hw1
    generalize hsv : setV cs = sv
    have HSV : Hd (setV cs = sv) := ⟨hsv⟩
    clear hsv hcs
    go_wp2_with fail
    rewrite [← HSV.out]
    refine (readAll_nil cs _).mono ?_
    rintro e w2 ⟨rfl, hB⟩
    have HB : Hd (Below w.heap.size w w2) := ⟨hB⟩
    clear hB
    go_wp2_with fail
    go_ret2
    exact ⟨rfl, HB.out⟩

set_option maxHeartbeats 400000 in
theorem specDecode_nil (cs : Int) (w : World) : Calls Tryz.prog 75 #[.int .i64 cs, .slice none 0 0] w (TextB w (decS cs []) (decOk cs [])) := by
  rw [(dec_nil cs).1, (dec_nil cs).2]
  obtain ⟨ok, hok⟩ : ∃ ok, inB cs 0 5 = ok := ⟨_, rfl⟩
  have HK : Hd (inB cs 0 5 = ok) := ⟨hok⟩
  rw [hok]
  clear hok
  have hcv : (convert 22 9 (.slice (some ⟨w.heap.size, 0, none⟩) 0 0)).run Tryz.prog (w.alloc (.cells #[] 5)) = .ok (.string ⟨#[]⟩) (w.alloc (.cells #[] 5)) :=
    conv_owned (B := w.heap.size) (n := 0) (bs := []) ((own_emp w).owns rfl (Nat.le_refl _))
  go_enter Tryz.func75, Tryz.ntmps75
  go_wp2_with fail
  refine (l5Cs_any cs _).mono ?_
  rintro e w1 ⟨rfl, hw1⟩
  replace hw1 := hw1.symm
  subst hw1
  rewrite [HK.out]
  clear HK
  cases ok with
  | false =>
    go_wp2_with fail
    go_ret2
    exact ⟨rfl, below_lit _ _⟩
  | true =>
    go_wp2_with fail
    refine wp_loop_rounds 1 ?_
    rewrite [rounds_succ]
    go_wp2_with fail
    go_ret2
    exact ⟨rfl, below_lit _ _⟩

/-- The bytes of a cell that is handed in: nil, or they lie there. -/
def CellAt (w : World) (ao : Option Addr) (n c : Nat) (bs : List UInt8) : Prop :=
  (ao = none ∧ n = 0 ∧ c = 0 ∧ bs = []) ∨ ∃ q, ao = some ⟨q, 0, none⟩ ∧ n ≤ c ∧ Lies w q n bs
theorem CellAt.below {w w' : World} {ao : Option Addr} {n c : Nat} {bs : List UInt8} (h : CellAt w ao n c bs) (hb : Below w.heap.size w w') : CellAt w' ao n c bs := by
  rcases h with h | ⟨q, h1, h2, h3⟩
  · exact .inl h
  · exact .inr ⟨q, h1, h2, h3.below hb⟩
theorem CellAt.size {w : World} {ao : Option Addr} {n c : Nat} {bs : List UInt8} (h : CellAt w ao n c bs) : bs.length = n := by
  rcases h with ⟨_, rfl, _, rfl⟩ | ⟨q, _, _, h3⟩
  · rfl
  · exact h3.size
theorem CellAt.reads {w : World} {ao : Option Addr} {n c : Nat} {bs : List UInt8} (h : CellAt w ao n c bs) : Reads w ao n bs := by
  rcases h with ⟨rfl, rfl, _, rfl⟩ | ⟨q, rfl, _, h3⟩
  · exact ⟨rfl, .inl rfl⟩
  · exact ⟨h3.size, .inr ⟨q, 0, rfl, h3.cell⟩⟩
theorem OwnO.at_ {w : World} {B c n : Nat} {ao : Option Addr} {bs : List UInt8} (h : OwnO w B ao c bs) (hn : bs.length = n) : CellAt w ao n c bs := by
  rcases h with ⟨rfl, rfl, rfl⟩ | ⟨q, rfl, _, hO⟩
  · exact .inl ⟨rfl, by simpa using hn.symm, rfl, rfl⟩
  · exact .inr ⟨q, rfl, by have := hO.le; omega, hO.lies hn⟩
theorem implDecode_o (cs : Int) (ao : Option Addr) (n c : Nat) (bs : List UInt8) (w : World) (h : CellAt w ao n c bs) (hl : n ≤ 1048576) (T : Hd (AllAt w)) :
    Calls Tryz.prog 86 #[.int .i64 cs, .slice ao n c] w (TextB w (decS cs bs) (decOk cs bs)) := by
  rcases h with ⟨rfl, rfl, rfl, rfl⟩ | ⟨q, rfl, h2, h3⟩
  · exact implDecode_nil cs w
  · exact implDecode_any cs q 0 n c bs w h3.size h2 h3.cell hl T
theorem specDecode_o (cs : Int) (ao : Option Addr) (n c : Nat) (bs : List UInt8) (w : World) (h : CellAt w ao n c bs) (hl : n ≤ 1048576) :
    Calls Tryz.prog 75 #[.int .i64 cs, .slice ao n c] w (TextB w (decS cs bs) (decOk cs bs)) := by
  rcases h with ⟨rfl, rfl, rfl, rfl⟩ | ⟨q, rfl, h2, h3⟩
  · exact specDecode_nil cs w
  · exact specDecode_any cs q 0 n c bs w h3.size h2 h3.cell hl

end Go.Proofs.YtpafjehphajbhaaGreatDoor
