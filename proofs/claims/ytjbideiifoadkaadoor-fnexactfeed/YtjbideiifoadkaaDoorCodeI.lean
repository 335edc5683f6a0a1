/- Contracts of the program's sets: which one a number has, the sign at a place, the bytes of a sign. -/
import Derived.Test.YtjbideiifoadkaaDoorCodeP
import Derived.Test.YtjbideiifoadkaaDoorEucB
import Derived.Test.YtjbideiifoadkaaDoorPutEuc
import Derived.Test.YtjbideiifoadkaaDoorLaidA
import Derived.Test.YtjbideiifoadkaaDoorGetSpecB
import Derived.Deep.RegionHeld3
namespace Go.Proofs.YtjbideiifoadkaaDoor
set_option maxRecDepth 4000
open Go.RowKit

/-- The set of a number, as the program holds it. -/
def setV (cs : Int) : Value := if cs = 0 then .iface 78 (.agg #[]) else if cs = 5 then .iface 81 (.agg #[]) else .iface 80 (.agg #[.int .i64 cs])
theorem setV_utf : setV 0 = .iface 78 (.agg #[]) := rfl
theorem setV_euc : setV 5 = .iface 81 (.agg #[]) := rfl
theorem setV_byte {cs : Int} (h0 : cs ≠ 0) (h5 : cs ≠ 5) : setV cs = .iface 80 (.agg #[.int .i64 cs]) := by
  unfold setV; rw [if_neg h0, if_neg h5]

set_option maxHeartbeats 400000 in
theorem setOf_yes (cs : Int) (w : World) (h : 0 ≤ cs ∧ cs ≤ 5) : Calls Tryd.prog 35 #[.int .i64 cs] w fun e w' => e = .returned (.tuple #[setV cs, .bool true]) ∧ w' = w := by
  rcases (show cs = 0 ∨ cs = 1 ∨ cs = 2 ∨ cs = 3 ∨ cs = 4 ∨ cs = 5 from by omega) with rfl | rfl | rfl | rfl | rfl | rfl
  all_goals
    go_enter Tryd.func35, Tryd.ntmps35
    go_wp2_with fail
    go_ret2
    exact ⟨rfl, rfl⟩

set_option maxHeartbeats 400000 in
theorem setOf_no (cs : Int) (w : World) (h : ¬ (0 ≤ cs ∧ cs ≤ 5)) : Calls Tryd.prog 35 #[.int .i64 cs] w fun e w' => e = .returned (.tuple #[.nilIface, .bool false]) ∧ w' = w := by
  have h0 : (cs == 0) = false := by simp; omega
  have h1 : (cs == 1) = false := by simp; omega
  have h2 : (cs == 2) = false := by simp; omega
  have h3 : (cs == 3) = false := by simp; omega
  have h4 : (cs == 4) = false := by simp; omega
  have h5 : (cs == 5) = false := by simp; omega
  clear h
  go_enter Tryd.func35, Tryd.ntmps35
  go_wp2_with fail
  go_ret2
  exact ⟨rfl, rfl⟩

/-- The sign at a place is answered. -/
structure SignOut (w : World) (cs : Int) (t : List UInt8) (k : Nat) (e : Ending) (w' : World) : Prop where
  out : ∃ (n next : Int) (ok : Bool), e = .returned (.tuple #[.int .i64 n, .int .i64 next, .bool ok]) ∧ SignAt cs t k n next ok ∧ Below w.heap.size w w'

theorem as_uu (w : World) : (Instr.typeAssert (.iface 78 (.agg #[])) 53 78 true).run Tryd.prog w = .ok (.tuple #[.agg #[], .bool true]) w := by kernel_rfl
theorem as_bu (w : World) (c : Int) : (Instr.typeAssert (.iface 80 (.agg #[.int .i64 c])) 53 78 true).run Tryd.prog w = .ok (.tuple #[.agg #[], .bool false]) w := by kernel_rfl
theorem as_bb (w : World) (c : Int) : (Instr.typeAssert (.iface 80 (.agg #[.int .i64 c])) 53 80 true).run Tryd.prog w = .ok (.tuple #[.agg #[.int .i64 c], .bool true]) w := by kernel_rfl
theorem as_eu (w : World) : (Instr.typeAssert (.iface 81 (.agg #[])) 53 78 true).run Tryd.prog w = .ok (.tuple #[.agg #[], .bool false]) w := by kernel_rfl
theorem as_eb (w : World) : (Instr.typeAssert (.iface 81 (.agg #[])) 53 80 true).run Tryd.prog w = .ok (.tuple #[.agg #[.int .i64 0], .bool false]) w := by kernel_rfl
theorem as_ee (w : World) : (Instr.typeAssert (.iface 81 (.agg #[])) 53 81 true).run Tryd.prog w = .ok (.tuple #[.agg #[], .bool true]) w := by kernel_rfl

set_option maxHeartbeats 400000 in
theorem signAt_0 (b off len cap k : Nat) (bs : List UInt8) (w : World) (hn : bs.length = len) (hlc : len ≤ cap) (hc : ∀ j, j < len → w.cell? ⟨b, off + j, none⟩ = some (.int .u8 ((bs.getD j 0).toNat : Int))) (hl : len ≤ 1073741824) (hk : k < len) :
    Calls Tryd.prog 52 #[setV 0, .slice (some ⟨b, off, none⟩) len cap, .int .i64 (k : Int)] w (SignOut w 0 (bs.drop k) k) := by
  have Hn : Hd (bs.length = len) := ⟨hn⟩
  have Hc : Hd (∀ j, j < len → w.cell? ⟨b, off + j, none⟩ = some (.int .u8 ((bs.getD j 0).toNat : Int))) := ⟨hc⟩
  have Hk : Hd (k < len) := ⟨hk⟩
  clear hn hc hk
  have a1 := fun w => as_uu w
  rewrite [setV_utf]
  go_enter Tryd.func52, Tryd.ntmps52
  go_wp2_with fail
  refine (implGetSign_any b off len cap bs (k : Int) _ Hn.out hlc (fun j hj => cell_below (Hc.out j hj) (below_lit _ _)) hl).mono ?_
  rintro e w1 ⟨⟨n, next, ok⟩, rfl, hG, hB⟩
  have HS : Hd (SignAt 0 (bs.drop k) k n next ok) := ⟨signAt_utf (by have := Hn.out; have := Hk.out; omega) hG⟩
  have HB : Hd (Below w.heap.size w w1) := ⟨Below.next (below_lit _ _) hB⟩
  clear hG hB Hc
  go_wp2_with fail
  go_ret3
  exact ⟨n, next, ok, rfl, HS.out, HB.out⟩

set_option maxHeartbeats 400000 in
theorem signAt_5 (b off len cap k : Nat) (bs : List UInt8) (w : World) (hn : bs.length = len) (hc : ∀ j, j < len → w.cell? ⟨b, off + j, none⟩ = some (.int .u8 ((bs.getD j 0).toNat : Int))) (hl : len ≤ 1073741824) (hk : k < len) (T : Hd (AllAt w)) :
    Calls Tryd.prog 52 #[setV 5, .slice (some ⟨b, off, none⟩) len cap, .int .i64 (k : Int)] w (SignOut w 5 (bs.drop k) k) := by
  have Hn : Hd (bs.length = len) := ⟨hn⟩
  have Hc : Hd (∀ j, j < len → w.cell? ⟨b, off + j, none⟩ = some (.int .u8 ((bs.getD j 0).toNat : Int))) := ⟨hc⟩
  have Hk : Hd (k < len) := ⟨hk⟩
  clear hn hc hk
  have a1 := fun w => as_eu w
  have a2 := fun w => as_eb w
  have a3 := fun w => as_ee w
  rewrite [setV_euc]
  go_enter Tryd.func52, Tryd.ntmps52
  go_wp2_with fail
  refine (implEucSign_any b off len cap bs (k : Int) _ Hn.out (fun j hj => cell_below (Hc.out j hj) (below_lit _ _)) hl ⟨T.out.pairs.below (below_lit _ _)⟩).mono ?_
  rintro e w1 ⟨rfl, hB⟩
  have HS : Hd (SignAt 5 (bs.drop k) k (eucAt bs (k : Int)).1 (eucAt bs (k : Int)).2.1 (eucAt bs (k : Int)).2.2) := ⟨signAt_euc (by have := Hn.out; have := Hk.out; omega)⟩
  have HB : Hd (Below w.heap.size w w1) := ⟨Below.next (below_lit _ _) hB⟩
  generalize (eucAt bs (k : Int)).1 = n at *
  generalize (eucAt bs (k : Int)).2.1 = next at *
  generalize (eucAt bs (k : Int)).2.2 = ok at *
  clear hB Hc
  go_wp2_with fail
  go_ret3
  exact ⟨n, next, ok, rfl, HS.out, HB.out⟩

set_option maxHeartbeats 400000 in
theorem signAt_b (cs : Int) (b off len cap k : Nat) (bs : List UInt8) (w : World) (h0 : cs ≠ 0) (h5 : cs ≠ 5) (hc : ∀ j, j < len → w.cell? ⟨b, off + j, none⟩ = some (.int .u8 ((bs.getD j 0).toNat : Int))) (hl : len ≤ 1073741824) (hk : k < len) (T : Hd (AllAt w)) :
    Calls Tryd.prog 52 #[setV cs, .slice (some ⟨b, off, none⟩) len cap, .int .i64 (k : Int)] w (SignOut w cs (bs.drop k) k) := by
  have c1 := hc k hk
  have hbl : b < w.heap.size := World.block_lt_of_cell? w _ c1
  have Hs : Hd (SignAt cs (bs.drop k) k (bsN cs ((bs.getD k 0).toNat : Int)) ((k : Int) + 1) (bsOk cs ((bs.getD k 0).toNat : Int))) := ⟨signAt_byte h0 h5⟩
  have hx : (bs.getD k 0).toNat < 256 := (bs.getD k 0).toNat_lt
  have hw0 := wrap64_in (n := ((bs.getD k 0).toNat : Int)) (by omega) (by omega)
  generalize (bs.getD k 0).toNat = x at *
  have a1 := fun w c => as_bu w c
  have a2 := fun w c => as_bb w c
  have hkI : (k : Int) < (len : Int) := by omega
  have hk0 : (0 : Int) ≤ (k : Int) := by omega
  have T1 : ∀ N, Hd (TabsAt ((w.alloc (.cells #[.int .i64 cs] 80)).drewN N)) := fun N => ⟨(T.out.tabs.below (below_lit _ _)).below (below_drewN' _ _ N)⟩
  have B1 : Hd (∀ N, Below w.heap.size w ((w.alloc (.cells #[.int .i64 cs] 80)).drewN N)) := ⟨fun N => Below.next (below_lit _ _) (below_drewN' _ _ N)⟩
  rewrite [setV_byte h0 h5]
  clear h0 h5 hc
  go_enter Tryd.func52, Tryd.ntmps52
  go_wp2_with fail
  go_quiet ((go_at_call 72; exact Calls.quiet_of_same (implByteSign_any _ _ _ (T1 _))))
  go_wp2_with fail
  go_ret3
  exact ⟨_, _, _, rfl, Hs.out, B1.out _⟩

/-- The sign at a place, in the program. -/
theorem implSignAt_any (cs : Int) (b off len cap k : Nat) (bs : List UInt8) (w : World) (hn : bs.length = len) (hlc : len ≤ cap) (hc : ∀ j, j < len → w.cell? ⟨b, off + j, none⟩ = some (.int .u8 ((bs.getD j 0).toNat : Int))) (hl : len ≤ 1073741824) (hk : k < len) (T : Hd (AllAt w)) :
    Calls Tryd.prog 52 #[setV cs, .slice (some ⟨b, off, none⟩) len cap, .int .i64 (k : Int)] w (SignOut w cs (bs.drop k) k) := by
  by_cases h0 : cs = 0
  · subst h0; exact signAt_0 b off len cap k bs w hn hlc hc hl hk
  by_cases h5 : cs = 5
  · subst h5; exact signAt_5 b off len cap k bs w hn hc hl hk T
  · exact signAt_b cs b off len cap k bs w h0 h5 hc hl hk T

end Go.Proofs.YtjbideiifoadkaaDoor
