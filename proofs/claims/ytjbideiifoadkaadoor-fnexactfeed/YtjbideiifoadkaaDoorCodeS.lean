/- Contracts of the specification's sets: the sign at a place, the bytes of a sign; Decode and DecodeLossy. -/
import Derived.Test.YtjbideiifoadkaaDoorCodeX
import Derived.Test.YtjbideiifoadkaaDoorCodeR
namespace Go.Proofs.YtjbideiifoadkaaDoor
set_option maxRecDepth 4000
open Go.RowKit

set_option maxHeartbeats 400000 in
theorem l5Cs_any (cs : Int) (w : World) : Calls Tryd.prog 38 #[.int .i64 cs] w fun e w' => e = .returned (.bool (inB cs 0 5)) ∧ w' = w := by
  obtain ⟨ok, hok⟩ : ∃ ok, inB cs 0 5 = ok := ⟨_, rfl⟩
  have HK : Hd (inB cs 0 5 = ok) := ⟨hok⟩
  clear hok
  go_enter Tryd.func38, Tryd.ntmps38
  go_wp2_with fail
  refine (l1In_any cs 0 5 _).mono ?_
  rintro e w1 ⟨rfl, hw⟩
  replace hw := hw.symm
  subst hw
  rewrite [HK.out]
  go_wp2_with fail
  go_ret
  exact ⟨ret_bool HK.out.symm, rfl⟩

set_option maxHeartbeats 400000 in
theorem l5Get_0 (b off len cap k : Nat) (bs : List UInt8) (w : World) (hn : bs.length = len) (hlc : len ≤ cap) (hc : ∀ j, j < len → w.cell? ⟨b, off + j, none⟩ = some (.int .u8 ((bs.getD j 0).toNat : Int))) (hl : len ≤ 1073741824) (hk : k < len) :
    Calls Tryd.prog 43 #[.int .i64 0, .slice (some ⟨b, off, none⟩) len cap, .int .i64 (k : Int)] w (SignOut w 0 (bs.drop k) k) := by
  have Hn : Hd (bs.length = len) := ⟨hn⟩
  have Hc : Hd (∀ j, j < len → w.cell? ⟨b, off + j, none⟩ = some (.int .u8 ((bs.getD j 0).toNat : Int))) := ⟨hc⟩
  have Hk : Hd (k < len) := ⟨hk⟩
  clear hn hc hk
  go_enter Tryd.func43, Tryd.ntmps43
  go_wp2_with fail
  refine (specGetSign_any b off len cap bs (k : Int) _ Hn.out hlc Hc.out hl).mono ?_
  rintro e w1 ⟨⟨n, next, ok⟩, rfl, hG, hB⟩
  have HS : Hd (SignAt 0 (bs.drop k) k n next ok) := ⟨signAt_utf (by have := Hn.out; have := Hk.out; omega) hG⟩
  have HB : Hd (Below w.heap.size w w1) := ⟨hB⟩
  clear hG hB Hc
  go_wp2_with fail
  go_ret3
  exact ⟨n, next, ok, rfl, HS.out, HB.out⟩

set_option maxHeartbeats 400000 in
theorem l5Get_5 (b off len cap k : Nat) (bs : List UInt8) (w : World) (hn : bs.length = len) (hc : ∀ j, j < len → w.cell? ⟨b, off + j, none⟩ = some (.int .u8 ((bs.getD j 0).toNat : Int))) (hl : len ≤ 1073741824) (hk : k < len) :
    Calls Tryd.prog 43 #[.int .i64 5, .slice (some ⟨b, off, none⟩) len cap, .int .i64 (k : Int)] w (SignOut w 5 (bs.drop k) k) := by
  have Hn : Hd (bs.length = len) := ⟨hn⟩
  have Hc : Hd (∀ j, j < len → w.cell? ⟨b, off + j, none⟩ = some (.int .u8 ((bs.getD j 0).toNat : Int))) := ⟨hc⟩
  have Hk : Hd (k < len) := ⟨hk⟩
  clear hn hc hk
  go_enter Tryd.func43, Tryd.ntmps43
  go_wp2_with fail
  refine (specEucSign_any b off len cap bs (k : Int) _ Hn.out Hc.out hl).mono ?_
  rintro e w1 ⟨rfl, hB⟩
  have HS : Hd (SignAt 5 (bs.drop k) k (eucAt bs (k : Int)).1 (eucAt bs (k : Int)).2.1 (eucAt bs (k : Int)).2.2) := ⟨signAt_euc (by have := Hn.out; have := Hk.out; omega)⟩
  have HB : Hd (Below w.heap.size w w1) := ⟨hB⟩
  generalize (eucAt bs (k : Int)).1 = n at *
  generalize (eucAt bs (k : Int)).2.1 = next at *
  generalize (eucAt bs (k : Int)).2.2 = ok at *
  clear hB Hc
  go_wp2_with fail
  go_ret3
  exact ⟨n, next, ok, rfl, HS.out, HB.out⟩

set_option maxHeartbeats 400000 in
theorem l5Get_b (cs : Int) (b off len cap k : Nat) (bs : List UInt8) (w : World) (h0 : cs ≠ 0) (h5 : cs ≠ 5) (hc : ∀ j, j < len → w.cell? ⟨b, off + j, none⟩ = some (.int .u8 ((bs.getD j 0).toNat : Int))) (hl : len ≤ 1073741824) (hk : k < len) :
    Calls Tryd.prog 43 #[.int .i64 cs, .slice (some ⟨b, off, none⟩) len cap, .int .i64 (k : Int)] w (SignOut w cs (bs.drop k) k) := by
  have c1 := hc k hk
  have Hs : Hd (SignAt cs (bs.drop k) k (bsN cs ((bs.getD k 0).toNat : Int)) ((k : Int) + 1) (bsOk cs ((bs.getD k 0).toNat : Int))) := ⟨signAt_byte h0 h5⟩
  have hx : (bs.getD k 0).toNat < 256 := (bs.getD k 0).toNat_lt
  have hw0 := wrap64_in (n := ((bs.getD k 0).toNat : Int)) (by omega) (by omega)
  generalize (bs.getD k 0).toNat = x at *
  have hkI : (k : Int) < (len : Int) := by omega
  have e0 : (cs == 0) = false := by simpa using h0
  have e5 : (cs == 5) = false := by simpa using h5
  clear h0 h5 hc
  go_enter Tryd.func43, Tryd.ntmps43
  go_wp2_with fail
  refine (specByteSign_any cs (x : Int) _).mono ?_
  rintro e w1 ⟨rfl, hB⟩
  have HB : Hd (Below w.heap.size w w1) := ⟨hB⟩
  clear hB c1
  generalize bsN cs (x : Int) = n at *
  generalize bsOk cs (x : Int) = ok at *
  go_wp2_with fail
  go_ret3
  exact ⟨_, _, _, rfl, Hs.out, HB.out⟩

theorem specSignAt_any (cs : Int) (b off len cap k : Nat) (bs : List UInt8) (w : World) (hn : bs.length = len) (hlc : len ≤ cap) (hc : ∀ j, j < len → w.cell? ⟨b, off + j, none⟩ = some (.int .u8 ((bs.getD j 0).toNat : Int))) (hl : len ≤ 1073741824) (hk : k < len) :
    Calls Tryd.prog 43 #[.int .i64 cs, .slice (some ⟨b, off, none⟩) len cap, .int .i64 (k : Int)] w (SignOut w cs (bs.drop k) k) := by
  by_cases h0 : cs = 0
  · subst h0; exact l5Get_0 b off len cap k bs w hn hlc hc hl hk
  by_cases h5 : cs = 5
  · subst h5; exact l5Get_5 b off len cap k bs w hn hc hl hk
  · exact l5Get_b cs b off len cap k bs w h0 h5 hc hl hk

/-- Where the loops of the specification's Decode and DecodeLossy stand. -/
structure SAt (w : World) (cs : Int) (bs : List UInt8) (k q c n lost : Nat) (wr : World) : Prop where
  out : ∃ xs : List UInt8, xs.length = n ∧ ReadAt cs bs k xs lost ∧ w.heap.size ≤ q ∧ Own wr q c xs ∧ Below w.heap.size w wr
theorem SAt.fits {w : World} {cs : Int} {bs : List UInt8} {k q c n lost : Nat} {wr : World} (h : SAt w cs bs k q c n lost wr) : k ≤ bs.length ∧ lost ≤ k ∧ n ≤ 4 * k := by
  obtain ⟨xs, h0, h1, _, _, _⟩ := h.out
  exact ⟨h1.le, h1.few, by have := h1.size; omega⟩
theorem SAt.bel {w : World} {cs : Int} {bs : List UInt8} {k q c n lost : Nat} {wr : World} (h : SAt w cs bs k q c n lost wr) : Below w.heap.size w wr := by
  obtain ⟨xs, _, _, _, _, h5⟩ := h.out; exact h5
theorem sAt_zero (w : World) (cs : Int) (bs : List UInt8) : SAt w cs bs 0 w.heap.size 0 0 0 (w.alloc (.cells #[] 5)) :=
  ⟨[], rfl, readAt_zero cs bs, Nat.le_refl _, own_none w, below_lit _ _⟩

end Go.Proofs.YtjbideiifoadkaaDoor
