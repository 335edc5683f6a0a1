/- Contracts of Score, in the program and in the specification. -/
import Derived.Test.YtejlellhoamjgaaDoorCodeA
import Derived.Test.YtejlellhoamjgaaDoorCodeN
import Derived.Test.YtejlellhoamjgaaDoorLaidW
import Derived.Test.YtejlellhoamjgaaDoorWeiS
import Derived.Test.YtejlellhoamjgaaDoorSignsS
namespace Go.Proofs.YtejlellhoamjgaaDoor
set_option maxRecDepth 4000
open Go.RowKit

/-- The signs that bytes say in a set, with the sign of what is lost. -/
def sgL (cs : Int) (bs : List UInt8) : List Int := (itemsOf cs bs).map signI
/-- What Score answers. -/
def scoN (cs : Int) (bs : List UInt8) : Int := if decOk cs bs = true then wsum (sgL cs bs) else 0
theorem sco_yes {cs : Int} {bs : List UInt8} (h : decOk cs bs = true) : scoN cs bs = wsum (sgL cs bs) ∧ Signed (decS cs bs) (sgL cs bs) := by
  refine ⟨if_pos h, ?_⟩
  unfold decS
  rw [if_pos h]
  exact textI_signed cs bs
theorem sco_no {cs : Int} {bs : List UInt8} (h : decOk cs bs = false) : scoN cs bs = 0 ∧ decS cs bs = [] := by
  unfold scoN decS
  rw [h]
  exact ⟨rfl, rfl⟩

/-- A number and whether it is one. -/
structure NumB (w : World) (n : Int) (ok : Bool) (e : Ending) (w' : World) : Prop where
  out : e = .returned (.tuple #[.int .i64 n, .bool ok]) ∧ Below w.heap.size w w'

/-- Where the loop over a text's signs stands. -/
structure ScAt (w : World) (s : ByteArray) (l : List Int) (pos : Nat) (wr : World) : Prop where
  it : wr.heap[w.heap.size]? = some (.stringIter s pos)
  bel : Below w.heap.size w wr
  rd : ReadTo s l pos
theorem scAt_zero (w : World) (s : ByteArray) : ScAt w s [] 0 (w.iter s 0) := ⟨World.iter_heap w s 0, (Below.refl _ w).alloc (Nat.le_refl _) _, readTo_zero s⟩
theorem ScAt.lt {w : World} {s : ByteArray} {l : List Int} {pos : Nat} {wr : World} (h : ScAt w s l pos wr) : w.heap.size < wr.heap.size := (Array.getElem?_eq_some_iff.1 h.it).1
theorem ScAt.got {w : World} {s : ByteArray} {l k : List Int} {pos : Nat} {wr : World} (h : ScAt w s l pos wr) (hs : Signed s.data.toList k) (hp : pos < s.size) : ∃ n, Got (s.data.toList.drop pos) n := by
  by_cases hg : ∃ n, Got (s.data.toList.drop pos) n
  · exact hg
  · rcases readTo_stuck h.rd hp hg with ⟨h1, _⟩ | ⟨_, _, h1⟩
    · cases h1
    · exact absurd ⟨k, hs⟩ h1
theorem ScAt.next {w : World} {s : ByteArray} {l : List Int} {pos : Nat} {wr w2 : World} {n : Int} (h : ScAt w s l pos wr) (hg : Got (s.data.toList.drop pos) n)
    (hb : Below (wr.iterAt w.heap.size s (pos + (signB n).length)).heap.size (wr.iterAt w.heap.size s (pos + (signB n).length)) w2) : ScAt w s (l ++ [n]) (pos + (signB n).length) w2 := by
  have h1 : Below w.heap.size w (wr.iterAt w.heap.size s (pos + (signB n).length)) := Lib.below_iterAt h.bel (Nat.le_refl _) s _
  have h2 := Lib.iterAt_heap wr w.heap.size s pos (pos + (signB n).length) h.it
  exact ⟨(hb.block _ (Array.getElem?_eq_some_iff.1 h2).1).trans h2, Below.next h1 hb, readTo_next h.rd hg⟩
theorem ScAt.done {w : World} {s : ByteArray} {l k : List Int} {pos : Nat} {wr : World} (h : ScAt w s l pos wr) (hs : Signed s.data.toList k) (hp : ¬ pos < s.size) : l = k := by
  rcases readTo_end h.rd hp with ⟨_, h1⟩ | ⟨h1, _⟩
  · exact signed_unique h1 hs
  · cases h1

set_option maxHeartbeats 1000000 in
theorem implScore_any (cs : Int) (b off len cap : Nat) (bs : List UInt8) (w : World) (hn : bs.length = len) (hlc : len ≤ cap) (hc : ∀ j, j < len → w.cell? ⟨b, off + j, none⟩ = some (.int .u8 ((bs.getD j 0).toNat : Int))) (hl : len ≤ 1048576) (T : Hd (AllW w)) :
    Calls Tryd.prog 15 #[.int .i64 cs, .slice (some ⟨b, off, none⟩) len cap] w (NumB w (scoN cs bs) (decOk cs bs)) := by
  have Hn : Hd (bs.length = len) := ⟨hn⟩
  have Hc : Hd (∀ j, j < len → w.cell? ⟨b, off + j, none⟩ = some (.int .u8 ((bs.getD j 0).toNat : Int))) := ⟨hc⟩
  clear hn hc
  go_enter Tryd.func15, Tryd.ntmps15
  go_wp2_with fail
  refine (implDecode_any cs b off len cap bs _ Hn.out hlc Hc.out hl ⟨T.out.all⟩).mono ?_
  rintro e w1 ⟨rfl, hB1⟩
  have B1 : Hd (Below w.heap.size w w1) := ⟨hB1⟩
  have T1 : Hd (AllW w1) := ⟨T.out.below hB1⟩
  clear hB1 Hc
  cases ho : decOk cs bs with
  | false =>
    have E : Hd ((0 : Int) = scoN cs bs) := ⟨(sco_no ho).1.symm⟩
    have HO : Hd (false = decOk cs bs) := ⟨ho.symm⟩
    rw [(sco_no ho).2]
    clear ho
    go_wp2_with fail
    go_ret2
    exact ⟨ret_pair E.out HO.out, B1.out⟩
  | true =>
    obtain ⟨s1, s2⟩ := sco_yes ho
    have E : Hd (scoN cs bs = wsum (sgL cs bs)) := ⟨s1⟩
    have HO : Hd (true = decOk cs bs) := ⟨ho.symm⟩
    have SG : Hd (Signed (⟨(decS cs bs).toArray⟩ : ByteArray).data.toList (sgL cs bs)) := ⟨s2⟩
    have SZ : Hd ((⟨(decS cs bs).toArray⟩ : ByteArray).size ≤ 4194304) := ⟨by rw [size_of]; have := decS_len cs bs; have := Hn.out; omega⟩
    clear s1 s2 ho Hn
    generalize (⟨(decS cs bs).toArray⟩ : ByteArray) = s at *
    generalize sgL cs bs = L at *
    generalize scoN cs bs = N at *
    have W0 : Hd (ScAt w1 s [] 0 (w1.iter s 0)) := ⟨scAt_zero w1 s⟩
    go_wp2_with fail
    go_loopw [8] (fun v wr => ∃ (l : List Int) (pos : Nat), v = .int .i64 (wsum l) ∧ Hd (ScAt w1 s l pos wr)) (fun _ wr => s.size - wr.iterPos w1.heap.size)
    case atStart => exact ⟨[], 0, rfl, W0⟩
    case round =>
      clear W0
      obtain ⟨l, pos, rfl, H⟩ := hrel
      have hz := SZ.out
      by_cases hp : pos < s.size
      · obtain ⟨n, hg⟩ := H.out.got SG.out hp
        have hsg := hg.1
        obtain ⟨m, rfl⟩ := Int.eq_ofNat_of_zero_le (show 0 ≤ n from by rcases hsg with h | h <;> omega)
        have hm : m < 1114112 := by rcases hsg with h | h <;> omega
        have hdec := decode_got s pos hg
        rw [Int.toNat_natCast] at hdec
        have HL : Hd (1 ≤ (signB (m : Int)).length) := ⟨signB_pos hsg⟩
        have hnx : ∀ ty, (Instr.next (.pointer (some ⟨w1.heap.size, 0, none⟩)) true ty).run Tryd.prog wr = .ok (.tuple #[.bool true, .int .i64 pos, .int .i32 (m : Int)]) (wr.iterAt w1.heap.size s (pos + (signB (m : Int)).length)) := fun ty => next_is wr w1.heap.size s pos m _ ty H.out.it hp hdec
        have HG : Hd (Got (s.data.toList.drop pos) (m : Int)) := ⟨hg⟩
        have HB : Hd (Below w1.heap.size w1 (wr.iterAt w1.heap.size s (pos + (signB (m : Int)).length))) := ⟨Lib.below_iterAt H.out.bel (Nat.le_refl _) s _⟩
        have HT : Hd (WeiAt (wr.iterAt w1.heap.size s (pos + (signB (m : Int)).length))) := ⟨T1.out.wei.below HB.out⟩
        have HN : Hd (∀ w2, Below (wr.iterAt w1.heap.size s (pos + (signB (m : Int)).length)).heap.size (wr.iterAt w1.heap.size s (pos + (signB (m : Int)).length)) w2 → ScAt w1 s (l ++ [(m : Int)]) (pos + (signB (m : Int)).length) w2) := ⟨fun w2 h => H.out.next hg h⟩
        have hws : Hd (-(5 * (l.length : Int)) ≤ wsum l ∧ wsum l ≤ 3 * (l.length : Int) ∧ l.length ≤ 4194304) := ⟨(wsum_small l).1, (wsum_small l).2, by have := H.out.rd.len; omega⟩
        have Hit : Hd (wr.heap[w1.heap.size]? = some (.stringIter s pos)) := ⟨H.out.it⟩
        have hws1 : -20971520 ≤ wsum l := by have := hws.out; omega
        have hws2 : wsum l ≤ 12582912 := by have := hws.out; omega
        have W5 : Hd (wsum (l ++ [(m : Int)]) = wsum l + wei (m : Int)) := ⟨wsum_snoc l m⟩
        have w3 := wei_small (m : Int)
        have HSm : Hd (-5 ≤ wei (m : Int) ∧ wei (m : Int) ≤ 3) := ⟨w3⟩
        clear hg hsg hdec H hws w3
        generalize wr.iterAt w1.heap.size s (pos + (signB (m : Int)).length) = W1 at *
        go_wp2_with fail
        refine (implWeight_any (m : Int) _ (by omega) HT).mono ?_
        rintro e w2 ⟨rfl, hB2⟩
        have R2 : Hd (ScAt w1 s (l ++ [(m : Int)]) (pos + (signB (m : Int)).length) w2) := ⟨HN.out w2 hB2⟩
        obtain ⟨x, hx⟩ : ∃ x, wei (m : Int) = x := ⟨_, rfl⟩
        have hx1 : -5 ≤ x := by rw [← hx]; exact HSm.out.1
        have hx2 : x ≤ 3 := by rw [← hx]; exact HSm.out.2
        have W6 : Hd (wsum (l ++ [(m : Int)]) = wsum l + x) := ⟨by rw [W5.out, hx]⟩
        rewrite [hx]
        clear hB2 HN HB HT HSm hx W5
        generalize wsum l = y at *
        go_wp2_with fail
        go_roundw
        case rel => exact ⟨l ++ [(m : Int)], _, by rw [W6.out], R2⟩
        case measure => simp only [World.iterPos, R2.out.it, Hit.out]; have := HL.out; omega
      · have hnx : ∀ ty, (Instr.next (.pointer (some ⟨w1.heap.size, 0, none⟩)) true ty).run Tryd.prog wr = .ok (.tuple #[.bool false]) wr := fun ty => Lib.run_next_end_at wr w1.heap.size s pos ty H.out.it hp
        have HE : Hd (wsum l = N) := ⟨by rw [H.out.done SG.out hp, E.out]⟩
        have HB : Hd (Below w.heap.size w wr) := ⟨Below.next B1.out H.out.bel⟩
        clear H
        generalize wsum l = y at *
        go_wp2_with fail
        go_ret2
        exact ⟨ret_pair HE.out HO.out, HB.out⟩

/-- Where the loop over a list of signs stands. -/
structure SsAt (w : World) (g c : Nat) (l : List Int) (wr : World) : Prop where
  own : OwnI wr g c l
  bel : Below w.heap.size w wr

set_option maxHeartbeats 1000000 in
theorem specScore_any (cs : Int) (b off len cap : Nat) (bs : List UInt8) (w : World) (hn : bs.length = len) (hlc : len ≤ cap) (hc : ∀ j, j < len → w.cell? ⟨b, off + j, none⟩ = some (.int .u8 ((bs.getD j 0).toNat : Int))) (hl : len ≤ 1048576) :
    Calls Tryd.prog 13 #[.int .i64 cs, .slice (some ⟨b, off, none⟩) len cap] w (NumB w (scoN cs bs) (decOk cs bs)) := by
  have Hn : Hd (bs.length = len) := ⟨hn⟩
  have Hc : Hd (∀ j, j < len → w.cell? ⟨b, off + j, none⟩ = some (.int .u8 ((bs.getD j 0).toNat : Int))) := ⟨hc⟩
  clear hn hc
  go_enter Tryd.func13, Tryd.ntmps13
  go_wp2_with fail
  refine (specDecode_any cs b off len cap bs _ Hn.out hlc Hc.out hl).mono ?_
  rintro e w1 ⟨rfl, hB1⟩
  have B1 : Hd (Below w.heap.size w w1) := ⟨hB1⟩
  clear hB1 Hc
  cases ho : decOk cs bs with
  | false =>
    have E : Hd ((0 : Int) = scoN cs bs) := ⟨(sco_no ho).1.symm⟩
    have HO : Hd (false = decOk cs bs) := ⟨ho.symm⟩
    rw [(sco_no ho).2]
    clear ho
    go_wp2_with fail
    go_ret2
    exact ⟨ret_pair E.out HO.out, B1.out⟩
  | true =>
    obtain ⟨s1, s2⟩ := sco_yes ho
    have E : Hd (scoN cs bs = wsum (sgL cs bs)) := ⟨s1⟩
    have HO : Hd (true = decOk cs bs) := ⟨ho.symm⟩
    have SG : Hd (Signed (⟨(decS cs bs).toArray⟩ : ByteArray).data.toList (sgL cs bs)) := ⟨s2⟩
    have SZ : Hd ((⟨(decS cs bs).toArray⟩ : ByteArray).size ≤ 4194304) := ⟨by rw [size_of]; have := decS_len cs bs; have := Hn.out; omega⟩
    clear s1 s2 ho Hn
    generalize (⟨(decS cs bs).toArray⟩ : ByteArray) = s at *
    generalize sgL cs bs = L at *
    generalize scoN cs bs = N at *
    go_wp2_with fail
    refine (specSigns_any s _ (by have := SZ.out; omega)).mono ?_
    rintro e w2 ⟨g, c, l, ok, rfl, hA, hg, hO, hB2⟩
    have EL : Hd (wsum l = N) := ⟨by
      rcases hA with ⟨_, h1⟩ | ⟨_, _, h1⟩
      · rw [signed_unique h1 SG.out, E.out]
      · exact absurd ⟨L, SG.out⟩ h1⟩
    have LL : Hd (l.length ≤ 4194304) := ⟨by have := signsAre_len hA; rw [size_list] at this; have := SZ.out; omega⟩
    have B2 : Hd (Below w.heap.size w w2) := ⟨Below.next B1.out hB2⟩
    have O2 : Hd (OwnI w2 g c l) := ⟨hO⟩
    have hlc2 : l.length ≤ c := hO.le
    clear hA hg hO hB2 SG SZ E B1
    obtain ⟨ln, hln⟩ : ∃ ln, l.length = ln := ⟨_, rfl⟩
    have HLN : Hd (l.length = ln) := ⟨hln⟩
    rw [hln] at hlc2
    have hl4 : ln ≤ 4194304 := by have := LL.out; omega
    rewrite [hln]
    clear hln LL
    go_wp2_with fail
    go_loopw [10, 11] (fun v i wr => ∃ k : Nat, k ≤ ln ∧ i = .int .i64 k ∧ v = .int .i64 (wsum (l.take k)) ∧ wr = w2) (fun _ i _ => ln - (intOf i).toNat)
    case atStart => exact ⟨0, by omega, rfl, by simp [wsum], rfl⟩
    case round =>
      obtain ⟨k, hk, rfl, rfl, hw⟩ := hrel
      replace hw := hw.symm
      subst hw
      by_cases hlt : k < ln
      · have hkI : (k : Int) < (ln : Int) := by omega
        have hcell := O2.out.cell HLN.out k hlt
        rw [Nat.zero_add] at hcell
        have W5 : Hd (wsum (l.take (k + 1)) = wsum (l.take k) + wei (l.getD k 0)) := ⟨by
          have hk2 : k < l.length := by rw [HLN.out]; exact hlt
          rw [List.take_succ_eq_append_getElem hk2, wsum_snoc, List.getD_eq_getElem?_getD, List.getElem?_eq_getElem hk2]
          rfl⟩
        have hs := wsum_small (l.take k)
        have h1 : (l.take k).length ≤ 4194304 := by have := List.length_take_le k l; omega
        have hw1 : -20971520 ≤ wsum (l.take k) := by omega
        have hw2 : wsum (l.take k) ≤ 12582912 := by omega
        clear hs h1
        generalize l.getD k 0 = n at *
        obtain ⟨x, hx⟩ : ∃ x, wei n = x := ⟨_, rfl⟩
        have HX : Hd (wei n = x) := ⟨hx⟩
        have hx1 : -5 ≤ x := by rw [← hx]; exact (wei_small n).1
        have hx2 : x ≤ 3 := by rw [← hx]; exact (wei_small n).2
        rw [hx] at W5
        clear hx
        generalize wsum (l.take k) = y at *
        go_wp2_with fail
        refine (specWeight_any n _).mono ?_
        rintro e w3 ⟨rfl, hw3⟩
        replace hw3 := hw3.symm
        subst hw3
        rewrite [HX.out]
        go_wp2_with fail
        go_roundw
        case rel => exact ⟨k + 1, by omega, by go_num, by rw [W5.out], trivial⟩
        case measure => simp [intOf]; omega
      · obtain rfl : k = ln := by omega
        have HE : Hd (wsum (l.take k) = N) := ⟨by rw [← EL.out, List.take_of_length_le (by rw [HLN.out]; exact Nat.le_refl _)]⟩
        generalize wsum (l.take k) = y at *
        go_wp2_with fail
        go_ret2
        exact ⟨ret_pair HE.out HO.out, B2.out⟩

end Go.Proofs.YtejlellhoamjgaaDoor
