/- Contracts of PutText, in the specification and in the program. Contracts of GetW, in the specification and in the program. Contracts of GetText, in the specification and in the program. Contracts of Sum, in the specification and in the program. -/
import Derived.Test.YtbeiocngiippgabDoorPutA
import Derived.Lib.AppendStr
import Derived.Laws.IdiomStrings
namespace Go.Proofs.YtbeiocngiippgabDoor
set_option maxRecDepth 4000
open Go.RowKit

theorem strCells_cb (s : ByteArray) : Lib.strCells s = s.data.toList.map cb := by
  simp [Lib.strCells, cb]

/-- What PutText answers. -/
def putText (bs : List UInt8) (s : ByteArray) : List UInt8 := if 60 < s.size then bs else bs ++ [hiB (s.size : Int), loB (s.size : Int)] ++ s.data.toList

set_option maxHeartbeats 400000 in
theorem specPutText_long (b off len cap : Nat) (bs : List UInt8) (s : ByteArray) (w : World) (hs : s.size ≤ 1073741824) (h60 : 60 < s.size) (hn : bs.length = len) (hc : ∀ j, j < len → w.cell? ⟨b, off + j, none⟩ = some (.int .u8 ((bs.getD j 0).toNat : Int))) (hb : b < w.heap.size) (hl : len ≤ 1073741824) :
    Calls Tryd.prog 27 #[.slice (some ⟨b, off, none⟩) len cap, .string s] w fun e w' => ∃ g c, e = .returned (.slice (some ⟨g, 0, none⟩) len c) ∧ w.heap.size ≤ g ∧ Own w' g c bs ∧ Below w.heap.size w w' := by
  obtain ⟨i0, hi, hz0, hz1, hz2⟩ := info_parts info8
  have hn' : Hid (bs.length = len) := hn
  have hc' : Hid (∀ j, j < len → w.cell? ⟨b, off + j, none⟩ = some (.int .u8 ((bs.getD j 0).toNat : Int))) := hc
  clear hn hc
  go_enter Tryd.func27, Tryd.ntmps27
  go_wp2_with (at_builtin; refine wpList_append_own _ rfl (.tmp 8) (.tmp 9) 22 rfl w.heap.size 5 i0 (.int .u8 0) 1 1 Tryd.underlying22 hi hz0 hz1 hz2 rfl (by decide) _ 0 [] rfl ?hown ⟨b, off, none⟩ len cap (bs.map cb) rfl ?hl ?hn ?h1 ?h63 ?hby ?hbase ?_)
  case hown => exact World.ownsRow_made w #[] 0 (Nat.le_refl _) (by unfold maxLen; omega) rfl
  case hl => simpa using hn'.out
  case hn => exact map_cb_cell hn'.out (fun j hj => (((Below.refl w.heap.size w).alloc (Nat.le_refl _) _).cell (p := ⟨b, off + j, none⟩) hb).trans (hc'.out j hj))
  case h1 => exact one_cb bs
  case h63 => unfold maxLen; omega
  case hby => omega
  case hbase => simp
  intro v1 w1 hown1 hgr1 hne1
  obtain ⟨g1, c1, hv1, hg1, hR1⟩ := own_row hown1 hne1
  have hB1 : Hid (Below w.heap.size w w1) := ((Below.refl _ w).alloc (Nat.le_refl _) _).grown hgr1 (by simp) (fun k h => by simp [Value.ownBlock] at h; omega)
  have HR1 : Hid (Own w1 g1 c1 bs) := hR1
  rw [hv1]
  clear hown1 hgr1 hne1 hv1 hR1 hc'
  go_wp2
  go_ret
  exact ⟨g1, c1, rfl, hg1, HR1.out, hB1.out⟩

set_option maxHeartbeats 400000 in
theorem specPutText_short (b off len cap : Nat) (bs : List UInt8) (s : ByteArray) (w : World) (h60 : ¬ 60 < s.size) (hn : bs.length = len) (hc : ∀ j, j < len → w.cell? ⟨b, off + j, none⟩ = some (.int .u8 ((bs.getD j 0).toNat : Int))) (hb : b < w.heap.size) (hl : len ≤ 1073741824) :
    Calls Tryd.prog 27 #[.slice (some ⟨b, off, none⟩) len cap, .string s] w fun e w' => ∃ g c, e = .returned (.slice (some ⟨g, 0, none⟩) (len + 2 + s.size) c) ∧ w.heap.size ≤ g ∧ Own w' g c (bs ++ [hiB (s.size : Int), loB (s.size : Int)] ++ s.data.toList) ∧ Below w.heap.size w w' := by
  obtain ⟨i0, hi, hz0, hz1, hz2⟩ := info_parts info8
  have hn' : Hid (bs.length = len) := hn
  have hc' : Hid (∀ j, j < len → w.cell? ⟨b, off + j, none⟩ = some (.int .u8 ((bs.getD j 0).toNat : Int))) := hc
  clear hn hc
  go_enter Tryd.func27, Tryd.ntmps27
  go_wp2_with fail
  refine (specPutW_some b off len cap bs _ _ hn'.out hc'.out hb hl).mono ?_
  rintro e w1 ⟨g, c, rfl, hg, hO, hB⟩
  have hlt := hO.row.lt
  have hown := hO.owns (n := len + 2) (by simp [hn'.out]) (Nat.le_refl g)
  have HB : Hid (Below w.heap.size w w1) := hB
  have hs1 := hB.size
  clear hc' hO hB
  go_wp2_with (at_builtin; refine Lib.wpList_append_own_string _ rfl (.tmp 14) (.tmp 15) 22 9 rfl g 5 i0 Tryd.underlying22 Tryd.underlying9 hi hz0 hz1 hz2 _ (len + 2) _ rfl hown s rfl ?h63 ?hby ?hbase ?_)
  case h63 => unfold maxLen; omega
  case hby => omega
  case hbase => omega
  intro v2 w2 hown2 hgr2 hne2
  replace hown2 : w2.ownsRow g 5 1 v2 (len + 2 + s.size) ((bs ++ [hiB (s.size : Int), loB (s.size : Int)] ++ s.data.toList).map cb) := by rw [strCells_cb] at hown2; simpa using hown2
  obtain ⟨g2, c2, hv2, hg2, hR2⟩ := own_row hown2 (by simpa using hne2)
  have hB2 : Hid (Below w.heap.size w w2) := HB.out.grown hgr2 hs1 (fun k h => by simp [Value.ownBlock] at h; omega)
  have HR2 : Hid (Own w2 g2 c2 (bs ++ [hiB (s.size : Int), loB (s.size : Int)] ++ s.data.toList)) := hR2
  rw [hv2]
  clear hown2 hgr2 hne2 hv2 hR2 hown
  go_wp2
  go_ret
  exact ⟨g2, c2, rfl, by omega, HR2.out, hB2.out⟩

set_option maxHeartbeats 400000 in
theorem implPutText_long (b off len cap : Nat) (bs : List UInt8) (s : ByteArray) (w : World) (hs : s.size ≤ 1073741824) (h60 : 60 < s.size) (hn : bs.length = len) (hc : ∀ j, j < len → w.cell? ⟨b, off + j, none⟩ = some (.int .u8 ((bs.getD j 0).toNat : Int))) (hb : b < w.heap.size) (hl : len ≤ 1073741824) :
    Calls Tryd.prog 35 #[.slice (some ⟨b, off, none⟩) len cap, .string s] w fun e w' => ∃ g c, e = .returned (.slice (some ⟨g, 0, none⟩) len c) ∧ w.heap.size ≤ g ∧ Own w' g c bs ∧ Below w.heap.size w w' := by
  have hn' : Hid (bs.length = len) := hn
  have hc' : Hid (∀ j, j < len → w.cell? ⟨b, off + j, none⟩ = some (.int .u8 ((bs.getD j 0).toNat : Int))) := hc
  clear hn hc
  go_enter Tryd.func35, Tryd.ntmps35
  go_wp2_with fail
  refine (putWords_nil b off len cap bs _ hn'.out hc'.out hb hl).mono ?_
  rintro e w1 ⟨c, rfl, hO, hB⟩
  go_wp2
  go_ret
  exact ⟨w.heap.size, c, rfl, Nat.le_refl _, hO, hB⟩

set_option maxHeartbeats 400000 in
theorem implPutText_short (b off len cap : Nat) (bs : List UInt8) (s : ByteArray) (w : World) (h60 : ¬ 60 < s.size) (hn : bs.length = len) (hc : ∀ j, j < len → w.cell? ⟨b, off + j, none⟩ = some (.int .u8 ((bs.getD j 0).toNat : Int))) (hb : b < w.heap.size) (hl : len ≤ 1073741824) :
    Calls Tryd.prog 35 #[.slice (some ⟨b, off, none⟩) len cap, .string s] w fun e w' => ∃ g c, e = .returned (.slice (some ⟨g, 0, none⟩) (len + 2 + s.size) c) ∧ w.heap.size ≤ g ∧ Own w' g c (bs ++ [hiB (s.size : Int), loB (s.size : Int)] ++ s.data.toList) ∧ Below w.heap.size w w' := by
  obtain ⟨i0, hi, hz0, hz1, hz2⟩ := info_parts info8
  have hn' : Hid (bs.length = len) := hn
  have hc' : Hid (∀ j, j < len → w.cell? ⟨b, off + j, none⟩ = some (.int .u8 ((bs.getD j 0).toNat : Int))) := hc
  clear hn hc
  go_enter Tryd.func35, Tryd.ntmps35
  go_wp2_with fail
  refine (putWords_some b off len cap bs w.heap.size 1 1 [(s.size : Int)] _ hn'.out ?hc2 ?hb2 hl rfl (by omega) ?hw2).mono ?_
  case hc2 => intro j hj; exact (((Below.refl w.heap.size w).alloc (Nat.le_refl _) _).cell (p := ⟨b, off + j, none⟩) hb).trans (hc'.out j hj)
  case hb2 => simp; omega
  case hw2 =>
    intro j hj
    obtain rfl : j = 0 := by omega
    simp
  rintro e w1 ⟨c, rfl, hO, hB⟩
  have HB : Hid (Below w.heap.size w w1) := ((Below.refl _ w).alloc (Nat.le_refl _) _).trans (hB.mono (by simp))
  have hO' : Own w1 (w.heap.size + 1) c (bs ++ [hiB (s.size : Int), loB (s.size : Int)]) := by simpa [wordBytes] using hO
  have hown := hO'.owns (n := len + 2 * 1) (by simp [hn'.out]) (Nat.le_refl (w.heap.size + 1))
  have hs1 := HB.out.size
  have hlt := hO'.row.lt
  clear hc' hO hB hO'
  go_wp2_with (at_builtin; refine Lib.wpList_append_own_string _ rfl (.tmp 14) (.tmp 15) 22 9 rfl (w.heap.size + 1) 5 i0 Tryd.underlying22 Tryd.underlying9 hi hz0 hz1 hz2 _ (len + 2 * 1) _ rfl hown s rfl ?h63 ?hby ?hbase ?_)
  case h63 => unfold maxLen; omega
  case hby => omega
  case hbase => omega
  intro v2 w2 hown2 hgr2 hne2
  replace hown2 : w2.ownsRow (w.heap.size + 1) 5 1 v2 (len + 2 + s.size) ((bs ++ [hiB (s.size : Int), loB (s.size : Int)] ++ s.data.toList).map cb) := by rw [strCells_cb] at hown2; simpa using hown2
  obtain ⟨g2, c2, hv2, hg2, hR2⟩ := own_row hown2 (by simpa using hne2)
  have hB2 : Hid (Below w.heap.size w w2) := HB.out.grown hgr2 hs1 (fun k h => by simp [Value.ownBlock] at h; omega)
  have HR2 : Hid (Own w2 g2 c2 (bs ++ [hiB (s.size : Int), loB (s.size : Int)] ++ s.data.toList)) := hR2
  rw [hv2]
  clear hown2 hgr2 hne2 hv2 hR2 hown
  go_wp2
  go_ret
  exact ⟨g2, c2, rfl, by omega, HR2.out, hB2.out⟩

theorem putText_len (bs : List UInt8) (s : ByteArray) : (putText bs s).length ≤ bs.length + 62 := by
  unfold putText; split <;> simp <;> omega

theorem specPutText_any (b off len cap : Nat) (bs : List UInt8) (s : ByteArray) (w : World) (hs : s.size ≤ 1073741824) (hn : bs.length = len) (hc : ∀ j, j < len → w.cell? ⟨b, off + j, none⟩ = some (.int .u8 ((bs.getD j 0).toNat : Int))) (hb : b < w.heap.size) (hl : len ≤ 1073741824) :
    Calls Tryd.prog 27 #[.slice (some ⟨b, off, none⟩) len cap, .string s] w fun e w' => ∃ g c, e = .returned (.slice (some ⟨g, 0, none⟩) (putText bs s).length c) ∧ w.heap.size ≤ g ∧ Own w' g c (putText bs s) ∧ Below w.heap.size w w' := by
  by_cases h60 : 60 < s.size
  · have e : putText bs s = bs := by unfold putText; rw [if_pos h60]
    rw [e, hn]; exact specPutText_long b off len cap bs s w hs h60 hn hc hb hl
  · have e : putText bs s = bs ++ [hiB (s.size : Int), loB (s.size : Int)] ++ s.data.toList := by unfold putText; rw [if_neg h60]
    have e2 : (bs ++ [hiB (s.size : Int), loB (s.size : Int)] ++ s.data.toList).length = len + 2 + s.size := by simp [hn]; omega
    rw [e, e2]; exact specPutText_short b off len cap bs s w h60 hn hc hb hl

theorem implPutText_any (b off len cap : Nat) (bs : List UInt8) (s : ByteArray) (w : World) (hs : s.size ≤ 1073741824) (hn : bs.length = len) (hc : ∀ j, j < len → w.cell? ⟨b, off + j, none⟩ = some (.int .u8 ((bs.getD j 0).toNat : Int))) (hb : b < w.heap.size) (hl : len ≤ 1073741824) :
    Calls Tryd.prog 35 #[.slice (some ⟨b, off, none⟩) len cap, .string s] w fun e w' => ∃ g c, e = .returned (.slice (some ⟨g, 0, none⟩) (putText bs s).length c) ∧ w.heap.size ≤ g ∧ Own w' g c (putText bs s) ∧ Below w.heap.size w w' := by
  by_cases h60 : 60 < s.size
  · have e : putText bs s = bs := by unfold putText; rw [if_pos h60]
    rw [e, hn]; exact implPutText_long b off len cap bs s w hs h60 hn hc hb hl
  · have e : putText bs s = bs ++ [hiB (s.size : Int), loB (s.size : Int)] ++ s.data.toList := by unfold putText; rw [if_neg h60]
    have e2 : (bs ++ [hiB (s.size : Int), loB (s.size : Int)] ++ s.data.toList).length = len + 2 + s.size := by simp [hn]; omega
    rw [e, e2]; exact implPutText_short b off len cap bs s w h60 hn hc hb hl

set_option maxHeartbeats 400000 in
theorem implGetW_in (b off len cap k : Nat) (x y : UInt8) (w : World) (hl : len ≤ 1073741824) (hk : k + 2 ≤ len)
    (h1 : w.cell? ⟨b, off + k, none⟩ = some (.int .u8 (x.toNat : Int))) (h2 : w.cell? ⟨b, off + (k + 1), none⟩ = some (.int .u8 (y.toNat : Int))) :
    Calls Tryd.prog 93 #[.slice (some ⟨b, off, none⟩) len cap, .int .i64 k] w fun e w' => e = .returned (.tuple #[.int .i64 (wordOf x y : Int), .int .i64 ((k + 2 : Nat) : Int), .bool true]) ∧ ∃ n, w' = w.drewN n := by
  have k0 : ¬ (k : Int) < 0 := by omega
  have k1 : ¬ ((len : Int) - 2 < (k : Int)) := by omega
  have k2 : (k : Int) < (len : Int) := by omega
  have k3 : (k : Int) + 1 < (len : Int) := by omega
  go_enter Tryd.func93, Tryd.ntmps93
  go_wp2_with fail
  go_quiet (fail)
  go_wp2
  go_ret3
  exact ⟨ret3_int (word_bits x y) (by omega) rfl, _, rfl⟩

set_option maxHeartbeats 400000 in
theorem implGetW_out (ao : Option Addr) (len cap : Nat) (at_ : Int) (w : World) (hl : len ≤ 1073741824) (hk : at_ < 0 ∨ (len : Int) - 2 < at_) :
    Calls Tryd.prog 93 #[.slice ao len cap, .int .i64 at_] w fun e w' => e = .returned (.tuple #[.int .i64 0, .int .i64 0, .bool false]) ∧ ∃ n, w' = w.drewN n := by
  by_cases h0 : at_ < 0
  · go_enter Tryd.func93, Tryd.ntmps93
    go_wp2
    go_ret3
    exact ⟨rfl, 0, rfl⟩
  · have h1 : (len : Int) - 2 < at_ := by omega
    clear hk
    go_enter Tryd.func93, Tryd.ntmps93
    go_wp2
    go_ret3
    exact ⟨rfl, 0, rfl⟩

set_option maxHeartbeats 400000 in
theorem specGetW_in (b off len cap k : Nat) (x y : UInt8) (w : World) (hl : len ≤ 1073741824) (hk : k + 2 ≤ len)
    (h1 : w.cell? ⟨b, off + k, none⟩ = some (.int .u8 (x.toNat : Int))) (h2 : w.cell? ⟨b, off + (k + 1), none⟩ = some (.int .u8 (y.toNat : Int))) :
    Calls Tryd.prog 92 #[.slice (some ⟨b, off, none⟩) len cap, .int .i64 k] w fun e w' => e = .returned (.tuple #[.int .i64 (wordOf x y : Int), .int .i64 ((k + 2 : Nat) : Int), .bool true]) ∧ ∃ n, w' = w.drewN n := by
  have k2 : (k : Int) < (len : Int) := by omega
  have k3 : (k : Int) + 1 < (len : Int) := by omega
  have hin : inB (k : Int) 0 ((len : Int) - 2) = true := in_t (by omega)
  go_enter Tryd.func92, Tryd.ntmps92
  go_wp2_with (go_at_call 54; refine (l1In_any _ _ _ _).mono ?_; rintro e w' ⟨rfl, rfl⟩)
  go_quiet (fail)
  go_wp2
  go_ret3
  exact ⟨ret3_int (word_bits x y) (by omega) rfl, _, rfl⟩

set_option maxHeartbeats 400000 in
theorem specGetW_out (ao : Option Addr) (len cap : Nat) (at_ : Int) (w : World) (hl : len ≤ 1073741824) (hk : at_ < 0 ∨ (len : Int) - 2 < at_) :
    Calls Tryd.prog 92 #[.slice ao len cap, .int .i64 at_] w fun e w' => e = .returned (.tuple #[.int .i64 0, .int .i64 0, .bool false]) ∧ ∃ n, w' = w.drewN n := by
  have hin : inB at_ 0 ((len : Int) - 2) = false := in_f (by omega)
  clear hk
  go_enter Tryd.func92, Tryd.ntmps92
  go_wp2_with (go_at_call 54; refine (l1In_any _ _ _ _).mono ?_; rintro e w' ⟨rfl, rfl⟩)
  go_ret3
  exact ⟨rfl, 0, rfl⟩

/-- What GetW answers: of the bytes bs at a place. -/
def getW (bs : List UInt8) (at_ : Int) : Int × Int × Bool :=
  if 0 ≤ at_ ∧ at_ ≤ (bs.length : Int) - 2 then ((wordOf (bs.getD at_.toNat 0) (bs.getD (at_.toNat + 1) 0) : Int), at_ + 2, true) else (0, 0, false)

theorem getW_in (bs : List UInt8) (k : Nat) (h : k + 2 ≤ bs.length) : getW bs (k : Int) = ((wordOf (bs.getD k 0) (bs.getD (k + 1) 0) : Int), ((k + 2 : Nat) : Int), true) := by
  unfold getW; rw [if_pos (by omega)]; simp
theorem getW_out (bs : List UInt8) (at_ : Int) (h : at_ < 0 ∨ (bs.length : Int) - 2 < at_) : getW bs at_ = (0, 0, false) := by
  unfold getW; rw [if_neg (by omega)]

theorem implGetW_any (ao : Option Addr) (len cap : Nat) (bs : List UInt8) (at_ : Int) (w : World) (hr : Reads w ao len bs) (hl : len ≤ 1073741824) :
    Calls Tryd.prog 93 #[.slice ao len cap, .int .i64 at_] w fun e w' => e = .returned (.tuple #[.int .i64 (getW bs at_).1, .int .i64 (getW bs at_).2.1, .bool (getW bs at_).2.2]) ∧ ∃ n, w' = w.drewN n := by
  by_cases h : at_ < 0 ∨ (len : Int) - 2 < at_
  · rw [getW_out bs at_ (by rw [hr.1]; exact h)]
    exact implGetW_out ao len cap at_ w hl h
  · obtain ⟨hn, h0 | ⟨b, off, rfl, hc⟩⟩ := hr
    · omega
    · obtain ⟨k, rfl⟩ := Int.eq_ofNat_of_zero_le (show 0 ≤ at_ from by omega)
      rw [getW_in bs k (by omega)]
      exact implGetW_in b off len cap k _ _ w hl (by omega) (hc k (by omega)) (hc (k + 1) (by omega))

theorem specGetW_any (ao : Option Addr) (len cap : Nat) (bs : List UInt8) (at_ : Int) (w : World) (hr : Reads w ao len bs) (hl : len ≤ 1073741824) :
    Calls Tryd.prog 92 #[.slice ao len cap, .int .i64 at_] w fun e w' => e = .returned (.tuple #[.int .i64 (getW bs at_).1, .int .i64 (getW bs at_).2.1, .bool (getW bs at_).2.2]) ∧ ∃ n, w' = w.drewN n := by
  by_cases h : at_ < 0 ∨ (len : Int) - 2 < at_
  · rw [getW_out bs at_ (by rw [hr.1]; exact h)]
    exact specGetW_out ao len cap at_ w hl h
  · obtain ⟨hn, h0 | ⟨b, off, rfl, hc⟩⟩ := hr
    · omega
    · obtain ⟨k, rfl⟩ := Int.eq_ofNat_of_zero_le (show 0 ≤ at_ from by omega)
      rw [getW_in bs k (by omega)]
      exact specGetW_in b off len cap k _ _ w hl (by omega) (hc k (by omega)) (hc (k + 1) (by omega))

theorem conv_none (a : Addr) (c : Nat) (w : World) : (convert 22 9 (.slice (some a) 0 c)).run Tryd.prog w = .ok (.string ⟨#[]⟩) w :=
  run_convert_bytes_back (P := Tryd.prog) w 22 9 5 a c [] Tryd.underlying22 Tryd.underlying5 Tryd.underlying9 (fun j hj => absurd hj (by simp))
theorem conv_some (b off : Nat) (l : List UInt8) (n c : Nat) (w : World) (hn : l.length = n) (hc : ∀ j, j < n → w.cell? ⟨b, off + j, none⟩ = some (.int .u8 ((l.getD j 0).toNat : Int))) :
    (convert 22 9 (.slice (some ⟨b, off, none⟩) n c)).run Tryd.prog w = .ok (.string ⟨l.toArray⟩) w := by
  subst hn
  refine run_convert_bytes_back (P := Tryd.prog) w 22 9 5 ⟨b, off, none⟩ c l Tryd.underlying22 Tryd.underlying5 Tryd.underlying9 (fun j hj => ?_)
  rw [Addr.add_lit, hc j hj]
  simp [List.getD, List.getElem?_eq_getElem hj]

theorem implGetW_is {ao : Option Addr} {len cap : Nat} {bs : List UInt8} {at_ r1 r2 : Int} {r3 : Bool} {w : World} (hr : Hid (Reads w ao len bs)) (hl : len ≤ 1073741824) (hg : Hid (getW bs at_ = (r1, r2, r3))) :
    Calls Tryd.prog 93 #[.slice ao len cap, .int .i64 at_] w fun e w' => e = .returned (.tuple #[.int .i64 r1, .int .i64 r2, .bool r3]) ∧ ∃ n, w' = w.drewN n := by
  have h := implGetW_any ao len cap bs at_ w hr.out hl
  rw [hg.out] at h; exact h

theorem specGetW_is {ao : Option Addr} {len cap : Nat} {bs : List UInt8} {at_ r1 r2 : Int} {r3 : Bool} {w : World} (hr : Hid (Reads w ao len bs)) (hl : len ≤ 1073741824) (hg : Hid (getW bs at_ = (r1, r2, r3))) :
    Calls Tryd.prog 92 #[.slice ao len cap, .int .i64 at_] w fun e w' => e = .returned (.tuple #[.int .i64 r1, .int .i64 r2, .bool r3]) ∧ ∃ n, w' = w.drewN n := by
  have h := specGetW_any ao len cap bs at_ w hr.out hl
  rw [hg.out] at h; exact h

/-- What GetText answers. -/
def getText (bs : List UInt8) (at_ : Int) : ByteArray × Int × Bool :=
  if (getW bs at_).2.2 = true ∧ (getW bs at_).1 ≤ 60 ∧ (getW bs at_).1 ≤ (bs.length : Int) - (getW bs at_).2.1 then
    (⟨((bs.drop (getW bs at_).2.1.toNat).take (getW bs at_).1.toNat).toArray⟩, (getW bs at_).2.1 + (getW bs at_).1, true) else (⟨#[]⟩, 0, false)

theorem getW_cases (bs : List UInt8) (at_ : Int) : (∃ m p : Nat, getW bs at_ = ((m : Int), (p : Int), true) ∧ p ≤ bs.length) ∨ getW bs at_ = (0, 0, false) := by
  by_cases h : at_ < 0 ∨ (bs.length : Int) - 2 < at_
  · exact .inr (getW_out bs at_ h)
  · obtain ⟨k, rfl⟩ := Int.eq_ofNat_of_zero_le (show 0 ≤ at_ from by omega)
    exact .inl ⟨_, k + 2, getW_in bs k (by omega), by omega⟩

set_option maxHeartbeats 400000 in
theorem implGetText_d (b off len cap : Nat) (bs : List UInt8) (at_ : Int) (m p : Nat) (w : World) (hn : bs.length = len) (hlc : len ≤ cap) (hc : ∀ j, j < len → w.cell? ⟨b, off + j, none⟩ = some (.int .u8 ((bs.getD j 0).toNat : Int))) (hl : len ≤ 1073741824)
    (hg : getW bs at_ = ((m : Int), (p : Int), true)) (hm : m ≤ 60) (hpm : p + m ≤ len) (h0 : ¬ m = 0) :
    Calls Tryd.prog 87 #[.slice (some ⟨b, off, none⟩) len cap, .int .i64 at_] w fun e w' => e = .returned (.tuple #[.string ⟨((bs.drop p).take m).toArray⟩, .int .i64 ((p + m : Nat) : Int), .bool true]) ∧ ∃ n, w' = w.drewN n := by
  have Hr : Hid (Reads w (some ⟨b, off, none⟩) len bs) := ⟨hn, .inr ⟨b, off, rfl, hc⟩⟩
  have Hg : Hid (getW bs at_ = ((m : Int), (p : Int), true)) := hg
  have hlen : ((bs.drop p).take m).length = m := by simp; omega
  have k1 : ¬ (60 : Int) < (m : Int) := by omega
  have k2 : ¬ ((len : Int) - (p : Int) < (m : Int)) := by omega
  have k3 : (p : Int) ≤ (p : Int) + (m : Int) := by omega
  have k4 : (p : Int) + (m : Int) ≤ (cap : Int) := by omega
  have hconv : ∀ c nq, (convert 22 9 (.slice (some ⟨b, off + p, none⟩) m c)).run Tryd.prog (w.drewN nq) = .ok (.string ⟨((bs.drop p).take m).toArray⟩) (w.drewN nq) := by
    intro c nq
    refine conv_some b (off + p) _ m c (w.drewN nq) hlen (fun j hj => ?_)
    rw [Nat.add_assoc]
    show w.cell? _ = _
    rw [hc (p + j) (by omega)]
    congr 3
    simp [List.getD, hj]
  clear hg hc hn hlen
  generalize ((bs.drop p).take m).toArray = S at *
  go_enter Tryd.func87, Tryd.ntmps87
  go_wp2_with fail
  refine (implGetW_is Hr hl Hg).mono ?_
  rintro e w1 ⟨rfl, n, rfl⟩
  go_wp2_with fail
  go_ret3
  exact ⟨rfl, n, rfl⟩

set_option maxHeartbeats 400000 in
theorem implGetText_0 (b off len cap : Nat) (bs : List UInt8) (at_ : Int) (p : Nat) (w : World) (hlc : len ≤ cap) (hr : Reads w (some ⟨b, off, none⟩) len bs) (hl : len ≤ 1073741824)
    (hg : getW bs at_ = (0, (p : Int), true)) (hpm : p ≤ len) :
    Calls Tryd.prog 87 #[.slice (some ⟨b, off, none⟩) len cap, .int .i64 at_] w fun e w' => e = .returned (.tuple #[.string ⟨#[]⟩, .int .i64 (p : Int), .bool true]) ∧ ∃ n, w' = w.drewN n := by
  have Hr : Hid (Reads w (some ⟨b, off, none⟩) len bs) := hr
  have Hg : Hid (getW bs at_ = (0, (p : Int), true)) := hg
  have k2 : ¬ ((len : Int) - (p : Int) < 0) := by omega
  have k4 : (p : Int) ≤ (cap : Int) := by omega
  have hconv := conv_none
  clear hg hr
  go_enter Tryd.func87, Tryd.ntmps87
  go_wp2_with fail
  refine (implGetW_is Hr hl Hg).mono ?_
  rintro e w1 ⟨rfl, n, rfl⟩
  go_wp2_with fail
  all_goals go_ret3
  all_goals exact ⟨rfl, n, rfl⟩

set_option maxHeartbeats 400000 in
theorem implGetText_no (ao : Option Addr) (len cap : Nat) (bs : List UInt8) (at_ : Int) (r1 r2 : Int) (r3 : Bool) (w : World) (hr : Reads w ao len bs) (hl : len ≤ 1073741824)
    (hg : getW bs at_ = (r1, r2, r3)) (b2 : 0 ≤ r2 ∧ r2 ≤ 1073741824) (hno : r3 = false ∨ 60 < r1 ∨ (len : Int) - r2 < r1) :
    Calls Tryd.prog 87 #[.slice ao len cap, .int .i64 at_] w fun e w' => e = .returned (.tuple #[.string ⟨#[]⟩, .int .i64 0, .bool false]) ∧ ∃ n, w' = w.drewN n := by
  have Hr : Hid (Reads w ao len bs) := hr
  have Hg : Hid (getW bs at_ = (r1, r2, r3)) := hg
  clear hg hr
  obtain ⟨b2, b3⟩ := b2
  cases r3 with
  | false =>
    clear hno
    go_enter Tryd.func87, Tryd.ntmps87
    go_wp2_with fail
    refine (implGetW_is Hr hl Hg).mono ?_
    rintro e w1 ⟨rfl, n, rfl⟩
    go_wp2_with fail
    go_ret3
    exact ⟨rfl, n, rfl⟩
  | true =>
    by_cases h60 : 60 < r1
    · clear hno
      go_enter Tryd.func87, Tryd.ntmps87
      go_wp2_with fail
      refine (implGetW_is Hr hl Hg).mono ?_
      rintro e w1 ⟨rfl, n, rfl⟩
      go_wp2_with fail
      go_ret3
      exact ⟨rfl, n, rfl⟩
    · have h3 : (len : Int) - r2 < r1 := by rcases hno with h | h | h; (cases h); exact absurd h h60; exact h
      clear hno
      go_enter Tryd.func87, Tryd.ntmps87
      go_wp2_with fail
      refine (implGetW_is Hr hl Hg).mono ?_
      rintro e w1 ⟨rfl, n, rfl⟩
      go_wp2_with fail
      go_ret3
      exact ⟨rfl, n, rfl⟩

theorem implGetText_any (b off len cap : Nat) (bs : List UInt8) (at_ : Int) (w : World) (hlc : len ≤ cap) (hn : bs.length = len) (hc : ∀ j, j < len → w.cell? ⟨b, off + j, none⟩ = some (.int .u8 ((bs.getD j 0).toNat : Int))) (hl : len ≤ 1073741824) :
    Calls Tryd.prog 87 #[.slice (some ⟨b, off, none⟩) len cap, .int .i64 at_] w fun e w' => e = .returned (.tuple #[.string (getText bs at_).1, .int .i64 (getText bs at_).2.1, .bool (getText bs at_).2.2]) ∧ ∃ n, w' = w.drewN n := by
  have hr : Reads w (some ⟨b, off, none⟩) len bs := ⟨hn, .inr ⟨b, off, rfl, hc⟩⟩
  rcases getW_cases bs at_ with ⟨m, p, hg, hp⟩ | hg
  · by_cases h60 : m ≤ 60
    · by_cases hpm : p + m ≤ len
      · have e : getText bs at_ = (⟨((bs.drop p).take m).toArray⟩, ((p + m : Nat) : Int), true) := by
          unfold getText; rw [hg]; rw [if_pos ⟨rfl, by simp; omega, by simp; omega⟩]; simp
        rw [e]
        by_cases h0 : m = 0
        · subst h0
          simpa using implGetText_0 b off len cap bs at_ p w hlc hr hl (by simpa using hg) (by omega)
        · exact implGetText_d b off len cap bs at_ m p w hn hlc hc hl hg h60 hpm h0
      · have e : getText bs at_ = (⟨#[]⟩, 0, false) := by
          unfold getText; rw [hg]; rw [if_neg (by simp; omega)]
        rw [e]
        exact implGetText_no _ len cap bs at_ m p true w hr hl hg (by omega) (.inr (.inr (by omega)))
    · have e : getText bs at_ = (⟨#[]⟩, 0, false) := by
        unfold getText; rw [hg]; rw [if_neg (by simp; omega)]
      rw [e]
      exact implGetText_no _ len cap bs at_ m p true w hr hl hg (by omega) (.inr (.inl (by omega)))
  · have e : getText bs at_ = (⟨#[]⟩, 0, false) := by
      unfold getText; rw [hg]; rw [if_neg (by simp)]
    rw [e]
    exact implGetText_no _ len cap bs at_ 0 0 false w hr hl hg (by omega) (.inl rfl)

set_option maxHeartbeats 400000 in
theorem specGetText_d (b off len cap : Nat) (bs : List UInt8) (at_ : Int) (m p : Nat) (w : World) (hn : bs.length = len) (hlc : len ≤ cap) (hc : ∀ j, j < len → w.cell? ⟨b, off + j, none⟩ = some (.int .u8 ((bs.getD j 0).toNat : Int))) (hl : len ≤ 1073741824)
    (hg : getW bs at_ = ((m : Int), (p : Int), true)) (hm : m ≤ 60) (hpm : p + m ≤ len) (h0 : ¬ m = 0) :
    Calls Tryd.prog 86 #[.slice (some ⟨b, off, none⟩) len cap, .int .i64 at_] w fun e w' => e = .returned (.tuple #[.string ⟨((bs.drop p).take m).toArray⟩, .int .i64 ((p + m : Nat) : Int), .bool true]) ∧ ∃ n, w' = w.drewN n := by
  have Hr : Hid (Reads w (some ⟨b, off, none⟩) len bs) := ⟨hn, .inr ⟨b, off, rfl, hc⟩⟩
  have Hg : Hid (getW bs at_ = ((m : Int), (p : Int), true)) := hg
  have hlen : ((bs.drop p).take m).length = m := by simp; omega
  have k1 : ¬ (60 : Int) < (m : Int) := by omega
  have k2 : ¬ ((len : Int) - (p : Int) < (m : Int)) := by omega
  have k3 : (p : Int) ≤ (p : Int) + (m : Int) := by omega
  have k4 : (p : Int) + (m : Int) ≤ (cap : Int) := by omega
  have hconv : ∀ c nq, (convert 22 9 (.slice (some ⟨b, off + p, none⟩) m c)).run Tryd.prog (w.drewN nq) = .ok (.string ⟨((bs.drop p).take m).toArray⟩) (w.drewN nq) := by
    intro c nq
    refine conv_some b (off + p) _ m c (w.drewN nq) hlen (fun j hj => ?_)
    rw [Nat.add_assoc]
    show w.cell? _ = _
    rw [hc (p + j) (by omega)]
    congr 3
    simp [List.getD, hj]
  clear hg hc hn hlen
  generalize ((bs.drop p).take m).toArray = S at *
  go_enter Tryd.func86, Tryd.ntmps86
  go_wp2_with fail
  refine (specGetW_is Hr hl Hg).mono ?_
  rintro e w1 ⟨rfl, n, rfl⟩
  go_wp2_with fail
  go_ret3
  exact ⟨rfl, n, rfl⟩

set_option maxHeartbeats 400000 in
theorem specGetText_0 (b off len cap : Nat) (bs : List UInt8) (at_ : Int) (p : Nat) (w : World) (hlc : len ≤ cap) (hr : Reads w (some ⟨b, off, none⟩) len bs) (hl : len ≤ 1073741824)
    (hg : getW bs at_ = (0, (p : Int), true)) (hpm : p ≤ len) :
    Calls Tryd.prog 86 #[.slice (some ⟨b, off, none⟩) len cap, .int .i64 at_] w fun e w' => e = .returned (.tuple #[.string ⟨#[]⟩, .int .i64 (p : Int), .bool true]) ∧ ∃ n, w' = w.drewN n := by
  have Hr : Hid (Reads w (some ⟨b, off, none⟩) len bs) := hr
  have Hg : Hid (getW bs at_ = (0, (p : Int), true)) := hg
  have k2 : ¬ ((len : Int) - (p : Int) < 0) := by omega
  have k4 : (p : Int) ≤ (cap : Int) := by omega
  have hconv := conv_none
  clear hg hr
  go_enter Tryd.func86, Tryd.ntmps86
  go_wp2_with fail
  refine (specGetW_is Hr hl Hg).mono ?_
  rintro e w1 ⟨rfl, n, rfl⟩
  go_wp2_with fail
  all_goals go_ret3
  all_goals exact ⟨rfl, n, rfl⟩

set_option maxHeartbeats 400000 in
theorem specGetText_no (ao : Option Addr) (len cap : Nat) (bs : List UInt8) (at_ : Int) (r1 r2 : Int) (r3 : Bool) (w : World) (hr : Reads w ao len bs) (hl : len ≤ 1073741824)
    (hg : getW bs at_ = (r1, r2, r3)) (b2 : 0 ≤ r2 ∧ r2 ≤ 1073741824) (hno : r3 = false ∨ 60 < r1 ∨ (len : Int) - r2 < r1) :
    Calls Tryd.prog 86 #[.slice ao len cap, .int .i64 at_] w fun e w' => e = .returned (.tuple #[.string ⟨#[]⟩, .int .i64 0, .bool false]) ∧ ∃ n, w' = w.drewN n := by
  have Hr : Hid (Reads w ao len bs) := hr
  have Hg : Hid (getW bs at_ = (r1, r2, r3)) := hg
  clear hg hr
  obtain ⟨b2, b3⟩ := b2
  cases r3 with
  | false =>
    clear hno
    go_enter Tryd.func86, Tryd.ntmps86
    go_wp2_with fail
    refine (specGetW_is Hr hl Hg).mono ?_
    rintro e w1 ⟨rfl, n, rfl⟩
    go_wp2_with fail
    go_ret3
    exact ⟨rfl, n, rfl⟩
  | true =>
    by_cases h60 : 60 < r1
    · clear hno
      go_enter Tryd.func86, Tryd.ntmps86
      go_wp2_with fail
      refine (specGetW_is Hr hl Hg).mono ?_
      rintro e w1 ⟨rfl, n, rfl⟩
      go_wp2_with fail
      go_ret3
      exact ⟨rfl, n, rfl⟩
    · have h3 : (len : Int) - r2 < r1 := by rcases hno with h | h | h; (cases h); exact absurd h h60; exact h
      clear hno
      go_enter Tryd.func86, Tryd.ntmps86
      go_wp2_with fail
      refine (specGetW_is Hr hl Hg).mono ?_
      rintro e w1 ⟨rfl, n, rfl⟩
      go_wp2_with fail
      go_ret3
      exact ⟨rfl, n, rfl⟩

theorem specGetText_any (b off len cap : Nat) (bs : List UInt8) (at_ : Int) (w : World) (hlc : len ≤ cap) (hn : bs.length = len) (hc : ∀ j, j < len → w.cell? ⟨b, off + j, none⟩ = some (.int .u8 ((bs.getD j 0).toNat : Int))) (hl : len ≤ 1073741824) :
    Calls Tryd.prog 86 #[.slice (some ⟨b, off, none⟩) len cap, .int .i64 at_] w fun e w' => e = .returned (.tuple #[.string (getText bs at_).1, .int .i64 (getText bs at_).2.1, .bool (getText bs at_).2.2]) ∧ ∃ n, w' = w.drewN n := by
  have hr : Reads w (some ⟨b, off, none⟩) len bs := ⟨hn, .inr ⟨b, off, rfl, hc⟩⟩
  rcases getW_cases bs at_ with ⟨m, p, hg, hp⟩ | hg
  · by_cases h60 : m ≤ 60
    · by_cases hpm : p + m ≤ len
      · have e : getText bs at_ = (⟨((bs.drop p).take m).toArray⟩, ((p + m : Nat) : Int), true) := by
          unfold getText; rw [hg]; rw [if_pos ⟨rfl, by simp; omega, by simp; omega⟩]; simp
        rw [e]
        by_cases h0 : m = 0
        · subst h0
          simpa using specGetText_0 b off len cap bs at_ p w hlc hr hl (by simpa using hg) (by omega)
        · exact specGetText_d b off len cap bs at_ m p w hn hlc hc hl hg h60 hpm h0
      · have e : getText bs at_ = (⟨#[]⟩, 0, false) := by
          unfold getText; rw [hg]; rw [if_neg (by simp; omega)]
        rw [e]
        exact specGetText_no _ len cap bs at_ m p true w hr hl hg (by omega) (.inr (.inr (by omega)))
    · have e : getText bs at_ = (⟨#[]⟩, 0, false) := by
        unfold getText; rw [hg]; rw [if_neg (by simp; omega)]
      rw [e]
      exact specGetText_no _ len cap bs at_ m p true w hr hl hg (by omega) (.inr (.inl (by omega)))
  · have e : getText bs at_ = (⟨#[]⟩, 0, false) := by
      unfold getText; rw [hg]; rw [if_neg (by simp)]
    rw [e]
    exact specGetText_no _ len cap bs at_ 0 0 false w hr hl hg (by omega) (.inl rfl)

theorem implGetText_is {b off len cap : Nat} {bs : List UInt8} {at_ r2 : Int} {r1 : ByteArray} {r3 : Bool} {w : World} (hlc : len ≤ cap) (hn : bs.length = len) (hc : ∀ j, j < len → w.cell? ⟨b, off + j, none⟩ = some (.int .u8 ((bs.getD j 0).toNat : Int))) (hl : len ≤ 1073741824) (hg : getText bs at_ = (r1, r2, r3)) :
    Calls Tryd.prog 87 #[.slice (some ⟨b, off, none⟩) len cap, .int .i64 at_] w fun e w' => e = .returned (.tuple #[.string r1, .int .i64 r2, .bool r3]) ∧ ∃ n, w' = w.drewN n := by
  have h := implGetText_any b off len cap bs at_ w hlc hn hc hl
  rw [hg] at h; exact h

theorem specGetText_is {b off len cap : Nat} {bs : List UInt8} {at_ r2 : Int} {r1 : ByteArray} {r3 : Bool} {w : World} (hlc : len ≤ cap) (hn : bs.length = len) (hc : ∀ j, j < len → w.cell? ⟨b, off + j, none⟩ = some (.int .u8 ((bs.getD j 0).toNat : Int))) (hl : len ≤ 1073741824) (hg : getText bs at_ = (r1, r2, r3)) :
    Calls Tryd.prog 86 #[.slice (some ⟨b, off, none⟩) len cap, .int .i64 at_] w fun e w' => e = .returned (.tuple #[.string r1, .int .i64 r2, .bool r3]) ∧ ∃ n, w' = w.drewN n := by
  have h := specGetText_any b off len cap bs at_ w hlc hn hc hl
  rw [hg] at h; exact h

/-- One of the eight steps: twice the sum, and if that is above 65535, Xor 69665. -/
def sumStep (x : Nat) : Nat := if 65535 < x * 2 then (x * 2) ^^^ 69665 else x * 2
def sumSteps (x : Nat) : Nat → Nat
  | 0 => x
  | k + 1 => sumStep (sumSteps x k)
def sumByte (x c : Nat) : Nat := sumSteps (x ^^^ c * 256) 8
def sumOf (bs : List UInt8) : Nat := bs.foldl (fun x b => sumByte x b.toNat) 65535

theorem high_bit {y i : Nat} (h1 : 65536 ≤ y) (h2 : y < 131072) (hi : 16 ≤ i) : y.testBit i = decide (i = 16) := by
  by_cases h : i = 16
  · subst h
    rw [Nat.testBit_eq_decide_div_mod_eq]
    simp; omega
  · have : y < 2 ^ i := Nat.lt_of_lt_of_le (show y < 2 ^ 17 by omega) (Nat.pow_le_pow_right (by omega) (by omega))
    rw [Nat.testBit_lt_two_pow this]; simp [h]
theorem xor_high {y : Nat} (h1 : 65536 ≤ y) (h2 : y < 131072) : y ^^^ 69665 < 65536 := by
  apply Nat.lt_pow_two_of_testBit (n := 16)
  intro i hi
  rw [Nat.testBit_xor, high_bit h1 h2 hi, high_bit (by omega) (by omega) hi]
  simp
theorem sumStep_lt {x : Nat} (h : x < 65536) : sumStep x < 65536 := by
  unfold sumStep; split
  · exact xor_high (by omega) (by omega)
  · omega
theorem sumSteps_lt {x : Nat} (h : x < 65536) (k : Nat) : sumSteps x k < 65536 := by
  induction k with
  | zero => exact h
  | succ k ih => exact sumStep_lt ih
theorem xor_lt {x c : Nat} (h : x < 65536) (hc : c < 256) : x ^^^ c * 256 < 65536 := Nat.xor_lt_two_pow (n := 16) (by omega) (by omega)
theorem sumByte_lt {x c : Nat} (h : x < 65536) (hc : c < 256) : sumByte x c < 65536 := sumSteps_lt (xor_lt h hc) 8
theorem foldl_lt (bs : List UInt8) : ∀ x, x < 65536 → bs.foldl (fun x b => sumByte x b.toNat) x < 65536 := by
  induction bs with
  | nil => intro x h; exact h
  | cons b r ih =>
    intro x h
    have hb : b.toNat < 256 := b.toNat_lt
    have h2 := sumByte_lt h hb
    rw [List.foldl_cons]
    exact ih (sumByte x b.toNat) h2
theorem sumOf_lt (bs : List UInt8) : sumOf bs < 65536 := by
  unfold sumOf; exact foldl_lt bs 65535 (by omega)
theorem sumOf_snoc (bs : List UInt8) (b : UInt8) : sumOf (bs ++ [b]) = sumByte (sumOf bs) b.toNat := by simp [sumOf]
theorem sumOf_take (bs : List UInt8) (k : Nat) (h : k < bs.length) : sumOf (bs.take (k + 1)) = sumByte (sumOf (bs.take k)) (bs.getD k 0).toNat := by
  rw [List.take_succ_eq_append_getElem h, sumOf_snoc]
  simp [List.getD, List.getElem?_eq_getElem h]

theorem step_hi {y : Nat} (hy : y < 65536) (h : (65535 : Int) < (y : Int) * 2) : bits .xor .i64 ((y : Int) * 2) 69665 = ((sumStep y : Nat) : Int) := by
  have e : (y : Int) * 2 = ((y * 2 : Nat) : Int) := by omega
  have e2 : (69665 : Int) = ((69665 : Nat) : Int) := rfl
  rw [e, e2, i64_xor _ _ (by omega) (by omega)]
  unfold sumStep; rw [if_pos (by omega)]
theorem step_lo {y : Nat} (h : ¬ (65535 : Int) < (y : Int) * 2) : (y : Int) * 2 = ((sumStep y : Nat) : Int) := by
  unfold sumStep; rw [if_neg (by omega)]; omega
theorem mask_word {y : Nat} (hy : y < 65536) : bits .and .i64 (y : Int) 65535 = (y : Int) := by
  have e2 : (65535 : Int) = ((65535 : Nat) : Int) := rfl
  rw [e2, i64_and _ _ (by omega) (by omega), show (65535 : Nat) = 2 ^ 16 - 1 from rfl, Nat.and_two_pow_sub_one_eq_mod, Nat.mod_eq_of_lt (by omega)]

theorem wrap_twice {y : Nat} (hy : y < 65536) : wrap64 ((y : Int) * 2) = (y : Int) * 2 := wrap64_in (by omega) (by omega)
theorem step_hi' {y : Nat} (hy : y < 65536) (h : (65535 : Int) < wrap64 ((y : Int) * 2)) : bits .xor .i64 (wrap64 ((y : Int) * 2)) 69665 = ((sumStep y : Nat) : Int) := by
  rw [wrap_twice hy] at h ⊢; exact step_hi hy h
theorem step_lo' {y : Nat} (hy : y < 65536) (h : wrap64 ((y : Int) * 2) ≤ 65535) : wrap64 ((y : Int) * 2) = ((sumStep y : Nat) : Int) := by
  rw [wrap_twice hy] at h ⊢; exact step_lo (by omega)

set_option maxHeartbeats 400000 in
theorem implSumByte_any (x c : Nat) (w : World) (hx : x < 65536) (hc : c < 256) :
    Calls Tryd.prog 76 #[.int .i64 x, .int .i64 c] w fun e w' => e = .returned (.int .i64 ((sumByte x c : Nat) : Int)) ∧ w' = w := by
  have hs : bits .xor .i64 (x : Int) (wrap64 (256 * (c : Int))) = ((x ^^^ c * 256 : Nat) : Int) := by
    have e : 256 * (c : Int) = ((c * 256 : Nat) : Int) := by omega
    rw [wrap64_in (by omega) (by omega), e, i64_xor _ _ (by omega) (by omega)]
  have hlt : Hd (x ^^^ c * 256 < 65536) := ⟨xor_lt hx hc⟩
  have Hfin : Hd (sumSteps (x ^^^ c * 256) 8 = sumByte x c) := ⟨rfl⟩
  clear hx hc
  generalize x ^^^ c * 256 = z at *
  go_enter Tryd.func76, Tryd.ntmps76
  go_wp2_with fail
  go_loop [0, 9] (fun s i => ∃ k : Nat, k ≤ 8 ∧ i = .int .i64 k ∧ s = .int .i64 ((sumSteps z k : Nat) : Int)) (fun _ i => 8 - (intOf i).toNat)
  case atStart => exact ⟨0, by omega, rfl, rfl⟩
  case round =>
    obtain ⟨k, hk, rfl, rfl⟩ := hrel
    have hy : Hd (sumSteps z k < 65536) := ⟨sumSteps_lt hlt.out k⟩
    have hz : Hd (sumStep (sumSteps z k) = sumSteps z (k + 1)) := ⟨rfl⟩
    by_cases hlt8 : k < 8
    · generalize sumSteps z k = y at *
      go_wp2_with fail
      · go_round
        case rel => exact ⟨k + 1, by omega, by go_num, by rw [step_hi' hy.out (by assumption), hz.out]⟩
        case measure => simp [intOf]; omega
      · go_round
        case rel => exact ⟨k + 1, by omega, by go_num, by rw [step_lo' hy.out (by assumption), hz.out]⟩
        case measure => simp [intOf]; omega
    · have hf : Hd (sumSteps z k = sumByte x c) := ⟨by rw [show k = 8 from by omega]; exact Hfin.out⟩
      go_wp2
      go_ret
      exact ⟨ret_int (by rw [hf.out]), rfl⟩


set_option maxHeartbeats 400000 in
theorem implSum_some (b off len cap : Nat) (bs : List UInt8) (w : World) (hn : bs.length = len) (hc : ∀ j, j < len → w.cell? ⟨b, off + j, none⟩ = some (.int .u8 ((bs.getD j 0).toNat : Int))) (hl : len ≤ 1073741824) :
    Calls Tryd.prog 51 #[.slice (some ⟨b, off, none⟩) len cap] w fun e w' => e = .returned (.int .i64 ((sumOf bs : Nat) : Int)) ∧ w' = w := by
  have hn' : Hd (bs.length = len) := ⟨hn⟩
  have hc' : Hd (∀ j, j < len → w.cell? ⟨b, off + j, none⟩ = some (.int .u8 ((bs.getD j 0).toNat : Int))) := ⟨hc⟩
  clear hn hc
  go_enter Tryd.func51, Tryd.ntmps51
  go_wp2_with fail
  go_loop [3, 8] (fun s i => ∃ k : Nat, k ≤ len ∧ i = .int .i64 k ∧ s = .int .i64 ((sumOf (bs.take k) : Nat) : Int)) (fun _ i => len - (intOf i).toNat)
  case atStart => exact ⟨0, Nat.zero_le _, rfl, rfl⟩
  case round =>
    obtain ⟨k, hk, rfl, rfl⟩ := hrel
    by_cases hlt : k < len
    · have hcell := hc'.out k hlt
      have hs : Hd (sumOf (bs.take (k + 1)) = sumByte (sumOf (bs.take k)) (bs.getD k 0).toNat) := ⟨sumOf_take bs k (by rw [hn'.out]; exact hlt)⟩
      have hy : Hd (sumOf (bs.take k) < 65536) := ⟨sumOf_lt _⟩
      have hx : Hd ((bs.getD k 0).toNat < 256) := ⟨(bs.getD k 0).toNat_lt⟩
      have hxw := cast_byte hx.out
      generalize (bs.getD k 0).toNat = x at *
      generalize sumOf (bs.take k) = y at *
      go_wp2_with fail
      refine (implSumByte_any y x _ hy.out hx.out).mono ?_
      rintro e w1 ⟨rfl, hw⟩
      subst hw
      go_wp2_with fail
      go_round
      case rel => exact ⟨k + 1, by omega, by go_num, by rw [hs.out]⟩
      case measure => simp [intOf]; omega
    · have hf : Hd (sumOf (bs.take k) = sumOf bs) := ⟨by rw [List.take_of_length_le (by rw [hn'.out]; omega)]⟩
      have hm : Hd (bits .and .i64 ((sumOf (bs.take k) : Nat) : Int) 65535 = ((sumOf (bs.take k) : Nat) : Int)) := ⟨mask_word (sumOf_lt _)⟩
      go_wp2_with fail
      go_ret
      exact ⟨ret_int (hm.out.trans (by rw [hf.out])), rfl⟩

set_option maxHeartbeats 400000 in
theorem implSum_none (ao : Option Addr) (cap : Nat) (w : World) :
    Calls Tryd.prog 51 #[.slice ao 0 cap] w fun e w' => e = .returned (.int .i64 ((sumOf [] : Nat) : Int)) ∧ w' = w := by
  have hm : Hd (bits .and .i64 65535 65535 = ((sumOf [] : Nat) : Int)) := ⟨mask_word (y := 65535) (by omega)⟩
  go_enter Tryd.func51, Tryd.ntmps51
  go_wp2_with fail
  refine wp_loop_rounds 1 ?_
  rw [rounds_succ]
  go_wp2_with fail
  go_ret
  exact ⟨ret_int hm.out, rfl⟩

theorem implSum_any (ao : Option Addr) (len cap : Nat) (bs : List UInt8) (w : World) (hr : Reads w ao len bs) (hl : len ≤ 1073741824) :
    Calls Tryd.prog 51 #[.slice ao len cap] w fun e w' => e = .returned (.int .i64 ((sumOf bs : Nat) : Int)) ∧ w' = w := by
  obtain ⟨hn, h0 | ⟨b, off, rfl, hc⟩⟩ := hr
  · subst h0
    obtain rfl : bs = [] := List.eq_nil_of_length_eq_zero hn
    exact implSum_none ao cap w
  · exact implSum_some b off len cap bs w hn hc hl

theorem spec_in {y x : Nat} (hy : y < 65536) (hx : x < 256) : bits .xor .i64 (y : Int) (wrap64 ((x : Int) * 256)) = ((y ^^^ x * 256 : Nat) : Int) := by
  have e : (x : Int) * 256 = ((x * 256 : Nat) : Int) := by omega
  rw [wrap64_in (by omega) (by omega), e, i64_xor _ _ (by omega) (by omega)]

set_option maxHeartbeats 400000 in
theorem specSum_some (b off len cap : Nat) (bs : List UInt8) (w : World) (hn : bs.length = len) (hc : ∀ j, j < len → w.cell? ⟨b, off + j, none⟩ = some (.int .u8 ((bs.getD j 0).toNat : Int))) (hl : len ≤ 1073741824) :
    Calls Tryd.prog 47 #[.slice (some ⟨b, off, none⟩) len cap] w fun e w' => e = .returned (.int .i64 ((sumOf bs : Nat) : Int)) ∧ w' = w := by
  have hn' : Hd (bs.length = len) := ⟨hn⟩
  have hc' : Hd (∀ j, j < len → w.cell? ⟨b, off + j, none⟩ = some (.int .u8 ((bs.getD j 0).toNat : Int))) := ⟨hc⟩
  clear hn hc
  go_enter Tryd.func47, Tryd.ntmps47
  go_wp2_with fail
  go_loop [3, 4] (fun s i => ∃ k : Nat, k ≤ len ∧ i = .int .i64 k ∧ s = .int .i64 ((sumOf (bs.take k) : Nat) : Int)) (fun _ i => len - (intOf i).toNat)
  case atStart => exact ⟨0, Nat.zero_le _, rfl, rfl⟩
  case round =>
    obtain ⟨k, hk, rfl, rfl⟩ := hrel
    by_cases hlt : k < len
    · have hcell := hc'.out k hlt
      have hs : Hd (sumOf (bs.take (k + 1)) = sumByte (sumOf (bs.take k)) (bs.getD k 0).toNat) := ⟨sumOf_take bs k (by rw [hn'.out]; exact hlt)⟩
      have hy : Hd (sumOf (bs.take k) < 65536) := ⟨sumOf_lt _⟩
      have hx : Hd ((bs.getD k 0).toNat < 256) := ⟨(bs.getD k 0).toNat_lt⟩
      have hxw := cast_byte hx.out
      generalize (bs.getD k 0).toNat = x at *
      generalize sumOf (bs.take k) = y at *
      have hin := spec_in hy.out hx.out
      have hzl : Hd (y ^^^ x * 256 < 65536) := ⟨xor_lt hy.out hx.out⟩
      have hfin : Hd (sumSteps (y ^^^ x * 256) 8 = sumOf (bs.take (k + 1))) := ⟨by rw [hs.out]; rfl⟩
      clear hs
      generalize y ^^^ x * 256 = z at *
      go_wp2_with fail
      go_loop [3, 5] (fun s i => ∃ j : Nat, j ≤ 8 ∧ i = .int .i64 j ∧ s = .int .i64 ((sumSteps z j : Nat) : Int)) (fun _ i => 8 - (intOf i).toNat)
      case atStart => exact ⟨0, by omega, rfl, rfl⟩
      case round =>
        obtain ⟨j, hj, rfl, rfl⟩ := hrel
        have hq : Hd (sumSteps z j < 65536) := ⟨sumSteps_lt hzl.out j⟩
        have hz : Hd (sumStep (sumSteps z j) = sumSteps z (j + 1)) := ⟨rfl⟩
        by_cases hlt8 : j < 8
        · generalize sumSteps z j = q at *
          go_wp2_with fail
          · go_round
            case rel => exact ⟨j + 1, by omega, by go_num, by rw [step_hi' hq.out (by assumption), hz.out]⟩
            case measure => simp [intOf]; omega
          · go_round
            case rel => exact ⟨j + 1, by omega, by go_num, by rw [step_lo' hq.out (by assumption), hz.out]⟩
            case measure => simp [intOf]; omega
        · have hf : Hd (sumSteps z j = sumOf (bs.take (k + 1))) := ⟨by rw [show j = 8 from by omega]; exact hfin.out⟩
          go_wp2_with fail
          go_round
          case rel => exact ⟨k + 1, by omega, by go_num, by rw [hf.out]⟩
          case measure => simp [intOf]; omega
    · have hf : Hd (sumOf (bs.take k) = sumOf bs) := ⟨by rw [List.take_of_length_le (by rw [hn'.out]; omega)]⟩
      have hm : Hd (bits .and .i64 ((sumOf (bs.take k) : Nat) : Int) 65535 = ((sumOf (bs.take k) : Nat) : Int)) := ⟨mask_word (sumOf_lt _)⟩
      go_wp2_with fail
      go_ret
      exact ⟨ret_int (hm.out.trans (by rw [hf.out])), rfl⟩

set_option maxHeartbeats 400000 in
theorem specSum_none (ao : Option Addr) (cap : Nat) (w : World) :
    Calls Tryd.prog 47 #[.slice ao 0 cap] w fun e w' => e = .returned (.int .i64 ((sumOf [] : Nat) : Int)) ∧ w' = w := by
  have hm : Hd (bits .and .i64 65535 65535 = ((sumOf [] : Nat) : Int)) := ⟨mask_word (y := 65535) (by omega)⟩
  go_enter Tryd.func47, Tryd.ntmps47
  go_wp2_with fail
  refine wp_loop_rounds 1 ?_
  rw [rounds_succ]
  go_wp2_with fail
  go_ret
  exact ⟨ret_int hm.out, rfl⟩

theorem specSum_any (ao : Option Addr) (len cap : Nat) (bs : List UInt8) (w : World) (hr : Reads w ao len bs) (hl : len ≤ 1073741824) :
    Calls Tryd.prog 47 #[.slice ao len cap] w fun e w' => e = .returned (.int .i64 ((sumOf bs : Nat) : Int)) ∧ w' = w := by
  obtain ⟨hn, h0 | ⟨b, off, rfl, hc⟩⟩ := hr
  · subst h0
    obtain rfl : bs = [] := List.eq_nil_of_length_eq_zero hn
    exact specSum_none ao cap w
  · exact specSum_some b off len cap bs w hn hc hl

end Go.Proofs.YtbeiocngiippgabDoor
