/- Contracts of PutText, in the specification and in the program. -/
import Derived.Test.YtdaieeonjakdeaaPut
import Derived.Lib.AppendStr
namespace Go.Proofs.Ytdaieeonjakdeaa
open Go.RowKit

theorem strCells_cb (s : ByteArray) : Lib.strCells s = s.data.toList.map cb := by
  simp [Lib.strCells, cb]

/-- What PutText answers. -/
def putText (bs : List UInt8) (s : ByteArray) : List UInt8 := if 60 < s.size then bs else bs ++ [hiB (s.size : Int), loB (s.size : Int)] ++ s.data.toList

set_option maxHeartbeats 400000 in
theorem implPutText_long (b off len cap : Nat) (bs : List UInt8) (s : ByteArray) (w : World) (hs : s.size ≤ 1073741824) (h60 : 60 < s.size) (hn : bs.length = len) (hc : ∀ j, j < len → w.cell? ⟨b, off + j, none⟩ = some (.int .u8 ((bs.getD j 0).toNat : Int))) (hb : b < w.heap.size) (hl : len ≤ 1073741824) :
    Calls Try.prog 10 #[.slice (some ⟨b, off, none⟩) len cap, .string s] w fun e w' => ∃ g c, e = .returned (.slice (some ⟨g, 0, none⟩) len c) ∧ w.heap.size ≤ g ∧ Own w' g c bs ∧ Below w.heap.size w w' := by
  have hn' : Hid (bs.length = len) := hn
  have hc' : Hid (∀ j, j < len → w.cell? ⟨b, off + j, none⟩ = some (.int .u8 ((bs.getD j 0).toNat : Int))) := hc
  clear hn hc
  go_enter Try.func10, Try.ntmps10
  go_wp2_with fail
  refine (putWords_nil b off len cap bs _ hn'.out hc'.out hb hl).mono ?_
  rintro e w1 ⟨c, rfl, hO, hB⟩
  go_wp2
  go_ret
  exact ⟨w.heap.size, c, rfl, Nat.le_refl _, hO, hB⟩

set_option maxHeartbeats 400000 in
theorem implPutText_short (b off len cap : Nat) (bs : List UInt8) (s : ByteArray) (w : World) (h60 : ¬ 60 < s.size) (hn : bs.length = len) (hc : ∀ j, j < len → w.cell? ⟨b, off + j, none⟩ = some (.int .u8 ((bs.getD j 0).toNat : Int))) (hb : b < w.heap.size) (hl : len ≤ 1073741824) :
    Calls Try.prog 10 #[.slice (some ⟨b, off, none⟩) len cap, .string s] w fun e w' => ∃ g c, e = .returned (.slice (some ⟨g, 0, none⟩) (len + 2 + s.size) c) ∧ w.heap.size ≤ g ∧ Own w' g c (bs ++ [hiB (s.size : Int), loB (s.size : Int)] ++ s.data.toList) ∧ Below w.heap.size w w' := by
  obtain ⟨i0, hi, hz0, hz1, hz2⟩ := info_parts info8
  have hn' : Hid (bs.length = len) := hn
  have hc' : Hid (∀ j, j < len → w.cell? ⟨b, off + j, none⟩ = some (.int .u8 ((bs.getD j 0).toNat : Int))) := hc
  clear hn hc
  go_enter Try.func10, Try.ntmps10
  go_wp2_with fail
  refine (putWords_some b off len cap bs w.heap.size 1 1 [(s.size : Int)] _ hn'.out ?hc2 ?hb2 hl rfl (by omega) ?hw2).mono ?_
  case hc2 => intro j hj; exact (((Below.refl w.heap.size w).alloc (Nat.le_refl _) _).cell (p := ⟨b, off + j, none⟩) hb).trans (hc'.out j hj)
  case hb2 => simp; omega
  case hw2 =>
    intro j hj
    obtain rfl : j = 0 := by omega
    simp
  rintro e w1 ⟨c, rfl, hO, hB⟩
  have HB : Hid (Below w.heap.size w w1) := ((Below.refl _ w).alloc (Nat.le_refl _) _).trans (hB.mono (by simp))
  have hO' : Own w1 (w.heap.size + 1) c (bs ++ [hiB (s.size : Int), loB (s.size : Int)]) := by simpa [wordBytes] using hO
  have hown := hO'.owns (n := len + 2 * 1) (by simp [hn'.out]) (Nat.le_refl (w.heap.size + 1))
  have hs1 := HB.out.size
  have hlt := hO'.row.lt
  clear hc' hO hB hO'
  go_wp2_with (at_builtin; refine Lib.wpList_append_own_string _ rfl (.tmp 14) (.tmp 15) 22 9 rfl (w.heap.size + 1) 5 i0 Try.underlying22 Try.underlying9 hi hz0 hz1 hz2 _ (len + 2 * 1) _ rfl hown s rfl ?h63 ?hby ?hbase ?_)
  case h63 => unfold maxLen; omega
  case hby => omega
  case hbase => omega
  intro v2 w2 hown2 hgr2 hne2
  replace hown2 : w2.ownsRow (w.heap.size + 1) 5 1 v2 (len + 2 + s.size) ((bs ++ [hiB (s.size : Int), loB (s.size : Int)] ++ s.data.toList).map cb) := by rw [strCells_cb] at hown2; simpa using hown2
  obtain ⟨g2, c2, hv2, hg2, hR2⟩ := own_row hown2 (by simpa using hne2)
  have hB2 : Hid (Below w.heap.size w w2) := HB.out.grown hgr2 hs1 (fun k h => by simp [Value.ownBlock] at h; omega)
  have HR2 : Hid (Own w2 g2 c2 (bs ++ [hiB (s.size : Int), loB (s.size : Int)] ++ s.data.toList)) := hR2
  rw [hv2]
  clear hown2 hgr2 hne2 hv2 hR2 hown
  go_wp2
  go_ret
  exact ⟨g2, c2, rfl, by omega, HR2.out, hB2.out⟩

theorem putText_len (bs : List UInt8) (s : ByteArray) : (putText bs s).length ≤ bs.length + 62 := by
  unfold putText; split <;> simp <;> omega

theorem implPutText_any (b off len cap : Nat) (bs : List UInt8) (s : ByteArray) (w : World) (hs : s.size ≤ 1073741824) (hn : bs.length = len) (hc : ∀ j, j < len → w.cell? ⟨b, off + j, none⟩ = some (.int .u8 ((bs.getD j 0).toNat : Int))) (hb : b < w.heap.size) (hl : len ≤ 1073741824) :
    Calls Try.prog 10 #[.slice (some ⟨b, off, none⟩) len cap, .string s] w fun e w' => ∃ g c, e = .returned (.slice (some ⟨g, 0, none⟩) (putText bs s).length c) ∧ w.heap.size ≤ g ∧ Own w' g c (putText bs s) ∧ Below w.heap.size w w' := by
  by_cases h60 : 60 < s.size
  · have e : putText bs s = bs := by unfold putText; rw [if_pos h60]
    rw [e, hn]; exact implPutText_long b off len cap bs s w hs h60 hn hc hb hl
  · have e : putText bs s = bs ++ [hiB (s.size : Int), loB (s.size : Int)] ++ s.data.toList := by unfold putText; rw [if_neg h60]
    have e2 : (bs ++ [hiB (s.size : Int), loB (s.size : Int)] ++ s.data.toList).length = len + 2 + s.size := by simp [hn]; omega
    rw [e, e2]; exact implPutText_short b off len cap bs s w h60 hn hc hb hl

end Go.Proofs.Ytdaieeonjakdeaa
