/- Parts of the proof, one behind the other. -/
import Derived.Test.YtlididoalekeoaaMxRecsOf1
import Derived.Laws.CopyOwn
import Derived.Maps.AppendAt
import Derived.Laws.ResultCell
import Derived.Laws.Rows
/- Contracts of PutW, in the specification and in the program. -/
namespace Go.Proofs.Ytlididoalekeoaa
set_option maxRecDepth 4000
open Go.RowKit

def hiB (n : Int) : UInt8 := UInt8.ofNat ((n / 256) % 256).toNat
def loB (n : Int) : UInt8 := UInt8.ofNat (n % 256).toNat
theorem hiB_val (n : Int) : n / 256 % 256 = ((hiB n).toNat : Int) := by
  unfold hiB; rw [UInt8.toNat_ofNat']; omega
theorem loB_val (n : Int) : n % 256 = ((loB n).toNat : Int) := by
  unfold loB; rw [UInt8.toNat_ofNat']; omega

/-- Block g is a row of c bytes that may be written; the first ones are bs. -/
def Own (w : World) (g c : Nat) (bs : List UInt8) : Prop :=
  ∃ cur, w.heap[g]? = some (.cells cur 5 (0, 0)) ∧ bs.length ≤ c ∧ c ≤ maxLen ∧ cur.size = c ∧ cur.toList.take bs.length = bs.map cb
theorem Own.row {w : World} {g c : Nat} {bs : List UInt8} (h : Own w g c bs) : Row w g bs := by
  obtain ⟨cur, hg, h1, h2, h3, h4⟩ := h
  exact ⟨cur, hg, by omega, by omega, h4⟩
theorem Own.of_block {w w' : World} {g c : Nat} {bs : List UInt8} (h : Own w g c bs) (e : w'.heap[g]? = w.heap[g]?) : Own w' g c bs := by
  obtain ⟨cur, hg, r⟩ := h
  exact ⟨cur, e.trans hg, r⟩
theorem Own.lt {w : World} {g c : Nat} {bs : List UInt8} (h : Own w g c bs) : g < w.heap.size := h.row.lt
theorem Own.below {w w' : World} {g c : Nat} {bs : List UInt8} (h : Own w g c bs) (hb : Below w.heap.size w w') : Own w' g c bs := h.of_block (hb.block g h.lt)
theorem Own.grown {w w' : World} {g c k : Nat} {bs : List UInt8} (h : Own w g c bs) (hg : w.grownBy w' (some k)) (hne : g ≠ k) : Own w' g c bs := h.of_block (hg.block g h.lt (by simpa using hne))
theorem Own.cell {w : World} {g c : Nat} {bs : List UInt8} (h : Own w g c bs) {n : Nat} (hn : bs.length = n) : ∀ j, j < n → w.cell? ⟨g, 0 + j, none⟩ = some (.int .u8 ((bs.getD j 0).toNat : Int)) := fun j hj => by rw [Nat.zero_add]; exact h.row.cell j (by omega)
theorem Own.le {w : World} {g c : Nat} {bs : List UInt8} (h : Own w g c bs) : bs.length ≤ c := by obtain ⟨cur, _, h1, _⟩ := h; exact h1
/-- The first bytes of a row. -/
theorem Own.take {w : World} {g c : Nat} {bs : List UInt8} (h : Own w g c bs) (k : Nat) : Own w g c (bs.take k) := by
  obtain ⟨cur, hg, h1, h2, h3, h4⟩ := h
  refine ⟨cur, hg, by simp; omega, h2, h3, ?_⟩
  have : (bs.take k).length = min k bs.length := by simp
  rw [this, List.map_take, ← h4, List.take_take]
theorem Own.owns {w : World} {g c n : Nat} {bs : List UInt8} (h : Own w g c bs) (hn : bs.length = n) {base : Nat} (hb : base ≤ g) : w.ownsRow base 5 1 (.slice (some ⟨g, 0, none⟩) n c) n (bs.map cb) := by
  obtain ⟨cur, hg, h1, h2, h3, h4⟩ := h
  subst hn
  exact ⟨by simp, .inr ⟨g, c, cur, rfl, hb, hg, h1, h2, by omega, by simpa using h4⟩⟩
/-- What is owned is a row. -/
theorem own_row {w : World} {base : Nat} {v : Value} {n : Nat} {bs : List UInt8} (h : w.ownsRow base 5 1 v n (bs.map cb)) (hv : v ≠ .slice none 0 0) :
    ∃ g c, v = .slice (some ⟨g, 0, none⟩) n c ∧ base ≤ g ∧ Own w g c bs := by
  have hlen : bs.length = n := by simpa using h.1
  rcases h.2 with ⟨h', _⟩ | ⟨g', cap', cur, h', hb, hg, hnc, hm, hcs, htake⟩
  · exact absurd h' hv
  · exact ⟨g', cap', h', hb, cur, hg, by omega, hm, by omega, by rw [hlen]; simpa using htake⟩
theorem map_cb_cell {w : World} {b off len : Nat} {bs : List UInt8} (hn : bs.length = len) (hc : ∀ j, j < len → w.cell? ⟨b, off + j, none⟩ = some (.int .u8 ((bs.getD j 0).toNat : Int))) :
    ∀ j u, (bs.map cb)[j]? = some u → w.cell? ((⟨b, off, none⟩ : Addr).add j) = some u := by
  intro j u hu
  have hj : j < bs.length := by
    have := (List.getElem?_eq_some_iff.1 hu).1
    simpa using this
  rw [Addr.add_lit, hc j (by omega), ← hu]
  simp [cb, List.getD, List.getElem?_eq_getElem hj]
theorem cb_cell {w : World} {b off len : Nat} {bs : List UInt8} (hn : bs.length = len) (hc : ∀ j, j < len → w.cell? ⟨b, off + j, none⟩ = some (.int .u8 ((bs.getD j 0).toNat : Int))) :
    ∀ j a, bs[j]? = some a → w.cell? ⟨b, off + j, none⟩ = some (cb a) := by
  intro j a ha
  have hj : j < bs.length := (List.getElem?_eq_some_iff.1 ha).1
  rw [hc j (by omega)]
  simp [cb, List.getD, ha]
theorem one_cb (bs : List UInt8) : ∀ u ∈ bs.map cb, u.oneCell' = true := by
  intro u hu
  obtain ⟨_, _, rfl⟩ := List.mem_map.1 hu
  rfl

set_option maxHeartbeats 400000 in
theorem specPutW_some (b off len cap : Nat) (bs : List UInt8) (n : Int) (w : World) (hn : bs.length = len) (hc : ∀ j, j < len → w.cell? ⟨b, off + j, none⟩ = some (.int .u8 ((bs.getD j 0).toNat : Int))) (hb : b < w.heap.size) (hl : len ≤ 1073741824) :
    Calls Try.prog 49 #[.slice (some ⟨b, off, none⟩) len cap, .int .i64 n] w fun e w' => ∃ g c, e = .returned (.slice (some ⟨g, 0, none⟩) (len + 2) c) ∧ w.heap.size ≤ g ∧ Own w' g c (bs ++ [hiB n, loB n]) ∧ Below w.heap.size w w' := by
  obtain ⟨i0, hi, hz0, hz1, hz2⟩ := info_parts info8
  have hn' : Hid (bs.length = len) := hn
  have hc' : Hid (∀ j, j < len → w.cell? ⟨b, off + j, none⟩ = some (.int .u8 ((bs.getD j 0).toNat : Int))) := hc
  clear hn hc
  go_enter Try.func49, Try.ntmps49
  go_wp2_with (at_builtin; refine wpList_append_own _ rfl (.tmp 6) (.tmp 7) 22 rfl w.heap.size 5 i0 (.int .u8 0) 1 1 Try.underlying22 hi hz0 hz1 hz2 rfl (by decide) _ 0 [] rfl ?hown ⟨b, off, none⟩ len cap (bs.map cb) rfl ?hl ?hn ?h1 ?h63 ?hby ?hbase ?_)
  case hown => exact World.ownsRow_made w #[] 0 (Nat.le_refl _) (by unfold maxLen; omega) rfl
  case hl => simpa using hn'.out
  case hn => exact map_cb_cell hn'.out (fun j hj => (((Below.refl w.heap.size w).alloc (Nat.le_refl _) _).cell (p := ⟨b, off + j, none⟩) hb).trans (hc'.out j hj))
  case h1 => exact one_cb bs
  case h63 => unfold maxLen; omega
  case hby => omega
  case hbase => simp
  intro v1 w1 hown1 hgr1 hne1
  obtain ⟨g1, c1, hv1, hg1, hR1⟩ := own_row hown1 hne1
  have hB1 : Hid (Below w.heap.size w w1) := ((Below.refl _ w).alloc (Nat.le_refl _) _).grown hgr1 (by simp) (fun k h => by simp [Value.ownBlock] at h; omega)
  have ho1 : Hid (w1.ownsRow w.heap.size 5 1 (.slice (some ⟨g1, 0, none⟩) len c1) len (bs.map cb)) := by rw [hv1] at hown1; exact hown1
  have hs1 : w.heap.size ≤ w1.heap.size := hB1.out.size
  rw [hv1]
  clear hown1 hgr1 hne1 hv1 hR1 hc'
  go_wp2_with (at_builtin; refine wpList_append_own _ rfl (.tmp 9) (.tmp 15) 22 rfl w.heap.size 5 i0 (.int .u8 0) 1 1 Try.underlying22 hi hz0 hz1 hz2 rfl (by decide) _ len (bs.map cb) rfl ?hown ⟨w1.heap.size, 0, none⟩ 2 2 [.int .u8 (n / 256 % 256), .int .u8 (n % 256)] rfl ?hl ?hn ?h1 ?h63 ?hby ?hbase ?_)
  case hown => exact ho1.out.alloc _
  case hl => rfl
  case hn =>
    intro j u hj
    match j, hj with
    | 0, hj => simp at hj; subst hj; simp [Addr.add]
    | 1, hj => simp at hj; subst hj; simp [Addr.add]
  case h1 => intro u hu; simp at hu; rcases hu with rfl | rfl <;> rfl
  case h63 => unfold maxLen; omega
  case hby => omega
  case hbase => simp; omega
  intro v2 w2 hown2 hgr2 hne2
  have e2 : bs.map cb ++ [.int .u8 (n / 256 % 256), .int .u8 (n % 256)] = (bs ++ [hiB n, loB n]).map cb := by
    rw [hiB_val, loB_val]; simp [cb]
  rw [e2] at hown2
  obtain ⟨g2, c2, hv2, hg2, hR2⟩ := own_row hown2 (by simpa using hne2)
  have hB2 : Hid (Below w.heap.size w w2) := (hB1.out.alloc hs1 _).grown hgr2 (by simp; omega) (fun k h => by simp [Value.ownBlock] at h; omega)
  have HR2 : Hid (Own w2 g2 c2 (bs ++ [hiB n, loB n])) := hR2
  rw [hv2]
  clear hown2 hgr2 hne2 e2 hv2 hR2 ho1
  go_wp2
  go_ret
  exact ⟨g2, c2, rfl, hg2, HR2.out, hB2.out⟩

theorem info64 : (Try.prog.info? 3).map (fun i => (i.zero, i.size, i.bytes)) = some (some (.int .i64 0), 1, 8) := by kernel_rfl

/-- 'make([]byte, n, c)': a row of c noughts, of which the slice shows n. -/
theorem wpList_make_both {P : Program} (w : World) {ops : Array Oper} {rest : List Oper} {o : Oper} {a : Act} {Q : Exit → Act → World → Prop}
    (hg : o.guard = none) (l c : Operand) (t : TypeId) (hop : o.op = Op.makeSlice t l c)
    (e : TypeId) (i : TypeInfo) (z : Value) (h1 : P.underlying t = some (.slice e)) (h2 : P.info? e = some i) (h3 : i.zero = some z) (h4 : i.size = 1)
    (kl kc : IntKind) (L C : Int) (n m : Nat) (hl : a.eval l = .int kl L) (hc : a.eval c = .int kc C) (hL : L = (n : Int)) (hC : C = (m : Int)) (hnm : n ≤ m) (b2 : i.bytes * m ≤ 281474976710656) (b3 : m ≤ maxLen)
    (hK : wpList P ops Q rest (a.put o.dst (.slice (some ⟨w.heap.size, 0, none⟩) n m)) (w.alloc (.cells (madeCells z.cells m) e))) :
    wpList P ops Q (o :: rest) a w := by
  refine wpList_plain hg fun K hK' => ?_
  have h63 : (m : Int) ≤ 9223372036854775807 := by simp [maxLen] at b3; omega
  have hb' : (i.bytes : Int) * (m : Int) ≤ 281474976710656 := by
    have h : ((i.bytes * m : Nat) : Int) ≤ 281474976710656 := by omega
    rwa [Int.natCast_mul] at h
  have hrun := run_make (P := P) w t e i z h1 h2 h3 kl kc n m (by omega) (by omega) hb' h63
  simp only [Int.toNat_natCast, h4, Nat.mul_one] at hrun
  subst hL
  subst hC
  unfold Oper.wp
  simp [execOp, hop, hl, hc, hrun, Result.andThen]
  exact hK' _ _ hK

/-- The bytes of words. -/
def wordBytes : List Int → List UInt8
  | [] => []
  | n :: r => hiB n :: loB n :: wordBytes r
theorem wordBytes_length (ws : List Int) : (wordBytes ws).length = 2 * ws.length := by
  induction ws with
  | nil => rfl
  | cons n r ih => simp [wordBytes, ih]; omega
theorem wordBytes_snoc (ws : List Int) (n : Int) : wordBytes (ws ++ [n]) = wordBytes ws ++ [hiB n, loB n] := by
  induction ws with
  | nil => rfl
  | cons m r ih => simp [wordBytes, ih]

theorem size8 : (Try.prog.info? 5).map (·.size) = some 1 := by kernel_rfl
theorem zeros_length (n : Nat) : (madeCells #[.int .u8 0] n).toList.length = n := by rw [toList_madeCells_one]; simp
/-- A row of which the first cells were copied. -/
theorem own_splice {w : World} {g cap : Nat} {L : List Value} {bs : List UInt8} (hL : L.length = cap) (hle : bs.length ≤ cap) (hm : cap ≤ maxLen)
    (hg : w.heap[g]? = some (.cells (splice L 0 (bs.map cb)).toArray 5 (0, 0))) :
    w.ownsRow g 5 1 (.slice (some ⟨g, 0, none⟩) bs.length cap) bs.length (bs.map cb) := by
  refine ⟨by simp, .inr ⟨g, cap, _, rfl, Nat.le_refl _, hg, hle, hm, ?_, ?_⟩⟩
  · rw [List.size_toArray, length_splice _ _ _ (by simp; omega)]; omega
  · simp [splice]

set_option maxHeartbeats 400000 in
theorem putWords_nil (b off len cap : Nat) (bs : List UInt8) (w : World) (hn : bs.length = len) (hc : ∀ j, j < len → w.cell? ⟨b, off + j, none⟩ = some (.int .u8 ((bs.getD j 0).toNat : Int))) (hb : b < w.heap.size) (hl : len ≤ 1073741824) :
    Calls Try.prog 53 #[.slice (some ⟨b, off, none⟩) len cap, .slice none 0 0] w fun e w' => ∃ c, e = .returned (.slice (some ⟨w.heap.size, 0, none⟩) len c) ∧ Own w' w.heap.size c bs ∧ Below w.heap.size w w' := by
  obtain ⟨i0, hi, hz0, hz1, hz2⟩ := info_parts info8
  have hn' : Hid (bs.length = len) := hn
  have hc' : Hid (∀ j, j < len → w.cell? ⟨b, off + j, none⟩ = some (.int .u8 ((bs.getD j 0).toNat : Int))) := hc
  clear hn hc
  go_enter Try.func53, Try.ntmps53
  go_wp2_with (first | (at_make; refine wpList_make_both _ rfl _ _ 22 rfl 5 i0 (.int .u8 0) Try.underlying22 hi hz0 hz1 _ _ _ _ len len rfl rfl rfl ?C ?nm ?b2 ?b3 ?_) | refine wpList_copy_splice rfl (.tmp 17) (.tmp 18) 22 22 rfl 5 Try.underlying22 size8 _ _ _ _ _ _ rfl rfl w.heap.size 0 (madeCells #[.int .u8 0] len).toList 5 ?hg (bs.map cb) ?hn2 ?hpos ?hfit (one_cb bs) w.heap.size w ?hbb ?hBg ?_)
  case C => omega
  case nm => omega
  case b2 => rw [hz2]; omega
  case b3 => unfold maxLen; omega
  case hg => simpa using heap_alloc_new w _
  case hn2 => simpa using hn'.out
  case hpos => intro _; exact cb_cell hn'.out hc'.out
  case hfit => rw [zeros_length]; simpa using Nat.le_of_eq hn'.out
  case hbb => exact (Below.refl _ w).alloc (Nat.le_refl _) _
  case hBg => exact Nat.le_refl _
  intro w2 HG2 hB2
  have hR : Hid (Own w2 w.heap.size len bs) := by
    have h := own_splice (w := w2) (g := w.heap.size) (cap := len) (zeros_length _) (Nat.le_of_eq hn'.out) (by unfold maxLen; omega) HG2.out
    obtain ⟨g, c, hv, _, hr⟩ := own_row h (by simp)
    simp only [Value.slice.injEq, Option.some.injEq, Addr.mk.injEq, and_true, true_and] at hv
    show Own _ _ _ _
    rw [hv.1, hv.2]; exact hr
  clear HG2
  go_wp2_with fail
  refine wp_loop_rounds 1 ?_
  rw [rounds_succ]
  go_wp2
  go_ret
  exact ⟨_, rfl, hR.out, hB2⟩

set_option maxHeartbeats 400000 in
theorem putWords_some (b off len cap : Nat) (bs : List UInt8) (wb wl wc : Nat) (ws : List Int) (w : World) (hn : bs.length = len) (hc : ∀ j, j < len → w.cell? ⟨b, off + j, none⟩ = some (.int .u8 ((bs.getD j 0).toNat : Int))) (hb : b < w.heap.size) (hl : len ≤ 1073741824)
    (hw : ws.length = wl) (hwl : wl ≤ 1048576) (hwo : ∀ j, j < wl → w.cell? ⟨wb, j, none⟩ = some (.int .i64 (ws.getD j 0))) :
    Calls Try.prog 53 #[.slice (some ⟨b, off, none⟩) len cap, .slice (some ⟨wb, 0, none⟩) wl wc] w fun e w' => ∃ c, e = .returned (.slice (some ⟨w.heap.size, 0, none⟩) (len + 2 * wl) c) ∧ Own w' w.heap.size c (bs ++ wordBytes ws) ∧ Below w.heap.size w w' := by
  obtain ⟨i0, hi, hz0, hz1, hz2⟩ := info_parts info8
  have hn' : Hid (bs.length = len) := hn
  have hw' : Hid (ws.length = wl) := hw
  have hc' : Hid (∀ j, j < len → w.cell? ⟨b, off + j, none⟩ = some (.int .u8 ((bs.getD j 0).toNat : Int))) := hc
  have hwo' : Hid (∀ j, j < wl → w.cell? ⟨wb, j, none⟩ = some (.int .i64 (ws.getD j 0))) := hwo
  clear hn hc hw hwo
  go_enter Try.func53, Try.ntmps53
  go_wp2_with (first | (at_make; refine wpList_make_both _ rfl _ _ 22 rfl 5 i0 (.int .u8 0) Try.underlying22 hi hz0 hz1 _ _ _ _ len (len + 2 * wl) rfl rfl rfl ?C ?nm ?b2 ?b3 ?_) | refine wpList_copy_splice rfl (.tmp 17) (.tmp 18) 22 22 rfl 5 Try.underlying22 size8 _ _ _ _ _ _ rfl rfl w.heap.size 0 (madeCells #[.int .u8 0] (len + 2 * wl)).toList 5 ?hg (bs.map cb) ?hn2 ?hpos ?hfit (one_cb bs) w.heap.size w ?hbb ?hBg ?_)
  case C => omega
  case nm => omega
  case b2 => rw [hz2]; omega
  case b3 => unfold maxLen; omega
  case hg => simpa using heap_alloc_new w _
  case hn2 => simpa using hn'.out
  case hpos => intro _; exact cb_cell hn'.out hc'.out
  case hfit => rw [zeros_length]; have := hn'.out; simp; omega
  case hbb => exact (Below.refl _ w).alloc (Nat.le_refl _) _
  case hBg => exact Nat.le_refl _
  intro w2 HG2 hB2
  have ho2 : Hid (w2.ownsRow w.heap.size 5 1 (.slice (some ⟨w.heap.size, 0, none⟩) (len + 2 * 0) (len + 2 * wl)) (len + 2 * 0) ((bs ++ wordBytes (ws.take 0)).map cb)) := by
    have h := own_splice (w := w2) (g := w.heap.size) (cap := len + 2 * wl) (zeros_length _) (by have := hn'.out; omega) (by unfold maxLen; omega) HG2.out
    show World.ownsRow _ _ _ _ _ _ _
    simpa [wordBytes, hn'.out] using h
  have HB2 : Hid (Below w.heap.size w w2) := hB2
  clear HG2 hB2 hc'
  go_wp2_with fail
  go_loopw [5, 22] (fun out i wr => ∃ k : Nat, k ≤ wl ∧ i = .int .i64 k ∧ out = .slice (some ⟨w.heap.size, 0, none⟩) (len + 2 * k) (len + 2 * wl) ∧ Hid (wr.ownsRow w.heap.size 5 1 (.slice (some ⟨w.heap.size, 0, none⟩) (len + 2 * k) (len + 2 * wl)) (len + 2 * k) ((bs ++ wordBytes (ws.take k)).map cb)) ∧ Hid (Below w.heap.size w wr)) (fun _ i _ => wl - (intOf i).toNat)
  case atStart => exact ⟨0, Nat.zero_le _, rfl, rfl, ho2, HB2⟩
  case round =>
    obtain ⟨k, hk, rfl, rfl, hown, hbel⟩ := hrel
    by_cases hlt : k < wl
    · have hcw := hwo'.out k hlt
      have hbl := World.block_lt_of_cell? w _ hcw
      have hcr : wr.cell? ⟨wb, k, none⟩ = some (.int .i64 (ws.getD k 0)) := (hbel.out.cell (p := ⟨wb, k, none⟩) hbl).trans hcw
      have hsz := hbel.out.size
      have hlt' : k < ws.length := by rw [hw'.out]; exact hlt
      have hsn : Hid (wordBytes (ws.take (k + 1)) = wordBytes (ws.take k) ++ [hiB (ws.getD k 0), loB (ws.getD k 0)]) := by
        show _ = _
        rw [List.take_succ_eq_append_getElem hlt', wordBytes_snoc]
        simp [List.getD, List.getElem?_eq_getElem hlt']
      clear hcw hbl hlt'
      generalize ws.getD k 0 = n at *
      go_wp2_with (at_builtin; refine wpList_append_fits _ rfl (.tmp 26) (.tmp 32) 22 rfl w.heap.size 5 i0 1 Try.underlying22 hi hz1 w.heap.size (len + 2 * k) (len + 2 * wl) _ rfl (hown.out.alloc _) ⟨wr.heap.size, 0, none⟩ 2 2 [.int .u8 (n / 256 % 256), .int .u8 (n % 256)] rfl rfl ?c1 ?c2 ?c3 ?_)
      case c1 =>
        intro j u hj
        match j, hj with
        | 0, hj => simp at hj; subst hj; simp [Addr.add]
        | 1, hj => simp at hj; subst hj; simp [Addr.add]
      case c2 => intro u hu; simp at hu; rcases hu with rfl | rfl <;> rfl
      case c3 => omega
      intro w3 hown3 hgr3
      have HO : Hid (w3.ownsRow w.heap.size 5 1 (.slice (some ⟨w.heap.size, 0, none⟩) (len + 2 * (k + 1)) (len + 2 * wl)) (len + 2 * (k + 1)) ((bs ++ wordBytes (ws.take (k + 1))).map cb)) := by
        show World.ownsRow _ _ _ _ _ _ _
        rw [hsn.out, show len + 2 * (k + 1) = len + 2 * k + 2 from by omega]
        have e2 : (bs ++ (wordBytes (ws.take k) ++ [hiB n, loB n])).map cb = bs.map cb ++ ((wordBytes (ws.take k)).map cb ++ [.int .u8 (n / 256 % 256), .int .u8 (n % 256)]) := by
          rw [hiB_val, loB_val]; simp [cb]
        rw [e2]; exact hown3
      have HB : Hid (Below w.heap.size w w3) := (hbel.out.alloc hsz _).grown hgr3 (by simp; omega) (fun q h => by simp at h; omega)
      clear hown3 hgr3 hsn hown hbel
      go_wp2
      go_roundw
      case rel => exact ⟨k + 1, by omega, by go_num, by rw [show len + 2 * (k + 1) = len + 2 * k + 2 from by omega], HO, HB⟩
      case measure => simp [intOf]; omega
    · have hke : k = wl := by omega
      have hR : Hid (Own wr w.heap.size (len + 2 * wl) (bs ++ wordBytes ws)) := by
        have h1 := hown.out
        rw [hke, List.take_of_length_le (by rw [hw'.out]; exact Nat.le_refl _)] at h1
        obtain ⟨g, c, hv, _, hr⟩ := own_row h1 (by simp)
        simp only [Value.slice.injEq, Option.some.injEq, Addr.mk.injEq, and_true, true_and] at hv
        show Own _ _ _ _
        rw [hv.1, hv.2]; exact hr
      have hfin : Hid (len + 2 * k = len + 2 * wl) := by show _ = _; rw [hke]
      clear hke hown
      go_wp2
      go_ret
      exact ⟨_, by rw [hfin.out]; rfl, hR.out, hbel.out⟩

/-- What PutW does, in the program: the word behind the bytes, in new memory. -/
theorem implPutW_some (b off len cap : Nat) (bs : List UInt8) (n : Int) (w : World) (hn : bs.length = len) (hc : ∀ j, j < len → w.cell? ⟨b, off + j, none⟩ = some (.int .u8 ((bs.getD j 0).toNat : Int))) (hb : b < w.heap.size) (hl : len ≤ 1073741824) :
    Calls Try.prog 54 #[.slice (some ⟨b, off, none⟩) len cap, .int .i64 n] w fun e w' => ∃ g c, e = .returned (.slice (some ⟨g, 0, none⟩) (len + 2) c) ∧ w.heap.size ≤ g ∧ Own w' g c (bs ++ [hiB n, loB n]) ∧ Below w.heap.size w w' := by
  have hn' : Hid (bs.length = len) := hn
  have hc' : Hid (∀ j, j < len → w.cell? ⟨b, off + j, none⟩ = some (.int .u8 ((bs.getD j 0).toNat : Int))) := hc
  clear hn hc
  go_enter Try.func54, Try.ntmps54
  go_wp2_with fail
  refine (putWords_some b off len cap bs w.heap.size 1 1 [n] _ hn'.out ?hc2 ?hb2 hl rfl (by omega) ?hw2).mono ?_
  case hc2 => intro j hj; exact (((Below.refl w.heap.size w).alloc (Nat.le_refl _) _).cell (p := ⟨b, off + j, none⟩) hb).trans (hc'.out j hj)
  case hb2 => simp; omega
  case hw2 =>
    intro j hj
    obtain rfl : j = 0 := by omega
    simp
  rintro e w2 ⟨c, rfl, hR, hB⟩
  have hB' : Hid (Below w.heap.size w w2) := ((Below.refl _ w).alloc (Nat.le_refl _) _).trans (hB.mono (by simp))
  have hR' : Hid (Own w2 (w.heap.size + 1) c (bs ++ [hiB n, loB n])) := by show Own _ _ _ _; simpa [wordBytes] using hR
  clear hR hB hc'
  go_wp2
  go_ret
  exact ⟨w.heap.size + 1, c, rfl, by omega, hR'.out, hB'.out⟩

end Go.Proofs.Ytlididoalekeoaa
/- Blocks that a call lays one behind the other, and what they hold. -/
namespace Go.Proofs.Ytlididoalekeoaa
set_option maxRecDepth 4000
open Go.RowKit

theorem lt_of_block {w : World} {k : Nat} {o : Obj} (h : w.heap[k]? = some o) : k < w.heap.size := (Array.getElem?_eq_some_iff.1 h).1
theorem alloc_old (w : World) (o : Obj) {k : Nat} (h : k < w.heap.size) : (w.alloc o).heap[k]? = w.heap[k]? := (below_lit w o).block k h
theorem alloc_new (w : World) (o : Obj) {k : Nat} (h : k = w.heap.size) : (w.alloc o).heap[k]? = some o := by subst h; exact heap_alloc_new w o
theorem below_lit3 (w : World) (A B C : Obj) : Below w.heap.size w (((w.alloc A).alloc B).alloc C) := (below_lit2 w A B).alloc (by simp; omega) C
theorem below_lit4 (w : World) (A B C D : Obj) : Below w.heap.size w ((((w.alloc A).alloc B).alloc C).alloc D) := (below_lit3 w A B C).alloc (by simp; omega) D
/-- Three blocks, one behind the other. -/
theorem laid3 (w : World) (A B C : Obj) : (((w.alloc A).alloc B).alloc C).heap[w.heap.size]? = some A ∧ (((w.alloc A).alloc B).alloc C).heap[w.heap.size + 1]? = some B ∧ (((w.alloc A).alloc B).alloc C).heap[w.heap.size + 1 + 1]? = some C := by
  refine ⟨?_, ?_, alloc_new _ _ (by simp)⟩
  · rw [alloc_old _ _ (by simp; omega), alloc_old _ _ (by simp), alloc_new _ _ rfl]
  · rw [alloc_old _ _ (by simp), alloc_new _ _ (by simp)]
theorem laid4 (w : World) (A B C D : Obj) : ((((w.alloc A).alloc B).alloc C).alloc D).heap[w.heap.size]? = some A ∧ ((((w.alloc A).alloc B).alloc C).alloc D).heap[w.heap.size + 1]? = some B ∧ ((((w.alloc A).alloc B).alloc C).alloc D).heap[w.heap.size + 1 + 1]? = some C ∧ ((((w.alloc A).alloc B).alloc C).alloc D).heap[w.heap.size + 1 + 1 + 1]? = some D := by
  obtain ⟨h1, h2, h3⟩ := laid3 w A B C
  refine ⟨?_, ?_, ?_, alloc_new _ _ (by simp)⟩
  · rw [alloc_old _ _ (by simp <;> omega)]; exact h1
  · rw [alloc_old _ _ (by simp <;> omega)]; exact h2
  · rw [alloc_old _ _ (by simp <;> omega)]; exact h3
theorem laid2 (w : World) (A B : Obj) : ((w.alloc A).alloc B).heap[w.heap.size]? = some A ∧ ((w.alloc A).alloc B).heap[w.heap.size + 1]? = some B := by
  refine ⟨?_, alloc_new _ _ (by simp)⟩
  rw [alloc_old _ _ (by simp), alloc_new _ _ rfl]

/-- A block of three cells that may be written: its cells. -/
theorem cells3 (w : World) (g : Nat) (a b c : Value) (T : TypeId) (hg : w.heap[g]? = some (.cells #[a, b, c] T (0, 0))) :
    w.cell? ⟨g, 0, none⟩ = some a ∧ w.cell? ⟨g, 1, none⟩ = some b ∧ w.cell? ⟨g, 2, none⟩ = some c ∧ w.frozen? ⟨g, 0, none⟩ = false ∧ w.frozen? ⟨g, 1, none⟩ = false ∧ w.frozen? ⟨g, 2, none⟩ = false := by
  refine ⟨?_, ?_, ?_, frozen_of_row w g 0 _ _ hg, frozen_of_row w g 1 _ _ hg, frozen_of_row w g 2 _ _ hg⟩
  · rw [cell_of_row w g 0 _ _ (0, 0) hg]; rfl
  · rw [cell_of_row w g 1 _ _ (0, 0) hg]; rfl
  · rw [cell_of_row w g 2 _ _ (0, 0) hg]; rfl

/-- A block of two cells that may be written: its cells. -/
theorem cells2 (w : World) (g : Nat) (a b : Value) (T : TypeId) (hg : w.heap[g]? = some (.cells #[a, b] T (0, 0))) :
    w.cell? ⟨g, 0, none⟩ = some a ∧ w.cell? ⟨g, 1, none⟩ = some b ∧ w.frozen? ⟨g, 0, none⟩ = false ∧ w.frozen? ⟨g, 1, none⟩ = false := by
  refine ⟨?_, ?_, frozen_of_row w g 0 _ _ hg, frozen_of_row w g 1 _ _ hg⟩
  · rw [cell_of_row w g 0 _ _ (0, 0) hg]; rfl
  · rw [cell_of_row w g 1 _ _ (0, 0) hg]; rfl

theorem Row.set {w : World} {g q j : Nat} {bs : List UInt8} (h : Row w g bs) (v : Value) (hne : g ≠ q) : Row (w.setCell ⟨q, j, none⟩ v) g bs := h.of_block (heap_setCell_other w ⟨q, j, none⟩ g v hne)
theorem bset {B : Nat} {a w : World} {q j : Nat} (h : Below B a w) (v : Value) (hq : B ≤ q) : Below B a (w.setCell ⟨q, j, none⟩ v) := h.setCell (p := ⟨q, j, none⟩) hq v

theorem block_set {w : World} {g q j : Nat} {v : Value} {o : Option Obj} (h : w.heap[g]? = o) (hne : g ≠ q) : (w.setCell ⟨q, j, none⟩ v).heap[g]? = o := (heap_setCell_other w ⟨q, j, none⟩ g v hne).trans h
/-- A block of three cells, all of them written. -/
theorem set3 {w : World} {g : Nat} {a b c : Value} {T : TypeId} (x y z : Value) (hg : w.heap[g]? = some (.cells #[a, b, c] T (0, 0))) :
    (((w.setCell ⟨g, 0, none⟩ x).setCell ⟨g, 1, none⟩ y).setCell ⟨g, 2, none⟩ z).heap[g]? = some (.cells #[x, y, z] T (0, 0)) := by
  rw [heap_setCell_same _ g 2 _ _ _ (heap_setCell_same _ g 1 _ _ _ (heap_setCell_same w g 0 _ _ _ hg))]
  simp
/-- A block of two cells, both of them written. -/
theorem set2 {w : World} {g : Nat} {a b : Value} {T : TypeId} (x y : Value) (hg : w.heap[g]? = some (.cells #[a, b] T (0, 0))) :
    ((w.setCell ⟨g, 0, none⟩ x).setCell ⟨g, 1, none⟩ y).heap[g]? = some (.cells #[x, y] T (0, 0)) := by
  rw [heap_setCell_same _ g 1 _ _ _ (heap_setCell_same w g 0 _ _ _ hg)]
  simp
/-- The results: a variable of several cells, and a number or the like. -/
theorem results_row_tmp {P : Program} {fn : Func} {p u : Tmp} {ty : TypeId} (h : fn.results = #[.cell p ty, .tmp u]) (tmps : Array Value) (w : World) (g : Nat) (t : TypeId) (cs : Array Value) (fr : Nat × Nat) (d : TypeDesc)
    (hp : tmps.getD p undef = .pointer (some ⟨g, 0, none⟩)) (hg : w.heap[g]? = some (.cells cs t fr))
    (hu : P.underlying ty = some d) (hd : (match d with | .struct _ | .array _ _ => true | _ => false) = true) (hi : (P.info? ty).map (·.size) = some cs.size) :
    (results fn tmps).run P w = .ok (.tuple #[.agg cs, tmps.getD u undef]) w := by
  rw [results_cell_tmp h]
  simp only [hp, asAddr, Sem.run_pure, Result.andThen_ok, run_loadVar_row w g t ty cs fr d hg hu hd hi]

theorem Own.reads_drop {w : World} {q c L : Nat} {bs : List UInt8} (h : Own w q c bs) (hn : bs.length = L) (k : Nat) (hk : k ≤ L) : Reads w (some ⟨q, k, none⟩) (L - k) (bs.drop k) := by
  refine ⟨by simp; omega, .inr ⟨q, k, rfl, fun j hj => ?_⟩⟩
  have := h.row.cell (k + j) (by omega)
  rw [this]; simp [List.getD]
/-- What append leaves of a slice of the call's own: where it lies. -/
theorem own_app {w1 : World} {B q n m c N : Nat} {bs xs : List UInt8} {v1 : Value} (hown : w1.ownsRow B 5 1 v1 (n + m) (bs.map cb ++ xs.map cb)) (hnil : ¬ v1 = .slice none 0 0) (hat : v1.ownBlock = (Value.slice (some ⟨q, 0, none⟩) n c).ownBlock ∨ v1.ownBlock = some N) :
    ∃ q' c', v1 = .slice (some ⟨q', 0, none⟩) (n + m) c' ∧ B ≤ q' ∧ Own w1 q' c' (bs ++ xs) ∧ (q' = q ∨ q' = N) := by
  rw [← List.map_append] at hown
  obtain ⟨g, c', hv, hg, hO⟩ := own_row hown hnil
  subst hv
  exact ⟨g, c', rfl, hg, hO, by simpa [Value.ownBlock] using hat⟩

end Go.Proofs.Ytlididoalekeoaa
