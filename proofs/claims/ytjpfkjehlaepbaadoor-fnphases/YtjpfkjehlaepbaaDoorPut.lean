/- Contracts of PutW, in the specification and in the program. -/
import Derived.Test.YtjpfkjehlaepbaaDoorBase
import Derived.Test.YtjpfkjehlaepbaaDoorPlain
import Derived.Laws.CopyOwn
namespace Go.Proofs.YtjpfkjehlaepbaaDoor
set_option maxRecDepth 4000
open Go.RowKit

def hiB (n : Int) : UInt8 := UInt8.ofNat ((n / 256) % 256).toNat
def loB (n : Int) : UInt8 := UInt8.ofNat (n % 256).toNat
theorem hiB_val (n : Int) : n / 256 % 256 = ((hiB n).toNat : Int) := by
  unfold hiB; rw [UInt8.toNat_ofNat']; omega
theorem loB_val (n : Int) : n % 256 = ((loB n).toNat : Int) := by
  unfold loB; rw [UInt8.toNat_ofNat']; omega

/-- Block g is a row of c bytes that may be written; the first ones are bs. -/
def Own (w : World) (g c : Nat) (bs : List UInt8) : Prop :=
  ∃ cur, w.heap[g]? = some (.cells cur 5 (0, 0)) ∧ bs.length ≤ c ∧ c ≤ maxLen ∧ cur.size = c ∧ cur.toList.take bs.length = bs.map cb
theorem Own.row {w : World} {g c : Nat} {bs : List UInt8} (h : Own w g c bs) : Row w g bs := by
  obtain ⟨cur, hg, h1, h2, h3, h4⟩ := h
  exact ⟨cur, hg, by omega, by omega, h4⟩
theorem Own.of_block {w w' : World} {g c : Nat} {bs : List UInt8} (h : Own w g c bs) (e : w'.heap[g]? = w.heap[g]?) : Own w' g c bs := by
  obtain ⟨cur, hg, r⟩ := h
  exact ⟨cur, e.trans hg, r⟩
theorem Own.lt {w : World} {g c : Nat} {bs : List UInt8} (h : Own w g c bs) : g < w.heap.size := h.row.lt
theorem Own.below {w w' : World} {g c : Nat} {bs : List UInt8} (h : Own w g c bs) (hb : Below w.heap.size w w') : Own w' g c bs := h.of_block (hb.block g h.lt)
theorem Own.grown {w w' : World} {g c k : Nat} {bs : List UInt8} (h : Own w g c bs) (hg : w.grownBy w' (some k)) (hne : g ≠ k) : Own w' g c bs := h.of_block (hg.block g h.lt (by simpa using hne))
theorem Own.cell {w : World} {g c : Nat} {bs : List UInt8} (h : Own w g c bs) {n : Nat} (hn : bs.length = n) : ∀ j, j < n → w.cell? ⟨g, 0 + j, none⟩ = some (.int .u8 ((bs.getD j 0).toNat : Int)) := fun j hj => by rw [Nat.zero_add]; exact h.row.cell j (by omega)
theorem Own.le {w : World} {g c : Nat} {bs : List UInt8} (h : Own w g c bs) : bs.length ≤ c := by obtain ⟨cur, _, h1, _⟩ := h; exact h1
/-- The first bytes of a row. -/
theorem Own.take {w : World} {g c : Nat} {bs : List UInt8} (h : Own w g c bs) (k : Nat) : Own w g c (bs.take k) := by
  obtain ⟨cur, hg, h1, h2, h3, h4⟩ := h
  refine ⟨cur, hg, by simp; omega, h2, h3, ?_⟩
  have : (bs.take k).length = min k bs.length := by simp
  rw [this, List.map_take, ← h4, List.take_take]
theorem Own.owns {w : World} {g c n : Nat} {bs : List UInt8} (h : Own w g c bs) (hn : bs.length = n) {base : Nat} (hb : base ≤ g) : w.ownsRow base 5 1 (.slice (some ⟨g, 0, none⟩) n c) n (bs.map cb) := by
  obtain ⟨cur, hg, h1, h2, h3, h4⟩ := h
  subst hn
  exact ⟨by simp, .inr ⟨g, c, cur, rfl, hb, hg, h1, h2, by omega, by simpa using h4⟩⟩
/-- What is owned is a row. -/
theorem own_row {w : World} {base : Nat} {v : Value} {n : Nat} {bs : List UInt8} (h : w.ownsRow base 5 1 v n (bs.map cb)) (hv : v ≠ .slice none 0 0) :
    ∃ g c, v = .slice (some ⟨g, 0, none⟩) n c ∧ base ≤ g ∧ Own w g c bs := by
  have hlen : bs.length = n := by simpa using h.1
  rcases h.2 with ⟨h', _⟩ | ⟨g', cap', cur, h', hb, hg, hnc, hm, hcs, htake⟩
  · exact absurd h' hv
  · exact ⟨g', cap', h', hb, cur, hg, by omega, hm, by omega, by rw [hlen]; simpa using htake⟩
theorem map_cb_cell {w : World} {b off len : Nat} {bs : List UInt8} (hn : bs.length = len) (hc : ∀ j, j < len → w.cell? ⟨b, off + j, none⟩ = some (.int .u8 ((bs.getD j 0).toNat : Int))) :
    ∀ j u, (bs.map cb)[j]? = some u → w.cell? ((⟨b, off, none⟩ : Addr).add j) = some u := by
  intro j u hu
  have hj : j < bs.length := by
    have := (List.getElem?_eq_some_iff.1 hu).1
    simpa using this
  rw [Addr.add_lit, hc j (by omega), ← hu]
  simp [cb, List.getD, List.getElem?_eq_getElem hj]
theorem cb_cell {w : World} {b off len : Nat} {bs : List UInt8} (hn : bs.length = len) (hc : ∀ j, j < len → w.cell? ⟨b, off + j, none⟩ = some (.int .u8 ((bs.getD j 0).toNat : Int))) :
    ∀ j a, bs[j]? = some a → w.cell? ⟨b, off + j, none⟩ = some (cb a) := by
  intro j a ha
  have hj : j < bs.length := (List.getElem?_eq_some_iff.1 ha).1
  rw [hc j (by omega)]
  simp [cb, List.getD, ha]
theorem one_cb (bs : List UInt8) : ∀ u ∈ bs.map cb, u.oneCell' = true := by
  intro u hu
  obtain ⟨_, _, rfl⟩ := List.mem_map.1 hu
  rfl

theorem info64 : (Tryd.prog.info? 3).map (fun i => (i.zero, i.size, i.bytes)) = some (some (.int .i64 0), 1, 8) := by kernel_rfl

/-- 'make([]byte, n, c)': a row of c noughts, of which the slice shows n. -/
theorem wpList_make_both {P : Program} (w : World) {ops : Array Oper} {rest : List Oper} {o : Oper} {a : Act} {Q : Exit → Act → World → Prop}
    (hg : o.guard = none) (l c : Operand) (t : TypeId) (hop : o.op = Op.makeSlice t l c)
    (e : TypeId) (i : TypeInfo) (z : Value) (h1 : P.underlying t = some (.slice e)) (h2 : P.info? e = some i) (h3 : i.zero = some z) (h4 : i.size = 1)
    (kl kc : IntKind) (L C : Int) (n m : Nat) (hl : a.eval l = .int kl L) (hc : a.eval c = .int kc C) (hL : L = (n : Int)) (hC : C = (m : Int)) (hnm : n ≤ m) (b2 : i.bytes * m ≤ 281474976710656) (b3 : m ≤ maxLen)
    (hK : wpList P ops Q rest (a.put o.dst (.slice (some ⟨w.heap.size, 0, none⟩) n m)) (w.alloc (.cells (madeCells z.cells m) e))) :
    wpList P ops Q (o :: rest) a w := by
  refine wpList_plain hg fun K hK' => ?_
  have h63 : (m : Int) ≤ 9223372036854775807 := by simp [maxLen] at b3; omega
  have hb' : (i.bytes : Int) * (m : Int) ≤ 281474976710656 := by
    have h : ((i.bytes * m : Nat) : Int) ≤ 281474976710656 := by omega
    rwa [Int.natCast_mul] at h
  have hrun := run_make (P := P) w t e i z h1 h2 h3 kl kc n m (by omega) (by omega) hb' h63
  simp only [Int.toNat_natCast, h4, Nat.mul_one] at hrun
  subst hL
  subst hC
  unfold Oper.wp
  simp [execOp, hop, hl, hc, hrun, Result.andThen]
  exact hK' _ _ hK

/-- The bytes of words. -/
def wordBytes : List Int → List UInt8
  | [] => []
  | n :: r => hiB n :: loB n :: wordBytes r
theorem wordBytes_length (ws : List Int) : (wordBytes ws).length = 2 * ws.length := by
  induction ws with
  | nil => rfl
  | cons n r ih => simp [wordBytes, ih]; omega
theorem wordBytes_snoc (ws : List Int) (n : Int) : wordBytes (ws ++ [n]) = wordBytes ws ++ [hiB n, loB n] := by
  induction ws with
  | nil => rfl
  | cons m r ih => simp [wordBytes, ih]

theorem size8 : (Tryd.prog.info? 5).map (·.size) = some 1 := by kernel_rfl
theorem zeros_length (n : Nat) : (madeCells #[.int .u8 0] n).toList.length = n := by rw [toList_madeCells_one]; simp
/-- A row of which the first cells were copied. -/
theorem own_splice {w : World} {g cap : Nat} {L : List Value} {bs : List UInt8} (hL : L.length = cap) (hle : bs.length ≤ cap) (hm : cap ≤ maxLen)
    (hg : w.heap[g]? = some (.cells (splice L 0 (bs.map cb)).toArray 5 (0, 0))) :
    w.ownsRow g 5 1 (.slice (some ⟨g, 0, none⟩) bs.length cap) bs.length (bs.map cb) := by
  refine ⟨by simp, .inr ⟨g, cap, _, rfl, Nat.le_refl _, hg, hle, hm, ?_, ?_⟩⟩
  · rw [List.size_toArray, length_splice _ _ _ (by simp; omega)]; omega
  · simp [splice]

end Go.Proofs.YtjpfkjehlaepbaaDoor
