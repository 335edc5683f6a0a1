/- Parts of the proof, one behind the other. -/
import Derived.Test.YtlididoalekeoaaMxRecsOf1
import Derived.Test.YtlididoalekeoaaMxRecsOf2
import Derived.Maps.AppendAt
/- Data with depth: lists of whatever, as they are read, and as they are owned, block by block. -/
namespace Go.Proofs.Ytlididoalekeoaa
set_option maxRecDepth 4000
open Go.RowKit

/-- Blocks; what cells read ls; what they own besides. -/
abbrev Fp := Nat → Prop
abbrev Rd (α : Type) := World → List Value → α → Prop
abbrev Ow (α : Type) := World → List Value → Fp → α → Prop

def Same (w w' : World) : Prop := ∀ b, b < w.heap.size → w'.heap[b]? = w.heap[b]?
theorem Below.same' {w w' : World} (h : Below w.heap.size w w') : Same w w' := h.block

/-- w' is w but for these blocks, and for new ones. -/
structure Chg (w w' : World) (F : Fp) : Prop where
  os : w'.os = w.os
  tape : w'.tape = w.tape
  output : w'.output = w.output
  size : w.heap.size ≤ w'.heap.size
  block : ∀ k, k < w.heap.size → ¬ F k → w'.heap[k]? = w.heap[k]?
theorem Chg.refl (w : World) (F : Fp) : Chg w w F := ⟨rfl, rfl, rfl, Nat.le_refl _, fun _ _ _ => rfl⟩
theorem Chg.trans {a b c : World} {F : Fp} (h : Chg a b F) (k : Chg b c F) : Chg a c F :=
  ⟨k.os.trans h.os, k.tape.trans h.tape, k.output.trans h.output, Nat.le_trans h.size k.size, fun i hi hn => (k.block i (Nat.lt_of_lt_of_le hi h.size) hn).trans (h.block i hi hn)⟩
theorem Chg.mono {w w' : World} {F G : Fp} (h : Chg w w' F) (hs : ∀ x, F x → G x) : Chg w w' G := ⟨h.os, h.tape, h.output, h.size, fun k hk hn => h.block k hk (fun e => hn (hs k e))⟩
theorem Chg.of_below {w w' : World} {F : Fp} (h : Below w.heap.size w w') : Chg w w' F := ⟨h.os, h.tape, h.output, h.size, fun k hk _ => h.block k hk⟩
theorem Chg.of_grown {w w' : World} {F : Fp} {r : Option Nat} (h : w.grownBy w' r) (hr : ∀ k, r = some k → F k) : Chg w w' F := ⟨h.os, h.tape, h.output, h.size, fun k hk hn => h.block k hk (fun e => hn (hr k e.symm))⟩
theorem Chg.below {B : Nat} {w w' : World} {F : Fp} (h : Chg w w' F) (hF : ∀ x, F x → B ≤ x) (hB : B ≤ w.heap.size) : Below B w w' :=
  ⟨h.os, h.tape, h.output, h.size, fun k hk => h.block k (Nat.lt_of_lt_of_le hk hB) (fun e => by have := hF k e; omega)⟩
theorem Chg.drew {a w : World} {F : Fp} (h : Chg a w F) : Chg a w.drew F := ⟨h.os, h.tape, h.output, h.size, h.block⟩
theorem Chg.setCell {a w : World} {F : Fp} (h : Chg a w F) {q j : Nat} (hq : F q) (v : Value) : Chg a (w.setCell ⟨q, j, none⟩ v) F :=
  h.trans ⟨rfl, rfl, rfl, by simp, fun k _ hn => heap_setCell_other w ⟨q, j, none⟩ k v (fun e => hn (by rw [e]; exact hq))⟩
theorem Chg.alloc {a w : World} {F : Fp} (h : Chg a w F) (o : Obj) : Chg a (w.alloc o) F := h.trans (.of_below (below_lit w o))
theorem block_lt {w : World} {b : Nat} {o : Obj} (h : w.heap[b]? = some o) : b < w.heap.size := (Array.getElem?_eq_some_iff.1 h).1
theorem lt_of_same {w w' : World} {b : Nat} (h : w'.heap[b]? = w.heap[b]?) (hb : b < w.heap.size) : b < w'.heap.size := by
  rw [Array.getElem?_eq_getElem hb] at h; exact block_lt h

structure RdOk {α : Type} (n : Nat) (R : Rd α) : Prop where
  len : ∀ {w : World} {cs : List Value} {a : α}, R w cs a → cs.length = n
  keep : ∀ {w w' : World} {cs : List Value} {a : α}, R w cs a → Same w w' → R w' cs a
structure OwOk {α : Type} (n : Nat) (E : Ow α) (R : Rd α) : Prop where
  len : ∀ {w : World} {cs : List Value} {F : Fp} {a : α}, E w cs F a → cs.length = n
  lt : ∀ {w : World} {cs : List Value} {F : Fp} {a : α}, E w cs F a → ∀ x, F x → x < w.heap.size
  keep : ∀ {w w' : World} {cs : List Value} {F : Fp} {a : α}, E w cs F a → (∀ b, F b → w'.heap[b]? = w.heap[b]?) → E w' cs F a
  rd : ∀ {w : World} {cs : List Value} {F : Fp} {a : α}, E w cs F a → R w cs a
theorem RdOk.below {α : Type} {n : Nat} {R : Rd α} (ok : RdOk n R) {w w' : World} {cs : List Value} {a : α} (h : R w cs a) (hb : Below w.heap.size w w') : R w' cs a := ok.keep h hb.block
theorem OwOk.below {α : Type} {n : Nat} {E : Ow α} {R : Rd α} (ok : OwOk n E R) {w w' : World} {cs : List Value} {F : Fp} {a : α} (h : E w cs F a) (hb : Below w.heap.size w w') : E w' cs F a :=
  ok.keep h (fun b hF => hb.block b (ok.lt h b hF))
theorem OwOk.chg {α : Type} {n : Nat} {E : Ow α} {R : Rd α} (ok : OwOk n E R) {w w' : World} {cs : List Value} {F G : Fp} {a : α} (h : E w cs F a) (hc : Chg w w' G) (hd : ∀ x, F x → ¬ G x) : E w' cs F a :=
  ok.keep h (fun b hF => hc.block b (ok.lt h b hF) (hd b hF))

/-- Owned, all of it from block B on. -/
def New {α : Type} (B : Nat) (E : Ow α) (w : World) (cs : List Value) (a : α) : Prop := ∃ F : Fp, E w cs F a ∧ ∀ x, F x → B ≤ x

/-! ### bytes -/
def RdB : Rd (List UInt8) := fun w cs bs => ∃ ao len cap, cs = [.slice ao len cap] ∧ len ≤ maxLen ∧ Reads w ao len bs
def OwB : Ow (List UInt8) := fun w cs F bs => (∀ x, F x → x < w.heap.size) ∧ ∃ ao len cap, cs = [.slice ao len cap] ∧ bs.length = len ∧ ((ao = none ∧ bs = []) ∨ ∃ g, ao = some ⟨g, 0, none⟩ ∧ F g ∧ Row w g bs)
theorem rdB_ok : RdOk 1 RdB := ⟨fun ⟨_, _, _, e, _⟩ => by rw [e]; rfl, fun {w w'} _ _ ⟨ao, l, c, e, hm, h⟩ hs => ⟨ao, l, c, e, hm, by
  obtain ⟨h1, h2⟩ := h
  refine ⟨h1, ?_⟩
  rcases h2 with h2 | ⟨b, off, h2, h3⟩
  · exact .inl h2
  · refine .inr ⟨b, off, h2, fun j hj => ?_⟩
    have hc := h3 j hj
    have hlt := World.block_lt_of_cell? w _ hc
    rw [World.cell?_of_block (w := w) (a := ⟨b, off + j, none⟩) (hs b hlt)]; exact hc⟩⟩
theorem owB_ok : OwOk 1 OwB RdB where
  len := fun ⟨_, _, _, _, e, _⟩ => by rw [e]; rfl
  lt := fun h => h.1
  keep := fun {w w'} _ _ _ ⟨hl, ao, l, c, e, hn, h⟩ hs => ⟨fun x hx => lt_of_same (hs x hx) (hl x hx), ao, l, c, e, hn, h.imp id (fun ⟨g, e, hg, hR⟩ => ⟨g, e, hg, hR.of_block (hs g hg)⟩)⟩
  rd := fun ⟨_, ao, l, c, e, hn, h⟩ => ⟨ao, l, c, e, by
    rcases h with ⟨rfl, rfl⟩ | ⟨g, rfl, _, hR⟩
    · rw [← hn]; exact Nat.zero_le _
    · obtain ⟨cur, _, h1, h2, _⟩ := hR; omega, by
    rcases h with ⟨rfl, rfl⟩ | ⟨g, rfl, _, hR⟩
    · exact ⟨hn, .inl (by simpa using hn.symm)⟩
    · exact hR.reads hn⟩
theorem owB_nil (w : World) : OwB w [.slice none 0 0] (fun _ => False) [] := ⟨fun _ h => h.elim, none, 0, 0, rfl, rfl, .inl ⟨rfl, rfl⟩⟩
theorem owB_row {w : World} {g n c : Nat} {bs : List UInt8} (h : Row w g bs) (hn : bs.length = n) : OwB w [.slice (some ⟨g, 0, none⟩) n c] (fun x => x = g) bs :=
  ⟨fun x hx => by rw [hx]; exact h.lt, _, _, _, rfl, hn, .inr ⟨g, rfl, rfl, h⟩⟩

/-! ### lists: as they are read -/
def RdS {α : Type} (n : Nat) (R : Rd α) : Rd (List α) := fun w cs ls => ∃ ao len cap, cs = [.slice ao len cap] ∧ len ≤ maxLen ∧ ls.length = len ∧
  (ls = [] ∨ ∃ b off, ao = some ⟨b, off, none⟩ ∧ ∀ j a, ls[j]? = some a → ∃ c, c.length = n ∧ R w c a ∧ ∀ i v, c[i]? = some v → w.cell? ⟨b, off + j * n + i, none⟩ = some v)
theorem rdS_ok {α : Type} {n : Nat} {R : Rd α} (ok : RdOk n R) : RdOk 1 (RdS n R) := ⟨fun ⟨_, _, _, e, _⟩ => by rw [e]; rfl, fun {w w'} _ _ ⟨ao, l, c, e, hm, hl, h⟩ hs => ⟨ao, l, c, e, hm, hl, h.imp id (fun ⟨b, off, e, hc⟩ => ⟨b, off, e, fun j a ha => by
  obtain ⟨c, hn, hR, hcell⟩ := hc j a ha
  refine ⟨c, hn, ok.keep hR hs, fun i v hv => ?_⟩
  have hx := hcell i v hv
  rw [World.cell?_of_block (w := w) (a := ⟨b, off + j * n + i, none⟩) (hs b (World.block_lt_of_cell? w _ hx))]; exact hx⟩)⟩⟩

/-! ### lists: as they are owned -/
theorem flat_get {β : Type} {n : Nat} : ∀ {css : List (List β)}, (∀ c ∈ css, c.length = n) → ∀ {j i : Nat} {c : List β}, css[j]? = some c → i < n → css.flatten[j * n + i]? = c[i]?
  | [], _, j, i, c, h, _ => by simp at h
  | d :: r, hl, 0, i, c, h, hi => by
    simp at h
    subst h
    have hd := hl d (by simp)
    rw [List.flatten_cons, Nat.zero_mul, Nat.zero_add, List.getElem?_append_left (by omega)]
  | d :: r, hl, j + 1, i, c, h, hi => by
    have hd := hl d (by simp)
    rw [List.flatten_cons, List.getElem?_append_right (by rw [hd, Nat.add_mul]; omega)]
    have e : (j + 1) * n + i - d.length = j * n + i := by rw [hd, Nat.add_mul]; omega
    rw [e]
    exact flat_get (fun c hc => hl c (by simp [hc])) (by simpa using h) hi
theorem flat_set {β : Type} {n : Nat} : ∀ {css : List (List β)}, (∀ c ∈ css, c.length = n) → ∀ {j i : Nat} {c : List β} (u : β), css[j]? = some c → i < n → css.flatten.set (j * n + i) u = (css.set j (c.set i u)).flatten
  | [], _, j, i, c, u, h, _ => by simp at h
  | d :: r, hl, 0, i, c, u, h, hi => by
    simp at h
    subst h
    have hd := hl d (by simp)
    rw [List.flatten_cons, Nat.zero_mul, Nat.zero_add, List.set_append_left _ _ (by omega), List.set_cons_zero, List.flatten_cons]
  | d :: r, hl, j + 1, i, c, u, h, hi => by
    have hd := hl d (by simp)
    rw [List.flatten_cons, List.set_append_right _ _ (by rw [hd, Nat.add_mul]; omega), List.set_cons_succ, List.flatten_cons]
    have e : (j + 1) * n + i - d.length = j * n + i := by rw [hd, Nat.add_mul]; omega
    rw [e, flat_set (fun c hc => hl c (by simp [hc])) u (by simpa using h) hi]
theorem flat_len {β : Type} {n : Nat} : ∀ {css : List (List β)}, (∀ c ∈ css, c.length = n) → css.flatten.length = css.length * n
  | [], _ => by simp
  | d :: r, hl => by
    rw [List.flatten_cons, List.length_append, hl d (by simp), flat_len (fun c hc => hl c (by simp [hc])), List.length_cons, Nat.add_mul, Nat.one_mul, Nat.add_comm]

/-- A list's own row (its cells one behind the other), its elements' blocks apart from it and from one another. -/
structure OwP {α : Type} (n : Nat) (T : TypeId) (E : Ow α) (w : World) (v : Value) (css : List (List Value)) (Fs : Nat → Fp) (F : Fp) (ls : List α) : Prop where
  own : w.ownsRow 0 T n v ls.length css.flatten
  size : css.length = ls.length
  lens : ∀ c ∈ css, c.length = n
  lt : ∀ x, F x → x < w.heap.size
  blk : ∀ x, v.ownBlock = some x → F x
  sub : ∀ j x, j < ls.length → Fs j x → F x ∧ v.ownBlock ≠ some x
  apart : ∀ i j x, i < ls.length → j < ls.length → i ≠ j → Fs i x → ¬ Fs j x
  els : ∀ j c a, css[j]? = some c → ls[j]? = some a → E w c (Fs j) a
def OwS {α : Type} (n : Nat) (T : TypeId) (E : Ow α) : Ow (List α) := fun w cs F ls => ∃ v css Fs, cs = [v] ∧ OwP n T E w v css Fs F ls

section
variable {α : Type} {n : Nat} {T : TypeId} {E : Ow α} {R : Rd α} {w w' : World} {v : Value} {css : List (List Value)} {Fs : Nat → Fp} {F : Fp} {ls : List α}

theorem get_lt {β : Type} {l : List β} {j : Nat} {a : β} (h : l[j]? = some a) : j < l.length := (List.getElem?_eq_some_iff.1 h).1
theorem get_some {β : Type} {l : List β} {j : Nat} (h : j < l.length) : ∃ a, l[j]? = some a := ⟨_, List.getElem?_eq_getElem h⟩

theorem ownsRow_form {base size m : Nat} {xs : List Value} (h : w.ownsRow base T size v m xs) : ∃ ao c, v = .slice ao m c ∧ ((ao = none ∧ m = 0) ∨ ∃ g, ao = some ⟨g, 0, none⟩) := by
  rcases h.2 with ⟨rfl, rfl⟩ | ⟨g, cap, cur, rfl, _⟩
  · exact ⟨none, 0, rfl, .inl ⟨rfl, rfl⟩⟩
  · exact ⟨_, cap, rfl, .inr ⟨g, rfl⟩⟩
theorem ownsRow_max {base size m : Nat} {xs : List Value} (h : w.ownsRow base T size v m xs) : m ≤ maxLen := by
  rcases h.2 with ⟨_, rfl⟩ | ⟨g, cap, cur, _, _, _, h1, h2, _⟩
  · exact Nat.zero_le _
  · omega
theorem OwP.cellsAt (h : OwP n T E w v css Fs F ls) {j : Nat} {a : α} (ha : ls[j]? = some a) : ∃ c, css[j]? = some c ∧ c.length = n ∧ E w c (Fs j) a := by
  obtain ⟨c, hc⟩ := get_some (l := css) (j := j) (by rw [h.size]; exact get_lt ha)
  exact ⟨c, hc, h.lens c (List.mem_of_getElem? hc), h.els j c a hc ha⟩
theorem OwP.cell (h : OwP n T E w v css Fs F ls) {g len cap : Nat} (hv : v = .slice (some ⟨g, 0, none⟩) len cap) {j i : Nat} {c : List Value} (hc : css[j]? = some c) (hi : i < n) : w.cell? ⟨g, j * n + i, none⟩ = c[i]? := by
  have ho := h.own
  subst hv
  have hj : j < ls.length := by rw [← h.size]; exact get_lt hc
  obtain ⟨ao, c0, e, hh⟩ := ownsRow_form ho
  simp only [Value.slice.injEq] at e
  obtain ⟨rfl, rfl, rfl⟩ := e
  rw [ho.cellAt (j * n + i) (by have := Nat.mul_le_mul_right n (show j + 1 ≤ ls.length by omega); rw [Nat.add_mul] at this; omega)]
  exact flat_get h.lens hc hi
theorem owS_rd (ok : OwOk n E R) (h : OwS n T E w [v] F ls) : RdS n R w [v] ls := by
  obtain ⟨v', css, Fs, e, h⟩ := h
  simp only [List.cons.injEq, and_true] at e
  subst e
  obtain ⟨ao, c, rfl, hh⟩ := ownsRow_form h.own
  refine ⟨ao, _, c, rfl, ownsRow_max h.own, rfl, ?_⟩
  rcases hh with ⟨_, h0⟩ | ⟨g, rfl⟩
  · exact .inl (List.eq_nil_of_length_eq_zero h0)
  · refine .inr ⟨g, 0, rfl, fun j a ha => ?_⟩
    obtain ⟨c1, hc1, hn, hE⟩ := h.cellsAt ha
    refine ⟨c1, hn, ok.rd hE, fun i u hu => ?_⟩
    rw [Nat.zero_add, h.cell rfl hc1 (by rw [← hn]; exact get_lt hu)]; exact hu
theorem OwP.keep (ok : OwOk n E R) (h : OwP n T E w v css Fs F ls) (hs : ∀ b, F b → w'.heap[b]? = w.heap[b]?) : OwP n T E w' v css Fs F ls where
  own := by
    refine ⟨h.own.1, ?_⟩
    rcases h.own.2 with hn | ⟨g, cap, cur, rfl, hb, hgg, rest⟩
    · exact .inl hn
    · exact .inr ⟨g, cap, cur, rfl, hb, (hs g (h.blk g rfl)).trans hgg, rest⟩
  size := h.size
  lens := h.lens
  lt := fun x hx => lt_of_same (hs x hx) (h.lt x hx)
  blk := h.blk
  sub := h.sub
  apart := h.apart
  els := fun j c a hc ha => ok.keep (h.els j c a hc ha) (fun b hb => hs b (h.sub j b (get_lt ha) hb).1)
theorem owS_ok (ok : OwOk n E R) : OwOk 1 (OwS n T E) (RdS n R) where
  len := fun ⟨_, _, _, e, _⟩ => by rw [e]; rfl
  lt := fun ⟨_, _, _, _, h⟩ => h.lt
  keep := fun ⟨v, css, Fs, e, h⟩ hs => ⟨v, css, Fs, e, h.keep ok hs⟩
  rd := fun ⟨v, css, Fs, e, h⟩ => by subst e; exact owS_rd ok ⟨v, css, Fs, rfl, h⟩
theorem owS_nil (w : World) (n : Nat) (T : TypeId) (E : Ow α) : OwS n T E w [.slice none 0 0] (fun _ => False) [] :=
  ⟨.slice none 0 0, [], fun _ _ => False, rfl, { own := World.ownsRow_nil w 0 T n, size := rfl, lens := fun _ h => (by cases h), lt := fun _ h => False.elim h, blk := fun _ h => (by cases h), sub := fun _ _ h => (by cases h), apart := fun _ _ _ h => (by cases h), els := fun _ _ _ h => (by simp at h) }⟩

/-- An element is another one, in the blocks that it has, or in new ones besides. -/
theorem OwP.put (h : OwP n T E w v css Fs F ls) (ok : OwOk n E R) {k : Nat} {c' : List Value} {a' : α} {G : Fp} (hk : k < ls.length) (hrow : w'.ownsRow 0 T n v ls.length (css.set k c').flatten) (hc' : c'.length = n)
    (hG : E w' c' G a') (hGF : ∀ x, G x → Fs k x ∨ w.heap.size ≤ x) (hsame : ∀ x, F x → v.ownBlock ≠ some x → ¬ Fs k x → w'.heap[x]? = w.heap[x]?) (hsz : w.heap.size ≤ w'.heap.size) :
    OwP n T E w' v (css.set k c') (fun j => if j = k then G else Fs j) (fun x => F x ∨ G x) (ls.set k a') where
  own := by rw [List.length_set]; exact hrow
  size := by simp [h.size]
  lens := fun c hc => by
    rcases List.mem_or_eq_of_mem_set hc with hc | rfl
    · exact h.lens c hc
    · exact hc'
  lt := fun x hx => by
    rcases hx with hx | hx
    · have := h.lt x hx; omega
    · exact ok.lt hG x hx
  blk := fun x hx => .inl (h.blk x hx)
  sub := fun j x hj hx => by
    rw [List.length_set] at hj
    split at hx
    · refine ⟨.inr hx, fun e => ?_⟩
      rcases hGF x hx with hF | hF
      · exact (h.sub k x hk hF).2 e
      · have := h.lt x (h.blk x e); omega
    · exact ⟨.inl (h.sub j x hj hx).1, (h.sub j x hj hx).2⟩
  apart := fun i j x hi hj hij hx hy => by
    rw [List.length_set] at hi hj
    split at hx <;> split at hy
    · omega
    · rename_i e1 e2
      rcases hGF x hx with hF | hF
      · exact h.apart k j x hk hj (fun e => e2 e.symm) hF hy
      · have := h.lt x (h.sub j x hj hy).1; omega
    · rename_i e1 e2
      rcases hGF x hy with hF | hF
      · exact h.apart i k x hi hk e1 hx hF
      · have := h.lt x (h.sub i x hi hx).1; omega
    · exact h.apart i j x hi hj hij hx hy
  els := fun j c a hc ha => by
    by_cases e : j = k
    · subst e
      rw [List.getElem?_set_self (by rw [h.size]; exact hk)] at hc
      rw [List.getElem?_set_self hk] at ha
      cases hc; cases ha
      rw [if_pos rfl]; exact hG
    · rw [List.getElem?_set_ne (Ne.symm e)] at hc ha
      rw [if_neg e]
      have hj := get_lt ha
      exact ok.keep (h.els j c a hc ha) (fun b hb => hsame b (h.sub j b hj hb).1 (h.sub j b hj hb).2 (fun hf => h.apart j k b hj hk e hb hf))
/-- .. in the blocks that it has. -/
theorem OwP.upd (h : OwP n T E w v css Fs F ls) (ok : OwOk n E R) {k : Nat} {c' : List Value} {a' : α} (hk : k < ls.length) (hrow : w'.ownsRow 0 T n v ls.length (css.set k c').flatten) (hc' : c'.length = n)
    (hG : E w' c' (Fs k) a') (hsame : ∀ x, F x → v.ownBlock ≠ some x → ¬ Fs k x → w'.heap[x]? = w.heap[x]?) (hsz : w.heap.size ≤ w'.heap.size) :
    OwP n T E w' v (css.set k c') Fs F (ls.set k a') := by
  have hp := h.put ok hk hrow hc' hG (fun x hx => .inl hx) hsame hsz
  have e1 : (fun j => if j = k then Fs k else Fs j) = Fs := by
    funext j
    by_cases e : j = k
    · subst e; simp
    · simp [e]
  have e2 : (fun x => F x ∨ Fs k x) = F := by
    funext x
    exact propext ⟨fun hx => hx.elim id (fun hx => (h.sub k x hk hx).1), .inl⟩
  rw [e1, e2] at hp
  exact hp
/-- One more, behind all. -/
theorem OwP.push (h : OwP n T E w v css Fs F ls) (ok : OwOk n E R) {v' : Value} {c' : List Value} {a' : α} {G : Fp} (hrow : w'.ownsRow 0 T n v' (ls.length + 1) (css.flatten ++ c')) (hc' : c'.length = n)
    (hv' : v'.ownBlock = v.ownBlock ∨ ∃ q, v'.ownBlock = some q ∧ w.heap.size ≤ q) (hG : E w' c' G a') (hGF : ∀ x, G x → ¬ F x ∧ v'.ownBlock ≠ some x) (hsame : ∀ x, F x → v.ownBlock ≠ some x → w'.heap[x]? = w.heap[x]?) (hsz : w.heap.size ≤ w'.heap.size) :
    OwP n T E w' v' (css ++ [c']) (fun j => if j = ls.length then G else Fs j) (fun x => F x ∨ G x ∨ v'.ownBlock = some x) (ls ++ [a']) where
  own := by simpa using hrow
  size := by simp [h.size]
  lens := fun c hc => by
    rcases List.mem_append.1 hc with hc | hc
    · exact h.lens c hc
    · rw [List.mem_singleton.1 hc]; exact hc'
  lt := fun x hx => by
    rcases hx with hx | hx | hx
    · have := h.lt x hx; omega
    · exact ok.lt hG x hx
    · exact (hrow.lt x hx).2
  blk := fun x hx => .inr (.inr hx)
  sub := fun j x hj hx => by
    split at hx
    · exact ⟨.inr (.inl hx), (hGF x hx).2⟩
    · rename_i e
      have hj' : j < ls.length := by simp at hj; omega
      refine ⟨.inl (h.sub j x hj' hx).1, fun e2 => ?_⟩
      rcases hv' with hv | ⟨q, hq, hq2⟩
      · exact (h.sub j x hj' hx).2 (hv ▸ e2)
      · have := h.lt x (h.sub j x hj' hx).1
        rw [hq] at e2
        simp at e2
        omega
  apart := fun i j x hi hj hij hx hy => by
    simp at hi hj
    split at hx <;> split at hy
    · omega
    · exact (hGF x hx).1 (h.sub j x (by omega) hy).1
    · exact (hGF x hy).1 (h.sub i x (by omega) hx).1
    · exact h.apart i j x (by omega) (by omega) hij hx hy
  els := fun j c a hc ha => by
    by_cases e : j = ls.length
    · subst e
      rw [← h.size, List.getElem?_concat_length] at hc
      rw [List.getElem?_concat_length] at ha
      cases hc; cases ha
      rw [if_pos rfl]; exact hG
    · have hj : j < ls.length := by have := get_lt ha; simp at this; omega
      rw [List.getElem?_append_left (by rw [h.size]; exact hj)] at hc
      rw [List.getElem?_append_left hj] at ha
      rw [if_neg e]
      exact ok.keep (h.els j c a hc ha) (fun b hb => hsame b (h.sub j b hj hb).1 (h.sub j b hj hb).2)

/-- A cell of an element is written. -/
theorem OwP.store (h : OwP n T E w v css Fs F ls) {g len cap : Nat} (hv : v = .slice (some ⟨g, 0, none⟩) len cap) {k i : Nat} {c : List Value} (hc : css[k]? = some c) (hi : i < n) (u : Value) :
    (w.setCell ⟨g, k * n + i, none⟩ u).ownsRow 0 T n v ls.length (css.set k (c.set i u)).flatten := by
  have ho := h.own
  subst hv
  obtain ⟨ao, c0, e, hh⟩ := ownsRow_form ho
  simp only [Value.slice.injEq] at e
  obtain ⟨rfl, rfl, rfl⟩ := e
  rw [← flat_set h.lens u hc hi]
  exact (ho.stored (k * n + i) u).1
theorem OwP.free (h : OwP n T E w v css Fs F ls) {g len cap : Nat} (hv : v = .slice (some ⟨g, 0, none⟩) len cap) (j : Nat) : w.frozen? ⟨g, j, none⟩ = false := by
  have ho := h.own
  subst hv
  obtain ⟨ao, c0, e, hh⟩ := ownsRow_form ho
  simp only [Value.slice.injEq] at e
  obtain ⟨rfl, rfl, rfl⟩ := e
  exact ho.frozenAt j
theorem ownsRow_keep {base size m : Nat} {xs : List Value} (h : w.ownsRow base T size v m xs) (hs : ∀ b, v.ownBlock = some b → w'.heap[b]? = w.heap[b]?) : w'.ownsRow base T size v m xs := by
  refine ⟨h.1, ?_⟩
  rcases h.2 with hn | ⟨g, cap, cur, rfl, hb, hgg, rest⟩
  · exact .inl hn
  · exact .inr ⟨g, cap, cur, rfl, hb, (hs g rfl).trans hgg, rest⟩
/-- A row of which a cell is written again. -/
theorem ownsRow_store {m : Nat} {css : List (List Value)} (ho : w.ownsRow 0 T n v m css.flatten) (hl : ∀ c ∈ css, c.length = n) {g len cap : Nat} (hv : v = .slice (some ⟨g, 0, none⟩) len cap) {k i : Nat} {c : List Value} (hc : css[k]? = some c) (hi : i < n) (u : Value) :
    (w.setCell ⟨g, k * n + i, none⟩ u).ownsRow 0 T n v m (css.set k (c.set i u)).flatten := by
  subst hv
  obtain ⟨ao, c0, e, hh⟩ := ownsRow_form ho
  simp only [Value.slice.injEq] at e
  obtain ⟨rfl, rfl, rfl⟩ := e
  rw [← flat_set hl u hc hi]
  exact (ho.stored (k * n + i) u).1
end

/-- A row of which one element is known: its cells; a cell of it is written. -/
theorem ownsRow_cell {T : TypeId} {n : Nat} {w : World} {v : Value} {m : Nat} {css : List (List Value)} {c : List Value} {k i : Nat} {x : Value} {g len cap : Nat} (ho : w.ownsRow 0 T n v m (css.set k c).flatten) (hv : v = .slice (some ⟨g, 0, none⟩) len cap) (hk : k < css.length) (hm : css.length = m) (hl : ∀ c ∈ css, c.length = n) (hc : c.length = n)
    (hx : c[i]? = some x) : w.cell? ⟨g, k * n + i, none⟩ = some x := by
  subst hv
  obtain ⟨ao, c0, e, hh⟩ := ownsRow_form ho
  simp only [Value.slice.injEq] at e
  obtain ⟨rfl, rfl, rfl⟩ := e
  have hi : i < n := by rw [← hc]; exact get_lt hx
  have hl' : ∀ d ∈ css.set k c, d.length = n := fun d hd => by
    rcases List.mem_or_eq_of_mem_set hd with hd | rfl
    · exact hl d hd
    · exact hc
  rw [ho.cellAt (k * n + i) (by have := Nat.mul_le_mul_right n (show k + 1 ≤ len by omega); rw [Nat.add_mul] at this; omega)]
  rw [flat_get hl' (List.getElem?_set_self hk) hi]; exact hx
theorem ownsRow_put {T : TypeId} {n : Nat} {w : World} {v : Value} {m : Nat} {css : List (List Value)} {c c' : List Value} {k i : Nat} {u : Value} {g len cap : Nat} (ho : w.ownsRow 0 T n v m (css.set k c).flatten) (hv : v = .slice (some ⟨g, 0, none⟩) len cap) (hk : k < css.length) (hl : ∀ c ∈ css, c.length = n) (hc : c.length = n)
    (hi : i < n) (hc' : c.set i u = c') : (w.setCell ⟨g, k * n + i, none⟩ u).ownsRow 0 T n v m (css.set k c').flatten := by
  have hl' : ∀ d ∈ css.set k c, d.length = n := fun d hd => by
    rcases List.mem_or_eq_of_mem_set hd with hd | rfl
    · exact hl d hd
    · exact hc
  have := ownsRow_store ho hl' hv (List.getElem?_set_self hk) hi u
  rw [List.set_set, hc'] at this
  exact this
theorem set_self {β : Type} {l : List β} {k : Nat} {c : β} (h : l[k]? = some c) : l.set k c = l := by
  apply List.ext_getElem?
  intro i
  by_cases e : i = k
  · subst e; rw [List.getElem?_set_self (get_lt h), h]
  · rw [List.getElem?_set_ne (Ne.symm e)]
theorem ownsRow_free {T : TypeId} {n : Nat} {w : World} {v : Value} {m : Nat} {xs : List Value} {g len cap : Nat} (ho : w.ownsRow 0 T n v m xs) (hv : v = .slice (some ⟨g, 0, none⟩) len cap) (j : Nat) : w.frozen? ⟨g, j, none⟩ = false := by
  subst hv
  obtain ⟨ao, c0, e, hh⟩ := ownsRow_form ho
  simp only [Value.slice.injEq] at e
  obtain ⟨rfl, rfl, rfl⟩ := e
  exact ho.frozenAt j
/-- A block of cells: each of them. -/
theorem cellsA {w : World} {g : Nat} {cur : Array Value} {T : TypeId} (h : w.heap[g]? = some (.cells cur T (0, 0))) (i : Nat) {v : Value} (hv : cur[i]? = some v) : w.cell? ⟨g, i, none⟩ = some v := by
  rw [cell_of_row w g i cur T (0, 0) h]; exact hv
theorem freeA {w : World} {g : Nat} {cur : Array Value} {T : TypeId} (h : w.heap[g]? = some (.cells cur T (0, 0))) (i : Nat) : w.frozen? ⟨g, i, none⟩ = false := frozen_of_row w g i cur T h
theorem setA {w : World} {g : Nat} {cur cur' : Array Value} {T : TypeId} (h : w.heap[g]? = some (.cells cur T (0, 0))) (i : Nat) (v : Value) (hc : cur.setIfInBounds i v = cur') : (w.setCell ⟨g, i, none⟩ v).heap[g]? = some (.cells cur' T (0, 0)) := by
  rw [heap_setCell_same w g i cur T v h, hc]

/-- What a function of the laws answers: true; a size; a copy. -/
structure SzOut (n : Int) (wt : Nat) (w : World) (e : Ending) (w' : World) : Prop where
  out : ∃ l : Int, e = .returned (.int .i64 l) ∧ -1 ≤ l ∧ l ≤ n ∧ (0 ≤ l → (wt : Int) + l ≤ n)
  below : Below w.heap.size w w'
structure AnsSl {α : Type} (E : Ow α) (a : α) (w : World) (e : Ending) (w' : World) : Prop where
  out : ∃ ao len cap, e = .returned (.slice ao len cap) ∧ New w.heap.size E w' [.slice ao len cap] a
  below : Below w.heap.size w w'
structure AnsAgg {α : Type} (E : Ow α) (a : α) (w : World) (e : Ending) (w' : World) : Prop where
  out : ∃ cs, e = .returned (.agg cs.toArray) ∧ New w.heap.size E w' cs a
  below : Below w.heap.size w w'
/-- Marks were laid. -/
structure MkOut {α : Type} (E : Ow α) (cs : List Value) (F : Fp) (a : α) (r : Nat) (w : World) (e : Ending) (w' : World) : Prop where
  out : e = .returned (.int .i64 (r : Int))
  own : E w' cs F a
  chg : Chg w w' F

/-! ### marks, one element behind the other; sizes -/
def ctS {α : Type} (ct : α → Nat) (ls : List α) : Nat := (ls.map ct).sum
def wtS {α : Type} (wt : α → Nat) (ls : List α) : Nat := ls.length + (ls.map wt).sum
def mkS {α : Type} (mk : Nat → α → α) (ct : α → Nat) : Nat → List α → List α
  | _, [] => []
  | m, a :: r => mk m a :: mkS mk ct (m + ct a) r
theorem mkS_len {α : Type} (mk : Nat → α → α) (ct : α → Nat) : ∀ (ls : List α) (m : Nat), (mkS mk ct m ls).length = ls.length
  | [], _ => rfl
  | a :: r, m => by simp [mkS, mkS_len mk ct r]
theorem mkS_get {α : Type} (mk : Nat → α → α) (ct : α → Nat) : ∀ (ls : List α) (m j : Nat), (mkS mk ct m ls)[j]? = ls[j]?.map (mk (m + ctS ct (ls.take j)))
  | [], _, j => by simp [mkS]
  | a :: r, m, 0 => by simp [mkS, ctS]
  | a :: r, m, j + 1 => by simp [mkS, mkS_get mk ct r, ctS, Nat.add_assoc]
def mixS {α : Type} (mk : Nat → α → α) (ct : α → Nat) (m : Nat) (ls : List α) (k : Nat) : List α := (mkS mk ct m ls).take k ++ ls.drop k
theorem mixS_zero {α : Type} (mk : Nat → α → α) (ct : α → Nat) (m : Nat) (ls : List α) : mixS mk ct m ls 0 = ls := by simp [mixS]
theorem mixS_all {α : Type} (mk : Nat → α → α) (ct : α → Nat) (m : Nat) (ls : List α) : mixS mk ct m ls ls.length = mkS mk ct m ls := by
  rw [mixS, List.take_of_length_le (by rw [mkS_len]; exact Nat.le_refl _)]; simp
theorem mixS_len {α : Type} (mk : Nat → α → α) (ct : α → Nat) (m : Nat) (ls : List α) {k : Nat} (h : k ≤ ls.length) : (mixS mk ct m ls k).length = ls.length := by
  simp [mixS, mkS_len]; omega
theorem mixS_get {α : Type} (mk : Nat → α → α) (ct : α → Nat) (m : Nat) (ls : List α) {k : Nat} {a : α} (h : ls[k]? = some a) : (mixS mk ct m ls k)[k]? = some a := by
  have hk := get_lt h
  rw [mixS, List.getElem?_append_right (by simp [mkS_len]; omega)]
  simp [mkS_len, Nat.min_eq_left (Nat.le_of_lt hk), h]
theorem mixS_set {α : Type} (mk : Nat → α → α) (ct : α → Nat) (m : Nat) (ls : List α) {k : Nat} {a : α} (h : ls[k]? = some a) : (mixS mk ct m ls k).set k (mk (m + ctS ct (ls.take k)) a) = mixS mk ct m ls (k + 1) := by
  have hk := get_lt h
  have e1 : ((mkS mk ct m ls).take k).length = k := by simp [mkS_len]; omega
  have e2 : ls.drop k = a :: ls.drop (k + 1) := by
    rw [List.drop_eq_getElem_cons hk]
    rw [List.getElem?_eq_getElem hk] at h
    cases h; rfl
  have e3 : (mkS mk ct m ls)[k]? = some (mk (m + ctS ct (ls.take k)) a) := by rw [mkS_get, h]; rfl
  unfold mixS
  rw [List.set_append_right _ _ (by omega), e1, Nat.sub_self, e2, List.set_cons_zero, List.take_add_one, e3, Option.toList_some, List.append_assoc]
  rfl
theorem ctS_take_succ {α : Type} (ct : α → Nat) {ls : List α} {k : Nat} {a : α} (h : ls[k]? = some a) : ctS ct (ls.take (k + 1)) = ctS ct (ls.take k) + ct a := by
  rw [ctS, List.take_add_one, h, Option.toList_some, List.map_append, List.sum_append]; simp [ctS]
theorem ctS_take_le {α : Type} (ct : α → Nat) (ls : List α) (k : Nat) : ctS ct (ls.take k) ≤ ctS ct ls := by
  unfold ctS
  conv => rhs; rw [← List.take_append_drop k ls]
  rw [List.map_append, List.sum_append]; omega
theorem ctS_all {α : Type} (ct : α → Nat) (ls : List α) : ctS ct (ls.take ls.length) = ctS ct ls := by simp
theorem ctS_nil {α : Type} (ct : α → Nat) : ctS ct ([] : List α) = 0 := rfl
theorem wtS_le {α : Type} (wt : α → Nat) {ls : List α} {k : Nat} {a : α} (h : ls[k]? = some a) : wt a + 1 ≤ wtS wt ls := by
  have hk := get_lt h
  have e : ctS wt (ls.take (k + 1)) = ctS wt (ls.take k) + wt a := ctS_take_succ wt h
  have := ctS_take_le wt ls (k + 1)
  unfold ctS at *
  unfold wtS
  omega
theorem wtS_len {α : Type} (wt : α → Nat) (ls : List α) : ls.length ≤ wtS wt ls := by unfold wtS; omega
/-- marks counted: no more than K times the weight. -/
theorem ctS_wtS {α : Type} (ct wt : α → Nat) (K : Nat) (h : ∀ a, ct a ≤ K * (wt a + 1)) : ∀ ls : List α, ctS ct ls ≤ K * wtS wt ls
  | [] => by simp [ctS]
  | a :: r => by
    have h1 := h a
    have h2 := ctS_wtS ct wt K h r
    have e1 : ctS ct (a :: r) = ct a + ctS ct r := by simp [ctS]
    have e2 : wtS wt (a :: r) = (wt a + 1) + wtS wt r := by simp [wtS]; omega
    rw [e1, e2, Nat.mul_add]
    omega
/-- What is left of a size, element by element: no less than nothing, or too little. -/
theorem wt_take_succ {α : Type} (wt : α → Nat) {ls : List α} {k : Nat} {a : α} (h : ls[k]? = some a) : ((ls.take (k + 1)).map wt).sum = ((ls.take k).map wt).sum + wt a := ctS_take_succ wt h

/-! ### a list that is made, and filled -/
def fillS {α : Type} (ls : List α) (z : α) (k : Nat) : List α := ls.take k ++ List.replicate (ls.length - k) z
theorem fillS_zero {α : Type} (ls : List α) (z : α) : fillS ls z 0 = List.replicate ls.length z := by simp [fillS]
theorem fillS_all {α : Type} (ls : List α) (z : α) : fillS ls z ls.length = ls := by simp [fillS]
theorem fillS_len {α : Type} (ls : List α) (z : α) {k : Nat} (h : k ≤ ls.length) : (fillS ls z k).length = ls.length := by simp [fillS]; omega
theorem fillS_get {α : Type} (ls : List α) (z : α) {k : Nat} (h : k < ls.length) : (fillS ls z k)[k]? = some z := by
  rw [fillS, List.getElem?_append_right (by simp; omega)]
  have e : k - (ls.take k).length = 0 := by simp; omega
  rw [e, List.getElem?_replicate, if_pos (by omega)]
theorem fillS_set {α : Type} (ls : List α) (z : α) {k : Nat} {a : α} (h : ls[k]? = some a) : (fillS ls z k).set k a = fillS ls z (k + 1) := by
  have hk := get_lt h
  have e1 : (ls.take k).length = k := by simp; omega
  unfold fillS
  rw [List.set_append_right _ _ (by omega), e1, Nat.sub_self, List.take_add_one, h, Option.toList_some, List.append_assoc]
  obtain ⟨n, hn⟩ : ∃ n, ls.length - k = n + 1 := ⟨ls.length - k - 1, by omega⟩
  rw [hn, List.replicate_succ, List.set_cons_zero, show ls.length - (k + 1) = n from by omega]
  rfl
theorem ownsRow_base {T : TypeId} {w : World} {v : Value} {base b' size m : Nat} {xs : List Value} (h : w.ownsRow base T size v m xs) (hb : b' ≤ base) : w.ownsRow b' T size v m xs := by
  refine ⟨h.1, ?_⟩
  rcases h.2 with hn | ⟨g, cap, cur, rfl, hg, rest⟩
  · exact .inl hn
  · exact .inr ⟨g, cap, cur, rfl, Nat.le_trans hb hg, rest⟩
theorem made_flat (zs : List Value) {n : Nat} (hn : zs.length = n) (h0 : 0 < n) (m : Nat) : (madeCells zs.toArray (m * n)).toList = (List.replicate m zs).flatten := by
  have hl : ∀ c ∈ List.replicate m zs, c.length = n := fun c hc => by rw [(List.mem_replicate.1 hc).2, hn]
  apply List.ext_getElem?
  intro i
  by_cases hi : i < m * n
  · have hq : i / n < m := (Nat.div_lt_iff_lt_mul h0).2 hi
    have hr : i % n < n := Nat.mod_lt _ h0
    have he : i / n * n + i % n = i := by rw [Nat.mul_comm]; exact Nat.div_add_mod i n
    have h1 := flat_get hl (j := i / n) (i := i % n) (c := zs) (by simp [hq]) hr
    rw [he] at h1
    rw [h1]
    simp [madeCells, hi, hn, List.getElem?_eq_getElem (show i % n < zs.length by omega)]
  · have h1 : (List.replicate m zs).flatten.length ≤ i := by rw [flat_len hl]; simp; omega
    rw [List.getElem?_eq_none h1]
    simp [madeCells, hi]
/-- Such a list, made: every element is the zero one. -/
theorem owP_made {α : Type} {n : Nat} {T : TypeId} {E : Ow α} {w : World} {g c m : Nat} {zs : List Value} {z : α} (ho : w.ownsRow 0 T n (.slice (some ⟨g, 0, none⟩) m c) m (List.replicate m zs).flatten) (hn : zs.length = n) (hg : g < w.heap.size) (hz : E w zs (fun _ => False) z) :
    OwP n T E w (.slice (some ⟨g, 0, none⟩) m c) (List.replicate m zs) (fun _ _ => False) (fun x => x = g) (List.replicate m z) where
  own := by rw [List.length_replicate]; exact ho
  size := by simp
  lens := fun c hc => by rw [(List.mem_replicate.1 hc).2, hn]
  lt := fun x hx => by rw [hx]; exact hg
  blk := fun x hx => by simp [Value.ownBlock] at hx; exact hx.symm
  sub := fun _ _ _ h => False.elim h
  apart := fun _ _ _ _ _ _ h => False.elim h
  els := fun j c a hc ha => by
    rw [(List.mem_replicate.1 (List.mem_of_getElem? hc)).2, (List.mem_replicate.1 (List.mem_of_getElem? ha)).2]; exact hz

/-! ### a list of one's own: its cells, an element put, an element appended -/
def setRow (w : World) (g : Nat) : Nat → List Value → World
  | _, [] => w
  | o, v :: r => setRow (w.setCell ⟨g, o, none⟩ v) g (o + 1) r
theorem setRow_other (g : Nat) : ∀ (cs : List Value) (w : World) (o : Nat) {b : Nat}, b ≠ g → (setRow w g o cs).heap[b]? = w.heap[b]?
  | [], _, _, _, _ => rfl
  | v :: r, w, o, b, hb => (setRow_other g r (w.setCell ⟨g, o, none⟩ v) (o + 1) hb).trans (heap_setCell_other w ⟨g, o, none⟩ b v hb)
theorem setRow_size (g : Nat) : ∀ (cs : List Value) (w : World) (o : Nat), (setRow w g o cs).heap.size = w.heap.size
  | [], _, _ => rfl
  | v :: r, w, o => (setRow_size g r (w.setCell ⟨g, o, none⟩ v) (o + 1)).trans (World.size_setCell _ _ _)
theorem setRow_chg (g : Nat) {F : Fp} (hF : F g) : ∀ (cs : List Value) (w : World) (o : Nat), Chg w (setRow w g o cs) F
  | [], w, _ => Chg.refl w F
  | v :: r, w, _ => ((Chg.refl w F).setCell hF v).trans (setRow_chg g hF r _ _)
theorem setRow_row {T : TypeId} {n : Nat} {v : Value} {m k : Nat} {css : List (List Value)} {g len cap : Nat} (hv : v = .slice (some ⟨g, 0, none⟩) len cap) (hk : k < css.length) (hl : ∀ c ∈ css, c.length = n) :
    ∀ (rest : List Value) (w : World) (i : Nat) (c : List Value), c.length = n → i + rest.length = n → w.ownsRow 0 T n v m (css.set k c).flatten → (setRow w g (k * n + i) rest).ownsRow 0 T n v m (css.set k (c.take i ++ rest)).flatten
  | [], w, i, c, hc, hi, ho => by
    have e : c.take i ++ [] = c := by rw [List.append_nil, List.take_of_length_le (by simp at hi; omega)]
    rw [e]; exact ho
  | x :: r, w, i, c, hc, hi, ho => by
    have hi' : i < n := by simp at hi; omega
    have h1 := ownsRow_put (u := x) ho hv hk hl hc hi' rfl
    have h2 := setRow_row hv hk hl r _ (i + 1) (c.set i x) (by simp [hc]) (by simp at hi; omega) h1
    have e : (c.set i x).take (i + 1) ++ r = c.take i ++ x :: r := by
      rw [List.take_add_one, List.getElem?_set_self (by omega), List.take_set_of_le (Nat.le_refl _), Option.toList_some, List.append_assoc]
      rfl
    rw [e] at h2
    exact h2

section
variable {α : Type} {n : Nat} {T : TypeId} {E : Ow α} {R : Rd α} {w w' : World} {F : Fp} {ls : List α}
theorem owS_slice {v : Value} (h : OwS n T E w [v] F ls) : ∃ ao c, v = .slice ao ls.length c ∧ ((ao = none ∧ ls = []) ∨ ∃ g, ao = some ⟨g, 0, none⟩ ∧ F g) := by
  obtain ⟨v', css, Fs, e, P⟩ := h
  simp only [List.cons.injEq, and_true] at e
  subst e
  obtain ⟨ao, c, rfl, hh⟩ := ownsRow_form P.own
  refine ⟨ao, c, rfl, ?_⟩
  rcases hh with ⟨rfl, h0⟩ | ⟨g, rfl⟩
  · exact .inl ⟨rfl, List.eq_nil_of_length_eq_zero h0⟩
  · exact .inr ⟨g, rfl, P.blk g rfl⟩
theorem owS_len {ao : Option Addr} {len cap : Nat} (h : OwS n T E w [.slice ao len cap] F ls) : ls.length = len ∧ len ≤ maxLen := by
  obtain ⟨v', css, Fs, e, P⟩ := h
  simp only [List.cons.injEq, and_true] at e
  subst e
  obtain ⟨a, c, e, hh⟩ := ownsRow_form P.own
  simp only [Value.slice.injEq] at e
  refine ⟨e.2.1.symm, ?_⟩
  rw [e.2.1]; exact ownsRow_max P.own
/-- Its cells. -/
theorem owS_at {g len cap k : Nat} (h : OwS n T E w [.slice (some ⟨g, 0, none⟩) len cap] F ls) (hk : k < len) : ∃ c a, ls[k]? = some a ∧ c.length = n ∧ (∀ i v, c[i]? = some v → w.cell? ⟨g, k * n + i, none⟩ = some v) ∧ (∀ j, w.frozen? ⟨g, j, none⟩ = false) ∧ F g ∧ ∃ G : Fp, E w c G a ∧ ∀ x, G x → F x ∧ x ≠ g := by
  have hlen := (owS_len h).1
  obtain ⟨v', css, Fs, e, P⟩ := h
  simp only [List.cons.injEq, and_true] at e
  subst e
  obtain ⟨a, ha⟩ := get_some (l := ls) (j := k) (by omega)
  obtain ⟨c, hc, hcn, hE⟩ := P.cellsAt ha
  refine ⟨c, a, ha, hcn, fun i v hv => ?_, fun j => ownsRow_free P.own rfl j, P.blk g rfl, Fs k, hE, fun x hx => ⟨(P.sub k x (by omega) hx).1, fun e => (P.sub k x (by omega) hx).2 (by rw [e]; rfl)⟩⟩
  rw [P.cell rfl hc (by rw [← hcn]; exact get_lt hv)]; exact hv
/-- An element is put, in new blocks. -/
theorem owS_put (ok : OwOk n E R) {w1 : World} {g len cap k : Nat} {c' : List Value} {a' : α} {G : Fp} (h : OwS n T E w [.slice (some ⟨g, 0, none⟩) len cap] F ls) (hk : k < len) (hc' : c'.length = n) (hb : Chg w w1 (fun x => ¬ F x))
    (hE : E w1 c' G a') (hG : ∀ x, G x → w.heap.size ≤ x) : OwS n T E (setRow w1 g (k * n) c') [.slice (some ⟨g, 0, none⟩) len cap] (fun x => F x ∨ G x) (ls.set k a') := by
  have hlen := (owS_len h).1
  obtain ⟨v', css, Fs, e, P⟩ := h
  simp only [List.cons.injEq, and_true] at e
  subst e
  have hkl : k < ls.length := by omega
  obtain ⟨a, ha⟩ := get_some hkl
  obtain ⟨c, hc, hcn, _⟩ := P.cellsAt ha
  have hg := P.lt g (P.blk g rfl)
  have ho : w1.ownsRow 0 T n (.slice (some ⟨g, 0, none⟩) len cap) ls.length (css.set k c).flatten := by
    rw [set_self hc]
    exact ownsRow_keep P.own (fun b hb2 => hb.block b (P.lt b (P.blk b hb2)) (fun hn => hn (P.blk b hb2)))
  have h1 := setRow_row (rest := c') rfl (by rw [P.size]; exact hkl) P.lens w1 0 c hcn (by omega) ho
  rw [Nat.add_zero, List.take_zero, List.nil_append] at h1
  refine ⟨_, _, _, rfl, P.put ok hkl h1 hc' (ok.keep hE (fun b hb2 => setRow_other g c' w1 _ (by have := hG b hb2; omega))) (fun x hx => .inr (hG x hx)) (fun x hx h1 h2 => ?_) (by rw [setRow_size]; exact hb.size)⟩
  rw [setRow_other g c' w1 _ (fun e => h1 (by rw [e]; rfl))]
  exact hb.block x (P.lt x hx) (fun hn => hn hx)
/-- An element is appended. -/
theorem run_push {P : Program} (ok : OwOk n E R) (t ty : TypeId) {i : TypeInfo} {z : Value} {bytes : Nat} (ht : P.underlying t = some (.slice T)) (hi : P.info? T = some i) (hz : i.zero = some z) (hsize : i.size = n) (hby : i.bytes = bytes) (hzs : z.cells.size = n) (hn0 : 0 < n)
    {v : Value} (h : OwS n T E w [v] F ls) {q : Nat} {c' : List Value} {a' : α} {G : Fp} (hq : w.heap[q]? = some (.cells c'.toArray T (0, 0))) (hc' : c'.length = n) (h1 : ∀ u ∈ c', u.oneCell' = true) (hE : E w c' G a') (hG : ∀ x, G x → ¬ F x)
    (h63 : ls.length + 1 ≤ maxLen) (hbytes : (ls.length + 1) * bytes ≤ 140737488355328) :
    ∃ v' w', (Builtin.append_ #[t, t] ty #[v, .slice (some ⟨q, 0, none⟩) 1 1]).run P w = .ok v' w' ∧ (∃ F' : Fp, OwS n T E w' [v'] F' (ls ++ [a']) ∧ ∀ x, F' x → F x ∨ G x ∨ w.heap.size ≤ x) ∧ w.grownBy w' v.ownBlock := by
  obtain ⟨v0, css, Fs, e, Q⟩ := h
  simp only [List.cons.injEq, and_true] at e
  subst e
  have hnews : ∀ j u, c'[j]? = some u → w.cell? ((⟨q, 0, none⟩ : Addr).add j) = some u := fun j u hu => by
    rw [Addr.add_lit, Nat.zero_add]; exact cellsA hq j (by simpa using hu)
  obtain ⟨v', w', hr, ho, hg, _, hat⟩ := run_append_own_at (P := P) w 0 t ty T i z n bytes ht hi hz hsize hby hzs hn0 v ls.length css.flatten Q.own ⟨q, 0, none⟩ 1 1 c' (by rw [hc', Nat.one_mul]) hnews h1 h63 hbytes (Nat.zero_le _)
  refine ⟨v', w', hr, ⟨_, ⟨v', _, _, rfl, Q.push ok ho hc' (hat.imp id (fun h => ⟨_, h, Nat.le_refl _⟩)) (ok.keep hE (fun b hb => hg.block b (ok.lt hE b hb) (fun e => hG b hb (Q.blk b e.symm)))) (fun x hx => ⟨hG x hx, fun e => ?_⟩) (fun x hx hne => hg.block x (Q.lt x hx) (fun e => hne e.symm)) hg.size⟩, ?_⟩, hg⟩
  · rcases hat with h | h
    · exact hG x hx (Q.blk x (by rw [← h]; exact e))
    · rw [h] at e
      simp only [Option.some.injEq] at e
      have := ok.lt hE x hx
      omega
  · rintro x (hx | hx | hx)
    · exact .inl hx
    · exact .inr (.inl hx)
    · rcases hat with h | h
      · exact .inl (Q.blk x (by rw [← h]; exact hx))
      · rw [h] at hx
        simp only [Option.some.injEq] at hx
        exact .inr (.inr (by omega))
theorem wp_push {P : Program} {o : Oper} {a : Act} {K : Act → World → Prop} {X : Exit → Act → World → Prop} (ok : OwOk n E R) (s x : Operand) (t : TypeId) (ho : o.op = .call { callee := .builtin .append, args := #[s, x], argTypes := #[t, t] })
    {i : TypeInfo} {z : Value} {bytes : Nat} (ht : P.underlying t = some (.slice T)) (hi : P.info? T = some i) (hz : i.zero = some z) (hsize : i.size = n) (hby : i.bytes = bytes) (hzs : z.cells.size = n) (hn0 : 0 < n)
    {v : Value} (hs : a.eval s = v) (h : OwS n T E w [v] F ls) {q : Nat} {c' : List Value} {a' : α} {G : Fp} (hx : a.eval x = .slice (some ⟨q, 0, none⟩) 1 1) (hq : w.heap[q]? = some (.cells c'.toArray T (0, 0))) (hc' : c'.length = n) (h1 : ∀ u ∈ c', u.oneCell' = true) (hE : E w c' G a') (hG : ∀ x, G x → ¬ F x)
    (h63 : ls.length + 1 ≤ maxLen) (hbytes : (ls.length + 1) * bytes ≤ 140737488355328)
    (hK : ∀ v' w', (∃ F' : Fp, OwS n T E w' [v'] F' (ls ++ [a']) ∧ ∀ x, F' x → F x ∨ G x ∨ w.heap.size ≤ x) → w.grownBy w' v.ownBlock → K (a.put o.dst v') w') : o.wp P a w K X := by
  obtain ⟨v', w', hr, h2, h3⟩ := run_push (P := P) ok t o.type ht hi hz hsize hby hzs hn0 h hq hc' h1 hE hG h63 hbytes
  unfold Oper.wp execOp
  simp only [ho, resolve, invoke, builtin, Sem.run_bind, Sem.run_pure, Result.andThen_ok, List.map_toArray, List.map_cons, List.map_nil, hs, hx, hr]
  exact hK v' w' h2 h3
theorem wpList_push {P : Program} {ops : Array Oper} {rest : List Oper} {o : Oper} {a : Act} {X : Exit → Act → World → Prop} (hgd : o.guard = none) (ok : OwOk n E R) (s x : Operand) (t : TypeId) (ho : o.op = .call { callee := .builtin .append, args := #[s, x], argTypes := #[t, t] })
    {i : TypeInfo} {z : Value} {bytes : Nat} (ht : P.underlying t = some (.slice T)) (hi : P.info? T = some i) (hz : i.zero = some z) (hsize : i.size = n) (hby : i.bytes = bytes) (hzs : z.cells.size = n) (hn0 : 0 < n)
    {v : Value} (hs : a.eval s = v) (h : OwS n T E w [v] F ls) {q : Nat} {c' : List Value} {a' : α} {G : Fp} (hx : a.eval x = .slice (some ⟨q, 0, none⟩) 1 1) (hq : w.heap[q]? = some (.cells c'.toArray T (0, 0))) (hc' : c'.length = n) (h1 : ∀ u ∈ c', u.oneCell' = true) (hE : E w c' G a') (hG : ∀ x, G x → ¬ F x)
    (h63 : ls.length + 1 ≤ maxLen) (hbytes : (ls.length + 1) * bytes ≤ 140737488355328)
    (hK : ∀ v' w', (∃ F' : Fp, OwS n T E w' [v'] F' (ls ++ [a']) ∧ ∀ x, F' x → F x ∨ G x ∨ w.heap.size ≤ x) → w.grownBy w' v.ownBlock → wpList P ops X rest (a.put o.dst v') w') : wpList P ops X (o :: rest) a w :=
  wpList_plain hgd fun _ hK' => wp_push ok s x t ho ht hi hz hsize hby hzs hn0 hs h hx hq hc' h1 hE hG h63 hbytes fun v' w' h2 h3 => hK' _ _ (hK v' w' h2 h3)
theorem step_push {P : Program} {ops : Array Oper} {o : Oper} {a : Act} {K : Act → World → Prop} {X : Exit → Act → World → Prop} {Z : Prop} (hgd : o.guard = none) (ok : OwOk n E R) (s x : Operand) (t : TypeId) (ho : o.op = .call { callee := .builtin .append, args := #[s, x], argTypes := #[t, t] })
    {i : TypeInfo} {z : Value} {bytes : Nat} (ht : P.underlying t = some (.slice T)) (hi : P.info? T = some i) (hz : i.zero = some z) (hsize : i.size = n) (hby : i.bytes = bytes) (hzs : z.cells.size = n) (hn0 : 0 < n)
    {v : Value} (hs : a.eval s = v) (h : OwS n T E w [v] F ls) {q : Nat} {c' : List Value} {a' : α} {G : Fp} (hx : a.eval x = .slice (some ⟨q, 0, none⟩) 1 1) (hq : w.heap[q]? = some (.cells c'.toArray T (0, 0))) (hc' : c'.length = n) (h1 : ∀ u ∈ c', u.oneCell' = true) (hE : E w c' G a') (hG : ∀ x, G x → ¬ F x)
    (h63 : ls.length + 1 ≤ maxLen) (hbytes : (ls.length + 1) * bytes ≤ 140737488355328)
    (hK : ∀ v' w', (∃ F' : Fp, OwS n T E w' [v'] F' (ls ++ [a']) ∧ ∀ x, F' x → F x ∨ G x ∨ w.heap.size ≤ x) → w.grownBy w' v.ownBlock → K (a.put o.dst v') w') :
    if Region.wanted o (yielded ops a.tmps) = true then Oper.wp P o a w K X else Z := by
  have hw : Region.wanted o (yielded ops a.tmps) = true := by simp [Region.wanted, hgd]
  rw [if_pos hw]
  exact wp_push ok s x t ho ht hi hz hsize hby hzs hn0 hs h hx hq hc' h1 hE hG h63 hbytes hK
end

end Go.Proofs.Ytlididoalekeoaa
