/- A slice of bytes of new memory, or nil; append of whatever slice, nil ones too. -/
import Derived.Test.YtlididoalekeoaaApp
namespace Go.Proofs.Ytlididoalekeoaa
set_option maxRecDepth 4000
open Go.RowKit

/-- A slice of bytes of new memory, or nil where there is none. -/
def OwnO (w : World) (B : Nat) (ao : Option Addr) (c : Nat) (bs : List UInt8) : Prop :=
  (ao = none ∧ c = 0 ∧ bs = []) ∨ ∃ q, ao = some ⟨q, 0, none⟩ ∧ B ≤ q ∧ Own w q c bs
theorem ownO_of {w : World} {B n : Nat} {v : Value} {bs : List UInt8} (h : w.ownsRow B 5 1 v n (bs.map cb)) : ∃ ao c, v = .slice ao n c ∧ OwnO w B ao c bs := by
  by_cases hv : v = .slice none 0 0
  · subst hv
    have hn : n = 0 := by
      rcases h.2 with ⟨_, h0⟩ | ⟨g, cap, cur, h', _⟩
      · exact h0
      · cases h'
    have hl : bs.length = n := by simpa using h.1
    subst hn
    exact ⟨none, 0, rfl, .inl ⟨rfl, rfl, List.eq_nil_of_length_eq_zero hl⟩⟩
  · obtain ⟨g, c, rfl, hb, hO⟩ := own_row h hv
    exact ⟨_, c, rfl, .inr ⟨g, rfl, hb, hO⟩⟩
theorem OwnO.owns {w : World} {B c n : Nat} {ao : Option Addr} {bs : List UInt8} (h : OwnO w B ao c bs) (hn : bs.length = n) : w.ownsRow B 5 1 (.slice ao n c) n (bs.map cb) := by
  rcases h with ⟨rfl, rfl, rfl⟩ | ⟨q, rfl, hb, hO⟩
  · simp at hn; subst hn; exact World.ownsRow_nil w B _ _
  · exact hO.owns hn hb
theorem OwnO.reads {w : World} {B c n : Nat} {ao : Option Addr} {bs : List UInt8} (h : OwnO w B ao c bs) (hn : bs.length = n) : Reads w ao n bs := by
  rcases h with ⟨rfl, rfl, rfl⟩ | ⟨q, rfl, hb, hO⟩
  · exact ⟨hn, .inl (by simpa using hn.symm)⟩
  · exact hO.row.reads hn
theorem OwnO.below {w w' : World} {B c : Nat} {ao : Option Addr} {bs : List UInt8} (h : OwnO w B ao c bs) (hb : Below w.heap.size w w') : OwnO w' B ao c bs := by
  rcases h with h | ⟨q, rfl, h1, hO⟩
  · exact .inl h
  · exact .inr ⟨q, rfl, h1, hO.below hb⟩
theorem OwnO.mono {w : World} {B B' c : Nat} {ao : Option Addr} {bs : List UInt8} (h : OwnO w B ao c bs) (hb : B' ≤ B) : OwnO w B' ao c bs := by
  rcases h with h | ⟨q, rfl, h1, hO⟩
  · exact .inl h
  · exact .inr ⟨q, rfl, by omega, hO⟩

theorem reads_none {w : World} {m : Nat} {ys : List UInt8} (h : Reads w none m ys) : m = 0 ∧ ys = [] := by
  have h0 : m = 0 := by
    rcases h.2 with h0 | ⟨b, off, e, _⟩
    · exact h0
    · cases e
  subst h0
  exact ⟨rfl, List.eq_nil_of_length_eq_zero h.1⟩
theorem reads_news {w : World} {a : Addr} {m : Nat} {ys : List UInt8} (h : Reads w (some a) m ys) : ∀ j u, (ys.map cb)[j]? = some u → w.cell? (a.add j) = some u := by
  rcases h.2 with h0 | ⟨b, off, e, hc⟩
  · intro j u hu
    have : ys = [] := List.eq_nil_of_length_eq_zero (h.1.trans h0)
    subst this; cases hu
  · cases e; exact map_cb_cell h.1 hc

/-- append of whatever slice onto one of the call's own, nil ones too. -/
theorem run_app_o (w : World) (ty : TypeId) (base n : Nat) (v : Value) (xs ys : List UInt8) (hown : w.ownsRow base 5 1 v n (xs.map cb)) (hbw : base ≤ w.heap.size) (ao : Option Addr) (m cc : Nat) (hr : Reads w ao m ys) (hlim : n + m ≤ 2147483648) :
    ∃ v' w', (Builtin.append_ #[22, 22] ty #[v, .slice ao m cc]).run Try.prog w = .ok v' w' ∧ w'.ownsRow base 5 1 v' (n + m) ((xs ++ ys).map cb) ∧ w.grownBy w' v.ownBlock := by
  obtain ⟨i0, hi, hz0, hz1, hz2⟩ := info_parts info8
  cases ao with
  | some a =>
    obtain ⟨v', w', h1, h2, h3, _, _⟩ := run_append_own_at (P := Try.prog) w base 22 ty 5 i0 (.int .u8 0) 1 1 Try.underlying22 hi hz0 hz1 hz2 rfl (by decide) v n (xs.map cb) hown a m cc (ys.map cb) (by simpa using hr.1) (reads_news hr) (one_cb ys) (by unfold maxLen; omega) (by omega) hbw
    exact ⟨v', w', h1, by rw [List.map_append]; exact h2, h3⟩
  | none =>
    obtain ⟨rfl, rfl⟩ := reads_none hr
    refine ⟨v, w, ?_, by simpa using hown, ⟨rfl, rfl, rfl, Nat.le_refl _, fun _ _ _ => rfl⟩⟩
    rcases hown.2 with ⟨rfl, rfl⟩ | ⟨g, cap, cur, rfl, hbg, hg, hnc, hcm, hcs, htake⟩
    · simp [Builtin.append_, run_underlying Try.underlying22, sizeOf, typeInfo, hi, Builtin.lenOf, Builtin.firstCells]
    · simp [Builtin.append_, run_underlying Try.underlying22, sizeOf, typeInfo, hi, Builtin.lenOf, Builtin.firstCells, loadCells, hnc, storeCells]
theorem wpList_app_o {w : World} {ops : Array Oper} {rest : List Oper} {o : Oper} {a : Act} {Q : Exit → Act → World → Prop} (hgd : o.guard = none) (s x : Operand)
    (ho : o.op = .call { callee := .builtin .append, args := #[s, x], argTypes := #[22, 22] })
    (base n : Nat) (v : Value) (xs ys : List UInt8) (hs : a.eval s = v) (hown : w.ownsRow base 5 1 v n (xs.map cb)) (hbw : base ≤ w.heap.size) (ao : Option Addr) (m cc : Nat) (hx : a.eval x = .slice ao m cc) (hr : Reads w ao m ys) (hlim : n + m ≤ 2147483648)
    (h : ∀ v' w', w'.ownsRow base 5 1 v' (n + m) ((xs ++ ys).map cb) → w.grownBy w' v.ownBlock → wpList Try.prog ops Q rest (a.put o.dst v') w') : wpList Try.prog ops Q (o :: rest) a w := by
  refine wpList_plain hgd fun _ hK => ?_
  obtain ⟨v', w', hrun, h1, h2⟩ := run_app_o w o.type base n v xs ys hown hbw ao m cc hr hlim
  unfold Oper.wp execOp
  simp only [ho, resolve, invoke, builtin, Sem.run_bind, Sem.run_pure, Result.andThen_ok, List.map_toArray, List.map_cons, List.map_nil, hs, hx, hrun]
  exact hK _ _ (h v' w' h1 h2)

end Go.Proofs.Ytlididoalekeoaa
