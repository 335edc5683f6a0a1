/- bytes.Clone, and append of bytes onto none, in the words of Deep. -/
import Derived.Test.YtlididoalekeoaaDeepB
import Derived.Test.YtlididoalekeoaaOwnOs
namespace Go.Proofs.Ytlididoalekeoaa
set_option maxRecDepth 4000
open Go.RowKit

theorem owB_owns {w : World} {base n : Nat} {v : Value} {bs : List UInt8} (h : w.ownsRow base 5 1 v n (bs.map cb)) : ∃ ao c, v = .slice ao n c ∧ bs.length = n ∧ New base OwB w [.slice ao n c] bs := by
  have hn : bs.length = n := by simpa using h.1
  obtain ⟨ao, c, rfl, hO⟩ := ownO_of h
  refine ⟨ao, c, rfl, hn, ?_⟩
  rcases hO with ⟨rfl, rfl, rfl⟩ | ⟨q, rfl, hq, hO⟩
  · simp at hn
    subst hn
    exact ⟨fun _ => False, owB_nil w, fun _ h => False.elim h⟩
  · exact ⟨fun x => x = q, owB_row hO.row hn, fun x hx => by rw [hx]; exact hq⟩

theorem add_spot {w : World} {a : Addr} {m : Nat} {ys : List UInt8} (h : Reads w (some a) m ys) : ∀ j u, (ys.map cb)[j]? = some u → w.cell? (a.add j) = some u := reads_news h
set_option maxHeartbeats 1000000 in
theorem clone_rd (ao : Option Addr) (len cap : Nat) (bs : List UInt8) (w : World) (h : RdB w [.slice ao len cap] bs) (hw : bs.length ≤ 1073741824) :
    Calls Try.prog 82 #[.slice ao len cap] w (AnsSl OwB bs w) := by
  obtain ⟨_, hr⟩ := rdB_parts h
  have hl : len ≤ 1073741824 := by rw [← hr.1]; exact hw
  obtain ⟨i0, hi, hz0, hz1, hz2⟩ := info_parts info8
  have q : ∀ (w : World) (a : Option Addr) (n c n' c' : Nat), (binOp .eql 22 (.slice a n c) (.slice none n' c')).run Try.prog w = .ok (.bool a.isNone) w := fun w a n c n' c' => Lib.run_eql_slice_nil w _ _ a n c n' c' Try.underlying22
  have HR : Hd (Reads w ao len bs) := ⟨hr⟩
  clear h hr hw
  cases ao with
  | none =>
    obtain ⟨rfl, rfl⟩ := reads_none HR.out
    clear HR
    go_enter Try.func82, Try.ntmps82
    go_wp2
    go_ret
    exact ⟨⟨none, 0, 0, rfl, fun _ => False, owB_nil w, fun _ h => False.elim h⟩, Below.refl _ w⟩
  | some a =>
    have HN : Hd (∀ j u, (bs.map cb)[j]? = some u → (w.alloc (.cells #[] 5)).cell? (a.add j) = some u) := ⟨reads_news (HR.out.below rfl (below_lit w _))⟩
    have HL : Hd ((bs.map cb).length = len * 1) := ⟨by simpa using HR.out.1⟩
    clear HR
    go_enter Try.func82, Try.ntmps82
    go_wp2_with (at_builtin; refine wpList_append_own _ rfl (.tmp 5) (.tmp 6) 22 rfl w.heap.size 5 i0 (.int .u8 0) 1 1 Try.underlying22 hi hz0 hz1 hz2 rfl (by decide) _ 0 [] rfl ?hown a len cap (bs.map cb) rfl ?hl ?hn ?h1 ?h63 ?hby ?hbase ?_)
    case hown => exact World.ownsRow_made w #[] 0 (Nat.le_refl _) (by unfold maxLen; omega) rfl
    case hl => exact HL.out
    case hn => exact HN.out
    case h1 => exact one_cb bs
    case h63 => unfold maxLen; omega
    case hby => omega
    case hbase => simp
    intro v1 w1 hown1 hgr1 hne1
    have HA : Hd (∃ ao c, v1 = .slice ao len c ∧ New w.heap.size OwB w1 [.slice ao len c] bs) := ⟨by
      obtain ⟨ao, c, h1, _, h2⟩ := owB_owns hown1
      exact ⟨ao, c, h1, h2⟩⟩
    have HB : Hd (Below w.heap.size w w1) := ⟨((Below.refl _ w).alloc (Nat.le_refl _) _).grown hgr1 (by simp) (fun k h => by simp [Value.ownBlock] at h; omega)⟩
    obtain ⟨ao, c, hv, hO⟩ := HA.out
    have HO : Hd (New w.heap.size OwB w1 [.slice ao len c] bs) := ⟨hO⟩
    rw [hv]
    clear hown1 hgr1 hne1 hv hO HA HN HL
    go_wp2
    go_ret
    exact ⟨⟨ao, len, c, rfl, HO.out⟩, HB.out⟩

/-- append([]byte{}, x...): x's bytes in new memory. -/
theorem run_emp (w : World) (ty : TypeId) (e : Nat) (he : w.heap[e]? = some (.cells #[] 5 (0, 0))) (ao : Option Addr) (m cc : Nat) (ys : List UInt8) (hr : RdB w [.slice ao m cc] ys) (hlim : ys.length ≤ 1073741824) :
    ∃ ao' c w', (Builtin.append_ #[22, 22] ty #[.slice (some ⟨e, 0, none⟩) 0 0, .slice ao m cc]).run Try.prog w = .ok (.slice ao' m c) w' ∧ New e OwB w' [.slice ao' m c] ys ∧ w.grownBy w' (some e) := by
  have hown : w.ownsRow e 5 1 (.slice (some ⟨e, 0, none⟩) 0 0) 0 (([] : List UInt8).map cb) := ⟨by simp, .inr ⟨e, 0, #[], rfl, Nat.le_refl _, he, Nat.le_refl _, by unfold maxLen; omega, by simp, by simp⟩⟩
  have hm := (rdB_parts hr).2
  obtain ⟨v', w', h1, h2, h3⟩ := run_app_o w ty e 0 _ [] ys hown (Nat.le_of_lt (lt_of_block he)) ao m cc hm (by have := hm.1; omega)
  rw [Nat.zero_add, List.nil_append] at h2
  obtain ⟨ao', c, rfl, _, hN⟩ := owB_owns h2
  exact ⟨ao', c, w', h1, hN, h3⟩
theorem wp_emp {w : World} {o : Oper} {a : Act} {K : Act → World → Prop} {Q : Exit → Act → World → Prop} (s x : Operand) (ho : o.op = .call { callee := .builtin .append, args := #[s, x], argTypes := #[22, 22] })
    (e : Nat) (hs : a.eval s = .slice (some ⟨e, 0, none⟩) 0 0) (he : w.heap[e]? = some (.cells #[] 5 (0, 0))) (ao : Option Addr) (m cc : Nat) (ys : List UInt8) (hx : a.eval x = .slice ao m cc) (hr : RdB w [.slice ao m cc] ys) (hlim : ys.length ≤ 1073741824)
    (hK : ∀ ao' c w', New e OwB w' [.slice ao' m c] ys → w.grownBy w' (some e) → K (a.put o.dst (.slice ao' m c)) w') : o.wp Try.prog a w K Q := by
  obtain ⟨ao', c, w', h1, h2, h3⟩ := run_emp w o.type e he ao m cc ys hr hlim
  unfold Oper.wp execOp
  simp only [ho, resolve, invoke, builtin, Sem.run_bind, Sem.run_pure, Result.andThen_ok, List.map_toArray, List.map_cons, List.map_nil, hs, hx, h1]
  exact hK ao' c w' h2 h3
theorem wpList_emp {w : World} {ops : Array Oper} {rest : List Oper} {o : Oper} {a : Act} {Q : Exit → Act → World → Prop} (hgd : o.guard = none) (s x : Operand) (ho : o.op = .call { callee := .builtin .append, args := #[s, x], argTypes := #[22, 22] })
    (e : Nat) (hs : a.eval s = .slice (some ⟨e, 0, none⟩) 0 0) (he : w.heap[e]? = some (.cells #[] 5 (0, 0))) (ao : Option Addr) (m cc : Nat) (ys : List UInt8) (hx : a.eval x = .slice ao m cc) (hr : RdB w [.slice ao m cc] ys) (hlim : ys.length ≤ 1073741824)
    (hK : ∀ ao' c w', New e OwB w' [.slice ao' m c] ys → w.grownBy w' (some e) → wpList Try.prog ops Q rest (a.put o.dst (.slice ao' m c)) w') : wpList Try.prog ops Q (o :: rest) a w :=
  wpList_plain hgd fun _ h => wp_emp s x ho e hs he ao m cc ys hx hr hlim fun ao' c w' h1 h2 => h _ _ (hK ao' c w' h1 h2)
theorem step_emp {w : World} {ops : Array Oper} {o : Oper} {a : Act} {K : Act → World → Prop} {Q : Exit → Act → World → Prop} {Z : Prop} (hgd : o.guard = none) (s x : Operand) (ho : o.op = .call { callee := .builtin .append, args := #[s, x], argTypes := #[22, 22] })
    (e : Nat) (hs : a.eval s = .slice (some ⟨e, 0, none⟩) 0 0) (he : w.heap[e]? = some (.cells #[] 5 (0, 0))) (ao : Option Addr) (m cc : Nat) (ys : List UInt8) (hx : a.eval x = .slice ao m cc) (hr : RdB w [.slice ao m cc] ys) (hlim : ys.length ≤ 1073741824)
    (hK : ∀ ao' c w', New e OwB w' [.slice ao' m c] ys → w.grownBy w' (some e) → K (a.put o.dst (.slice ao' m c)) w') :
    if Region.wanted o (yielded ops a.tmps) = true then Oper.wp Try.prog o a w K Q else Z := by
  have hw : Region.wanted o (yielded ops a.tmps) = true := by simp [Region.wanted, hgd]
  rw [if_pos hw]
  exact wp_emp s x ho e hs he ao m cc ys hx hr hlim hK

end Go.Proofs.Ytlididoalekeoaa
