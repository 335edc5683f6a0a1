/- Parts of the proof, one behind the other. -/
import Derived.Test.YtlididoalekeoaaMxRecsOf11
import Derived.Test.YtlididoalekeoaaMxRecsOf10
import Derived.Test.YtlididoalekeoaaMxRecsOf9
import Derived.Test.YtlididoalekeoaaMxRecsOf5
/- The parts of a Tab that is owned, as records: they own what its rows owned. -/
namespace Go.Proofs.Ytlididoalekeoaa
set_option maxRecDepth 4000
open Go.RowKit

def FK (Fs : Nat → Fp) (k : Nat) : Fp := fun x => ∃ j, j < k ∧ Fs j x
def OwnB (L : Nat) (v : Value) : Prop := ∀ b, v.ownBlock = some b → L ≤ b
def PartsOut (FT : Fp) (a : TabD) (w : World) (e : Ending) (w' : World) : Prop := (∃ y n c, e = .returned (.slice y n c) ∧ ∃ F, OwRecS w' [.slice y n c] F (partsL a) ∧ ∀ x, F x → w.heap.size ≤ x ∨ FT x) ∧ Below w.heap.size w w'
theorem zrow_ow (w : World) : OwRow w [.string ⟨#[]⟩, .int .i64 0, .slice none 0 0, .int .i64 0, .slice none 0 0, .int .i64 0, .bool false] (fun _ => False) ⟨⟨#[]⟩, 0, [], 0, [], 0, false⟩ := owRow_zero w
theorem rowR_ow {w : World} {k : ByteArray} {t1 t2 has : Int} {b1 b2 : List UInt8} {asd : Bool} {x12 x22 : Option Addr} {x13 x14 x23 x24 : Nat} {G : Fp} (h : OwRow w [.string k, .int .i64 t1, .slice x12 x13 x14, .int .i64 t2, .slice x22 x23 x24, .int .i64 has, .bool asd] G ⟨k, t1, b1, t2, b2, has, asd⟩) :
    OwRec w [.int .i64 1, .string k, .int .i64 t1, .slice x12 x13 x14, .int .i64 t2, .slice x22 x23 x24, .int .i64 has, .bool asd, .string ⟨#[]⟩, .int .i64 0, .int .i64 0, .int .i64 0, .int .i64 0] G (rowR ⟨k, t1, b1, t2, b2, has, asd⟩) :=
  ⟨_, _, _, _, _, _, G, rfl, Nat.zero_le _, h, fun _ => Iff.rfl⟩
theorem markR_ow (w : World) (q0 q1 q2 : Int) : OwRec w [.int .i64 4, .string ⟨#[]⟩, .int .i64 0, .slice none 0 0, .int .i64 0, .slice none 0 0, .int .i64 0, .bool false, .string ⟨#[]⟩, .int .i64 0, .int .i64 q0, .int .i64 q1, .int .i64 q2] (fun _ => False) (markR ⟨q0, q1, q2⟩) := ⟨none, 0, 0, none, 0, 0, _, rfl, Nat.zero_le _, zrow_ow w, fun _ => Iff.rfl⟩
theorem phaseR_ow (w : World) (l1 : Int) : OwRec w [.int .i64 3, .string ⟨#[]⟩, .int .i64 0, .slice none 0 0, .int .i64 0, .slice none 0 0, .int .i64 0, .bool false, .string ⟨#[]⟩, .int .i64 l1, .int .i64 0, .int .i64 0, .int .i64 0] (fun _ => False) (phaseR l1) := ⟨none, 0, 0, none, 0, 0, _, rfl, Nat.zero_le _, zrow_ow w, fun _ => Iff.rfl⟩

section
variable {α : Type} {n : Nat} {T : TypeId} {E : Ow α} {R : Rd α} {w w' : World} {F : Fp} {ls : List α}
/-- One element that owns nothing, in a block of its own. -/
theorem owS_one9 {g : Nat} {c : List Value} {a : α} (hg : w.heap[g]? = some (.cells c.toArray T (0, 0))) (hn : c.length = n) (hE : E w c (fun _ => False) a) : OwS n T E w [.slice (some ⟨g, 0, none⟩) 1 1] (fun x => x = g) [a] :=
  ⟨_, [c], fun _ _ => False, rfl, {
    own := ⟨by simp [hn], .inr ⟨g, 1, c.toArray, rfl, Nat.zero_le _, hg, Nat.le_refl _, by unfold maxLen; omega, by simp [hn], by rw [← hn]; simp⟩⟩
    size := rfl
    lens := fun c' hc => by simp at hc; rw [hc, hn]
    lt := fun x hx => by rw [hx]; exact block_lt hg
    blk := fun x hx => by simp [Value.ownBlock] at hx; exact hx.symm
    sub := fun _ _ _ h => h.elim
    apart := fun _ _ _ _ _ _ h => h.elim
    els := fun j c' a' hc ha => by
      rcases j with _ | j
      · simp at hc ha
        subst hc ha
        exact hE
      · simp at hc }⟩
/-- An element of a list that is owned: its cells. -/
theorem owP_get {x0 : Option Addr} {m d : Nat} {css : List (List Value)} {Fs : Nat → Fp} (P : OwP n T E w (.slice x0 m d) css Fs F ls) {k : Nat} {a : α} (ha : ls[k]? = some a) : ∃ b o c, x0 = some ⟨b, o, none⟩ ∧ c.length = n ∧ E w c (Fs k) a ∧ ∀ i v, c[i]? = some v → w.cell? ⟨b, o + k * n + i, none⟩ = some v := by
  obtain ⟨c, hc, hn, hE⟩ := P.cellsAt ha
  obtain ⟨ao, c0, e, hh⟩ := ownsRow_form P.own
  simp only [Value.slice.injEq] at e
  obtain ⟨rfl, rfl, rfl⟩ := e
  rcases hh with ⟨_, h0⟩ | ⟨g, rfl⟩
  · have := get_lt ha; omega
  · refine ⟨g, 0, c, rfl, hn, hE, fun i v hv => ?_⟩
    rw [Nat.zero_add, P.cell rfl hc (by rw [← hn]; exact get_lt hv)]; exact hv
/-- An element is appended: where the list then lies. -/
theorem run_push9 {P : Program} (ok : OwOk n E R) (t ty : TypeId) {i : TypeInfo} {z : Value} {bytes : Nat} (ht : P.underlying t = some (.slice T)) (hi : P.info? T = some i) (hz : i.zero = some z) (hsize : i.size = n) (hby : i.bytes = bytes) (hzs : z.cells.size = n) (hn0 : 0 < n)
    {v : Value} (h : OwS n T E w [v] F ls) {q : Nat} {c' : List Value} {a' : α} {G : Fp} (hq : w.heap[q]? = some (.cells c'.toArray T (0, 0))) (hc' : c'.length = n) (h1 : ∀ u ∈ c', u.oneCell' = true) (hE : E w c' G a') (hG : ∀ x, G x → ¬ F x)
    (h63 : ls.length + 1 ≤ maxLen) (hbytes : (ls.length + 1) * bytes ≤ 140737488355328) :
    ∃ v' w', (Builtin.append_ #[t, t] ty #[v, .slice (some ⟨q, 0, none⟩) 1 1]).run P w = .ok v' w' ∧ (∃ F' : Fp, OwS n T E w' [v'] F' (ls ++ [a']) ∧ ∀ x, F' x → F x ∨ G x ∨ w.heap.size ≤ x) ∧ (v'.ownBlock = v.ownBlock ∨ v'.ownBlock = some w.heap.size) ∧ w.grownBy w' v.ownBlock := by
  obtain ⟨v0, css, Fs, e, Q⟩ := h
  simp only [List.cons.injEq, and_true] at e
  subst e
  have hnews : ∀ j u, c'[j]? = some u → w.cell? ((⟨q, 0, none⟩ : Addr).add j) = some u := fun j u hu => by
    rw [Addr.add_lit, Nat.zero_add]; exact cellsA hq j (by simpa using hu)
  obtain ⟨v', w', hr, ho, hg, _, hat⟩ := run_append_own_at (P := P) w 0 t ty T i z n bytes ht hi hz hsize hby hzs hn0 v ls.length css.flatten Q.own ⟨q, 0, none⟩ 1 1 c' (by rw [hc', Nat.one_mul]) hnews h1 h63 hbytes (Nat.zero_le _)
  refine ⟨v', w', hr, ⟨_, ⟨v', _, _, rfl, Q.push ok ho hc' (hat.imp id (fun h => ⟨_, h, Nat.le_refl _⟩)) (ok.keep hE (fun b hb => hg.block b (ok.lt hE b hb) (fun e => hG b hb (Q.blk b e.symm)))) (fun x hx => ⟨hG x hx, fun e => ?_⟩) (fun x hx hne => hg.block x (Q.lt x hx) (fun e => hne e.symm)) hg.size⟩, ?_⟩, hat, hg⟩
  · rcases hat with h | h
    · exact hG x hx (Q.blk x (by rw [← h]; exact e))
    · rw [h] at e
      simp only [Option.some.injEq] at e
      have := ok.lt hE x hx
      omega
  · rintro x (hx | hx | hx)
    · exact .inl hx
    · exact .inr (.inl hx)
    · rcases hat with h | h
      · exact .inl (Q.blk x (by rw [← h]; exact hx))
      · rw [h] at hx
        simp only [Option.some.injEq] at hx
        exact .inr (.inr (by omega))
theorem wpList_push9 {P : Program} {ops : Array Oper} {rest : List Oper} {o : Oper} {a : Act} {X : Exit → Act → World → Prop} (hgd : o.guard = none) (ok : OwOk n E R) (s x : Operand) (t : TypeId) (ho : o.op = .call { callee := .builtin .append, args := #[s, x], argTypes := #[t, t] })
    {i : TypeInfo} {z : Value} {bytes : Nat} (ht : P.underlying t = some (.slice T)) (hi : P.info? T = some i) (hz : i.zero = some z) (hsize : i.size = n) (hby : i.bytes = bytes) (hzs : z.cells.size = n) (hn0 : 0 < n)
    {v : Value} (hs : a.eval s = v) (h : OwS n T E w [v] F ls) {q : Nat} {c' : List Value} {a' : α} {G : Fp} (hx : a.eval x = .slice (some ⟨q, 0, none⟩) 1 1) (hq : w.heap[q]? = some (.cells c'.toArray T (0, 0))) (hc' : c'.length = n) (h1 : ∀ u ∈ c', u.oneCell' = true) (hE : E w c' G a') (hG : ∀ x, G x → ¬ F x)
    (h63 : ls.length + 1 ≤ maxLen) (hbytes : (ls.length + 1) * bytes ≤ 140737488355328)
    (hK : ∀ v' w' (F' : Fp), OwS n T E w' [v'] F' (ls ++ [a']) → (∀ x, F' x → F x ∨ G x ∨ w.heap.size ≤ x) → (v'.ownBlock = v.ownBlock ∨ v'.ownBlock = some w.heap.size) → w.grownBy w' v.ownBlock → wpList P ops X rest (a.put o.dst v') w') : wpList P ops X (o :: rest) a w :=
  wpList_plain hgd fun _ hK' => by
    obtain ⟨v', w', hr, ⟨F', h2, h3⟩, h4, h5⟩ := run_push9 (P := P) ok t o.type ht hi hz hsize hby hzs hn0 h hq hc' h1 hE hG h63 hbytes
    unfold Oper.wp execOp
    simp only [ho, resolve, invoke, builtin, Sem.run_bind, Sem.run_pure, Result.andThen_ok, List.map_toArray, List.map_cons, List.map_nil, hs, hx, hr]
    exact hK' _ _ (hK v' w' F' h2 h3 h4 h5)
/-- What a loop that appends carries: where the list lies, what it owns. -/
theorem grown_ow {X Y : World} {v v' : Value} {L N : Nat} {F' G K K' : Fp} {ls' : List α} (hF : ∀ x, F x → L ≤ x ∨ K x) (hb : OwnB L v) (hB : Below w.heap.size w X) (hL : w.heap.size ≤ L)
    (hOw : OwS n T E Y [v'] F' ls') (hF' : ∀ x, F' x → F x ∨ G x ∨ N ≤ x) (hGK : ∀ x, G x → L ≤ x ∨ K' x) (hKK : ∀ x, K x → K' x) (hat : v'.ownBlock = v.ownBlock ∨ v'.ownBlock = some N) (hX : L ≤ N) (hgrow : X.grownBy Y v.ownBlock) {q : Nat} {o : Obj} (hq : q < L) (hbox : X.heap[q]? = some o) :
    OwS n T E Y [v'] F' ls' ∧ ((∀ x, F' x → L ≤ x ∨ K' x) ∧ OwnB L v') ∧ Below w.heap.size w Y ∧ Y.heap[q]? = some o := by
  refine ⟨hOw, ⟨fun x hx => ?_, fun b hb' => ?_⟩, hB.grown hgrow hB.size (fun b hb' => Nat.le_trans hL (hb b hb')), ?_⟩
  · rcases hF' x hx with h | h | h
    · exact (hF x h).imp id (hKK x)
    · exact hGK x h
    · exact .inl (by omega)
  · rcases hat with h | h
    · exact hb b (by rw [← h]; exact hb')
    · rw [h] at hb'
      simp only [Option.some.injEq] at hb'
      omega
  · rw [hgrow.block q (block_lt hbox) (fun e => by have := hb q e.symm; omega)]; exact hbox
end

set_option maxHeartbeats 8000000 in
theorem partsOf_ow (cs : List Value) (FT : Fp) (a : TabD) (w : World) (h : OwTab w cs FT a) (hw : wtTab a ≤ 1073741824) :
    Calls Try.prog 69 #[.agg cs.toArray] w (PartsOut FT a w) := by
  obtain ⟨l0, l1, l2⟩ := a
  simp only [OwTab] at h
  obtain ⟨x0, m0, d0, x2, m2, d2, F0, F2, rfl, q1, q2, _, hFT⟩ := h
  have r1 : RcRowS w [.slice x0 m0 d0] l0 := owRowS_ok.rd q1
  have r2 : RcMarkS w [.slice x2 m2 d2] l2 := owMarkS_ok.rd q2
  obtain ⟨v9, css, Fs, e9, P9⟩ := q1
  simp only [List.cons.injEq, and_true] at e9
  subst e9
  have HP : Hd (OwP 7 84 OwRow w (.slice x0 m0 d0) css Fs F0 l0 ∧ ∀ x, F0 x → FT x ∧ x < w.heap.size) := ⟨P9, fun x hx => ⟨(hFT x).2 (.inl hx), P9.lt x hx⟩⟩
  clear q2 hFT P9
  unfold wtTab at hw
  dsimp only at hw
  have HL : (RcRowS w [.slice x0 m0 d0] l0 ∧ RcMarkS w [.slice x2 m2 d2] l2) := ⟨r1, r2⟩
  have HN : Hd (l0.length = m0 ∧ l2.length = m2 ∧ m0 ≤ 1073741824 ∧ m2 ≤ 1073741824) := ⟨(rdS_len r1).1, (rdS_len r2).1, by
    have h1 := wtS_len wtRow l0; have h2 : wtRowS l0 = wtS wtRow l0 := rfl; have := (rdS_len r1).1; omega, by
    have h1 := wtS_len wtMark l2; have h2 : wtMarkS l2 = wtS wtMark l2 := rfl; have := (rdS_len r2).1; omega⟩
  have hm0 : m0 ≤ 1073741824 := HN.out.2.2.1
  have hm2 : m2 ≤ 1073741824 := HN.out.2.2.2
  clear r1 r2 hw
  obtain ⟨i1, hi1, hz1, hs1, hb1⟩ := info_parts infoRecE
  obtain ⟨k1, k2⟩ := laid2 w (.cells #[Value.slice x0 m0 d0, Value.int IntKind.i64 l1, Value.slice x2 m2 d2] 43) (.cells #[Value.int .i64 3, .string ⟨#[]⟩, .int .i64 0, .slice none 0 0, .int .i64 0, .slice none 0 0, .int .i64 0, .bool false, .string ⟨#[]⟩, .int .i64 l1, .int .i64 0, .int .i64 0, .int .i64 0] 86)
  have H0 : Hd (∃ F, OwS 13 86 OwRec ((w.alloc (.cells #[Value.slice x0 m0 d0, Value.int IntKind.i64 l1, Value.slice x2 m2 d2] 43)).alloc (.cells #[Value.int .i64 3, .string ⟨#[]⟩, .int .i64 0, .slice none 0 0, .int .i64 0, .slice none 0 0, .int .i64 0, .bool false, .string ⟨#[]⟩, .int .i64 l1, .int .i64 0, .int .i64 0, .int .i64 0] 86)) [.slice (some ⟨w.heap.size + 1, 0, none⟩) 1 1] F (phaseR l1 :: (l0.take 0).map rowR) ∧ ((∀ x, F x → w.heap.size + 1 ≤ x ∨ FK Fs 0 x) ∧ OwnB (w.heap.size + 1) (.slice (some ⟨w.heap.size + 1, 0, none⟩) 1 1)) ∧ Below w.heap.size w ((w.alloc (.cells #[Value.slice x0 m0 d0, Value.int IntKind.i64 l1, Value.slice x2 m2 d2] 43)).alloc (.cells #[Value.int .i64 3, .string ⟨#[]⟩, .int .i64 0, .slice none 0 0, .int .i64 0, .slice none 0 0, .int .i64 0, .bool false, .string ⟨#[]⟩, .int .i64 l1, .int .i64 0, .int .i64 0, .int .i64 0] 86)) ∧ ((w.alloc (.cells #[Value.slice x0 m0 d0, Value.int IntKind.i64 l1, Value.slice x2 m2 d2] 43)).alloc (.cells #[Value.int .i64 3, .string ⟨#[]⟩, .int .i64 0, .slice none 0 0, .int .i64 0, .slice none 0 0, .int .i64 0, .bool false, .string ⟨#[]⟩, .int .i64 l1, .int .i64 0, .int .i64 0, .int .i64 0] 86)).heap[w.heap.size]? = some (.cells #[Value.slice x0 m0 d0, Value.int IntKind.i64 l1, Value.slice x2 m2 d2] 43 (0, 0))) := ⟨fun x => x = w.heap.size + 1, owS_one9 (c := [.int .i64 3, .string ⟨#[]⟩, .int .i64 0, .slice none 0 0, .int .i64 0, .slice none 0 0, .int .i64 0, .bool false, .string ⟨#[]⟩, .int .i64 l1, .int .i64 0, .int .i64 0, .int .i64 0]) k2 rfl (phaseR_ow _ l1), ⟨fun x hx => .inl (by omega), fun b hb => by simp [Value.ownBlock] at hb; omega⟩, below_lit2 w _ _, k1⟩
  clear k1 k2
  go_enter Try.func69, Try.ntmps69
  go_wp2_with fail
  generalize (w.alloc (.cells #[Value.slice x0 m0 d0, Value.int IntKind.i64 l1, Value.slice x2 m2 d2] 43)).alloc (.cells #[Value.int .i64 3, .string ⟨#[]⟩, .int .i64 0, .slice none 0 0, .int .i64 0, .slice none 0 0, .int .i64 0, .bool false, .string ⟨#[]⟩, .int .i64 l1, .int .i64 0, .int .i64 0, .int .i64 0] 86) = W0 at *
  go_loopw [15, 3] (fun i v wr => ∃ k : Nat, k ≤ m0 ∧ i = .int .i64 k ∧ ∃ y n cc, v = .slice y n cc ∧ Hd (∃ F, OwS 13 86 OwRec wr [.slice y n cc] F (phaseR l1 :: (l0.take k).map rowR) ∧ ((∀ x, F x → w.heap.size + 1 ≤ x ∨ FK Fs k x) ∧ OwnB (w.heap.size + 1) (.slice y n cc)) ∧ Below w.heap.size w wr ∧ wr.heap[w.heap.size]? = some (.cells #[Value.slice x0 m0 d0, Value.int IntKind.i64 l1, Value.slice x2 m2 d2] 43 (0, 0)))) (fun i _ _ => m0 - (intOf i).toNat)
  case atStart => exact ⟨0, Nat.zero_le _, rfl, _, _, _, rfl, H0⟩
  case round =>
    obtain ⟨k, hk, rfl, y, n, cc, rfl, HK⟩ := hrel
    clear H0
    by_cases hlt : k < m0
    · have hlt' : (k : Int) < (m0 : Int) := by omega
      have h0 : (0 : Int) ≤ (k : Int) := by omega
      obtain ⟨a, ha⟩ := get_some (l := l0) (j := k) (by rw [HN.out.1]; exact hlt)
      obtain ⟨b1, o1, c1, e1, _, r1, z1⟩ := owP_get HP.out.1 ha
      have HG : Hd (∀ x, Fs k x → FT x ∧ x < w.heap.size ∧ F0 x) := ⟨fun x hx => by have h7 := (HP.out.1.sub k x (get_lt ha) hx).1; exact ⟨(HP.out.2 x h7).1, (HP.out.2 x h7).2, h7⟩⟩
      have HA : Hd (∀ x, Fs k x → ¬ FK Fs k x) := ⟨fun x hx => by
        rintro ⟨j, hj, hy⟩
        have h7 := get_lt ha
        exact HP.out.1.apart j k x (by omega) h7 (by omega) hy hx⟩
      subst e1
      have HS : Hd (phaseR l1 :: (l0.take (k + 1)).map rowR = (phaseR l1 :: (l0.take k).map rowR) ++ [rowR a]) := ⟨by rw [List.take_add_one, ha]; simp⟩
      have HLN : Hd ((phaseR l1 :: (l0.take k).map rowR).length ≤ 3221225473) := ⟨by have := HN.out; simp; omega⟩
      obtain ⟨F, hO, hF, hB, hX⟩ := HK.out
      have hRc := r1
      obtain ⟨q0, q1, q2, q3, q4, q5, q6⟩ := a
      simp only [OwRow] at r1
      obtain ⟨x12, x13, x14, x22, x23, x24, _, _, rfl, hz7⟩ := r1
      clear hz7
      have HEW : Hd (OwRec w [.int .i64 1, .string q0, .int .i64 q1, .slice x12 x13 x14, .int .i64 q3, .slice x22 x23 x24, .int .i64 q5, .bool q6, .string ⟨#[]⟩, .int .i64 0, .int .i64 0, .int .i64 0, .int .i64 0] (Fs k) (rowR ⟨q0, q1, q2, q3, q4, q5, q6⟩)) := ⟨rowR_ow hRc⟩
      have t0 := cell_below (z1 0 _ rfl) hB
      have t1 := cell_below (z1 1 _ rfl) hB
      have t2 := cell_below (z1 2 _ rfl) hB
      have t3 := cell_below (z1 3 _ rfl) hB
      have t4 := cell_below (z1 4 _ rfl) hB
      have t5 := cell_below (z1 5 _ rfl) hB
      have t6 := cell_below (z1 6 _ rfl) hB
      simp only [Nat.add_zero] at t0
      have HX : Hd (∃ F, OwS 13 86 OwRec ((wr.alloc (.cells #[Value.string q0, .int .i64 q1, .slice x12 x13 x14, .int .i64 q3, .slice x22 x23 x24, .int .i64 q5, .bool q6] 84)).alloc (.cells #[Value.int .i64 1, .string q0, .int .i64 q1, .slice x12 x13 x14, .int .i64 q3, .slice x22 x23 x24, .int .i64 q5, .bool q6, .string ⟨#[]⟩, .int .i64 0, .int .i64 0, .int .i64 0, .int .i64 0] 86)) [.slice y n cc] F (phaseR l1 :: (l0.take k).map rowR) ∧ ((∀ x, F x → w.heap.size + 1 ≤ x ∨ FK Fs k x) ∧ OwnB (w.heap.size + 1) (.slice y n cc)) ∧ Below w.heap.size w ((wr.alloc (.cells #[Value.string q0, .int .i64 q1, .slice x12 x13 x14, .int .i64 q3, .slice x22 x23 x24, .int .i64 q5, .bool q6] 84)).alloc (.cells #[Value.int .i64 1, .string q0, .int .i64 q1, .slice x12 x13 x14, .int .i64 q3, .slice x22 x23 x24, .int .i64 q5, .bool q6, .string ⟨#[]⟩, .int .i64 0, .int .i64 0, .int .i64 0, .int .i64 0] 86)) ∧ ((wr.alloc (.cells #[Value.string q0, .int .i64 q1, .slice x12 x13 x14, .int .i64 q3, .slice x22 x23 x24, .int .i64 q5, .bool q6] 84)).alloc (.cells #[Value.int .i64 1, .string q0, .int .i64 q1, .slice x12 x13 x14, .int .i64 q3, .slice x22 x23 x24, .int .i64 q5, .bool q6, .string ⟨#[]⟩, .int .i64 0, .int .i64 0, .int .i64 0, .int .i64 0] 86)).heap[w.heap.size]? = some (.cells #[Value.slice (some ⟨b1, o1, none⟩) m0 d0, Value.int IntKind.i64 l1, Value.slice x2 m2 d2] 43 (0, 0))) := ⟨F, (owS_ok owRec_ok).below ((owS_ok owRec_ok).below hO (below_lit _ _)) (below_lit _ _), hF, Below.next (Below.next hB (below_lit _ _)) (below_lit _ _), ((below_lit _ _).block _ (by simp; have := block_lt hX; omega)).trans (((below_lit _ _).block _ (block_lt hX)).trans hX)⟩
      clear hO hF hB HK ha z1 hX hRc
      obtain ⟨F, HX1⟩ : ∃ F, Hd (OwS 13 86 OwRec ((wr.alloc (.cells #[Value.string q0, .int .i64 q1, .slice x12 x13 x14, .int .i64 q3, .slice x22 x23 x24, .int .i64 q5, .bool q6] 84)).alloc (.cells #[Value.int .i64 1, .string q0, .int .i64 q1, .slice x12 x13 x14, .int .i64 q3, .slice x22 x23 x24, .int .i64 q5, .bool q6, .string ⟨#[]⟩, .int .i64 0, .int .i64 0, .int .i64 0, .int .i64 0] 86)) [.slice y n cc] F (phaseR l1 :: (l0.take k).map rowR) ∧ ((∀ x, F x → w.heap.size + 1 ≤ x ∨ FK Fs k x) ∧ OwnB (w.heap.size + 1) (.slice y n cc)) ∧ Below w.heap.size w ((wr.alloc (.cells #[Value.string q0, .int .i64 q1, .slice x12 x13 x14, .int .i64 q3, .slice x22 x23 x24, .int .i64 q5, .bool q6] 84)).alloc (.cells #[Value.int .i64 1, .string q0, .int .i64 q1, .slice x12 x13 x14, .int .i64 q3, .slice x22 x23 x24, .int .i64 q5, .bool q6, .string ⟨#[]⟩, .int .i64 0, .int .i64 0, .int .i64 0, .int .i64 0] 86)) ∧ ((wr.alloc (.cells #[Value.string q0, .int .i64 q1, .slice x12 x13 x14, .int .i64 q3, .slice x22 x23 x24, .int .i64 q5, .bool q6] 84)).alloc (.cells #[Value.int .i64 1, .string q0, .int .i64 q1, .slice x12 x13 x14, .int .i64 q3, .slice x22 x23 x24, .int .i64 q5, .bool q6, .string ⟨#[]⟩, .int .i64 0, .int .i64 0, .int .i64 0, .int .i64 0] 86)).heap[w.heap.size]? = some (.cells #[Value.slice (some ⟨b1, o1, none⟩) m0 d0, Value.int IntKind.i64 l1, Value.slice x2 m2 d2] 43 (0, 0))) := by obtain ⟨F, h⟩ := HX.out; exact ⟨F, ⟨h⟩⟩
      clear HX
      go_wp2_with (at_builtin; refine wpList_push9 rfl owRec_ok (.tmp 19) (.tmp 22) 38 rfl Try.underlying38 hi1 hz1 hs1 hb1 rfl (by omega) (v := .slice y n cc) rfl HX1.out.1 (q := wr.heap.size + 1) (c' := [.int .i64 1, .string q0, .int .i64 q1, .slice x12 x13 x14, .int .i64 q3, .slice x22 x23 x24, .int .i64 q5, .bool q6, .string ⟨#[]⟩, .int .i64 0, .int .i64 0, .int .i64 0, .int .i64 0]) (a' := rowR (⟨q0, q1, q2, q3, q4, q5, q6⟩ : RowD)) (G := Fs k) rfl (alloc_new (wr.alloc (.cells #[Value.string q0, .int .i64 q1, .slice x12 x13 x14, .int .i64 q3, .slice x22 x23 x24, .int .i64 q5, .bool q6] 84)) _ (by simp)) rfl (by intro u hu; simp only [List.mem_cons, List.not_mem_nil, or_false] at hu; rcases hu with rfl | rfl | rfl | rfl | rfl | rfl | rfl | rfl | rfl | rfl | rfl | rfl | rfl <;> rfl) (owRec_ok.below HEW.out HX1.out.2.2.1) (fun x hx hF => (HX1.out.2.1.1 x hF).elim (fun h7 => by have := (HG.out x hx).2.1; omega) (fun h7 => HA.out x hx h7)) (by have := HLN.out; unfold maxLen; omega) (by have := HLN.out; omega) ?_)
      intro v' wz F' hOw hF' hat hgrow
      obtain ⟨x5, n5, d5, hv'⟩ : ∃ x2 n2 d2, v' = .slice x2 n2 d2 := by
        obtain ⟨x2, d2, e, _⟩ := owS_slice hOw
        exact ⟨x2, _, d2, e⟩
      subst hv'
      have HNX : Hd (∃ F, OwS 13 86 OwRec wz [.slice x5 n5 d5] F (phaseR l1 :: (l0.take (k + 1)).map rowR) ∧ ((∀ x, F x → w.heap.size + 1 ≤ x ∨ FK Fs (k + 1) x) ∧ OwnB (w.heap.size + 1) (.slice x5 n5 d5)) ∧ Below w.heap.size w wz ∧ wz.heap[w.heap.size]? = some (.cells #[Value.slice (some ⟨b1, o1, none⟩) m0 d0, Value.int IntKind.i64 l1, Value.slice x2 m2 d2] 43 (0, 0))) := ⟨F', by
        rw [HS.out]
        have h7 := grown_ow (K' := FK Fs (k + 1)) HX1.out.2.1.1 HX1.out.2.1.2 HX1.out.2.2.1 (by omega) hOw hF' (fun x hx => .inr ⟨k, by omega, hx⟩) (fun x hx => by obtain ⟨j, hj, hy⟩ := hx; exact ⟨j, by omega, hy⟩) hat (by have := block_lt HX1.out.2.2.2; simp only [World.size_alloc] at this; omega) hgrow (by omega) HX1.out.2.2.2
        simp only [List.map_take, List.cons_append] at h7 ⊢
        exact h7⟩
      clear hOw hF' hgrow hat HX1 HS HEW HLN HG HA t0 t1 t2 t3 t4 t5 t6
      go_wp2_with fail
      go_roundw
      case rel => exact ⟨k + 1, by omega, by go_num, x5, n5, d5, rfl, HNX⟩
      case measure => simp [intOf]; omega
    · have HK2 : Hd (∃ F, OwS 13 86 OwRec wr [.slice y n cc] F (phaseR l1 :: (l0.map rowR ++ (l2.take 0).map markR)) ∧ ((∀ x, F x → w.heap.size + 1 ≤ x ∨ FK Fs m0 x) ∧ OwnB (w.heap.size + 1) (.slice y n cc)) ∧ Below w.heap.size w wr ∧ wr.heap[w.heap.size]? = some (.cells #[Value.slice x0 m0 d0, Value.int IntKind.i64 l1, Value.slice x2 m2 d2] 43 (0, 0))) := ⟨by
        have h7 := HK.out
        rw [show k = m0 by omega, List.take_of_length_le (by have := HN.out; omega)] at h7
        simpa using h7⟩
      have c2 := cellsA (HK.out.choose_spec.2.2.2) 2 rfl
      clear HK
      go_wp2_with fail
      clear c2
      obtain ⟨W1, hW1⟩ : ∃ W, W = wr := ⟨_, rfl⟩
      subst hW1
      have H0 := HK2
      clear HK2
      go_loopw [28, 3] (fun i v wr => ∃ k : Nat, k ≤ m2 ∧ i = .int .i64 k ∧ ∃ y n cc, v = .slice y n cc ∧ Hd (∃ F, OwS 13 86 OwRec wr [.slice y n cc] F (phaseR l1 :: (l0.map rowR ++ (l2.take k).map markR)) ∧ ((∀ x, F x → w.heap.size + 1 ≤ x ∨ FK Fs m0 x) ∧ OwnB (w.heap.size + 1) (.slice y n cc)) ∧ Below w.heap.size w wr ∧ wr.heap[w.heap.size]? = some (.cells #[Value.slice x0 m0 d0, Value.int IntKind.i64 l1, Value.slice x2 m2 d2] 43 (0, 0)))) (fun i _ _ => m2 - (intOf i).toNat)
      case atStart => exact ⟨0, Nat.zero_le _, rfl, _, _, _, rfl, H0⟩
      case round =>
        obtain ⟨k, hk, rfl, y, n, cc, rfl, HK⟩ := hrel
        clear H0
        by_cases hlt : k < m2
        · have hlt' : (k : Int) < (m2 : Int) := by omega
          have h0 : (0 : Int) ≤ (k : Int) := by omega
          obtain ⟨a, ha⟩ := get_some (l := l2) (j := k) (by rw [HN.out.2.1]; exact hlt)
          obtain ⟨b1, o1, c1, e1, _, r1, z1⟩ := rdS_get HL.2 ha
          subst e1
          have HS : Hd (phaseR l1 :: (l0.map rowR ++ (l2.take (k + 1)).map markR) = (phaseR l1 :: (l0.map rowR ++ (l2.take k).map markR)) ++ [markR a]) := ⟨by rw [List.take_add_one, ha]; simp⟩
          have HLN : Hd ((phaseR l1 :: (l0.map rowR ++ (l2.take k).map markR)).length ≤ 3221225473) := ⟨by have := HN.out; simp; omega⟩
          obtain ⟨F, hO, hF, hB, hX⟩ := HK.out
          obtain ⟨q0, q1, q2⟩ := a
          simp only [RcMark] at r1
          subst r1
          have HEW : Hd (∀ v, OwRec v [.int .i64 4, .string ⟨#[]⟩, .int .i64 0, .slice none 0 0, .int .i64 0, .slice none 0 0, .int .i64 0, .bool false, .string ⟨#[]⟩, .int .i64 0, .int .i64 q0, .int .i64 q1, .int .i64 q2] (fun _ => False) (markR ⟨q0, q1, q2⟩)) := ⟨fun v => markR_ow v _ _ _⟩
          have t0 := cell_below (z1 0 _ rfl) hB
          have t1 := cell_below (z1 1 _ rfl) hB
          have t2 := cell_below (z1 2 _ rfl) hB
          simp only [Nat.add_zero] at t0
          have HX : Hd (∃ F, OwS 13 86 OwRec ((wr.alloc (.cells #[Value.int .i64 q0, .int .i64 q1, .int .i64 q2] 89)).alloc (.cells #[Value.int .i64 4, .string ⟨#[]⟩, .int .i64 0, .slice none 0 0, .int .i64 0, .slice none 0 0, .int .i64 0, .bool false, .string ⟨#[]⟩, .int .i64 0, .int .i64 q0, .int .i64 q1, .int .i64 q2] 86)) [.slice y n cc] F (phaseR l1 :: (l0.map rowR ++ (l2.take k).map markR)) ∧ ((∀ x, F x → w.heap.size + 1 ≤ x ∨ FK Fs m0 x) ∧ OwnB (w.heap.size + 1) (.slice y n cc)) ∧ Below w.heap.size w ((wr.alloc (.cells #[Value.int .i64 q0, .int .i64 q1, .int .i64 q2] 89)).alloc (.cells #[Value.int .i64 4, .string ⟨#[]⟩, .int .i64 0, .slice none 0 0, .int .i64 0, .slice none 0 0, .int .i64 0, .bool false, .string ⟨#[]⟩, .int .i64 0, .int .i64 q0, .int .i64 q1, .int .i64 q2] 86)) ∧ ((wr.alloc (.cells #[Value.int .i64 q0, .int .i64 q1, .int .i64 q2] 89)).alloc (.cells #[Value.int .i64 4, .string ⟨#[]⟩, .int .i64 0, .slice none 0 0, .int .i64 0, .slice none 0 0, .int .i64 0, .bool false, .string ⟨#[]⟩, .int .i64 0, .int .i64 q0, .int .i64 q1, .int .i64 q2] 86)).heap[w.heap.size]? = some (.cells #[Value.slice x0 m0 d0, Value.int IntKind.i64 l1, Value.slice (some ⟨b1, o1, none⟩) m2 d2] 43 (0, 0))) := ⟨F, (owS_ok owRec_ok).below ((owS_ok owRec_ok).below hO (below_lit _ _)) (below_lit _ _), hF, Below.next (Below.next hB (below_lit _ _)) (below_lit _ _), ((below_lit _ _).block _ (by simp; have := block_lt hX; omega)).trans (((below_lit _ _).block _ (block_lt hX)).trans hX)⟩
          clear hO hF hB HK ha z1 hX
          obtain ⟨F, HX1⟩ : ∃ F, Hd (OwS 13 86 OwRec ((wr.alloc (.cells #[Value.int .i64 q0, .int .i64 q1, .int .i64 q2] 89)).alloc (.cells #[Value.int .i64 4, .string ⟨#[]⟩, .int .i64 0, .slice none 0 0, .int .i64 0, .slice none 0 0, .int .i64 0, .bool false, .string ⟨#[]⟩, .int .i64 0, .int .i64 q0, .int .i64 q1, .int .i64 q2] 86)) [.slice y n cc] F (phaseR l1 :: (l0.map rowR ++ (l2.take k).map markR)) ∧ ((∀ x, F x → w.heap.size + 1 ≤ x ∨ FK Fs m0 x) ∧ OwnB (w.heap.size + 1) (.slice y n cc)) ∧ Below w.heap.size w ((wr.alloc (.cells #[Value.int .i64 q0, .int .i64 q1, .int .i64 q2] 89)).alloc (.cells #[Value.int .i64 4, .string ⟨#[]⟩, .int .i64 0, .slice none 0 0, .int .i64 0, .slice none 0 0, .int .i64 0, .bool false, .string ⟨#[]⟩, .int .i64 0, .int .i64 q0, .int .i64 q1, .int .i64 q2] 86)) ∧ ((wr.alloc (.cells #[Value.int .i64 q0, .int .i64 q1, .int .i64 q2] 89)).alloc (.cells #[Value.int .i64 4, .string ⟨#[]⟩, .int .i64 0, .slice none 0 0, .int .i64 0, .slice none 0 0, .int .i64 0, .bool false, .string ⟨#[]⟩, .int .i64 0, .int .i64 q0, .int .i64 q1, .int .i64 q2] 86)).heap[w.heap.size]? = some (.cells #[Value.slice x0 m0 d0, Value.int IntKind.i64 l1, Value.slice (some ⟨b1, o1, none⟩) m2 d2] 43 (0, 0))) := by obtain ⟨F, h⟩ := HX.out; exact ⟨F, ⟨h⟩⟩
          clear HX
          go_wp2_with (at_builtin; refine wpList_push9 rfl owRec_ok (.tmp 32) (.tmp 40) 38 rfl Try.underlying38 hi1 hz1 hs1 hb1 rfl (by omega) (v := .slice y n cc) rfl HX1.out.1 (q := wr.heap.size + 1) (c' := [.int .i64 4, .string ⟨#[]⟩, .int .i64 0, .slice none 0 0, .int .i64 0, .slice none 0 0, .int .i64 0, .bool false, .string ⟨#[]⟩, .int .i64 0, .int .i64 q0, .int .i64 q1, .int .i64 q2]) (a' := markR (⟨q0, q1, q2⟩ : MarkD)) (G := fun _ => False) rfl (alloc_new (wr.alloc (.cells #[Value.int .i64 q0, .int .i64 q1, .int .i64 q2] 89)) _ (by simp)) rfl (by intro u hu; simp only [List.mem_cons, List.not_mem_nil, or_false] at hu; rcases hu with rfl | rfl | rfl | rfl | rfl | rfl | rfl | rfl | rfl | rfl | rfl | rfl | rfl <;> rfl) (HEW.out _) (fun _ h => h.elim) (by have := HLN.out; unfold maxLen; omega) (by have := HLN.out; omega) ?_)
          intro v' wz F' hOw hF' hat hgrow
          obtain ⟨x5, n5, d5, hv'⟩ : ∃ x2 n2 d2, v' = .slice x2 n2 d2 := by
            obtain ⟨x2, d2, e, _⟩ := owS_slice hOw
            exact ⟨x2, _, d2, e⟩
          subst hv'
          have HNX : Hd (∃ F, OwS 13 86 OwRec wz [.slice x5 n5 d5] F (phaseR l1 :: (l0.map rowR ++ (l2.take (k + 1)).map markR)) ∧ ((∀ x, F x → w.heap.size + 1 ≤ x ∨ FK Fs m0 x) ∧ OwnB (w.heap.size + 1) (.slice x5 n5 d5)) ∧ Below w.heap.size w wz ∧ wz.heap[w.heap.size]? = some (.cells #[Value.slice x0 m0 d0, Value.int IntKind.i64 l1, Value.slice (some ⟨b1, o1, none⟩) m2 d2] 43 (0, 0))) := ⟨F', by
            rw [HS.out]
            have h7 := grown_ow (K' := FK Fs m0) HX1.out.2.1.1 HX1.out.2.1.2 HX1.out.2.2.1 (by omega) hOw (fun x hx => (hF' x hx).imp id .inr) (fun x (hx : False) => hx.elim) (fun x hx => hx) hat (by have := block_lt HX1.out.2.2.2; simp only [World.size_alloc] at this; omega) hgrow (by omega) HX1.out.2.2.2
            simp only [List.map_take, List.cons_append, List.append_assoc] at h7 ⊢
            exact h7⟩
          clear hOw hF' hgrow hat HX1 HS HEW HLN t0 t1 t2
          go_wp2_with fail
          go_roundw
          case rel => exact ⟨k + 1, by omega, by go_num, x5, n5, d5, rfl, HNX⟩
          case measure => simp [intOf]; omega
        · have HZ : Hd ((∃ F, OwRecS wr [.slice y n cc] F (partsL ⟨l0, l1, l2⟩) ∧ ∀ x, F x → w.heap.size ≤ x ∨ FT x) ∧ Below w.heap.size w wr) := ⟨by
            obtain ⟨F, hO, hF, hB, hX⟩ := HK.out
            rw [List.take_of_length_le (by have := HN.out; omega)] at hO
            refine ⟨⟨F, hO, fun x hx => ?_⟩, hB⟩
            rcases hF.1 x hx with h7 | ⟨j, hj, hy⟩
            · exact .inl (by omega)
            · exact .inr (HP.out.2 x (HP.out.1.sub j x (by have := HN.out; omega) hy).1).1⟩
          clear HK
          go_wp2_with fail
          go_ret
          exact ⟨⟨_, _, _, rfl, HZ.out.1⟩, HZ.out.2⟩

end Go.Proofs.Ytlididoalekeoaa
/- RecsOf of the program. -/
namespace Go.Proofs.Ytlididoalekeoaa
set_option maxRecDepth 4000
open Go.RowKit

set_option maxHeartbeats 1000000 in
theorem implRecsOf_ow (cs : List Value) (a : TabD) (w : World) (h : RcTab w cs a) (hw : wtTab a ≤ 1073741824) :
    Calls Try.prog 23 #[.agg cs.toArray] w (AnsSl OwRecS (partsL a) w) := by
  have HT : Hd (RcTab w cs a ∧ wtTab a ≤ 1073741824) := ⟨h, hw⟩
  have hcs := h
  simp only [RcTab] at hcs
  obtain ⟨x0, m0, d0, x2, m2, d2, rfl, _⟩ := hcs
  clear h hw
  go_enter Try.func23, Try.ntmps23
  go_wp2_with fail
  refine (implCopyTab_ow _ a _ (rcTab_ok.below HT.out.1 (below_lit w _)) HT.out.2).mono ?_
  rintro e w1 ⟨⟨cs1, rfl, FT, hE, hF⟩, hb⟩
  have HE : Hd (OwTab w1 cs1 FT a ∧ (∀ x, FT x → w.heap.size ≤ x) ∧ Below w.heap.size w w1) := ⟨hE, fun x hx => by have := hF x hx; simp at this; omega, Below.next (below_lit w _) hb⟩
  clear hE hF hb
  go_wp2_with fail
  refine (partsOf_ow cs1 FT a w1 HE.out.1 HT.out.2).mono ?_
  rintro e w2 ⟨⟨y, n, c, rfl, F, hO, hF⟩, hb⟩
  have HZ : Hd (AnsSl OwRecS (partsL a) w (.returned (.slice y n c)) w2) := ⟨⟨_, _, _, rfl, F, hO, fun x hx => (hF x hx).elim (fun h => by have := HE.out.2.2.size; omega) (HE.out.2.1 x)⟩, Below.next HE.out.2.2 hb⟩
  clear hO hF hb
  go_wp2_with fail
  go_ret
  exact HZ.out

end Go.Proofs.Ytlididoalekeoaa
/- The specification's copy of a row, in the words of Deep. -/
namespace Go.Proofs.Ytlididoalekeoaa
set_option maxRecDepth 4000
open Go.RowKit

theorem specCopyRow_ow (cs : List Value) (a : RowD) (w : World) (h : RcRow w cs a) (hw : wtRow a ≤ 1048576) :
    Calls Try.prog 66 #[.agg cs.toArray] w (AnsAgg OwRow a w) := by
  obtain ⟨k, t1, b1, t2, b2, has, asd⟩ := a
  simp only [RcRow] at h
  obtain ⟨a1, n1, c1, a2, n2, c2, rfl, hk, r1, r2⟩ := h
  obtain ⟨_, _, _, e1, h1⟩ := r1
  obtain ⟨_, _, _, e2, h2⟩ := r2
  simp only [List.cons.injEq, Value.slice.injEq, and_true, true_and] at e1 e2
  obtain ⟨rfl, rfl, rfl⟩ := e1
  obtain ⟨rfl, rfl, rfl⟩ := e2
  have q1 := (rdC_parts h1).2
  have q2 := (rdC_parts h2).2
  have z1 := q1.size
  have z2 := q2.size
  unfold wtRow wtCell wtB at hw
  dsimp only at hw z1 z2
  refine (l9Copy_any k t1 a1 n1 c1 t2 a2 n2 c2 has asd b1 b2 w q1 q2 (by omega) (by omega)).mono ?_
  rintro e w' ⟨o1, d1, o2, d2, rfl, hA, hs, hB⟩
  obtain ⟨p1, p2⟩ := owC_fp hA.one z1
  obtain ⟨p3, p4⟩ := owC_fp hA.two z2
  refine ⟨⟨_, rfl, fun x => FpO o1 x ∨ FpO o2 x, ⟨o1, n1, d1, o2, n2, d2, FpO o1, FpO o2, rfl, hk, ⟨_, _, _, _, rfl, p1, fun x => Iff.rfl⟩, ⟨_, _, _, _, rfl, p3, fun x => Iff.rfl⟩, fun x hx hy => hA.ne x hx hy, fun x => Iff.rfl⟩, fun x hx => ?_⟩, hB⟩
  rcases hx with hx | hx
  · have := p2 x hx; omega
  · have := p4 x hx; omega

end Go.Proofs.Ytlididoalekeoaa
