/- The contract of Signs in the program. -/
import Derived.Test.YtpafjehphajbhaaGreatDoorInts
import Derived.Test.YtpafjehphajbhaaGreatDoorSign
import Derived.Test.YtpafjehphajbhaaGreatDoorUniDec
import Derived.Lib.OthersKept
namespace Go.Proofs.YtpafjehphajbhaaGreatDoor
set_option maxRecDepth 4000
open Go.RowKit

/-- What Signs answers. -/
structure SignsOut (w : World) (t : List UInt8) (e : Ending) (w' : World) : Prop where
  out : ∃ (g c : Nat) (l : List Int) (ok : Bool), e = .returned (.tuple #[.slice (some ⟨g, 0, none⟩) l.length c, .bool ok]) ∧ SignsAre t l ok ∧ w.heap.size ≤ g ∧ OwnI w' g c l ∧ Below w.heap.size w w'

theorem ext_list (s : ByteArray) (a b : Nat) : (s.extract a b).toList = (s.data.toList.drop a).take (b - a) := Lib.extract_toList s a b

set_option maxHeartbeats 400000 in
theorem hasPrefix_is (a : ByteArray) (b : Bool) (w : World) (ha : a.size ≤ 1073741824) (hb : Hd (([239, 191, 189] <+: a.data.toList) ↔ b = true)) :
    Calls Tryz.prog 94 #[.string a, .string ⟨#[239, 191, 189]⟩] w fun e w' => e = .returned (.bool b) ∧ w = w' := by
  have hlen : a.data.toList.length = a.size := by rw [Array.length_toList]; rfl
  by_cases h : 3 ≤ a.size
  · have hx : ((a.extract 0 3).toList == ([239, 191, 189] : List UInt8)) = b := by
      rw [ext_list]
      simp only [List.drop_zero, Nat.sub_zero]
      rw [Bool.eq_iff_iff, ← hb.out, List.prefix_iff_eq_take, beq_iff_eq]
      exact eq_comm
    go_enter Tryz.func94, Tryz.ntmps94
    go_wp2
    go_ret
    exact ⟨rfl, rfl⟩
  · have hbf : b = false := by
      cases b with
      | false => rfl
      | true => have := (hb.out.2 rfl).length_le; rw [hlen] at this; simp at this; omega
    subst hbf
    go_enter Tryz.func94, Tryz.ntmps94
    go_wp2
    go_ret
    exact ⟨rfl, rfl⟩

theorem hasPrefix_yes (a : ByteArray) (w : World) (ha : a.size ≤ 1073741824) (hb : Hd ([239, 191, 189] <+: a.data.toList)) :
    Calls Tryz.prog 94 #[.string a, .string ⟨#[239, 191, 189]⟩] w fun e w' => e = .returned (.bool true) ∧ w = w' := hasPrefix_is a true w ha ⟨⟨fun _ => rfl, fun _ => hb.out⟩⟩
theorem hasPrefix_no (a : ByteArray) (w : World) (ha : a.size ≤ 1073741824) (hb : Hd (¬ [239, 191, 189] <+: a.data.toList)) :
    Calls Tryz.prog 94 #[.string a, .string ⟨#[239, 191, 189]⟩] w fun e w' => e = .returned (.bool false) ∧ w = w' := hasPrefix_is a false w ha ⟨⟨fun h => absurd h hb.out, fun h => by cases h⟩⟩

/-- Where the loop over a text stands. -/
structure ReadTo (s : ByteArray) (l : List Int) (pos : Nat) : Prop where
  sg : ∀ n ∈ l, isSign n
  eq : s.data.toList = l.flatMap signB ++ s.data.toList.drop pos
  at_ : (l.flatMap signB).length = pos
  le : pos ≤ s.size
  len : l.length ≤ pos
theorem readTo_zero (s : ByteArray) : ReadTo s [] 0 := ⟨by simp, by simp, rfl, Nat.zero_le _, Nat.le_refl _⟩
theorem readTo_next {s : ByteArray} {l : List Int} {pos : Nat} {n : Int} (h : ReadTo s l pos) (hg : Got (s.data.toList.drop pos) n) : ReadTo s (l ++ [n]) (pos + (signB n).length) := by
  have hlen : s.data.toList.length = s.size := by rw [Array.length_toList]; rfl
  obtain ⟨hs, r, hr⟩ := hg
  have hp := signB_pos hs
  have e : s.data.toList.drop (pos + (signB n).length) = r := by rw [← List.drop_drop, ← hr, List.drop_left]
  refine ⟨?_, ?_, ?_, ?_, ?_⟩
  · intro m hm
    rcases List.mem_append.1 hm with hm | hm
    · exact h.sg m hm
    · rw [List.mem_singleton.1 hm]; exact hs
  · rw [e, List.flatMap_append, List.append_assoc]
    have h2 : ([n] : List Int).flatMap signB = signB n := by simp
    rw [h2, hr]; exact h.eq
  · rw [List.flatMap_append, List.length_append, h.at_]; simp
  · have := congrArg List.length hr
    rw [List.length_append, List.length_drop, hlen] at this
    have := h.le; omega
  · have := h.len
    rw [List.length_append]; simp; omega
theorem readTo_end {s : ByteArray} {l : List Int} {pos : Nat} (h : ReadTo s l pos) (hp : ¬ pos < s.size) : SignsAre s.data.toList l true := by
  refine .inl ⟨rfl, h.sg, ?_⟩
  have hlen : s.data.toList.length = s.size := by rw [Array.length_toList]; rfl
  have e : s.data.toList.drop pos = [] := List.drop_eq_nil_of_le (by omega)
  have := h.eq
  rw [e, List.append_nil] at this; exact this.symm
theorem readTo_stuck {s : ByteArray} {l : List Int} {pos : Nat} (h : ReadTo s l pos) (hp : pos < s.size) (hn : ¬ ∃ n, Got (s.data.toList.drop pos) n) : SignsAre s.data.toList [] false := by
  have hlen : s.data.toList.length = s.size := by rw [Array.length_toList]; rfl
  refine .inr ⟨rfl, rfl, signed_stuck h.sg h.eq ?_ hn⟩
  intro e
  have := congrArg List.length e
  rw [List.length_drop, hlen] at this; simp at this; omega

structure ImplAt (w : World) (s : ByteArray) (l : List Int) (pos : Nat) (wr : World) : Prop where
  own : OwnI wr w.heap.size s.size l
  it : wr.heap[w.heap.size + 1]? = some (.stringIter s pos)
  bel : Below w.heap.size w wr
  rd : ReadTo s l pos

theorem OwnI.iterAt {wr : World} {g c k : Nat} {l : List Int} (h : OwnI wr g c l) (hne : g ≠ k) (s : ByteArray) (pos : Nat) : OwnI (wr.iterAt k s pos) g c l := h.of_block (Lib.iterAt_other wr k g s pos hne)

theorem next_is (wr : World) (k : Nat) (s : ByteArray) (pos n L : Nat) (ty : TypeId) (hk : wr.heap[k]? = some (.stringIter s pos)) (h : pos < s.size) (hdec : Utf8.decode s pos = (n, L)) :
    (Instr.next (.pointer (some ⟨k, 0, none⟩)) true ty).run Tryz.prog wr = .ok (.tuple #[.bool true, .int .i64 pos, .int .i32 (n : Int)]) (wr.iterAt k s (pos + L)) := by
  have e := Lib.run_next_any_at (P := Tryz.prog) wr k s pos ty hk h
  simp only [hdec] at e
  exact e
theorem implAt_zero (w : World) (s : ByteArray) (hs : s.size ≤ maxLen) : ImplAt w s [] 0 ((w.alloc (.cells (madeCells #[.int .i64 0] s.size) 3)).iter s 0) := by
  have hO : OwnI (w.alloc (.cells (madeCells #[.int .i64 0] s.size) 3)) w.heap.size s.size [] :=
    ⟨madeCells #[.int .i64 0] s.size, heap_alloc_new w _, Nat.zero_le _, hs, by rw [← Array.length_toList, toList_madeCells_one]; simp, by simp⟩
  have hB : Below w.heap.size w (w.alloc (.cells (madeCells #[.int .i64 0] s.size) 3)) := (Below.refl _ w).alloc (Nat.le_refl _) _
  refine ⟨hO.of_block (Below.heap_alloc _ _ _ (by simp)), ?_, hB.alloc (by simp) _, readTo_zero s⟩
  have := World.iter_heap (w.alloc (.cells (madeCells #[.int .i64 0] s.size) 3)) s 0
  simpa using this
/-- Behind 'next'. -/
structure ImplMid (w : World) (s : ByteArray) (l : List Int) (pos : Nat) (wr : World) : Prop where
  own : OwnI wr w.heap.size s.size l
  it : wr.heap[w.heap.size + 1]? = some (.stringIter s pos)
  bel : Below w.heap.size w wr
theorem implMid {w wr : World} {s : ByteArray} {l : List Int} {pos : Nat} (h : ImplAt w s l pos wr) (p : Nat) : ImplMid w s l p (wr.iterAt (w.heap.size + 1) s p) :=
  ⟨h.own.iterAt (by omega) s p, Lib.iterAt_heap wr _ s pos p h.it, Lib.below_iterAt h.bel (by omega) s p⟩
theorem implNext {w W1 w3 : World} {s : ByteArray} {l : List Int} {p : Nat} {z : Int} {o : Obj} (h : ImplMid w s l p W1) (hown : w3.ownsRow w.heap.size 3 1 (.slice (some ⟨w.heap.size, 0, none⟩) (l.length + 1) s.size) (l.length + 1) (l.map ci ++ [.int .i64 z])) (hgr : (W1.alloc o).grownBy w3 (some w.heap.size)) (hr : ReadTo s (l ++ [z]) p) : ImplAt w s (l ++ [z]) p w3 := by
  have hsz : w.heap.size + 1 < W1.heap.size := (Array.getElem?_eq_some_iff.1 h.it).1
  have hown' : w3.ownsRow w.heap.size 3 1 (.slice (some ⟨w.heap.size, 0, none⟩) (l.length + 1) s.size) (l.length + 1) ((l ++ [z]).map ci) := by rw [List.map_append]; exact hown
  obtain ⟨g, c, hv, _, hO⟩ := own_rowI hown' (by simp)
  simp only [Value.slice.injEq, Option.some.injEq, Addr.mk.injEq, and_true, true_and] at hv
  refine ⟨by rw [hv.1, hv.2]; exact hO, ?_, (h.bel.alloc (by have := h.bel.size; omega) o).grown hgr (by simp; omega) (fun q hq => by simp at hq; omega), hr⟩
  rw [hgr.block _ (by simp; omega) (by simp), Below.heap_alloc W1 o _ hsz]
  exact h.it

set_option maxHeartbeats 2000000 in
theorem implSigns_any (s : ByteArray) (w : World) (hs : s.size ≤ 1073741824) : Calls Tryz.prog 82 #[.string s] w (SignsOut w s.data.toList) := by
  obtain ⟨i0, hi, hz0, hz1, hz2⟩ := info_parts info64
  go_enter Tryz.func82, Tryz.ntmps82
  go_wp2_with (at_make; refine wpList_make_both _ rfl _ _ 47 rfl 3 i0 (.int .i64 0) Tryz.underlying47 hi hz0 hz1 _ _ _ _ 0 s.size rfl rfl rfl rfl ?nm ?b2 ?b3 ?_)
  case nm => omega
  case b2 => rw [hz2]; omega
  case b3 => unfold maxLen; omega
  go_wp2_with fail
  go_loopw [4] (fun v wr => ∃ (l : List Int) (pos : Nat), v = .slice (some ⟨w.heap.size, 0, none⟩) l.length s.size ∧ Hd (ImplAt w s l pos wr)) (fun _ wr => s.size - wr.iterPos (w.heap.size + 1))
  case atStart => exact ⟨[], 0, rfl, ⟨implAt_zero w s (by unfold maxLen; omega)⟩⟩
  case round =>
    obtain ⟨l, pos, rfl, H⟩ := hrel
    by_cases hp : pos < s.size
    · have hpI : (pos : Int) ≤ (s.size : Int) := by omega
      have hlp : Hd (l.length ≤ pos) := ⟨H.out.rd.len⟩
      by_cases hg : ∃ n, Got (s.data.toList.drop pos) n
      · obtain ⟨n, hg⟩ := hg
        have hsg := hg.1
        obtain ⟨m, rfl⟩ := Int.eq_ofNat_of_zero_le (show 0 ≤ n from by rcases hsg with h | h <;> omega)
        have hm : m < 1114112 := by rcases hsg with h | h <;> omega
        have hdec := decode_got s pos hg
        rw [Int.toNat_natCast] at hdec
        have hl1 : 1 ≤ (signB (m : Int)).length := signB_pos hsg
        have hnx : ∀ ty, (Instr.next (.pointer (some ⟨w.heap.size + 1, 0, none⟩)) true ty).run Tryz.prog wr = .ok (.tuple #[.bool true, .int .i64 pos, .int .i32 (m : Int)]) (wr.iterAt (w.heap.size + 1) s (pos + (signB (m : Int)).length)) := fun ty => next_is wr (w.heap.size + 1) s pos m _ ty H.out.it hp hdec
        have H1 : Hd (ImplMid w s l (pos + (signB (m : Int)).length) (wr.iterAt (w.heap.size + 1) s (pos + (signB (m : Int)).length))) := ⟨implMid H.out _⟩
        have Hr : Hd (ReadTo s (l ++ [(m : Int)]) (pos + (signB (m : Int)).length)) := ⟨readTo_next H.out.rd hg⟩
        have Hit : Hd (wr.heap[w.heap.size + 1]? = some (.stringIter s pos)) := ⟨H.out.it⟩
        have Hun : Hd (m = 65533 → [239, 191, 189] <+: (s.extract pos s.size).data.toList) := ⟨fun e => by subst e; rw [← Lib.toList_data, ext_list, List.take_of_length_le (by rw [len_drop]; exact Nat.le_refl _)]; exact (got_unread _).1 hg⟩
        have hex : (s.extract pos s.size).size ≤ 1073741824 := by rw [ByteArray.size_extract]; omega
        clear hg hsg hdec H
        generalize wr.iterAt (w.heap.size + 1) s (pos + (signB (m : Int)).length) = W1 at *
        have Ho : Hd (W1.ownsRow w.heap.size 3 1 (.slice (some ⟨w.heap.size, 0, none⟩) l.length s.size) l.length (l.map ci)) := ⟨H1.out.own.owns rfl (Nat.le_refl _)⟩
        have hsz : w.heap.size + 1 < W1.heap.size := (Array.getElem?_eq_some_iff.1 H1.out.it).1
        by_cases h5 : m = 65533
        · have HP : Hd ([239, 191, 189] <+: (s.extract pos s.size).data.toList) := ⟨Hun.out h5⟩
          have H7 : Hd ((m : Int) = 65533) := ⟨by omega⟩
          have h6 : ((m : Int) == 65533) = true := by simp; omega
          have h7 : (m : Int) = 65533 := by omega
          have h8 : (pos : Int) < (s.size : Int) := by omega
          go_wp2_with fail
          refine (hasPrefix_yes (s.extract pos s.size) _ hex HP).mono ?_
          rintro e w2 ⟨rfl, hw2⟩
          subst hw2
          go_wp2_with (at_builtin; refine wpList_append_fits _ rfl (.tmp 26) (.tmp 29) 47 rfl w.heap.size 3 i0 1 Tryz.underlying47 hi hz1 w.heap.size l.length s.size _ rfl (Ho.out.alloc _) ⟨W1.heap.size, 0, none⟩ 1 1 [.int .i64 65533] rfl rfl ?c1 ?c2 ?c3 ?_)
          case c1 => exact built_cells W1 _ _ _ rfl
          case c2 => intro u hu; simp at hu; subst hu; rfl
          case c3 => have := hlp.out; omega
          intro w3 hown3 hgr3
          rw [← H7.out] at hown3
          have HN : Hd (ImplAt w s (l ++ [(m : Int)]) (pos + (signB (m : Int)).length) w3) := ⟨implNext H1.out hown3 hgr3 Hr.out⟩
          clear hown3 hgr3 H1 Ho Hr
          go_wp2_with fail
          go_roundw
          case rel => exact ⟨l ++ [(m : Int)], _, by simp, HN⟩
          case measure => simp only [World.iterPos, HN.out.it, Hit.out]; omega
        · have h6 : ((m : Int) == 65533) = false := by simp; omega
          go_wp2_with (at_builtin; refine wpList_append_fits _ rfl (.tmp 26) (.tmp 29) 47 rfl w.heap.size 3 i0 1 Tryz.underlying47 hi hz1 w.heap.size l.length s.size _ rfl (Ho.out.alloc _) ⟨W1.heap.size, 0, none⟩ 1 1 [.int .i64 (m : Int)] rfl rfl ?c1 ?c2 ?c3 ?_)
          case c1 => exact built_cells W1 _ _ _ rfl
          case c2 => intro u hu; simp at hu; subst hu; rfl
          case c3 => have := hlp.out; omega
          intro w3 hown3 hgr3
          have HN : Hd (ImplAt w s (l ++ [(m : Int)]) (pos + (signB (m : Int)).length) w3) := ⟨implNext H1.out hown3 hgr3 Hr.out⟩
          clear hown3 hgr3 H1 Ho Hr
          go_wp2_with fail
          go_roundw
          case rel => exact ⟨l ++ [(m : Int)], _, by simp, HN⟩
          case measure => simp only [World.iterPos, HN.out.it, Hit.out]; omega
      · have hdec := decode_not s pos hp hg
        have hnx : ∀ ty, (Instr.next (.pointer (some ⟨w.heap.size + 1, 0, none⟩)) true ty).run Tryz.prog wr = .ok (.tuple #[.bool true, .int .i64 pos, .int .i32 ((65533 : Nat) : Int)]) (wr.iterAt (w.heap.size + 1) s (pos + 1)) := fun ty => next_is wr (w.heap.size + 1) s pos 65533 1 ty H.out.it hp hdec
        have H1 : Hd (ImplMid w s l (pos + 1) (wr.iterAt (w.heap.size + 1) s (pos + 1))) := ⟨implMid H.out _⟩
        have HA : Hd (SignsAre s.data.toList [] false) := ⟨readTo_stuck H.out.rd hp hg⟩
        have HP : Hd (¬ [239, 191, 189] <+: (s.extract pos s.size).data.toList) := ⟨fun h => hg ⟨_, (got_unread _).2 (by rw [← Lib.toList_data, ext_list, List.take_of_length_le (by rw [len_drop]; exact Nat.le_refl _)] at h; exact h)⟩⟩
        have hex : (s.extract pos s.size).size ≤ 1073741824 := by rw [ByteArray.size_extract]; omega
        clear hg hdec H
        generalize wr.iterAt (w.heap.size + 1) s (pos + 1) = W1 at *
        go_wp2_with fail
        refine (hasPrefix_no (s.extract pos s.size) _ hex HP).mono ?_
        rintro e w2 ⟨rfl, hw2⟩
        subst hw2
        go_wp2_with fail
        go_ret2
        refine ⟨W1.heap.size, 0, [], false, rfl, HA.out, H1.out.bel.size, ?_, H1.out.bel.alloc H1.out.bel.size _⟩
        exact ⟨#[], heap_alloc_new W1 _, Nat.le_refl _, Nat.zero_le _, rfl, rfl⟩
    · have hnx : ∀ ty, (Instr.next (.pointer (some ⟨w.heap.size + 1, 0, none⟩)) true ty).run Tryz.prog wr = .ok (.tuple #[.bool false]) wr := fun ty => Lib.run_next_end_at wr (w.heap.size + 1) s pos ty H.out.it hp
      have HA : Hd (SignsAre s.data.toList l true) := ⟨readTo_end H.out.rd hp⟩
      go_wp2_with fail
      go_ret2
      exact ⟨w.heap.size, s.size, l, true, rfl, HA.out, Nat.le_refl _, H.out.own, H.out.bel⟩

end Go.Proofs.YtpafjehphajbhaaGreatDoor
