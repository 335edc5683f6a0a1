/- What the drawn laws of stage 6 rest on: parts are read as the whole is; and what they carry along. -/
import Derived.Test.YtjbideiifoadkaaDoorFeedA
import Derived.Test.YtjbideiifoadkaaDoorDrawB
namespace Go.Proofs.YtjbideiifoadkaaDoor
set_option maxRecDepth 4000
open Go.RowKit

theorem sOk_held {cs : Int} (h : inB cs 0 5 = true) (t : List UInt8) : sOk cs (feedH cs t) (feedB cs t) = true := by
  obtain ⟨h1, h2, _, _⟩ := feed_held cs _ t (Nat.le_refl _)
  unfold sOk
  rw [h]
  cases hb : feedB cs t
  · rcases h1 with e | e
    · rw [e]; rfl
    · rw [e]; simp
  · rw [h2 hb]; rfl
theorem fed_first {cs : Int} (h : inB cs 0 5 = true) (t : List UInt8) : fedT cs [] false t = feedT cs t ∧ fedH cs [] false t = feedH cs t ∧ fedB cs [] false t = feedB cs t := by
  obtain ⟨e1, e2, e3⟩ := fed_yes (b := t) (sOk_nil (cs := cs) (bad := false) h)
  exact ⟨e3, e1, e2⟩
/-- What stands of two parts. -/
structure Parted (cs : Int) (u v : List UInt8) : Prop where
  ok1 : sOk cs (fedH cs [] false u) (fedB cs [] false u) = true
  ok2 : sOk cs (fedH cs (fedH cs [] false u) (fedB cs [] false u) v) (fedB cs (fedH cs [] false u) (fedB cs [] false u) v) = true
  txt : fedT cs [] false u ++ fedT cs (fedH cs [] false u) (fedB cs [] false u) v = fedT cs [] false (u ++ v)
  held : fedH cs (fedH cs [] false u) (fedB cs [] false u) v = fedH cs [] false (u ++ v)
  bad : fedB cs (fedH cs [] false u) (fedB cs [] false u) v = fedB cs [] false (u ++ v)
theorem parted {cs : Int} (h : inB cs 0 5 = true) (u v : List UInt8) : Parted cs u v := by
  obtain ⟨a1, a2, a3⟩ := fed_first h u
  obtain ⟨z1, z2, z3⟩ := fed_first h (u ++ v)
  obtain ⟨i1, i2⟩ := feed_app cs v _ u (Nat.le_refl _)
  have ok1 := sOk_held h u
  have okz := sOk_held h (u ++ v)
  cases hb : feedB cs u with
  | true =>
    have hh : feedH cs u = [] := (feed_held cs _ u (Nat.le_refl _)).2.1 hb
    have e := i1 hb
    have hn : (sOk cs [] true && !true) = false := by simp
    obtain ⟨y1, y2, y3⟩ := fed_no (cs := cs) (b := v) hn
    have t1 : feedT cs (u ++ v) = feedT cs u := by unfold feedT; rw [e]; rfl
    have t2 : feedH cs (u ++ v) = [] := by unfold feedH; rw [e]
    have t3 : feedB cs (u ++ v) = true := by unfold feedB; rw [e]
    refine ⟨?_, ?_, ?_, ?_, ?_⟩
    · rw [a2, a3]; exact ok1
    · rw [a2, a3, hb, hh, y1, y2]; exact sOk_nil h
    · rw [a1, a2, a3, hb, hh, y3, z1, t1, List.append_nil]
    · rw [a2, a3, hb, hh, y1, z2, t2]
    · rw [a2, a3, hb, hh, y2, z3, t3]
  | false =>
    have e := i2 hb
    rw [hb] at ok1
    obtain ⟨y1, y2, y3⟩ := fed_yes (b := v) ok1
    have t1 : feedT cs (u ++ v) = feedT cs u ++ feedT cs (feedH cs u ++ v) := by show (feedOf cs (u ++ v)).1 = _; rw [e]
    have t2 : feedH cs (u ++ v) = feedH cs (feedH cs u ++ v) := by show (feedOf cs (u ++ v)).2.1 = _; rw [e]; rfl
    have t3 : feedB cs (u ++ v) = feedB cs (feedH cs u ++ v) := by show (feedOf cs (u ++ v)).2.2 = _; rw [e]; rfl
    refine ⟨?_, ?_, ?_, ?_, ?_⟩
    · rw [a2, a3, hb]; exact ok1
    · rw [a2, a3, hb, y1, y2]; exact sOk_held h _
    · rw [a1, a2, a3, hb, y3, z1, t1]
    · rw [a2, a3, hb, y1, z2, t2]
    · rw [a2, a3, hb, y2, z3, t3]
/-- What stands of the whole: it was all read just where Decode says something, and that. -/
theorem fed_whole {cs : Int} (h : inB cs 0 5 = true) (t : List UInt8) : (sOk cs (fedH cs [] false t) (fedB cs [] false t) && !fedB cs [] false t && decide (fedH cs [] false t = [])) = decOk cs t ∧ (decOk cs t = true → fedT cs [] false t = decS cs t) := by
  obtain ⟨z1, z2, z3⟩ := fed_first h t
  obtain ⟨d1, d2⟩ := feed_dec cs _ t (Nat.le_refl _)
  have ok := sOk_held h t
  rw [z1, z2, z3, ok]
  have e : decOk cs t = decide (lostI (itemsOf cs t) = 0) := by unfold decOk; rw [h]; rfl
  refine ⟨?_, fun hk => ?_⟩
  · rw [e]
    by_cases hl : lostI (itemsOf cs t) = 0
    · obtain ⟨e1, e2⟩ := d1.1 hl
      rw [decide_eq_true hl, e1, e2]; rfl
    · rw [decide_eq_false hl]
      have hn : ¬ (feedH cs t = [] ∧ feedB cs t = false) := fun hh => hl (d1.2 hh)
      cases hb : feedB cs t
      · have hh : feedH cs t ≠ [] := fun q => hn ⟨q, hb⟩
        rw [decide_eq_false hh]; rfl
      · simp
  · have hl : lostI (itemsOf cs t) = 0 := by rw [e] at hk; exact of_decide_eq_true hk
    rw [d2 hl]; unfold decS; rw [if_pos hk]
theorem dec_none {cs : Int} (h : inB cs 0 5 = false) (t : List UInt8) : decOk cs t = false := by unfold decOk; rw [h]; rfl
theorem sOk_new (cs : Int) : sOk cs [] false = inB cs 0 5 := by unfold sOk; simp

/-- A state in its box. -/
structure BoxR (p : Nat) (cs : Int) (ao : Option Addr) (n c : Nat) (bd : Bool) (ls : List UInt8) (W : World) : Prop where
  box : W.heap[p]? = some (.cells #[.int .i64 cs, .slice ao n c, .bool bd] 30 (0, 0))
  left : LeftAt W ao n c ls
theorem BoxR.below {p : Nat} {cs : Int} {ao : Option Addr} {n c : Nat} {bd : Bool} {ls : List UInt8} {W V : World} (h : BoxR p cs ao n c bd ls W) (hB : Below W.heap.size W V) : BoxR p cs ao n c bd ls V :=
  ⟨(hB.block _ (lt_block h.box)).trans h.box, h.left.below hB⟩
theorem OwnO.left {w : World} {B c n : Nat} {ao : Option Addr} {bs : List UInt8} (h : OwnO w B ao c bs) (hn : bs.length = n) : LeftAt w ao n c bs := by
  refine ⟨h.reads hn, ?_⟩
  rcases h with ⟨rfl, rfl, _⟩ | ⟨q, rfl, _, hO⟩
  · exact .inl ⟨rfl, rfl⟩
  · exact .inr ⟨q, 0, rfl, hO.lt⟩
theorem Lies.reads {w : World} {q n : Nat} {es : List UInt8} (h : Lies w q n es) : Reads w (some ⟨q, 0, none⟩) n es := ⟨h.size, .inr ⟨q, 0, rfl, h.cell⟩⟩
theorem Lies.left {w : World} {q n c : Nat} {es : List UInt8} (h : Lies w q n es) : LeftAt w (some ⟨q, 0, none⟩) n c es := ⟨h.reads, .inr ⟨q, 0, rfl, h.lt⟩⟩
/-- The first bytes, and the rest. -/
theorem Lies.cutA {w : World} {q n k : Nat} {es : List UInt8} (h : Lies w q n es) (hk : k ≤ n) : Reads w (some ⟨q, 0, none⟩) k (es.take k) := (h.take k hk).reads
theorem Lies.cutB {w : World} {q n k : Nat} {es : List UInt8} (h : Lies w q n es) (hk : k ≤ n) : Reads w (some ⟨q, k, none⟩) (n - k) (es.drop k) := by
  refine ⟨by rw [List.length_drop, h.size], .inr ⟨q, k, rfl, fun j hj => ?_⟩⟩
  have := h.cell (k + j) (by omega)
  rw [Nat.zero_add] at this
  rw [this]; simp [List.getD]
/-- What a slice in a state says as a text. -/
theorem conv_left {w : World} {ao : Option Addr} {n c : Nat} {bs : List UInt8} (h : LeftAt w ao n c bs) : (convert 22 9 (.slice ao n c)).run Tryd.prog w = .ok (.string ⟨bs.toArray⟩) w := by
  have hn := h.1.1
  rcases h.2 with ⟨rfl, rfl⟩ | ⟨q, off, rfl, _⟩
  · obtain ⟨rfl, rfl⟩ := reads_none h.1
    exact run_convert_bytes_nil w 22 5 Tryd.underlying22 Tryd.underlying5 0 0 9 Tryd.underlying9
  · have := run_convert_bytes_back (P := Tryd.prog) w 22 9 5 ⟨q, off, none⟩ c bs Tryd.underlying22 Tryd.underlying5 Tryd.underlying9 (fun j hj => by
      rcases h.1.2 with h0 | ⟨b, o, e, hc⟩
      · omega
      · cases e
        rw [Addr.add_lit, hc j (by omega)]
        simp [List.getD, List.getElem?_eq_getElem hj])
    rw [hn] at this; exact this

/-- What Feed answers, with a letter for each part of it. -/
structure FedTo (w : World) (cs : Int) (hd : List UInt8) (bd : Bool) (t : ByteArray) (n : Nat) (e : Ending) (w' : World) : Prop where
  out : ∃ ao c, e = .returned (.tuple #[.agg #[.int .i64 cs, .slice ao n c, .bool bd], .string t]) ∧ OwnO w' w.heap.size ao c hd ∧ Below w.heap.size w w'
theorem OwnO.set3 {w : World} {B c q : Nat} {ao : Option Addr} {bs : List UInt8} {x y z : Value} (h : OwnO w B ao c bs) (hq : q < B) : OwnO (((w.setCell ⟨q, 0, none⟩ x).setCell ⟨q, 1, none⟩ y).setCell ⟨q, 2, none⟩ z) B ao c bs := by
  rcases h with h | ⟨g, rfl, hg, hO⟩
  · exact .inl h
  · exact .inr ⟨g, rfl, hg, own_set3 hO (by omega)⟩
theorem implFeed_to (cs : Int) (ah ap : Option Addr) (lh ch lp cp : Nat) (bad : Bool) (held part hd : List UInt8) (bd : Bool) (t : ByteArray) (n : Nat) (w : World) (h1 : LeftAt w ah lh ch held) (h2 : Reads w ap lp part) (hl1 : lh ≤ 2097152) (hl2 : lp ≤ 2097152) (T : Hd (AllAt w))
    (e1 : fedH cs held bad part = hd) (e2 : fedB cs held bad part = bd) (e3 : (⟨(fedT cs held bad part).toArray⟩ : ByteArray) = t) (e4 : hd.length = n) :
    Calls Tryd.prog 16 #[.agg #[.int .i64 cs, .slice ah lh ch, .bool bad], .slice ap lp cp] w (FedTo w cs hd bd t n) := by
  subst e1 e2 e3 e4
  refine (implFeed_any cs ah ap lh ch lp cp bad held part w h1 h2 hl1 hl2 T).mono ?_
  rintro e w1 ⟨ao, c, rfl, hO, hB⟩
  exact ⟨ao, c, rfl, hO, hB⟩
theorem fed_small {cs : Int} {held b : List UInt8} {bad : Bool} (h : held.length ≤ 3) : (fedH cs held bad b).length ≤ 3 := by
  unfold fedH
  split
  · exact (feed_held cs _ (held ++ b) (Nat.le_refl _)).2.2.2
  · exact h
theorem fedT_len (cs : Int) (held b : List UInt8) (bad : Bool) : (fedT cs held bad b).length ≤ 4 * (held.length + b.length) := by
  unfold fedT
  split
  · have := (feed_held cs _ (held ++ b) (Nat.le_refl _)).2.2.1
    rw [List.length_append] at this; exact this
  · simp
/-- What stands through FnStreams behind the first part. -/
structure StA (w : World) (a0 : Option Addr) (len0 : Nat) (bs : List UInt8) (q1 m1 : Nat) (xs : List UInt8) (p8 : Nat) (cs : Int) (W : World) : Prop where
  k : CStays w a0 len0 bs W
  e : Lies W q1 m1 xs
  d : BoxR p8 cs none 0 0 false [] W
theorem StA.next {w : World} {a0 : Option Addr} {len0 : Nat} {bs : List UInt8} {q1 m1 : Nat} {xs : List UInt8} {p8 : Nat} {cs : Int} {W V : World} (h : StA w a0 len0 bs q1 m1 xs p8 cs W) (hB : Below W.heap.size W V) : StA w a0 len0 bs q1 m1 xs p8 cs V :=
  ⟨h.k.next hB, h.e.below hB, h.d.below hB⟩
theorem bset3 {w v : World} {q : Nat} {x y z : Value} (h : Below w.heap.size w v) (hq : w.heap.size ≤ q) : Below w.heap.size w (((v.setCell ⟨q, 0, none⟩ x).setCell ⟨q, 1, none⟩ y).setCell ⟨q, 2, none⟩ z) := bset (bset (bset h _ hq) _ hq) _ hq
theorem boxR_new {w : World} {cs : Int} {ao : Option Addr} {n c : Nat} {bd : Bool} {ls : List UInt8} (h : LeftAt w ao n c ls) : BoxR w.heap.size cs ao n c bd ls (w.alloc (.cells #[.int .i64 cs, .slice ao n c, .bool bd] 30)) := ⟨alloc_new w _ rfl, h.below (below_lit w _)⟩
theorem box_kept {w v : World} {d : Nat} {o : Obj} (h : w.heap[d]? = some o) (hB : Below w.heap.size w v) : v.heap[d]? = some o := (hB.block d (lt_block h)).trans h

end Go.Proofs.YtjbideiifoadkaaDoor
