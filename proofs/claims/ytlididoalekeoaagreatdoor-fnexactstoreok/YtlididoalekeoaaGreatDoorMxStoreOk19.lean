/- Parts of the proof, one behind the other. -/
import Derived.Test.YtlididoalekeoaaGreatDoorMxStoreOk1
import Derived.Lib.AppendStr
import Derived.Laws.IdiomStrings
import Derived.Test.YtlididoalekeoaaGreatDoorMxStoreOk13
import Derived.Test.YtlididoalekeoaaGreatDoorMxStoreOk18
import Derived.Test.YtlididoalekeoaaGreatDoorMxStoreOk17
import Derived.Test.YtlididoalekeoaaGreatDoorMxStoreOk16
import Derived.Test.YtlididoalekeoaaGreatDoorMxStoreOk15
import Derived.Test.YtlididoalekeoaaGreatDoorMxStoreOk12
/- Parts of the proof, one behind the other. -/
/- Contracts of PutText, in the specification and in the program. Contracts of GetW, in the specification and in the program. Contracts of GetText, in the specification and in the program. Contracts of Sum, in the specification and in the program. -/
namespace Go.Proofs.YtlididoalekeoaaGreatDoor
set_option maxRecDepth 4000
open Go.RowKit

theorem strCells_cb (s : ByteArray) : Lib.strCells s = s.data.toList.map cb := by
  simp [Lib.strCells, cb]

/-- What PutText answers. -/
def putText (bs : List UInt8) (s : ByteArray) : List UInt8 := if 60 < s.size then bs else bs ++ [hiB (s.size : Int), loB (s.size : Int)] ++ s.data.toList

theorem putText_len (bs : List UInt8) (s : ByteArray) : (putText bs s).length ≤ bs.length + 62 := by
  unfold putText; split <;> simp <;> omega

/-- What GetW answers: of the bytes bs at a place. -/
def getW (bs : List UInt8) (at_ : Int) : Int × Int × Bool :=
  if 0 ≤ at_ ∧ at_ ≤ (bs.length : Int) - 2 then ((wordOf (bs.getD at_.toNat 0) (bs.getD (at_.toNat + 1) 0) : Int), at_ + 2, true) else (0, 0, false)

theorem getW_in (bs : List UInt8) (k : Nat) (h : k + 2 ≤ bs.length) : getW bs (k : Int) = ((wordOf (bs.getD k 0) (bs.getD (k + 1) 0) : Int), ((k + 2 : Nat) : Int), true) := by
  unfold getW; rw [if_pos (by omega)]; simp
theorem getW_out (bs : List UInt8) (at_ : Int) (h : at_ < 0 ∨ (bs.length : Int) - 2 < at_) : getW bs at_ = (0, 0, false) := by
  unfold getW; rw [if_neg (by omega)]

theorem conv_none (a : Addr) (c : Nat) (w : World) : (convert 60 9 (.slice (some a) 0 c)).run Tryz.prog w = .ok (.string ⟨#[]⟩) w :=
  run_convert_bytes_back (P := Tryz.prog) w 60 9 5 a c [] Tryz.underlying60 Tryz.underlying5 Tryz.underlying9 (fun j hj => absurd hj (by simp))
theorem conv_some (b off : Nat) (l : List UInt8) (n c : Nat) (w : World) (hn : l.length = n) (hc : ∀ j, j < n → w.cell? ⟨b, off + j, none⟩ = some (.int .u8 ((l.getD j 0).toNat : Int))) :
    (convert 60 9 (.slice (some ⟨b, off, none⟩) n c)).run Tryz.prog w = .ok (.string ⟨l.toArray⟩) w := by
  subst hn
  refine run_convert_bytes_back (P := Tryz.prog) w 60 9 5 ⟨b, off, none⟩ c l Tryz.underlying60 Tryz.underlying5 Tryz.underlying9 (fun j hj => ?_)
  rw [Addr.add_lit, hc j hj]
  simp [List.getD, List.getElem?_eq_getElem hj]

/-- What GetText answers. -/
def getText (bs : List UInt8) (at_ : Int) : ByteArray × Int × Bool :=
  if (getW bs at_).2.2 = true ∧ (getW bs at_).1 ≤ 60 ∧ (getW bs at_).1 ≤ (bs.length : Int) - (getW bs at_).2.1 then
    (⟨((bs.drop (getW bs at_).2.1.toNat).take (getW bs at_).1.toNat).toArray⟩, (getW bs at_).2.1 + (getW bs at_).1, true) else (⟨#[]⟩, 0, false)

theorem getW_cases (bs : List UInt8) (at_ : Int) : (∃ m p : Nat, getW bs at_ = ((m : Int), (p : Int), true) ∧ p ≤ bs.length) ∨ getW bs at_ = (0, 0, false) := by
  by_cases h : at_ < 0 ∨ (bs.length : Int) - 2 < at_
  · exact .inr (getW_out bs at_ h)
  · obtain ⟨k, rfl⟩ := Int.eq_ofNat_of_zero_le (show 0 ≤ at_ from by omega)
    exact .inl ⟨_, k + 2, getW_in bs k (by omega), by omega⟩

/-- One of the eight steps: twice the sum, and if that is above 65535, Xor 69665. -/
def sumStep (x : Nat) : Nat := if 65535 < x * 2 then (x * 2) ^^^ 69665 else x * 2
def sumSteps (x : Nat) : Nat → Nat
  | 0 => x
  | k + 1 => sumStep (sumSteps x k)
def sumByte (x c : Nat) : Nat := sumSteps (x ^^^ c * 256) 8
def sumOf (bs : List UInt8) : Nat := bs.foldl (fun x b => sumByte x b.toNat) 65535

theorem high_bit {y i : Nat} (h1 : 65536 ≤ y) (h2 : y < 131072) (hi : 16 ≤ i) : y.testBit i = decide (i = 16) := by
  by_cases h : i = 16
  · subst h
    rw [Nat.testBit_eq_decide_div_mod_eq]
    simp; omega
  · have : y < 2 ^ i := Nat.lt_of_lt_of_le (show y < 2 ^ 17 by omega) (Nat.pow_le_pow_right (by omega) (by omega))
    rw [Nat.testBit_lt_two_pow this]; simp [h]
theorem xor_high {y : Nat} (h1 : 65536 ≤ y) (h2 : y < 131072) : y ^^^ 69665 < 65536 := by
  apply Nat.lt_pow_two_of_testBit (n := 16)
  intro i hi
  rw [Nat.testBit_xor, high_bit h1 h2 hi, high_bit (by omega) (by omega) hi]
  simp
theorem sumStep_lt {x : Nat} (h : x < 65536) : sumStep x < 65536 := by
  unfold sumStep; split
  · exact xor_high (by omega) (by omega)
  · omega
theorem sumSteps_lt {x : Nat} (h : x < 65536) (k : Nat) : sumSteps x k < 65536 := by
  induction k with
  | zero => exact h
  | succ k ih => exact sumStep_lt ih
theorem xor_lt {x c : Nat} (h : x < 65536) (hc : c < 256) : x ^^^ c * 256 < 65536 := Nat.xor_lt_two_pow (n := 16) (by omega) (by omega)
theorem sumByte_lt {x c : Nat} (h : x < 65536) (hc : c < 256) : sumByte x c < 65536 := sumSteps_lt (xor_lt h hc) 8
theorem foldl_lt (bs : List UInt8) : ∀ x, x < 65536 → bs.foldl (fun x b => sumByte x b.toNat) x < 65536 := by
  induction bs with
  | nil => intro x h; exact h
  | cons b r ih =>
    intro x h
    have hb : b.toNat < 256 := b.toNat_lt
    have h2 := sumByte_lt h hb
    rw [List.foldl_cons]
    exact ih (sumByte x b.toNat) h2
theorem sumOf_lt (bs : List UInt8) : sumOf bs < 65536 := by
  unfold sumOf; exact foldl_lt bs 65535 (by omega)
theorem sumOf_snoc (bs : List UInt8) (b : UInt8) : sumOf (bs ++ [b]) = sumByte (sumOf bs) b.toNat := by simp [sumOf]
theorem sumOf_take (bs : List UInt8) (k : Nat) (h : k < bs.length) : sumOf (bs.take (k + 1)) = sumByte (sumOf (bs.take k)) (bs.getD k 0).toNat := by
  rw [List.take_succ_eq_append_getElem h, sumOf_snoc]
  simp [List.getD, List.getElem?_eq_getElem h]

theorem step_hi {y : Nat} (hy : y < 65536) (h : (65535 : Int) < (y : Int) * 2) : bits .xor .i64 ((y : Int) * 2) 69665 = ((sumStep y : Nat) : Int) := by
  have e : (y : Int) * 2 = ((y * 2 : Nat) : Int) := by omega
  have e2 : (69665 : Int) = ((69665 : Nat) : Int) := rfl
  rw [e, e2, i64_xor _ _ (by omega) (by omega)]
  unfold sumStep; rw [if_pos (by omega)]
theorem step_lo {y : Nat} (h : ¬ (65535 : Int) < (y : Int) * 2) : (y : Int) * 2 = ((sumStep y : Nat) : Int) := by
  unfold sumStep; rw [if_neg (by omega)]; omega
theorem mask_word {y : Nat} (hy : y < 65536) : bits .and .i64 (y : Int) 65535 = (y : Int) := by
  have e2 : (65535 : Int) = ((65535 : Nat) : Int) := rfl
  rw [e2, i64_and _ _ (by omega) (by omega), show (65535 : Nat) = 2 ^ 16 - 1 from rfl, Nat.and_two_pow_sub_one_eq_mod, Nat.mod_eq_of_lt (by omega)]

theorem wrap_twice {y : Nat} (hy : y < 65536) : wrap64 ((y : Int) * 2) = (y : Int) * 2 := wrap64_in (by omega) (by omega)
theorem step_hi' {y : Nat} (hy : y < 65536) (h : (65535 : Int) < wrap64 ((y : Int) * 2)) : bits .xor .i64 (wrap64 ((y : Int) * 2)) 69665 = ((sumStep y : Nat) : Int) := by
  rw [wrap_twice hy] at h ⊢; exact step_hi hy h
theorem step_lo' {y : Nat} (hy : y < 65536) (h : wrap64 ((y : Int) * 2) ≤ 65535) : wrap64 ((y : Int) * 2) = ((sumStep y : Nat) : Int) := by
  rw [wrap_twice hy] at h ⊢; exact step_lo (by omega)

theorem spec_in {y x : Nat} (hy : y < 65536) (hx : x < 256) : bits .xor .i64 (y : Int) (wrap64 ((x : Int) * 256)) = ((y ^^^ x * 256 : Nat) : Int) := by
  have e : (x : Int) * 256 = ((x * 256 : Nat) : Int) := by omega
  rw [wrap64_in (by omega) (by omega), e, i64_xor _ _ (by omega) (by omega)]

end Go.Proofs.YtlididoalekeoaaGreatDoor
/- Plain facts on records: what is right; a row's bytes, a record's bytes; what is read of bytes. -/
namespace Go.Proofs.YtlididoalekeoaaGreatDoor
set_option maxRecDepth 4000
open Go.RowKit

def noRowB (r : RowD) : Bool := r.key.toList.isEmpty && noneB r.t1 r.b1.length && noneB r.t2 r.b2.length && (r.has == 0) && !r.aside
def whoB (r : RecD) : Bool := if r.who = 0 then (r.seq == 0) && (r.code == 0) && (r.kind != 4) else inB r.who 1 9 && inB r.seq 0 65535 && inB r.code 0 6
def recOk (r : RecD) : Bool :=
  inB r.kind 1 4 && (if r.kind = 1 then rOk r.r else noRowB r.r) && (if r.kind = 2 then nameOkB r.key else r.key.toList.isEmpty) && (if r.kind = 3 then inB r.n 0 7 else r.n == 0) && whoB r

/-- A byte of a number. -/
def byB (n : Int) : UInt8 := UInt8.ofNat (n % 256).toNat
theorem byB_val (n : Int) : n % 256 = ((byB n).toNat : Int) := by
  unfold byB; rw [UInt8.toNat_ofNat']; omega
def bitB (b : Bool) : UInt8 := if b = true then 1 else 0
/-- A cell, a row behind other bytes. -/
def putCellB (b : List UInt8) (t : Int) (s : List UInt8) : List UInt8 := putText (b ++ [byB t]) ⟨s.toArray⟩
def putRowB (b : List UInt8) (r : RowD) : List UInt8 :=
  if rOk r = false then b
  else
    let h := putText b r.key ++ [byB r.has, bitB r.aside]
    let o := if oldB r.has = true then putCellB h r.t1 r.b1 else h
    if newB r.has = true then putCellB o r.t2 r.b2 else o
theorem putText_small {b : List UInt8} {s : ByteArray} (h : ¬ 60 < s.size) : putText b s = b ++ [hiB (s.size : Int), loB (s.size : Int)] ++ s.data.toList := if_neg h
theorem putCellB_len (b : List UInt8) (t : Int) (s : List UInt8) : (putCellB b t s).length ≤ b.length + 63 := by
  have := putText_len (b ++ [byB t]) ⟨s.toArray⟩
  unfold putCellB
  simp at this
  omega
theorem putRowB_len (b : List UInt8) (r : RowD) : (putRowB b r).length ≤ b.length + 190 := by
  unfold putRowB
  split
  · omega
  · have h1 := putText_len b r.key
    have h2 : ∀ h : List UInt8, (if oldB r.has = true then putCellB h r.t1 r.b1 else h).length ≤ h.length + 63 := fun h => by
      split
      · exact putCellB_len _ _ _
      · omega
    have h3 : ∀ h : List UInt8, (if newB r.has = true then putCellB h r.t2 r.b2 else h).length ≤ h.length + 63 := fun h => by
      split
      · exact putCellB_len _ _ _
      · omega
    have h4 := h2 (putText b r.key ++ [byB r.has, bitB r.aside])
    have h5 := h3 (if oldB r.has = true then putCellB (putText b r.key ++ [byB r.has, bitB r.aside]) r.t1 r.b1 else putText b r.key ++ [byB r.has, bitB r.aside])
    simp only [List.length_append, List.length_cons, List.length_nil] at h4
    show (if newB r.has = true then putCellB _ r.t2 r.b2 else _).length ≤ _
    omega

end Go.Proofs.YtlididoalekeoaaGreatDoor
/- Plain facts on lists that go up; on what a node knows that is right. -/
namespace Go.Proofs.YtlididoalekeoaaGreatDoor
set_option maxRecDepth 4000
open Go.RowKit

/-- Each is less than the next. -/
def ascB {α : Type} (lt : α → α → Bool) : List α → Bool
  | a :: b :: r => lt a b && ascB lt (b :: r)
  | _ => true
theorem ascB_end {α : Type} {lt : α → α → Bool} {l : List α} {j : Nat} (h : l.length ≤ j + 1) : ascB lt (l.drop j) = true := by
  have h2 : (l.drop j).length ≤ 1 := by rw [List.length_drop]; omega
  match hl : l.drop j with
  | [] => rfl
  | [_] => rfl
  | _ :: _ :: _ => rw [hl] at h2; simp at h2
theorem ascB_at {α : Type} {lt : α → α → Bool} {l : List α} {j : Nat} {a b : α} (ha : l[j]? = some a) (hb : l[j + 1]? = some b) : ascB lt (l.drop j) = (lt a b && ascB lt (l.drop (j + 1))) := by
  obtain ⟨h1, rfl⟩ := List.getElem?_eq_some_iff.1 ha
  obtain ⟨h2, rfl⟩ := List.getElem?_eq_some_iff.1 hb
  rw [List.drop_eq_getElem_cons h1, List.drop_eq_getElem_cons h2, ascB]
def ltRow (a b : RowD) : Bool := Op.bytesLess a.key.toList b.key.toList
def ltMark (a b : MarkD) : Bool := decide (a.who < b.who)
def markOk (m : MarkD) : Bool := inB m.who 1 9 && inB m.seq 0 65535 && inB m.code 0 6
def tabOk (t : TabD) : Bool := decide (t.rows.length ≤ 8) && ascB ltRow t.rows && ascB ltMark t.marks && t.rows.all rOk && t.marks.all markOk && inB t.phase 0 7
theorem recOk_row (r : RowD) : recOk (rowR r) = rOk r := by
  simp [recOk, rowR, whoB, inB]
theorem recOk_mark (m : MarkD) : recOk (markR m) = markOk m := by
  by_cases h : m.who = 0
  · simp [recOk, markR, whoB, markOk, h, inB]
  · simp [recOk, markR, whoB, markOk, h, noRowB, noneB, show inB 4 1 4 = true from rfl]
theorem recOk_phase (p : Int) : recOk (phaseR p) = inB p 0 7 := by
  simp [recOk, phaseR, whoB, noRowB, noneB, show inB 3 1 4 = true from rfl]
theorem parts_ok (t : TabD) : (partsL t).all recOk = (inB t.phase 0 7 && t.rows.all rOk && t.marks.all markOk) := by
  unfold partsL
  rw [List.all_cons, List.all_append, recOk_phase, List.all_map, List.all_map]
  have h1 : (recOk ∘ rowR) = rOk := by funext r; exact recOk_row r
  have h2 : (recOk ∘ markR) = markOk := by funext m; exact recOk_mark m
  rw [h1, h2, Bool.and_assoc]

end Go.Proofs.YtlididoalekeoaaGreatDoor
/- Whether a store is right. -/
namespace Go.Proofs.YtlididoalekeoaaGreatDoor
set_option maxRecDepth 4000
open Go.RowKit

def storeOk (a : StoreD) : Bool := devOk a.d && decide (a.d.secs.length = 62) && (decide (a.d.cache.length = 0) || a.d.down) && tabOk a.t && inB a.gen 1 60000 && inB a.place 0 30
theorem storeOk_dev {a : StoreD} (h : devOk a.d = false) : storeOk a = false := by unfold storeOk; rw [h]; rfl
theorem storeOk_secs {a : StoreD} (h : a.d.secs.length ≠ 62) : storeOk a = false := by unfold storeOk; simp [h]
theorem storeOk_cache {a : StoreD} (h : a.d.cache.length ≠ 0) (hd : a.d.down = false) : storeOk a = false := by unfold storeOk; simp [h, hd]
theorem storeOk_rest {a : StoreD} (h1 : devOk a.d = true) (h2 : a.d.secs.length = 62) (h3 : a.d.cache.length = 0 ∨ a.d.down = true) : storeOk a = (tabOk a.t && inB a.gen 1 60000 && inB a.place 0 30) := by
  unfold storeOk
  rw [h1]
  rcases h3 with h | h <;> simp [h2, h, Bool.and_assoc]

end Go.Proofs.YtlididoalekeoaaGreatDoor
/- Whether a number is a generation, or a place. -/
namespace Go.Proofs.YtlididoalekeoaaGreatDoor
set_option maxRecDepth 4000
open Go.RowKit

theorem isGen_any (x : Int) (w : World) : Calls Tryz.prog 18 #[.int .i64 x] w fun e w' => e = .returned (.bool (inB x 1 60000)) ∧ w' = w := by
  by_cases h1 : 1 ≤ x
  · by_cases h2 : x ≤ 60000
    · go_enter Tryz.func18, Tryz.ntmps18
      go_wp2_with fail
      go_ret
      exact ⟨ret_bool (in_t ⟨h1, h2⟩).symm, rfl⟩
    · go_enter Tryz.func18, Tryz.ntmps18
      go_wp2_with fail
      go_ret
      exact ⟨ret_bool (in_f (by omega)).symm, rfl⟩
  · go_enter Tryz.func18, Tryz.ntmps18
    go_wp2_with fail
    go_ret
    exact ⟨ret_bool (in_f (by omega)).symm, rfl⟩
theorem isPlace_any (x : Int) (w : World) : Calls Tryz.prog 19 #[.int .i64 x] w fun e w' => e = .returned (.bool (inB x 0 30)) ∧ w' = w := by
  by_cases h1 : 0 ≤ x
  · by_cases h2 : x ≤ 30
    · go_enter Tryz.func19, Tryz.ntmps19
      go_wp2_with fail
      go_ret
      exact ⟨ret_bool (in_t ⟨h1, h2⟩).symm, rfl⟩
    · go_enter Tryz.func19, Tryz.ntmps19
      go_wp2_with fail
      go_ret
      exact ⟨ret_bool (in_f (by omega)).symm, rfl⟩
  · go_enter Tryz.func19, Tryz.ntmps19
    go_wp2_with fail
    go_ret
    exact ⟨ret_bool (in_f (by omega)).symm, rfl⟩

end Go.Proofs.YtlididoalekeoaaGreatDoor
/- Plain facts on devices: what is done to one that is right leaves it right; what FnDevs asks. -/
namespace Go.Proofs.YtlididoalekeoaaGreatDoor
set_option maxRecDepth 4000
open Go.RowKit

theorem devOk_parts {d : DevD} (h : devOk d = true) : (∀ s ∈ d.secs, s.length ≤ 120) ∧ (∀ x ∈ d.cache, (0 ≤ x.n ∧ x.n ≤ (d.secs.length : Int) - 1) ∧ x.b.length ≤ 120) ∧ (1 ≤ d.secs.length ∧ d.secs.length ≤ 64) ∧ d.cache.length ≤ 40 ∧ -1 ≤ d.fuse ∧ d.fuse ≤ 1000 := by
  simp only [devOk, Bool.and_eq_true, List.all_eq_true, decide_eq_true_eq] at h
  obtain ⟨⟨⟨⟨h1, h2⟩, h3⟩, h4⟩, h5⟩ := h
  refine ⟨h1, fun x hx => ?_, h3, h4, h5⟩
  have := h2 x hx
  simp only [wrOk, Bool.and_eq_true, decide_eq_true_eq] at this
  exact this
theorem devOk_of {d : DevD} (h1 : ∀ s ∈ d.secs, s.length ≤ 120) (h2 : ∀ x ∈ d.cache, (0 ≤ x.n ∧ x.n ≤ (d.secs.length : Int) - 1) ∧ x.b.length ≤ 120) (h3 : 1 ≤ d.secs.length ∧ d.secs.length ≤ 64) (h4 : d.cache.length ≤ 40) (h5 : -1 ≤ d.fuse ∧ d.fuse ≤ 1000) : devOk d = true := by
  simp only [devOk, Bool.and_eq_true, List.all_eq_true, decide_eq_true_eq]
  refine ⟨⟨⟨⟨h1, fun x hx => ?_⟩, h3⟩, h4⟩, h5⟩
  simp only [wrOk, Bool.and_eq_true, decide_eq_true_eq]
  exact h2 x hx
theorem putStep_small {s : List (List UInt8)} {x : WrD} (hs : ∀ t ∈ s, t.length ≤ 120) (hx : x.b.length ≤ 120) : ∀ t ∈ putStep s x, t.length ≤ 120 := by
  intro t ht
  rcases List.mem_or_eq_of_mem_set ht with h | h
  · exact hs t h
  · rw [h]; exact hx
theorem putL_small : ∀ (c : List WrD) {s : List (List UInt8)}, (∀ t ∈ s, t.length ≤ 120) → (∀ x ∈ c, x.b.length ≤ 120) → ∀ t ∈ putL s c, t.length ≤ 120
  | [], _, hs, _ => hs
  | x :: r, s, hs, hc => putL_small r (s := putStep s x) (putStep_small hs (hc x (by simp))) (fun y hy => hc y (by simp [hy]))
theorem keepL_small (keep : Int) : ∀ (c : List WrD) (i : Nat) {s : List (List UInt8)}, (∀ t ∈ s, t.length ≤ 120) → (∀ x ∈ c, x.b.length ≤ 120) → ∀ t ∈ keepL keep i s c, t.length ≤ 120
  | [], _, _, hs, _ => hs
  | x :: r, i, s, hs, hc => by
    unfold keepL
    refine keepL_small keep r (i + 1) ?_ (fun y hy => hc y (by simp [hy]))
    split
    · exact putStep_small hs (hc x (by simp))
    · exact hs
theorem fuse_in {f : Int} (h : -1 ≤ f ∧ f ≤ 1000) : -1 ≤ fuseDown f ∧ fuseDown f ≤ 1000 := by
  unfold fuseDown
  split <;> omega
theorem write_ok {d : DevD} {n : Int} {b : List UInt8} (h : devOk d = true) : devOk (writeD d n b) = true := by
  obtain ⟨h1, h2, h3, h4, h5⟩ := devOk_parts h
  unfold writeD
  by_cases hw : writeOn d n b = false
  · rw [if_pos hw]; exact h
  · rw [if_neg hw]
    have hw' : writeOn d n b = true := by simpa using hw
    simp only [writeOn, inSecs, Bool.and_eq_true, decide_eq_true_eq] at hw'
    obtain ⟨⟨⟨_, hn⟩, hb⟩, hc⟩ := hw'
    split
    · exact devOk_of h1 h2 h3 h4 ⟨by show (-1 : Int) ≤ -1; omega, by show (-1 : Int) ≤ 1000; omega⟩
    · refine devOk_of h1 (fun x hx => ?_) h3 (by show (d.cache ++ [_]).length ≤ 40; rw [List.length_append]; simp; omega) (fuse_in h5)
      rcases List.mem_append.1 hx with hx | hx
      · exact h2 x hx
      · rw [List.mem_singleton.1 hx]; exact ⟨hn, hb⟩
theorem flush_ok {d : DevD} (h : devOk d = true) : devOk (flushD d) = true := by
  obtain ⟨h1, h2, h3, h4, h5⟩ := devOk_parts h
  unfold flushD
  split
  · exact h
  · split
    · exact devOk_of h1 h2 h3 h4 ⟨by show (-1 : Int) ≤ -1; omega, by show (-1 : Int) ≤ 1000; omega⟩
    · exact devOk_of (putL_small d.cache h1 (fun x hx => (h2 x hx).2)) (fun x hx => by cases hx) (by show 1 ≤ (putL _ _).length ∧ (putL _ _).length ≤ 64; rw [putL_len]; exact h3) (by show (0 : Nat) ≤ 40; omega) (fuse_in h5)
theorem fall_ok {d : DevD} {keep : Int} (h : devOk d = true) : devOk (fallD d keep) = true ∧ (fallD d keep).down = false := by
  obtain ⟨h1, h2, h3, h4, h5⟩ := devOk_parts h
  unfold fallD
  rw [if_neg (by rw [h]; simp)]
  exact ⟨devOk_of (keepL_small _ d.cache 0 h1 (fun x hx => (h2 x hx).2)) (fun x hx => by cases hx) (by show 1 ≤ (keepL _ _ _ _).length ∧ (keepL _ _ _ _).length ≤ 64; rw [keepL_len]; exact h3) (by show (0 : Nat) ≤ 40; omega) ⟨by show (-1 : Int) ≤ -1; omega, by show (-1 : Int) ≤ 1000; omega⟩, rfl⟩

/-- A device as it is drawn for FnDevs: right, up, with room, its power stays. -/
structure Fresh (d : DevD) : Prop where
  ok : devOk d = true
  up : d.down = false
  fuse : d.fuse = -1
  room : d.cache.length < 40
theorem fresh_write {d : DevD} {n : Int} {b : List UInt8} (h : Fresh d) (hn : inSecs d n = true) (hb : b.length ≤ 120) : writeD d n b = { d with cache := d.cache ++ [⟨n, b⟩] } := by
  have hw : writeOn d n b = true := by
    unfold writeOn
    rw [h.ok, h.up, hn, decide_eq_true hb, decide_eq_true h.room]
    rfl
  unfold writeD
  rw [if_neg (by rw [hw]; simp), if_neg (by rw [h.fuse]; omega)]
  have e : fuseDown d.fuse = d.fuse := by rw [h.fuse]; rfl
  rw [e]
theorem read_in {d : DevD} {n : Int} (h : devOk d = true) (hn : inSecs d n = true) : readD d n = readL n (secAt d n) d.cache := if_pos (by rw [h, hn]; rfl)
theorem write_read {d : DevD} {n i : Int} {b : List UInt8} (h : Fresh d) (hn : inSecs d n = true) (hb : b.length ≤ 120) (hi : inSecs d i = true) : readD (writeD d n b) i = if n = i then b else readD d i := by
  have ho := write_ok (n := n) (b := b) h.ok
  rw [fresh_write h hn hb] at ho ⊢
  rw [read_in ho hi, read_in h.ok hi]
  exact read_snoc i n _ b d.cache
theorem flush_read {d : DevD} {i : Int} (h : devOk d = true) (hu : d.down = false) (hf : d.fuse = -1) (hi : inSecs d i = true) : readD (flushD d) i = readD d i ∧ (flushD d).cache = [] := by
  obtain ⟨h1, h2, h3, h4, h5⟩ := devOk_parts h
  have ho := flush_ok h
  have e : flushD d = { d with fuse := fuseDown d.fuse, secs := putL d.secs d.cache, cache := [] } := by
    unfold flushD
    rw [if_neg (by rw [h, hu]; simp), if_neg (by rw [hf]; omega)]
  rw [e] at ho ⊢
  have hin : 0 ≤ i ∧ i ≤ (d.secs.length : Int) - 1 := of_decide_eq_true hi
  have hi2 : inSecs { d with fuse := fuseDown d.fuse, secs := putL d.secs d.cache, cache := [] } i = true := by
    show decide (0 ≤ i ∧ i ≤ ((putL d.secs d.cache).length : Int) - 1) = true
    rw [putL_len]; exact hi
  refine ⟨?_, rfl⟩
  rw [read_in ho hi2, read_in h hi]
  have := put_read i.toNat d.cache d.secs (by omega) (fun x hx => (h2 x hx).1.1)
  rw [show ((i.toNat : Nat) : Int) = i from by omega] at this
  exact this
theorem fall_may {d : DevD} {keep i : Int} (h : devOk d = true) (hi : inSecs d i = true) : secAt (fallD d keep) i = secAt d i ∨ ∃ x ∈ d.cache, x.n = i ∧ x.b = secAt (fallD d keep) i := by
  obtain ⟨h1, h2, h3, h4, h5⟩ := devOk_parts h
  have hin : 0 ≤ i ∧ i ≤ (d.secs.length : Int) - 1 := of_decide_eq_true hi
  have e : (fallD d keep).secs = keepL (keepOf keep) 0 d.secs d.cache := by unfold fallD; rw [if_neg (by rw [h]; simp)]
  unfold secAt
  rw [e]
  have := keep_may (keepOf keep) i.toNat d.cache 0 d.secs (by omega) (fun x hx => (h2 x hx).1.1)
  rw [show ((i.toNat : Nat) : Int) = i from by omega] at this
  exact this

end Go.Proofs.YtlididoalekeoaaGreatDoor
/- The program: whether a device has a sector, whether bytes fit it, whether it is right. -/
namespace Go.Proofs.YtlididoalekeoaaGreatDoor
set_option maxRecDepth 4000
open Go.RowKit

theorem inSecs_is (d : DevD) (n : Int) {m : Nat} (h : d.secs.length = m) : inSecs d n = decide (0 ≤ n ∧ n < (m : Int)) := by
  unfold inSecs
  rw [h]
  exact decide_eq_decide.2 ⟨fun h => ⟨h.1, by omega⟩, fun h => ⟨h.1, by omega⟩⟩

set_option maxHeartbeats 1000000 in
theorem implHasSec_rd (cs : List Value) (d : DevD) (n : Int) (w : World) (h : RdDev w cs d) :
    Calls Tryz.prog 60 #[.agg cs.toArray, .int .i64 n] w fun e w' => e = .returned (.bool (inSecs d n)) ∧ Below w.heap.size w w' := by
  obtain ⟨x0, m0, d0, x1, m1, d1, rfl, r0, r1⟩ := h
  rw [inSecs_is d n (rdByteSS_parts r0).2.1]
  generalize d.fuse = f
  generalize d.down = b
  clear r0 r1
  by_cases h1 : 0 ≤ n
  · by_cases h2 : n < (m0 : Int)
    · rw [decide_eq_true ⟨h1, h2⟩]
      go_enter Tryz.func60, Tryz.ntmps60
      go_wp2
      go_ret
      exact ⟨rfl, below_lit w _⟩
    · rw [decide_eq_false (fun h => h2 h.2)]
      go_enter Tryz.func60, Tryz.ntmps60
      go_wp2
      go_ret
      exact ⟨rfl, below_lit w _⟩
  · rw [decide_eq_false (fun h => h1 h.1)]
    go_enter Tryz.func60, Tryz.ntmps60
    go_wp2
    go_ret
    exact ⟨rfl, below_lit w _⟩

def wrFitsD (d : DevD) (n : Int) (len : Nat) : Bool := inSecs d n && decide (len ≤ 120)
set_option maxHeartbeats 1000000 in
theorem implWrFits_rd (cs : List Value) (d : DevD) (n : Int) (ao : Option Addr) (len cap : Nat) (w : World) (h : RdDev w cs d) :
    Calls Tryz.prog 32 #[.agg cs.toArray, .int .i64 n, .slice ao len cap] w fun e w' => e = .returned (.bool (wrFitsD d n len)) ∧ Below w.heap.size w w' := by
  have HD : Hd (RdDev w cs d) := ⟨h⟩
  obtain ⟨x0, m0, d0, x1, m1, d1, rfl, r0, r1⟩ := h
  obtain ⟨f, hf⟩ : ∃ f, d.fuse = f := ⟨_, rfl⟩
  obtain ⟨b, hb⟩ : ∃ b, d.down = b := ⟨_, rfl⟩
  rw [hf, hb] at HD ⊢
  obtain ⟨I, hI⟩ : ∃ I, inSecs d n = I := ⟨_, rfl⟩
  have HI : Hd (inSecs d n = I) := ⟨hI⟩
  obtain ⟨R, hR⟩ : ∃ R, wrFitsD d n len = R := ⟨_, rfl⟩
  have HR : Hd (R = (I && decide (len ≤ 120))) := ⟨by rw [← hR, ← hI]; rfl⟩
  rw [hR]
  clear r0 r1 hf hb hI hR
  go_enter Tryz.func32, Tryz.ntmps32
  go_wp2_with fail
  refine (implHasSec_rd _ d n _ (rdDev_ok.below HD.out (below_lit w _))).mono ?_
  rintro e w1 ⟨rfl, hB⟩
  rewrite [HI.out]
  have B1 : Hd (Below w.heap.size w w1) := ⟨Below.next (below_lit w _) hB⟩
  clear hB HI
  cases I
  · go_wp2_with fail
    go_ret
    exact ⟨by rw [HR.out]; rfl, B1.out⟩
  · by_cases h2 : len ≤ 120
    · have h3 : (len : Int) ≤ 120 := by omega
      have HF : Hd (R = true) := ⟨by rw [HR.out, decide_eq_true h2]; rfl⟩
      clear h2
      go_wp2_with fail
      go_ret
      exact ⟨by rw [HF.out]; rfl, B1.out⟩
    · have h3 : decide ((len : Int) ≤ 120) = false := decide_eq_false (by omega)
      have HF : Hd (R = false) := ⟨by rw [HR.out, decide_eq_false h2]; rfl⟩
      clear h2
      go_wp2_with fail
      go_ret
      exact ⟨by rw [HF.out]; rfl, B1.out⟩

theorem all_take {α : Type} (p : α → Bool) (ls : List α) (k : Nat) {a : α} (h : ls[k]? = some a) (hp : (ls.take k).all p = true) (ha : p a = true) : (ls.take (k + 1)).all p = true := by
  rw [List.take_add_one, h, Option.toList_some, List.all_append, hp]; simp [ha]
theorem all_not {α : Type} (p : α → Bool) {ls : List α} {k : Nat} {a : α} (h : ls[k]? = some a) (ha : p a = false) : ls.all p = false := by
  rw [List.all_eq_false]
  exact ⟨a, List.mem_of_getElem? h, by simp [ha]⟩
def secOk (s : List UInt8) : Bool := decide (s.length ≤ 120)
theorem devOk_is (d : DevD) {m0 m1 : Nat} (h0 : d.secs.length = m0) (h1 : d.cache.length = m1) : devOk d = (d.secs.all secOk && d.cache.all (wrOk m0) && decide (1 ≤ m0 ∧ m0 ≤ 64) && decide (m1 ≤ 40) && decide (-1 ≤ d.fuse ∧ d.fuse ≤ 1000)) := by
  subst h0 h1; rfl
theorem wrOk_fits (d : DevD) (x : WrD) : wrFitsD d x.n x.b.length = wrOk d.secs.length x := rfl

set_option maxHeartbeats 4000000 in
theorem implDevOk_rd (cs : List Value) (d : DevD) (w : World) (h : RdDev w cs d) :
    Calls Tryz.prog 16 #[.agg cs.toArray] w fun e w' => e = .returned (.bool (devOk d)) ∧ Below w.heap.size w w' := by
  have HD : Hd (RdDev w cs d) := ⟨h⟩
  obtain ⟨x0, m0, d0, x1, m1, d1, rfl, r0, r1⟩ := h
  obtain ⟨f, hf⟩ : ∃ f, d.fuse = f := ⟨_, rfl⟩
  obtain ⟨b, hb⟩ : ∃ b, d.down = b := ⟨_, rfl⟩
  replace r0 := rdByteSS_parts r0
  replace r1 := rdWrS_parts r1
  have hok := devOk_is d r0.2.1 r1.2.1
  rw [hf] at hok HD ⊢
  rw [hb] at HD ⊢
  have hm0 : m0 ≤ 9223372036854775807 := by have := r0.1; unfold maxLen at this; exact this
  have hm1 : m1 ≤ 9223372036854775807 := by have := r1.1; unfold maxLen at this; exact this
  by_cases g1 : (m0 : Int) < 1
  · rw [show devOk d = false from by rw [hok, decide_eq_false (by omega : ¬ (1 ≤ m0 ∧ m0 ≤ 64))]; simp]
    clear r0 r1 hok
    go_enter Tryz.func16, Tryz.ntmps16
    go_wp2
    go_ret
    exact ⟨rfl, below_lit w _⟩
  by_cases g2 : (m0 : Int) > 64
  · rw [show devOk d = false from by rw [hok, decide_eq_false (by omega : ¬ (1 ≤ m0 ∧ m0 ≤ 64))]; simp]
    clear r0 r1 hok
    go_enter Tryz.func16, Tryz.ntmps16
    go_wp2
    go_ret
    exact ⟨rfl, below_lit w _⟩
  by_cases g3 : (m1 : Int) > 40
  · rw [show devOk d = false from by rw [hok, decide_eq_false (by omega : ¬ m1 ≤ 40)]; simp]
    clear r0 r1 hok
    go_enter Tryz.func16, Tryz.ntmps16
    go_wp2
    go_ret
    exact ⟨rfl, below_lit w _⟩
  have hok2 : devOk d = (d.secs.all secOk && d.cache.all (wrOk m0) && decide (-1 ≤ f ∧ f ≤ 1000)) := by
    rw [hok, decide_eq_true (by omega : 1 ≤ m0 ∧ m0 ≤ 64), decide_eq_true (by omega : m1 ≤ 40)]; simp
  obtain ⟨b0, o0, hx0, G0⟩ : ∃ b0 o0, x0 = some ⟨b0, o0, none⟩ ∧ ∀ j a, d.secs[j]? = some a → ∃ c, c.length = 1 ∧ RdB w c a ∧ ∀ i v, c[i]? = some v → w.cell? ⟨b0, o0 + j * 1 + i, none⟩ = some v := by
    rcases r0.2.2 with h | ⟨b0, o0, e, G⟩
    · have := r0.2.1; rw [h] at this; simp at this; omega
    · exact ⟨b0, o0, e, G⟩
  subst hx0
  have HL : Hd (d.secs.length = m0 ∧ d.cache.length = m1) := ⟨r0.2.1, r1.2.1⟩
  have HG0 : Hd (∀ j a, d.secs[j]? = some a → ∃ c, c.length = 1 ∧ RdB w c a ∧ ∀ i v, c[i]? = some v → w.cell? ⟨b0, o0 + j * 1 + i, none⟩ = some v) := ⟨G0⟩
  have HR1 : Hd (d.cache = [] ∨ ∃ b off, x1 = some ⟨b, off, none⟩ ∧ ∀ j a, d.cache[j]? = some a → ∃ c, c.length = 2 ∧ RdWr w c a ∧ ∀ i v, c[i]? = some v → w.cell? ⟨b, off + j * 2 + i, none⟩ = some v) := ⟨r1.2.2⟩
  obtain ⟨R, hR⟩ : ∃ R, devOk d = R := ⟨_, rfl⟩
  rw [hR]
  have HOK : Hd (R = (d.secs.all secOk && d.cache.all (wrOk m0) && decide (-1 ≤ f ∧ f ≤ 1000))) := ⟨by rw [← hR]; exact hok2⟩
  clear r0 r1 hok hok2 G0 hR
  go_enter Tryz.func16, Tryz.ntmps16
  go_wp2_with fail
  generalize hA : Obj.cells #[Value.slice (some ⟨b0, o0, none⟩) m0 d0, Value.slice x1 m1 d1, Value.int IntKind.i64 f, Value.bool b] 36 = A
  have HB : Hd (Below w.heap.size w (w.alloc A)) := ⟨below_lit w A⟩
  have HA : Hd ((w.alloc A).heap[w.heap.size]? = some (.cells #[.slice (some ⟨b0, o0, none⟩) m0 d0, .slice x1 m1 d1, .int .i64 f, .bool b] 36 (0, 0))) := ⟨by rw [hA]; exact heap_alloc_new w A⟩
  clear hA
  generalize w.alloc A = wa at *
  go_loop [26] (fun i => ∃ k : Nat, k ≤ m0 ∧ i = .int .i64 k ∧ Hd ((d.secs.take k).all secOk = true)) (fun i => m0 - (intOf i).toNat)
  case atStart => exact ⟨0, Nat.zero_le _, rfl, ⟨rfl⟩⟩
  case round =>
    obtain ⟨k, hk, rfl, HK⟩ := hrel
    by_cases hlt : k < m0
    · have hlt' : (k : Int) < (m0 : Int) := by omega
      have h0 : (0 : Int) ≤ (k : Int) := by omega
      obtain ⟨a, ha⟩ := get_some (l := d.secs) (j := k) (by rw [HL.out.1]; exact hlt)
      obtain ⟨c, hcn, hR, hcell⟩ := HG0.out k a ha
      obtain ⟨y0, n0, e0, rfl, hm, hr⟩ := hR
      have t0 := hcell 0 _ rfl
      rw [← HB.out.cell (p := ⟨b0, o0 + k * 1 + 0, none⟩) (World.block_lt_of_cell? w _ t0)] at t0
      simp only [Nat.mul_one, Nat.add_zero] at t0
      by_cases hs : n0 ≤ 120
      · have hs' : ¬ (n0 : Int) > 120 := by omega
        have HK1 : Hd ((d.secs.take (k + 1)).all secOk = true) := ⟨all_take secOk _ k ha HK.out (decide_eq_true (by rw [hr.1]; exact hs))⟩
        clear hcell hcn ha hm hr HK
        go_wp2
        go_round
        case rel => exact ⟨k + 1, by omega, by go_num, HK1⟩
        case measure => simp [intOf]; omega
      · have hs' : (n0 : Int) > 120 := by omega
        have HF : Hd (R = false) := ⟨by rw [HOK.out, all_not secOk ha (decide_eq_false (by rw [hr.1]; exact hs))]; rfl⟩
        clear hcell hcn ha hm hr HK
        go_wp2
        go_ret
        exact ⟨by rw [HF.out]; rfl, HB.out⟩
    · have HK1 : Hd (d.secs.all secOk = true) := ⟨by have h7 := HK.out; rw [List.take_of_length_le (by have := HL.out.1; omega)] at h7; exact h7⟩
      have c1 := cellsA HA.out 1 rfl
      clear HK
      go_wp2_with fail
      rcases HR1.out with h | ⟨b1, o1, hx1, G1⟩
      · have hm : m1 = 0 := by have := HL.out.2; rw [h] at this; exact this.symm
        have HF : Hd (R = decide (-1 ≤ f ∧ f ≤ 1000)) := ⟨by rw [HOK.out, HK1.out, h]; rfl⟩
        clear HL HR1 h HK1
        subst hm
        have c2 := cellsA HA.out 2 rfl
        refine wp_loop_rounds 1 ?_
        rewrite [rounds_succ]
        by_cases q1 : -1 ≤ f
        · have q1' : decide (f ≥ -1) = true := decide_eq_true q1
          by_cases q2 : f ≤ 1000
          · have q2' : decide (f ≤ 1000) = true := decide_eq_true q2
            have HF2 : Hd (R = true) := ⟨by rw [HF.out, decide_eq_true ⟨q1, q2⟩]⟩
            clear q1 HF
            go_wp2_with fail
            go_ret
            exact ⟨by rw [HF2.out]; rfl, HB.out⟩
          · have q2' : decide (f ≤ 1000) = false := decide_eq_false q2
            have HF2 : Hd (R = false) := ⟨by rw [HF.out, decide_eq_false (fun h => q2 h.2)]⟩
            clear q1 HF
            go_wp2_with fail
            go_ret
            exact ⟨by rw [HF2.out]; rfl, HB.out⟩
        · have q1' : decide (f ≥ -1) = false := decide_eq_false q1
          have HF2 : Hd (R = false) := ⟨by rw [HF.out, decide_eq_false (fun h => q1 h.1)]⟩
          clear q1 HF
          go_wp2_with fail
          go_ret
          exact ⟨by rw [HF2.out]; rfl, HB.out⟩
      · subst hx1
        have HG1 : Hd (∀ j a, d.cache[j]? = some a → ∃ c, c.length = 2 ∧ RdWr w c a ∧ ∀ i v, c[i]? = some v → w.cell? ⟨b1, o1 + j * 2 + i, none⟩ = some v) := ⟨G1⟩
        have HB2 : Hd (Below w.heap.size w wa ∧ wa.heap[w.heap.size]? = some (.cells #[.slice (some ⟨b0, o0, none⟩) m0 d0, .slice (some ⟨b1, o1, none⟩) m1 d1, .int .i64 f, .bool b] 36 (0, 0))) := ⟨HB.out, HA.out⟩
        clear G1 HR1 c1 HB HA
        go_loopw [37] (fun i wr => ∃ k : Nat, k ≤ m1 ∧ i = .int .i64 k ∧ Hd ((d.cache.take k).all (wrOk m0) = true) ∧ Hd (Below w.heap.size w wr ∧ wr.heap[w.heap.size]? = some (.cells #[.slice (some ⟨b0, o0, none⟩) m0 d0, .slice (some ⟨b1, o1, none⟩) m1 d1, .int .i64 f, .bool b] 36 (0, 0)))) (fun i _ => m1 - (intOf i).toNat)
        case atStart => exact ⟨0, Nat.zero_le _, rfl, ⟨rfl⟩, HB2⟩
        case round =>
          obtain ⟨k, hk, rfl, HK, HW⟩ := hrel
          clear HB2
          by_cases hlt : k < m1
          · have hlt' : (k : Int) < (m1 : Int) := by omega
            have h0 : (0 : Int) ≤ (k : Int) := by omega
            obtain ⟨a, ha⟩ := get_some (l := d.cache) (j := k) (by rw [HL.out.2]; exact hlt)
            obtain ⟨c, hcn, hR, hcell⟩ := HG1.out k a ha
            obtain ⟨y1, n1, e1, rfl, hr⟩ := hR
            have t0 := cell_below (hcell 0 _ rfl) HW.out.1
            have t1 := cell_below (hcell 1 _ rfl) HW.out.1
            simp only [Nat.add_zero] at t0
            have HX : Hd (a.b.length = n1) := ⟨(rdB_parts hr).2.1⟩
            obtain ⟨nn, hnn⟩ : ∃ nn, a.n = nn := ⟨_, rfl⟩
            rw [hnn] at t0
            have HNN : Hd (a.n = nn) := ⟨hnn⟩
            have HAA : Hd (d.cache[k]? = some a) := ⟨ha⟩
            clear hcell hcn ha hr hnn
            have hlt2 : w.heap.size < wr.heap.size := lt_of_block HW.out.2
            have HQW : Hd ((wr.alloc (Obj.cells #[Value.int IntKind.i64 nn, Value.slice y1 n1 e1] 62)).heap[w.heap.size]? = some (.cells #[.slice (some ⟨b0, o0, none⟩) m0 d0, .slice (some ⟨b1, o1, none⟩) m1 d1, .int .i64 f, .bool b] 36 (0, 0))) := ⟨(alloc_old wr _ hlt2).trans HW.out.2⟩
            have c0 := cellsA HQW.out 0 rfl
            have c1 := cellsA HQW.out 1 rfl
            have c2 := cellsA HQW.out 2 rfl
            have c3 := cellsA HQW.out 3 rfl
            clear hlt2
            go_wp2_with fail
            have hlt2 : w.heap.size < wr.heap.size := lt_of_block HW.out.2
            generalize hQ : Obj.cells #[Value.int IntKind.i64 nn, Value.slice y1 n1 e1] 62 = Q
            refine (implWrFits_rd _ d nn y1 n1 e1 _ (rdDev_ok.below HD.out (Below.next HW.out.1 (below_lit wr Q)))).mono ?_
            rintro e w1 ⟨rfl, hB⟩
            have HW1 : Hd (Below w.heap.size w w1 ∧ w1.heap[w.heap.size]? = some (.cells #[.slice (some ⟨b0, o0, none⟩) m0 d0, .slice (some ⟨b1, o1, none⟩) m1 d1, .int .i64 f, .bool b] 36 (0, 0))) :=
              ⟨Below.next (Below.next HW.out.1 (below_lit wr Q)) hB, (hB.block _ (by simp; omega)).trans ((alloc_old wr Q hlt2).trans HW.out.2)⟩
            obtain ⟨V, hV⟩ : ∃ V, wrFitsD d nn n1 = V := ⟨_, rfl⟩
            rewrite [hV]
            have HV : Hd (wrOk m0 a = V) := ⟨by rw [← hV, ← HX.out, ← HNN.out, ← HL.out.1]; exact (wrOk_fits d a).symm⟩
            clear hB c0 c1 c2 c3 t0 t1 HW HQW hQ hV hlt2
            cases V
            · have HF : Hd (R = false) := ⟨by rw [HOK.out, all_not (wrOk m0) HAA.out HV.out]; simp⟩
              go_wp2_with fail
              go_ret
              exact ⟨by rw [HF.out]; rfl, HW1.out.1⟩
            · have HK2 : Hd ((d.cache.take (k + 1)).all (wrOk m0) = true) := ⟨all_take (wrOk m0) _ k HAA.out HK.out HV.out⟩
              clear HK HV HAA HX HNN
              go_wp2_with fail
              go_roundw
              case rel => exact ⟨k + 1, by omega, by go_num, HK2, HW1⟩
              case measure => simp [intOf]; omega
          · have HF : Hd (R = decide (-1 ≤ f ∧ f ≤ 1000)) := ⟨by
              have h7 := HK.out
              rw [List.take_of_length_le (by have := HL.out.2; omega)] at h7
              rw [HOK.out, HK1.out, h7]; rfl⟩
            have c2 := cellsA HW.out.2 2 rfl
            clear HK
            by_cases q1 : -1 ≤ f
            · have q1' : decide (f ≥ -1) = true := decide_eq_true q1
              by_cases q2 : f ≤ 1000
              · have q2' : decide (f ≤ 1000) = true := decide_eq_true q2
                have HF2 : Hd (R = true) := ⟨by rw [HF.out, decide_eq_true ⟨q1, q2⟩]⟩
                clear q1 HF
                go_wp2_with fail
                go_ret
                exact ⟨by rw [HF2.out]; rfl, HW.out.1⟩
              · have q2' : decide (f ≤ 1000) = false := decide_eq_false q2
                have HF2 : Hd (R = false) := ⟨by rw [HF.out, decide_eq_false (fun h => q2 h.2)]⟩
                clear q1 HF
                go_wp2_with fail
                go_ret
                exact ⟨by rw [HF2.out]; rfl, HW.out.1⟩
            · have q1' : decide (f ≥ -1) = false := decide_eq_false q1
              have HF2 : Hd (R = false) := ⟨by rw [HF.out, decide_eq_false (fun h => q1 h.1)]⟩
              clear q1 HF
              go_wp2_with fail
              go_ret
              exact ⟨by rw [HF2.out]; rfl, HW.out.1⟩

end Go.Proofs.YtlididoalekeoaaGreatDoor
/- Lists whose row is new, and whose elements are an older world's. -/
namespace Go.Proofs.YtlididoalekeoaaGreatDoor
set_option maxRecDepth 4000
open Go.RowKit

def RdOn {α : Type} (R : Rd α) (wB : World) : Rd α := fun _ cs a => R wB cs a
def OwOn {α : Type} (R : Rd α) (wB : World) : Ow α := fun _ cs F a => (∀ x, ¬ F x) ∧ R wB cs a
theorem rdOn_ok {α : Type} {n : Nat} {R : Rd α} (ok : RdOk n R) (wB : World) : RdOk n (RdOn R wB) := ⟨fun h => ok.len h, fun h _ => h⟩
theorem owOn_ok {α : Type} {n : Nat} {R : Rd α} (ok : RdOk n R) (wB : World) : OwOk n (OwOn R wB) (RdOn R wB) where
  len := fun h => ok.len h.2
  lt := fun h x hx => (h.1 x hx).elim
  keep := fun h _ => h
  rd := fun h => h.2
theorem rdOn_to {α : Type} {n : Nat} {R : Rd α} (ok : RdOk n R) {wB w : World} {cs : List Value} {ls : List α} (hb : Below wB.heap.size wB w) (h : RdS n (RdOn R wB) w cs ls) : RdS n R w cs ls := by
  obtain ⟨ao, len, cap, e, hm, hl, h2⟩ := h
  refine ⟨ao, len, cap, e, hm, hl, h2.imp id ?_⟩
  rintro ⟨b, off, e, hc⟩
  exact ⟨b, off, e, fun j a ha => by
    obtain ⟨c, hn, hR, hcell⟩ := hc j a ha
    exact ⟨c, hn, ok.below hR hb, hcell⟩⟩
/-- One element, in a block of its own. -/
theorem owS_one {α : Type} {n : Nat} {T : TypeId} {R : Rd α} {wB w : World} {g : Nat} {c : List Value} {a : α} (hg : w.heap[g]? = some (.cells c.toArray T (0, 0))) (hn : c.length = n) (hR : R wB c a) :
    OwS n T (OwOn R wB) w [.slice (some ⟨g, 0, none⟩) 1 1] (fun x => x = g) [a] :=
  ⟨_, [c], fun _ _ => False, rfl, {
    own := ⟨by simp [hn], .inr ⟨g, 1, c.toArray, rfl, Nat.zero_le _, hg, Nat.le_refl _, by unfold maxLen; omega, by simp [hn], by rw [← hn]; simp⟩⟩
    size := rfl
    lens := fun c' hc => by simp at hc; rw [hc, hn]
    lt := fun x hx => by rw [hx]; exact block_lt hg
    blk := fun x hx => by simp [Value.ownBlock] at hx; exact hx.symm
    sub := fun _ _ _ h => h.elim
    apart := fun _ _ _ _ _ _ h => h.elim
    els := fun j c' a' hc ha => by
      rcases j with _ | j
      · simp at hc ha
        subst hc ha
        exact ⟨fun _ h => h, hR⟩
      · simp at hc }⟩
/-- An element more: what a loop that appends carries. -/
theorem grown_on {α : Type} {n : Nat} {T : TypeId} {R : Rd α} {wB w X Y : World} {ao ao' : Option Addr} {m c m' c' L N : Nat} {F F' : Fp} {ls ls' : List α} (hO : OwS n T (OwOn R wB) X [.slice ao m c] F ls) (hF : ∀ x, F x → L ≤ x) (hB : Below w.heap.size w X) (hL : w.heap.size ≤ L)
    (hOw : OwS n T (OwOn R wB) Y [.slice ao' m' c'] F' ls') (hF' : ∀ x, F' x → F x ∨ N ≤ x) (hX : L ≤ N) (hgrow : X.grownBy Y (Value.slice ao m c).ownBlock) {q : Nat} {o : Obj} (hq : q < L) (hbox : X.heap[q]? = some o) :
    OwS n T (OwOn R wB) Y [.slice ao' m' c'] F' ls' ∧ (∀ x, F' x → L ≤ x) ∧ Below w.heap.size w Y ∧ Y.heap[q]? = some o := by
  have hown : ∀ b, (Value.slice ao m c).ownBlock = some b → L ≤ b := fun b hb => by
    obtain ⟨x3, d3, e, hcase⟩ := owS_slice hO
    simp only [Value.slice.injEq] at e
    rcases hcase with ⟨h1, _⟩ | ⟨g, h1, h2⟩
    · rw [e.1, h1] at hb; cases hb
    · rw [e.1, h1] at hb; simp [Value.ownBlock] at hb; rw [← hb]; exact hF g h2
  refine ⟨hOw, fun x hx => ?_, hB.grown hgrow hB.size (fun b hb => Nat.le_trans hL (hown b hb)), ?_⟩
  · rcases hF' x hx with h | h
    · exact hF x h
    · omega
  · rw [hgrow.block q (block_lt hbox) (fun e => by have := hown q e.symm; omega)]; exact hbox

end Go.Proofs.YtlididoalekeoaaGreatDoor
/- Plain facts on what a node knows: whose mark, whose row. -/
namespace Go.Proofs.YtlididoalekeoaaGreatDoor
set_option maxRecDepth 4000
open Go.RowKit

def zeroMark : MarkD := ⟨0, 0, 0⟩
/-- The first mark of somebody, and whether there is one. -/
def markAt : List MarkD → Int → MarkD × Bool
  | [], _ => (zeroMark, false)
  | m :: r, who => if m.who = who then (m, true) else markAt r who
theorem markAt_nil {ls : List MarkD} {k : Nat} (who : Int) (h : ls.length ≤ k) : markAt (ls.drop k) who = (zeroMark, false) := by
  rw [List.drop_of_length_le h]; rfl
theorem markAt_yes {ls : List MarkD} {k : Nat} {m : MarkD} {who : Int} (h : ls[k]? = some m) (e : m.who = who) : markAt (ls.drop k) who = (m, true) := by
  obtain ⟨hk, hm⟩ := List.getElem?_eq_some_iff.1 h
  rw [List.drop_eq_getElem_cons hk, hm]
  exact if_pos e
theorem markAt_no {ls : List MarkD} {k : Nat} {m : MarkD} {who : Int} (h : ls[k]? = some m) (e : ¬ m.who = who) : markAt (ls.drop k) who = markAt (ls.drop (k + 1)) who := by
  obtain ⟨hk, hm⟩ := List.getElem?_eq_some_iff.1 h
  rw [List.drop_eq_getElem_cons hk, hm]
  exact if_neg e
/-- The place of the row of a key; -1 where there is none. -/
def rowAtF : List RowD → ByteArray → Int → Int
  | [], _, _ => -1
  | r :: s, key, i => if (r.key.toList == key.toList) = true then i else rowAtF s key (i + 1)
def rowAt (ls : List RowD) (key : ByteArray) : Int := rowAtF ls key 0
theorem rowAtF_nil {ls : List RowD} {k : Nat} (key : ByteArray) (i : Int) (h : ls.length ≤ k) : rowAtF (ls.drop k) key i = -1 := by
  rw [List.drop_of_length_le h]; rfl
theorem rowAtF_yes {ls : List RowD} {k : Nat} {r : RowD} {key : ByteArray} (i : Int) (h : ls[k]? = some r) (e : (r.key.toList == key.toList) = true) : rowAtF (ls.drop k) key i = i := by
  obtain ⟨hk, hm⟩ := List.getElem?_eq_some_iff.1 h
  rw [List.drop_eq_getElem_cons hk, hm]
  exact if_pos e
theorem rowAtF_no {ls : List RowD} {k : Nat} {r : RowD} {key : ByteArray} (i : Int) (h : ls[k]? = some r) (e : (r.key.toList == key.toList) = false) : rowAtF (ls.drop k) key i = rowAtF (ls.drop (k + 1)) key (i + 1) := by
  obtain ⟨hk, hm⟩ := List.getElem?_eq_some_iff.1 h
  rw [List.drop_eq_getElem_cons hk, hm]
  exact if_neg (by rw [e]; simp)

end Go.Proofs.YtlididoalekeoaaGreatDoor
/- Bytes as a text. -/
namespace Go.Proofs.YtlididoalekeoaaGreatDoor
set_option maxRecDepth 4000
open Go.RowKit

def strB (b : List UInt8) : ByteArray := ⟨b.toArray⟩

end Go.Proofs.YtlididoalekeoaaGreatDoor
