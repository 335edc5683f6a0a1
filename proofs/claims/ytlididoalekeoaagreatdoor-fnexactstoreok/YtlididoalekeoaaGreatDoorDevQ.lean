/- Plain facts on devices: what is done to one that is right leaves it right; what FnDevs asks. -/
import Derived.Test.YtlididoalekeoaaGreatDoorDevP
namespace Go.Proofs.YtlididoalekeoaaGreatDoor
set_option maxRecDepth 4000
open Go.RowKit

theorem devOk_parts {d : DevD} (h : devOk d = true) : (∀ s ∈ d.secs, s.length ≤ 120) ∧ (∀ x ∈ d.cache, (0 ≤ x.n ∧ x.n ≤ (d.secs.length : Int) - 1) ∧ x.b.length ≤ 120) ∧ (1 ≤ d.secs.length ∧ d.secs.length ≤ 64) ∧ d.cache.length ≤ 40 ∧ -1 ≤ d.fuse ∧ d.fuse ≤ 1000 := by
  simp only [devOk, Bool.and_eq_true, List.all_eq_true, decide_eq_true_eq] at h
  obtain ⟨⟨⟨⟨h1, h2⟩, h3⟩, h4⟩, h5⟩ := h
  refine ⟨h1, fun x hx => ?_, h3, h4, h5⟩
  have := h2 x hx
  simp only [wrOk, Bool.and_eq_true, decide_eq_true_eq] at this
  exact this
theorem devOk_of {d : DevD} (h1 : ∀ s ∈ d.secs, s.length ≤ 120) (h2 : ∀ x ∈ d.cache, (0 ≤ x.n ∧ x.n ≤ (d.secs.length : Int) - 1) ∧ x.b.length ≤ 120) (h3 : 1 ≤ d.secs.length ∧ d.secs.length ≤ 64) (h4 : d.cache.length ≤ 40) (h5 : -1 ≤ d.fuse ∧ d.fuse ≤ 1000) : devOk d = true := by
  simp only [devOk, Bool.and_eq_true, List.all_eq_true, decide_eq_true_eq]
  refine ⟨⟨⟨⟨h1, fun x hx => ?_⟩, h3⟩, h4⟩, h5⟩
  simp only [wrOk, Bool.and_eq_true, decide_eq_true_eq]
  exact h2 x hx
theorem putStep_small {s : List (List UInt8)} {x : WrD} (hs : ∀ t ∈ s, t.length ≤ 120) (hx : x.b.length ≤ 120) : ∀ t ∈ putStep s x, t.length ≤ 120 := by
  intro t ht
  rcases List.mem_or_eq_of_mem_set ht with h | h
  · exact hs t h
  · rw [h]; exact hx
theorem putL_small : ∀ (c : List WrD) {s : List (List UInt8)}, (∀ t ∈ s, t.length ≤ 120) → (∀ x ∈ c, x.b.length ≤ 120) → ∀ t ∈ putL s c, t.length ≤ 120
  | [], _, hs, _ => hs
  | x :: r, s, hs, hc => putL_small r (s := putStep s x) (putStep_small hs (hc x (by simp))) (fun y hy => hc y (by simp [hy]))
theorem keepL_small (keep : Int) : ∀ (c : List WrD) (i : Nat) {s : List (List UInt8)}, (∀ t ∈ s, t.length ≤ 120) → (∀ x ∈ c, x.b.length ≤ 120) → ∀ t ∈ keepL keep i s c, t.length ≤ 120
  | [], _, _, hs, _ => hs
  | x :: r, i, s, hs, hc => by
    unfold keepL
    refine keepL_small keep r (i + 1) ?_ (fun y hy => hc y (by simp [hy]))
    split
    · exact putStep_small hs (hc x (by simp))
    · exact hs
theorem fuse_in {f : Int} (h : -1 ≤ f ∧ f ≤ 1000) : -1 ≤ fuseDown f ∧ fuseDown f ≤ 1000 := by
  unfold fuseDown
  split <;> omega
theorem write_ok {d : DevD} {n : Int} {b : List UInt8} (h : devOk d = true) : devOk (writeD d n b) = true := by
  obtain ⟨h1, h2, h3, h4, h5⟩ := devOk_parts h
  unfold writeD
  by_cases hw : writeOn d n b = false
  · rw [if_pos hw]; exact h
  · rw [if_neg hw]
    have hw' : writeOn d n b = true := by simpa using hw
    simp only [writeOn, inSecs, Bool.and_eq_true, decide_eq_true_eq] at hw'
    obtain ⟨⟨⟨_, hn⟩, hb⟩, hc⟩ := hw'
    split
    · exact devOk_of h1 h2 h3 h4 ⟨by show (-1 : Int) ≤ -1; omega, by show (-1 : Int) ≤ 1000; omega⟩
    · refine devOk_of h1 (fun x hx => ?_) h3 (by show (d.cache ++ [_]).length ≤ 40; rw [List.length_append]; simp; omega) (fuse_in h5)
      rcases List.mem_append.1 hx with hx | hx
      · exact h2 x hx
      · rw [List.mem_singleton.1 hx]; exact ⟨hn, hb⟩
theorem flush_ok {d : DevD} (h : devOk d = true) : devOk (flushD d) = true := by
  obtain ⟨h1, h2, h3, h4, h5⟩ := devOk_parts h
  unfold flushD
  split
  · exact h
  · split
    · exact devOk_of h1 h2 h3 h4 ⟨by show (-1 : Int) ≤ -1; omega, by show (-1 : Int) ≤ 1000; omega⟩
    · exact devOk_of (putL_small d.cache h1 (fun x hx => (h2 x hx).2)) (fun x hx => by cases hx) (by show 1 ≤ (putL _ _).length ∧ (putL _ _).length ≤ 64; rw [putL_len]; exact h3) (by show (0 : Nat) ≤ 40; omega) (fuse_in h5)
theorem fall_ok {d : DevD} {keep : Int} (h : devOk d = true) : devOk (fallD d keep) = true ∧ (fallD d keep).down = false := by
  obtain ⟨h1, h2, h3, h4, h5⟩ := devOk_parts h
  unfold fallD
  rw [if_neg (by rw [h]; simp)]
  exact ⟨devOk_of (keepL_small _ d.cache 0 h1 (fun x hx => (h2 x hx).2)) (fun x hx => by cases hx) (by show 1 ≤ (keepL _ _ _ _).length ∧ (keepL _ _ _ _).length ≤ 64; rw [keepL_len]; exact h3) (by show (0 : Nat) ≤ 40; omega) ⟨by show (-1 : Int) ≤ -1; omega, by show (-1 : Int) ≤ 1000; omega⟩, rfl⟩

/-- A device as it is drawn for FnDevs: right, up, with room, its power stays. -/
structure Fresh (d : DevD) : Prop where
  ok : devOk d = true
  up : d.down = false
  fuse : d.fuse = -1
  room : d.cache.length < 40
theorem fresh_write {d : DevD} {n : Int} {b : List UInt8} (h : Fresh d) (hn : inSecs d n = true) (hb : b.length ≤ 120) : writeD d n b = { d with cache := d.cache ++ [⟨n, b⟩] } := by
  have hw : writeOn d n b = true := by
    unfold writeOn
    rw [h.ok, h.up, hn, decide_eq_true hb, decide_eq_true h.room]
    rfl
  unfold writeD
  rw [if_neg (by rw [hw]; simp), if_neg (by rw [h.fuse]; omega)]
  have e : fuseDown d.fuse = d.fuse := by rw [h.fuse]; rfl
  rw [e]
theorem read_in {d : DevD} {n : Int} (h : devOk d = true) (hn : inSecs d n = true) : readD d n = readL n (secAt d n) d.cache := if_pos (by rw [h, hn]; rfl)
theorem write_read {d : DevD} {n i : Int} {b : List UInt8} (h : Fresh d) (hn : inSecs d n = true) (hb : b.length ≤ 120) (hi : inSecs d i = true) : readD (writeD d n b) i = if n = i then b else readD d i := by
  have ho := write_ok (n := n) (b := b) h.ok
  rw [fresh_write h hn hb] at ho ⊢
  rw [read_in ho hi, read_in h.ok hi]
  exact read_snoc i n _ b d.cache
theorem flush_read {d : DevD} {i : Int} (h : devOk d = true) (hu : d.down = false) (hf : d.fuse = -1) (hi : inSecs d i = true) : readD (flushD d) i = readD d i ∧ (flushD d).cache = [] := by
  obtain ⟨h1, h2, h3, h4, h5⟩ := devOk_parts h
  have ho := flush_ok h
  have e : flushD d = { d with fuse := fuseDown d.fuse, secs := putL d.secs d.cache, cache := [] } := by
    unfold flushD
    rw [if_neg (by rw [h, hu]; simp), if_neg (by rw [hf]; omega)]
  rw [e] at ho ⊢
  have hin : 0 ≤ i ∧ i ≤ (d.secs.length : Int) - 1 := of_decide_eq_true hi
  have hi2 : inSecs { d with fuse := fuseDown d.fuse, secs := putL d.secs d.cache, cache := [] } i = true := by
    show decide (0 ≤ i ∧ i ≤ ((putL d.secs d.cache).length : Int) - 1) = true
    rw [putL_len]; exact hi
  refine ⟨?_, rfl⟩
  rw [read_in ho hi2, read_in h hi]
  have := put_read i.toNat d.cache d.secs (by omega) (fun x hx => (h2 x hx).1.1)
  rw [show ((i.toNat : Nat) : Int) = i from by omega] at this
  exact this
theorem fall_may {d : DevD} {keep i : Int} (h : devOk d = true) (hi : inSecs d i = true) : secAt (fallD d keep) i = secAt d i ∨ ∃ x ∈ d.cache, x.n = i ∧ x.b = secAt (fallD d keep) i := by
  obtain ⟨h1, h2, h3, h4, h5⟩ := devOk_parts h
  have hin : 0 ≤ i ∧ i ≤ (d.secs.length : Int) - 1 := of_decide_eq_true hi
  have e : (fallD d keep).secs = keepL (keepOf keep) 0 d.secs d.cache := by unfold fallD; rw [if_neg (by rw [h]; simp)]
  unfold secAt
  rw [e]
  have := keep_may (keepOf keep) i.toNat d.cache 0 d.secs (by omega) (fun x hx => (h2 x hx).1.1)
  rw [show ((i.toNat : Nat) : Int) = i from by omega] at this
  exact this

end Go.Proofs.YtlididoalekeoaaGreatDoor
