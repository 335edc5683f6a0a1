/- Plain facts: signs below 128 are the same bytes in all sets. -/
import Derived.Test.YtejlellhoamjgaaDoorCodeA
import Derived.Test.YtejlellhoamjgaaDoorDet
namespace Go.Proofs.YtejlellhoamjgaaDoor
open Go.RowKit

/-- Bytes below 128 alone. -/
def Low (bs : List UInt8) : Prop := ∀ x ∈ bs, x.toNat < 128
theorem low_nil : Low [] := fun x hx => by cases hx
theorem Low.snoc {bs : List UInt8} {x : Nat} (h : Low bs) (hx : x < 128) : Low (bs ++ [UInt8.ofNat x]) := fun y hy => by
  rcases List.mem_append.1 hy with hy | hy
  · exact h y hy
  · obtain rfl := List.mem_singleton.1 hy
    rw [UInt8.toNat_ofNat']; omega

theorem put_low {cs : Int} (hc : 0 ≤ cs ∧ cs ≤ 5) {n : Nat} (hn : n < 128) : putOk cs (n : Int) = true ∧ putB cs (n : Int) = [bt n] := by
  unfold putOk putB
  by_cases h0 : cs = 0
  · rw [if_pos h0, if_pos h0]
    exact ⟨sign_t (.inl ⟨by omega, by omega⟩), signB_one hn⟩
  · rw [if_neg h0, if_neg h0]
    by_cases h5 : cs = 5
    · rw [if_pos h5, if_pos h5]
      exact ⟨(eucB_one hn).2, (eucB_one hn).1⟩
    · rw [if_neg h5, if_neg h5]
      obtain ⟨e1, e2⟩ := bs_low (cs := cs) (b := (n : Int)) (by omega) (by omega) (by omega)
      obtain ⟨e3, e4⟩ := sb_back e2
      rw [e1] at e3 e4
      rw [if_pos e4, e3, Int.toNat_natCast]
      exact ⟨e4, rfl⟩

def numsOf (bs : List UInt8) : List Int := bs.map fun x => (x.toNat : Int)
theorem nums_put {cs : Int} (hc : 0 ≤ cs ∧ cs ≤ 5) : ∀ {bs : List UInt8}, Low bs → (numsOf bs).flatMap (putB cs) = bs
  | [], _ => rfl
  | x :: r, h => by
    have hx := (put_low hc (h x (by simp))).2
    have ih := nums_put hc (bs := r) fun y hy => h y (by simp [hy])
    show (((x.toNat : Nat) : Int) :: numsOf r).flatMap (putB cs) = _
    rw [List.flatMap_cons, ih, hx]
    simp [bt]
theorem nums_ok {cs : Int} (hc : 0 ≤ cs ∧ cs ≤ 5) {bs : List UInt8} (h : Low bs) : ∀ n ∈ numsOf bs, isSign n ∧ putOk cs n = true := fun n hn => by
  obtain ⟨x, hx, rfl⟩ := List.mem_map.1 hn
  have := h x hx
  exact ⟨.inl ⟨by omega, by omega⟩, (put_low hc this).1⟩

/-- What all the calls answer of such bytes. -/
structure Same (cs : Int) (bs : List UInt8) : Prop where
  dOk : decOk cs bs = true
  dS : decS cs bs = bs
  lS : decLS cs bs = bs
  lN : decLN cs bs = 0
  eOk : encOk cs bs = true
  eS : encS cs bs = bs
theorem same_low {cs : Int} (hc : 0 ≤ cs ∧ cs ≤ 5) {bs : List UInt8} (h : Low bs) : Same cs bs := by
  have hin : inB cs 0 5 = true := decide_eq_true hc
  have it := items_put hc (numsOf bs) (nums_ok hc h)
  rw [nums_put hc h] at it
  have hl : lostI (itemsOf cs bs) = 0 := by rw [it, lostI_map]
  have sg : Signed bs (numsOf bs) := ⟨fun n hn => (nums_ok hc h n hn).1, by rw [← put_utf]; exact nums_put (by omega) h⟩
  have dok : decOk cs bs = true := by simp only [decOk, Bool.and_eq_true, decide_eq_true_eq]; exact ⟨hin, hl⟩
  have ds : decS cs bs = bs := by unfold decS; rw [if_pos dok, it, textI_map, sg.2]
  obtain ⟨e1, e2, _⟩ := dec_enc dok
  rw [ds] at e1 e2
  obtain ⟨l1, l2⟩ := dec_lossy dok
  exact ⟨dok, ds, l2.trans ds, l1, e1, e2⟩
theorem det_low {bs : List UInt8} (h : Low bs) : detN bs = 0 ∧ detOk bs = true := by
  have := det_yes (bs := bs) (by rw [(same_low (cs := 0) (by omega) h).dOk]; simp)
  exact ⟨this.1.symm, this.2.symm⟩

theorem cell_low (x : Nat) (ds : List UInt8) : ds.map cb ++ [.int .u8 ((x : Int) % 128)] = (ds ++ [UInt8.ofNat (x % 128)]).map cb := by
  have : (((UInt8.ofNat (x % 128)).toNat : Nat) : Int) = (x : Int) % 128 := by rw [UInt8.toNat_ofNat']; omega
  rw [List.map_append]
  simp only [List.map_cons, List.map_nil, cb, this]

end Go.Proofs.YtejlellhoamjgaaDoor
