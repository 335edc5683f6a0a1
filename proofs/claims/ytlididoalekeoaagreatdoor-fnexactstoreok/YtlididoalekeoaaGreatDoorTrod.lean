/- From the reading of a law's argument to the words of Deep: bytes, lists. -/
import Derived.Test.YtlididoalekeoaaGreatDoorDeepA
import Derived.ChangeArms
import Derived.ChangeSlices
import Derived.Lib.SmallJoins
namespace Go.Proofs.YtlididoalekeoaaGreatDoor
set_option maxRecDepth 4000
open Go.RowKit Go.ChangeShapes Go.WideShapes Go.ChangeAt

/-- What the form of the claims reads as a datum of this type, Deep reads. -/
def RdT {α : Type} (t : TypeId) (R : Rd α) : Prop := ∀ {H : Type} (enc : TypeId × Value → H) (W : World) (base : Nat) (sp : Nat → Bool) (held : Bool) (fuel : Nat) (cs : List Value) (x : DataW H × List MemPlace),
  DataW.trod enc Tryz.prog W base sp held fuel t cs = some x → ∃ a, R W cs a

theorem list_choose {α : Type} {p : Nat → α → Prop} : ∀ {n : Nat}, (∀ i, i < n → ∃ a, p i a) → ∃ ls : List α, ls.length = n ∧ ∀ i a, ls[i]? = some a → p i a
  | 0, _ => ⟨[], rfl, fun i a h => by simp at h⟩
  | n + 1, h => by
    obtain ⟨ls, hl, hp⟩ := list_choose (n := n) (fun i hi => h i (by omega))
    obtain ⟨a, ha⟩ := h n (by omega)
    refine ⟨ls ++ [a], by simp [hl], fun i b hb => ?_⟩
    by_cases e : i < n
    · rw [List.getElem?_append_left (by omega)] at hb; exact hp i b hb
    · have hi : i = n := by have := get_lt hb; simp at this; omega
      subst hi
      rw [← hl, List.getElem?_concat_length] at hb
      cases hb
      exact ha
theorem rdB_trod (ht : Tryz.prog.underlying 60 = some (.slice 5)) (h8 : Tryz.prog.underlying 5 = some (.int .u8)) (hc : Tryz.prog.cellsOf 5 = 1) : RdT 60 RdB := by
  intro H enc W base sp held fuel cs x h
  rcases open_ints ht h8 hc h with ⟨rfl, _⟩ | ⟨a, l, c, zs, rfl, _, hl, hm, hz, _, hcell, hwz⟩
  · exact ⟨[], none, 0, 0, rfl, Nat.zero_le _, rfl, .inl rfl⟩
  · have hlz' : l ≤ zs.length := by rw [hz]; split <;> omega
    obtain ⟨bs, hb⟩ := reads_of_row (w := W) (a := some a) (len := l) (cap := l) (zs := zs.take l) (.inr ⟨a, rfl, Nat.le_refl _, by omega, by rw [List.length_take]; omega, fun i hi => by
      have hi2 : i < l := by rw [List.length_take] at hi; omega
      rw [hcell i (by omega)]
      congr 2
      simp [List.getD, hi2], fun n hn => hwz n (List.mem_of_mem_take hn)⟩)
    exact ⟨bs, some a, l, c, rfl, by omega, hb⟩

/-- A list of whatever is read so. -/
theorem rdS_trod {α : Type} {t e : TypeId} {n : Nat} {R : Rd α} (ht : Tryz.prog.underlying t = some (.slice e)) (hc : Tryz.prog.cellsOf e = n) (h0 : 0 < n) (hE : RdT e R) (ok : RdOk n R) : RdT t (RdS n R) := by
  intro H enc W base sp held fuel cs x h
  rcases DataW.trod_slice ht h with ⟨rfl, _⟩ | ⟨a, len, cap, elems, rest, m, _, rfl, _, _, hl, hm, hlen, hel, _, _⟩
  · exact ⟨[], none, 0, 0, rfl, Nat.zero_le _, rfl, .inl rfl⟩
  · rw [hc] at hel
    have hp : ∀ i, i < len → ∃ b, ∃ c, c.length = n ∧ R W c b ∧ ∀ j v, c[j]? = some v → W.cell? ((a.add (i * n)).add j) = some v := fun i hi => by
      obtain ⟨y, hy⟩ := get_some (l := elems) (j := i) (by omega)
      have h1 := hel i hi
      rw [hy] at h1
      obtain ⟨c, h2, h3⟩ := Option.bind_eq_some_iff.1 h1
      obtain ⟨b, hb⟩ := hE enc W base sp held m c y h3
      obtain ⟨_, h4, h5⟩ := World.cells?_some h2
      exact ⟨b, c, ok.len hb, hb, fun j v hv => by rw [h5 j (by rw [← ok.len hb]; exact get_lt hv)]; exact hv⟩
    obtain ⟨ls, hls, hp'⟩ := list_choose hp
    refine ⟨ls, some a, len, cap, rfl, Nat.le_trans hl hm, hls, ?_⟩
    by_cases hz : len = 0
    · exact .inl (List.eq_nil_of_length_eq_zero (by omega))
    · obtain ⟨b0, hb0⟩ := get_some (l := ls) (j := 0) (by omega)
      obtain ⟨c0, hc0, _, hcell0⟩ := hp' 0 b0 hb0
      obtain ⟨v0, hv0⟩ := get_some (l := c0) (j := 0) (by omega)
      have h6 := hcell0 0 v0 hv0
      obtain ⟨blk, off, spot⟩ := a
      have hspot : spot = none := by simpa [Addr.add] using World.cell?_spot h6
      subst hspot
      refine .inr ⟨blk, off, rfl, fun j b hb => ?_⟩
      obtain ⟨c, h1, h2, h3⟩ := hp' j b hb
      exact ⟨c, h1, h2, fun i v hv => by have := h3 i v hv; rw [Addr.add_lit, Addr.add_lit] at this; exact this⟩

end Go.Proofs.YtlididoalekeoaaGreatDoor
