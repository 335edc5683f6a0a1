/- Bytes with their room, in the words of Deep: nil without room, or at the head of a block; what the laws do with them. -/
import Derived.Test.YtfgicjglinmclabDeepB
import Derived.Test.YtfgicjglinmclabCellA
namespace Go.Proofs.Ytfgicjglinmclab
set_option maxRecDepth 4000
open Go.RowKit

def RdC : Rd (List UInt8) := fun w cs bs => ∃ ao n c, cs = [.slice ao n c] ∧ n ≤ maxLen ∧ CellAt w ao n c bs
def OwC : Ow (List UInt8) := fun w cs F bs => ∃ ao n c, cs = [.slice ao n c] ∧ OwB w [.slice ao n c] F bs ∧ n ≤ c ∧ (ao = none → c = 0)
theorem CellAt.same {w w' : World} {ao : Option Addr} {n c : Nat} {bs : List UInt8} (h : CellAt w ao n c bs) (hs : Same w w') : CellAt w' ao n c bs := by
  rcases h with h | ⟨q, h1, h2, h3⟩
  · exact .inl h
  · refine .inr ⟨q, h1, h2, h3.size, lt_of_same (hs q h3.lt) h3.lt, fun j hj => ?_⟩
    rw [World.cell?_of_block (w := w) (a := ⟨q, 0 + j, none⟩) (hs q h3.lt)]; exact h3.cell j hj
theorem rdC_ok : RdOk 1 RdC := ⟨fun ⟨_, _, _, e, _⟩ => by rw [e]; rfl, fun ⟨ao, n, c, e, hm, h⟩ hs => ⟨ao, n, c, e, hm, h.same hs⟩⟩
theorem rdC_w {w : World} {cs : List Value} {bs : List UInt8} (h : RdC w cs bs) : RdB w cs bs := by
  obtain ⟨ao, n, c, e, hm, h⟩ := h
  exact ⟨ao, n, c, e, hm, h.reads⟩
theorem rdC_parts {w : World} {ao : Option Addr} {n c : Nat} {bs : List UInt8} (h : RdC w [.slice ao n c] bs) : n ≤ maxLen ∧ CellAt w ao n c bs := by
  obtain ⟨_, _, _, e, hm, hr⟩ := h
  simp only [List.cons.injEq, Value.slice.injEq, and_true] at e
  obtain ⟨rfl, rfl, rfl⟩ := e
  exact ⟨hm, hr⟩
theorem owC_parts {w : World} {ao : Option Addr} {n c : Nat} {F : Fp} {bs : List UInt8} (h : OwC w [.slice ao n c] F bs) : OwB w [.slice ao n c] F bs ∧ n ≤ c ∧ (ao = none → c = 0) := by
  obtain ⟨_, _, _, e, hm, hr⟩ := h
  simp only [List.cons.injEq, Value.slice.injEq, and_true] at e
  obtain ⟨rfl, rfl, rfl⟩ := e
  exact ⟨hm, hr⟩
theorem owC_ok : OwOk 1 OwC RdC where
  len := fun ⟨_, _, _, e, _⟩ => by rw [e]; rfl
  lt := fun ⟨_, _, _, _, h, _⟩ => h.1
  keep := fun ⟨ao, n, c, e, h, h2⟩ hs => ⟨ao, n, c, e, owB_ok.keep h hs, h2⟩
  rd := fun {w _ _ bs} ⟨ao, n, c, e, h, h2, h3⟩ => by
    obtain ⟨_, hn, hr⟩ := owB_parts h
    refine ⟨ao, n, c, e, (rdB_parts (owB_ok.rd h)).1, ?_⟩
    rcases hr with ⟨rfl, rfl⟩ | ⟨g, rfl, _, hR⟩
    · exact .inl ⟨rfl, hn.symm, h3 rfl, rfl⟩
    · exact .inr ⟨g, rfl, h2, hn, hR.lt, fun j hj => by rw [Nat.zero_add]; exact hR.cell j (by omega)⟩
/-- New memory, or nil. -/
theorem owC_own {w : World} {B n c : Nat} {ao : Option Addr} {bs : List UInt8} (h : OwnO w B ao c bs) (hn : bs.length = n) : New B OwC w [.slice ao n c] bs := by
  rcases h with ⟨rfl, rfl, rfl⟩ | ⟨q, rfl, hb, hO⟩
  · have h0 : n = 0 := by rw [← hn]; rfl
    subst h0
    exact ⟨fun _ => False, ⟨none, 0, 0, rfl, owB_nil w, Nat.le_refl _, fun _ => rfl⟩, fun _ h => h.elim⟩
  · exact ⟨fun x => x = q, ⟨_, _, _, rfl, owB_row hO.row hn, by have := hO.le; omega, fun h => by cases h⟩, fun x hx => by rw [hx]; exact hb⟩
/-- The same, in a footprint that is told. -/
def FpO (ao : Option Addr) : Fp := fun x => ao = some ⟨x, 0, none⟩
theorem owC_fp {w : World} {B n c : Nat} {ao : Option Addr} {bs : List UInt8} (h : OwnO w B ao c bs) (hn : bs.length = n) : OwC w [.slice ao n c] (FpO ao) bs ∧ ∀ x, FpO ao x → B ≤ x := by
  rcases h with ⟨rfl, rfl, rfl⟩ | ⟨q, rfl, hb, hO⟩
  · have h0 : n = 0 := by rw [← hn]; rfl
    subst h0
    exact ⟨⟨none, 0, 0, rfl, ⟨fun x hx => by simp [FpO] at hx, none, 0, 0, rfl, rfl, .inl ⟨rfl, rfl⟩⟩, Nat.le_refl _, fun _ => rfl⟩, fun x hx => by simp [FpO] at hx⟩
  · have e : FpO (some ⟨q, 0, none⟩) = fun x => x = q := by funext x; simp [FpO, eq_comm]
    rw [e]
    exact ⟨⟨_, _, _, rfl, owB_row hO.row hn, by have := hO.le; omega, fun h => by cases h⟩, fun x hx => by rw [hx]; exact hb⟩

theorem toByteS_oc (ao : Option Addr) (len cap : Nat) (bs : List UInt8) (w : World) (h : RdB w [.slice ao len cap] bs) (hw : wtB bs ≤ 1073741824) :
    Calls Try.prog 50 #[.slice ao len cap] w (AnsSl OwC bs w) := by
  obtain ⟨_, hr⟩ := rdB_parts h
  unfold wtB at hw
  refine (toByteS_any ao len cap bs w hr (by rw [← hr.1]; exact hw)).mono ?_
  rintro e w' ⟨rfl, hR, hB⟩
  exact ⟨⟨_, _, _, rfl, fun x => x = w.heap.size, ⟨_, _, _, rfl, owB_row hR hr.1, Nat.le_refl _, fun h => by cases h⟩, fun x hx => by rw [hx]; exact Nat.le_refl _⟩, hB⟩

theorem markByteS_oc (ao : Option Addr) (len cap m : Nat) (bs : List UInt8) (F : Fp) (w : World) (h : OwC w [.slice ao len cap] F bs) (hs : m + ctB bs ≤ 1073741824) :
    Calls Try.prog 29 #[.slice ao len cap, .int .i64 (m : Int)] w (MkOut OwC [.slice ao len cap] F (mkB m bs) (m + ctB bs) w) := by
  obtain ⟨h1, h2, h3⟩ := owC_parts h
  refine (markByteS_ow ao len cap m bs F w h1 hs).mono ?_
  rintro e w' ⟨he, hO, hC⟩
  exact ⟨he, ⟨_, _, _, rfl, hO, h2, h3⟩, hC⟩

end Go.Proofs.Ytfgicjglinmclab
