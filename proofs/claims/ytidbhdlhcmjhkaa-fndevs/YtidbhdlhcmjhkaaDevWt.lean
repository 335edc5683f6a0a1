/- What a device weighs behind each operation. -/
import Derived.Test.YtidbhdlhcmjhkaaDevNw
import Derived.Test.YtidbhdlhcmjhkaaDevQ
namespace Go.Proofs.Ytidbhdlhcmjhkaa
set_option maxRecDepth 4000
open Go.RowKit

theorem cuDev_wt (d : DevD) : cuDev d ≤ wtDev d := by
  have h1 := ctS_wtS ctB wtB 1 (fun a => by unfold ctB wtB; omega) d.secs
  have h2 := ctS_wtS ctWr wtWr 1 (fun a => by unfold ctWr wtWr ctB wtB; omega) d.cache
  show ctS ctB d.secs + ctS ctWr d.cache ≤ wtS wtB d.secs + wtS wtWr d.cache
  omega
theorem wt_both {d : DevD} {m : Nat} (h : wtDev d ≤ m) (hm : m ≤ 1073741823) : wtDev d ≤ 1073741824 ∧ 1 + cuDev d ≤ 1073741824 := by
  have := cuDev_wt d
  omega
theorem wtS_snoc {α : Type} (wt : α → Nat) (ls : List α) (a : α) : wtS wt (ls ++ [a]) = wtS wt ls + (wt a + 1) := by
  simp [wtS]; omega
theorem wtS_small (ls : List (List UInt8)) (h : ∀ s ∈ ls, s.length ≤ 120) : wtS wtB ls ≤ 121 * ls.length := by
  induction ls with
  | nil => simp [wtS]
  | cons a r ih =>
    have h1 := h a (by simp)
    have h2 := ih (fun s hs => h s (by simp [hs]))
    simp only [wtS, List.map_cons, List.sum_cons, List.length_cons, wtB] at h2 ⊢
    omega
theorem devNew_wt (n : Int) : wtDev (devNew n) ≤ 1073741824 ∧ 1 + cuDev (devNew n) ≤ 1073741824 := by
  refine wt_both (m := 10000) ?_ (by omega)
  unfold devNew
  by_cases h : inB n 1 64 = true
  · rw [if_pos h]
    rw [inB_is, decide_eq_true_eq] at h
    have h1 := wtS_small (List.replicate n.toNat []) (fun s hs => by rw [(List.mem_replicate.1 hs).2]; simp)
    rw [List.length_replicate] at h1
    show wtS wtB (List.replicate n.toNat []) + wtS wtWr [] ≤ 10000
    have h2 : wtS wtWr [] = 0 := rfl
    omega
  · rw [if_neg h]
    show wtS wtB [] + wtS wtWr [] ≤ 10000
    have h1 : wtS wtB [] = 0 := rfl
    have h2 : wtS wtWr [] = 0 := rfl
    omega
theorem writeD_wt {d : DevD} {b : List UInt8} (n : Int) (h : wtDev d ≤ 1048576) (hb : b.length ≤ 1048576) : wtDev (writeD d n b) ≤ 1073741824 ∧ 1 + cuDev (writeD d n b) ≤ 1073741824 := by
  refine wt_both (m := 2097153) ?_ (by omega)
  unfold writeD
  by_cases h1 : writeOn d n b = false
  · rw [if_pos h1]; omega
  rw [if_neg h1]
  by_cases h2 : d.fuse = 0
  · rw [if_pos h2]
    show wtDev d ≤ 2097153
    omega
  · rw [if_neg h2]
    show wtS wtB d.secs + wtS wtWr (d.cache ++ [⟨n, b⟩]) ≤ 2097153
    have h3 : wtS wtB d.secs + wtS wtWr d.cache ≤ 1048576 := h
    have h4 : wtWr ⟨n, b⟩ = b.length := rfl
    rw [wtS_snoc, h4]
    omega
theorem flushD_wt {d : DevD} (h : wtDev d ≤ 1048576) : wtDev (flushD d) ≤ 1073741824 ∧ 1 + cuDev (flushD d) ≤ 1073741824 := by
  refine wt_both (m := 2097153) ?_ (by omega)
  unfold flushD
  by_cases h1 : (devOk d && !d.down) = false
  · rw [if_pos h1]; omega
  rw [if_neg h1]
  by_cases h2 : d.fuse = 0
  · rw [if_pos h2]
    show wtDev d ≤ 2097153
    omega
  · rw [if_neg h2]
    have hk : devOk d = true := by cases e : devOk d <;> simp [e] at h1 ⊢
    obtain ⟨a1, a2, a3, _⟩ := devOk_parts hk
    show wtS wtB (putL d.secs d.cache) + wtS wtWr [] ≤ 2097153
    have h3 := wtS_small (putL d.secs d.cache) (putL_small d.cache a1 (fun x hx => (a2 x hx).2))
    rw [putL_len] at h3
    have h4 : wtS wtWr [] = 0 := rfl
    omega
theorem fallD_wt {d : DevD} (k : Int) (h : wtDev d ≤ 1048576) : wtDev (fallD d k) ≤ 1073741824 ∧ 1 + cuDev (fallD d k) ≤ 1073741824 := by
  refine wt_both (m := 2097153) ?_ (by omega)
  unfold fallD
  by_cases h1 : devOk d = false
  · rw [if_pos h1]; omega
  · rw [if_neg h1]
    have hk : devOk d = true := by cases e : devOk d <;> simp [e] at h1 ⊢
    obtain ⟨a1, a2, a3, _⟩ := devOk_parts hk
    show wtS wtB (keepL (keepOf k) 0 d.secs d.cache) + wtS wtWr [] ≤ 2097153
    have h3 := wtS_small (keepL (keepOf k) 0 d.secs d.cache) (keepL_small (keepOf k) d.cache 0 a1 (fun x hx => (a2 x hx).2))
    rw [keepL_len] at h3
    have h4 : wtS wtWr [] = 0 := rfl
    omega
theorem readL_small (n : Int) : ∀ (c : List WrD) {s : List UInt8}, s.length ≤ 120 → (∀ x ∈ c, x.b.length ≤ 120) → (readL n s c).length ≤ 120
  | [], _, hs, _ => hs
  | x :: r, s, hs, hc => by
    show (readL n (readStep n s x) r).length ≤ 120
    refine readL_small n r ?_ (fun y hy => hc y (by simp [hy]))
    unfold readStep
    split
    · exact hc x (by simp)
    · exact hs
theorem readD_wt {d : DevD} (n : Int) : wtB (readD d n) ≤ 1073741824 ∧ 1 + ctB (readD d n) ≤ 1073741824 := by
  have h : (readD d n).length ≤ 120 := by
    unfold readD
    by_cases h1 : (devOk d && inSecs d n) = true
    · rw [if_pos h1]
      simp only [Bool.and_eq_true] at h1
      obtain ⟨a1, a2, _⟩ := devOk_parts h1.1
      refine readL_small n _ ?_ (fun x hx => (a2 x hx).2)
      unfold secAt
      by_cases hl : n.toNat < d.secs.length
      · rw [show d.secs.getD n.toNat [] = d.secs[n.toNat] by simp [List.getD, hl]]; exact a1 _ (List.getElem_mem hl)
      · rw [show d.secs.getD n.toNat [] = [] by simp [List.getD, List.getElem?_eq_none (Nat.le_of_not_lt hl)]]; simp
    · rw [if_neg h1]; simp
  unfold wtB ctB
  omega

theorem specDevNew_rd (n : Int) (w : World) : Calls Try.prog 26 #[.int .i64 n] w (AnsR RdDev (devNew n) w) := (specDevNew_ow n w).mono (fun _ _ h => h.toR owDev_ok)

end Go.Proofs.Ytidbhdlhcmjhkaa
