/- Proved: for every slice of bytes, laws.FnSums returns true, that is a byte of drawn ones that is turned turns the sum; no condition. -/
import Derived.Test.YtdaieeonjakdeaaRows
import Derived.WalkKit
import Derived.ProofKit
import Derived.OpenShut
import Derived.ShutString
import Derived.ChangeOld
import Derived.Below
import Derived.Test.YtdaieeonjakdeaaSums
namespace Go.Proofs.Ytdaieeonjakdeaa.fnSums
open Go.ChangeShapes Go.WideShapes Go.ChangeAt Go.RowKit
open Go.ChangeMaps (open_string shut_string)
set_option linter.unusedVariables false

theorem own : ownKnob Try.prog.godebug = none := by kernel_rfl
theorem laidOut : laidOutB Try.prog = true := by kernel_rfl

def IsRow (k : IntKind) (w : World) (a : Option Addr) (len cap : Nat) (zs : List Int) : Prop :=
  (a = none ∧ len = 0 ∧ cap = 0 ∧ zs = []) ∨
  ∃ x, a = some x ∧ len ≤ cap ∧ cap ≤ maxLen ∧ zs.length = cap ∧ (∀ i, i < zs.length → w.cell? (x.add i) = some (.int k (zs.getD i 0))) ∧ ∀ n ∈ zs, (Lit.int k n).wf = true

theorem walk (a0 : Option Addr) (len0 cap0 : Nat) (z0 : List Int) (w : World) (w0 : IsRow .u8 w a0 len0 cap0 z0) :
    Calls Try.prog 4 #[.slice a0 len0 cap0] w fun e w' => e = .returned (.bool true) ∧ Below w.heap.size w w' := by
  obtain ⟨bs, hr⟩ := reads_of_row w0
  have Hr : Hd (Reads w a0 len0 bs) := ⟨hr⟩
  clear hr w0
  obtain ⟨i0, hi, hz0, hz1, hz2⟩ := info_parts info8
  by_cases hb : (1048576 : Int) < (len0 : Int)
  · have hbd : decide ((1048576 : Int) < (len0 : Int)) = true := decide_eq_true hb
    go_enter Try.func4, Try.ntmps4
    go_wp2_with (go_at_call 5; refine (big_any _ _ _ _).mono ?_; rintro e w' ⟨rfl, rfl⟩)
    go_ret
    exact ⟨rfl, Below.refl _ _⟩
  · have hbd : decide ((1048576 : Int) < (len0 : Int)) = false := decide_eq_false hb
    have hl : len0 ≤ 1073741824 := by omega
    go_enter Try.func4, Try.ntmps4
    go_wp2_with fail
    refine (big_any _ _ _ _).mono ?_
    rintro e w' ⟨rfl, hw'⟩
    subst hw'
    go_wp2_with fail
    refine (drawSum_any a0 len0 cap0 bs _ hl Hr.out).mono ?_
    rintro e w1 ⟨q, c, ds, rfl, hds, hq, hO, hB1⟩
    have B1 : Hd (Below w'.heap.size w' w1) := ⟨hB1⟩
    have O1 : Hd (Own w1 q c ds) := ⟨hO⟩
    have R1 : Hd (Reads w1 a0 len0 bs) := ⟨Hr.out.below rfl hB1⟩
    clear hO hB1 Hr
    obtain ⟨L, hL⟩ : ∃ L, ds.length = L := ⟨_, rfl⟩
    have HL : Hd (ds.length = L) := ⟨hL⟩
    rw [hL] at hds ⊢
    clear hL
    go_wp2_with fail
    refine (implSum_any _ L c ds _ (O1.out.row.reads HL.out) (by omega)).mono ?_
    rintro e w2 ⟨rfl, hw2⟩
    subst hw2
    go_wp2_with fail
    refine (specSum_any _ L c ds _ (O1.out.row.reads HL.out) (by omega)).mono ?_
    rintro e w3 ⟨rfl, hw3⟩
    subst hw3
    have s1 : Hd (sumOf ds < 65536) := ⟨sumOf_lt ds⟩
    have n1 : ((sumOf ds : Int) != (sumOf ds : Int)) = false := by simp
    have n2 : decide ((sumOf ds : Int) < 0) = false := decide_eq_false (by omega)
    have n3 : decide ((65535 : Int) < (sumOf ds : Int)) = false := decide_eq_false (by have := s1.out; omega)
    by_cases h0 : L = 0
    · have hds0 : Hd (sumOf ds = 65535) := ⟨by rw [List.eq_nil_of_length_eq_zero (HL.out.trans h0)]; rfl⟩
      have h0' : ((L : Int) == 0) = true := by simp [h0]
      have hq1 : ((sumOf ds : Int) == 65535) = true := by rw [hds0.out]; rfl
      clear h0
      go_wp2_with fail
      go_ret
      exact ⟨rfl, B1.out⟩
    · have h0' : ((L : Int) == 0) = false := by simp; omega
      go_wp2_with (at_builtin; refine wpList_append_own _ rfl (.tmp 29) (.tmp 30) 22 rfl w3.heap.size 5 i0 (.int .u8 0) 1 1 Try.underlying22 hi hz0 hz1 hz2 rfl (by decide) _ 0 [] rfl ?hown ⟨q, 0, none⟩ L c (ds.map cb) rfl ?hl ?hn ?h1 ?h63 ?hby ?hbase ?_)
      case hown => exact World.ownsRow_made w3 #[] 0 (Nat.le_refl _) (by unfold maxLen; omega) rfl
      case hl => simp [HL.out]
      case hn => exact map_cb_cell HL.out (fun j hj => (((Below.refl w3.heap.size w3).alloc (Nat.le_refl _) _).cell (p := ⟨q, 0 + j, none⟩) O1.out.lt).trans (O1.out.cell HL.out j hj))
      case h1 => exact one_cb ds
      case h63 => unfold maxLen; omega
      case hby => omega
      case hbase => simp
      intro v1 w4 hown1 hgr1 hne1
      obtain ⟨g4, c4, hv1, hg4, hO4⟩ := own_row hown1 hne1
      have hB4 : Below w3.heap.size w3 w4 := ((Below.refl _ w3).alloc (Nat.le_refl _) _).grown hgr1 (by simp) (fun k h => by simp [Value.ownBlock] at h; omega)
      have B4 : Hd (Below w'.heap.size w' w4) := ⟨Below.next B1.out hB4⟩
      have R4 : Hd (Reads w4 a0 len0 bs) := ⟨R1.out.below rfl hB4⟩
      have O4 : Hd (Own w4 g4 c4 ds) := ⟨hO4⟩
      have G4 : Hd (w'.heap.size ≤ g4) := ⟨by have := B1.out.size; omega⟩
      rw [hv1]
      clear hown1 hgr1 hne1 hv1 hO4 hB4 R1 B1 O1
      obtain ⟨k, hk⟩ : ∃ k, k = atV bs 2 % L := ⟨_, rfl⟩
      obtain ⟨m, hm⟩ : ∃ m, m = 1 + atV bs 3 % 255 := ⟨_, rfl⟩
      have hkl : k < L := by rw [hk]; exact Nat.mod_lt _ (by omega)
      have hm1 : 0 < m ∧ m < 256 := by omega
      have K : Hd ((atV bs 2 : Int) % (L : Int) = (k : Int)) := ⟨by rw [hk]; simp⟩
      have hcell := O4.out.row.cell k (by rw [HL.out]; exact hkl)
      have hfz := O4.out.row.free k
      have hkI : (k : Int) < (L : Int) := by omega
      have hK : (atV bs 2 : Int) % (L : Int) = (k : Int) := K.out
      have hK2 : ((atV bs 2 : Int)).tmod (L : Int) = (k : Int) := by rw [Int.tmod_eq_emod_of_nonneg (by omega)]; exact K.out
      have hkI0 : (0 : Int) ≤ (k : Int) := by omega
      clear hk
      have hk3 : k < ds.length := by rw [HL.out]; exact hkl
      have hy : Hd ((ds.getD k 0).toNat < 256) := ⟨(ds.getD k 0).toNat_lt⟩
      have hlt : (ds.getD k 0).toNat ^^^ m < 256 := Nat.xor_lt_two_pow (n := 8) (by have := hy.out; omega) (by omega)
      have hV : Hd (bits .xor .u8 ((ds.getD k 0).toNat : Int) (1 + (atV bs 3 : Int) % 255) = ((UInt8.ofNat ((ds.getD k 0).toNat ^^^ m)).toNat : Int)) := ⟨by
        rw [show 1 + (atV bs 3 : Int) % 255 = (m : Int) from by omega, u8_xor_nat _ _ hy.out hm1.2, UInt8.toNat_ofNat', Nat.mod_eq_of_lt hlt]⟩
      have hT : Hd (sumOf (ds.set k (UInt8.ofNat ((ds.getD k 0).toNat ^^^ m))) ≠ sumOf ds) := ⟨by
        refine sumOf_turn ds k hk3 _ ?_
        have e : ds.getD k 0 = ds[k] := by simp [List.getD, List.getElem?_eq_getElem hk3]
        rw [e]
        exact turned_byte _ m hm1.1 hm1.2⟩
      have hS : Hd (∀ E : Int, E = ((UInt8.ofNat ((ds.getD k 0).toNat ^^^ m)).toNat : Int) → Row (w4.setCell ⟨g4, k, none⟩ (.int .u8 E)) g4 (ds.set k (UInt8.ofNat ((ds.getD k 0).toNat ^^^ m)))) := ⟨fun E hE => by
        rw [hE]; exact (O4.out.row.store k _).1⟩
      have hB5 : Hd (∀ v : Value, Below w'.heap.size w' (w4.setCell ⟨g4, k, none⟩ v)) := ⟨fun v => B4.out.setCell (p := ⟨g4, k, none⟩) G4.out v⟩
      clear hlt hm1 hm hk3 K hK O4 B4 G4
      generalize UInt8.ofNat ((ds.getD k 0).toNat ^^^ m) = v at *
      generalize (ds.getD k 0).toNat = y at *
      have hne : ((sumOf (ds.set k v) : Int) != (sumOf ds : Int)) = true := by
        rw [bne_iff_ne]; have := hT.out; omega
      have HLs : Hd ((ds.set k v).length = L) := ⟨by rw [List.length_set]; exact HL.out⟩
      go_wp2_with fail
      go_region_with (first | (go_at_call_of 18 (Value.int IntKind.i64 2); refine (at_two a0 len0 cap0 bs _ hl ?_).mono ?_; exact R4.out; rintro e w5 ⟨rfl, hw5⟩; subst hw5) | (go_at_call_of 18 (Value.int IntKind.i64 3); refine (at_three a0 len0 cap0 bs _ hl ?_).mono ?_; exact R4.out; rintro e w5 ⟨rfl, hw5⟩; subst hw5))
      all_goals
        go_wp2_with fail
        refine (implSum_any (some ⟨g4, 0, none⟩) L c4 (ds.set k v) _ ?_ (by omega)).mono ?_
        · exact (hS.out _ hV.out).reads HLs.out
        rintro e w6 ⟨rfl, hw6⟩
        subst hw6
        go_wp2_with fail
        go_ret
        exact ⟨rfl, (hB5.out _).drew⟩

set_option maxRecDepth 100000 in
theorem lifted (os : Os) (started : os.Started) (H : Type) (enc : TypeId × Value → H) :
    ReturnsInHanded {} Try.checked os 4 .any (Rows.fnSumsSpec.pre6 enc Try.prog Try.f4 Rows.fnSumsRow.domain false) (Rows.fnSumsSpec.post enc Try.prog Try.f4 false true false false) := by
  refine returnsInHanded_of_change (C := Try.checked) own started (by kernel_rfl) Try.func4
    (ChangeSpec.witness6 (enc := enc) (C := Try.checked) false ⟨#[], #[.slice none 0 0], []⟩ 8 (by kernel_rfl) (by kernel_rfl) (by kernel_rfl) (by kernel_rfl)) ?_
  intro W base args ds gs before hval0 hW hcnd _
  have hval : ∀ (j : Nat) t v, Try.f4.params[j]? = some t → args[j]? = some v → Value.okWide Try.prog W .any base t v := hval0
  have hW' := hW
  obtain ⟨p, q, hA0, hV, rfl, hfz, hnd⟩ := hW
  have hA : DataW.TrodAll enc Try.prog W 0 (fun _ => true) true Try.f4.params.toList args.toList ds p := hA0
  rw [Try.params4] at hA hval
  obtain ⟨v0, vs0, d0, ds0, p0, q0, hargs, rfl, rfl, h0, r0⟩ := trodAll_cons hA
  obtain ⟨rfl, rfl, rfl⟩ := trodAll_nil r0
  obtain rfl : args = #[v0] := by cases args; simp_all
  obtain ⟨rfl, rfl⟩ := trodVars_none hV
  obtain ⟨a0, len0, cap0, rfl⟩ := okWide_slice Try.underlying22 (hval 0 22 v0 rfl rfl)
  have k0 := h0
  have lt0 : ∀ x ∈ p0, x.block < W.heap.size := by obtain ⟨m, hm⟩ := k0; exact DataW.trod_lt m _ _ _ hm
  obtain ⟨z0, w0⟩ : ∃ zs, IsRow .u8 W a0 len0 cap0 zs := by
    obtain ⟨fuel, hf⟩ := h0
    rcases open_ints Try.underlying22 Try.underlying5 (by kernel_rfl) hf with ⟨hcs, _⟩ | ⟨x, l, c, zs, hcs, _, hl, hm, hz, _, hcell, hwz⟩
    · simp [Value.cells] at hcs
      obtain ⟨rfl, rfl, rfl⟩ := hcs
      exact ⟨[], .inl ⟨rfl, rfl, rfl, rfl⟩⟩
    · simp [Value.cells] at hcs
      obtain ⟨rfl, rfl, rfl⟩ := hcs
      exact ⟨zs, .inr ⟨_, rfl, hl, hm, by simpa using hz, hcell, hwz⟩⟩
  clear hA0 hval0
  refine (walk a0 len0 cap0 z0 W w0).mono fun e W' ⟨he, bel⟩ => ?_
  subst he
  exact ⟨_, rfl, _, _, _, [], _, [], hW', trodAll_mk1 (shut_bool Try.underlying4 _), (trodAll_cons_mk (Below.trod laidOut (by kernel_rfl) (of_decide_eq_true (by kernel_rfl)) k0 bel lt0) trodAll_mk0), rfl, bel.frame _, fun h => by cases h⟩

theorem over : Rows.fnSumsRow.holds Try.pinned (OpenSpec.ofChange Rows.fnSumsSpec) :=
  OpenClaim.holds_of_wide 4 Try.f4 rfl rfl rfl rfl rfl rfl rfl ⟨rfl, rfl, rfl, rfl, rfl⟩ rfl rfl rfl rfl rfl (by kernel_rfl) Try.func4 (by kernel_rfl)
    (of_decide_eq_true (by kernel_rfl)) (by unfold Func.isWrapper; first | (rw [if_pos (by decide +kernel)]; kernel_rfl) | (rw [if_neg (by decide +kernel)]; exact ⟨rfl, rfl⟩))
    (fun os started H enc _ => lifted os started H enc)

end Go.Proofs.Ytdaieeonjakdeaa.fnSums

namespace Go.Proofs.Ytdaieeonjakdeaa
theorem fnSums_holds : Rows.FnSumsSaid := fnSums.over
#print axioms fnSums_holds
end Go.Proofs.Ytdaieeonjakdeaa
