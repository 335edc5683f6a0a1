/- For every code: of what is drawn of it, what two byte strings say one behind the other is what both say, if both say something; a text twice is written as its bytes twice. -/
import Derived.Test.YtcddjfdmodpnjaaDoorCards
import Derived.Test.YtcddjfdmodpnjaaDoorTie
import Derived.WalkKit
import Derived.ProofKit
import Derived.OpenShut
import Derived.ShutString
import Derived.ChangeOld
import Derived.Below
import Derived.OpenVars
import Derived.Lay
import Derived.MakeChecks
import Derived.SevenTiedAt
import Derived.Stop.Joined
import Derived.Test.YtcddjfdmodpnjaaDoorCodeL
namespace Go.Proofs.YtcddjfdmodpnjaaDoor.fnJoined
open Go.ChangeShapes Go.WideShapes Go.ChangeAt Go.RowKit
open Go.ChangeMaps (open_string shut_string)
set_option linter.unusedVariables false

theorem own : ownKnob Tryd.prog.godebug = none := by kernel_rfl
theorem laidOut : laidOutB Tryd.prog = true := by kernel_rfl

def IsRow (k : IntKind) (w : World) (a : Option Addr) (len cap : Nat) (zs : List Int) : Prop :=
  (a = none ∧ len = 0 ∧ cap = 0 ∧ zs = []) ∨
  ∃ x, a = some x ∧ len ≤ cap ∧ cap ≤ maxLen ∧ zs.length = cap ∧ (∀ i, i < zs.length → w.cell? (x.add i) = some (.int k (zs.getD i 0))) ∧ ∀ n ∈ zs, (Lit.int k n).wf = true

set_option maxRecDepth 20000 in
set_option maxHeartbeats 8000000 in
theorem walk (a0 : Option Addr) (len0 cap0 : Nat) (z0 : List Int) (w : World) (w0 : IsRow .u8 w a0 len0 cap0 z0) (T : Hd (AllAt w)) :
    Calls Tryd.prog 5 #[.slice a0 len0 cap0] w fun e w' => e = .returned (.bool true) ∧ Below w.heap.size w w' := by
  obtain ⟨i0, hi, hz0, hz1, hz2⟩ := info_parts info8
  obtain ⟨bs, hr⟩ := reads_of_row w0
  have K0 : Hd (CStays w a0 len0 bs w) := ⟨CStays.start T.out hr⟩
  clear hr w0 T
  by_cases hb : (1048576 : Int) < (len0 : Int)
  · have hbd : decide ((1048576 : Int) < (len0 : Int)) = true := decide_eq_true hb
    go_enter Tryd.func5, Tryd.ntmps5
    go_wp2_with (go_at_call 9; refine (big_any _ _ _ _).mono ?_; rintro e w' ⟨rfl, rfl⟩)
    go_ret
    exact ⟨rfl, Below.refl _ _⟩
  · have hbd : decide ((1048576 : Int) < (len0 : Int)) = false := decide_eq_false hb
    have hl : len0 ≤ 1073741824 := by omega
    go_enter Tryd.func5, Tryd.ntmps5
    go_wp2_with fail
    refine (big_any _ _ _ _).mono ?_
    rintro e w' ⟨rfl, hw'⟩
    replace hw' := hw'.symm
    subst hw'
    go_wp2_with fail
    refine (drawDecode_any a0 len0 cap0 bs _ hl K0.out.reads).mono ?_
    rintro e w1 ⟨cs, q1, m1, c1, xs, rfl, d1, d2, d3, d4, d5⟩
    have K1 : Hd (CStays w a0 len0 bs w1) := ⟨K0.out.next d5⟩
    have hc1 : m1 ≤ c1 := by have := d4.le; omega
    have E1 : Hd (Lies w1 q1 m1 xs) := ⟨d4.lies d1⟩
    have M1 : m1 ≤ 81 := d2
    clear d1 d2 d3 d4 d5 K0
    go_wp2_with fail
    refine (drawDecodeLossy_any a0 len0 cap0 bs _ hl K1.out.reads).mono ?_
    rintro e w2 ⟨z2, q2, m2, c2, ys, rfl, d1, d2, d3, d4, d5⟩
    have K2 : Hd (CStays w a0 len0 bs w2) := ⟨K1.out.next d5⟩
    have hc2 : m2 ≤ c2 := by have := d4.le; omega
    have E2 : Hd (Lies w2 q1 m1 xs) := ⟨E1.out.below d5⟩
    have F2 : Hd (Lies w2 q2 m2 ys) := ⟨d4.lies d1⟩
    have M2 : m2 ≤ 81 := d2
    clear d1 d2 d3 d4 d5 K1 E1
    obtain ⟨S, hS⟩ : ∃ S : ByteArray, (⟨(decS cs xs).toArray⟩ : ByteArray) = S := ⟨_, rfl⟩
    have HS : Hd ((⟨(decS cs xs).toArray⟩ : ByteArray) = S) := ⟨hS⟩
    obtain ⟨ok, hok⟩ : ∃ ok, decOk cs xs = ok := ⟨_, rfl⟩
    have HK : Hd (decOk cs xs = ok) := ⟨hok⟩
    obtain ⟨R, hR⟩ : ∃ R : ByteArray, (⟨(decS cs ys).toArray⟩ : ByteArray) = R := ⟨_, rfl⟩
    have HR : Hd ((⟨(decS cs ys).toArray⟩ : ByteArray) = R) := ⟨hR⟩
    obtain ⟨is, his⟩ : ∃ is, decOk cs ys = is := ⟨_, rfl⟩
    have HI : Hd (decOk cs ys = is) := ⟨his⟩
    obtain ⟨U, hU⟩ : ∃ U : ByteArray, (⟨(decS cs (xs ++ ys)).toArray⟩ : ByteArray) = U := ⟨_, rfl⟩
    have HU : Hd ((⟨(decS cs (xs ++ ys)).toArray⟩ : ByteArray) = U) := ⟨hU⟩
    obtain ⟨both, hboth⟩ : ∃ both, decOk cs (xs ++ ys) = both := ⟨_, rfl⟩
    have HO : Hd (decOk cs (xs ++ ys) = both) := ⟨hboth⟩
    have P1 : Hd (ok = true → is = true → both = true ∧ U = S ++ R) := ⟨fun h k => by
      have := dec_joined (hok.trans h) (his.trans k)
      refine ⟨hboth.symm.trans this.1, ?_⟩
      rw [← hU, ← hS, ← hR, this.2]
      exact (app_bytes _ _).symm⟩
    have ZS : S.size ≤ 324 := by rw [← hS, size_of]; have := decS_len cs xs; have := E2.out.size; omega
    have ZR : R.size ≤ 324 := by rw [← hR, size_of]; have := decS_len cs ys; have := F2.out.size; omega
    clear hS hok hR his hU hboth
    go_wp2_with fail
    refine (implDecode_any cs q1 0 m1 c1 xs _ E2.out.size hc1 E2.out.cell (by omega) ⟨K2.out.tabs⟩).mono ?_
    rintro e w3 ⟨rfl, hB3⟩
    rewrite [HS.out, HK.out]
    have K3 : Hd (CStays w a0 len0 bs w3) := ⟨K2.out.next hB3⟩
    have E3 : Hd (Lies w3 q1 m1 xs) := ⟨E2.out.below hB3⟩
    have F3 : Hd (Lies w3 q2 m2 ys) := ⟨F2.out.below hB3⟩
    clear hB3 K2 E2 F2
    go_wp2_with fail
    refine (implDecode_any cs q2 0 m2 c2 ys _ F3.out.size hc2 F3.out.cell (by omega) ⟨K3.out.tabs⟩).mono ?_
    rintro e w4 ⟨rfl, hB4⟩
    rewrite [HR.out, HI.out]
    have K4 : Hd (CStays w a0 len0 bs w4) := ⟨K3.out.next hB4⟩
    have E4 : Hd (Lies w4 q1 m1 xs) := ⟨E3.out.below hB4⟩
    have F4 : Hd (Lies w4 q2 m2 ys) := ⟨F3.out.below hB4⟩
    clear hB4 K3 E3 F3 HI HR
    go_wp2_with (at_builtin; refine wpList_append_own _ rfl (.tmp 49) (.tmp 50) 22 rfl w4.heap.size 5 i0 (.int .u8 0) 1 1 Tryd.underlying22 hi hz0 hz1 hz2 rfl (by decide) _ 0 [] rfl ?hown ⟨q1, 0, none⟩ m1 c1 (xs.map cb) rfl ?hl ?hn ?h1 ?h63 ?hby ?hbase ?_)
    case hown => exact World.ownsRow_made w4 #[] 0 (Nat.le_refl _) (by unfold maxLen; omega) rfl
    case hl => simpa using E4.out.size
    case hn => exact map_cb_cell E4.out.size (fun j hj => cell_below (E4.out.cell j hj) (below_lit _ _))
    case h1 => exact one_cb xs
    case h63 => unfold maxLen; omega
    case hby => omega
    case hbase => simp
    intro v5 w5 hown5 hgr5 hne5
    obtain ⟨g5, c5, hv5, hg5, hR5⟩ := own_row hown5 hne5
    have B45 : Below w4.heap.size w4 w5 := ((Below.refl _ w4).alloc (Nat.le_refl _) _).grown hgr5 (by simp) (fun k h => by simp [Value.ownBlock] at h; omega)
    have K5 : Hd (CStays w a0 len0 bs w5) := ⟨K4.out.next B45⟩
    have E5 : Hd (Lies w5 q1 m1 xs) := ⟨E4.out.below B45⟩
    have F5 : Hd (Lies w5 q2 m2 ys) := ⟨F4.out.below B45⟩
    have hown6 : Hd (w5.ownsRow w4.heap.size 5 1 (.slice (some ⟨g5, 0, none⟩) m1 c5) m1 (xs.map cb)) := ⟨hR5.owns E4.out.size hg5⟩
    have G5 : Hd (w4.heap.size ≤ g5 ∧ w4.heap.size ≤ w5.heap.size) := ⟨hg5, B45.size⟩
    have O5 : Hd (Below w4.heap.size w4 w5) := ⟨B45⟩
    rw [hv5]
    clear hown5 hgr5 hne5 hv5 hg5 hR5 B45
    go_wp2_with (at_builtin; refine wpList_append_own _ rfl (.tmp 51) (.tmp 52) 22 rfl w4.heap.size 5 i0 (.int .u8 0) 1 1 Tryd.underlying22 hi hz0 hz1 hz2 rfl (by decide) _ m1 (xs.map cb) rfl ?hown ⟨q2, 0, none⟩ m2 c2 (ys.map cb) rfl ?hl ?hn ?h1 ?h63 ?hby ?hbase ?_)
    case hown => exact hown6.out
    case hl => simpa using F5.out.size
    case hn => exact map_cb_cell F5.out.size F5.out.cell
    case h1 => exact one_cb ys
    case h63 => unfold maxLen; omega
    case hby => omega
    case hbase => exact G5.out.2
    intro v6 w6 hown7 hgr7 hne7
    rw [← List.map_append] at hown7
    obtain ⟨g6, c6, hv6, hg6, hR6⟩ := own_row hown7 (by intro h; have := hne7 h; simp at this)
    have B46 : Below w4.heap.size w4 w6 := O5.out.grown hgr7 O5.out.size (fun k h => by simp [Value.ownBlock] at h; have := G5.out.1; omega)
    have K6 : Hd (CStays w a0 len0 bs w6) := ⟨K4.out.next B46⟩
    have E6 : Hd (Lies w6 q1 m1 xs) := ⟨E4.out.below B46⟩
    have hxy : (xs ++ ys).length = m1 + m2 := by rw [List.length_append, E4.out.size, F4.out.size]
    have X6 : Hd (Lies w6 g6 (m1 + m2) (xs ++ ys)) := ⟨hR6.lies hxy⟩
    have hc6 : m1 + m2 ≤ c6 := by have := hR6.le; omega
    rw [hv6]
    clear hown7 hgr7 hne7 hv6 hg6 hR6 B46 hxy hown6 G5 O5 K5 E5 F5 K4 E4 F4
    go_wp2_with fail
    refine (implDecode_any cs g6 0 (m1 + m2) c6 (xs ++ ys) _ X6.out.size hc6 X6.out.cell (by omega) ⟨K6.out.tabs⟩).mono ?_
    rintro e w7 ⟨rfl, hB7⟩
    rewrite [HU.out, HO.out]
    have K7 : Hd (CStays w a0 len0 bs w7) := ⟨K6.out.next hB7⟩
    have E7 : Hd (Lies w7 q1 m1 xs) := ⟨E6.out.below hB7⟩
    clear hB7 K6 E6 X6 HU HO
    go_wp2_with fail
    refine (drawEncode_any a0 len0 cap0 bs _ hl K7.out.reads).mono ?_
    rintro e w8 ⟨d, u, rfl, hu, hB8⟩
    have K8 : Hd (CStays w a0 len0 bs w8) := ⟨K7.out.next hB8⟩
    have E8 : Hd (Lies w8 q1 m1 xs) := ⟨E7.out.below hB8⟩
    have UZ : Hd (u.size ≤ 28) := ⟨hu⟩
    have uz : u.size ≤ 28 := hu
    clear hB8 K7 E7 hu
    obtain ⟨es, hes⟩ : ∃ es, encS d u.data.toList = es := ⟨_, rfl⟩
    have HE : Hd (encS d u.data.toList = es) := ⟨hes⟩
    obtain ⟨can, hcan⟩ : ∃ can, encOk d u.data.toList = can := ⟨_, rfl⟩
    have HC : Hd (encOk d u.data.toList = can) := ⟨hcan⟩
    have tw := enc_twice d u.data.toList
    rw [← app_list, hcan] at tw
    have HC2 : Hd (encOk d (u ++ u).data.toList = can) := ⟨tw.1⟩
    obtain ⟨fs, hfs⟩ : ∃ fs, encS d (u ++ u).data.toList = fs := ⟨_, rfl⟩
    have HF : Hd (encS d (u ++ u).data.toList = fs) := ⟨hfs⟩
    obtain ⟨ne, hne⟩ : ∃ ne, es.length = ne := ⟨_, rfl⟩
    have HN : Hd (es.length = ne) := ⟨hne⟩
    obtain ⟨nf, hnf⟩ : ∃ nf, fs.length = nf := ⟨_, rfl⟩
    have HNF : Hd (fs.length = nf) := ⟨hnf⟩
    obtain ⟨EB, hEB⟩ : ∃ EB : ByteArray, (⟨es.toArray⟩ : ByteArray) = EB := ⟨_, rfl⟩
    have HEB : Hd ((⟨es.toArray⟩ : ByteArray) = EB) := ⟨hEB⟩
    obtain ⟨FB, hFB⟩ : ∃ FB : ByteArray, (⟨fs.toArray⟩ : ByteArray) = FB := ⟨_, rfl⟩
    have HFB : Hd ((⟨fs.toArray⟩ : ByteArray) = FB) := ⟨hFB⟩
    have P2 : Hd (can = true → FB = EB ++ EB) := ⟨fun h => by
      have := tw.2 h
      rw [hfs, hes] at this
      rw [← hFB, ← hEB, this]
      exact (app_bytes _ _).symm⟩
    have ZE : EB.size ≤ 112 := by rw [← hEB, size_of, ← hes]; have := encS_len4 d u.data.toList; rw [size_list] at this; omega
    clear hes hcan hfs hne hnf hEB hFB tw
    have UZ2 : Hd ((u ++ u).size ≤ 1048576) := ⟨by rw [ByteArray.size_append]; have := UZ.out; omega⟩
    go_wp2_with fail
    refine (implEncode_any d u _ (by have := UZ.out; omega) ⟨K8.out.tabs⟩).mono ?_
    rewrite [HE.out, HC.out]
    rintro e w9 ⟨g9, c9, rfl, _, hO9, hB9⟩
    rewrite [HN.out]
    have K9 : Hd (CStays w a0 len0 bs w9) := ⟨K8.out.next hB9⟩
    have E9 : Hd (Lies w9 q1 m1 xs) := ⟨E8.out.below hB9⟩
    have F9 : Hd (Lies w9 g9 ne es) := ⟨hO9.lies HN.out⟩
    clear hB9 hO9 K8 E8
    go_wp2_with fail
    refine (implEncode_any d (u ++ u) _ UZ2.out ⟨K9.out.tabs⟩).mono ?_
    rewrite [HF.out, HC2.out]
    rintro e w10 ⟨g10, c10, rfl, _, hO10, hB10⟩
    rewrite [HNF.out]
    have K10 : Hd (CStays w a0 len0 bs w10) := ⟨K9.out.next hB10⟩
    have E10 : Hd (Lies w10 q1 m1 xs) := ⟨E9.out.below hB10⟩
    have F10 : Hd (Lies w10 g9 ne es) := ⟨F9.out.below hB10⟩
    have G10 : Hd (Lies w10 g10 nf fs) := ⟨hO10.lies HNF.out⟩
    clear hB10 hO10 K9 E9 F9 HF HC2 UZ2
    go_wp2_with fail
    refine (specDecode_any cs q1 0 m1 c1 xs _ E10.out.size hc1 E10.out.cell (by omega)).mono ?_
    rintro e w11 ⟨rfl, hB11⟩
    rewrite [HS.out, HK.out]
    have K11 : Hd (CStays w a0 len0 bs w11) := ⟨K10.out.next hB11⟩
    have F11 : Hd (Lies w11 g9 ne es) := ⟨F10.out.below hB11⟩
    have G11 : Hd (Lies w11 g10 nf fs) := ⟨G10.out.below hB11⟩
    clear hB11 K10 E10 F10 G10 HS HK
    go_wp2_with fail
    refine (specEncode_any d u _ (by have := UZ.out; omega)).mono ?_
    rewrite [HE.out, HC.out]
    rintro e w12 ⟨g12, c12, rfl, _, _, hB12⟩
    rewrite [HN.out]
    have K12 : Hd (CStays w a0 len0 bs w12) := ⟨K11.out.next hB12⟩
    have v1 := (F11.out.below hB12).whole c9
    have v2 := (G11.out.below hB12).whole c10
    rw [HEB.out] at v1
    rw [HFB.out] at v2
    clear hB12 K11 F11 G11 HE HC HEB HFB HN HNF UZ
    have f1 : (ok != ok) = false := by simp
    have f2 : (can != can) = false := by simp
    have f3 : (can == can) = true := by simp
    cases ok with
    | true =>
      cases is with
      | true =>
        obtain ⟨p1, p2⟩ := P1.out rfl rfl
        subst p1 p2
        cases can with
        | true =>
          have p3 := P2.out rfl
          subst p3
          clear P1 P2
          go_wp2_with fail
          go_ret
          exact ⟨rfl, K12.out.below⟩
        | false =>
          clear P1 P2
          go_wp2_with fail
          go_ret
          exact ⟨rfl, K12.out.below⟩
      | false =>
        cases can with
        | true =>
          have p3 := P2.out rfl
          subst p3
          clear P1 P2
          go_wp2_with fail
          go_ret
          exact ⟨rfl, K12.out.below⟩
        | false =>
          clear P1 P2
          go_wp2_with fail
          go_ret
          exact ⟨rfl, K12.out.below⟩
    | false =>
      cases can with
      | true =>
        have p3 := P2.out rfl
        subst p3
        clear P1 P2
        go_wp2_with fail
        go_ret
        exact ⟨rfl, K12.out.below⟩
      | false =>
        clear P1 P2
        go_wp2_with fail
        go_ret
        exact ⟨rfl, K12.out.below⟩

set_option maxRecDepth 100000 in
theorem lifted (os : Os) (started : os.Started) (H : Type) (enc : TypeId × Value → H) :
    ReturnsInHanded {} Tryd.checked os 5 .any (fun w args => (Rows.fnJoinedSpec.pre enc Tryd.prog Tryd.f5 Rows.fnJoinedRow.domain false w args ∧ laidMetH Tryd.prog Rows.fnJoinedRow.laid w) ∧ sizedMet enc Tryd.prog Tryd.f5 (OpenSpec.ofChange Rows.fnJoinedSpec) false w args)
      (Rows.fnJoinedSpec.post enc Tryd.prog Tryd.f5 false true false false) := by
  refine returnsInHanded_of_change_and (C := Tryd.checked) (X := fun w _ => laidMetH Tryd.prog Rows.fnJoinedRow.laid w) (fun _ _ _ hh h => h.of_heap hh) own started (by kernel_rfl) Tryd.func5
    (ChangeSpec.witness_shaped (enc := enc) (C := Tryd.checked) (os := os) (X := fun w _ => laidMetH Tryd.prog Rows.fnJoinedRow.laid w) false (World.laidAll Tryd.prog os Rows.fnJoinedRow.laid) #[.slice none 0 0] 8 (World.laidAll_os _ _ _)
      (World.shaped_of_ZipB (by kernel_rfl) (by kernel_rfl)) (by kernel_rfl) (by kernel_rfl) (by kernel_rfl)
      (by rw [MakeChecks.laidMetH_plain _ _ _ (by kernel_rfl)]; exact laidMet_laidAll _ (by kernel_rfl) (by kernel_rfl))) ?_
  intro W base args ds gs before hval0 hW _ _ hL _
  have hval : ∀ (j : Nat) t v, Tryd.f5.params[j]? = some t → args[j]? = some v → Value.okWide Tryd.prog W .any base t v := hval0
  have hW' := hW
  obtain ⟨p, q, hA0, hV, rfl, hfz, hnd⟩ := hW
  have hA : DataW.TrodAll enc Tryd.prog W 0 (fun _ => true) true Tryd.f5.params.toList args.toList ds p := hA0
  rw [Tryd.params5] at hA hval
  obtain ⟨v0, vs0, d0, ds0, p0, q0, hargs, rfl, rfl, h0, r0⟩ := trodAll_cons hA
  obtain ⟨rfl, rfl, rfl⟩ := trodAll_nil r0
  obtain rfl : args = #[v0] := by cases args; simp_all
  have hV1 : DataW.TrodVars enc Tryd.prog W (fun _ => true) Rows.fnJoinedSpec.vars gs q := hV
  obtain ⟨g1, g2, g3, g4, rfl⟩ : ∃ g1 g2 g3 g4, gs = [g1, g2, g3, g4] := by
    match gs, (vars_length hV1 : gs.length = 4) with
    | [g1, g2, g3, g4], _ => exact ⟨g1, g2, g3, g4, rfl⟩
  obtain ⟨a0, len0, cap0, rfl⟩ := okWide_slice Tryd.underlying22 (hval 0 22 v0 rfl rfl)
  have k0 := h0
  have lt0 : ∀ x ∈ p0, x.block < W.heap.size := by obtain ⟨m, hm⟩ := k0; exact DataW.trod_lt m _ _ _ hm
  obtain ⟨z0, w0⟩ : ∃ zs, IsRow .u8 W a0 len0 cap0 zs := by
    obtain ⟨fuel, hf⟩ := h0
    rcases open_ints Tryd.underlying22 Tryd.underlying5 (by kernel_rfl) hf with ⟨hcs, _⟩ | ⟨x, l, c, zs, hcs, _, hl, hm, hz, _, hcell, hwz⟩
    · simp [Value.cells] at hcs
      obtain ⟨rfl, rfl, rfl⟩ := hcs
      exact ⟨[], .inl ⟨rfl, rfl, rfl, rfl⟩⟩
    · simp [Value.cells] at hcs
      obtain ⟨rfl, rfl, rfl⟩ := hcs
      exact ⟨zs, .inr ⟨_, rfl, hl, hm, by simpa using hz, hcell, hwz⟩⟩
  clear hA0 hval0
  refine (walk a0 len0 cap0 z0 W w0 ⟨all_of hL⟩).mono fun e W' ⟨he, hg⟩ => ?_
  subst he
  exact ⟨_, rfl, _, _, _, [], _, q, hW', trodAll_mk1 (shut_bool Tryd.underlying4 _), (trodAll_cons_mk (Below.trod laidOut (by kernel_rfl) (of_decide_eq_true (by kernel_rfl)) k0 hg lt0) trodAll_mk0), Below.trodVars laidOut hg (by kernel_rfl) hV1, hg.frame _, fun h => by cases h⟩

theorem over : Rows.fnJoinedRow.holds Tryd.pinned (OpenSpec.ofChange Rows.fnJoinedSpec) :=
  OpenClaim.holds_of_wide 5 Tryd.f5 rfl rfl rfl rfl rfl rfl rfl ⟨rfl, rfl, rfl, rfl, rfl⟩ rfl rfl rfl rfl rfl (by kernel_rfl) Tryd.func5 (by kernel_rfl)
    (of_decide_eq_true (by kernel_rfl)) (by unfold Func.isWrapper; first | (rw [if_pos (by decide +kernel)]; kernel_rfl) | (rw [if_neg (by decide +kernel)]; exact ⟨rfl, rfl⟩))
    (fun os started H enc _ => lifted os started H enc)

theorem plain (f : FuncId) (fn : Func) (hf : Tryd.pinned.checked.prog.funcNamed Rows.fnJoinedRow.func = some f) (hfn : Tryd.pinned.checked.prog.funcs[f]? = some fn) :
    true = Tryd.pinned.checked.prog.looks [] ∧ ∀ (j : Nat) t, fn.params[j]? = some t → Tryd.pinned.checked.prog.wantsStandIn t = false := by
  obtain rfl : f = 5 := Option.some.inj ((show Tryd.prog.funcNamed Rows.fnJoinedRow.func = some 5 by kernel_rfl).symm.trans hf) |>.symm
  obtain rfl : fn = Tryd.f5 := (Option.some.inj (Tryd.func5.symm.trans hfn)).symm
  refine ⟨by kernel_rfl, fun j t ht => ?_⟩
  rw [Tryd.params5] at ht
  have hm : t ∈ [22] := by simpa using Array.mem_of_getElem? ht
  have hall : ([22].all fun u => !Tryd.prog.wantsStandIn u) = true := by kernel_rfl
  exact (show Tryd.prog.wantsStandIn t = false by simpa using List.all_eq_true.1 hall t hm)

end Go.Proofs.YtcddjfdmodpnjaaDoor.fnJoined

namespace Go.Proofs.YtcddjfdmodpnjaaDoor
theorem fnJoinedCard_holds : Rows.FnJoinedCardSaid :=
  Claim7.holds_tied_plain_at .later [] _ _ _ _ fnJoined.over (fun _ h => by cases h) (by kernel_rfl) (fun _ h => by cases h) fnJoined_row_tie rfl ⟨rfl, rfl⟩ (by kernel_rfl) rfl fnJoined.plain (by kernel_rfl)
#print axioms fnJoinedCard_holds
end Go.Proofs.YtcddjfdmodpnjaaDoor
