/- For every code: drawn bytes that come in two parts are read as they are in one, what is held is never all of a sign, and all was read just where Decode says something; the tables lie as the program lays them. -/
import Derived.Test.YtjbideiifoadkaaDoorCards
import Derived.Test.YtjbideiifoadkaaDoorTie
import Derived.WalkKit
import Derived.ProofKit
import Derived.OpenShut
import Derived.ShutString
import Derived.ChangeOld
import Derived.Below
import Derived.OpenVars
import Derived.Lay
import Derived.MakeChecks
import Derived.SevenTiedAt
import Derived.Stop.Joined
import Derived.Lib.SmallJoins
import Derived.Test.YtjbideiifoadkaaDoorStreamL
import Derived.Test.YtjbideiifoadkaaDoorFeedN
import Derived.Test.YtjbideiifoadkaaDoorLaidA
namespace Go.Proofs.YtjbideiifoadkaaDoor.fnStreams
open Go.ChangeShapes Go.WideShapes Go.ChangeAt Go.RowKit
open Go.ChangeMaps (open_string shut_string)
set_option linter.unusedVariables false

theorem own : ownKnob Tryd.prog.godebug = none := by kernel_rfl
theorem laidOut : laidOutB Tryd.prog = true := by kernel_rfl

def IsRow (k : IntKind) (w : World) (a : Option Addr) (len cap : Nat) (zs : List Int) : Prop :=
  (a = none ∧ len = 0 ∧ cap = 0 ∧ zs = []) ∨
  ∃ x, a = some x ∧ len ≤ cap ∧ cap ≤ maxLen ∧ zs.length = cap ∧ (∀ i, i < zs.length → w.cell? (x.add i) = some (.int k (zs.getD i 0))) ∧ ∀ n ∈ zs, (Lit.int k n).wf = true

set_option maxRecDepth 20000 in
set_option maxHeartbeats 16000000 in
theorem walk (a0 : Option Addr) (len0 cap0 : Nat) (z0 : List Int) (w : World) (w0 : IsRow .u8 w a0 len0 cap0 z0) (T : Hd (AllAt w)) :
    Calls Tryd.prog 3 #[.slice a0 len0 cap0] w fun e w' => e = .returned (.bool true) ∧ Below w.heap.size w w' := by
  obtain ⟨bs, hr⟩ := reads_of_row w0
  have K0 : Hd (CStays w a0 len0 bs w) := ⟨CStays.start T.out hr⟩
  clear hr w0 T
  by_cases hb : (1048576 : Int) < (len0 : Int)
  · have hbd : decide ((1048576 : Int) < (len0 : Int)) = true := decide_eq_true hb
    go_enter Tryd.func3, Tryd.ntmps3
    go_wp2_with (go_at_call 8; refine (big_any _ _ _ _).mono ?_; rintro e w' ⟨rfl, rfl⟩)
    go_ret
    exact ⟨rfl, Below.refl _ _⟩
  · have hbd : decide ((1048576 : Int) < (len0 : Int)) = false := decide_eq_false hb
    have hl : len0 ≤ 1073741824 := by omega
    go_enter Tryd.func3, Tryd.ntmps3
    go_wp2_with fail
    refine (big_any _ _ _ _).mono ?_
    rintro e w' ⟨rfl, hw'⟩
    replace hw' := hw'.symm
    subst hw'
    go_wp2_with fail
    refine (drawDecode_any a0 len0 cap0 bs _ hl K0.out.reads).mono ?_
    rintro e w1 ⟨cs, q1, m1, c1, xs, rfl, d1, d2, d3, d4, d5⟩
    have K1 : Hd (CStays w a0 len0 bs w1) := ⟨K0.out.next d5⟩
    have hc1 : m1 ≤ c1 := by have := d4.le; omega
    have E1 : Hd (Lies w1 q1 m1 xs) := ⟨d4.lies d1⟩
    have M1 : m1 ≤ 81 := d2
    clear d1 d2 d3 d4 d5 K0
    obtain ⟨S, hS⟩ : ∃ S : ByteArray, (⟨(decS cs xs).toArray⟩ : ByteArray) = S := ⟨_, rfl⟩
    have HS : Hd ((⟨(decS cs xs).toArray⟩ : ByteArray) = S) := ⟨hS⟩
    obtain ⟨ok, hok⟩ : ∃ ok, decOk cs xs = ok := ⟨_, rfl⟩
    have HK : Hd (decOk cs xs = ok) := ⟨hok⟩
    clear hS hok
    go_wp2_with fail
    refine (implDecode_any cs q1 0 m1 c1 xs _ E1.out.size hc1 E1.out.cell (by omega) ⟨K1.out.tabs⟩).mono ?_
    rintro e w3 ⟨rfl, hB3⟩
    rewrite [HS.out, HK.out]
    have K3 : Hd (CStays w a0 len0 bs w3) := ⟨K1.out.next hB3⟩
    have E3 : Hd (Lies w3 q1 m1 xs) := ⟨E1.out.below hB3⟩
    clear hB3 K1 E1
    go_wp2_with fail
    refine (at_two a0 len0 cap0 bs _ hl K3.out.reads).mono ?_
    rintro e w' ⟨rfl, hw'⟩
    replace hw' := hw'.symm
    subst hw'
    obtain ⟨A, hA⟩ : ∃ A, atV bs 2 = A := ⟨_, rfl⟩
    have hA2 : A < 256 := by rw [← hA]; exact atV_lt bs 2
    rewrite [hA]
    clear hA
    obtain ⟨k, hk⟩ : ∃ k, A % (m1 + 1) = k := ⟨_, rfl⟩
    have hkm : k ≤ m1 := by rw [← hk]; have := Nat.mod_lt A (show 0 < m1 + 1 by omega); omega
    have hrem : (A : Int) % ((m1 : Int) + 1) = (k : Int) := by rw [← hk, Int.natCast_emod]; rfl
    have hnz : ¬ (m1 : Int) + 1 = 0 := by omega
    go_wp2_with fail
    rewrite [hrem]
    have HKM : Hd (k ≤ m1) := ⟨hkm⟩
    clear hrem hnz hk hA2
    refine (implDecNew_any cs _).mono ?_
    rintro e w4 ⟨rfl, hB4⟩
    have K4 : Hd (CStays w a0 len0 bs (w4.alloc (.cells #[.int .i64 cs, .slice none 0 0, .bool false] 30))) := ⟨(K3.out.next hB4).next (below_lit w4 _)⟩
    have E4 : Hd (Lies (w4.alloc (.cells #[.int .i64 cs, .slice none 0 0, .bool false] 30)) q1 m1 xs) := ⟨(E3.out.below hB4).below (below_lit w4 _)⟩
    have D4 : Hd (BoxR w4.heap.size cs none 0 0 false [] (w4.alloc (.cells #[.int .i64 cs, .slice none 0 0, .bool false] 30))) := ⟨alloc_new w4 _ rfl, ⟨rfl, .inl rfl⟩, .inl ⟨rfl, rfl⟩⟩
    generalize hp8 : w4.heap.size = p8 at *
    clear hB4 K3 E3
    obtain ⟨z0, z1, z2, _, _, _⟩ := cells3 _ p8 _ _ _ _ D4.out.box
    obtain ⟨inb, hin⟩ : ∃ b, inB cs 0 5 = b := ⟨_, rfl⟩
    have HI : Hd (inB cs 0 5 = inb) := ⟨hin⟩
    have HSO : Hd (sOk cs [] false = inb) := ⟨(sOk_new cs).trans hin⟩
    have hii : (inb != inb) = false := by simp
    clear hin
    go_wp2_with fail
    generalize hw5 : w4.alloc (.cells #[.int .i64 cs, .slice none 0 0, .bool false] 30) = w5 at *
    clear hp8 hw5
    refine (implDecOk_any cs none 0 0 false [] _ D4.out.left.1 ⟨K4.out.tabs⟩).mono ?_
    rintro e w6 ⟨rfl, hB⟩
    rewrite [HSO.out]
    have K6 : Hd (CStays w a0 len0 bs w6) := ⟨K4.out.next hB⟩
    have E6 : Hd (Lies w6 q1 m1 xs) := ⟨E4.out.below hB⟩
    have D6 : Hd (BoxR p8 cs none 0 0 false [] w6) := ⟨D4.out.below hB⟩
    clear hB K4 E4 D4 z0 z1 z2
    go_wp2_with fail
    refine (specDecNew_any cs _).mono ?_
    rintro e w7 ⟨rfl, hB⟩
    have K7 : Hd (CStays w a0 len0 bs w7) := ⟨K6.out.next hB⟩
    have E7 : Hd (Lies w7 q1 m1 xs) := ⟨E6.out.below hB⟩
    have D7 : Hd (BoxR p8 cs none 0 0 false [] w7) := ⟨D6.out.below hB⟩
    clear hB K6 E6 D6
    go_wp2_with fail
    refine (specDecOk_any cs none 0 0 false [] _ D7.out.left.1 (by omega)).mono ?_
    rintro e w8 ⟨rfl, hB⟩
    rewrite [HSO.out]
    have K8 : Hd (CStays w a0 len0 bs w8) := ⟨K7.out.next hB⟩
    have E8 : Hd (Lies w8 q1 m1 xs) := ⟨E7.out.below hB⟩
    have D8 : Hd (BoxR p8 cs none 0 0 false [] w8) := ⟨D7.out.below hB⟩
    clear hB K7 E7 D7
    obtain ⟨z0, z1, z2, _, _, _⟩ := cells3 w8 p8 _ _ _ _ D8.out.box
    go_wp2_with fail
    refine (implDecOk_any cs none 0 0 false [] _ D8.out.left.1 ⟨K8.out.tabs⟩).mono ?_
    rintro e w9 ⟨rfl, hB⟩
    rewrite [HSO.out]
    have K9 : Hd (CStays w a0 len0 bs w9) := ⟨K8.out.next hB⟩
    have E9 : Hd (Lies w9 q1 m1 xs) := ⟨E8.out.below hB⟩
    have D9 : Hd (BoxR p8 cs none 0 0 false [] w9) := ⟨D8.out.below hB⟩
    clear hB K8 E8 D8 z0 z1 z2 hii
    cases inb with
    | false =>
      obtain rfl : ok = false := by rw [← HK.out]; exact dec_none HI.out xs
      go_wp2_with fail
      go_ret
      exact ⟨rfl, K9.out.below⟩
    | true =>
      have A9 : Hd (StA w a0 len0 bs q1 m1 xs p8 cs w9) := ⟨K9.out, E9.out, D9.out⟩
      obtain ⟨u, hu⟩ : ∃ u, xs.take k = u := ⟨_, rfl⟩
      obtain ⟨v, hv⟩ : ∃ v, xs.drop k = v := ⟨_, rfl⟩
      have huv : u ++ v = xs := by rw [← hu, ← hv]; exact List.take_append_drop k xs
      have PT := parted HI.out u v
      have PW := fed_whole HI.out xs
      have pt1 := PT.txt
      have pt2 := PT.held
      have pt3 := PT.bad
      rw [huv] at pt1 pt2 pt3
      obtain ⟨hx, h1⟩ : ∃ x, fedH cs [] false u = x := ⟨_, rfl⟩
      obtain ⟨bx, h2⟩ : ∃ x, fedB cs [] false u = x := ⟨_, rfl⟩
      obtain ⟨TX, h3⟩ : ∃ x, (⟨(fedT cs [] false u).toArray⟩ : ByteArray) = x := ⟨_, rfl⟩
      obtain ⟨nx, h4⟩ : ∃ x, hx.length = x := ⟨_, rfl⟩
      have HHX : Hd (fedH cs [] false u = hx) := ⟨h1⟩
      have HBX : Hd (fedB cs [] false u = bx) := ⟨h2⟩
      have HTX : Hd ((⟨(fedT cs [] false u).toArray⟩ : ByteArray) = TX) := ⟨h3⟩
      have HNX : Hd (hx.length = nx) := ⟨h4⟩
      have hnx : nx ≤ 3 := by rw [← h4, ← h1]; exact fed_small (by simp)
      obtain ⟨hy, y1⟩ : ∃ x, fedH cs hx bx v = x := ⟨_, rfl⟩
      obtain ⟨yb, y2⟩ : ∃ x, fedB cs hx bx v = x := ⟨_, rfl⟩
      obtain ⟨TY, y3⟩ : ∃ x, (⟨(fedT cs hx bx v).toArray⟩ : ByteArray) = x := ⟨_, rfl⟩
      obtain ⟨ny, y4⟩ : ∃ x, hy.length = x := ⟨_, rfl⟩
      have HHY : Hd (fedH cs hx bx v = hy) := ⟨y1⟩
      have HBY : Hd (fedB cs hx bx v = yb) := ⟨y2⟩
      have HTY : Hd ((⟨(fedT cs hx bx v).toArray⟩ : ByteArray) = TY) := ⟨y3⟩
      have HNY : Hd (hy.length = ny) := ⟨y4⟩
      have hny : ny ≤ 3 := by rw [← y4, ← y1]; exact fed_small (by rw [h4]; exact hnx)
      obtain ⟨TZ, z3⟩ : ∃ x, (⟨(fedT cs [] false xs).toArray⟩ : ByteArray) = x := ⟨_, rfl⟩
      have HTZ : Hd ((⟨(fedT cs [] false xs).toArray⟩ : ByteArray) = TZ) := ⟨z3⟩
      have HHZ : Hd (fedH cs [] false xs = hy) := ⟨by rw [← pt2, h1, h2, y1]⟩
      have HBZ : Hd (fedB cs [] false xs = yb) := ⟨by rw [← pt3, h1, h2, y2]⟩
      have HXY : Hd (TX ++ TY = TZ) := ⟨by rw [← h3, ← y3, ← z3, app_bytes, ← pt1, h1, h2]⟩
      have HO1 : Hd (sOk cs hx bx = true) := ⟨by rw [← h1, ← h2]; exact PT.ok1⟩
      have HO2 : Hd (sOk cs hy yb = true) := ⟨by have := PT.ok2; rw [h1, h2, y1, y2] at this; exact this⟩
      have HEN : Hd ((sOk cs hy yb && !yb && decide (hy = [])) = ok) := ⟨by have := PW.1; rw [HHZ.out, HBZ.out] at this; exact this.trans HK.out⟩
      have HTS : Hd (ok = true → TZ = S) := ⟨fun h => by rw [← z3, ← HS.out, PW.2 (HK.out.trans h)]⟩
      have HU : Hd (Reads w9 (some ⟨q1, 0, none⟩) k u) := ⟨by rw [← hu]; exact E9.out.cutA HKM.out⟩
      have HV : Hd (xs.drop k = v) := ⟨hv⟩
      have ZX : TX.size ≤ 324 := by rw [← h3, size_of]; have := fedT_len cs [] u false; have := HU.out.1; simp at *; omega
      have ZY : TY.size ≤ 400 := by rw [← y3, size_of]; have q1 := fedT_len cs hx v bx; have q2 : v.length ≤ 81 := (by rw [← hv, List.length_drop, E9.out.size]; omega); omega
      clear hu hv huv PT PW pt1 pt2 pt3 h1 h2 h3 h4 y1 y2 y3 y4 z3 HI HSO HK HS
      obtain ⟨z0, z1, z2, _, _, _⟩ := cells3 w9 p8 _ _ _ _ D9.out.box
      have hp8 : Hd (p8 < w9.heap.size) := ⟨lt_block D9.out.box⟩
      have KS : Hd (∀ w', Below w9.heap.size w9 w' → (fun w' => w'.cell? ⟨p8, 0, none⟩ = some (.int .i64 cs) ∧ w'.cell? ⟨p8, 1, none⟩ = some (.slice none 0 0) ∧ w'.cell? ⟨p8, 2, none⟩ = some (.bool false)) w') := ⟨fun w' hb => ⟨cell_below z0 hb, cell_below z1 hb, cell_below z2 hb⟩⟩
      have hk3 : (k : Int) ≤ (m1 : Int) := by omega
      have hk4 : (k : Int) ≤ (c1 : Int) := by omega
      have hk0 : (0 : Int) ≤ (k : Int) := by omega
      clear K9 E9 D9
      go_wp2_with fail
      go_cut [9, 10] (fun s9 s10 wx => ∃ p ax cx, s9 = .pointer (some ⟨p, 0, none⟩) ∧ s10 = .string TX ∧ Hd (StA w a0 len0 bs q1 m1 xs p8 cs wx ∧ BoxR p cs ax nx cx bx hx wx))
      case first =>
        go_region_held (fun w' => w'.cell? ⟨p8, 0, none⟩ = some (.int .i64 cs) ∧ w'.cell? ⟨p8, 1, none⟩ = some (.slice none 0 0) ∧ w'.cell? ⟨p8, 2, none⟩ = some (.bool false)) (first | assumption | exact KS.out _ (Below.refl _ w9).drew | exact KS.out _ (below_lit w9 _).drew | exact KS.out _ B10.out | exact KS.out _ (Below.next B10.out (below_lit _ _)) | exact KS.out _ (bset3 B10.out (Nat.le_refl _)))
          (first | (go_at_call 16; refine (implFeed_to cs none (some ⟨q1, 0, none⟩) 0 0 k c1 false [] u hx bx TX nx _ ?_ ?_ (by omega) (by omega) ?_ HHX.out HBX.out HTX.out HNX.out).mono ?_; exact A9.out.d.left.below (Below.refl _ w9).drew; exact HU.out.below rfl (Below.refl _ w9).drew; exact ⟨A9.out.k.tabs.below (Below.refl _ w9).drew⟩; rintro e w10 ⟨ax, cx, rfl, hO, hB⟩; have B10 : Hd (Below w9.heap.size w9 w10) := (⟨Below.next (Below.refl _ w9).drew hB⟩); have X10 : Hd (OwnO w10 (w9.heap.size) ax cx hx) := (⟨hO.mono (by simp)⟩); clear hO hB) | (go_at_call 16; refine (implFeed_to cs none (some ⟨q1, 0, none⟩) 0 0 k c1 false [] u hx bx TX nx _ ?_ ?_ (by omega) (by omega) ?_ HHX.out HBX.out HTX.out HNX.out).mono ?_; exact A9.out.d.left.below (below_lit w9 _).drew; exact HU.out.below rfl (below_lit w9 _).drew; exact ⟨A9.out.k.tabs.below (below_lit w9 _).drew⟩; rintro e w10 ⟨ax, cx, rfl, hO, hB⟩; have B10 : Hd (Below w9.heap.size w9 w10) := (⟨Below.next (below_lit w9 _).drew hB⟩); have X10 : Hd (OwnO w10 (w9.heap.size + 1) ax cx hx) := (⟨hO.mono (by simp)⟩); have Z10 : Hd (w10.heap[w9.heap.size]? = some (.cells #[.int .i64 0, .slice none 0 0, .bool false] 30 (0, 0))) := (⟨(hB.block w9.heap.size (by simp)).trans (alloc_new w9 _ rfl)⟩); obtain ⟨r0, r1, r2, r3, r4, r5⟩ := cells3 w10 w9.heap.size _ _ _ _ Z10.out; clear hO hB))
        · go_wp2_with fail
          go_meet
          case rel => exact ⟨w10.heap.size, ax, cx, rfl, rfl, ⟨(A9.out.next B10.out).next (below_lit w10 _), boxR_new (X10.out.left HNX.out)⟩⟩
        · go_wp2_with fail
          go_meet
          case rel => exact ⟨w9.heap.size, ax, cx, rfl, rfl, ⟨A9.out.next (bset3 B10.out (Nat.le_refl _)), ⟨set3 _ _ _ Z10.out, (X10.out.set3 (by omega)).left HNX.out⟩⟩⟩
      case rest =>
        clear KS z0 z1 z2 hp8 A9 HU HHX HBX HTX
        obtain ⟨p9, ax, cx, rfl, rfl, hcut⟩ := hcut
        have AC : Hd (StA w a0 len0 bs q1 m1 xs p8 cs wc) := ⟨hcut.out.1⟩
        have XC : Hd (BoxR p9 cs ax nx cx bx hx wc) := ⟨hcut.out.2⟩
        clear hcut
        obtain ⟨z0, z1, z2, _, _, _⟩ := cells3 wc p9 _ _ _ _ XC.out.box
        have KS : Hd (∀ w', Below wc.heap.size wc w' → (fun w' => w'.cell? ⟨p9, 0, none⟩ = some (.int .i64 cs) ∧ w'.cell? ⟨p9, 1, none⟩ = some (.slice ax nx cx) ∧ w'.cell? ⟨p9, 2, none⟩ = some (.bool bx)) w') := ⟨fun w' hb => ⟨cell_below z0 hb, cell_below z1 hb, cell_below z2 hb⟩⟩
        go_wp2_with fail
        go_cut [11, 12] (fun s11 s12 wx => ∃ p ay cy, s11 = .pointer (some ⟨p, 0, none⟩) ∧ s12 = .string TY ∧ Hd (StA w a0 len0 bs q1 m1 xs p8 cs wx ∧ BoxR p9 cs ax nx cx bx hx wx ∧ BoxR p cs ay ny cy yb hy wx))
        case first =>
          by_cases hck : c1 = k
          · obtain ⟨rfl, rfl⟩ : c1 = k ∧ m1 = k := ⟨hck, by omega⟩
            have HW : Hd (Reads wc (some ⟨q1, 0, none⟩) 0 v) := ⟨by rw [← HV.out, List.drop_eq_nil_of_le (by rw [AC.out.e.size]; omega)]; exact ⟨rfl, .inl rfl⟩⟩
            go_region_held (fun w' => w'.cell? ⟨p9, 0, none⟩ = some (.int .i64 cs) ∧ w'.cell? ⟨p9, 1, none⟩ = some (.slice ax nx cx) ∧ w'.cell? ⟨p9, 2, none⟩ = some (.bool bx)) (first | assumption | exact KS.out _ (Below.refl _ wc).drew | exact KS.out _ (below_lit wc _).drew | exact KS.out _ B10.out | exact KS.out _ (Below.next B10.out (below_lit _ _)) | exact KS.out _ (bset3 B10.out (Nat.le_refl _)))
              (first | (go_at_call 16; refine (implFeed_to cs ax (some ⟨q1, 0, none⟩) nx cx 0 0 bx hx v hy yb TY ny _ ?_ ?_ (by omega) (by omega) ?_ HHY.out HBY.out HTY.out HNY.out).mono ?_; exact XC.out.left.below (Below.refl _ wc).drew; exact HW.out.below rfl (Below.refl _ wc).drew; exact ⟨AC.out.k.tabs.below (Below.refl _ wc).drew⟩; rintro e w10 ⟨ay, cy, rfl, hO, hB⟩; have B10 : Hd (Below wc.heap.size wc w10) := (⟨Below.next (Below.refl _ wc).drew hB⟩); have X10 : Hd (OwnO w10 (wc.heap.size) ay cy hy) := (⟨hO.mono (by simp)⟩); clear hO hB) | (go_at_call 16; refine (implFeed_to cs ax (some ⟨q1, 0, none⟩) nx cx 0 0 bx hx v hy yb TY ny _ ?_ ?_ (by omega) (by omega) ?_ HHY.out HBY.out HTY.out HNY.out).mono ?_; exact XC.out.left.below (below_lit wc _).drew; exact HW.out.below rfl (below_lit wc _).drew; exact ⟨AC.out.k.tabs.below (below_lit wc _).drew⟩; rintro e w10 ⟨ay, cy, rfl, hO, hB⟩; have B10 : Hd (Below wc.heap.size wc w10) := (⟨Below.next (below_lit wc _).drew hB⟩); have X10 : Hd (OwnO w10 (wc.heap.size + 1) ay cy hy) := (⟨hO.mono (by simp)⟩); have Z10 : Hd (w10.heap[wc.heap.size]? = some (.cells #[.int .i64 0, .slice none 0 0, .bool false] 30 (0, 0))) := (⟨(hB.block wc.heap.size (by simp)).trans (alloc_new wc _ rfl)⟩); obtain ⟨r0, r1, r2, r3, r4, r5⟩ := cells3 w10 wc.heap.size _ _ _ _ Z10.out; clear hO hB))
            · go_wp2_with fail
              go_meet
              case rel => exact ⟨w10.heap.size, ay, cy, rfl, rfl, ⟨(AC.out.next B10.out).next (below_lit w10 _), (XC.out.below B10.out).below (below_lit w10 _), boxR_new (X10.out.left HNY.out)⟩⟩
            · go_wp2_with fail
              go_meet
              case rel => exact ⟨wc.heap.size, ay, cy, rfl, rfl, ⟨AC.out.next (bset3 B10.out (Nat.le_refl _)), XC.out.below (bset3 B10.out (Nat.le_refl _)), ⟨set3 _ _ _ Z10.out, (X10.out.set3 (by omega)).left HNY.out⟩⟩⟩
          · have hmk : m1 - k ≤ 81 := by omega
            have HW : Hd (Reads wc (some ⟨q1, k, none⟩) (m1 - k) v) := ⟨by rw [← HV.out]; exact AC.out.e.cutB HKM.out⟩
            go_region_held (fun w' => w'.cell? ⟨p9, 0, none⟩ = some (.int .i64 cs) ∧ w'.cell? ⟨p9, 1, none⟩ = some (.slice ax nx cx) ∧ w'.cell? ⟨p9, 2, none⟩ = some (.bool bx)) (first | assumption | exact KS.out _ (Below.refl _ wc).drew | exact KS.out _ (below_lit wc _).drew | exact KS.out _ B10.out | exact KS.out _ (Below.next B10.out (below_lit _ _)) | exact KS.out _ (bset3 B10.out (Nat.le_refl _)))
              (first | (go_at_call 16; refine (implFeed_to cs ax (some ⟨q1, k, none⟩) nx cx (m1 - k) (c1 - k) bx hx v hy yb TY ny _ ?_ ?_ (by omega) (by omega) ?_ HHY.out HBY.out HTY.out HNY.out).mono ?_; exact XC.out.left.below (Below.refl _ wc).drew; exact HW.out.below rfl (Below.refl _ wc).drew; exact ⟨AC.out.k.tabs.below (Below.refl _ wc).drew⟩; rintro e w10 ⟨ay, cy, rfl, hO, hB⟩; have B10 : Hd (Below wc.heap.size wc w10) := (⟨Below.next (Below.refl _ wc).drew hB⟩); have X10 : Hd (OwnO w10 (wc.heap.size) ay cy hy) := (⟨hO.mono (by simp)⟩); clear hO hB) | (go_at_call 16; refine (implFeed_to cs ax (some ⟨q1, k, none⟩) nx cx (m1 - k) (c1 - k) bx hx v hy yb TY ny _ ?_ ?_ (by omega) (by omega) ?_ HHY.out HBY.out HTY.out HNY.out).mono ?_; exact XC.out.left.below (below_lit wc _).drew; exact HW.out.below rfl (below_lit wc _).drew; exact ⟨AC.out.k.tabs.below (below_lit wc _).drew⟩; rintro e w10 ⟨ay, cy, rfl, hO, hB⟩; have B10 : Hd (Below wc.heap.size wc w10) := (⟨Below.next (below_lit wc _).drew hB⟩); have X10 : Hd (OwnO w10 (wc.heap.size + 1) ay cy hy) := (⟨hO.mono (by simp)⟩); have Z10 : Hd (w10.heap[wc.heap.size]? = some (.cells #[.int .i64 0, .slice none 0 0, .bool false] 30 (0, 0))) := (⟨(hB.block wc.heap.size (by simp)).trans (alloc_new wc _ rfl)⟩); obtain ⟨r0, r1, r2, r3, r4, r5⟩ := cells3 w10 wc.heap.size _ _ _ _ Z10.out; clear hO hB))
            · go_wp2_with fail
              go_meet
              case rel => exact ⟨w10.heap.size, ay, cy, rfl, rfl, ⟨(AC.out.next B10.out).next (below_lit w10 _), (XC.out.below B10.out).below (below_lit w10 _), boxR_new (X10.out.left HNY.out)⟩⟩
            · go_wp2_with fail
              go_meet
              case rel => exact ⟨wc.heap.size, ay, cy, rfl, rfl, ⟨AC.out.next (bset3 B10.out (Nat.le_refl _)), XC.out.below (bset3 B10.out (Nat.le_refl _)), ⟨set3 _ _ _ Z10.out, (X10.out.set3 (by omega)).left HNY.out⟩⟩⟩
        case rest =>
          clear KS z0 z1 z2 AC XC HV HHY HBY HTY
          obtain ⟨p11, ay, cy, rfl, rfl, hcut⟩ := hcut
          have A0 : Hd (StA w a0 len0 bs q1 m1 xs p8 cs wc) := ⟨hcut.out.1⟩
          have X0 : Hd (BoxR p9 cs ax nx cx bx hx wc) := ⟨hcut.out.2.1⟩
          have Y0 : Hd (BoxR p11 cs ay ny cy yb hy wc) := ⟨hcut.out.2.2⟩
          clear hcut
          obtain ⟨z0, z1, z2, _, _, _⟩ := cells3 wc p8 _ _ _ _ A0.out.d.box
          go_wp2_with fail
          refine (implFeed_to cs none (some ⟨q1, 0, none⟩) 0 0 m1 c1 false [] xs hy yb TZ ny _ A0.out.d.left A0.out.e.reads (by omega) (by omega) ⟨A0.out.k.tabs⟩ HHZ.out HBZ.out HTZ.out HNY.out).mono ?_
          rintro e w13 ⟨az, cz, rfl, hO, hB⟩
          have A1 : Hd (StA w a0 len0 bs q1 m1 xs p8 cs (w13.alloc (.cells #[.int .i64 cs, .slice az ny cz, .bool yb] 30))) := ⟨(A0.out.next hB).next (below_lit w13 _)⟩
          have X1 : Hd (BoxR p9 cs ax nx cx bx hx (w13.alloc (.cells #[.int .i64 cs, .slice az ny cz, .bool yb] 30))) := ⟨(X0.out.below hB).below (below_lit w13 _)⟩
          have Y1 : Hd (BoxR p11 cs ay ny cy yb hy (w13.alloc (.cells #[.int .i64 cs, .slice az ny cz, .bool yb] 30))) := ⟨(Y0.out.below hB).below (below_lit w13 _)⟩
          have Z1 : Hd (BoxR w13.heap.size cs az ny cz yb hy (w13.alloc (.cells #[.int .i64 cs, .slice az ny cz, .bool yb] 30))) := ⟨boxR_new (hO.left HNY.out)⟩
          generalize hp13 : w13.heap.size = p13 at *
          clear hO hB A0 X0 Y0 z0 z1 z2 HHZ HBZ HTZ
          obtain ⟨z0, z1, z2, _, _, _⟩ := cells3 _ p9 _ _ _ _ X1.out.box
          go_wp2_with fail
          generalize hw14 : w13.alloc (.cells #[.int .i64 cs, .slice az ny cz, .bool yb] 30) = w14 at *
          clear hp13 hw14
          refine (implDecOk_any cs ax nx cx bx hx _ X1.out.left.1 ⟨A1.out.k.tabs⟩).mono ?_
          rintro e w15 ⟨rfl, hB⟩
          rewrite [HO1.out]
          have A15 : Hd (StA w a0 len0 bs q1 m1 xs p8 cs w15) := ⟨A1.out.next hB⟩
          have X15 : Hd (BoxR p9 cs ax nx cx bx hx w15) := ⟨X1.out.below hB⟩
          have Y15 : Hd (BoxR p11 cs ay ny cy yb hy w15) := ⟨Y1.out.below hB⟩
          have Z15 : Hd (BoxR p13 cs az ny cz yb hy w15) := ⟨Z1.out.below hB⟩
          clear hB A1 X1 Y1 Z1 z0 z1 z2
          obtain ⟨z0, z1, z2, _, _, _⟩ := cells3 w15 p11 _ _ _ _ Y15.out.box
          go_wp2_with fail
          refine (implDecOk_any cs ay ny cy yb hy _ Y15.out.left.1 ⟨A15.out.k.tabs⟩).mono ?_
          rintro e w16 ⟨rfl, hB⟩
          rewrite [HO2.out]
          have A16 : Hd (StA w a0 len0 bs q1 m1 xs p8 cs w16) := ⟨A15.out.next hB⟩
          have X16 : Hd (BoxR p9 cs ax nx cx bx hx w16) := ⟨X15.out.below hB⟩
          have Y16 : Hd (BoxR p11 cs ay ny cy yb hy w16) := ⟨Y15.out.below hB⟩
          have Z16 : Hd (BoxR p13 cs az ny cz yb hy w16) := ⟨Z15.out.below hB⟩
          clear hB A15 X15 Y15 Z15 z0 z1 z2
          obtain ⟨z0, z1, z2, _, _, _⟩ := cells3 w16 p11 _ _ _ _ Y16.out.box
          obtain ⟨v0, v1, v2, _, _, _⟩ := cells3 w16 p13 _ _ _ _ Z16.out.box
          have cv1 := conv_left Y16.out.left
          have cv2 := conv_left Z16.out.left
          obtain ⟨HYB, hYB⟩ : ∃ x : ByteArray, (⟨hy.toArray⟩ : ByteArray) = x := ⟨_, rfl⟩
          rw [hYB] at cv1 cv2
          clear hYB
          obtain rfl := HXY.out
          have hyb : (yb != yb) = false := by simp
          go_wp2_with fail
          refine (implDecEnd_any cs ay ny cy yb hy _ Y16.out.left.1 ⟨A16.out.k.tabs⟩).mono ?_
          rintro e w17 ⟨rfl, hB⟩
          rewrite [HEN.out]
          have A17 : Hd (StA w a0 len0 bs q1 m1 xs p8 cs w17) := ⟨A16.out.next hB⟩
          clear hB A16 X16 Y16 Z16 z0 z1 z2 v0 v1 v2 cv1 cv2
          cases ok with
          | false =>
            go_wp2_with fail
            go_ret
            exact ⟨rfl, A17.out.k.below⟩
          | true =>
            obtain rfl := HTS.out rfl
            go_wp2_with fail
            go_ret
            exact ⟨rfl, A17.out.k.below⟩

set_option maxRecDepth 100000 in
theorem lifted (os : Os) (started : os.Started) (H : Type) (enc : TypeId × Value → H) :
    ReturnsInHanded {} Tryd.checked os 3 .any (fun w args => (Rows.fnStreamsSpec.pre enc Tryd.prog Tryd.f3 Rows.fnStreamsRow.domain false w args ∧ laidMetH Tryd.prog Rows.fnStreamsRow.laid w) ∧ sizedMet enc Tryd.prog Tryd.f3 (OpenSpec.ofChange Rows.fnStreamsSpec) false w args)
      (Rows.fnStreamsSpec.post enc Tryd.prog Tryd.f3 false true false false) := by
  refine returnsInHanded_of_change_and (C := Tryd.checked) (X := fun w _ => laidMetH Tryd.prog Rows.fnStreamsRow.laid w) (fun _ _ _ hh h => h.of_heap hh) own started (by kernel_rfl) Tryd.func3
    (ChangeSpec.witness_shaped (enc := enc) (C := Tryd.checked) (os := os) (X := fun w _ => laidMetH Tryd.prog Rows.fnStreamsRow.laid w) false (World.laidAll Tryd.prog os Rows.fnStreamsRow.laid) #[.slice none 0 0] 8 (World.laidAll_os _ _ _)
      (World.shaped_of_ZipB (by kernel_rfl) (by kernel_rfl)) (by kernel_rfl) (by kernel_rfl) (by kernel_rfl)
      (by rw [MakeChecks.laidMetH_plain _ _ _ (by kernel_rfl)]; exact laidMet_laidAll _ (by kernel_rfl) (by kernel_rfl))) ?_
  intro W base args ds gs before hval0 hW _ _ hL _
  have hval : ∀ (j : Nat) t v, Tryd.f3.params[j]? = some t → args[j]? = some v → Value.okWide Tryd.prog W .any base t v := hval0
  have hW' := hW
  obtain ⟨p, q, hA0, hV, rfl, hfz, hnd⟩ := hW
  have hA : DataW.TrodAll enc Tryd.prog W 0 (fun _ => true) true Tryd.f3.params.toList args.toList ds p := hA0
  rw [Tryd.params3] at hA hval
  obtain ⟨v0, vs0, d0, ds0, p0, q0, hargs, rfl, rfl, h0, r0⟩ := trodAll_cons hA
  obtain ⟨rfl, rfl, rfl⟩ := trodAll_nil r0
  obtain rfl : args = #[v0] := by cases args; simp_all
  have hV1 : DataW.TrodVars enc Tryd.prog W (fun _ => true) Rows.fnStreamsSpec.vars gs q := hV
  obtain ⟨g1, g2, g3, g4, rfl⟩ : ∃ g1 g2 g3 g4, gs = [g1, g2, g3, g4] := by
    match gs, (vars_length hV1 : gs.length = 4) with
    | [g1, g2, g3, g4], _ => exact ⟨g1, g2, g3, g4, rfl⟩
  obtain ⟨a0, len0, cap0, rfl⟩ := okWide_slice Tryd.underlying22 (hval 0 22 v0 rfl rfl)
  have k0 := h0
  have lt0 : ∀ x ∈ p0, x.block < W.heap.size := by obtain ⟨m, hm⟩ := k0; exact DataW.trod_lt m _ _ _ hm
  obtain ⟨z0, w0⟩ : ∃ zs, IsRow .u8 W a0 len0 cap0 zs := by
    obtain ⟨fuel, hf⟩ := h0
    rcases open_ints Tryd.underlying22 Tryd.underlying5 (by kernel_rfl) hf with ⟨hcs, _⟩ | ⟨x, l, c, zs, hcs, _, hl, hm, hz, _, hcell, hwz⟩
    · simp [Value.cells] at hcs
      obtain ⟨rfl, rfl, rfl⟩ := hcs
      exact ⟨[], .inl ⟨rfl, rfl, rfl, rfl⟩⟩
    · simp [Value.cells] at hcs
      obtain ⟨rfl, rfl, rfl⟩ := hcs
      exact ⟨zs, .inr ⟨_, rfl, hl, hm, by simpa using hz, hcell, hwz⟩⟩
  clear hA0 hval0
  refine (walk a0 len0 cap0 z0 W w0 ⟨all_of hL⟩).mono fun e W' ⟨he, hg⟩ => ?_
  subst he
  exact ⟨_, rfl, _, _, _, [], _, q, hW', trodAll_mk1 (shut_bool Tryd.underlying4 _), (trodAll_cons_mk (Below.trod laidOut (by kernel_rfl) (of_decide_eq_true (by kernel_rfl)) k0 hg lt0) trodAll_mk0), Below.trodVars laidOut hg (by kernel_rfl) hV1, hg.frame _, fun h => by cases h⟩

theorem over : Rows.fnStreamsRow.holds Tryd.pinned (OpenSpec.ofChange Rows.fnStreamsSpec) :=
  OpenClaim.holds_of_wide 3 Tryd.f3 rfl rfl rfl rfl rfl rfl rfl ⟨rfl, rfl, rfl, rfl, rfl⟩ rfl rfl rfl rfl rfl (by kernel_rfl) Tryd.func3 (by kernel_rfl)
    (of_decide_eq_true (by kernel_rfl)) (by unfold Func.isWrapper; first | (rw [if_pos (by decide +kernel)]; kernel_rfl) | (rw [if_neg (by decide +kernel)]; exact ⟨rfl, rfl⟩))
    (fun os started H enc _ => lifted os started H enc)

theorem plain (f : FuncId) (fn : Func) (hf : Tryd.pinned.checked.prog.funcNamed Rows.fnStreamsRow.func = some f) (hfn : Tryd.pinned.checked.prog.funcs[f]? = some fn) :
    true = Tryd.pinned.checked.prog.looks [] ∧ ∀ (j : Nat) t, fn.params[j]? = some t → Tryd.pinned.checked.prog.wantsStandIn t = false := by
  obtain rfl : f = 3 := Option.some.inj ((show Tryd.prog.funcNamed Rows.fnStreamsRow.func = some 3 by kernel_rfl).symm.trans hf) |>.symm
  obtain rfl : fn = Tryd.f3 := (Option.some.inj (Tryd.func3.symm.trans hfn)).symm
  refine ⟨by kernel_rfl, fun j t ht => ?_⟩
  rw [Tryd.params3] at ht
  have hm : t ∈ [22] := by simpa using Array.mem_of_getElem? ht
  have hall : ([22].all fun u => !Tryd.prog.wantsStandIn u) = true := by kernel_rfl
  exact (show Tryd.prog.wantsStandIn t = false by simpa using List.all_eq_true.1 hall t hm)

end Go.Proofs.YtjbideiifoadkaaDoor.fnStreams

namespace Go.Proofs.YtjbideiifoadkaaDoor
theorem fnStreamsCard_holds : Rows.FnStreamsCardSaid :=
  Claim7.holds_tied_plain_at .later [] _ _ _ _ fnStreams.over (fun _ h => by cases h) (by kernel_rfl) (fun _ h => by cases h) fnStreams_row_tie rfl ⟨rfl, rfl⟩ (by kernel_rfl) rfl fnStreams.plain (by kernel_rfl)
#print axioms fnStreamsCard_holds
end Go.Proofs.YtjbideiifoadkaaDoor
