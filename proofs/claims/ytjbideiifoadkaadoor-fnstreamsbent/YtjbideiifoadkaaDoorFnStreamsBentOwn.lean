/- For every code: of drawn states, bent or not, the program DecOk, Feed, DecEnd and DecNew answer as the specification does; the tables lie as the program lays them. -/
import Derived.Test.YtjbideiifoadkaaDoorCards
import Derived.Test.YtjbideiifoadkaaDoorTie
import Derived.WalkKit
import Derived.ProofKit
import Derived.OpenShut
import Derived.ShutString
import Derived.ChangeOld
import Derived.Below
import Derived.OpenVars
import Derived.Lay
import Derived.MakeChecks
import Derived.SevenTiedAt
import Derived.Stop.Joined
import Derived.Lib.SmallJoins
import Derived.Test.YtjbideiifoadkaaDoorStreamM
import Derived.Test.YtjbideiifoadkaaDoorLaidA
namespace Go.Proofs.YtjbideiifoadkaaDoor.fnStreamsBent
open Go.ChangeShapes Go.WideShapes Go.ChangeAt Go.RowKit
open Go.ChangeMaps (open_string shut_string)
set_option linter.unusedVariables false

theorem own : ownKnob Tryd.prog.godebug = none := by kernel_rfl
theorem laidOut : laidOutB Tryd.prog = true := by kernel_rfl

def IsRow (k : IntKind) (w : World) (a : Option Addr) (len cap : Nat) (zs : List Int) : Prop :=
  (a = none ∧ len = 0 ∧ cap = 0 ∧ zs = []) ∨
  ∃ x, a = some x ∧ len ≤ cap ∧ cap ≤ maxLen ∧ zs.length = cap ∧ (∀ i, i < zs.length → w.cell? (x.add i) = some (.int k (zs.getD i 0))) ∧ ∀ n ∈ zs, (Lit.int k n).wf = true

set_option maxRecDepth 20000 in
set_option maxHeartbeats 64000000 in
theorem walk (a0 : Option Addr) (len0 cap0 : Nat) (z0 : List Int) (w : World) (w0 : IsRow .u8 w a0 len0 cap0 z0) (T : Hd (AllAt w)) :
    Calls Tryd.prog 4 #[.slice a0 len0 cap0] w fun e w' => e = .returned (.bool true) ∧ Below w.heap.size w w' := by
  obtain ⟨bs, hr⟩ := reads_of_row w0
  have K0 : Hd (CStays w a0 len0 bs w) := ⟨CStays.start T.out hr⟩
  clear hr w0 T
  by_cases hb : (1048576 : Int) < (len0 : Int)
  · have hbd : decide ((1048576 : Int) < (len0 : Int)) = true := decide_eq_true hb
    go_enter Tryd.func4, Tryd.ntmps4
    go_wp2_with (go_at_call 8; refine (big_any _ _ _ _).mono ?_; rintro e w' ⟨rfl, rfl⟩)
    go_ret
    exact ⟨rfl, Below.refl _ _⟩
  · have hbd : decide ((1048576 : Int) < (len0 : Int)) = false := decide_eq_false hb
    have hl : len0 ≤ 1073741824 := by omega
    go_enter Tryd.func4, Tryd.ntmps4
    go_wp2_with fail
    refine (big_any _ _ _ _).mono ?_
    rintro e w' ⟨rfl, hw'⟩
    replace hw' := hw'.symm
    subst hw'
    go_wp2_with fail
    refine (drawDecOk_any a0 len0 cap0 bs _ hl K0.out.reads).mono ?_
    rintro e w1 ⟨csd, qd, md, cd, bd, ds, rfl, hm, hL, _, hmc, hB⟩
    have Ka : Hd (CStays w a0 len0 bs (w1.alloc (.cells #[.int .i64 csd, .slice (some ⟨qd, 0, none⟩) md cd, .bool bd] 30))) := ⟨(K0.out.next hB).next (below_lit w1 _)⟩
    have Da : Hd (BoxR w1.heap.size csd (some ⟨qd, 0, none⟩) md cd bd ds (w1.alloc (.cells #[.int .i64 csd, .slice (some ⟨qd, 0, none⟩) md cd, .bool bd] 30))) := ⟨boxR_new hL.left⟩
    generalize hp3 : w1.heap.size = p3 at *
    have hmd : md ≤ 3 := hm
    clear hm hL hmc hB K0
    go_wp2_with fail
    generalize hw2 : w1.alloc (.cells #[.int .i64 csd, .slice (some ⟨qd, 0, none⟩) md cd, .bool bd] 30) = w2 at *
    clear hp3 hw2
    refine (drawFeed_any a0 len0 cap0 bs _ hl Ka.out.reads).mono ?_
    rintro e w3 ⟨cs, q, m, c, bad, hs, q2, m2, c2, es, rfl, hm, hL, hmc, hm2, hL2, hmc2, hB⟩
    have Kb : Hd (CStays w a0 len0 bs (w3.alloc (.cells #[.int .i64 cs, .slice (some ⟨q, 0, none⟩) m c, .bool bad] 30))) := ⟨(Ka.out.next hB).next (below_lit w3 _)⟩
    have Db : Hd (BoxR p3 csd (some ⟨qd, 0, none⟩) md cd bd ds (w3.alloc (.cells #[.int .i64 cs, .slice (some ⟨q, 0, none⟩) m c, .bool bad] 30))) := ⟨(Da.out.below hB).below (below_lit w3 _)⟩
    have Ab : Hd (BoxR w3.heap.size cs (some ⟨q, 0, none⟩) m c bad hs (w3.alloc (.cells #[.int .i64 cs, .slice (some ⟨q, 0, none⟩) m c, .bool bad] 30))) := ⟨boxR_new hL.left⟩
    generalize hp4 : w3.heap.size = p4 at *
    have Lb : Hd (Lies (w3.alloc (.cells #[.int .i64 cs, .slice (some ⟨q, 0, none⟩) m c, .bool bad] 30)) q m hs) := ⟨hL.below (below_lit w3 _)⟩
    have Eb : Hd (Lies (w3.alloc (.cells #[.int .i64 cs, .slice (some ⟨q, 0, none⟩) m c, .bool bad] 30)) q2 m2 es) := ⟨hL2.below (below_lit w3 _)⟩
    have hm3 : m ≤ 3 := hm
    have hm81 : m2 ≤ 81 := hm2
    have hmC : m2 ≤ c2 := hmc2
    clear hm hL hmc hm2 hL2 hmc2 hB Ka Da
    obtain ⟨hx, h1⟩ : ∃ x, fedH cs hs bad es = x := ⟨_, rfl⟩
    obtain ⟨bx, h2⟩ : ∃ x, fedB cs hs bad es = x := ⟨_, rfl⟩
    obtain ⟨TX, h3⟩ : ∃ x, (⟨(fedT cs hs bad es).toArray⟩ : ByteArray) = x := ⟨_, rfl⟩
    obtain ⟨nx, h4⟩ : ∃ x, hx.length = x := ⟨_, rfl⟩
    have HHX : Hd (fedH cs hs bad es = hx) := ⟨h1⟩
    have HBX : Hd (fedB cs hs bad es = bx) := ⟨h2⟩
    have HTX : Hd ((⟨(fedT cs hs bad es).toArray⟩ : ByteArray) = TX) := ⟨h3⟩
    have HNX : Hd (hx.length = nx) := ⟨h4⟩
    clear h1 h2 h3 h4
    obtain ⟨z0, z1, z2, _, _, _⟩ := cells3 (w3.alloc (.cells #[.int .i64 cs, .slice (some ⟨q, 0, none⟩) m c, .bool bad] 30)) p4 _ _ _ _ Ab.out.box
    go_wp2_with fail
    generalize hw4 : w3.alloc (.cells #[.int .i64 cs, .slice (some ⟨q, 0, none⟩) m c, .bool bad] 30) = w4 at *
    clear hp4 hw4
    refine (implFeed_to cs (some ⟨q, 0, none⟩) (some ⟨q2, 0, none⟩) m c m2 c2 bad hs es hx bx TX nx _ Lb.out.left Eb.out.reads (by omega) (by omega) ⟨Kb.out.tabs⟩ HHX.out HBX.out HTX.out HNX.out).mono ?_
    rintro e w5 ⟨ax, cx, rfl, hO, hB⟩
    have Kc : Hd (CStays w a0 len0 bs (w5.alloc (.cells #[.int .i64 cs, .slice ax nx cx, .bool bx] 30))) := ⟨(Kb.out.next hB).next (below_lit w5 _)⟩
    have Dc : Hd (BoxR p3 csd (some ⟨qd, 0, none⟩) md cd bd ds (w5.alloc (.cells #[.int .i64 cs, .slice ax nx cx, .bool bx] 30))) := ⟨(Db.out.below hB).below (below_lit w5 _)⟩
    have Ac : Hd (BoxR p4 cs (some ⟨q, 0, none⟩) m c bad hs (w5.alloc (.cells #[.int .i64 cs, .slice ax nx cx, .bool bx] 30))) := ⟨(Ab.out.below hB).below (below_lit w5 _)⟩
    have Lc : Hd (Lies (w5.alloc (.cells #[.int .i64 cs, .slice ax nx cx, .bool bx] 30)) q m hs) := ⟨(Lb.out.below hB).below (below_lit w5 _)⟩
    have Ec : Hd (Lies (w5.alloc (.cells #[.int .i64 cs, .slice ax nx cx, .bool bx] 30)) q2 m2 es) := ⟨(Eb.out.below hB).below (below_lit w5 _)⟩
    have Xc : Hd (BoxR w5.heap.size cs ax nx cx bx hx (w5.alloc (.cells #[.int .i64 cs, .slice ax nx cx, .bool bx] 30))) := ⟨boxR_new (hO.left HNX.out)⟩
    generalize hp6 : w5.heap.size = p6 at *
    clear hO hB z0 z1 z2 Kb Db Ab Lb Eb
    obtain ⟨z0, z1, z2, _, _, _⟩ := cells3 (w5.alloc (.cells #[.int .i64 cs, .slice ax nx cx, .bool bx] 30)) p4 _ _ _ _ Ac.out.box
    go_wp2_with fail
    generalize hw6 : w5.alloc (.cells #[.int .i64 cs, .slice ax nx cx, .bool bx] 30) = w6 at *
    clear hp6 hw6
    refine (specFeed_to cs q m c q2 m2 c2 bad hs es hx bx TX nx _ Lc.out Ec.out (by omega) (by omega) HHX.out HBX.out HTX.out HNX.out).mono ?_
    rintro e w7 ⟨ay, cy, rfl, hO, hB⟩
    have Kd : Hd (CStays w a0 len0 bs (w7.alloc (.cells #[.int .i64 cs, .slice ay nx cy, .bool bx] 30))) := ⟨(Kc.out.next hB).next (below_lit w7 _)⟩
    have Dd : Hd (BoxR p3 csd (some ⟨qd, 0, none⟩) md cd bd ds (w7.alloc (.cells #[.int .i64 cs, .slice ay nx cy, .bool bx] 30))) := ⟨(Dc.out.below hB).below (below_lit w7 _)⟩
    have Ad : Hd (BoxR p4 cs (some ⟨q, 0, none⟩) m c bad hs (w7.alloc (.cells #[.int .i64 cs, .slice ay nx cy, .bool bx] 30))) := ⟨(Ac.out.below hB).below (below_lit w7 _)⟩
    have Ld : Hd (Lies (w7.alloc (.cells #[.int .i64 cs, .slice ay nx cy, .bool bx] 30)) q m hs) := ⟨(Lc.out.below hB).below (below_lit w7 _)⟩
    have Ed : Hd (Lies (w7.alloc (.cells #[.int .i64 cs, .slice ay nx cy, .bool bx] 30)) q2 m2 es) := ⟨(Ec.out.below hB).below (below_lit w7 _)⟩
    have Xd : Hd (BoxR p6 cs ax nx cx bx hx (w7.alloc (.cells #[.int .i64 cs, .slice ay nx cy, .bool bx] 30))) := ⟨(Xc.out.below hB).below (below_lit w7 _)⟩
    have Yd : Hd (BoxR w7.heap.size cs ay nx cy bx hx (w7.alloc (.cells #[.int .i64 cs, .slice ay nx cy, .bool bx] 30))) := ⟨boxR_new (hO.left HNX.out)⟩
    generalize hp8 : w7.heap.size = p8 at *
    clear hO hB z0 z1 z2 Kc Dc Ac Lc Ec Xc HHX HBX HTX HNX
    clear Ad Ld Ed
    go_wp2_with fail
    generalize hw8 : w7.alloc (.cells #[.int .i64 cs, .slice ay nx cy, .bool bx] 30) = w8 at *
    clear hp8 hw8
    refine (drawDecEnd_any a0 len0 cap0 bs _ hl Kd.out.reads).mono ?_
    rintro e w10 ⟨cse, qe, me, ce, be, fs, rfl, hm, hL, _, hmc, hB⟩
    have Ke : Hd (CStays w a0 len0 bs (w10.alloc (.cells #[.int .i64 cse, .slice (some ⟨qe, 0, none⟩) me ce, .bool be] 30))) := ⟨(Kd.out.next hB).next (below_lit w10 _)⟩
    have De : Hd (BoxR p3 csd (some ⟨qd, 0, none⟩) md cd bd ds (w10.alloc (.cells #[.int .i64 cse, .slice (some ⟨qe, 0, none⟩) me ce, .bool be] 30))) := ⟨(Dd.out.below hB).below (below_lit w10 _)⟩
    have Xe : Hd (BoxR p6 cs ax nx cx bx hx (w10.alloc (.cells #[.int .i64 cse, .slice (some ⟨qe, 0, none⟩) me ce, .bool be] 30))) := ⟨(Xd.out.below hB).below (below_lit w10 _)⟩
    have Ye : Hd (BoxR p8 cs ay nx cy bx hx (w10.alloc (.cells #[.int .i64 cse, .slice (some ⟨qe, 0, none⟩) me ce, .bool be] 30))) := ⟨(Yd.out.below hB).below (below_lit w10 _)⟩
    have Fe : Hd (BoxR w10.heap.size cse (some ⟨qe, 0, none⟩) me ce be fs (w10.alloc (.cells #[.int .i64 cse, .slice (some ⟨qe, 0, none⟩) me ce, .bool be] 30))) := ⟨boxR_new hL.left⟩
    generalize hp10 : w10.heap.size = p10 at *
    have hme : me ≤ 3 := hm
    clear hm hL hmc hB Kd Dd Xd Yd
    go_wp2_with fail
    generalize hw11 : w10.alloc (.cells #[.int .i64 cse, .slice (some ⟨qe, 0, none⟩) me ce, .bool be] 30) = w11 at *
    clear hp10 hw11
    refine (drawDecNew_any a0 len0 cap0 bs _ hl Ke.out.reads).mono ?_
    rintro e w12 ⟨n, rfl, _, hB⟩
    have Kf : Hd (CStays w a0 len0 bs w12) := ⟨Ke.out.next hB⟩
    have Df : Hd (BoxR p3 csd (some ⟨qd, 0, none⟩) md cd bd ds w12) := ⟨De.out.below hB⟩
    have Xf : Hd (BoxR p6 cs ax nx cx bx hx w12) := ⟨Xe.out.below hB⟩
    have Yf : Hd (BoxR p8 cs ay nx cy bx hx w12) := ⟨Ye.out.below hB⟩
    have Ff : Hd (BoxR p10 cse (some ⟨qe, 0, none⟩) me ce be fs w12) := ⟨Fe.out.below hB⟩
    clear hB Ke De Xe Ye Fe
    obtain ⟨okd, h1⟩ : ∃ x, sOk csd ds bd = x := ⟨_, rfl⟩
    obtain ⟨oke, h2⟩ : ∃ x, (sOk cse fs be && !be && decide (fs = [])) = x := ⟨_, rfl⟩
    have HOD : Hd (sOk csd ds bd = okd) := ⟨h1⟩
    have HOE : Hd ((sOk cse fs be && !be && decide (fs = [])) = oke) := ⟨h2⟩
    obtain ⟨XB, h3⟩ : ∃ x : ByteArray, (⟨hx.toArray⟩ : ByteArray) = x := ⟨_, rfl⟩
    have HXB : Hd ((⟨hx.toArray⟩ : ByteArray) = XB) := ⟨h3⟩
    clear h1 h2 h3
    have KS : Hd (∀ w', Below w12.heap.size w12 w' → (fun w' => (w'.cell? ⟨p3, 0, none⟩ = some (.int .i64 csd) ∧ w'.cell? ⟨p3, 1, none⟩ = some (.slice (some ⟨qd, 0, none⟩) md cd) ∧ w'.cell? ⟨p3, 2, none⟩ = some (.bool bd)) ∧ (w'.cell? ⟨p6, 0, none⟩ = some (.int .i64 cs) ∧ w'.cell? ⟨p6, 1, none⟩ = some (.slice ax nx cx) ∧ w'.cell? ⟨p6, 2, none⟩ = some (.bool bx)) ∧ (w'.cell? ⟨p8, 0, none⟩ = some (.int .i64 cs) ∧ w'.cell? ⟨p8, 1, none⟩ = some (.slice ay nx cy) ∧ w'.cell? ⟨p8, 2, none⟩ = some (.bool bx)) ∧ (w'.cell? ⟨p10, 0, none⟩ = some (.int .i64 cse) ∧ w'.cell? ⟨p10, 1, none⟩ = some (.slice (some ⟨qe, 0, none⟩) me ce) ∧ w'.cell? ⟨p10, 2, none⟩ = some (.bool be)) ∧ (convert 22 9 (.slice ax nx cx)).run Tryd.prog w' = .ok (.string XB) w' ∧ (convert 22 9 (.slice ay nx cy)).run Tryd.prog w' = .ok (.string XB) w') w') := ⟨fun w' hb => by
      obtain ⟨x00, x01, x02, _, _, _⟩ := cells3 w' p3 _ _ _ _ (Df.out.below hb).box
      obtain ⟨x10, x11, x12, _, _, _⟩ := cells3 w' p6 _ _ _ _ (Xf.out.below hb).box
      obtain ⟨x20, x21, x22, _, _, _⟩ := cells3 w' p8 _ _ _ _ (Yf.out.below hb).box
      obtain ⟨x30, x31, x32, _, _, _⟩ := cells3 w' p10 _ _ _ _ (Ff.out.below hb).box
      have cv1 := conv_left (Xf.out.below hb).left
      have cv2 := conv_left (Yf.out.below hb).left
      rw [HXB.out] at cv1 cv2
      exact ⟨⟨x00, x01, x02⟩, ⟨x10, x11, x12⟩, ⟨x20, x21, x22⟩, ⟨x30, x31, x32⟩, cv1, cv2⟩⟩
    have g1 : (okd == okd) = true := by simp
    have g2 : (cs == cs) = true := by simp
    have g3 : (bx == bx) = true := by simp
    have g4 : (oke == oke) = true := by simp
    have g5 : (n == n) = true := by simp
    have fl0 : ∀ w : World, (Instr.field 30 (.agg #[.int .i64 n, .slice none 0 0, .bool false]) 0).run Tryd.prog w = .ok (.int .i64 n) w := fun w => by kernel_rfl
    have fl1 : ∀ w : World, (Instr.field 30 (.agg #[.int .i64 n, .slice none 0 0, .bool false]) 1).run Tryd.prog w = .ok (.slice none 0 0) w := fun w => by kernel_rfl
    go_wp2_with fail
    go_region_held (fun w' => (w'.cell? ⟨p3, 0, none⟩ = some (.int .i64 csd) ∧ w'.cell? ⟨p3, 1, none⟩ = some (.slice (some ⟨qd, 0, none⟩) md cd) ∧ w'.cell? ⟨p3, 2, none⟩ = some (.bool bd)) ∧ (w'.cell? ⟨p6, 0, none⟩ = some (.int .i64 cs) ∧ w'.cell? ⟨p6, 1, none⟩ = some (.slice ax nx cx) ∧ w'.cell? ⟨p6, 2, none⟩ = some (.bool bx)) ∧ (w'.cell? ⟨p8, 0, none⟩ = some (.int .i64 cs) ∧ w'.cell? ⟨p8, 1, none⟩ = some (.slice ay nx cy) ∧ w'.cell? ⟨p8, 2, none⟩ = some (.bool bx)) ∧ (w'.cell? ⟨p10, 0, none⟩ = some (.int .i64 cse) ∧ w'.cell? ⟨p10, 1, none⟩ = some (.slice (some ⟨qe, 0, none⟩) me ce) ∧ w'.cell? ⟨p10, 2, none⟩ = some (.bool be)) ∧ (convert 22 9 (.slice ax nx cx)).run Tryd.prog w' = .ok (.string XB) w' ∧ (convert 22 9 (.slice ay nx cy)).run Tryd.prog w' = .ok (.string XB) w') (first | assumption | exact KS.out _ (Below.refl _ w12).drew | exact KS.out _ B18.out | exact KS.out _ B17.out | exact KS.out _ B16.out | exact KS.out _ B15.out | exact KS.out _ B14.out | exact KS.out _ B13.out) (first | (go_at_call 13; refine (implDecOk_to csd (some ⟨qd, 0, none⟩) md cd bd ds okd _ ?_ ?_ HOD.out).mono ?_; exact Df.out.left.1.below rfl (Below.refl _ w12).drew; exact ⟨Kf.out.tabs.below (Below.refl _ w12).drew⟩; rintro e w13 ⟨rfl, hB⟩; have B13 : Hd (Below w12.heap.size w12 w13) := (⟨Below.next (Below.refl _ w12).drew hB⟩); clear hB) | (go_at_call 14; refine (specDecOk_to csd (some ⟨qd, 0, none⟩) md cd bd ds okd _ ?_ (by omega) HOD.out).mono ?_; exact Df.out.left.1.below rfl B13.out; rintro e w14 ⟨rfl, hB⟩; have B14 : Hd (Below w12.heap.size w12 w14) := (⟨Below.next B13.out hB⟩); clear hB) | (go_at_call 17; refine (implDecEnd_to cse (some ⟨qe, 0, none⟩) me ce be fs oke _ ?_ ?_ HOE.out).mono ?_; exact Ff.out.left.1.below rfl B14.out; exact ⟨Kf.out.tabs.below B14.out⟩; rintro e w15 ⟨rfl, hB⟩; have B15 : Hd (Below w12.heap.size w12 w15) := (⟨Below.next B14.out hB⟩); clear hB) | (go_at_call 23; refine (specDecEnd_to cse (some ⟨qe, 0, none⟩) me ce be fs oke _ ?_ (by omega) HOE.out).mono ?_; exact Ff.out.left.1.below rfl B15.out; rintro e w16 ⟨rfl, hB⟩; have B16 : Hd (Below w12.heap.size w12 w16) := (⟨Below.next B15.out hB⟩); clear hB) | (go_at_call 12; refine (implDecNew_any n _).mono ?_; rintro e w17 ⟨rfl, hB⟩; have B17 : Hd (Below w12.heap.size w12 w17) := (⟨Below.next B16.out hB⟩); clear hB) | (go_at_call 12; refine (implDecNew_any n _).mono ?_; rintro e w18 ⟨rfl, hB⟩; have B18 : Hd (Below w12.heap.size w12 w18) := (⟨Below.next B17.out hB⟩); clear hB))
    have K18 : Hd (CStays w a0 len0 bs w18) := ⟨Kf.out.next B18.out⟩
    clear KS B13 B14 B15 B16 B17 B18 Df Xf Yf Ff Kf
    go_wp2_with fail
    go_ret
    exact ⟨rfl, K18.out.below⟩

set_option maxRecDepth 100000 in
theorem lifted (os : Os) (started : os.Started) (H : Type) (enc : TypeId × Value → H) :
    ReturnsInHanded {} Tryd.checked os 4 .any (fun w args => (Rows.fnStreamsBentSpec.pre enc Tryd.prog Tryd.f4 Rows.fnStreamsBentRow.domain false w args ∧ laidMetH Tryd.prog Rows.fnStreamsBentRow.laid w) ∧ sizedMet enc Tryd.prog Tryd.f4 (OpenSpec.ofChange Rows.fnStreamsBentSpec) false w args)
      (Rows.fnStreamsBentSpec.post enc Tryd.prog Tryd.f4 false true false false) := by
  refine returnsInHanded_of_change_and (C := Tryd.checked) (X := fun w _ => laidMetH Tryd.prog Rows.fnStreamsBentRow.laid w) (fun _ _ _ hh h => h.of_heap hh) own started (by kernel_rfl) Tryd.func4
    (ChangeSpec.witness_shaped (enc := enc) (C := Tryd.checked) (os := os) (X := fun w _ => laidMetH Tryd.prog Rows.fnStreamsBentRow.laid w) false (World.laidAll Tryd.prog os Rows.fnStreamsBentRow.laid) #[.slice none 0 0] 8 (World.laidAll_os _ _ _)
      (World.shaped_of_ZipB (by kernel_rfl) (by kernel_rfl)) (by kernel_rfl) (by kernel_rfl) (by kernel_rfl)
      (by rw [MakeChecks.laidMetH_plain _ _ _ (by kernel_rfl)]; exact laidMet_laidAll _ (by kernel_rfl) (by kernel_rfl))) ?_
  intro W base args ds gs before hval0 hW _ _ hL _
  have hval : ∀ (j : Nat) t v, Tryd.f4.params[j]? = some t → args[j]? = some v → Value.okWide Tryd.prog W .any base t v := hval0
  have hW' := hW
  obtain ⟨p, q, hA0, hV, rfl, hfz, hnd⟩ := hW
  have hA : DataW.TrodAll enc Tryd.prog W 0 (fun _ => true) true Tryd.f4.params.toList args.toList ds p := hA0
  rw [Tryd.params4] at hA hval
  obtain ⟨v0, vs0, d0, ds0, p0, q0, hargs, rfl, rfl, h0, r0⟩ := trodAll_cons hA
  obtain ⟨rfl, rfl, rfl⟩ := trodAll_nil r0
  obtain rfl : args = #[v0] := by cases args; simp_all
  have hV1 : DataW.TrodVars enc Tryd.prog W (fun _ => true) Rows.fnStreamsBentSpec.vars gs q := hV
  obtain ⟨g1, g2, g3, g4, rfl⟩ : ∃ g1 g2 g3 g4, gs = [g1, g2, g3, g4] := by
    match gs, (vars_length hV1 : gs.length = 4) with
    | [g1, g2, g3, g4], _ => exact ⟨g1, g2, g3, g4, rfl⟩
  obtain ⟨a0, len0, cap0, rfl⟩ := okWide_slice Tryd.underlying22 (hval 0 22 v0 rfl rfl)
  have k0 := h0
  have lt0 : ∀ x ∈ p0, x.block < W.heap.size := by obtain ⟨m, hm⟩ := k0; exact DataW.trod_lt m _ _ _ hm
  obtain ⟨z0, w0⟩ : ∃ zs, IsRow .u8 W a0 len0 cap0 zs := by
    obtain ⟨fuel, hf⟩ := h0
    rcases open_ints Tryd.underlying22 Tryd.underlying5 (by kernel_rfl) hf with ⟨hcs, _⟩ | ⟨x, l, c, zs, hcs, _, hl, hm, hz, _, hcell, hwz⟩
    · simp [Value.cells] at hcs
      obtain ⟨rfl, rfl, rfl⟩ := hcs
      exact ⟨[], .inl ⟨rfl, rfl, rfl, rfl⟩⟩
    · simp [Value.cells] at hcs
      obtain ⟨rfl, rfl, rfl⟩ := hcs
      exact ⟨zs, .inr ⟨_, rfl, hl, hm, by simpa using hz, hcell, hwz⟩⟩
  clear hA0 hval0
  refine (walk a0 len0 cap0 z0 W w0 ⟨all_of hL⟩).mono fun e W' ⟨he, hg⟩ => ?_
  subst he
  exact ⟨_, rfl, _, _, _, [], _, q, hW', trodAll_mk1 (shut_bool Tryd.underlying4 _), (trodAll_cons_mk (Below.trod laidOut (by kernel_rfl) (of_decide_eq_true (by kernel_rfl)) k0 hg lt0) trodAll_mk0), Below.trodVars laidOut hg (by kernel_rfl) hV1, hg.frame _, fun h => by cases h⟩

theorem over : Rows.fnStreamsBentRow.holds Tryd.pinned (OpenSpec.ofChange Rows.fnStreamsBentSpec) :=
  OpenClaim.holds_of_wide 4 Tryd.f4 rfl rfl rfl rfl rfl rfl rfl ⟨rfl, rfl, rfl, rfl, rfl⟩ rfl rfl rfl rfl rfl (by kernel_rfl) Tryd.func4 (by kernel_rfl)
    (of_decide_eq_true (by kernel_rfl)) (by unfold Func.isWrapper; first | (rw [if_pos (by decide +kernel)]; kernel_rfl) | (rw [if_neg (by decide +kernel)]; exact ⟨rfl, rfl⟩))
    (fun os started H enc _ => lifted os started H enc)

theorem plain (f : FuncId) (fn : Func) (hf : Tryd.pinned.checked.prog.funcNamed Rows.fnStreamsBentRow.func = some f) (hfn : Tryd.pinned.checked.prog.funcs[f]? = some fn) :
    true = Tryd.pinned.checked.prog.looks [] ∧ ∀ (j : Nat) t, fn.params[j]? = some t → Tryd.pinned.checked.prog.wantsStandIn t = false := by
  obtain rfl : f = 4 := Option.some.inj ((show Tryd.prog.funcNamed Rows.fnStreamsBentRow.func = some 4 by kernel_rfl).symm.trans hf) |>.symm
  obtain rfl : fn = Tryd.f4 := (Option.some.inj (Tryd.func4.symm.trans hfn)).symm
  refine ⟨by kernel_rfl, fun j t ht => ?_⟩
  rw [Tryd.params4] at ht
  have hm : t ∈ [22] := by simpa using Array.mem_of_getElem? ht
  have hall : ([22].all fun u => !Tryd.prog.wantsStandIn u) = true := by kernel_rfl
  exact (show Tryd.prog.wantsStandIn t = false by simpa using List.all_eq_true.1 hall t hm)

end Go.Proofs.YtjbideiifoadkaaDoor.fnStreamsBent

namespace Go.Proofs.YtjbideiifoadkaaDoor
theorem fnStreamsBentCard_holds : Rows.FnStreamsBentCardSaid :=
  Claim7.holds_tied_plain_at .later [] _ _ _ _ fnStreamsBent.over (fun _ h => by cases h) (by kernel_rfl) (fun _ h => by cases h) fnStreamsBent_row_tie rfl ⟨rfl, rfl⟩ (by kernel_rfl) rfl fnStreamsBent.plain (by kernel_rfl)
#print axioms fnStreamsBentCard_holds
end Go.Proofs.YtjbideiifoadkaaDoor
