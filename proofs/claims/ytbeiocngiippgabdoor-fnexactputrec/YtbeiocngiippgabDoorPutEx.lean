/- PutRec in the laws' words. -/
import Derived.Test.YtbeiocngiippgabDoorPutE1S
import Derived.Test.YtbeiocngiippgabDoorPutE1I
import Derived.Test.YtbeiocngiippgabDoorPutE2S
import Derived.Test.YtbeiocngiippgabDoorPutE2I
import Derived.Test.YtbeiocngiippgabDoorPutE3S
import Derived.Test.YtbeiocngiippgabDoorPutE3I
import Derived.Test.YtbeiocngiippgabDoorPutE4S
import Derived.Test.YtbeiocngiippgabDoorPutE4I
namespace Go.Proofs.YtbeiocngiippgabDoor
set_option maxRecDepth 4000
open Go.RowKit

theorem ansSl_nil {w w' : World} (hB : Below w.heap.size w w') : AnsSl OwB [] w (.returned (.slice none 0 0)) w' :=
  ⟨⟨_, _, _, rfl, fun _ => False, ⟨fun _ hx => hx.elim, none, 0, 0, rfl, rfl, .inl ⟨rfl, rfl⟩⟩, fun _ hx => hx.elim⟩, hB⟩
set_option maxHeartbeats 8000000 in
theorem specPutRec_sl (gen place : Int) (cs : List Value) (r : RecD) (w : World) (h : RcRec w cs r) (hw : wtRec r ≤ 1048576) :
    Calls Tryd.prog 20 #[.int .i64 gen, .int .i64 place, .agg cs.toArray] w (AnsSl OwB (putRecB gen place r) w) := by
  obtain ⟨ok, hok⟩ : ∃ x, recOk r = x := ⟨_, rfl⟩
  obtain ⟨ig, hig⟩ : ∃ x, inB gen 0 65535 = x := ⟨_, rfl⟩
  obtain ⟨ip, hip⟩ : ∃ x, inB place 0 65535 = x := ⟨_, rfl⟩
  by_cases hall : ok = true ∧ ig = true ∧ ip = true
  · obtain ⟨rfl, rfl, rfl⟩ := hall
    by_cases e1 : r.kind = 1
    · exact specPutRec_1 gen place cs r w h hw e1 hok hig hip
    by_cases e2 : r.kind = 2
    · exact specPutRec_2 gen place cs r w h hw e2 hok hig hip
    by_cases e3 : r.kind = 3
    · exact specPutRec_3 gen place cs r w h hw e3 hok hig hip
    exact specPutRec_4 gen place cs r w h hw ⟨e1, e2, e3⟩ hok hig hip
  have HZ : Hd (putRecB gen place r = []) := ⟨by unfold putRecB; rw [hok, hig, hip]; exact if_pos (by revert hall; cases ok <;> cases ig <;> cases ip <;> simp)⟩
  have HK : Hd (recOk r = ok) := ⟨hok⟩
  have HG : Hd (inB gen 0 65535 = ig) := ⟨hig⟩
  have HP : Hd (inB place 0 65535 = ip) := ⟨hip⟩
  rewrite [HZ.out]
  clear hok hig hip HZ
  obtain ⟨l0, ⟨l1, l2, l3, l4, l5, l6, l7⟩, l8, l9, l10, l11, l12⟩ := r
  have HA : Hd (RcRec w cs ⟨l0, ⟨l1, l2, l3, l4, l5, l6, l7⟩, l8, l9, l10, l11, l12⟩) := ⟨h⟩
  simp only [RcRec] at h
  obtain ⟨x3, m3, d3, x5, m5, d5, rfl, _, r1⟩ := h
  have HWT : Hd (wtRec ⟨l0, ⟨l1, l2, l3, l4, l5, l6, l7⟩, l8, l9, l10, l11, l12⟩ ≤ 1048576) := ⟨hw⟩
  unfold wtRec at hw
  dsimp only at hw
  have HW : Hd (wtRow ⟨l1, l2, l3, l4, l5, l6, l7⟩ ≤ 1048576 ∧ l8.size ≤ 1048576) := ⟨by omega, by omega⟩
  have HR : Hd (RcRow w [.string l1, .int .i64 l2, .slice x3 m3 d3, .int .i64 l4, .slice x5 m5 d5, .int .i64 l6, .bool l7] ⟨l1, l2, l3, l4, l5, l6, l7⟩) := ⟨r1⟩
  clear hw r1
  have F0 : Hd (Bx 47 w #[.int .i64 l0, .string l1, .int .i64 l2, .slice x3 m3 d3, .int .i64 l4, .slice x5 m5 d5, .int .i64 l6, .bool l7, .string l8, .int .i64 l9, .int .i64 l10, .int .i64 l11, .int .i64 l12] (w.alloc (.cells #[.int .i64 l0, .string l1, .int .i64 l2, .slice x3 m3 d3, .int .i64 l4, .slice x5 m5 d5, .int .i64 l6, .bool l7, .string l8, .int .i64 l9, .int .i64 l10, .int .i64 l11, .int .i64 l12] 47))) := ⟨Bx.new _ w _⟩
  go_enter Tryd.func20, Tryd.ntmps20
  go_wp2_with fail
  refine (specRecOk_rd _ _ _ (rcRec_ok.below HA.out F0.out.bel) HWT.out).mono ?_
  rintro e v1 ⟨rfl, hB⟩
  rewrite [HK.out]
  have F1 : Hd (Bx 47 w #[.int .i64 l0, .string l1, .int .i64 l2, .slice x3 m3 d3, .int .i64 l4, .slice x5 m5 d5, .int .i64 l6, .bool l7, .string l8, .int .i64 l9, .int .i64 l10, .int .i64 l11, .int .i64 l12] v1) := ⟨F0.out.below hB⟩
  clear hB F0
  have OE : Hd (Own (v1.alloc (.cells #[] 5)) v1.heap.size 0 [] ∧ Below w.heap.size w (v1.alloc (.cells #[] 5)) ∧ w.heap.size ≤ v1.heap.size) := ⟨own_emp v1, Below.next F1.out.bel (below_lit v1 _), F1.out.bel.size⟩
  cases ok with
  | false =>
    go_wp2_with fail
    go_ret
    exact ansSl_own rfl OE.out.2.2 OE.out.1 OE.out.2.1
  | true =>
    go_wp2_with fail
    refine (l1Word_any gen _).mono ?_
    rintro e v9 ⟨rfl, hw⟩
    replace hw := hw.symm
    subst hw
    rewrite [HG.out]
    cases ig with
    | false =>
      go_wp2_with fail
      go_ret
      exact ansSl_own rfl OE.out.2.2 OE.out.1 OE.out.2.1
    | true =>
      go_wp2_with fail
      refine (l1Word_any place _).mono ?_
      rintro e v9 ⟨rfl, hw⟩
      replace hw := hw.symm
      subst hw
      rewrite [HP.out]
      cases ip with
      | false =>
        go_wp2_with fail
        go_ret
        exact ansSl_own rfl OE.out.2.2 OE.out.1 OE.out.2.1
      | true => exact absurd (by simp) hall

set_option maxHeartbeats 8000000 in
theorem implPutRec_sl (gen place : Int) (cs : List Value) (r : RecD) (w : World) (h : RcRec w cs r) (hw : wtRec r ≤ 1048576) (T : Hd (AllAt w)) :
    Calls Tryd.prog 22 #[.int .i64 gen, .int .i64 place, .agg cs.toArray] w (AnsSl OwB (putRecB gen place r) w) := by
  obtain ⟨ok, hok⟩ : ∃ x, recOk r = x := ⟨_, rfl⟩
  obtain ⟨ig, hig⟩ : ∃ x, inB gen 0 65535 = x := ⟨_, rfl⟩
  obtain ⟨ip, hip⟩ : ∃ x, inB place 0 65535 = x := ⟨_, rfl⟩
  by_cases hall : ok = true ∧ ig = true ∧ ip = true
  · obtain ⟨rfl, rfl, rfl⟩ := hall
    by_cases e1 : r.kind = 1
    · exact implPutRec_1 gen place cs r w h hw e1 hok hig hip T
    by_cases e2 : r.kind = 2
    · exact implPutRec_2 gen place cs r w h hw e2 hok hig hip T
    by_cases e3 : r.kind = 3
    · exact implPutRec_3 gen place cs r w h hw e3 hok hig hip T
    exact implPutRec_4 gen place cs r w h hw ⟨e1, e2, e3⟩ hok hig hip T
  have HZ : Hd (putRecB gen place r = []) := ⟨by unfold putRecB; rw [hok, hig, hip]; exact if_pos (by revert hall; cases ok <;> cases ig <;> cases ip <;> simp)⟩
  have HK : Hd (recOk r = ok) := ⟨hok⟩
  have HG : Hd (inB gen 0 65535 = ig) := ⟨hig⟩
  have HP : Hd (inB place 0 65535 = ip) := ⟨hip⟩
  rewrite [HZ.out]
  clear hok hig hip HZ
  obtain ⟨l0, ⟨l1, l2, l3, l4, l5, l6, l7⟩, l8, l9, l10, l11, l12⟩ := r
  have HA : Hd (RcRec w cs ⟨l0, ⟨l1, l2, l3, l4, l5, l6, l7⟩, l8, l9, l10, l11, l12⟩) := ⟨h⟩
  simp only [RcRec] at h
  obtain ⟨x3, m3, d3, x5, m5, d5, rfl, _, r1⟩ := h
  have HWT : Hd (wtRec ⟨l0, ⟨l1, l2, l3, l4, l5, l6, l7⟩, l8, l9, l10, l11, l12⟩ ≤ 1048576) := ⟨hw⟩
  unfold wtRec at hw
  dsimp only at hw
  have HW : Hd (wtRow ⟨l1, l2, l3, l4, l5, l6, l7⟩ ≤ 1048576 ∧ l8.size ≤ 1048576) := ⟨by omega, by omega⟩
  have HR : Hd (RcRow w [.string l1, .int .i64 l2, .slice x3 m3 d3, .int .i64 l4, .slice x5 m5 d5, .int .i64 l6, .bool l7] ⟨l1, l2, l3, l4, l5, l6, l7⟩) := ⟨r1⟩
  clear hw r1
  have F0 : Hd (Bx 47 w #[.int .i64 l0, .string l1, .int .i64 l2, .slice x3 m3 d3, .int .i64 l4, .slice x5 m5 d5, .int .i64 l6, .bool l7, .string l8, .int .i64 l9, .int .i64 l10, .int .i64 l11, .int .i64 l12] (w.alloc (.cells #[.int .i64 l0, .string l1, .int .i64 l2, .slice x3 m3 d3, .int .i64 l4, .slice x5 m5 d5, .int .i64 l6, .bool l7, .string l8, .int .i64 l9, .int .i64 l10, .int .i64 l11, .int .i64 l12] 47))) := ⟨Bx.new _ w _⟩
  go_enter Tryd.func22, Tryd.ntmps22
  go_wp2_with fail
  refine (implRecOk_rd _ _ _ (rcRec_ok.below HA.out F0.out.bel) HWT.out ⟨T.out.below F0.out.bel⟩).mono ?_
  rintro e v1 ⟨rfl, hB⟩
  rewrite [HK.out]
  have F1 : Hd (Bx 47 w #[.int .i64 l0, .string l1, .int .i64 l2, .slice x3 m3 d3, .int .i64 l4, .slice x5 m5 d5, .int .i64 l6, .bool l7, .string l8, .int .i64 l9, .int .i64 l10, .int .i64 l11, .int .i64 l12] v1) := ⟨F0.out.below hB⟩
  clear hB F0
  cases ok with
  | false =>
    go_wp2_with fail
    go_ret
    exact ansSl_nil F1.out.bel
  | true =>
    go_wp2_with fail
    refine (isWord_any gen _).mono ?_
    rintro e v9 ⟨rfl, hw⟩
    replace hw := hw.symm
    subst hw
    rewrite [HG.out]
    cases ig with
    | false =>
      go_wp2_with fail
      go_ret
      exact ansSl_nil F1.out.bel
    | true =>
      go_wp2_with fail
      refine (isWord_any place _).mono ?_
      rintro e v9 ⟨rfl, hw⟩
      replace hw := hw.symm
      subst hw
      rewrite [HP.out]
      cases ip with
      | false =>
        go_wp2_with fail
        go_ret
        exact ansSl_nil F1.out.bel
      | true => exact absurd (by simp) hall

theorem implPutRec_rd (gen place : Int) (cs : List Value) (r : RecD) (w : World) (h : RcRec w cs r) (hw : wtRec r ≤ 1048576) (T : Hd (AllAt w)) :
    Calls Tryd.prog 22 #[.int .i64 gen, .int .i64 place, .agg cs.toArray] w (AnsSl OwB (putRecB gen place r) w) := implPutRec_sl gen place cs r w h hw T
theorem specPutRec_rd (gen place : Int) (cs : List Value) (r : RecD) (w : World) (h : RcRec w cs r) (hw : wtRec r ≤ 1048576) :
    Calls Tryd.prog 20 #[.int .i64 gen, .int .i64 place, .agg cs.toArray] w (AnsRS RdB (putRecB gen place r) w) :=
  (specPutRec_sl gen place cs r w h hw).mono fun _ _ hA => hA.toR owB_ok

end Go.Proofs.YtbeiocngiippgabDoor
