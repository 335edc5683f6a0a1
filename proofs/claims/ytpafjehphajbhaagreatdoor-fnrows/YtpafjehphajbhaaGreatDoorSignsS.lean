/- The contract of Signs in the specification. -/
import Derived.Test.YtpafjehphajbhaaGreatDoorSignsI
import Derived.Test.YtpafjehphajbhaaGreatDoorGetSpecB
import Derived.Lib.ConvBytes
namespace Go.Proofs.YtpafjehphajbhaaGreatDoor
set_option maxRecDepth 4000
open Go.RowKit

/-- The bytes of a text, in new memory. -/
structure Bytes (w W : World) (s : ByteArray) (cap : Nat) : Prop where
  cap : s.size ≤ cap
  cell : ∀ j, j < s.size → W.cell? ⟨w.heap.size, 0 + j, none⟩ = some (.int .u8 ((s.data.toList.getD j 0).toNat : Int))
  bel : Below w.heap.size w W
  size : W.heap.size = w.heap.size + 1
  typ : ∃ cs fz, W.heap[w.heap.size]? = some (.cells cs 5 fz)
theorem conv_string (s : ByteArray) (w : World) : ∃ (cap : Nat) (W : World), (convert 9 22 (.string s)).run Tryz.prog w = .ok (.slice (some ⟨w.heap.size, 0, none⟩) s.size cap) W ∧ Bytes w W s cap := by
  refine ⟨_, _, Lib.run_convert_string_bytes w _ _ 5 s Tryz.underlying9 Tryz.underlying22 Tryz.underlying5, ⟨grownCap_ge _ _ _ _, fun j hj => by rw [Nat.zero_add]; exact Lib.bytesWorld_cell w _ s j hj, ?_, Lib.bytesWorld_size w _ s, _, _, Lib.bytesWorld_at_new w _ s⟩⟩
  refine ⟨?_, ?_, ?_, by rw [Lib.bytesWorld_size]; omega, fun k hk => Lib.bytesWorld_at_old w _ s k hk⟩
  all_goals
    unfold Lib.bytesWorld World.freeze
    rw [if_neg (by decide)]
    rfl

/-- Where the loop over the bytes stands. -/
structure SpecAt (w : World) (gb : Nat) (s : ByteArray) (l : List Int) (pos q c : Nat) (wr : World) : Prop where
  own : OwnI wr q c l
  qg : w.heap.size ≤ q
  byt : ∀ j, j < s.size → wr.cell? ⟨gb, 0 + j, none⟩ = some (.int .u8 ((s.data.toList.getD j 0).toNat : Int))
  typ : ∃ cs fz, wr.heap[gb]? = some (.cells cs 5 fz)
  bel : Below w.heap.size w wr
  rd : ReadTo s l pos

theorem SpecAt.gbl {w : World} {gb : Nat} {s : ByteArray} {l : List Int} {pos q c : Nat} {wr : World} (h : SpecAt w gb s l pos q c wr) : gb < wr.heap.size := by
  obtain ⟨cs, fz, hg⟩ := h.typ
  exact (Array.getElem?_eq_some_iff.1 hg).1
theorem own_ne {wr : World} {gb q c : Nat} {l : List Int} (h : OwnI wr q c l) (ht : ∃ cs fz, wr.heap[gb]? = some (.cells cs 5 fz)) : q ≠ gb := by
  rintro rfl
  obtain ⟨cs, fz, hg⟩ := ht
  obtain ⟨cur, hq, _⟩ := h
  rw [hg] at hq
  simp at hq
theorem SpecAt.below {w : World} {gb : Nat} {s : ByteArray} {l : List Int} {pos q c : Nat} {wr wr' : World} (h : SpecAt w gb s l pos q c wr) (hb : Below wr.heap.size wr wr') : SpecAt w gb s l pos q c wr' :=
  ⟨h.own.below hb, h.qg, fun j hj => (hb.cell (p := ⟨gb, 0 + j, none⟩) h.gbl).trans (h.byt j hj), by obtain ⟨cs, fz, hg⟩ := h.typ; exact ⟨cs, fz, (hb.block gb h.gbl).trans hg⟩, Below.next h.bel hb, h.rd⟩
theorem SpecAt.next {w : World} {gb : Nat} {s : ByteArray} {l : List Int} {pos q c : Nat} {wr w3 : World} {z : Int} {v : Value} {o : Obj} (h : SpecAt w gb s l pos q c wr) (hown : w3.ownsRow q 3 1 v (l.length + 1) (l.map ci ++ [.int .i64 z])) (hgr : (wr.alloc o).grownBy w3 (some q)) (hne : v ≠ .slice none 0 0) (hg : Got (s.data.toList.drop pos) z) : ∃ q' c', v = .slice (some ⟨q', 0, none⟩) (l ++ [z]).length c' ∧ SpecAt w gb s (l ++ [z]) (pos + (signB z).length) q' c' w3 := by
  have hown' : w3.ownsRow q 3 1 v (l.length + 1) ((l ++ [z]).map ci) := by rw [List.map_append]; exact hown
  obtain ⟨q', c', hv, hq', hO⟩ := own_rowI hown' hne
  have hgb := h.gbl
  have hqb := own_ne h.own h.typ
  have hb : w3.heap[gb]? = wr.heap[gb]? := by
    rw [hgr.block gb (by simp; omega) (by simp; omega), Below.heap_alloc wr o gb hgb]
  have hbs := h.bel.size
  exact ⟨q', c', by rw [hv, List.length_append]; rfl, ⟨hO, Nat.le_trans h.qg hq', fun j hj => (World.cell?_of_block (w := wr) (a := ⟨gb, 0 + j, none⟩) hb).trans (h.byt j hj), by obtain ⟨cs, fz, hg⟩ := h.typ; exact ⟨cs, fz, hb.trans hg⟩, (h.bel.alloc hbs o).grown hgr (by simp; omega) (fun k hk => by simp at hk; have := h.qg; omega), readTo_next h.rd hg⟩⟩

set_option maxHeartbeats 2000000 in
theorem specSigns_any (s : ByteArray) (w : World) (hs : s.size ≤ 1073741824) : Calls Tryz.prog 84 #[.string s] w (SignsOut w s.data.toList) := by
  obtain ⟨i0, hi, hz0, hz1, hz2⟩ := info_parts info64
  obtain ⟨cap, W, hcv, hby⟩ := conv_string s (w.alloc (.cells #[] 3))
  have hwz : (w.alloc (.cells #[] 3)).heap.size = w.heap.size + 1 := by simp
  rw [hwz] at hcv
  have HS : Hd (SpecAt w (w.heap.size + 1) s [] 0 w.heap.size 0 W) := ⟨by
    obtain ⟨b1, b2, b3, b4, b5⟩ := hby
    rw [hwz] at b2 b3 b4 b5
    have hO : OwnI (w.alloc (.cells #[] 3)) w.heap.size 0 [] := ⟨#[], heap_alloc_new w _, Nat.le_refl _, Nat.zero_le _, rfl, rfl⟩
    exact ⟨hO.of_block (b3.block _ (by omega)), Nat.le_refl _, b2, b5, ((Below.refl _ w).alloc (Nat.le_refl _) _).trans (b3.mono (by omega)), readTo_zero s⟩⟩
  have hcap : s.size ≤ cap := hby.cap
  clear hby hwz
  go_enter Tryz.func84, Tryz.ntmps84
  go_wp2_with fail
  go_loopw [4, 6] (fun v i wr => ∃ (l : List Int) (pos q c : Nat), pos ≤ s.size ∧ i = .int .i64 pos ∧ v = .slice (some ⟨q, 0, none⟩) l.length c ∧ Hd (SpecAt w (w.heap.size + 1) s l pos q c wr)) (fun _ i _ => s.size - (intOf i).toNat)
  case atStart => exact ⟨[], 0, _, _, Nat.zero_le _, rfl, rfl, HS⟩
  case round =>
    clear HS hcv
    obtain ⟨l, pos, q, c, hpl, rfl, rfl, H⟩ := hrel
    by_cases hp : pos < s.size
    · have hpI : (pos : Int) < (s.size : Int) := by omega
      go_wp2_with fail
      refine (specGetSign_any (w.heap.size + 1) 0 s.size cap s.data.toList (pos : Int) _ (by rw [Array.length_toList]; rfl) hcap H.out.byt (by omega)).mono ?_
      rintro e w1 ⟨⟨r1, r2, r3⟩, rfl, hG, hB⟩
      have H1 : Hd (SpecAt w (w.heap.size + 1) s l pos q c w1) := ⟨H.out.below hB⟩
      have hlen : s.data.toList.length = s.size := by rw [Array.length_toList]; rfl
      rcases hG with ⟨h1, h2, h3, h4, h5⟩ | ⟨h1, h2⟩
      · simp only at h1 h4 h5
        subst h1 h5
        have hg : Hd (Got (s.data.toList.drop pos) r1) := ⟨by simpa using h4⟩
        have hr1 := h4.1
        have hr2 : 0 ≤ r1 ∧ r1 < 1114112 := by rcases hr1 with h | h <;> omega
        have hl1 : Hd (1 ≤ (signB r1).length ∧ pos + (signB r1).length ≤ s.size) := ⟨signB_pos hr1, (readTo_next H.out.rd hg.out).le⟩
        have Ho : Hd (w1.ownsRow q 3 1 (.slice (some ⟨q, 0, none⟩) l.length c) l.length (l.map ci)) := ⟨H1.out.own.owns rfl (Nat.le_refl _)⟩
        have hll : Hd (l.length ≤ s.size ∧ q < w1.heap.size) := ⟨Nat.le_trans H.out.rd.len H.out.rd.le, H1.out.own.lt⟩
        clear h2 h3 h4 hr1 hlen H hB
        go_wp2_with (at_builtin; refine wpList_append_own _ rfl (.tmp 27) (.tmp 29) 47 rfl q 3 i0 (.int .i64 0) 1 8 Tryz.underlying47 hi hz0 hz1 hz2 rfl (by decide) _ l.length (l.map ci) rfl ?hown ⟨w1.heap.size, 0, none⟩ 1 1 [.int .i64 r1] rfl ?hl ?hn ?h1 ?h63 ?hby ?hbase ?_)
        case hown => exact Ho.out.alloc _
        case hl => rfl
        case hn => exact built_cells w1 _ _ _ rfl
        case h1 => intro u hu; simp at hu; subst hu; rfl
        case h63 => have := hll.out; unfold maxLen; omega
        case hby => have := hll.out; omega
        case hbase => have := hll.out; simp; omega
        intro v3 w3 hown3 hgr3 hne3
        obtain ⟨q3, c3, hv3, hN⟩ := H1.out.next hown3 hgr3 (by simpa using hne3) hg.out
        have HN : Hd (SpecAt w (w.heap.size + 1) s (l ++ [r1]) (pos + (signB r1).length) q3 c3 w3) := ⟨hN⟩
        rw [hv3]
        clear hown3 hgr3 hne3 hv3 hN H1 Ho
        go_wp2_with fail
        go_roundw
        case rel => exact ⟨l ++ [r1], pos + (signB r1).length, q3, c3, hl1.out.2, by go_num, rfl, HN⟩
        case measure => have := hl1.out; simp [intOf]; omega
      · simp only [Prod.mk.injEq] at h1
        obtain ⟨rfl, rfl, rfl⟩ := h1
        have HA : Hd (SignsAre s.data.toList [] false) := ⟨readTo_stuck H.out.rd hp (fun hg => h2 ⟨by omega, by rw [hlen]; omega, by simpa using hg⟩)⟩
        clear h2 hlen H hB
        go_wp2_with fail
        go_ret2
        refine ⟨w1.heap.size, 0, [], false, rfl, HA.out, H1.out.bel.size, ?_, H1.out.bel.alloc H1.out.bel.size _⟩
        exact ⟨#[], heap_alloc_new w1 _, Nat.le_refl _, Nat.zero_le _, rfl, rfl⟩
    · have hpI : ¬ (pos : Int) < (s.size : Int) := by omega
      have HA : Hd (SignsAre s.data.toList l true) := ⟨readTo_end H.out.rd hp⟩
      go_wp2_with fail
      go_ret2
      exact ⟨q, c, l, true, rfl, HA.out, H.out.qg, H.out.own, H.out.bel⟩

end Go.Proofs.YtpafjehphajbhaaGreatDoor
