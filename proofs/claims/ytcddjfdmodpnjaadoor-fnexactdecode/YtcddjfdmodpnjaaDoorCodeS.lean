/- Contracts of the specification's sets: the sign at a place, the bytes of a sign; Decode and DecodeLossy. -/
import Derived.Test.YtcddjfdmodpnjaaDoorCodeX
import Derived.Test.YtcddjfdmodpnjaaDoorCodeR
namespace Go.Proofs.YtcddjfdmodpnjaaDoor
open Go.RowKit

set_option maxHeartbeats 400000 in
theorem l5Cs_any (cs : Int) (w : World) : Calls Tryd.prog 35 #[.int .i64 cs] w fun e w' => e = .returned (.bool (inB cs 0 5)) ∧ w' = w := by
  obtain ⟨ok, hok⟩ : ∃ ok, inB cs 0 5 = ok := ⟨_, rfl⟩
  have HK : Hd (inB cs 0 5 = ok) := ⟨hok⟩
  clear hok
  go_enter Tryd.func35, Tryd.ntmps35
  go_wp2_with fail
  refine (l1In_any cs 0 5 _).mono ?_
  rintro e w1 ⟨rfl, hw⟩
  replace hw := hw.symm
  subst hw
  rewrite [HK.out]
  go_wp2_with fail
  go_ret
  exact ⟨ret_bool HK.out.symm, rfl⟩

set_option maxHeartbeats 400000 in
theorem l5Get_0 (b off len cap k : Nat) (bs : List UInt8) (w : World) (hn : bs.length = len) (hlc : len ≤ cap) (hc : ∀ j, j < len → w.cell? ⟨b, off + j, none⟩ = some (.int .u8 ((bs.getD j 0).toNat : Int))) (hl : len ≤ 1073741824) (hk : k < len) :
    Calls Tryd.prog 36 #[.int .i64 0, .slice (some ⟨b, off, none⟩) len cap, .int .i64 (k : Int)] w (SignOut w 0 (bs.drop k) k) := by
  have Hn : Hd (bs.length = len) := ⟨hn⟩
  have Hc : Hd (∀ j, j < len → w.cell? ⟨b, off + j, none⟩ = some (.int .u8 ((bs.getD j 0).toNat : Int))) := ⟨hc⟩
  have Hk : Hd (k < len) := ⟨hk⟩
  clear hn hc hk
  go_enter Tryd.func36, Tryd.ntmps36
  go_wp2_with fail
  refine (specGetSign_any b off len cap bs (k : Int) _ Hn.out hlc Hc.out hl).mono ?_
  rintro e w1 ⟨⟨n, next, ok⟩, rfl, hG, hB⟩
  have HS : Hd (SignAt 0 (bs.drop k) k n next ok) := ⟨signAt_utf (by have := Hn.out; have := Hk.out; omega) hG⟩
  have HB : Hd (Below w.heap.size w w1) := ⟨hB⟩
  clear hG hB Hc
  go_wp2_with fail
  go_ret3
  exact ⟨n, next, ok, rfl, HS.out, HB.out⟩

set_option maxHeartbeats 400000 in
theorem l5Get_5 (b off len cap k : Nat) (bs : List UInt8) (w : World) (hn : bs.length = len) (hc : ∀ j, j < len → w.cell? ⟨b, off + j, none⟩ = some (.int .u8 ((bs.getD j 0).toNat : Int))) (hl : len ≤ 1073741824) (hk : k < len) :
    Calls Tryd.prog 36 #[.int .i64 5, .slice (some ⟨b, off, none⟩) len cap, .int .i64 (k : Int)] w (SignOut w 5 (bs.drop k) k) := by
  have Hn : Hd (bs.length = len) := ⟨hn⟩
  have Hc : Hd (∀ j, j < len → w.cell? ⟨b, off + j, none⟩ = some (.int .u8 ((bs.getD j 0).toNat : Int))) := ⟨hc⟩
  have Hk : Hd (k < len) := ⟨hk⟩
  clear hn hc hk
  go_enter Tryd.func36, Tryd.ntmps36
  go_wp2_with fail
  refine (specEucSign_any b off len cap bs (k : Int) _ Hn.out Hc.out hl).mono ?_
  rintro e w1 ⟨rfl, hB⟩
  have HS : Hd (SignAt 5 (bs.drop k) k (eucAt bs (k : Int)).1 (eucAt bs (k : Int)).2.1 (eucAt bs (k : Int)).2.2) := ⟨signAt_euc (by have := Hn.out; have := Hk.out; omega)⟩
  have HB : Hd (Below w.heap.size w w1) := ⟨hB⟩
  generalize (eucAt bs (k : Int)).1 = n at *
  generalize (eucAt bs (k : Int)).2.1 = next at *
  generalize (eucAt bs (k : Int)).2.2 = ok at *
  clear hB Hc
  go_wp2_with fail
  go_ret3
  exact ⟨n, next, ok, rfl, HS.out, HB.out⟩

set_option maxHeartbeats 400000 in
theorem l5Get_b (cs : Int) (b off len cap k : Nat) (bs : List UInt8) (w : World) (h0 : cs ≠ 0) (h5 : cs ≠ 5) (hc : ∀ j, j < len → w.cell? ⟨b, off + j, none⟩ = some (.int .u8 ((bs.getD j 0).toNat : Int))) (hl : len ≤ 1073741824) (hk : k < len) :
    Calls Tryd.prog 36 #[.int .i64 cs, .slice (some ⟨b, off, none⟩) len cap, .int .i64 (k : Int)] w (SignOut w cs (bs.drop k) k) := by
  have c1 := hc k hk
  have Hs : Hd (SignAt cs (bs.drop k) k (bsN cs ((bs.getD k 0).toNat : Int)) ((k : Int) + 1) (bsOk cs ((bs.getD k 0).toNat : Int))) := ⟨signAt_byte h0 h5⟩
  have hx : (bs.getD k 0).toNat < 256 := (bs.getD k 0).toNat_lt
  have hw0 := wrap64_in (n := ((bs.getD k 0).toNat : Int)) (by omega) (by omega)
  generalize (bs.getD k 0).toNat = x at *
  have hkI : (k : Int) < (len : Int) := by omega
  have e0 : (cs == 0) = false := by simpa using h0
  have e5 : (cs == 5) = false := by simpa using h5
  clear h0 h5 hc
  go_enter Tryd.func36, Tryd.ntmps36
  go_wp2_with fail
  refine (specByteSign_any cs (x : Int) _).mono ?_
  rintro e w1 ⟨rfl, hB⟩
  have HB : Hd (Below w.heap.size w w1) := ⟨hB⟩
  clear hB c1
  generalize bsN cs (x : Int) = n at *
  generalize bsOk cs (x : Int) = ok at *
  go_wp2_with fail
  go_ret3
  exact ⟨_, _, _, rfl, Hs.out, HB.out⟩

theorem specSignAt_any (cs : Int) (b off len cap k : Nat) (bs : List UInt8) (w : World) (hn : bs.length = len) (hlc : len ≤ cap) (hc : ∀ j, j < len → w.cell? ⟨b, off + j, none⟩ = some (.int .u8 ((bs.getD j 0).toNat : Int))) (hl : len ≤ 1073741824) (hk : k < len) :
    Calls Tryd.prog 36 #[.int .i64 cs, .slice (some ⟨b, off, none⟩) len cap, .int .i64 (k : Int)] w (SignOut w cs (bs.drop k) k) := by
  by_cases h0 : cs = 0
  · subst h0; exact l5Get_0 b off len cap k bs w hn hlc hc hl hk
  by_cases h5 : cs = 5
  · subst h5; exact l5Get_5 b off len cap k bs w hn hc hl hk
  · exact l5Get_b cs b off len cap k bs w h0 h5 hc hl hk

/-- Where the loops of the specification's Decode and DecodeLossy stand. -/
structure SAt (w : World) (cs : Int) (bs : List UInt8) (k q c n lost : Nat) (wr : World) : Prop where
  out : ∃ xs : List UInt8, xs.length = n ∧ ReadAt cs bs k xs lost ∧ w.heap.size ≤ q ∧ Own wr q c xs ∧ Below w.heap.size w wr
theorem SAt.fits {w : World} {cs : Int} {bs : List UInt8} {k q c n lost : Nat} {wr : World} (h : SAt w cs bs k q c n lost wr) : k ≤ bs.length ∧ lost ≤ k ∧ n ≤ 4 * k := by
  obtain ⟨xs, h0, h1, _, _, _⟩ := h.out
  exact ⟨h1.le, h1.few, by have := h1.size; omega⟩
theorem SAt.bel {w : World} {cs : Int} {bs : List UInt8} {k q c n lost : Nat} {wr : World} (h : SAt w cs bs k q c n lost wr) : Below w.heap.size w wr := by
  obtain ⟨xs, _, _, _, _, h5⟩ := h.out; exact h5
theorem sAt_zero (w : World) (cs : Int) (bs : List UInt8) : SAt w cs bs 0 w.heap.size 0 0 0 (w.alloc (.cells #[] 5)) :=
  ⟨[], rfl, readAt_zero cs bs, Nat.le_refl _, own_none w, below_lit _ _⟩

set_option maxHeartbeats 1000000 in
theorem specDecode_any (cs : Int) (b off len cap : Nat) (bs : List UInt8) (w : World) (hn : bs.length = len) (hlc : len ≤ cap) (hc : ∀ j, j < len → w.cell? ⟨b, off + j, none⟩ = some (.int .u8 ((bs.getD j 0).toNat : Int))) (hl : len ≤ 1048576) :
    Calls Tryd.prog 12 #[.int .i64 cs, .slice (some ⟨b, off, none⟩) len cap] w (TextB w (decS cs bs) (decOk cs bs)) := by
  have Hn : Hd (bs.length = len) := ⟨hn⟩
  have Hc : Hd (∀ j, j < len → w.cell? ⟨b, off + j, none⟩ = some (.int .u8 ((bs.getD j 0).toNat : Int))) := ⟨hc⟩
  clear hn hc
  cases hi : inB cs 0 5 with
  | false =>
    obtain ⟨e1, e2, _, _⟩ := dec_out (t := bs) hi
    rw [e1, e2]
    have HI : Hd (inB cs 0 5 = false) := ⟨hi⟩
    clear e1 e2 hi
    go_enter Tryd.func12, Tryd.ntmps12
    go_wp2_with fail
    refine (l5Cs_any cs _).mono ?_
    rintro e w1 ⟨rfl, hw1⟩
    replace hw1 := hw1.symm
    subst hw1
    rewrite [HI.out]
    go_wp2_with fail
    go_ret2
    exact ⟨rfl, below_lit _ _⟩
  | true =>
    have HI : Hd (inB cs 0 5 = true) := ⟨hi⟩
    have W0 : Hd (SAt w cs bs 0 w.heap.size 0 0 0 (w.alloc (.cells #[] 5))) := ⟨sAt_zero w cs bs⟩
    clear hi
    go_enter Tryd.func12, Tryd.ntmps12
    go_wp2_with fail
    refine (l5Cs_any cs _).mono ?_
    rintro e w1 ⟨rfl, hw1⟩
    replace hw1 := hw1.symm
    subst hw1
    rewrite [HI.out]
    go_wp2_with fail
    go_loopw [6, 7] (fun v i wr => ∃ (k q c n : Nat), i = .int .i64 k ∧ v = .slice (some ⟨q, 0, none⟩) n c ∧ Hd (SAt w cs bs k q c n 0 wr)) (fun _ i _ => len - (intOf i).toNat)
    case atStart => exact ⟨0, w.heap.size, 0, 0, rfl, rfl, W0⟩
    case round =>
      clear W0
      obtain ⟨k, q, c, n, rfl, rfl, R⟩ := hrel
      obtain ⟨f1, f2, f3⟩ := R.out.fits
      rw [Hn.out] at f1
      by_cases hlt : k < len
      · have hkI : (k : Int) < (len : Int) := by omega
        go_wp2_with fail
        refine (specSignAt_any cs b off len cap k bs _ Hn.out hlc (fun j hj => cell_below (Hc.out j hj) R.out.bel) (by omega) hlt).mono ?_
        rintro e w1 ⟨z, next, ok, rfl, hS, hB⟩
        have hk2 : k < bs.length := by rw [Hn.out]; exact hlt
        obtain ⟨xs, x0, x1, x2, x3, x4⟩ := R.out.out
        cases ho : hdOk cs (bs.drop k) with
        | true =>
          obtain ⟨s1, s2⟩ := hS.yes ho
          obtain rfl : ok = true := hS.ok.trans ho
          subst s1 s2
          have hf := hd_fits (drop_ne hk2) ho
          have N1 := readAt_yes x1 hk2 ho
          have hp := hf.pos
          have hle := N1.le
          rw [Hn.out] at hle
          have NX : Hd (ReadAt cs bs (k + hdK cs (bs.drop k)) (xs ++ signB (hdN cs (bs.drop k))) 0) := ⟨N1⟩
          have X0 : Hd (xs.length = n) := ⟨x0⟩
          have X2 : Hd (w.heap.size ≤ q) := ⟨x2⟩
          have X3 : Hd (Own w1 q c xs) := ⟨x3.below hB⟩
          have X4 : Hd (Below w.heap.size w w1) := ⟨Below.next x4 hB⟩
          clear hS hf N1 x0 x1 x2 x3 x4 ho hB R
          generalize hdK cs (bs.drop k) = K at *
          generalize hdN cs (bs.drop k) = N at *
          go_wp2_with fail
          refine (specPutSign_some q 0 n c xs N _ X0.out (X3.out.cell X0.out) X3.out.lt (by omega)).mono ?_
          rintro e w2 ⟨q2, c2, rfl, hq2, hO2, hB2⟩
          have R2 : Hd (SAt w cs bs (k + K) q2 c2 (xs ++ signB N).length 0 w2) := ⟨⟨_, rfl, NX.out, by have := X4.out.size; omega, hO2, Below.next X4.out hB2⟩⟩
          generalize (xs ++ signB N).length = n2 at *
          clear hO2 hq2 hB2 X2 X3 X4 X0
          go_wp2_with fail
          go_roundw
          case rel => exact ⟨k + K, q2, c2, n2, by go_num, rfl, R2⟩
          case measure => simp [intOf]; omega
        | false =>
          obtain rfl : ok = false := hS.ok.trans ho
          have Y : Hd (decOk cs bs = false ∧ decS cs bs = []) := ⟨dec_no (readAt_stuck x1 hk2 ho)⟩
          have X4 : Hd (Below w.heap.size w w1) := ⟨Below.next x4 hB⟩
          clear hS x0 x1 x2 x3 x4 ho hB R
          go_wp2_with fail
          go_ret2
          exact ⟨by rw [Y.out.1, Y.out.2]; rfl, X4.out⟩
      · have hkI : ¬ (k : Int) < (len : Int) := by omega
        obtain ⟨xs, x0, x1, x2, x3, x4⟩ := R.out.out
        obtain ⟨e1, e2⟩ := readAt_end x1 (by rw [Hn.out]; exact hlt)
        have Y : Hd (decOk cs bs = true ∧ decS cs bs = textI (itemsOf cs bs)) := ⟨dec_yes HI.out e2.symm⟩
        subst e1
        have hcv := conv_owned (x3.owns x0 (Nat.le_refl q))
        have X4 : Hd (Below w.heap.size w wr) := ⟨x4⟩
        obtain ⟨S, hS⟩ : ∃ S, (textI (itemsOf cs bs)).toArray = S := ⟨_, rfl⟩
        have HS : Hd ((textI (itemsOf cs bs)).toArray = S) := ⟨hS⟩
        rw [hS] at hcv
        clear x0 x1 x2 x3 x4 e2 R hS
        go_wp2_with fail
        go_ret2
        exact ⟨by rw [Y.out.1, Y.out.2, HS.out]; rfl, X4.out⟩

set_option maxHeartbeats 1000000 in
theorem specDecodeLossy_any (cs : Int) (b off len cap : Nat) (bs : List UInt8) (w : World) (hn : bs.length = len) (hlc : len ≤ cap) (hc : ∀ j, j < len → w.cell? ⟨b, off + j, none⟩ = some (.int .u8 ((bs.getD j 0).toNat : Int))) (hl : len ≤ 1048576) :
    Calls Tryd.prog 22 #[.int .i64 cs, .slice (some ⟨b, off, none⟩) len cap] w (TextN w (decLS cs bs) (decLN cs bs)) := by
  have Hn : Hd (bs.length = len) := ⟨hn⟩
  have Hc : Hd (∀ j, j < len → w.cell? ⟨b, off + j, none⟩ = some (.int .u8 ((bs.getD j 0).toNat : Int))) := ⟨hc⟩
  clear hn hc
  cases hi : inB cs 0 5 with
  | false =>
    obtain ⟨_, _, e1, e2⟩ := dec_out (t := bs) hi
    rw [e1, e2]
    have HI : Hd (inB cs 0 5 = false) := ⟨hi⟩
    clear e1 e2 hi
    go_enter Tryd.func22, Tryd.ntmps22
    go_wp2_with fail
    refine (l5Cs_any cs _).mono ?_
    rintro e w1 ⟨rfl, hw1⟩
    replace hw1 := hw1.symm
    subst hw1
    rewrite [HI.out]
    go_wp2_with fail
    go_ret2
    exact ⟨rfl, below_lit _ _⟩
  | true =>
    have HI : Hd (inB cs 0 5 = true) := ⟨hi⟩
    have W0 : Hd (SAt w cs bs 0 w.heap.size 0 0 0 (w.alloc (.cells #[] 5))) := ⟨sAt_zero w cs bs⟩
    clear hi
    go_enter Tryd.func22, Tryd.ntmps22
    go_wp2_with fail
    refine (l5Cs_any cs _).mono ?_
    rintro e w1 ⟨rfl, hw1⟩
    replace hw1 := hw1.symm
    subst hw1
    rewrite [HI.out]
    go_wp2_with fail
    go_loopw [6, 7, 8] (fun v m i wr => ∃ (k q c n lost : Nat), i = .int .i64 k ∧ v = .slice (some ⟨q, 0, none⟩) n c ∧ m = .int .i64 lost ∧ Hd (SAt w cs bs k q c n lost wr)) (fun _ _ i _ => len - (intOf i).toNat)
    case atStart => exact ⟨0, w.heap.size, 0, 0, 0, rfl, rfl, rfl, W0⟩
    case round =>
      clear W0
      obtain ⟨k, q, c, n, lost, rfl, rfl, rfl, R⟩ := hrel
      obtain ⟨f1, f2, f3⟩ := R.out.fits
      rw [Hn.out] at f1
      by_cases hlt : k < len
      · have hkI : (k : Int) < (len : Int) := by omega
        go_wp2_with fail
        refine (specSignAt_any cs b off len cap k bs _ Hn.out hlc (fun j hj => cell_below (Hc.out j hj) R.out.bel) (by omega) hlt).mono ?_
        rintro e w1 ⟨z, next, ok, rfl, hS, hB⟩
        have hk2 : k < bs.length := by rw [Hn.out]; exact hlt
        obtain ⟨xs, x0, x1, x2, x3, x4⟩ := R.out.out
        have X0 : Hd (xs.length = n) := ⟨x0⟩
        have X2 : Hd (w.heap.size ≤ q) := ⟨x2⟩
        have X3 : Hd (Own w1 q c xs) := ⟨x3.below hB⟩
        have X4 : Hd (Below w.heap.size w w1) := ⟨Below.next x4 hB⟩
        cases ho : hdOk cs (bs.drop k) with
        | true =>
          obtain ⟨s1, s2⟩ := hS.yes ho
          obtain rfl : ok = true := hS.ok.trans ho
          subst s1 s2
          have hf := hd_fits (drop_ne hk2) ho
          have N1 := readAt_yes x1 hk2 ho
          have hp := hf.pos
          have hle := N1.le
          rw [Hn.out] at hle
          have NX : Hd (ReadAt cs bs (k + hdK cs (bs.drop k)) (xs ++ signB (hdN cs (bs.drop k))) lost) := ⟨N1⟩
          clear hS hf N1 x0 x1 x2 x3 x4 ho hB R
          generalize hdK cs (bs.drop k) = K at *
          generalize hdN cs (bs.drop k) = N at *
          go_wp2_with fail
          refine (specPutSign_some q 0 n c xs N _ X0.out (X3.out.cell X0.out) X3.out.lt (by omega)).mono ?_
          rintro e w2 ⟨q2, c2, rfl, hq2, hO2, hB2⟩
          have R2 : Hd (SAt w cs bs (k + K) q2 c2 (xs ++ signB N).length lost w2) := ⟨⟨_, rfl, NX.out, by have := X4.out.size; omega, hO2, Below.next X4.out hB2⟩⟩
          generalize (xs ++ signB N).length = n2 at *
          clear hO2 hq2 hB2 X2 X3 X4 X0
          go_wp2_with fail
          go_roundw
          case rel => exact ⟨k + K, q2, c2, n2, lost, by go_num, rfl, rfl, R2⟩
          case measure => simp [intOf]; omega
        | false =>
          obtain rfl : ok = false := hS.ok.trans ho
          have N1 := readAt_no x1 hk2 ho
          have NX : Hd (ReadAt cs bs (k + 1) (xs ++ signB 65533) (lost + 1)) := ⟨N1⟩
          clear hS N1 x0 x1 x2 x3 x4 ho hB R
          go_wp2_with fail
          refine (specPutSign_some q 0 n c xs 65533 _ X0.out (X3.out.cell X0.out) X3.out.lt (by omega)).mono ?_
          rintro e w2 ⟨q2, c2, rfl, hq2, hO2, hB2⟩
          have R2 : Hd (SAt w cs bs (k + 1) q2 c2 (xs ++ signB 65533).length (lost + 1) w2) := ⟨⟨_, rfl, NX.out, by have := X4.out.size; omega, hO2, Below.next X4.out hB2⟩⟩
          generalize (xs ++ signB 65533).length = n2 at *
          clear hO2 hq2 hB2 X2 X3 X4 X0
          go_wp2_with fail
          go_roundw
          case rel => exact ⟨k + 1, q2, c2, n2, lost + 1, by go_num, rfl, by go_num, R2⟩
          case measure => simp [intOf]; omega
      · have hkI : ¬ (k : Int) < (len : Int) := by omega
        obtain ⟨xs, x0, x1, x2, x3, x4⟩ := R.out.out
        obtain ⟨e1, e2⟩ := readAt_end x1 (by rw [Hn.out]; exact hlt)
        have Y : Hd (decLS cs bs = textI (itemsOf cs bs) ∧ decLN cs bs = lostI (itemsOf cs bs)) := ⟨dec_lin HI.out⟩
        subst e1
        have hcv := conv_owned (x3.owns x0 (Nat.le_refl q))
        have X4 : Hd (Below w.heap.size w wr) := ⟨x4⟩
        obtain ⟨S, hS⟩ : ∃ S, (textI (itemsOf cs bs)).toArray = S := ⟨_, rfl⟩
        have HS : Hd ((textI (itemsOf cs bs)).toArray = S) := ⟨hS⟩
        have E2 : Hd (lost = lostI (itemsOf cs bs)) := ⟨e2⟩
        rw [hS] at hcv
        clear x0 x1 x2 x3 x4 e2 R hS
        go_wp2_with fail
        go_ret2
        exact ⟨by rw [Y.out.1, Y.out.2, HS.out, ← E2.out]; rfl, X4.out⟩

end Go.Proofs.YtcddjfdmodpnjaaDoor
