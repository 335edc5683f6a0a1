/- Contracts of EucSign at every place, in the program and in the specification. -/
import Derived.Test.YtpafjehphajbhaaGreatDoorEuc
namespace Go.Proofs.YtpafjehphajbhaaGreatDoor
set_option maxRecDepth 4000
open Go.RowKit

/-- What EucSign answers: the sign there, the place behind, and whether there is one; nothing that was there is written. -/
structure EucOut (w : World) (bs : List UInt8) (at_ : Int) (e : Ending) (w' : World) : Prop where
  out : e = .returned (.tuple #[.int .i64 (eucAt bs at_).1, .int .i64 (eucAt bs at_).2.1, .bool (eucAt bs at_).2.2])
  bel : Below w.heap.size w w'

theorem implEucSign_any (b off len cap : Nat) (bs : List UInt8) (at_ : Int) (w : World) (hn : bs.length = len) (hc : ∀ j, j < len → w.cell? ⟨b, off + j, none⟩ = some (.int .u8 ((bs.getD j 0).toNat : Int))) (hl : len ≤ 1073741824) (T : Hd (PairsAt w)) :
    Calls Tryz.prog 113 #[.slice (some ⟨b, off, none⟩) len cap, .int .i64 at_] w (EucOut w bs at_) := by
  by_cases h : 0 ≤ at_ ∧ at_ < (len : Int)
  · obtain ⟨k, rfl⟩ : ∃ k : Nat, at_ = (k : Int) := ⟨at_.toNat, by omega⟩
    have hk : k < len := by omega
    have hx := hc k hk
    have hx2 := (bs.getD k 0).toNat_lt
    obtain ⟨x, ex⟩ : ∃ x, (bs.getD k 0).toNat = x := ⟨_, rfl⟩
    rw [ex] at hx hx2
    by_cases h1 : x < 128
    · exact (implEucSign_one b off len cap k x w hl hk h1 hx).mono fun e w' ⟨he, hB⟩ => ⟨by rw [euc_one (by omega) ex h1]; exact he, hB⟩
    · by_cases h2 : k + 1 < len
      · have hy := hc (k + 1) h2
        have hy2 := (bs.getD (k + 1) 0).toNat_lt
        obtain ⟨y, ey⟩ : ∃ y, (bs.getD (k + 1) 0).toNat = y := ⟨_, rfl⟩
        rw [ey] at hy hy2
        cases ho : psOk (x : Int) (y : Int) with
        | true => exact (implEucSign_two b off len cap k x y _ true w hl h2 (by omega) hx2 hy2 hx hy T ⟨rfl⟩ ⟨ho⟩).mono fun e w' ⟨he, hB⟩ => ⟨by rw [euc_yes (by omega) ex ey (by omega) ho]; exact he, hB⟩
        | false => exact (implEucSign_two b off len cap k x y _ false w hl h2 (by omega) hx2 hy2 hx hy T ⟨rfl⟩ ⟨ho⟩).mono fun e w' ⟨he, hB⟩ => ⟨by rw [euc_no (by omega) ex ey (by omega) ho]; exact he, hB⟩
      · exact (implEucSign_last b off len cap k x w hl (by omega) (by omega) hx2 hx T).mono fun e w' ⟨he, hB⟩ => ⟨by rw [euc_last (by omega) ex (by omega)]; exact he, hB⟩
  · exact (implEucSign_out _ len cap at_ w (by omega)).mono fun e w' ⟨he, hB⟩ => ⟨by rw [euc_out (by omega)]; exact he, hB⟩

theorem specEucSign_any (b off len cap : Nat) (bs : List UInt8) (at_ : Int) (w : World) (hn : bs.length = len) (hc : ∀ j, j < len → w.cell? ⟨b, off + j, none⟩ = some (.int .u8 ((bs.getD j 0).toNat : Int))) (hl : len ≤ 1073741824) :
    Calls Tryz.prog 100 #[.slice (some ⟨b, off, none⟩) len cap, .int .i64 at_] w (EucOut w bs at_) := by
  by_cases h : 0 ≤ at_ ∧ at_ < (len : Int)
  · obtain ⟨k, rfl⟩ : ∃ k : Nat, at_ = (k : Int) := ⟨at_.toNat, by omega⟩
    have hk : k < len := by omega
    have hx := hc k hk
    have hx2 := (bs.getD k 0).toNat_lt
    obtain ⟨x, ex⟩ : ∃ x, (bs.getD k 0).toNat = x := ⟨_, rfl⟩
    rw [ex] at hx hx2
    by_cases h1 : x < 128
    · exact (specEucSign_one b off len cap k x w hl hk h1 hx).mono fun e w' ⟨he, hB⟩ => ⟨by rw [euc_one (by omega) ex h1]; exact he, hB⟩
    · by_cases h2 : k + 1 < len
      · have hy := hc (k + 1) h2
        have hy2 := (bs.getD (k + 1) 0).toNat_lt
        obtain ⟨y, ey⟩ : ∃ y, (bs.getD (k + 1) 0).toNat = y := ⟨_, rfl⟩
        rw [ey] at hy hy2
        cases ho : psOk (x : Int) (y : Int) with
        | true => exact (specEucSign_two b off len cap k x y _ true w hl h2 (by omega) hx2 hy2 hx hy ⟨rfl⟩ ⟨ho⟩).mono fun e w' ⟨he, hB⟩ => ⟨by rw [euc_yes (by omega) ex ey (by omega) ho]; exact he, hB⟩
        | false => exact (specEucSign_two b off len cap k x y _ false w hl h2 (by omega) hx2 hy2 hx hy ⟨rfl⟩ ⟨ho⟩).mono fun e w' ⟨he, hB⟩ => ⟨by rw [euc_no (by omega) ex ey (by omega) ho]; exact he, hB⟩
      · exact (specEucSign_last b off len cap k x w hl (by omega) (by omega) hx2 hx).mono fun e w' ⟨he, hB⟩ => ⟨by rw [euc_last (by omega) ex (by omega)]; exact he, hB⟩
  · exact (specEucSign_out _ len cap at_ w hl (by omega)).mono fun e w' ⟨he, hB⟩ => ⟨by rw [euc_out (by omega)]; exact he, hB⟩

end Go.Proofs.YtpafjehphajbhaaGreatDoor
