/- What the laws do with a Rec. -/
import Derived.Test.YtlididoalekeoaaGreatDoorDeepA
import Derived.Test.YtlididoalekeoaaGreatDoorDpRow
import Derived.Test.YtlididoalekeoaaGreatDoorRecDat
namespace Go.Proofs.YtlididoalekeoaaGreatDoor
set_option maxRecDepth 4000
open Go.RowKit

def RdRec : Rd RecD := fun w cs a => ∃ (x3 : Option Addr) (m3 d3 : Nat) (x5 : Option Addr) (m5 d5 : Nat), cs = [.int .i64 a.kind, .string a.r.key, .int .i64 a.r.t1, .slice x3 m3 d3, .int .i64 a.r.t2, .slice x5 m5 d5, .int .i64 a.r.has, .bool a.r.aside, .string a.key, .int .i64 a.n, .int .i64 a.who, .int .i64 a.seq, .int .i64 a.code] ∧ a.key.size ≤ maxLen ∧ RdRow w [.string a.r.key, .int .i64 a.r.t1, .slice x3 m3 d3, .int .i64 a.r.t2, .slice x5 m5 d5, .int .i64 a.r.has, .bool a.r.aside] (a.r)
def RcRec : Rd RecD := fun w cs a => ∃ (x3 : Option Addr) (m3 d3 : Nat) (x5 : Option Addr) (m5 d5 : Nat), cs = [.int .i64 a.kind, .string a.r.key, .int .i64 a.r.t1, .slice x3 m3 d3, .int .i64 a.r.t2, .slice x5 m5 d5, .int .i64 a.r.has, .bool a.r.aside, .string a.key, .int .i64 a.n, .int .i64 a.who, .int .i64 a.seq, .int .i64 a.code] ∧ a.key.size ≤ maxLen ∧ RcRow w [.string a.r.key, .int .i64 a.r.t1, .slice x3 m3 d3, .int .i64 a.r.t2, .slice x5 m5 d5, .int .i64 a.r.has, .bool a.r.aside] (a.r)
def OwRec : Ow RecD := fun w cs F a => ∃ (x3 : Option Addr) (m3 d3 : Nat) (x5 : Option Addr) (m5 d5 : Nat) (F1 : Fp), cs = [.int .i64 a.kind, .string a.r.key, .int .i64 a.r.t1, .slice x3 m3 d3, .int .i64 a.r.t2, .slice x5 m5 d5, .int .i64 a.r.has, .bool a.r.aside, .string a.key, .int .i64 a.n, .int .i64 a.who, .int .i64 a.seq, .int .i64 a.code] ∧ a.key.size ≤ maxLen ∧ OwRow w [.string a.r.key, .int .i64 a.r.t1, .slice x3 m3 d3, .int .i64 a.r.t2, .slice x5 m5 d5, .int .i64 a.r.has, .bool a.r.aside] F1 (a.r) ∧ (∀ x, F x ↔ F1 x)
theorem rdRec_ok : RdOk 13 RdRec := ⟨fun ⟨_, _, _, _, _, _, e, _⟩ => by rw [e]; rfl, fun ⟨x3, m3, d3, x5, m5, d5, e, z8, r1⟩ hs => ⟨x3, m3, d3, x5, m5, d5, e, z8, rdRow_ok.keep r1 hs⟩⟩
theorem rcRec_ok : RdOk 13 RcRec := ⟨fun ⟨_, _, _, _, _, _, e, _⟩ => by rw [e]; rfl, fun ⟨x3, m3, d3, x5, m5, d5, e, z8, r1⟩ hs => ⟨x3, m3, d3, x5, m5, d5, e, z8, rcRow_ok.keep r1 hs⟩⟩
theorem rcRec_w {w : World} {cs : List Value} {a : RecD} (h : RcRec w cs a) : RdRec w cs a := by
  obtain ⟨x3, m3, d3, x5, m5, d5, e, z8, r1⟩ := h
  exact ⟨x3, m3, d3, x5, m5, d5, e, z8, rcRow_w r1⟩
theorem owRec_ok : OwOk 13 OwRec RcRec where
  len := fun ⟨_, _, _, _, _, _, _, e, _⟩ => by rw [e]; rfl
  lt := fun {w _ F _} ⟨x3, m3, d3, x5, m5, d5, F1, e, _, r1, hF⟩ x hx => by
    exact owRow_ok.lt r1 x ((hF x).1 hx)
  keep := fun ⟨x3, m3, d3, x5, m5, d5, F1, e, z8, r1, hF⟩ hs => ⟨x3, m3, d3, x5, m5, d5, F1, e, z8, owRow_ok.keep r1 (fun b hb => hs b ((hF b).2 hb)), hF⟩
  rd := fun ⟨x3, m3, d3, x5, m5, d5, F1, e, z8, r1, _⟩ => ⟨x3, m3, d3, x5, m5, d5, e, z8, owRow_ok.rd r1⟩
theorem infoRec : (Tryz.prog.info? 83).map (·.size) = some 13 := by kernel_rfl
def wtRec (a : RecD) : Nat := wtRow (a.r) + a.key.size
def ctRec (a : RecD) : Nat := 1 + 1 + 1 + ctB (a.r.b1) + 1 + ctB (a.r.b2) + 1 + 1 + 1 + 1 + 1 + 1 + 1
def cuRec (a : RecD) : Nat := cuRow (a.r)
def mtRec (m : Nat) (a : RecD) : RecD := (⟨a.kind, (⟨a.r.key, a.r.t1, mkB (m) (a.r.b1), a.r.t2, mkB (m + ctB (a.r.b1)) (a.r.b2), a.r.has, a.r.aside⟩ : RowD), a.key, a.n, a.who, a.seq, a.code⟩ : RecD)

end Go.Proofs.YtlididoalekeoaaGreatDoor
