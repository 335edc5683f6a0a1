/- What the laws do with a Wr. -/
import Derived.Test.YtidbhdlhcmjhkaaDeepB
import Derived.Test.YtidbhdlhcmjhkaaDevP
namespace Go.Proofs.Ytidbhdlhcmjhkaa
set_option maxRecDepth 4000
open Go.RowKit

def RdWr : Rd WrD := fun w cs a => ∃ (x1 : Option Addr) (m1 d1 : Nat), cs = [.int .i64 a.n, .slice x1 m1 d1] ∧ RdB w [.slice x1 m1 d1] a.b
def OwWr : Ow WrD := fun w cs F a => ∃ (x1 : Option Addr) (m1 d1 : Nat) (F1 : Fp), cs = [.int .i64 a.n, .slice x1 m1 d1] ∧ OwB w [.slice x1 m1 d1] F1 a.b ∧ (∀ x, F x ↔ F1 x)
theorem rdWr_ok : RdOk 2 RdWr := ⟨fun ⟨_, _, _, e, _⟩ => by rw [e]; rfl, fun ⟨x1, m1, d1, e, r1⟩ hs => ⟨x1, m1, d1, e, rdB_ok.keep r1 hs⟩⟩
theorem owWr_ok : OwOk 2 OwWr RdWr where
  len := fun ⟨_, _, _, _, e, _⟩ => by rw [e]; rfl
  lt := fun {w _ F _} ⟨x1, m1, d1, F1, e, r1, hF⟩ x hx => by
    exact owB_ok.lt r1 x ((hF x).1 hx)
  keep := fun ⟨x1, m1, d1, F1, e, r1, hF⟩ hs => ⟨x1, m1, d1, F1, e, owB_ok.keep r1 (fun b hb => hs b ((hF b).2 (hb))), hF⟩
  rd := fun ⟨x1, m1, d1, F1, e, r1, _⟩ => ⟨x1, m1, d1, e, owB_ok.rd r1⟩
def wtWr (a : WrD) : Nat := wtB a.b
def ctWr (a : WrD) : Nat := 1 + ctB a.b
def mkWr (m : Nat) (a : WrD) : WrD := (⟨((m : Nat) : Int), mkB (m + 1) a.b⟩ : WrD)
def cuWr (a : WrD) : Nat := ctB a.b
def mtWr (m : Nat) (a : WrD) : WrD := (⟨a.n, mkB (m) a.b⟩ : WrD)

end Go.Proofs.Ytidbhdlhcmjhkaa
