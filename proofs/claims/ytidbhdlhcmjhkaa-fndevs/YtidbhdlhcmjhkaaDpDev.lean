/- What the laws do with a Dev. -/
import Derived.Test.YtidbhdlhcmjhkaaDeepB
import Derived.Test.YtidbhdlhcmjhkaaDevP
import Derived.Test.YtidbhdlhcmjhkaaDpByteSS
import Derived.Test.YtidbhdlhcmjhkaaDpWrS
namespace Go.Proofs.Ytidbhdlhcmjhkaa
set_option maxRecDepth 4000
open Go.RowKit

def RdDev : Rd DevD := fun w cs a => ∃ (x0 : Option Addr) (m0 d0 : Nat) (x1 : Option Addr) (m1 d1 : Nat), cs = [.slice x0 m0 d0, .slice x1 m1 d1, .int .i64 a.fuse, .bool a.down] ∧ RdByteSS w [.slice x0 m0 d0] a.secs ∧ RdWrS w [.slice x1 m1 d1] a.cache
def OwDev : Ow DevD := fun w cs F a => ∃ (x0 : Option Addr) (m0 d0 : Nat) (x1 : Option Addr) (m1 d1 : Nat) (F0 : Fp) (F1 : Fp), cs = [.slice x0 m0 d0, .slice x1 m1 d1, .int .i64 a.fuse, .bool a.down] ∧ OwByteSS w [.slice x0 m0 d0] F0 a.secs ∧ OwWrS w [.slice x1 m1 d1] F1 a.cache ∧ (∀ x, F0 x → ¬ F1 x) ∧ (∀ x, F x ↔ F0 x ∨ F1 x)
theorem rdDev_ok : RdOk 4 RdDev := ⟨fun ⟨_, _, _, _, _, _, e, _⟩ => by rw [e]; rfl, fun ⟨x0, m0, d0, x1, m1, d1, e, r0, r1⟩ hs => ⟨x0, m0, d0, x1, m1, d1, e, rdByteSS_ok.keep r0 hs, rdWrS_ok.keep r1 hs⟩⟩
theorem owDev_ok : OwOk 4 OwDev RdDev where
  len := fun ⟨_, _, _, _, _, _, _, _, e, _⟩ => by rw [e]; rfl
  lt := fun {w _ F _} ⟨x0, m0, d0, x1, m1, d1, F0, F1, e, r0, r1, e0, hF⟩ x hx => by
    rcases (hF x).1 hx with hx | hx
    · exact owByteSS_ok.lt r0 x hx
    · exact owWrS_ok.lt r1 x hx
  keep := fun ⟨x0, m0, d0, x1, m1, d1, F0, F1, e, r0, r1, e0, hF⟩ hs => ⟨x0, m0, d0, x1, m1, d1, F0, F1, e, owByteSS_ok.keep r0 (fun b hb => hs b ((hF b).2 (.inl hb))), owWrS_ok.keep r1 (fun b hb => hs b ((hF b).2 (.inr (hb)))), e0, hF⟩
  rd := fun ⟨x0, m0, d0, x1, m1, d1, F0, F1, e, r0, r1, _, _⟩ => ⟨x0, m0, d0, x1, m1, d1, e, owByteSS_ok.rd r0, owWrS_ok.rd r1⟩
def wtDev (a : DevD) : Nat := wtByteSS a.secs + wtWrS a.cache
def ctDev (a : DevD) : Nat := ctByteSS a.secs + ctWrS a.cache + 1 + 1
def mkDev (m : Nat) (a : DevD) : DevD := (⟨mkByteSS (m) a.secs, mkWrS (m + ctByteSS a.secs) a.cache, ((m + ctByteSS a.secs + ctWrS a.cache : Nat) : Int), decide ((m + ctByteSS a.secs + ctWrS a.cache + 1) % 3 = 0)⟩ : DevD)
def cuDev (a : DevD) : Nat := ctByteSS a.secs + ctWrS a.cache
def mtDev (m : Nat) (a : DevD) : DevD := (⟨mkByteSS (m) a.secs, mkWrS (m + ctByteSS a.secs) a.cache, a.fuse, a.down⟩ : DevD)

end Go.Proofs.Ytidbhdlhcmjhkaa
