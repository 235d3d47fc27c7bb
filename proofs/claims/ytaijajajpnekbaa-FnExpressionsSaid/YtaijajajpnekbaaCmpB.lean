/- Contracts of functions that the laws of this chapter call, packed. -/
import Derived.Test.YtaijajajpnekbaaWishProg
import Derived.Test.YtaijajajpnekbaaWishCmp
import Derived.Test.YtaijajajpnekbaaWishSpecD
import Derived.Test.YtaijajajpnekbaaWishLaw
import Derived.Test.YtaijajajpnekbaaItemImpl
namespace Go.Proofs.Ytaijajajpnekbaa.num
set_option maxRecDepth 20000
open Go.RowKit Go.Maps
set_option linter.unusedVariables false

end Go.Proofs.Ytaijajajpnekbaa.num
namespace Go.Proofs.Ytaijajajpnekbaa.num
set_option maxRecDepth 20000
open Go.RowKit Go.Maps
set_option linter.unusedVariables false

end Go.Proofs.Ytaijajajpnekbaa.num
namespace Go.Proofs.Ytaijajajpnekbaa.num
set_option maxRecDepth 20000
open Go.RowKit Go.Maps
set_option linter.unusedVariables false

/-- The value of an item's field. -/
def fval (t : It) (f : Int) : Int := t.xs.getD f.toNat 0
theorem fval_in {t : It} (h : IsP t.dat) {f : Int} (hf : 0 ≤ f ∧ f ≤ 2) : InR (fval t f) := by
  obtain ⟨h1, _, h3⟩ := h
  have hl : t.xs.length = 3 := h3
  unfold fval
  rw [List.getD_eq_getElem?_getD, List.getElem?_eq_getElem (by omega)]
  exact h1 _ (List.getElem_mem _)
theorem fval_dat {t t' : It} (h : t'.dat = t.dat) (f : Int) : fval t' f = fval t f := by unfold fval; rw [show t'.xs = t.xs from congrArg Prod.snd h]
theorem cmpV_dat {t t' : Wi} {x x' y y' : It} {q : Bool} (h : t'.dat = t.dat) (hx : x'.dat = x.dat) (hy : y'.dat = y.dat) : cmpV t'.dat q (fval x' t'.field) (fval y' t'.field) = cmpV t.dat q (fval x t.field) (fval y t.field) := by
  rw [h, fval_dat hx, fval_dat hy, show t'.field = t.field from congrArg WD.field h]
/-- The cell of an item's field. -/
theorem fval_cell {w : World} {B : Nat} {t : It} (hi : Ints w B t.A t.n t.xs) (h : IsP t.dat) {f : Int} (hf : 0 ≤ f ∧ f ≤ 2) : ∃ b off : Nat, t.A = some ⟨b, off, none⟩ ∧ b < B ∧ (f.toNat : Int) = f ∧ f < (t.n : Int) ∧ w.cell? ⟨b, off + f.toNat, none⟩ = some (.int .i64 (fval t f)) := by
  have hl : t.xs.length = 3 := h.2.2
  have hn : t.n = 3 := hi.1.symm.trans hl
  obtain ⟨b, off, h1, h2, h3⟩ := hi.2 f.toNat (by omega)
  exact ⟨b, off, h1, h2, by omega, by omega, h3⟩

end Go.Proofs.Ytaijajajpnekbaa.num
