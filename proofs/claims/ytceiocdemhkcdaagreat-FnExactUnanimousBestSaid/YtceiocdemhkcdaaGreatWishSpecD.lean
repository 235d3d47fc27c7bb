/-
  The model's RankOfValue, CompareValues, CodeName; the program's CodeName.
-/
import Derived.Test.YtceiocdemhkcdaaGreatWishSpecC
namespace Go.Proofs.YtceiocdemhkcdaaGreat.num
set_option maxRecDepth 20000
open Go.RowKit
set_option linter.unusedVariables false

/-- What RankOfValue answers. -/
def rankV (d : WD) (q : Bool) (x : Int) : Int := if q then rankW d x else 0
/-- What CompareValues answers. -/
def cmpV (d : WD) (q : Bool) (x y : Int) : Int := if q then cmpW d x y else 2

/-- The name of a code. -/
def nameC (c : Int) : ByteArray := if c = -1 then ⟨#[119, 111, 114, 115, 101]⟩ else if c = 0 then ⟨#[101, 113, 117, 97, 108]⟩ else if c = 1 then ⟨#[98, 101, 116, 116, 101, 114]⟩ else if c = 2 then ⟨#[117, 110, 114, 101, 108, 97, 116, 101, 100]⟩ else ⟨#[]⟩
end Go.Proofs.YtceiocdemhkcdaaGreat.num
