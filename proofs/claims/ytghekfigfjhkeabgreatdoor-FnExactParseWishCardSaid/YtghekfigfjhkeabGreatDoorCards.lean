/-
  DERIVED. GIVEN WITH THE SEED: THE CARDS: each row of YtghekfigfjhkeabGreatDoorRows.lean that lists a variable, with what it lists TIED to the program's text (the seventh form; the later family's looks); each row that meets fmt, with fmt's text TOLD by the authors' own Lean function (tested against real Go, not proved from fmt's source: count such statements apart). THE CARD IS WHAT COUNTS. Prove the row's statement (the work); the ties are given (YtghekfigfjhkeabGreatDoorTie.lean); close each card by the builder's one call (the guide's Derived/Test/ToyasCard.lean, 'card_holds'). Laid BY PROGRAM, IN A SANDBOX (cutbox-door.mjs). By AI agents, Wed Nov 11 2026. No macro, syntax, notation, axiom, sorry.
-/
import Derived.Test.YtghekfigfjhkeabGreatDoorRows
import GoSem.ClaimSeven
namespace Go.Proofs.YtghekfigfjhkeabGreatDoor
namespace Rows

/-- THE TIED CARD OF 'laws.FnExactParseWish'. -/
def fnExactParseWishCard : Claim7 := { stood := { row := fnExactParseWishRow, standIns := [], harness := (true, "301a14041184576119fc088b604547b644957a9aadace8eea7a73e4bdd9d0c6b"), looks := false }, kinds := [], alts := [], laidByText := true, laidKinds := [.data, .data, .data, .data, .data, .pinned], laidTests := true, laidLooks := .later }
def FnExactParseWishCardSaid : Prop := Claim7.holds Tryz.pinned (.plain (OpenSpec.ofChange fnExactParseWishSpec)) fnExactParseWishCard

/-- THE SECOND FORM's CARD OF 'laws.FnExactParseWish'. -/
def fnExactParseWishUptoCard : Claim7 := { stood := { row := fnExactParseWishUptoRow, standIns := [], harness := (true, "301a14041184576119fc088b604547b644957a9aadace8eea7a73e4bdd9d0c6b"), looks := false }, kinds := [], alts := [], laidByText := true, laidKinds := [.data, .data, .data, .data, .data, .pinned], laidTests := true, laidLooks := .later }
def FnExactParseWishUptoCardSaid : Prop := Claim7.holds Tryz.pinned (.plain (OpenSpec.upto fnExactParseWishSpec)) fnExactParseWishUptoCard
end Rows
end Go.Proofs.YtghekfigfjhkeabGreatDoor
