/-
  DERIVED. GIVEN WITH THE SEED: THE CARDS: each row of YtghekfigfjhkeabDoorRows.lean that lists a variable, with what it lists TIED to the program's text (the seventh form; the later family's looks); each row that meets fmt, with fmt's text TOLD by the authors' own Lean function (tested against real Go, not proved from fmt's source: count such statements apart). THE CARD IS WHAT COUNTS. Prove the row's statement (the work); the ties are given (YtghekfigfjhkeabDoorTie.lean); close each card by the builder's one call (the guide's Derived/Test/ToyasCard.lean, 'card_holds'). Laid BY PROGRAM, IN A SANDBOX (cutbox-door.mjs). By AI agents, Wed Nov 11 2026. No macro, syntax, notation, axiom, sorry.
-/
import Derived.Test.YtghekfigfjhkeabDoorRows
import GoSem.ClaimSeven
namespace Go.Proofs.YtghekfigfjhkeabDoor
namespace Rows

/-- THE TIED CARD OF 'laws.FnExactParsePairs'. -/
def fnExactParsePairsCard : Claim7 := { stood := { row := fnExactParsePairsRow, standIns := [], harness := (true, "0f2dee2031edb38e62f8c467139cc8bb41a67e10ae6e5fdc4c9e0720dd1620b7"), looks := false }, kinds := [], alts := [], laidByText := true, laidKinds := [.data, .data, .data, .data, .pinned], laidTests := true, laidLooks := .later }
def FnExactParsePairsCardSaid : Prop := Claim7.holds Tryd.pinned (.plain (OpenSpec.ofChange fnExactParsePairsSpec)) fnExactParsePairsCard

/-- THE TIED CARD OF 'laws.FnExactFormatWish'. -/
def fnExactFormatWishCard : Claim7 := { stood := { row := fnExactFormatWishRow, standIns := [], harness := (true, "0f2dee2031edb38e62f8c467139cc8bb41a67e10ae6e5fdc4c9e0720dd1620b7"), looks := false }, kinds := [], alts := [], laidByText := true, laidKinds := [.data, .data, .data, .data], laidTests := true, laidLooks := .later }
def FnExactFormatWishCardSaid : Prop := Claim7.holds Tryd.pinned (.plain (OpenSpec.ofChange fnExactFormatWishSpec)) fnExactFormatWishCard

/-- THE SECOND FORM's CARD OF 'laws.FnExactParsePairs'. -/
def fnExactParsePairsUptoCard : Claim7 := { stood := { row := fnExactParsePairsUptoRow, standIns := [], harness := (true, "0f2dee2031edb38e62f8c467139cc8bb41a67e10ae6e5fdc4c9e0720dd1620b7"), looks := false }, kinds := [], alts := [], laidByText := true, laidKinds := [.data, .data, .data, .data, .pinned], laidTests := true, laidLooks := .later }
def FnExactParsePairsUptoCardSaid : Prop := Claim7.holds Tryd.pinned (.plain (OpenSpec.upto fnExactParsePairsSpec)) fnExactParsePairsUptoCard

/-- THE SECOND FORM's CARD OF 'laws.FnExactFormatWish'. -/
def fnExactFormatWishUptoCard : Claim7 := { stood := { row := fnExactFormatWishUptoRow, standIns := [], harness := (true, "0f2dee2031edb38e62f8c467139cc8bb41a67e10ae6e5fdc4c9e0720dd1620b7"), looks := false }, kinds := [], alts := [], laidByText := true, laidKinds := [.data, .data, .data, .data], laidTests := true, laidLooks := .later }
def FnExactFormatWishUptoCardSaid : Prop := Claim7.holds Tryd.pinned (.plain (OpenSpec.upto fnExactFormatWishSpec)) fnExactFormatWishUptoCard
end Rows
end Go.Proofs.YtghekfigfjhkeabDoor
