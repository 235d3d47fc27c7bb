/-
  DERIVED. GIVEN WITH THE SEED: THE CARDS: each row of YtghekfigfjhkeaaDoorRows.lean that lists a variable, with what it lists TIED to the program's text (the seventh form; the later family's looks); each row that meets fmt, with fmt's text TOLD by the authors' own Lean function (tested against real Go, not proved from fmt's source: count such statements apart). THE CARD IS WHAT COUNTS. Prove the row's statement (the work); the ties are given (YtghekfigfjhkeaaDoorTie.lean); close each card by the builder's one call (the guide's Derived/Test/ToyasCard.lean, 'card_holds'). Laid BY PROGRAM, IN A SANDBOX (cutbox-door.mjs). By AI agents, Wed Nov 11 2026. No macro, syntax, notation, axiom, sorry.
-/
import Derived.Test.YtghekfigfjhkeaaDoorRows
import GoSem.ClaimSeven
namespace Go.Proofs.YtghekfigfjhkeaaDoor
namespace Rows

/-- THE TIED CARD OF 'laws.FnExactFormatExpression'. -/
def fnExactFormatExpressionCard : Claim7 := { stood := { row := fnExactFormatExpressionRow, standIns := [], harness := (true, "7355d7f0ef1e4fe7b7504cb29c066484247786acacea6ab0b12eecf4e600e7bf"), looks := false }, kinds := [], alts := [], laidByText := true, laidKinds := [.data, .data, .data, .data, .data], laidTests := true, laidLooks := .later }
def FnExactFormatExpressionCardSaid : Prop := Claim7.holds Tryd.pinned (.plain (OpenSpec.ofChange fnExactFormatExpressionSpec)) fnExactFormatExpressionCard

/-- THE TIED CARD OF 'laws.FnExactFormatItem'. -/
def fnExactFormatItemCard : Claim7 := { stood := { row := fnExactFormatItemRow, standIns := [], harness := (true, "7355d7f0ef1e4fe7b7504cb29c066484247786acacea6ab0b12eecf4e600e7bf"), looks := false }, kinds := [], alts := [], laidByText := true, laidKinds := [.data, .data, .data], laidTests := true, laidLooks := .later }
def FnExactFormatItemCardSaid : Prop := Claim7.holds Tryd.pinned (.plain (OpenSpec.ofChange fnExactFormatItemSpec)) fnExactFormatItemCard

/-- THE TIED CARD OF 'laws.FnExactParseItem'. -/
def fnExactParseItemCard : Claim7 := { stood := { row := fnExactParseItemRow, standIns := [], harness := (true, "7355d7f0ef1e4fe7b7504cb29c066484247786acacea6ab0b12eecf4e600e7bf"), looks := false }, kinds := [], alts := [], laidByText := true, laidKinds := [.data, .data, .data, .data, .pinned], laidTests := true, laidLooks := .later }
def FnExactParseItemCardSaid : Prop := Claim7.holds Tryd.pinned (.plain (OpenSpec.ofChange fnExactParseItemSpec)) fnExactParseItemCard

/-- THE TIED CARD OF 'laws.FnExactFormatPairs'. -/
def fnExactFormatPairsCard : Claim7 := { stood := { row := fnExactFormatPairsRow, standIns := [], harness := (true, "7355d7f0ef1e4fe7b7504cb29c066484247786acacea6ab0b12eecf4e600e7bf"), looks := false }, kinds := [], alts := [], laidByText := true, laidKinds := [.data, .data, .data], laidTests := true, laidLooks := .later }
def FnExactFormatPairsCardSaid : Prop := Claim7.holds Tryd.pinned (.plain (OpenSpec.ofChange fnExactFormatPairsSpec)) fnExactFormatPairsCard

/-- THE SECOND FORM's CARD OF 'laws.FnExactFormatExpression'. -/
def fnExactFormatExpressionUptoCard : Claim7 := { stood := { row := fnExactFormatExpressionUptoRow, standIns := [], harness := (true, "7355d7f0ef1e4fe7b7504cb29c066484247786acacea6ab0b12eecf4e600e7bf"), looks := false }, kinds := [], alts := [], laidByText := true, laidKinds := [.data, .data, .data, .data, .data], laidTests := true, laidLooks := .later }
def FnExactFormatExpressionUptoCardSaid : Prop := Claim7.holds Tryd.pinned (.plain (OpenSpec.upto fnExactFormatExpressionSpec)) fnExactFormatExpressionUptoCard

/-- THE SECOND FORM's CARD OF 'laws.FnExactFormatItem'. -/
def fnExactFormatItemUptoCard : Claim7 := { stood := { row := fnExactFormatItemUptoRow, standIns := [], harness := (true, "7355d7f0ef1e4fe7b7504cb29c066484247786acacea6ab0b12eecf4e600e7bf"), looks := false }, kinds := [], alts := [], laidByText := true, laidKinds := [.data, .data, .data], laidTests := true, laidLooks := .later }
def FnExactFormatItemUptoCardSaid : Prop := Claim7.holds Tryd.pinned (.plain (OpenSpec.upto fnExactFormatItemSpec)) fnExactFormatItemUptoCard

/-- THE SECOND FORM's CARD OF 'laws.FnExactParseItem'. -/
def fnExactParseItemUptoCard : Claim7 := { stood := { row := fnExactParseItemUptoRow, standIns := [], harness := (true, "7355d7f0ef1e4fe7b7504cb29c066484247786acacea6ab0b12eecf4e600e7bf"), looks := false }, kinds := [], alts := [], laidByText := true, laidKinds := [.data, .data, .data, .data, .pinned], laidTests := true, laidLooks := .later }
def FnExactParseItemUptoCardSaid : Prop := Claim7.holds Tryd.pinned (.plain (OpenSpec.upto fnExactParseItemSpec)) fnExactParseItemUptoCard

/-- THE SECOND FORM's CARD OF 'laws.FnExactFormatPairs'. -/
def fnExactFormatPairsUptoCard : Claim7 := { stood := { row := fnExactFormatPairsUptoRow, standIns := [], harness := (true, "7355d7f0ef1e4fe7b7504cb29c066484247786acacea6ab0b12eecf4e600e7bf"), looks := false }, kinds := [], alts := [], laidByText := true, laidKinds := [.data, .data, .data], laidTests := true, laidLooks := .later }
def FnExactFormatPairsUptoCardSaid : Prop := Claim7.holds Tryd.pinned (.plain (OpenSpec.upto fnExactFormatPairsSpec)) fnExactFormatPairsUptoCard
end Rows
end Go.Proofs.YtghekfigfjhkeaaDoor
