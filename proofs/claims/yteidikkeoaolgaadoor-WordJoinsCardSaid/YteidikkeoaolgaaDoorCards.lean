/-
  DERIVED. GIVEN WITH THE SEED: THE CARDS: each row of YteidikkeoaolgaaDoorRows.lean that lists a variable, with what it lists TIED to the program's text (the seventh form; the later family's looks); each row that meets fmt, with fmt's text TOLD by the authors' own Lean function (tested against real Go, not proved from fmt's source: count such statements apart). THE CARD IS WHAT COUNTS. Prove the row's statement (the work); the ties are given (YteidikkeoaolgaaDoorTie.lean); close each card by the builder's one call (the guide's Derived/Test/ToyasCard.lean, 'card_holds'). Laid BY PROGRAM, IN A SANDBOX (cutbox-door.mjs). By AI agents, Wed Nov 11 2026. No macro, syntax, notation, axiom, sorry.
-/
import Derived.Test.YteidikkeoaolgaaDoorRows
import GoSem.ClaimSeven
namespace Go.Proofs.YteidikkeoaolgaaDoor
namespace Rows

/-- THE TIED CARD OF 'lodesmanlaw01.WordJoins'. -/
def wordJoinsCard : Claim7 := { stood := { row := wordJoinsRow, standIns := [], harness := (true, "11eac5c11239a4340ea0a449ba8d86392a3b2c670693299547ead1ab2e1cf87c"), looks := true }, kinds := [], alts := [], laidByText := true, laidKinds := [.data, .data, .data], laidTests := true, laidLooks := .later }
def WordJoinsCardSaid : Prop := Claim7.holds Tryd.pinned (.plain (OpenSpec.ofChange wordJoinsSpec)) wordJoinsCard

/-- THE TIED CARD OF 'lodesmanlaw02.LtlSizes'. -/
def ltlSizesCard : Claim7 := { stood := { row := ltlSizesRow, standIns := [], harness := (true, "11eac5c11239a4340ea0a449ba8d86392a3b2c670693299547ead1ab2e1cf87c"), looks := true }, kinds := [], alts := [], laidByText := true, laidKinds := [.data], laidTests := true, laidLooks := .later }
def LtlSizesCardSaid : Prop := Claim7.holds Tryd.pinned (.plain (OpenSpec.ofChange ltlSizesSpec)) ltlSizesCard

/-- THE TIED CARD OF 'lodesmanlaw02.LtlNormal'. -/
def ltlNormalCard : Claim7 := { stood := { row := ltlNormalRow, standIns := [], harness := (true, "11eac5c11239a4340ea0a449ba8d86392a3b2c670693299547ead1ab2e1cf87c"), looks := true }, kinds := [], alts := [], laidByText := true, laidKinds := [.data], laidTests := true, laidLooks := .later }
def LtlNormalCardSaid : Prop := Claim7.holds Tryd.pinned (.plain (OpenSpec.ofChange ltlNormalSpec)) ltlNormalCard

/-- THE TIED CARD OF 'lodesmanlaw02.LtlTexts'. -/
def ltlTextsCard : Claim7 := { stood := { row := ltlTextsRow, standIns := [], harness := (true, "11eac5c11239a4340ea0a449ba8d86392a3b2c670693299547ead1ab2e1cf87c"), looks := true }, kinds := [], alts := [], laidByText := true, laidKinds := [.data], laidTests := true, laidLooks := .later }
def LtlTextsCardSaid : Prop := Claim7.holds Tryd.pinned (.plain (OpenSpec.ofChange ltlTextsSpec)) ltlTextsCard

/-- THE TIED CARD OF 'lodesmanlaw02.LtlBack'. -/
def ltlBackCard : Claim7 := { stood := { row := ltlBackRow, standIns := [], harness := (true, "11eac5c11239a4340ea0a449ba8d86392a3b2c670693299547ead1ab2e1cf87c"), looks := true }, kinds := [], alts := [], laidByText := true, laidKinds := [.data], laidTests := true, laidLooks := .later }
def LtlBackCardSaid : Prop := Claim7.holds Tryd.pinned (.plain (OpenSpec.ofChange ltlBackSpec)) ltlBackCard

/-- THE TIED CARD OF 'lodesmanlaw02.LtlPlain'. -/
def ltlPlainCard : Claim7 := { stood := { row := ltlPlainRow, standIns := [], harness := (true, "11eac5c11239a4340ea0a449ba8d86392a3b2c670693299547ead1ab2e1cf87c"), looks := true }, kinds := [], alts := [], laidByText := true, laidKinds := [.data], laidTests := true, laidLooks := .later }
def LtlPlainCardSaid : Prop := Claim7.holds Tryd.pinned (.plain (OpenSpec.ofChange ltlPlainSpec)) ltlPlainCard

/-- THE SECOND FORM's CARD OF 'lodesmanlaw01.WordJoins'. -/
def wordJoinsUptoCard : Claim7 := { stood := { row := wordJoinsUptoRow, standIns := [], harness := (true, "11eac5c11239a4340ea0a449ba8d86392a3b2c670693299547ead1ab2e1cf87c"), looks := true }, kinds := [], alts := [], laidByText := true, laidKinds := [.data, .data, .data], laidTests := true, laidLooks := .later }
def WordJoinsUptoCardSaid : Prop := Claim7.holds Tryd.pinned (.plain (OpenSpec.upto wordJoinsSpec)) wordJoinsUptoCard

/-- THE SECOND FORM's CARD OF 'lodesmanlaw02.LtlSizes'. -/
def ltlSizesUptoCard : Claim7 := { stood := { row := ltlSizesUptoRow, standIns := [], harness := (true, "11eac5c11239a4340ea0a449ba8d86392a3b2c670693299547ead1ab2e1cf87c"), looks := true }, kinds := [], alts := [], laidByText := true, laidKinds := [.data], laidTests := true, laidLooks := .later }
def LtlSizesUptoCardSaid : Prop := Claim7.holds Tryd.pinned (.plain (OpenSpec.upto ltlSizesSpec)) ltlSizesUptoCard

/-- THE SECOND FORM's CARD OF 'lodesmanlaw02.LtlNormal'. -/
def ltlNormalUptoCard : Claim7 := { stood := { row := ltlNormalUptoRow, standIns := [], harness := (true, "11eac5c11239a4340ea0a449ba8d86392a3b2c670693299547ead1ab2e1cf87c"), looks := true }, kinds := [], alts := [], laidByText := true, laidKinds := [.data], laidTests := true, laidLooks := .later }
def LtlNormalUptoCardSaid : Prop := Claim7.holds Tryd.pinned (.plain (OpenSpec.upto ltlNormalSpec)) ltlNormalUptoCard

/-- THE SECOND FORM's CARD OF 'lodesmanlaw02.LtlTexts'. -/
def ltlTextsUptoCard : Claim7 := { stood := { row := ltlTextsUptoRow, standIns := [], harness := (true, "11eac5c11239a4340ea0a449ba8d86392a3b2c670693299547ead1ab2e1cf87c"), looks := true }, kinds := [], alts := [], laidByText := true, laidKinds := [.data], laidTests := true, laidLooks := .later }
def LtlTextsUptoCardSaid : Prop := Claim7.holds Tryd.pinned (.plain (OpenSpec.upto ltlTextsSpec)) ltlTextsUptoCard

/-- THE SECOND FORM's CARD OF 'lodesmanlaw02.LtlBack'. -/
def ltlBackUptoCard : Claim7 := { stood := { row := ltlBackUptoRow, standIns := [], harness := (true, "11eac5c11239a4340ea0a449ba8d86392a3b2c670693299547ead1ab2e1cf87c"), looks := true }, kinds := [], alts := [], laidByText := true, laidKinds := [.data], laidTests := true, laidLooks := .later }
def LtlBackUptoCardSaid : Prop := Claim7.holds Tryd.pinned (.plain (OpenSpec.upto ltlBackSpec)) ltlBackUptoCard

/-- THE SECOND FORM's CARD OF 'lodesmanlaw02.LtlPlain'. -/
def ltlPlainUptoCard : Claim7 := { stood := { row := ltlPlainUptoRow, standIns := [], harness := (true, "11eac5c11239a4340ea0a449ba8d86392a3b2c670693299547ead1ab2e1cf87c"), looks := true }, kinds := [], alts := [], laidByText := true, laidKinds := [.data], laidTests := true, laidLooks := .later }
def LtlPlainUptoCardSaid : Prop := Claim7.holds Tryd.pinned (.plain (OpenSpec.upto ltlPlainSpec)) ltlPlainUptoCard
end Rows
end Go.Proofs.YteidikkeoaolgaaDoor
