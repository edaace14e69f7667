/-
  DERIVED. GIVEN WITH THE SEED: THE CARDS: each row of YtnkmmmagdmnngaaDoorRows.lean that lists a variable, with what it lists TIED to the program's text (the seventh form; the later family's looks); each row that meets fmt, with fmt's text TOLD by the authors' own Lean function (tested against real Go, not proved from fmt's source: count such statements apart). THE CARD IS WHAT COUNTS. Prove the row's statement (the work); the ties are given (YtnkmmmagdmnngaaDoorTie.lean); close each card by the builder's one call (the guide's Derived/Test/ToyasCard.lean, 'card_holds'). Laid BY PROGRAM, IN A SANDBOX (cutbox-door.mjs). By AI agents, Wed Nov 11 2026. No macro, syntax, notation, axiom, sorry.
-/
import Derived.Test.YtnkmmmagdmnngaaDoorRows
import GoSem.ClaimSeven
namespace Go.Proofs.YtnkmmmagdmnngaaDoor
namespace Rows

/-- THE TIED CARD OF 'lodesmanlaw01.WordForms'. -/
def wordFormsCard : Claim7 := { stood := { row := wordFormsRow, standIns := [], harness := (true, "5e493494380732bf086e905d59f6494ac9e04b8f6981df31c52cb069856ce9e9"), looks := true }, kinds := [], alts := [], laidByText := true, laidKinds := [.data, .data, .data], laidTests := true, laidLooks := .later }
def WordFormsCardSaid : Prop := Claim7.holds Tryd.pinned (.plain (OpenSpec.ofChange wordFormsSpec)) wordFormsCard

/-- THE TIED CARD OF 'lodesmanlaw01.WordJoins'. -/
def wordJoinsCard : Claim7 := { stood := { row := wordJoinsRow, standIns := [], harness := (true, "5e493494380732bf086e905d59f6494ac9e04b8f6981df31c52cb069856ce9e9"), looks := true }, kinds := [], alts := [], laidByText := true, laidKinds := [.data, .data, .data], laidTests := true, laidLooks := .later }
def WordJoinsCardSaid : Prop := Claim7.holds Tryd.pinned (.plain (OpenSpec.ofChange wordJoinsSpec)) wordJoinsCard

/-- THE TIED CARD OF 'lodesmanlaw01.WordTexts'. -/
def wordTextsCard : Claim7 := { stood := { row := wordTextsRow, standIns := [], harness := (true, "5e493494380732bf086e905d59f6494ac9e04b8f6981df31c52cb069856ce9e9"), looks := true }, kinds := [], alts := [], laidByText := true, laidKinds := [.data, .data, .data], laidTests := true, laidLooks := .later }
def WordTextsCardSaid : Prop := Claim7.holds Tryd.pinned (.plain (OpenSpec.ofChange wordTextsSpec)) wordTextsCard

/-- THE TIED CARD OF 'lodesmanlaw01.WordPositions'. -/
def wordPositionsCard : Claim7 := { stood := { row := wordPositionsRow, standIns := [], harness := (true, "5e493494380732bf086e905d59f6494ac9e04b8f6981df31c52cb069856ce9e9"), looks := true }, kinds := [], alts := [], laidByText := true, laidKinds := [.data, .data, .data], laidTests := true, laidLooks := .later }
def WordPositionsCardSaid : Prop := Claim7.holds Tryd.pinned (.plain (OpenSpec.ofChange wordPositionsSpec)) wordPositionsCard

/-- THE TIED CARD OF 'lodesmanlaw01.WordLeast'. -/
def wordLeastCard : Claim7 := { stood := { row := wordLeastRow, standIns := [], harness := (true, "5e493494380732bf086e905d59f6494ac9e04b8f6981df31c52cb069856ce9e9"), looks := true }, kinds := [], alts := [], laidByText := true, laidKinds := [.data, .data, .data], laidTests := true, laidLooks := .later }
def WordLeastCardSaid : Prop := Claim7.holds Tryd.pinned (.plain (OpenSpec.ofChange wordLeastSpec)) wordLeastCard

/-- THE TIED CARD OF 'lodesmanlaw02.LtlSizes'. -/
def ltlSizesCard : Claim7 := { stood := { row := ltlSizesRow, standIns := [], harness := (true, "5e493494380732bf086e905d59f6494ac9e04b8f6981df31c52cb069856ce9e9"), looks := true }, kinds := [], alts := [], laidByText := true, laidKinds := [.data], laidTests := true, laidLooks := .later }
def LtlSizesCardSaid : Prop := Claim7.holds Tryd.pinned (.plain (OpenSpec.ofChange ltlSizesSpec)) ltlSizesCard

/-- THE TIED CARD OF 'lodesmanlaw02.LtlNormal'. -/
def ltlNormalCard : Claim7 := { stood := { row := ltlNormalRow, standIns := [], harness := (true, "5e493494380732bf086e905d59f6494ac9e04b8f6981df31c52cb069856ce9e9"), looks := true }, kinds := [], alts := [], laidByText := true, laidKinds := [.data], laidTests := true, laidLooks := .later }
def LtlNormalCardSaid : Prop := Claim7.holds Tryd.pinned (.plain (OpenSpec.ofChange ltlNormalSpec)) ltlNormalCard

/-- THE TIED CARD OF 'lodesmanlaw02.LtlTexts'. -/
def ltlTextsCard : Claim7 := { stood := { row := ltlTextsRow, standIns := [], harness := (true, "5e493494380732bf086e905d59f6494ac9e04b8f6981df31c52cb069856ce9e9"), looks := true }, kinds := [], alts := [], laidByText := true, laidKinds := [.data], laidTests := true, laidLooks := .later }
def LtlTextsCardSaid : Prop := Claim7.holds Tryd.pinned (.plain (OpenSpec.ofChange ltlTextsSpec)) ltlTextsCard

/-- THE TIED CARD OF 'lodesmanlaw02.LtlBack'. -/
def ltlBackCard : Claim7 := { stood := { row := ltlBackRow, standIns := [], harness := (true, "5e493494380732bf086e905d59f6494ac9e04b8f6981df31c52cb069856ce9e9"), looks := true }, kinds := [], alts := [], laidByText := true, laidKinds := [.data], laidTests := true, laidLooks := .later }
def LtlBackCardSaid : Prop := Claim7.holds Tryd.pinned (.plain (OpenSpec.ofChange ltlBackSpec)) ltlBackCard

/-- THE TIED CARD OF 'lodesmanlaw02.LtlPlain'. -/
def ltlPlainCard : Claim7 := { stood := { row := ltlPlainRow, standIns := [], harness := (true, "5e493494380732bf086e905d59f6494ac9e04b8f6981df31c52cb069856ce9e9"), looks := true }, kinds := [], alts := [], laidByText := true, laidKinds := [.data], laidTests := true, laidLooks := .later }
def LtlPlainCardSaid : Prop := Claim7.holds Tryd.pinned (.plain (OpenSpec.ofChange ltlPlainSpec)) ltlPlainCard

/-- THE SECOND FORM's CARD OF 'lodesmanlaw01.WordForms'. -/
def wordFormsUptoCard : Claim7 := { stood := { row := wordFormsUptoRow, standIns := [], harness := (true, "5e493494380732bf086e905d59f6494ac9e04b8f6981df31c52cb069856ce9e9"), looks := true }, kinds := [], alts := [], laidByText := true, laidKinds := [.data, .data, .data], laidTests := true, laidLooks := .later }
def WordFormsUptoCardSaid : Prop := Claim7.holds Tryd.pinned (.plain (OpenSpec.upto wordFormsSpec)) wordFormsUptoCard

/-- THE SECOND FORM's CARD OF 'lodesmanlaw01.WordJoins'. -/
def wordJoinsUptoCard : Claim7 := { stood := { row := wordJoinsUptoRow, standIns := [], harness := (true, "5e493494380732bf086e905d59f6494ac9e04b8f6981df31c52cb069856ce9e9"), looks := true }, kinds := [], alts := [], laidByText := true, laidKinds := [.data, .data, .data], laidTests := true, laidLooks := .later }
def WordJoinsUptoCardSaid : Prop := Claim7.holds Tryd.pinned (.plain (OpenSpec.upto wordJoinsSpec)) wordJoinsUptoCard

/-- THE SECOND FORM's CARD OF 'lodesmanlaw01.WordTexts'. -/
def wordTextsUptoCard : Claim7 := { stood := { row := wordTextsUptoRow, standIns := [], harness := (true, "5e493494380732bf086e905d59f6494ac9e04b8f6981df31c52cb069856ce9e9"), looks := true }, kinds := [], alts := [], laidByText := true, laidKinds := [.data, .data, .data], laidTests := true, laidLooks := .later }
def WordTextsUptoCardSaid : Prop := Claim7.holds Tryd.pinned (.plain (OpenSpec.upto wordTextsSpec)) wordTextsUptoCard

/-- THE SECOND FORM's CARD OF 'lodesmanlaw01.WordPositions'. -/
def wordPositionsUptoCard : Claim7 := { stood := { row := wordPositionsUptoRow, standIns := [], harness := (true, "5e493494380732bf086e905d59f6494ac9e04b8f6981df31c52cb069856ce9e9"), looks := true }, kinds := [], alts := [], laidByText := true, laidKinds := [.data, .data, .data], laidTests := true, laidLooks := .later }
def WordPositionsUptoCardSaid : Prop := Claim7.holds Tryd.pinned (.plain (OpenSpec.upto wordPositionsSpec)) wordPositionsUptoCard

/-- THE SECOND FORM's CARD OF 'lodesmanlaw01.WordLeast'. -/
def wordLeastUptoCard : Claim7 := { stood := { row := wordLeastUptoRow, standIns := [], harness := (true, "5e493494380732bf086e905d59f6494ac9e04b8f6981df31c52cb069856ce9e9"), looks := true }, kinds := [], alts := [], laidByText := true, laidKinds := [.data, .data, .data], laidTests := true, laidLooks := .later }
def WordLeastUptoCardSaid : Prop := Claim7.holds Tryd.pinned (.plain (OpenSpec.upto wordLeastSpec)) wordLeastUptoCard

/-- THE SECOND FORM's CARD OF 'lodesmanlaw02.LtlSizes'. -/
def ltlSizesUptoCard : Claim7 := { stood := { row := ltlSizesUptoRow, standIns := [], harness := (true, "5e493494380732bf086e905d59f6494ac9e04b8f6981df31c52cb069856ce9e9"), looks := true }, kinds := [], alts := [], laidByText := true, laidKinds := [.data], laidTests := true, laidLooks := .later }
def LtlSizesUptoCardSaid : Prop := Claim7.holds Tryd.pinned (.plain (OpenSpec.upto ltlSizesSpec)) ltlSizesUptoCard

/-- THE SECOND FORM's CARD OF 'lodesmanlaw02.LtlNormal'. -/
def ltlNormalUptoCard : Claim7 := { stood := { row := ltlNormalUptoRow, standIns := [], harness := (true, "5e493494380732bf086e905d59f6494ac9e04b8f6981df31c52cb069856ce9e9"), looks := true }, kinds := [], alts := [], laidByText := true, laidKinds := [.data], laidTests := true, laidLooks := .later }
def LtlNormalUptoCardSaid : Prop := Claim7.holds Tryd.pinned (.plain (OpenSpec.upto ltlNormalSpec)) ltlNormalUptoCard

/-- THE SECOND FORM's CARD OF 'lodesmanlaw02.LtlTexts'. -/
def ltlTextsUptoCard : Claim7 := { stood := { row := ltlTextsUptoRow, standIns := [], harness := (true, "5e493494380732bf086e905d59f6494ac9e04b8f6981df31c52cb069856ce9e9"), looks := true }, kinds := [], alts := [], laidByText := true, laidKinds := [.data], laidTests := true, laidLooks := .later }
def LtlTextsUptoCardSaid : Prop := Claim7.holds Tryd.pinned (.plain (OpenSpec.upto ltlTextsSpec)) ltlTextsUptoCard

/-- THE SECOND FORM's CARD OF 'lodesmanlaw02.LtlBack'. -/
def ltlBackUptoCard : Claim7 := { stood := { row := ltlBackUptoRow, standIns := [], harness := (true, "5e493494380732bf086e905d59f6494ac9e04b8f6981df31c52cb069856ce9e9"), looks := true }, kinds := [], alts := [], laidByText := true, laidKinds := [.data], laidTests := true, laidLooks := .later }
def LtlBackUptoCardSaid : Prop := Claim7.holds Tryd.pinned (.plain (OpenSpec.upto ltlBackSpec)) ltlBackUptoCard

/-- THE SECOND FORM's CARD OF 'lodesmanlaw02.LtlPlain'. -/
def ltlPlainUptoCard : Claim7 := { stood := { row := ltlPlainUptoRow, standIns := [], harness := (true, "5e493494380732bf086e905d59f6494ac9e04b8f6981df31c52cb069856ce9e9"), looks := true }, kinds := [], alts := [], laidByText := true, laidKinds := [.data], laidTests := true, laidLooks := .later }
def LtlPlainUptoCardSaid : Prop := Claim7.holds Tryd.pinned (.plain (OpenSpec.upto ltlPlainSpec)) ltlPlainUptoCard
end Rows
end Go.Proofs.YtnkmmmagdmnngaaDoor
