/-
  DERIVED. GIVEN WITH THE SEED: THE CARDS: each row of YtooghbejbjfakaaDoorRows.lean that lists a variable, with what it lists TIED to the program's text (the seventh form; the later family's looks); each row that meets fmt, with fmt's text TOLD by the authors' own Lean function (tested against real Go, not proved from fmt's source: count such statements apart). THE CARD IS WHAT COUNTS. Prove the row's statement (the work); the ties are given (YtooghbejbjfakaaDoorTie.lean); close each card by the builder's one call (the guide's Derived/Test/ToyasCard.lean, 'card_holds'). Laid BY PROGRAM, IN A SANDBOX (cutbox-door.mjs). By AI agents, Wed Nov 11 2026. No macro, syntax, notation, axiom, sorry.
-/
import Derived.Test.YtooghbejbjfakaaDoorRows
import GoSem.ClaimSeven
namespace Go.Proofs.YtooghbejbjfakaaDoor
namespace Rows

/-- THE TIED CARD OF 'laws.FnExactFormatToken'. -/
def fnExactFormatTokenCard : Claim7 := { stood := { row := fnExactFormatTokenRow, standIns := [], harness := (true, "746f95527f42c8b0bce50b8723f3f9c4e3bb9c5c3b769100b413530cceb657d8"), looks := true }, kinds := [], alts := [], laidByText := true, laidKinds := [.data, .data, .data], laidTests := true, laidLooks := .later }
def FnExactFormatTokenCardSaid : Prop := Claim7.holds Tryd.pinned (.plain (OpenSpec.ofChange fnExactFormatTokenSpec)) fnExactFormatTokenCard

/-- THE TIED CARD OF 'laws.FnExactFormatTokens'. -/
def fnExactFormatTokensCard : Claim7 := { stood := { row := fnExactFormatTokensRow, standIns := [], harness := (true, "746f95527f42c8b0bce50b8723f3f9c4e3bb9c5c3b769100b413530cceb657d8"), looks := true }, kinds := [], alts := [], laidByText := true, laidKinds := [.data, .data, .data], laidTests := true, laidLooks := .later }
def FnExactFormatTokensCardSaid : Prop := Claim7.holds Tryd.pinned (.plain (OpenSpec.ofChange fnExactFormatTokensSpec)) fnExactFormatTokensCard

/-- THE TIED CARD OF 'laws.FnExactTokenize'. -/
def fnExactTokenizeCard : Claim7 := { stood := { row := fnExactTokenizeRow, standIns := [], harness := (true, "746f95527f42c8b0bce50b8723f3f9c4e3bb9c5c3b769100b413530cceb657d8"), looks := true }, kinds := [], alts := [], laidByText := true, laidKinds := [.data, .data, .data, .sentinel, .sentinel], laidTests := true, laidLooks := .later }
def FnExactTokenizeCardSaid : Prop := Claim7.holds Tryd.pinned (.plain (OpenSpec.ofChange fnExactTokenizeSpec)) fnExactTokenizeCard

/-- THE SECOND FORM's CARD OF 'laws.FnExactFormatToken'. -/
def fnExactFormatTokenUptoCard : Claim7 := { stood := { row := fnExactFormatTokenUptoRow, standIns := [], harness := (true, "746f95527f42c8b0bce50b8723f3f9c4e3bb9c5c3b769100b413530cceb657d8"), looks := true }, kinds := [], alts := [], laidByText := true, laidKinds := [.data, .data, .data], laidTests := true, laidLooks := .later }
def FnExactFormatTokenUptoCardSaid : Prop := Claim7.holds Tryd.pinned (.plain (OpenSpec.upto fnExactFormatTokenSpec)) fnExactFormatTokenUptoCard

/-- THE SECOND FORM's CARD OF 'laws.FnExactFormatTokens'. -/
def fnExactFormatTokensUptoCard : Claim7 := { stood := { row := fnExactFormatTokensUptoRow, standIns := [], harness := (true, "746f95527f42c8b0bce50b8723f3f9c4e3bb9c5c3b769100b413530cceb657d8"), looks := true }, kinds := [], alts := [], laidByText := true, laidKinds := [.data, .data, .data], laidTests := true, laidLooks := .later }
def FnExactFormatTokensUptoCardSaid : Prop := Claim7.holds Tryd.pinned (.plain (OpenSpec.upto fnExactFormatTokensSpec)) fnExactFormatTokensUptoCard

/-- THE SECOND FORM's CARD OF 'laws.FnExactTokenize'. -/
def fnExactTokenizeUptoCard : Claim7 := { stood := { row := fnExactTokenizeUptoRow, standIns := [], harness := (true, "746f95527f42c8b0bce50b8723f3f9c4e3bb9c5c3b769100b413530cceb657d8"), looks := true }, kinds := [], alts := [], laidByText := true, laidKinds := [.data, .data, .data, .sentinel, .sentinel], laidTests := true, laidLooks := .later }
def FnExactTokenizeUptoCardSaid : Prop := Claim7.holds Tryd.pinned (.plain (OpenSpec.upto fnExactTokenizeSpec)) fnExactTokenizeUptoCard
end Rows
end Go.Proofs.YtooghbejbjfakaaDoor
