/-
  DERIVED. GIVEN WITH THE SEED: THE CARDS: each row of YtooghbejbjfakaaGreatDoorRows.lean that lists a variable, with what it lists TIED to the program's text (the seventh form; the later family's looks); each row that meets fmt, with fmt's text TOLD by the authors' own Lean function (tested against real Go, not proved from fmt's source: count such statements apart). THE CARD IS WHAT COUNTS. Prove the row's statement (the work); the ties are given (YtooghbejbjfakaaGreatDoorTie.lean); close each card by the builder's one call (the guide's Derived/Test/ToyasCard.lean, 'card_holds'). Laid BY PROGRAM, IN A SANDBOX (cutbox-door.mjs). By AI agents, Wed Nov 11 2026. No macro, syntax, notation, axiom, sorry.
-/
import Derived.Test.YtooghbejbjfakaaGreatDoorRows
import GoSem.ClaimSeven
namespace Go.Proofs.YtooghbejbjfakaaGreatDoor
namespace Rows

/-- THE TIED CARD OF 'laws.FnOrigins'. -/
def fnOriginsCard : Claim7 := { stood := { row := fnOriginsRow, standIns := [], harness := (true, "65a9f8b29798d2585c9a19562c5e02d1a6f1b23acac3c31218836ac6bb6d077f"), looks := true }, kinds := [], alts := [], laidByText := true, laidKinds := [.data, .pinned], laidTests := true, laidLooks := .later }
def FnOriginsCardSaid : Prop := Claim7.holds Tryz.pinned (.plain (OpenSpec.ofChange fnOriginsSpec)) fnOriginsCard

/-- THE TIED CARD OF 'laws.FnExactAddColumn'. -/
def fnExactAddColumnCard : Claim7 := { stood := { row := fnExactAddColumnRow, standIns := [], harness := (true, "65a9f8b29798d2585c9a19562c5e02d1a6f1b23acac3c31218836ac6bb6d077f"), looks := true }, kinds := [], alts := [], laidByText := true, laidKinds := [.data, .pinned], laidTests := true, laidLooks := .later }
def FnExactAddColumnCardSaid : Prop := Claim7.holds Tryz.pinned (.plain (OpenSpec.ofChange fnExactAddColumnSpec)) fnExactAddColumnCard

/-- THE TIED CARD OF 'laws.FnExactGroupSum'. -/
def fnExactGroupSumCard : Claim7 := { stood := { row := fnExactGroupSumRow, standIns := [], harness := (true, "65a9f8b29798d2585c9a19562c5e02d1a6f1b23acac3c31218836ac6bb6d077f"), looks := true }, kinds := [], alts := [], laidByText := true, laidKinds := [.data, .pinned], laidTests := true, laidLooks := .later }
def FnExactGroupSumCardSaid : Prop := Claim7.holds Tryz.pinned (.plain (OpenSpec.ofChange fnExactGroupSumSpec)) fnExactGroupSumCard

/-- THE TIED CARD OF 'laws.FnExactJoinOn'. -/
def fnExactJoinOnCard : Claim7 := { stood := { row := fnExactJoinOnRow, standIns := [], harness := (true, "65a9f8b29798d2585c9a19562c5e02d1a6f1b23acac3c31218836ac6bb6d077f"), looks := true }, kinds := [], alts := [], laidByText := true, laidKinds := [.data, .pinned], laidTests := true, laidLooks := .later }
def FnExactJoinOnCardSaid : Prop := Claim7.holds Tryz.pinned (.plain (OpenSpec.ofChange fnExactJoinOnSpec)) fnExactJoinOnCard

/-- THE SECOND FORM's CARD OF 'laws.FnOrigins'. -/
def fnOriginsUptoCard : Claim7 := { stood := { row := fnOriginsUptoRow, standIns := [], harness := (true, "65a9f8b29798d2585c9a19562c5e02d1a6f1b23acac3c31218836ac6bb6d077f"), looks := true }, kinds := [], alts := [], laidByText := true, laidKinds := [.data, .pinned], laidTests := true, laidLooks := .later }
def FnOriginsUptoCardSaid : Prop := Claim7.holds Tryz.pinned (.plain (OpenSpec.upto fnOriginsSpec)) fnOriginsUptoCard

/-- THE SECOND FORM's CARD OF 'laws.FnExactAddColumn'. -/
def fnExactAddColumnUptoCard : Claim7 := { stood := { row := fnExactAddColumnUptoRow, standIns := [], harness := (true, "65a9f8b29798d2585c9a19562c5e02d1a6f1b23acac3c31218836ac6bb6d077f"), looks := true }, kinds := [], alts := [], laidByText := true, laidKinds := [.data, .pinned], laidTests := true, laidLooks := .later }
def FnExactAddColumnUptoCardSaid : Prop := Claim7.holds Tryz.pinned (.plain (OpenSpec.upto fnExactAddColumnSpec)) fnExactAddColumnUptoCard

/-- THE SECOND FORM's CARD OF 'laws.FnExactGroupSum'. -/
def fnExactGroupSumUptoCard : Claim7 := { stood := { row := fnExactGroupSumUptoRow, standIns := [], harness := (true, "65a9f8b29798d2585c9a19562c5e02d1a6f1b23acac3c31218836ac6bb6d077f"), looks := true }, kinds := [], alts := [], laidByText := true, laidKinds := [.data, .pinned], laidTests := true, laidLooks := .later }
def FnExactGroupSumUptoCardSaid : Prop := Claim7.holds Tryz.pinned (.plain (OpenSpec.upto fnExactGroupSumSpec)) fnExactGroupSumUptoCard

/-- THE SECOND FORM's CARD OF 'laws.FnExactJoinOn'. -/
def fnExactJoinOnUptoCard : Claim7 := { stood := { row := fnExactJoinOnUptoRow, standIns := [], harness := (true, "65a9f8b29798d2585c9a19562c5e02d1a6f1b23acac3c31218836ac6bb6d077f"), looks := true }, kinds := [], alts := [], laidByText := true, laidKinds := [.data, .pinned], laidTests := true, laidLooks := .later }
def FnExactJoinOnUptoCardSaid : Prop := Claim7.holds Tryz.pinned (.plain (OpenSpec.upto fnExactJoinOnSpec)) fnExactJoinOnUptoCard
end Rows
end Go.Proofs.YtooghbejbjfakaaGreatDoor
