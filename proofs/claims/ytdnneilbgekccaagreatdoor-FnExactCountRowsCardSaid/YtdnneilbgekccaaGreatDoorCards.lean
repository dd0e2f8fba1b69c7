/-
  DERIVED. GIVEN WITH THE SEED: THE CARDS: each row of YtdnneilbgekccaaGreatDoorRows.lean that lists a variable, with what it lists TIED to the program's text (the seventh form; the later family's looks); each row that meets fmt, with fmt's text TOLD by the authors' own Lean function (tested against real Go, not proved from fmt's source: count such statements apart). THE CARD IS WHAT COUNTS. Prove the row's statement (the work); the ties are given (YtdnneilbgekccaaGreatDoorTie.lean); close each card by the builder's one call (the guide's Derived/Test/ToyasCard.lean, 'card_holds'). Laid BY PROGRAM, IN A SANDBOX (cutbox-door.mjs). By AI agents, Wed Nov 11 2026. No macro, syntax, notation, axiom, sorry.
-/
import Derived.Test.YtdnneilbgekccaaGreatDoorRows
import GoSem.ClaimSeven
namespace Go.Proofs.YtdnneilbgekccaaGreatDoor
namespace Rows

/-- THE TIED CARD OF 'laws.FnTables'. -/
def fnTablesCard : Claim7 := { stood := { row := fnTablesRow, standIns := [], harness := (true, "3c2b0ce1dbb2058bd8293528709f50f304b9eb96de1aeb7e21ae2eaa1fd9785c"), looks := true }, kinds := [], alts := [], laidByText := true, laidKinds := [.data, .pinned], laidTests := true, laidLooks := .later }
def FnTablesCardSaid : Prop := Claim7.holds Tryz.pinned (.plain (OpenSpec.ofChange fnTablesSpec)) fnTablesCard

/-- THE TIED CARD OF 'laws.FnKeepAdd'. -/
def fnKeepAddCard : Claim7 := { stood := { row := fnKeepAddRow, standIns := [], harness := (true, "3c2b0ce1dbb2058bd8293528709f50f304b9eb96de1aeb7e21ae2eaa1fd9785c"), looks := true }, kinds := [], alts := [], laidByText := true, laidKinds := [.data, .pinned], laidTests := true, laidLooks := .later }
def FnKeepAddCardSaid : Prop := Claim7.holds Tryz.pinned (.plain (OpenSpec.ofChange fnKeepAddSpec)) fnKeepAddCard

/-- THE TIED CARD OF 'laws.FnExactCountRows'. -/
def fnExactCountRowsCard : Claim7 := { stood := { row := fnExactCountRowsRow, standIns := [], harness := (true, "3c2b0ce1dbb2058bd8293528709f50f304b9eb96de1aeb7e21ae2eaa1fd9785c"), looks := true }, kinds := [], alts := [], laidByText := true, laidKinds := [.data, .pinned], laidTests := true, laidLooks := .later }
def FnExactCountRowsCardSaid : Prop := Claim7.holds Tryz.pinned (.plain (OpenSpec.ofChange fnExactCountRowsSpec)) fnExactCountRowsCard

/-- THE TIED CARD OF 'laws.FnExactColumnOf'. -/
def fnExactColumnOfCard : Claim7 := { stood := { row := fnExactColumnOfRow, standIns := [], harness := (true, "3c2b0ce1dbb2058bd8293528709f50f304b9eb96de1aeb7e21ae2eaa1fd9785c"), looks := true }, kinds := [], alts := [], laidByText := true, laidKinds := [.data, .pinned], laidTests := true, laidLooks := .later }
def FnExactColumnOfCardSaid : Prop := Claim7.holds Tryz.pinned (.plain (OpenSpec.ofChange fnExactColumnOfSpec)) fnExactColumnOfCard

/-- THE TIED CARD OF 'laws.FnExactKeepColumns'. -/
def fnExactKeepColumnsCard : Claim7 := { stood := { row := fnExactKeepColumnsRow, standIns := [], harness := (true, "3c2b0ce1dbb2058bd8293528709f50f304b9eb96de1aeb7e21ae2eaa1fd9785c"), looks := true }, kinds := [], alts := [], laidByText := true, laidKinds := [.data, .pinned], laidTests := true, laidLooks := .later }
def FnExactKeepColumnsCardSaid : Prop := Claim7.holds Tryz.pinned (.plain (OpenSpec.ofChange fnExactKeepColumnsSpec)) fnExactKeepColumnsCard

/-- THE TIED CARD OF 'laws.FnExactWhereEqual'. -/
def fnExactWhereEqualCard : Claim7 := { stood := { row := fnExactWhereEqualRow, standIns := [], harness := (true, "3c2b0ce1dbb2058bd8293528709f50f304b9eb96de1aeb7e21ae2eaa1fd9785c"), looks := true }, kinds := [], alts := [], laidByText := true, laidKinds := [.data, .pinned], laidTests := true, laidLooks := .later }
def FnExactWhereEqualCardSaid : Prop := Claim7.holds Tryz.pinned (.plain (OpenSpec.ofChange fnExactWhereEqualSpec)) fnExactWhereEqualCard

/-- THE TIED CARD OF 'laws.FnExactAddColumn'. -/
def fnExactAddColumnCard : Claim7 := { stood := { row := fnExactAddColumnRow, standIns := [], harness := (true, "3c2b0ce1dbb2058bd8293528709f50f304b9eb96de1aeb7e21ae2eaa1fd9785c"), looks := true }, kinds := [], alts := [], laidByText := true, laidKinds := [.data, .pinned], laidTests := true, laidLooks := .later }
def FnExactAddColumnCardSaid : Prop := Claim7.holds Tryz.pinned (.plain (OpenSpec.ofChange fnExactAddColumnSpec)) fnExactAddColumnCard

/-- THE TIED CARD OF 'laws.FnExactGroupSum'. -/
def fnExactGroupSumCard : Claim7 := { stood := { row := fnExactGroupSumRow, standIns := [], harness := (true, "3c2b0ce1dbb2058bd8293528709f50f304b9eb96de1aeb7e21ae2eaa1fd9785c"), looks := true }, kinds := [], alts := [], laidByText := true, laidKinds := [.data, .pinned], laidTests := true, laidLooks := .later }
def FnExactGroupSumCardSaid : Prop := Claim7.holds Tryz.pinned (.plain (OpenSpec.ofChange fnExactGroupSumSpec)) fnExactGroupSumCard

/-- THE TIED CARD OF 'laws.FnExactJoinOn'. -/
def fnExactJoinOnCard : Claim7 := { stood := { row := fnExactJoinOnRow, standIns := [], harness := (true, "3c2b0ce1dbb2058bd8293528709f50f304b9eb96de1aeb7e21ae2eaa1fd9785c"), looks := true }, kinds := [], alts := [], laidByText := true, laidKinds := [.data, .pinned], laidTests := true, laidLooks := .later }
def FnExactJoinOnCardSaid : Prop := Claim7.holds Tryz.pinned (.plain (OpenSpec.ofChange fnExactJoinOnSpec)) fnExactJoinOnCard

/-- THE TIED CARD OF 'laws.FnGroup'. -/
def fnGroupCard : Claim7 := { stood := { row := fnGroupRow, standIns := [], harness := (true, "3c2b0ce1dbb2058bd8293528709f50f304b9eb96de1aeb7e21ae2eaa1fd9785c"), looks := true }, kinds := [], alts := [], laidByText := true, laidKinds := [.data, .pinned], laidTests := true, laidLooks := .later }
def FnGroupCardSaid : Prop := Claim7.holds Tryz.pinned (.plain (OpenSpec.ofChange fnGroupSpec)) fnGroupCard

/-- THE TIED CARD OF 'laws.FnJoin'. -/
def fnJoinCard : Claim7 := { stood := { row := fnJoinRow, standIns := [], harness := (true, "3c2b0ce1dbb2058bd8293528709f50f304b9eb96de1aeb7e21ae2eaa1fd9785c"), looks := true }, kinds := [], alts := [], laidByText := true, laidKinds := [.data, .pinned], laidTests := true, laidLooks := .later }
def FnJoinCardSaid : Prop := Claim7.holds Tryz.pinned (.plain (OpenSpec.ofChange fnJoinSpec)) fnJoinCard

/-- THE TIED CARD OF 'laws.FnMonotone'. -/
def fnMonotoneCard : Claim7 := { stood := { row := fnMonotoneRow, standIns := [], harness := (true, "3c2b0ce1dbb2058bd8293528709f50f304b9eb96de1aeb7e21ae2eaa1fd9785c"), looks := true }, kinds := [], alts := [], laidByText := true, laidKinds := [.data, .pinned], laidTests := true, laidLooks := .later }
def FnMonotoneCardSaid : Prop := Claim7.holds Tryz.pinned (.plain (OpenSpec.ofChange fnMonotoneSpec)) fnMonotoneCard

/-- THE SECOND FORM's CARD OF 'laws.FnTables'. -/
def fnTablesUptoCard : Claim7 := { stood := { row := fnTablesUptoRow, standIns := [], harness := (true, "3c2b0ce1dbb2058bd8293528709f50f304b9eb96de1aeb7e21ae2eaa1fd9785c"), looks := true }, kinds := [], alts := [], laidByText := true, laidKinds := [.data, .pinned], laidTests := true, laidLooks := .later }
def FnTablesUptoCardSaid : Prop := Claim7.holds Tryz.pinned (.plain (OpenSpec.upto fnTablesSpec)) fnTablesUptoCard

/-- THE SECOND FORM's CARD OF 'laws.FnKeepAdd'. -/
def fnKeepAddUptoCard : Claim7 := { stood := { row := fnKeepAddUptoRow, standIns := [], harness := (true, "3c2b0ce1dbb2058bd8293528709f50f304b9eb96de1aeb7e21ae2eaa1fd9785c"), looks := true }, kinds := [], alts := [], laidByText := true, laidKinds := [.data, .pinned], laidTests := true, laidLooks := .later }
def FnKeepAddUptoCardSaid : Prop := Claim7.holds Tryz.pinned (.plain (OpenSpec.upto fnKeepAddSpec)) fnKeepAddUptoCard

/-- THE SECOND FORM's CARD OF 'laws.FnExactCountRows'. -/
def fnExactCountRowsUptoCard : Claim7 := { stood := { row := fnExactCountRowsUptoRow, standIns := [], harness := (true, "3c2b0ce1dbb2058bd8293528709f50f304b9eb96de1aeb7e21ae2eaa1fd9785c"), looks := true }, kinds := [], alts := [], laidByText := true, laidKinds := [.data, .pinned], laidTests := true, laidLooks := .later }
def FnExactCountRowsUptoCardSaid : Prop := Claim7.holds Tryz.pinned (.plain (OpenSpec.upto fnExactCountRowsSpec)) fnExactCountRowsUptoCard

/-- THE SECOND FORM's CARD OF 'laws.FnExactColumnOf'. -/
def fnExactColumnOfUptoCard : Claim7 := { stood := { row := fnExactColumnOfUptoRow, standIns := [], harness := (true, "3c2b0ce1dbb2058bd8293528709f50f304b9eb96de1aeb7e21ae2eaa1fd9785c"), looks := true }, kinds := [], alts := [], laidByText := true, laidKinds := [.data, .pinned], laidTests := true, laidLooks := .later }
def FnExactColumnOfUptoCardSaid : Prop := Claim7.holds Tryz.pinned (.plain (OpenSpec.upto fnExactColumnOfSpec)) fnExactColumnOfUptoCard

/-- THE SECOND FORM's CARD OF 'laws.FnExactKeepColumns'. -/
def fnExactKeepColumnsUptoCard : Claim7 := { stood := { row := fnExactKeepColumnsUptoRow, standIns := [], harness := (true, "3c2b0ce1dbb2058bd8293528709f50f304b9eb96de1aeb7e21ae2eaa1fd9785c"), looks := true }, kinds := [], alts := [], laidByText := true, laidKinds := [.data, .pinned], laidTests := true, laidLooks := .later }
def FnExactKeepColumnsUptoCardSaid : Prop := Claim7.holds Tryz.pinned (.plain (OpenSpec.upto fnExactKeepColumnsSpec)) fnExactKeepColumnsUptoCard

/-- THE SECOND FORM's CARD OF 'laws.FnExactWhereEqual'. -/
def fnExactWhereEqualUptoCard : Claim7 := { stood := { row := fnExactWhereEqualUptoRow, standIns := [], harness := (true, "3c2b0ce1dbb2058bd8293528709f50f304b9eb96de1aeb7e21ae2eaa1fd9785c"), looks := true }, kinds := [], alts := [], laidByText := true, laidKinds := [.data, .pinned], laidTests := true, laidLooks := .later }
def FnExactWhereEqualUptoCardSaid : Prop := Claim7.holds Tryz.pinned (.plain (OpenSpec.upto fnExactWhereEqualSpec)) fnExactWhereEqualUptoCard

/-- THE SECOND FORM's CARD OF 'laws.FnExactAddColumn'. -/
def fnExactAddColumnUptoCard : Claim7 := { stood := { row := fnExactAddColumnUptoRow, standIns := [], harness := (true, "3c2b0ce1dbb2058bd8293528709f50f304b9eb96de1aeb7e21ae2eaa1fd9785c"), looks := true }, kinds := [], alts := [], laidByText := true, laidKinds := [.data, .pinned], laidTests := true, laidLooks := .later }
def FnExactAddColumnUptoCardSaid : Prop := Claim7.holds Tryz.pinned (.plain (OpenSpec.upto fnExactAddColumnSpec)) fnExactAddColumnUptoCard

/-- THE SECOND FORM's CARD OF 'laws.FnExactGroupSum'. -/
def fnExactGroupSumUptoCard : Claim7 := { stood := { row := fnExactGroupSumUptoRow, standIns := [], harness := (true, "3c2b0ce1dbb2058bd8293528709f50f304b9eb96de1aeb7e21ae2eaa1fd9785c"), looks := true }, kinds := [], alts := [], laidByText := true, laidKinds := [.data, .pinned], laidTests := true, laidLooks := .later }
def FnExactGroupSumUptoCardSaid : Prop := Claim7.holds Tryz.pinned (.plain (OpenSpec.upto fnExactGroupSumSpec)) fnExactGroupSumUptoCard

/-- THE SECOND FORM's CARD OF 'laws.FnExactJoinOn'. -/
def fnExactJoinOnUptoCard : Claim7 := { stood := { row := fnExactJoinOnUptoRow, standIns := [], harness := (true, "3c2b0ce1dbb2058bd8293528709f50f304b9eb96de1aeb7e21ae2eaa1fd9785c"), looks := true }, kinds := [], alts := [], laidByText := true, laidKinds := [.data, .pinned], laidTests := true, laidLooks := .later }
def FnExactJoinOnUptoCardSaid : Prop := Claim7.holds Tryz.pinned (.plain (OpenSpec.upto fnExactJoinOnSpec)) fnExactJoinOnUptoCard

/-- THE SECOND FORM's CARD OF 'laws.FnGroup'. -/
def fnGroupUptoCard : Claim7 := { stood := { row := fnGroupUptoRow, standIns := [], harness := (true, "3c2b0ce1dbb2058bd8293528709f50f304b9eb96de1aeb7e21ae2eaa1fd9785c"), looks := true }, kinds := [], alts := [], laidByText := true, laidKinds := [.data, .pinned], laidTests := true, laidLooks := .later }
def FnGroupUptoCardSaid : Prop := Claim7.holds Tryz.pinned (.plain (OpenSpec.upto fnGroupSpec)) fnGroupUptoCard

/-- THE SECOND FORM's CARD OF 'laws.FnJoin'. -/
def fnJoinUptoCard : Claim7 := { stood := { row := fnJoinUptoRow, standIns := [], harness := (true, "3c2b0ce1dbb2058bd8293528709f50f304b9eb96de1aeb7e21ae2eaa1fd9785c"), looks := true }, kinds := [], alts := [], laidByText := true, laidKinds := [.data, .pinned], laidTests := true, laidLooks := .later }
def FnJoinUptoCardSaid : Prop := Claim7.holds Tryz.pinned (.plain (OpenSpec.upto fnJoinSpec)) fnJoinUptoCard

/-- THE SECOND FORM's CARD OF 'laws.FnMonotone'. -/
def fnMonotoneUptoCard : Claim7 := { stood := { row := fnMonotoneUptoRow, standIns := [], harness := (true, "3c2b0ce1dbb2058bd8293528709f50f304b9eb96de1aeb7e21ae2eaa1fd9785c"), looks := true }, kinds := [], alts := [], laidByText := true, laidKinds := [.data, .pinned], laidTests := true, laidLooks := .later }
def FnMonotoneUptoCardSaid : Prop := Claim7.holds Tryz.pinned (.plain (OpenSpec.upto fnMonotoneSpec)) fnMonotoneUptoCard
end Rows
end Go.Proofs.YtdnneilbgekccaaGreatDoor
