/-
  No cell of these rows narrows 'for every input' (looked for: loops, veiled, ifaces, maps, wideKeys, modest, calm, conditions, laid).
  DERIVED. THE GIVEN ROWS OF THIS SEAT. 4 by the template 'for every input the law returns true; each argument reads behind the call as it read before'; 0 by the template 'total and deterministic' (their statements: YtooghbejbjfakaaTotals.lean).
  GIVEN WITH THE SEED: the statements are not yours to turn. If you find one false, say at which input.
  Laid BY PROGRAM, IN A SANDBOX (cutbox-rows.mjs): the forced cells as the released guide's own fill.sh prints them over the translation 379e1da7994bfcee… (all of the seat's roots in one cut). By AI agents, Wed Nov 11 2026. No macro, syntax, notation, axiom, sorry.
-/
import Derived.Test.YtooghbejbjfakaaChecked
import GoSem.Claim
import GoSem.ClaimJoined
import GoSem.ClaimMapViews
import Derived.JoinedTies
import Derived.KernelRfl
namespace Go.Proofs.Ytooghbejbjfakaa
/- THE CELL 'sum', in the pinned program and in every row, IS THE sha256 OF THE DUMP (.gsa) THAT YtooghbejbjfakaaProg.lean LOADS. Nothing in Lean hashes anything: it is a label: what it is worth is what the hold of that sum in a sandbox is worth. -/
noncomputable def Try.pinned : Pinned := { name := "ytooghbejbjfakaa", sum := "379e1da7994bfceee6c1be0b6f40a5a86d0c221905245667f557d7e3c77bdc1c", checked := Try.checked }
namespace Rows
def none {H : Type} : Left H := { results := [], args := [] }

/-- 'laws.FnExactIsKeyword': WHATEVER THE INPUT: true; the input reads as it did. -/
def fnExactIsKeywordSpec : ChangeSpec := { name := "fnExactIsKeyword", fn := fun _ => fun
  | [d1, d2] => { results := [.lit (.bool true)], args := [d1, d2] }
  | _ => none }
def fnExactIsKeywordRow : OpenClaim := { program := "ytooghbejbjfakaa", sum := "379e1da7994bfceee6c1be0b6f40a5a86d0c221905245667f557d7e3c77bdc1c", func := "loop.example/g00510/laws.FnExactIsKeyword", spec := "fnExactIsKeyword", apart := false }
def FnExactIsKeywordSaid : Prop := fnExactIsKeywordRow.holds Try.pinned (OpenSpec.ofChange fnExactIsKeywordSpec)

/-- ITS FALSE NEIGHBOUR: 'it returns false'. Refute it at one input. -/
def fnExactIsKeywordWrong : ChangeSpec := { name := "fnExactIsKeyword", fn := fun _ => fun
  | [d1, d2] => { results := [.lit (.bool false)], args := [d1, d2] }
  | _ => none }
def FnExactIsKeywordWrongFalsely : Prop := fnExactIsKeywordRow.holds Try.pinned (OpenSpec.ofChange fnExactIsKeywordWrong)

/-- 'laws.FnExactIsSymbol': WHATEVER THE INPUT: true; the input reads as it did. -/
def fnExactIsSymbolSpec : ChangeSpec := { name := "fnExactIsSymbol", fn := fun _ => fun
  | [d1, d2] => { results := [.lit (.bool true)], args := [d1, d2] }
  | _ => none }
def fnExactIsSymbolRow : OpenClaim := { program := "ytooghbejbjfakaa", sum := "379e1da7994bfceee6c1be0b6f40a5a86d0c221905245667f557d7e3c77bdc1c", func := "loop.example/g00510/laws.FnExactIsSymbol", spec := "fnExactIsSymbol", apart := false }
def FnExactIsSymbolSaid : Prop := fnExactIsSymbolRow.holds Try.pinned (OpenSpec.ofChange fnExactIsSymbolSpec)

/-- ITS FALSE NEIGHBOUR: 'it returns false'. Refute it at one input. -/
def fnExactIsSymbolWrong : ChangeSpec := { name := "fnExactIsSymbol", fn := fun _ => fun
  | [d1, d2] => { results := [.lit (.bool false)], args := [d1, d2] }
  | _ => none }
def FnExactIsSymbolWrongFalsely : Prop := fnExactIsSymbolRow.holds Try.pinned (OpenSpec.ofChange fnExactIsSymbolWrong)

/-- 'laws.FnExactIsValidName': WHATEVER THE INPUT: true; the input reads as it did. -/
def fnExactIsValidNameSpec : ChangeSpec := { name := "fnExactIsValidName", fn := fun _ => fun
  | [d] => { results := [.lit (.bool true)], args := [d] }
  | _ => none }
def fnExactIsValidNameRow : OpenClaim := { program := "ytooghbejbjfakaa", sum := "379e1da7994bfceee6c1be0b6f40a5a86d0c221905245667f557d7e3c77bdc1c", func := "loop.example/g00510/laws.FnExactIsValidName", spec := "fnExactIsValidName", unfollowed := true, recurses := true, apart := false }
def FnExactIsValidNameSaid : Prop := fnExactIsValidNameRow.holds Try.pinned (OpenSpec.ofChange fnExactIsValidNameSpec)

/-- ITS FALSE NEIGHBOUR: 'it returns false'. Refute it at one input. -/
def fnExactIsValidNameWrong : ChangeSpec := { name := "fnExactIsValidName", fn := fun _ => fun
  | [d] => { results := [.lit (.bool false)], args := [d] }
  | _ => none }
def FnExactIsValidNameWrongFalsely : Prop := fnExactIsValidNameRow.holds Try.pinned (OpenSpec.ofChange fnExactIsValidNameWrong)

/-- 'laws.FnValidNames': WHATEVER THE INPUT: true; the input reads as it did. -/
def fnValidNamesSpec : ChangeSpec := { name := "fnValidNames", fn := fun _ => fun
  | [d] => { results := [.lit (.bool true)], args := [d] }
  | _ => none }
def fnValidNamesRow : OpenClaim := { program := "ytooghbejbjfakaa", sum := "379e1da7994bfceee6c1be0b6f40a5a86d0c221905245667f557d7e3c77bdc1c", func := "loop.example/g00510/laws.FnValidNames", spec := "fnValidNames", unfollowed := true, recurses := true, apart := false }
def FnValidNamesSaid : Prop := fnValidNamesRow.holds Try.pinned (OpenSpec.ofChange fnValidNamesSpec)

/-- ITS FALSE NEIGHBOUR: 'it returns false'. Refute it at one input. -/
def fnValidNamesWrong : ChangeSpec := { name := "fnValidNames", fn := fun _ => fun
  | [d] => { results := [.lit (.bool false)], args := [d] }
  | _ => none }
def FnValidNamesWrongFalsely : Prop := fnValidNamesRow.holds Try.pinned (OpenSpec.ofChange fnValidNamesWrong)

/- THE SECOND FORM. 'bulk': how many values and letters a reading holds, each counted each time it is reached (what is shared counts as often as it is met; a slice's spare places count too). A statement '..UptoSaid' is the law's where the arguments, and the package variables that the reading takes, are together of bulk at most 1048576: NARROWER than '..Said'. Prove '..Said' where nothing that the law and all that it calls make is longer than what came in: it says more and counts as full. Else prove '..UptoSaid'. A law counts once. -/
mutual
def uptoBulk {H : Type} : DataW H → Nat
  | .lit (.string bytes) => bytes.length + 1
  | .lit _ => 1
  | .nil => 1
  | .ptr d => uptoBulk d + 1
  | .slice elems spare => uptoBulkAll elems + uptoBulkAll spare + 1
  | .agg parts => uptoBulkAll parts + 1
  | .iface _ d => uptoBulk d + 1
  | .map entries => uptoBulkEntries entries + 1
  | .held _ => 1
def uptoBulkAll {H : Type} : List (DataW H) → Nat
  | [] => 0
  | d :: r => uptoBulk d + uptoBulkAll r
def uptoBulkEntries {H : Type} : List (Lit × DataW H) → Nat
  | [] => 0
  | x :: r => uptoBulkEntry x + uptoBulkEntries r
def uptoBulkEntry {H : Type} : Lit × DataW H → Nat
  | (.string bytes, d) => bytes.length + uptoBulk d + 1
  | (_, d) => uptoBulk d + 1
 end
def uptoSmall : (H : Type) → List (DataW H) → Bool := fun _ ds => decide (uptoBulkAll ds ≤ 1048576)
def OpenSpec.upto (s : _root_.Go.ChangeSpec) : _root_.Go.OpenSpec := { _root_.Go.OpenSpec.ofChange s with cond := some uptoSmall }

/-- 'laws.FnExactIsKeyword', WHERE WHAT IT READS IS OF BULK AT MOST 1048576: true; the input reads as it did. -/
def fnExactIsKeywordUptoRow : OpenClaim := { program := "ytooghbejbjfakaa", sum := "379e1da7994bfceee6c1be0b6f40a5a86d0c221905245667f557d7e3c77bdc1c", func := "loop.example/g00510/laws.FnExactIsKeyword", spec := "fnExactIsKeyword", apart := false, narrowed := true }
def FnExactIsKeywordUptoSaid : Prop := fnExactIsKeywordUptoRow.holds Try.pinned (OpenSpec.upto fnExactIsKeywordSpec)

/-- 'laws.FnExactIsSymbol', WHERE WHAT IT READS IS OF BULK AT MOST 1048576: true; the input reads as it did. -/
def fnExactIsSymbolUptoRow : OpenClaim := { program := "ytooghbejbjfakaa", sum := "379e1da7994bfceee6c1be0b6f40a5a86d0c221905245667f557d7e3c77bdc1c", func := "loop.example/g00510/laws.FnExactIsSymbol", spec := "fnExactIsSymbol", apart := false, narrowed := true }
def FnExactIsSymbolUptoSaid : Prop := fnExactIsSymbolUptoRow.holds Try.pinned (OpenSpec.upto fnExactIsSymbolSpec)

/-- 'laws.FnExactIsValidName', WHERE WHAT IT READS IS OF BULK AT MOST 1048576: true; the input reads as it did. -/
def fnExactIsValidNameUptoRow : OpenClaim := { program := "ytooghbejbjfakaa", sum := "379e1da7994bfceee6c1be0b6f40a5a86d0c221905245667f557d7e3c77bdc1c", func := "loop.example/g00510/laws.FnExactIsValidName", spec := "fnExactIsValidName", unfollowed := true, recurses := true, apart := false, narrowed := true }
def FnExactIsValidNameUptoSaid : Prop := fnExactIsValidNameUptoRow.holds Try.pinned (OpenSpec.upto fnExactIsValidNameSpec)

/-- 'laws.FnValidNames', WHERE WHAT IT READS IS OF BULK AT MOST 1048576: true; the input reads as it did. -/
def fnValidNamesUptoRow : OpenClaim := { program := "ytooghbejbjfakaa", sum := "379e1da7994bfceee6c1be0b6f40a5a86d0c221905245667f557d7e3c77bdc1c", func := "loop.example/g00510/laws.FnValidNames", spec := "fnValidNames", unfollowed := true, recurses := true, apart := false, narrowed := true }
def FnValidNamesUptoSaid : Prop := fnValidNamesUptoRow.holds Try.pinned (OpenSpec.upto fnValidNamesSpec)

end Rows
end Go.Proofs.Ytooghbejbjfakaa
