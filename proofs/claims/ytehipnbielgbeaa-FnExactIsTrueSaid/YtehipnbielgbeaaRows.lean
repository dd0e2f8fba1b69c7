/-
  NARROWER THAN 'FOR EVERY INPUT', by the rows' own cells (each row's printed sentence says how): FnExactIsTrue: loops.
  DERIVED. THE GIVEN ROWS OF THIS SEAT. 4 by the template 'for every input the law returns true; each argument reads behind the call as it read before'; 0 by the template 'total and deterministic' (their statements: YtehipnbielgbeaaTotals.lean).
  GIVEN WITH THE SEED: the statements are not yours to turn. If you find one false, say at which input.
  Laid BY PROGRAM, IN A SANDBOX (cutbox-rows.mjs): the forced cells as the released guide's own fill.sh prints them over the translation 0a6343912085d0c3… (all of the seat's roots in one cut). By AI agents, Wed Nov 11 2026. No macro, syntax, notation, axiom, sorry.
-/
import Derived.Test.YtehipnbielgbeaaChecked
import GoSem.Claim
import GoSem.ClaimJoined
import GoSem.ClaimMapViews
import Derived.JoinedTies
import Derived.KernelRfl
namespace Go.Proofs.Ytehipnbielgbeaa
/- THE CELL 'sum', in the pinned program and in every row, IS THE sha256 OF THE DUMP (.gsa) THAT YtehipnbielgbeaaProg.lean LOADS. Nothing in Lean hashes anything: it is a label: what it is worth is what the hold of that sum in a sandbox is worth. -/
noncomputable def Try.pinned : Pinned := { name := "ytehipnbielgbeaa", sum := "0a6343912085d0c3426033c12fc62a0af2be70f038a4c781202214a20cbe0c4b", checked := Try.checked }
namespace Rows
def none {H : Type} : Left H := { results := [], args := [] }

/-- 'laws.FnExactOpSymbol': WHATEVER THE INPUT: true; the input reads as it did. -/
def fnExactOpSymbolSpec : ChangeSpec := { name := "fnExactOpSymbol", fn := fun _ => fun
  | [d] => { results := [.lit (.bool true)], args := [d] }
  | _ => none }
def fnExactOpSymbolRow : OpenClaim := { program := "ytehipnbielgbeaa", sum := "0a6343912085d0c3426033c12fc62a0af2be70f038a4c781202214a20cbe0c4b", func := "loop.example/g00510/laws.FnExactOpSymbol", spec := "fnExactOpSymbol", unfollowed := true, recurses := true, apart := false }
def FnExactOpSymbolSaid : Prop := fnExactOpSymbolRow.holds Try.pinned (OpenSpec.ofChange fnExactOpSymbolSpec)

/-- ITS FALSE NEIGHBOUR: 'it returns false'. Refute it at one input. -/
def fnExactOpSymbolWrong : ChangeSpec := { name := "fnExactOpSymbol", fn := fun _ => fun
  | [d] => { results := [.lit (.bool false)], args := [d] }
  | _ => none }
def FnExactOpSymbolWrongFalsely : Prop := fnExactOpSymbolRow.holds Try.pinned (OpenSpec.ofChange fnExactOpSymbolWrong)

/-- 'laws.FnExactTruthValue': WHATEVER THE INPUT: true; the input reads as it did. -/
def fnExactTruthValueSpec : ChangeSpec := { name := "fnExactTruthValue", fn := fun _ => fun
  | [d] => { results := [.lit (.bool true)], args := [d] }
  | _ => none }
def fnExactTruthValueRow : OpenClaim := { program := "ytehipnbielgbeaa", sum := "0a6343912085d0c3426033c12fc62a0af2be70f038a4c781202214a20cbe0c4b", func := "loop.example/g00510/laws.FnExactTruthValue", spec := "fnExactTruthValue", recurses := true, apart := false }
def FnExactTruthValueSaid : Prop := fnExactTruthValueRow.holds Try.pinned (OpenSpec.ofChange fnExactTruthValueSpec)

/-- ITS FALSE NEIGHBOUR: 'it returns false'. Refute it at one input. -/
def fnExactTruthValueWrong : ChangeSpec := { name := "fnExactTruthValue", fn := fun _ => fun
  | [d] => { results := [.lit (.bool false)], args := [d] }
  | _ => none }
def FnExactTruthValueWrongFalsely : Prop := fnExactTruthValueRow.holds Try.pinned (OpenSpec.ofChange fnExactTruthValueWrong)

/-- 'laws.FnExactIsTrue': WHATEVER THE INPUT: true; the input reads as it did. -/
def fnExactIsTrueSpec : ChangeSpec := { name := "fnExactIsTrue", fn := fun _ => fun
  | [d] => { results := [.lit (.bool true)], args := [d] }
  | _ => none }
def fnExactIsTrueRow : OpenClaim := { program := "ytehipnbielgbeaa", sum := "0a6343912085d0c3426033c12fc62a0af2be70f038a4c781202214a20cbe0c4b", func := "loop.example/g00510/laws.FnExactIsTrue", spec := "fnExactIsTrue", recurses := true, loops := true, apart := false }
def FnExactIsTrueSaid : Prop := fnExactIsTrueRow.holds Try.pinned (OpenSpec.ofChange fnExactIsTrueSpec)

/-- ITS FALSE NEIGHBOUR: 'it returns false'. Refute it at one input. -/
def fnExactIsTrueWrong : ChangeSpec := { name := "fnExactIsTrue", fn := fun _ => fun
  | [d] => { results := [.lit (.bool false)], args := [d] }
  | _ => none }
def FnExactIsTrueWrongFalsely : Prop := fnExactIsTrueRow.holds Try.pinned (OpenSpec.ofChange fnExactIsTrueWrong)

/-- 'laws.FnExactCheckedNumber': WHATEVER THE INPUT: true; the input reads as it did. -/
def fnExactCheckedNumberSpec : ChangeSpec := { name := "fnExactCheckedNumber", fn := fun _ => fun
  | [d] => { results := [.lit (.bool true)], args := [d] }
  | _ => none }
def fnExactCheckedNumberRow : OpenClaim := { program := "ytehipnbielgbeaa", sum := "0a6343912085d0c3426033c12fc62a0af2be70f038a4c781202214a20cbe0c4b", func := "loop.example/g00510/laws.FnExactCheckedNumber", spec := "fnExactCheckedNumber", recurses := true, apart := false }
def FnExactCheckedNumberSaid : Prop := fnExactCheckedNumberRow.holds Try.pinned (OpenSpec.ofChange fnExactCheckedNumberSpec)

/-- ITS FALSE NEIGHBOUR: 'it returns false'. Refute it at one input. -/
def fnExactCheckedNumberWrong : ChangeSpec := { name := "fnExactCheckedNumber", fn := fun _ => fun
  | [d] => { results := [.lit (.bool false)], args := [d] }
  | _ => none }
def FnExactCheckedNumberWrongFalsely : Prop := fnExactCheckedNumberRow.holds Try.pinned (OpenSpec.ofChange fnExactCheckedNumberWrong)

/- THE SECOND FORM. 'bulk': how many values and letters a reading holds, each counted each time it is reached (what is shared counts as often as it is met; a slice's spare places count too). A statement '..UptoSaid' is the law's where the arguments, and the package variables that the reading takes, are together of bulk at most 1048576: NARROWER than '..Said'. Prove '..Said' where nothing that the law and all that it calls make is longer than what came in: it says more and counts as full. Else prove '..UptoSaid'. A law counts once. -/
mutual
def uptoBulk {H : Type} : DataW H → Nat
  | .lit (.string bytes) => bytes.length + 1
  | .lit _ => 1
  | .nil => 1
  | .ptr d => uptoBulk d + 1
  | .slice elems spare => uptoBulkAll elems + uptoBulkAll spare + 1
  | .agg parts => uptoBulkAll parts + 1
  | .iface _ d => uptoBulk d + 1
  | .map entries => uptoBulkEntries entries + 1
  | .held _ => 1
def uptoBulkAll {H : Type} : List (DataW H) → Nat
  | [] => 0
  | d :: r => uptoBulk d + uptoBulkAll r
def uptoBulkEntries {H : Type} : List (Lit × DataW H) → Nat
  | [] => 0
  | x :: r => uptoBulkEntry x + uptoBulkEntries r
def uptoBulkEntry {H : Type} : Lit × DataW H → Nat
  | (.string bytes, d) => bytes.length + uptoBulk d + 1
  | (_, d) => uptoBulk d + 1
 end
def uptoSmall : (H : Type) → List (DataW H) → Bool := fun _ ds => decide (uptoBulkAll ds ≤ 1048576)
def OpenSpec.upto (s : _root_.Go.ChangeSpec) : _root_.Go.OpenSpec := { _root_.Go.OpenSpec.ofChange s with cond := some uptoSmall }

/-- 'laws.FnExactOpSymbol', WHERE WHAT IT READS IS OF BULK AT MOST 1048576: true; the input reads as it did. -/
def fnExactOpSymbolUptoRow : OpenClaim := { program := "ytehipnbielgbeaa", sum := "0a6343912085d0c3426033c12fc62a0af2be70f038a4c781202214a20cbe0c4b", func := "loop.example/g00510/laws.FnExactOpSymbol", spec := "fnExactOpSymbol", unfollowed := true, recurses := true, apart := false, narrowed := true }
def FnExactOpSymbolUptoSaid : Prop := fnExactOpSymbolUptoRow.holds Try.pinned (OpenSpec.upto fnExactOpSymbolSpec)

/-- 'laws.FnExactTruthValue', WHERE WHAT IT READS IS OF BULK AT MOST 1048576: true; the input reads as it did. -/
def fnExactTruthValueUptoRow : OpenClaim := { program := "ytehipnbielgbeaa", sum := "0a6343912085d0c3426033c12fc62a0af2be70f038a4c781202214a20cbe0c4b", func := "loop.example/g00510/laws.FnExactTruthValue", spec := "fnExactTruthValue", recurses := true, apart := false, narrowed := true }
def FnExactTruthValueUptoSaid : Prop := fnExactTruthValueUptoRow.holds Try.pinned (OpenSpec.upto fnExactTruthValueSpec)

/-- 'laws.FnExactIsTrue', WHERE WHAT IT READS IS OF BULK AT MOST 1048576: true; the input reads as it did. -/
def fnExactIsTrueUptoRow : OpenClaim := { program := "ytehipnbielgbeaa", sum := "0a6343912085d0c3426033c12fc62a0af2be70f038a4c781202214a20cbe0c4b", func := "loop.example/g00510/laws.FnExactIsTrue", spec := "fnExactIsTrue", recurses := true, loops := true, apart := false, narrowed := true }
def FnExactIsTrueUptoSaid : Prop := fnExactIsTrueUptoRow.holds Try.pinned (OpenSpec.upto fnExactIsTrueSpec)

/-- 'laws.FnExactCheckedNumber', WHERE WHAT IT READS IS OF BULK AT MOST 1048576: true; the input reads as it did. -/
def fnExactCheckedNumberUptoRow : OpenClaim := { program := "ytehipnbielgbeaa", sum := "0a6343912085d0c3426033c12fc62a0af2be70f038a4c781202214a20cbe0c4b", func := "loop.example/g00510/laws.FnExactCheckedNumber", spec := "fnExactCheckedNumber", recurses := true, apart := false, narrowed := true }
def FnExactCheckedNumberUptoSaid : Prop := fnExactCheckedNumberUptoRow.holds Try.pinned (OpenSpec.upto fnExactCheckedNumberSpec)

end Rows
end Go.Proofs.Ytehipnbielgbeaa
