/-
  NARROWER THAN 'FOR EVERY INPUT', by the rows' own cells (each row's printed sentence says how): FnExactListValue: loops.
  DERIVED. THE GIVEN ROWS OF THIS SEAT. 5 by the template 'for every input the law returns true; each argument reads behind the call as it read before'; 0 by the template 'total and deterministic' (their statements: YtigcfpgmhfdedaaTotals.lean).
  GIVEN WITH THE SEED: the statements are not yours to turn. If you find one false, say at which input.
  Laid BY PROGRAM, IN A SANDBOX (cutbox-rows.mjs): the forced cells as the released guide's own fill.sh prints them over the translation d5d5161a91d52185… (all of the seat's roots in one cut). By AI agents, Wed Nov 11 2026. No macro, syntax, notation, axiom, sorry.
-/
import Derived.Test.YtigcfpgmhfdedaaChecked
import GoSem.Claim
import GoSem.ClaimJoined
import GoSem.ClaimMapViews
import Derived.JoinedTies
import Derived.KernelRfl
namespace Go.Proofs.Ytigcfpgmhfdedaa
/- THE CELL 'sum', in the pinned program and in every row, IS THE sha256 OF THE DUMP (.gsa) THAT YtigcfpgmhfdedaaProg.lean LOADS. Nothing in Lean hashes anything: it is a label: what it is worth is what the hold of that sum in a sandbox is worth. -/
noncomputable def Try.pinned : Pinned := { name := "ytigcfpgmhfdedaa", sum := "d5d5161a91d521852c32ad73849c45a0324fa846d3c303810e6cb6e7d97646ad", checked := Try.checked }
namespace Rows
def none {H : Type} : Left H := { results := [], args := [] }

/-- 'laws.FnExactListValue': WHATEVER THE INPUT: true; the input reads as it did. -/
def fnExactListValueSpec : ChangeSpec := { name := "fnExactListValue", fn := fun _ => fun
  | [d] => { results := [.lit (.bool true)], args := [d] }
  | _ => none }
def fnExactListValueRow : OpenClaim := { program := "ytigcfpgmhfdedaa", sum := "d5d5161a91d521852c32ad73849c45a0324fa846d3c303810e6cb6e7d97646ad", func := "loop.example/g00510/laws.FnExactListValue", spec := "fnExactListValue", recurses := true, loops := true, apart := false }
def FnExactListValueSaid : Prop := fnExactListValueRow.holds Try.pinned (OpenSpec.ofChange fnExactListValueSpec)

/-- ITS FALSE NEIGHBOUR: 'it returns false'. Refute it at one input. -/
def fnExactListValueWrong : ChangeSpec := { name := "fnExactListValue", fn := fun _ => fun
  | [d] => { results := [.lit (.bool false)], args := [d] }
  | _ => none }
def FnExactListValueWrongFalsely : Prop := fnExactListValueRow.holds Try.pinned (OpenSpec.ofChange fnExactListValueWrong)

/-- 'laws.FnValues': WHATEVER THE INPUT: true; the input reads as it did. -/
def fnValuesSpec : ChangeSpec := { name := "fnValues", fn := fun _ => fun
  | [d] => { results := [.lit (.bool true)], args := [d] }
  | _ => none }
def fnValuesRow : OpenClaim := { program := "ytigcfpgmhfdedaa", sum := "d5d5161a91d521852c32ad73849c45a0324fa846d3c303810e6cb6e7d97646ad", func := "loop.example/g00510/laws.FnValues", spec := "fnValues", unfollowed := true, recurses := true, apart := false }
def FnValuesSaid : Prop := fnValuesRow.holds Try.pinned (OpenSpec.ofChange fnValuesSpec)

/-- ITS FALSE NEIGHBOUR: 'it returns false'. Refute it at one input. -/
def fnValuesWrong : ChangeSpec := { name := "fnValues", fn := fun _ => fun
  | [d] => { results := [.lit (.bool false)], args := [d] }
  | _ => none }
def FnValuesWrongFalsely : Prop := fnValuesRow.holds Try.pinned (OpenSpec.ofChange fnValuesWrong)

/-- 'laws.FnErrors': WHATEVER THE INPUT: true; the input reads as it did. -/
def fnErrorsSpec : ChangeSpec := { name := "fnErrors", fn := fun _ => fun
  | [d] => { results := [.lit (.bool true)], args := [d] }
  | _ => none }
def fnErrorsRow : OpenClaim := { program := "ytigcfpgmhfdedaa", sum := "d5d5161a91d521852c32ad73849c45a0324fa846d3c303810e6cb6e7d97646ad", func := "loop.example/g00510/laws.FnErrors", spec := "fnErrors", unfollowed := true, recurses := true, apart := false }
def FnErrorsSaid : Prop := fnErrorsRow.holds Try.pinned (OpenSpec.ofChange fnErrorsSpec)

/-- ITS FALSE NEIGHBOUR: 'it returns false'. Refute it at one input. -/
def fnErrorsWrong : ChangeSpec := { name := "fnErrors", fn := fun _ => fun
  | [d] => { results := [.lit (.bool false)], args := [d] }
  | _ => none }
def FnErrorsWrongFalsely : Prop := fnErrorsRow.holds Try.pinned (OpenSpec.ofChange fnErrorsWrong)

/-- 'laws.FnExactErrorName': WHATEVER THE INPUT: true; the input reads as it did. -/
def fnExactErrorNameSpec : ChangeSpec := { name := "fnExactErrorName", fn := fun _ => fun
  | [d] => { results := [.lit (.bool true)], args := [d] }
  | _ => none }
def fnExactErrorNameRow : OpenClaim := { program := "ytigcfpgmhfdedaa", sum := "d5d5161a91d521852c32ad73849c45a0324fa846d3c303810e6cb6e7d97646ad", func := "loop.example/g00510/laws.FnExactErrorName", spec := "fnExactErrorName", apart := false }
def FnExactErrorNameSaid : Prop := fnExactErrorNameRow.holds Try.pinned (OpenSpec.ofChange fnExactErrorNameSpec)

/-- ITS FALSE NEIGHBOUR: 'it returns false'. Refute it at one input. -/
def fnExactErrorNameWrong : ChangeSpec := { name := "fnExactErrorName", fn := fun _ => fun
  | [d] => { results := [.lit (.bool false)], args := [d] }
  | _ => none }
def FnExactErrorNameWrongFalsely : Prop := fnExactErrorNameRow.holds Try.pinned (OpenSpec.ofChange fnExactErrorNameWrong)

/-- 'laws.FnExactErrorCode': WHATEVER THE INPUT: true; the input reads as it did. -/
def fnExactErrorCodeSpec : ChangeSpec := { name := "fnExactErrorCode", fn := fun _ => fun
  | [d] => { results := [.lit (.bool true)], args := [d] }
  | _ => none }
def fnExactErrorCodeRow : OpenClaim := { program := "ytigcfpgmhfdedaa", sum := "d5d5161a91d521852c32ad73849c45a0324fa846d3c303810e6cb6e7d97646ad", func := "loop.example/g00510/laws.FnExactErrorCode", spec := "fnExactErrorCode", apart := false }
def FnExactErrorCodeSaid : Prop := fnExactErrorCodeRow.holds Try.pinned (OpenSpec.ofChange fnExactErrorCodeSpec)

/-- ITS FALSE NEIGHBOUR: 'it returns false'. Refute it at one input. -/
def fnExactErrorCodeWrong : ChangeSpec := { name := "fnExactErrorCode", fn := fun _ => fun
  | [d] => { results := [.lit (.bool false)], args := [d] }
  | _ => none }
def FnExactErrorCodeWrongFalsely : Prop := fnExactErrorCodeRow.holds Try.pinned (OpenSpec.ofChange fnExactErrorCodeWrong)

/- THE SECOND FORM. 'bulk': how many values and letters a reading holds, each counted each time it is reached (what is shared counts as often as it is met; a slice's spare places count too). A statement '..UptoSaid' is the law's where the arguments, and the package variables that the reading takes, are together of bulk at most 1048576: NARROWER than '..Said'. Prove '..Said' where nothing that the law and all that it calls make is longer than what came in: it says more and counts as full. Else prove '..UptoSaid'. A law counts once. -/
mutual
def uptoBulk {H : Type} : DataW H → Nat
  | .lit (.string bytes) => bytes.length + 1
  | .lit _ => 1
  | .nil => 1
  | .ptr d => uptoBulk d + 1
  | .slice elems spare => uptoBulkAll elems + uptoBulkAll spare + 1
  | .agg parts => uptoBulkAll parts + 1
  | .iface _ d => uptoBulk d + 1
  | .map entries => uptoBulkEntries entries + 1
  | .held _ => 1
def uptoBulkAll {H : Type} : List (DataW H) → Nat
  | [] => 0
  | d :: r => uptoBulk d + uptoBulkAll r
def uptoBulkEntries {H : Type} : List (Lit × DataW H) → Nat
  | [] => 0
  | x :: r => uptoBulkEntry x + uptoBulkEntries r
def uptoBulkEntry {H : Type} : Lit × DataW H → Nat
  | (.string bytes, d) => bytes.length + uptoBulk d + 1
  | (_, d) => uptoBulk d + 1
 end
def uptoSmall : (H : Type) → List (DataW H) → Bool := fun _ ds => decide (uptoBulkAll ds ≤ 1048576)
def OpenSpec.upto (s : _root_.Go.ChangeSpec) : _root_.Go.OpenSpec := { _root_.Go.OpenSpec.ofChange s with cond := some uptoSmall }

/-- 'laws.FnExactListValue', WHERE WHAT IT READS IS OF BULK AT MOST 1048576: true; the input reads as it did. -/
def fnExactListValueUptoRow : OpenClaim := { program := "ytigcfpgmhfdedaa", sum := "d5d5161a91d521852c32ad73849c45a0324fa846d3c303810e6cb6e7d97646ad", func := "loop.example/g00510/laws.FnExactListValue", spec := "fnExactListValue", recurses := true, loops := true, apart := false, narrowed := true }
def FnExactListValueUptoSaid : Prop := fnExactListValueUptoRow.holds Try.pinned (OpenSpec.upto fnExactListValueSpec)

/-- 'laws.FnValues', WHERE WHAT IT READS IS OF BULK AT MOST 1048576: true; the input reads as it did. -/
def fnValuesUptoRow : OpenClaim := { program := "ytigcfpgmhfdedaa", sum := "d5d5161a91d521852c32ad73849c45a0324fa846d3c303810e6cb6e7d97646ad", func := "loop.example/g00510/laws.FnValues", spec := "fnValues", unfollowed := true, recurses := true, apart := false, narrowed := true }
def FnValuesUptoSaid : Prop := fnValuesUptoRow.holds Try.pinned (OpenSpec.upto fnValuesSpec)

/-- 'laws.FnErrors', WHERE WHAT IT READS IS OF BULK AT MOST 1048576: true; the input reads as it did. -/
def fnErrorsUptoRow : OpenClaim := { program := "ytigcfpgmhfdedaa", sum := "d5d5161a91d521852c32ad73849c45a0324fa846d3c303810e6cb6e7d97646ad", func := "loop.example/g00510/laws.FnErrors", spec := "fnErrors", unfollowed := true, recurses := true, apart := false, narrowed := true }
def FnErrorsUptoSaid : Prop := fnErrorsUptoRow.holds Try.pinned (OpenSpec.upto fnErrorsSpec)

/-- 'laws.FnExactErrorName', WHERE WHAT IT READS IS OF BULK AT MOST 1048576: true; the input reads as it did. -/
def fnExactErrorNameUptoRow : OpenClaim := { program := "ytigcfpgmhfdedaa", sum := "d5d5161a91d521852c32ad73849c45a0324fa846d3c303810e6cb6e7d97646ad", func := "loop.example/g00510/laws.FnExactErrorName", spec := "fnExactErrorName", apart := false, narrowed := true }
def FnExactErrorNameUptoSaid : Prop := fnExactErrorNameUptoRow.holds Try.pinned (OpenSpec.upto fnExactErrorNameSpec)

/-- 'laws.FnExactErrorCode', WHERE WHAT IT READS IS OF BULK AT MOST 1048576: true; the input reads as it did. -/
def fnExactErrorCodeUptoRow : OpenClaim := { program := "ytigcfpgmhfdedaa", sum := "d5d5161a91d521852c32ad73849c45a0324fa846d3c303810e6cb6e7d97646ad", func := "loop.example/g00510/laws.FnExactErrorCode", spec := "fnExactErrorCode", apart := false, narrowed := true }
def FnExactErrorCodeUptoSaid : Prop := fnExactErrorCodeUptoRow.holds Try.pinned (OpenSpec.upto fnExactErrorCodeSpec)

end Rows
end Go.Proofs.Ytigcfpgmhfdedaa
