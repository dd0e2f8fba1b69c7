/-
  NARROWER THAN 'FOR EVERY INPUT', by the rows' own cells (each row's printed sentence says how): FnExactApplyOperator: loops · FnExactSourceTable: loops · FnExactRestrictTable: loops.
  DERIVED. THE GIVEN ROWS OF THIS SEAT. 8 by the template 'for every input the law returns true; each argument reads behind the call as it read before'; 0 by the template 'total and deterministic' (their statements: YtabcmnlmmpbmnaaGreatTotals.lean).
  GIVEN WITH THE SEED: the statements are not yours to turn. If you find one false, say at which input.
  Laid BY PROGRAM, IN A SANDBOX (cutbox-rows.mjs): the forced cells as the released guide's own fill.sh prints them over the translation 1f0dbab4e4e7d924… (all of the seat's roots in one cut). By AI agents, Wed Nov 11 2026. No macro, syntax, notation, axiom, sorry.
-/
import Derived.Test.YtabcmnlmmpbmnaaGreatChecked
import GoSem.Claim
import GoSem.ClaimJoined
import GoSem.ClaimMapViews
import Derived.JoinedTies
import Derived.KernelRfl
namespace Go.Proofs.YtabcmnlmmpbmnaaGreat
/- THE CELL 'sum', in the pinned program and in every row, IS THE sha256 OF THE DUMP (.gsa) THAT YtabcmnlmmpbmnaaGreatProg.lean LOADS. Nothing in Lean hashes anything: it is a label: what it is worth is what the hold of that sum in a sandbox is worth. -/
noncomputable def Tryz.pinned : Pinned := { name := "ytabcmnlmmpbmnaagreat", sum := "1f0dbab4e4e7d9246baacac7128d8f50cb615d853fc07d452a2552ffe2351777", checked := Tryz.checked }
namespace Rows
def none {H : Type} : Left H := { results := [], args := [] }

/-- 'laws.FnOperators': WHATEVER THE INPUT: true; the input reads as it did. -/
def fnOperatorsSpec : ChangeSpec := { name := "fnOperators", fn := fun _ => fun
  | [d] => { results := [.lit (.bool true)], args := [d] }
  | _ => none }
def fnOperatorsRow : OpenClaim := { program := "ytabcmnlmmpbmnaagreat", sum := "1f0dbab4e4e7d9246baacac7128d8f50cb615d853fc07d452a2552ffe2351777", func := "loop.example/g00510/laws.FnOperators", spec := "fnOperators", unfollowed := true, recurses := true, apart := false }
def FnOperatorsSaid : Prop := fnOperatorsRow.holds Tryz.pinned (OpenSpec.ofChange fnOperatorsSpec)

/-- ITS FALSE NEIGHBOUR: 'it returns false'. Refute it at one input. -/
def fnOperatorsWrong : ChangeSpec := { name := "fnOperators", fn := fun _ => fun
  | [d] => { results := [.lit (.bool false)], args := [d] }
  | _ => none }
def FnOperatorsWrongFalsely : Prop := fnOperatorsRow.holds Tryz.pinned (OpenSpec.ofChange fnOperatorsWrong)

/-- 'laws.FnOperandErrors': WHATEVER THE INPUT: true; the input reads as it did. -/
def fnOperandErrorsSpec : ChangeSpec := { name := "fnOperandErrors", fn := fun _ => fun
  | [d] => { results := [.lit (.bool true)], args := [d] }
  | _ => none }
def fnOperandErrorsRow : OpenClaim := { program := "ytabcmnlmmpbmnaagreat", sum := "1f0dbab4e4e7d9246baacac7128d8f50cb615d853fc07d452a2552ffe2351777", func := "loop.example/g00510/laws.FnOperandErrors", spec := "fnOperandErrors", unfollowed := true, recurses := true, apart := false }
def FnOperandErrorsSaid : Prop := fnOperandErrorsRow.holds Tryz.pinned (OpenSpec.ofChange fnOperandErrorsSpec)

/-- ITS FALSE NEIGHBOUR: 'it returns false'. Refute it at one input. -/
def fnOperandErrorsWrong : ChangeSpec := { name := "fnOperandErrors", fn := fun _ => fun
  | [d] => { results := [.lit (.bool false)], args := [d] }
  | _ => none }
def FnOperandErrorsWrongFalsely : Prop := fnOperandErrorsRow.holds Tryz.pinned (OpenSpec.ofChange fnOperandErrorsWrong)

/-- 'laws.FnTakeSkip': WHATEVER THE INPUT: true; the input reads as it did. -/
def fnTakeSkipSpec : ChangeSpec := { name := "fnTakeSkip", fn := fun _ => fun
  | [d] => { results := [.lit (.bool true)], args := [d] }
  | _ => none }
def fnTakeSkipRow : OpenClaim := { program := "ytabcmnlmmpbmnaagreat", sum := "1f0dbab4e4e7d9246baacac7128d8f50cb615d853fc07d452a2552ffe2351777", func := "loop.example/g00510/laws.FnTakeSkip", spec := "fnTakeSkip", unfollowed := true, recurses := true, apart := false }
def FnTakeSkipSaid : Prop := fnTakeSkipRow.holds Tryz.pinned (OpenSpec.ofChange fnTakeSkipSpec)

/-- ITS FALSE NEIGHBOUR: 'it returns false'. Refute it at one input. -/
def fnTakeSkipWrong : ChangeSpec := { name := "fnTakeSkip", fn := fun _ => fun
  | [d] => { results := [.lit (.bool false)], args := [d] }
  | _ => none }
def FnTakeSkipWrongFalsely : Prop := fnTakeSkipRow.holds Tryz.pinned (OpenSpec.ofChange fnTakeSkipWrong)

/-- 'laws.FnStreams': WHATEVER THE INPUT: true; the input reads as it did. -/
def fnStreamsSpec : ChangeSpec := { name := "fnStreams", fn := fun _ => fun
  | [d] => { results := [.lit (.bool true)], args := [d] }
  | _ => none }
def fnStreamsRow : OpenClaim := { program := "ytabcmnlmmpbmnaagreat", sum := "1f0dbab4e4e7d9246baacac7128d8f50cb615d853fc07d452a2552ffe2351777", func := "loop.example/g00510/laws.FnStreams", spec := "fnStreams", unfollowed := true, recurses := true, apart := false }
def FnStreamsSaid : Prop := fnStreamsRow.holds Tryz.pinned (OpenSpec.ofChange fnStreamsSpec)

/-- ITS FALSE NEIGHBOUR: 'it returns false'. Refute it at one input. -/
def fnStreamsWrong : ChangeSpec := { name := "fnStreams", fn := fun _ => fun
  | [d] => { results := [.lit (.bool false)], args := [d] }
  | _ => none }
def FnStreamsWrongFalsely : Prop := fnStreamsRow.holds Tryz.pinned (OpenSpec.ofChange fnStreamsWrong)

/-- 'laws.FnSum': WHATEVER THE INPUT: true; the input reads as it did. -/
def fnSumSpec : ChangeSpec := { name := "fnSum", fn := fun _ => fun
  | [d] => { results := [.lit (.bool true)], args := [d] }
  | _ => none }
def fnSumRow : OpenClaim := { program := "ytabcmnlmmpbmnaagreat", sum := "1f0dbab4e4e7d9246baacac7128d8f50cb615d853fc07d452a2552ffe2351777", func := "loop.example/g00510/laws.FnSum", spec := "fnSum", unfollowed := true, recurses := true, apart := false }
def FnSumSaid : Prop := fnSumRow.holds Tryz.pinned (OpenSpec.ofChange fnSumSpec)

/-- ITS FALSE NEIGHBOUR: 'it returns false'. Refute it at one input. -/
def fnSumWrong : ChangeSpec := { name := "fnSum", fn := fun _ => fun
  | [d] => { results := [.lit (.bool false)], args := [d] }
  | _ => none }
def FnSumWrongFalsely : Prop := fnSumRow.holds Tryz.pinned (OpenSpec.ofChange fnSumWrong)

/-- 'laws.FnExactApplyOperator': WHATEVER THE INPUT: true; the input reads as it did. -/
def fnExactApplyOperatorSpec : ChangeSpec := { name := "fnExactApplyOperator", fn := fun _ => fun
  | [d1, d2, d3] => { results := [.lit (.bool true)], args := [d1, d2, d3] }
  | _ => none }
def fnExactApplyOperatorRow : OpenClaim := { program := "ytabcmnlmmpbmnaagreat", sum := "1f0dbab4e4e7d9246baacac7128d8f50cb615d853fc07d452a2552ffe2351777", func := "loop.example/g00510/laws.FnExactApplyOperator", spec := "fnExactApplyOperator", unfollowed := true, recurses := true, loops := true, apart := false }
def FnExactApplyOperatorSaid : Prop := fnExactApplyOperatorRow.holds Tryz.pinned (OpenSpec.ofChange fnExactApplyOperatorSpec)

/-- ITS FALSE NEIGHBOUR: 'it returns false'. Refute it at one input. -/
def fnExactApplyOperatorWrong : ChangeSpec := { name := "fnExactApplyOperator", fn := fun _ => fun
  | [d1, d2, d3] => { results := [.lit (.bool false)], args := [d1, d2, d3] }
  | _ => none }
def FnExactApplyOperatorWrongFalsely : Prop := fnExactApplyOperatorRow.holds Tryz.pinned (OpenSpec.ofChange fnExactApplyOperatorWrong)

/-- 'laws.FnExactSourceTable': WHATEVER THE INPUT: true; the input reads as it did. -/
def fnExactSourceTableSpec : ChangeSpec := { name := "fnExactSourceTable", fn := fun _ => fun
  | [d1, d2] => { results := [.lit (.bool true)], args := [d1, d2] }
  | _ => none }
def fnExactSourceTableRow : OpenClaim := { program := "ytabcmnlmmpbmnaagreat", sum := "1f0dbab4e4e7d9246baacac7128d8f50cb615d853fc07d452a2552ffe2351777", func := "loop.example/g00510/laws.FnExactSourceTable", spec := "fnExactSourceTable", unfollowed := true, recurses := true, loops := true, apart := false }
def FnExactSourceTableSaid : Prop := fnExactSourceTableRow.holds Tryz.pinned (OpenSpec.ofChange fnExactSourceTableSpec)

/-- ITS FALSE NEIGHBOUR: 'it returns false'. Refute it at one input. -/
def fnExactSourceTableWrong : ChangeSpec := { name := "fnExactSourceTable", fn := fun _ => fun
  | [d1, d2] => { results := [.lit (.bool false)], args := [d1, d2] }
  | _ => none }
def FnExactSourceTableWrongFalsely : Prop := fnExactSourceTableRow.holds Tryz.pinned (OpenSpec.ofChange fnExactSourceTableWrong)

/-- 'laws.FnExactRestrictTable': WHATEVER THE INPUT: true; the input reads as it did. -/
def fnExactRestrictTableSpec : ChangeSpec := { name := "fnExactRestrictTable", fn := fun _ => fun
  | [d1, d2] => { results := [.lit (.bool true)], args := [d1, d2] }
  | _ => none }
def fnExactRestrictTableRow : OpenClaim := { program := "ytabcmnlmmpbmnaagreat", sum := "1f0dbab4e4e7d9246baacac7128d8f50cb615d853fc07d452a2552ffe2351777", func := "loop.example/g00510/laws.FnExactRestrictTable", spec := "fnExactRestrictTable", unfollowed := true, recurses := true, loops := true, apart := false }
def FnExactRestrictTableSaid : Prop := fnExactRestrictTableRow.holds Tryz.pinned (OpenSpec.ofChange fnExactRestrictTableSpec)

/-- ITS FALSE NEIGHBOUR: 'it returns false'. Refute it at one input. -/
def fnExactRestrictTableWrong : ChangeSpec := { name := "fnExactRestrictTable", fn := fun _ => fun
  | [d1, d2] => { results := [.lit (.bool false)], args := [d1, d2] }
  | _ => none }
def FnExactRestrictTableWrongFalsely : Prop := fnExactRestrictTableRow.holds Tryz.pinned (OpenSpec.ofChange fnExactRestrictTableWrong)

/- THE SECOND FORM. 'bulk': how many values and letters a reading holds, each counted each time it is reached (what is shared counts as often as it is met; a slice's spare places count too). A statement '..UptoSaid' is the law's where the arguments, and the package variables that the reading takes, are together of bulk at most 1048576: NARROWER than '..Said'. Prove '..Said' where nothing that the law and all that it calls make is longer than what came in: it says more and counts as full. Else prove '..UptoSaid'. A law counts once. -/
mutual
def uptoBulk {H : Type} : DataW H → Nat
  | .lit (.string bytes) => bytes.length + 1
  | .lit _ => 1
  | .nil => 1
  | .ptr d => uptoBulk d + 1
  | .slice elems spare => uptoBulkAll elems + uptoBulkAll spare + 1
  | .agg parts => uptoBulkAll parts + 1
  | .iface _ d => uptoBulk d + 1
  | .map entries => uptoBulkEntries entries + 1
  | .held _ => 1
def uptoBulkAll {H : Type} : List (DataW H) → Nat
  | [] => 0
  | d :: r => uptoBulk d + uptoBulkAll r
def uptoBulkEntries {H : Type} : List (Lit × DataW H) → Nat
  | [] => 0
  | x :: r => uptoBulkEntry x + uptoBulkEntries r
def uptoBulkEntry {H : Type} : Lit × DataW H → Nat
  | (.string bytes, d) => bytes.length + uptoBulk d + 1
  | (_, d) => uptoBulk d + 1
 end
def uptoSmall : (H : Type) → List (DataW H) → Bool := fun _ ds => decide (uptoBulkAll ds ≤ 1048576)
def OpenSpec.upto (s : _root_.Go.ChangeSpec) : _root_.Go.OpenSpec := { _root_.Go.OpenSpec.ofChange s with cond := some uptoSmall }

/-- 'laws.FnOperators', WHERE WHAT IT READS IS OF BULK AT MOST 1048576: true; the input reads as it did. -/
def fnOperatorsUptoRow : OpenClaim := { program := "ytabcmnlmmpbmnaagreat", sum := "1f0dbab4e4e7d9246baacac7128d8f50cb615d853fc07d452a2552ffe2351777", func := "loop.example/g00510/laws.FnOperators", spec := "fnOperators", unfollowed := true, recurses := true, apart := false, narrowed := true }
def FnOperatorsUptoSaid : Prop := fnOperatorsUptoRow.holds Tryz.pinned (OpenSpec.upto fnOperatorsSpec)

/-- 'laws.FnOperandErrors', WHERE WHAT IT READS IS OF BULK AT MOST 1048576: true; the input reads as it did. -/
def fnOperandErrorsUptoRow : OpenClaim := { program := "ytabcmnlmmpbmnaagreat", sum := "1f0dbab4e4e7d9246baacac7128d8f50cb615d853fc07d452a2552ffe2351777", func := "loop.example/g00510/laws.FnOperandErrors", spec := "fnOperandErrors", unfollowed := true, recurses := true, apart := false, narrowed := true }
def FnOperandErrorsUptoSaid : Prop := fnOperandErrorsUptoRow.holds Tryz.pinned (OpenSpec.upto fnOperandErrorsSpec)

/-- 'laws.FnTakeSkip', WHERE WHAT IT READS IS OF BULK AT MOST 1048576: true; the input reads as it did. -/
def fnTakeSkipUptoRow : OpenClaim := { program := "ytabcmnlmmpbmnaagreat", sum := "1f0dbab4e4e7d9246baacac7128d8f50cb615d853fc07d452a2552ffe2351777", func := "loop.example/g00510/laws.FnTakeSkip", spec := "fnTakeSkip", unfollowed := true, recurses := true, apart := false, narrowed := true }
def FnTakeSkipUptoSaid : Prop := fnTakeSkipUptoRow.holds Tryz.pinned (OpenSpec.upto fnTakeSkipSpec)

/-- 'laws.FnStreams', WHERE WHAT IT READS IS OF BULK AT MOST 1048576: true; the input reads as it did. -/
def fnStreamsUptoRow : OpenClaim := { program := "ytabcmnlmmpbmnaagreat", sum := "1f0dbab4e4e7d9246baacac7128d8f50cb615d853fc07d452a2552ffe2351777", func := "loop.example/g00510/laws.FnStreams", spec := "fnStreams", unfollowed := true, recurses := true, apart := false, narrowed := true }
def FnStreamsUptoSaid : Prop := fnStreamsUptoRow.holds Tryz.pinned (OpenSpec.upto fnStreamsSpec)

/-- 'laws.FnSum', WHERE WHAT IT READS IS OF BULK AT MOST 1048576: true; the input reads as it did. -/
def fnSumUptoRow : OpenClaim := { program := "ytabcmnlmmpbmnaagreat", sum := "1f0dbab4e4e7d9246baacac7128d8f50cb615d853fc07d452a2552ffe2351777", func := "loop.example/g00510/laws.FnSum", spec := "fnSum", unfollowed := true, recurses := true, apart := false, narrowed := true }
def FnSumUptoSaid : Prop := fnSumUptoRow.holds Tryz.pinned (OpenSpec.upto fnSumSpec)

/-- 'laws.FnExactApplyOperator', WHERE WHAT IT READS IS OF BULK AT MOST 1048576: true; the input reads as it did. -/
def fnExactApplyOperatorUptoRow : OpenClaim := { program := "ytabcmnlmmpbmnaagreat", sum := "1f0dbab4e4e7d9246baacac7128d8f50cb615d853fc07d452a2552ffe2351777", func := "loop.example/g00510/laws.FnExactApplyOperator", spec := "fnExactApplyOperator", unfollowed := true, recurses := true, loops := true, apart := false, narrowed := true }
def FnExactApplyOperatorUptoSaid : Prop := fnExactApplyOperatorUptoRow.holds Tryz.pinned (OpenSpec.upto fnExactApplyOperatorSpec)

/-- 'laws.FnExactSourceTable', WHERE WHAT IT READS IS OF BULK AT MOST 1048576: true; the input reads as it did. -/
def fnExactSourceTableUptoRow : OpenClaim := { program := "ytabcmnlmmpbmnaagreat", sum := "1f0dbab4e4e7d9246baacac7128d8f50cb615d853fc07d452a2552ffe2351777", func := "loop.example/g00510/laws.FnExactSourceTable", spec := "fnExactSourceTable", unfollowed := true, recurses := true, loops := true, apart := false, narrowed := true }
def FnExactSourceTableUptoSaid : Prop := fnExactSourceTableUptoRow.holds Tryz.pinned (OpenSpec.upto fnExactSourceTableSpec)

/-- 'laws.FnExactRestrictTable', WHERE WHAT IT READS IS OF BULK AT MOST 1048576: true; the input reads as it did. -/
def fnExactRestrictTableUptoRow : OpenClaim := { program := "ytabcmnlmmpbmnaagreat", sum := "1f0dbab4e4e7d9246baacac7128d8f50cb615d853fc07d452a2552ffe2351777", func := "loop.example/g00510/laws.FnExactRestrictTable", spec := "fnExactRestrictTable", unfollowed := true, recurses := true, loops := true, apart := false, narrowed := true }
def FnExactRestrictTableUptoSaid : Prop := fnExactRestrictTableUptoRow.holds Tryz.pinned (OpenSpec.upto fnExactRestrictTableSpec)

end Rows
end Go.Proofs.YtabcmnlmmpbmnaaGreat
