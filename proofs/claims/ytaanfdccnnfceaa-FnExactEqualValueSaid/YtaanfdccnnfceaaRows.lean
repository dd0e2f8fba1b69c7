/-
  NARROWER THAN 'FOR EVERY INPUT', by the rows' own cells (each row's printed sentence says how): FnExactNodeCount: loops · FnExactNestingOf: loops · FnExactIsValidExpr: loops · FnExactEqualExpr: loops · FnExactHasEffect: loops · FnExactDepthOf: loops · FnExactEqualValue: loops · FnExactSizeOf: loops · FnExactEqualShown: loops.
  DERIVED. THE GIVEN ROWS OF THIS SEAT. 11 by the template 'for every input the law returns true; each argument reads behind the call as it read before'; 0 by the template 'total and deterministic' (their statements: YtaanfdccnnfceaaTotals.lean).
  GIVEN WITH THE SEED: the statements are not yours to turn. If you find one false, say at which input.
  Laid BY PROGRAM, IN A SANDBOX (cutbox-rows.mjs): the forced cells as the released guide's own fill.sh prints them over the translation 01f02a6fef8f4a52… (all of the seat's roots in one cut). By AI agents, Wed Nov 11 2026. No macro, syntax, notation, axiom, sorry.
-/
import Derived.Test.YtaanfdccnnfceaaChecked
import GoSem.Claim
import GoSem.ClaimJoined
import GoSem.ClaimMapViews
import Derived.JoinedTies
import Derived.KernelRfl
namespace Go.Proofs.Ytaanfdccnnfceaa
/- THE CELL 'sum', in the pinned program and in every row, IS THE sha256 OF THE DUMP (.gsa) THAT YtaanfdccnnfceaaProg.lean LOADS. Nothing in Lean hashes anything: it is a label: what it is worth is what the hold of that sum in a sandbox is worth. -/
noncomputable def Try.pinned : Pinned := { name := "ytaanfdccnnfceaa", sum := "01f02a6fef8f4a52265ad118328b665148864f3ba31ad5bf6f2ad67b7447399f", checked := Try.checked }
namespace Rows
def none {H : Type} : Left H := { results := [], args := [] }

/-- 'laws.FnExprs': WHATEVER THE INPUT: true; the input reads as it did. -/
def fnExprsSpec : ChangeSpec := { name := "fnExprs", fn := fun _ => fun
  | [d] => { results := [.lit (.bool true)], args := [d] }
  | _ => none }
def fnExprsRow : OpenClaim := { program := "ytaanfdccnnfceaa", sum := "01f02a6fef8f4a52265ad118328b665148864f3ba31ad5bf6f2ad67b7447399f", func := "loop.example/g00510/laws.FnExprs", spec := "fnExprs", unfollowed := true, recurses := true, apart := false }
def FnExprsSaid : Prop := fnExprsRow.holds Try.pinned (OpenSpec.ofChange fnExprsSpec)

/-- ITS FALSE NEIGHBOUR: 'it returns false'. Refute it at one input. -/
def fnExprsWrong : ChangeSpec := { name := "fnExprs", fn := fun _ => fun
  | [d] => { results := [.lit (.bool false)], args := [d] }
  | _ => none }
def FnExprsWrongFalsely : Prop := fnExprsRow.holds Try.pinned (OpenSpec.ofChange fnExprsWrong)

/-- 'laws.FnExactArgumentCount': WHATEVER THE INPUT: true; the input reads as it did. -/
def fnExactArgumentCountSpec : ChangeSpec := { name := "fnExactArgumentCount", fn := fun _ => fun
  | [d] => { results := [.lit (.bool true)], args := [d] }
  | _ => none }
def fnExactArgumentCountRow : OpenClaim := { program := "ytaanfdccnnfceaa", sum := "01f02a6fef8f4a52265ad118328b665148864f3ba31ad5bf6f2ad67b7447399f", func := "loop.example/g00510/laws.FnExactArgumentCount", spec := "fnExactArgumentCount", apart := false }
def FnExactArgumentCountSaid : Prop := fnExactArgumentCountRow.holds Try.pinned (OpenSpec.ofChange fnExactArgumentCountSpec)

/-- ITS FALSE NEIGHBOUR: 'it returns false'. Refute it at one input. -/
def fnExactArgumentCountWrong : ChangeSpec := { name := "fnExactArgumentCount", fn := fun _ => fun
  | [d] => { results := [.lit (.bool false)], args := [d] }
  | _ => none }
def FnExactArgumentCountWrongFalsely : Prop := fnExactArgumentCountRow.holds Try.pinned (OpenSpec.ofChange fnExactArgumentCountWrong)

/-- 'laws.FnExactNodeCount': WHATEVER THE INPUT: true; the input reads as it did. -/
def fnExactNodeCountSpec : ChangeSpec := { name := "fnExactNodeCount", fn := fun _ => fun
  | [d] => { results := [.lit (.bool true)], args := [d] }
  | _ => none }
def fnExactNodeCountRow : OpenClaim := { program := "ytaanfdccnnfceaa", sum := "01f02a6fef8f4a52265ad118328b665148864f3ba31ad5bf6f2ad67b7447399f", func := "loop.example/g00510/laws.FnExactNodeCount", spec := "fnExactNodeCount", unfollowed := true, recurses := true, loops := true, apart := false }
def FnExactNodeCountSaid : Prop := fnExactNodeCountRow.holds Try.pinned (OpenSpec.ofChange fnExactNodeCountSpec)

/-- ITS FALSE NEIGHBOUR: 'it returns false'. Refute it at one input. -/
def fnExactNodeCountWrong : ChangeSpec := { name := "fnExactNodeCount", fn := fun _ => fun
  | [d] => { results := [.lit (.bool false)], args := [d] }
  | _ => none }
def FnExactNodeCountWrongFalsely : Prop := fnExactNodeCountRow.holds Try.pinned (OpenSpec.ofChange fnExactNodeCountWrong)

/-- 'laws.FnExactNestingOf': WHATEVER THE INPUT: true; the input reads as it did. -/
def fnExactNestingOfSpec : ChangeSpec := { name := "fnExactNestingOf", fn := fun _ => fun
  | [d] => { results := [.lit (.bool true)], args := [d] }
  | _ => none }
def fnExactNestingOfRow : OpenClaim := { program := "ytaanfdccnnfceaa", sum := "01f02a6fef8f4a52265ad118328b665148864f3ba31ad5bf6f2ad67b7447399f", func := "loop.example/g00510/laws.FnExactNestingOf", spec := "fnExactNestingOf", unfollowed := true, recurses := true, loops := true, apart := false }
def FnExactNestingOfSaid : Prop := fnExactNestingOfRow.holds Try.pinned (OpenSpec.ofChange fnExactNestingOfSpec)

/-- ITS FALSE NEIGHBOUR: 'it returns false'. Refute it at one input. -/
def fnExactNestingOfWrong : ChangeSpec := { name := "fnExactNestingOf", fn := fun _ => fun
  | [d] => { results := [.lit (.bool false)], args := [d] }
  | _ => none }
def FnExactNestingOfWrongFalsely : Prop := fnExactNestingOfRow.holds Try.pinned (OpenSpec.ofChange fnExactNestingOfWrong)

/-- 'laws.FnExactIsValidExpr': WHATEVER THE INPUT: true; the input reads as it did. -/
def fnExactIsValidExprSpec : ChangeSpec := { name := "fnExactIsValidExpr", fn := fun _ => fun
  | [d] => { results := [.lit (.bool true)], args := [d] }
  | _ => none }
def fnExactIsValidExprRow : OpenClaim := { program := "ytaanfdccnnfceaa", sum := "01f02a6fef8f4a52265ad118328b665148864f3ba31ad5bf6f2ad67b7447399f", func := "loop.example/g00510/laws.FnExactIsValidExpr", spec := "fnExactIsValidExpr", unfollowed := true, recurses := true, loops := true, apart := false }
def FnExactIsValidExprSaid : Prop := fnExactIsValidExprRow.holds Try.pinned (OpenSpec.ofChange fnExactIsValidExprSpec)

/-- ITS FALSE NEIGHBOUR: 'it returns false'. Refute it at one input. -/
def fnExactIsValidExprWrong : ChangeSpec := { name := "fnExactIsValidExpr", fn := fun _ => fun
  | [d] => { results := [.lit (.bool false)], args := [d] }
  | _ => none }
def FnExactIsValidExprWrongFalsely : Prop := fnExactIsValidExprRow.holds Try.pinned (OpenSpec.ofChange fnExactIsValidExprWrong)

/-- 'laws.FnExactEqualExpr': WHATEVER THE INPUT: true; the input reads as it did. -/
def fnExactEqualExprSpec : ChangeSpec := { name := "fnExactEqualExpr", fn := fun _ => fun
  | [d1, d2] => { results := [.lit (.bool true)], args := [d1, d2] }
  | _ => none }
def fnExactEqualExprRow : OpenClaim := { program := "ytaanfdccnnfceaa", sum := "01f02a6fef8f4a52265ad118328b665148864f3ba31ad5bf6f2ad67b7447399f", func := "loop.example/g00510/laws.FnExactEqualExpr", spec := "fnExactEqualExpr", unfollowed := true, recurses := true, loops := true, apart := false }
def FnExactEqualExprSaid : Prop := fnExactEqualExprRow.holds Try.pinned (OpenSpec.ofChange fnExactEqualExprSpec)

/-- ITS FALSE NEIGHBOUR: 'it returns false'. Refute it at one input. -/
def fnExactEqualExprWrong : ChangeSpec := { name := "fnExactEqualExpr", fn := fun _ => fun
  | [d1, d2] => { results := [.lit (.bool false)], args := [d1, d2] }
  | _ => none }
def FnExactEqualExprWrongFalsely : Prop := fnExactEqualExprRow.holds Try.pinned (OpenSpec.ofChange fnExactEqualExprWrong)

/-- 'laws.FnExactHasEffect': WHATEVER THE INPUT: true; the input reads as it did. -/
def fnExactHasEffectSpec : ChangeSpec := { name := "fnExactHasEffect", fn := fun _ => fun
  | [d] => { results := [.lit (.bool true)], args := [d] }
  | _ => none }
def fnExactHasEffectRow : OpenClaim := { program := "ytaanfdccnnfceaa", sum := "01f02a6fef8f4a52265ad118328b665148864f3ba31ad5bf6f2ad67b7447399f", func := "loop.example/g00510/laws.FnExactHasEffect", spec := "fnExactHasEffect", unfollowed := true, recurses := true, loops := true, apart := false }
def FnExactHasEffectSaid : Prop := fnExactHasEffectRow.holds Try.pinned (OpenSpec.ofChange fnExactHasEffectSpec)

/-- ITS FALSE NEIGHBOUR: 'it returns false'. Refute it at one input. -/
def fnExactHasEffectWrong : ChangeSpec := { name := "fnExactHasEffect", fn := fun _ => fun
  | [d] => { results := [.lit (.bool false)], args := [d] }
  | _ => none }
def FnExactHasEffectWrongFalsely : Prop := fnExactHasEffectRow.holds Try.pinned (OpenSpec.ofChange fnExactHasEffectWrong)

/-- 'laws.FnExactDepthOf': WHATEVER THE INPUT: true; the input reads as it did. -/
def fnExactDepthOfSpec : ChangeSpec := { name := "fnExactDepthOf", fn := fun _ => fun
  | [d] => { results := [.lit (.bool true)], args := [d] }
  | _ => none }
def fnExactDepthOfRow : OpenClaim := { program := "ytaanfdccnnfceaa", sum := "01f02a6fef8f4a52265ad118328b665148864f3ba31ad5bf6f2ad67b7447399f", func := "loop.example/g00510/laws.FnExactDepthOf", spec := "fnExactDepthOf", unfollowed := true, recurses := true, loops := true, apart := false }
def FnExactDepthOfSaid : Prop := fnExactDepthOfRow.holds Try.pinned (OpenSpec.ofChange fnExactDepthOfSpec)

/-- ITS FALSE NEIGHBOUR: 'it returns false'. Refute it at one input. -/
def fnExactDepthOfWrong : ChangeSpec := { name := "fnExactDepthOf", fn := fun _ => fun
  | [d] => { results := [.lit (.bool false)], args := [d] }
  | _ => none }
def FnExactDepthOfWrongFalsely : Prop := fnExactDepthOfRow.holds Try.pinned (OpenSpec.ofChange fnExactDepthOfWrong)

/-- 'laws.FnExactEqualValue': WHATEVER THE INPUT: true; the input reads as it did. -/
def fnExactEqualValueSpec : ChangeSpec := { name := "fnExactEqualValue", fn := fun _ => fun
  | [d1, d2] => { results := [.lit (.bool true)], args := [d1, d2] }
  | _ => none }
def fnExactEqualValueRow : OpenClaim := { program := "ytaanfdccnnfceaa", sum := "01f02a6fef8f4a52265ad118328b665148864f3ba31ad5bf6f2ad67b7447399f", func := "loop.example/g00510/laws.FnExactEqualValue", spec := "fnExactEqualValue", unfollowed := true, recurses := true, loops := true, apart := false }
def FnExactEqualValueSaid : Prop := fnExactEqualValueRow.holds Try.pinned (OpenSpec.ofChange fnExactEqualValueSpec)

/-- ITS FALSE NEIGHBOUR: 'it returns false'. Refute it at one input. -/
def fnExactEqualValueWrong : ChangeSpec := { name := "fnExactEqualValue", fn := fun _ => fun
  | [d1, d2] => { results := [.lit (.bool false)], args := [d1, d2] }
  | _ => none }
def FnExactEqualValueWrongFalsely : Prop := fnExactEqualValueRow.holds Try.pinned (OpenSpec.ofChange fnExactEqualValueWrong)

/-- 'laws.FnExactSizeOf': WHATEVER THE INPUT: true; the input reads as it did. -/
def fnExactSizeOfSpec : ChangeSpec := { name := "fnExactSizeOf", fn := fun _ => fun
  | [d] => { results := [.lit (.bool true)], args := [d] }
  | _ => none }
def fnExactSizeOfRow : OpenClaim := { program := "ytaanfdccnnfceaa", sum := "01f02a6fef8f4a52265ad118328b665148864f3ba31ad5bf6f2ad67b7447399f", func := "loop.example/g00510/laws.FnExactSizeOf", spec := "fnExactSizeOf", unfollowed := true, recurses := true, loops := true, apart := false }
def FnExactSizeOfSaid : Prop := fnExactSizeOfRow.holds Try.pinned (OpenSpec.ofChange fnExactSizeOfSpec)

/-- ITS FALSE NEIGHBOUR: 'it returns false'. Refute it at one input. -/
def fnExactSizeOfWrong : ChangeSpec := { name := "fnExactSizeOf", fn := fun _ => fun
  | [d] => { results := [.lit (.bool false)], args := [d] }
  | _ => none }
def FnExactSizeOfWrongFalsely : Prop := fnExactSizeOfRow.holds Try.pinned (OpenSpec.ofChange fnExactSizeOfWrong)

/-- 'laws.FnExactEqualShown': WHATEVER THE INPUT: true; the input reads as it did. -/
def fnExactEqualShownSpec : ChangeSpec := { name := "fnExactEqualShown", fn := fun _ => fun
  | [d1, d2] => { results := [.lit (.bool true)], args := [d1, d2] }
  | _ => none }
def fnExactEqualShownRow : OpenClaim := { program := "ytaanfdccnnfceaa", sum := "01f02a6fef8f4a52265ad118328b665148864f3ba31ad5bf6f2ad67b7447399f", func := "loop.example/g00510/laws.FnExactEqualShown", spec := "fnExactEqualShown", unfollowed := true, recurses := true, loops := true, apart := false }
def FnExactEqualShownSaid : Prop := fnExactEqualShownRow.holds Try.pinned (OpenSpec.ofChange fnExactEqualShownSpec)

/-- ITS FALSE NEIGHBOUR: 'it returns false'. Refute it at one input. -/
def fnExactEqualShownWrong : ChangeSpec := { name := "fnExactEqualShown", fn := fun _ => fun
  | [d1, d2] => { results := [.lit (.bool false)], args := [d1, d2] }
  | _ => none }
def FnExactEqualShownWrongFalsely : Prop := fnExactEqualShownRow.holds Try.pinned (OpenSpec.ofChange fnExactEqualShownWrong)

/- THE SECOND FORM. 'bulk': how many values and letters a reading holds, each counted each time it is reached (what is shared counts as often as it is met; a slice's spare places count too). A statement '..UptoSaid' is the law's where the arguments, and the package variables that the reading takes, are together of bulk at most 1048576: NARROWER than '..Said'. Prove '..Said' where nothing that the law and all that it calls make is longer than what came in: it says more and counts as full. Else prove '..UptoSaid'. A law counts once. -/
mutual
def uptoBulk {H : Type} : DataW H → Nat
  | .lit (.string bytes) => bytes.length + 1
  | .lit _ => 1
  | .nil => 1
  | .ptr d => uptoBulk d + 1
  | .slice elems spare => uptoBulkAll elems + uptoBulkAll spare + 1
  | .agg parts => uptoBulkAll parts + 1
  | .iface _ d => uptoBulk d + 1
  | .map entries => uptoBulkEntries entries + 1
  | .held _ => 1
def uptoBulkAll {H : Type} : List (DataW H) → Nat
  | [] => 0
  | d :: r => uptoBulk d + uptoBulkAll r
def uptoBulkEntries {H : Type} : List (Lit × DataW H) → Nat
  | [] => 0
  | x :: r => uptoBulkEntry x + uptoBulkEntries r
def uptoBulkEntry {H : Type} : Lit × DataW H → Nat
  | (.string bytes, d) => bytes.length + uptoBulk d + 1
  | (_, d) => uptoBulk d + 1
 end
def uptoSmall : (H : Type) → List (DataW H) → Bool := fun _ ds => decide (uptoBulkAll ds ≤ 1048576)
def OpenSpec.upto (s : _root_.Go.ChangeSpec) : _root_.Go.OpenSpec := { _root_.Go.OpenSpec.ofChange s with cond := some uptoSmall }

/-- 'laws.FnExprs', WHERE WHAT IT READS IS OF BULK AT MOST 1048576: true; the input reads as it did. -/
def fnExprsUptoRow : OpenClaim := { program := "ytaanfdccnnfceaa", sum := "01f02a6fef8f4a52265ad118328b665148864f3ba31ad5bf6f2ad67b7447399f", func := "loop.example/g00510/laws.FnExprs", spec := "fnExprs", unfollowed := true, recurses := true, apart := false, narrowed := true }
def FnExprsUptoSaid : Prop := fnExprsUptoRow.holds Try.pinned (OpenSpec.upto fnExprsSpec)

/-- 'laws.FnExactArgumentCount', WHERE WHAT IT READS IS OF BULK AT MOST 1048576: true; the input reads as it did. -/
def fnExactArgumentCountUptoRow : OpenClaim := { program := "ytaanfdccnnfceaa", sum := "01f02a6fef8f4a52265ad118328b665148864f3ba31ad5bf6f2ad67b7447399f", func := "loop.example/g00510/laws.FnExactArgumentCount", spec := "fnExactArgumentCount", apart := false, narrowed := true }
def FnExactArgumentCountUptoSaid : Prop := fnExactArgumentCountUptoRow.holds Try.pinned (OpenSpec.upto fnExactArgumentCountSpec)

/-- 'laws.FnExactNodeCount', WHERE WHAT IT READS IS OF BULK AT MOST 1048576: true; the input reads as it did. -/
def fnExactNodeCountUptoRow : OpenClaim := { program := "ytaanfdccnnfceaa", sum := "01f02a6fef8f4a52265ad118328b665148864f3ba31ad5bf6f2ad67b7447399f", func := "loop.example/g00510/laws.FnExactNodeCount", spec := "fnExactNodeCount", unfollowed := true, recurses := true, loops := true, apart := false, narrowed := true }
def FnExactNodeCountUptoSaid : Prop := fnExactNodeCountUptoRow.holds Try.pinned (OpenSpec.upto fnExactNodeCountSpec)

/-- 'laws.FnExactNestingOf', WHERE WHAT IT READS IS OF BULK AT MOST 1048576: true; the input reads as it did. -/
def fnExactNestingOfUptoRow : OpenClaim := { program := "ytaanfdccnnfceaa", sum := "01f02a6fef8f4a52265ad118328b665148864f3ba31ad5bf6f2ad67b7447399f", func := "loop.example/g00510/laws.FnExactNestingOf", spec := "fnExactNestingOf", unfollowed := true, recurses := true, loops := true, apart := false, narrowed := true }
def FnExactNestingOfUptoSaid : Prop := fnExactNestingOfUptoRow.holds Try.pinned (OpenSpec.upto fnExactNestingOfSpec)

/-- 'laws.FnExactIsValidExpr', WHERE WHAT IT READS IS OF BULK AT MOST 1048576: true; the input reads as it did. -/
def fnExactIsValidExprUptoRow : OpenClaim := { program := "ytaanfdccnnfceaa", sum := "01f02a6fef8f4a52265ad118328b665148864f3ba31ad5bf6f2ad67b7447399f", func := "loop.example/g00510/laws.FnExactIsValidExpr", spec := "fnExactIsValidExpr", unfollowed := true, recurses := true, loops := true, apart := false, narrowed := true }
def FnExactIsValidExprUptoSaid : Prop := fnExactIsValidExprUptoRow.holds Try.pinned (OpenSpec.upto fnExactIsValidExprSpec)

/-- 'laws.FnExactEqualExpr', WHERE WHAT IT READS IS OF BULK AT MOST 1048576: true; the input reads as it did. -/
def fnExactEqualExprUptoRow : OpenClaim := { program := "ytaanfdccnnfceaa", sum := "01f02a6fef8f4a52265ad118328b665148864f3ba31ad5bf6f2ad67b7447399f", func := "loop.example/g00510/laws.FnExactEqualExpr", spec := "fnExactEqualExpr", unfollowed := true, recurses := true, loops := true, apart := false, narrowed := true }
def FnExactEqualExprUptoSaid : Prop := fnExactEqualExprUptoRow.holds Try.pinned (OpenSpec.upto fnExactEqualExprSpec)

/-- 'laws.FnExactHasEffect', WHERE WHAT IT READS IS OF BULK AT MOST 1048576: true; the input reads as it did. -/
def fnExactHasEffectUptoRow : OpenClaim := { program := "ytaanfdccnnfceaa", sum := "01f02a6fef8f4a52265ad118328b665148864f3ba31ad5bf6f2ad67b7447399f", func := "loop.example/g00510/laws.FnExactHasEffect", spec := "fnExactHasEffect", unfollowed := true, recurses := true, loops := true, apart := false, narrowed := true }
def FnExactHasEffectUptoSaid : Prop := fnExactHasEffectUptoRow.holds Try.pinned (OpenSpec.upto fnExactHasEffectSpec)

/-- 'laws.FnExactDepthOf', WHERE WHAT IT READS IS OF BULK AT MOST 1048576: true; the input reads as it did. -/
def fnExactDepthOfUptoRow : OpenClaim := { program := "ytaanfdccnnfceaa", sum := "01f02a6fef8f4a52265ad118328b665148864f3ba31ad5bf6f2ad67b7447399f", func := "loop.example/g00510/laws.FnExactDepthOf", spec := "fnExactDepthOf", unfollowed := true, recurses := true, loops := true, apart := false, narrowed := true }
def FnExactDepthOfUptoSaid : Prop := fnExactDepthOfUptoRow.holds Try.pinned (OpenSpec.upto fnExactDepthOfSpec)

/-- 'laws.FnExactEqualValue', WHERE WHAT IT READS IS OF BULK AT MOST 1048576: true; the input reads as it did. -/
def fnExactEqualValueUptoRow : OpenClaim := { program := "ytaanfdccnnfceaa", sum := "01f02a6fef8f4a52265ad118328b665148864f3ba31ad5bf6f2ad67b7447399f", func := "loop.example/g00510/laws.FnExactEqualValue", spec := "fnExactEqualValue", unfollowed := true, recurses := true, loops := true, apart := false, narrowed := true }
def FnExactEqualValueUptoSaid : Prop := fnExactEqualValueUptoRow.holds Try.pinned (OpenSpec.upto fnExactEqualValueSpec)

/-- 'laws.FnExactSizeOf', WHERE WHAT IT READS IS OF BULK AT MOST 1048576: true; the input reads as it did. -/
def fnExactSizeOfUptoRow : OpenClaim := { program := "ytaanfdccnnfceaa", sum := "01f02a6fef8f4a52265ad118328b665148864f3ba31ad5bf6f2ad67b7447399f", func := "loop.example/g00510/laws.FnExactSizeOf", spec := "fnExactSizeOf", unfollowed := true, recurses := true, loops := true, apart := false, narrowed := true }
def FnExactSizeOfUptoSaid : Prop := fnExactSizeOfUptoRow.holds Try.pinned (OpenSpec.upto fnExactSizeOfSpec)

/-- 'laws.FnExactEqualShown', WHERE WHAT IT READS IS OF BULK AT MOST 1048576: true; the input reads as it did. -/
def fnExactEqualShownUptoRow : OpenClaim := { program := "ytaanfdccnnfceaa", sum := "01f02a6fef8f4a52265ad118328b665148864f3ba31ad5bf6f2ad67b7447399f", func := "loop.example/g00510/laws.FnExactEqualShown", spec := "fnExactEqualShown", unfollowed := true, recurses := true, loops := true, apart := false, narrowed := true }
def FnExactEqualShownUptoSaid : Prop := fnExactEqualShownUptoRow.holds Try.pinned (OpenSpec.upto fnExactEqualShownSpec)

end Rows
end Go.Proofs.Ytaanfdccnnfceaa
