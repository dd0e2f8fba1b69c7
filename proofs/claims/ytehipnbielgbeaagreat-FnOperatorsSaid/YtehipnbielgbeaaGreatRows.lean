/-
  NARROWER THAN 'FOR EVERY INPUT', by the rows' own cells (each row's printed sentence says how): FnExactApplyOperator: loops.
  DERIVED. THE GIVEN ROWS OF THIS SEAT. 3 by the template 'for every input the law returns true; each argument reads behind the call as it read before'; 0 by the template 'total and deterministic' (their statements: YtehipnbielgbeaaGreatTotals.lean).
  GIVEN WITH THE SEED: the statements are not yours to turn. If you find one false, say at which input.
  Laid BY PROGRAM, IN A SANDBOX (cutbox-rows.mjs): the forced cells as the released guide's own fill.sh prints them over the translation cb51f7e0ae05d388… (all of the seat's roots in one cut). By AI agents, Wed Nov 11 2026. No macro, syntax, notation, axiom, sorry.
-/
import Derived.Test.YtehipnbielgbeaaGreatChecked
import GoSem.Claim
import GoSem.ClaimJoined
import GoSem.ClaimMapViews
import Derived.JoinedTies
import Derived.KernelRfl
namespace Go.Proofs.YtehipnbielgbeaaGreat
/- THE CELL 'sum', in the pinned program and in every row, IS THE sha256 OF THE DUMP (.gsa) THAT YtehipnbielgbeaaGreatProg.lean LOADS. Nothing in Lean hashes anything: it is a label: what it is worth is what the hold of that sum in a sandbox is worth. -/
noncomputable def Tryz.pinned : Pinned := { name := "ytehipnbielgbeaagreat", sum := "cb51f7e0ae05d388a8be54e8b3f63c3207155ed4220a128e13b96b633317be1b", checked := Tryz.checked }
namespace Rows
def none {H : Type} : Left H := { results := [], args := [] }

/-- 'laws.FnOperators': WHATEVER THE INPUT: true; the input reads as it did. -/
def fnOperatorsSpec : ChangeSpec := { name := "fnOperators", fn := fun _ => fun
  | [d] => { results := [.lit (.bool true)], args := [d] }
  | _ => none }
def fnOperatorsRow : OpenClaim := { program := "ytehipnbielgbeaagreat", sum := "cb51f7e0ae05d388a8be54e8b3f63c3207155ed4220a128e13b96b633317be1b", func := "loop.example/g00510/laws.FnOperators", spec := "fnOperators", unfollowed := true, recurses := true, apart := false }
def FnOperatorsSaid : Prop := fnOperatorsRow.holds Tryz.pinned (OpenSpec.ofChange fnOperatorsSpec)

/-- ITS FALSE NEIGHBOUR: 'it returns false'. Refute it at one input. -/
def fnOperatorsWrong : ChangeSpec := { name := "fnOperators", fn := fun _ => fun
  | [d] => { results := [.lit (.bool false)], args := [d] }
  | _ => none }
def FnOperatorsWrongFalsely : Prop := fnOperatorsRow.holds Tryz.pinned (OpenSpec.ofChange fnOperatorsWrong)

/-- 'laws.FnOperandErrors': WHATEVER THE INPUT: true; the input reads as it did. -/
def fnOperandErrorsSpec : ChangeSpec := { name := "fnOperandErrors", fn := fun _ => fun
  | [d] => { results := [.lit (.bool true)], args := [d] }
  | _ => none }
def fnOperandErrorsRow : OpenClaim := { program := "ytehipnbielgbeaagreat", sum := "cb51f7e0ae05d388a8be54e8b3f63c3207155ed4220a128e13b96b633317be1b", func := "loop.example/g00510/laws.FnOperandErrors", spec := "fnOperandErrors", unfollowed := true, recurses := true, apart := false }
def FnOperandErrorsSaid : Prop := fnOperandErrorsRow.holds Tryz.pinned (OpenSpec.ofChange fnOperandErrorsSpec)

/-- ITS FALSE NEIGHBOUR: 'it returns false'. Refute it at one input. -/
def fnOperandErrorsWrong : ChangeSpec := { name := "fnOperandErrors", fn := fun _ => fun
  | [d] => { results := [.lit (.bool false)], args := [d] }
  | _ => none }
def FnOperandErrorsWrongFalsely : Prop := fnOperandErrorsRow.holds Tryz.pinned (OpenSpec.ofChange fnOperandErrorsWrong)

/-- 'laws.FnExactApplyOperator': WHATEVER THE INPUT: true; the input reads as it did. -/
def fnExactApplyOperatorSpec : ChangeSpec := { name := "fnExactApplyOperator", fn := fun _ => fun
  | [d1, d2, d3] => { results := [.lit (.bool true)], args := [d1, d2, d3] }
  | _ => none }
def fnExactApplyOperatorRow : OpenClaim := { program := "ytehipnbielgbeaagreat", sum := "cb51f7e0ae05d388a8be54e8b3f63c3207155ed4220a128e13b96b633317be1b", func := "loop.example/g00510/laws.FnExactApplyOperator", spec := "fnExactApplyOperator", unfollowed := true, recurses := true, loops := true, apart := false }
def FnExactApplyOperatorSaid : Prop := fnExactApplyOperatorRow.holds Tryz.pinned (OpenSpec.ofChange fnExactApplyOperatorSpec)

/-- ITS FALSE NEIGHBOUR: 'it returns false'. Refute it at one input. -/
def fnExactApplyOperatorWrong : ChangeSpec := { name := "fnExactApplyOperator", fn := fun _ => fun
  | [d1, d2, d3] => { results := [.lit (.bool false)], args := [d1, d2, d3] }
  | _ => none }
def FnExactApplyOperatorWrongFalsely : Prop := fnExactApplyOperatorRow.holds Tryz.pinned (OpenSpec.ofChange fnExactApplyOperatorWrong)

/- THE SECOND FORM. 'bulk': how many values and letters a reading holds, each counted each time it is reached (what is shared counts as often as it is met; a slice's spare places count too). A statement '..UptoSaid' is the law's where the arguments, and the package variables that the reading takes, are together of bulk at most 1048576: NARROWER than '..Said'. Prove '..Said' where nothing that the law and all that it calls make is longer than what came in: it says more and counts as full. Else prove '..UptoSaid'. A law counts once. -/
mutual
def uptoBulk {H : Type} : DataW H → Nat
  | .lit (.string bytes) => bytes.length + 1
  | .lit _ => 1
  | .nil => 1
  | .ptr d => uptoBulk d + 1
  | .slice elems spare => uptoBulkAll elems + uptoBulkAll spare + 1
  | .agg parts => uptoBulkAll parts + 1
  | .iface _ d => uptoBulk d + 1
  | .map entries => uptoBulkEntries entries + 1
  | .held _ => 1
def uptoBulkAll {H : Type} : List (DataW H) → Nat
  | [] => 0
  | d :: r => uptoBulk d + uptoBulkAll r
def uptoBulkEntries {H : Type} : List (Lit × DataW H) → Nat
  | [] => 0
  | x :: r => uptoBulkEntry x + uptoBulkEntries r
def uptoBulkEntry {H : Type} : Lit × DataW H → Nat
  | (.string bytes, d) => bytes.length + uptoBulk d + 1
  | (_, d) => uptoBulk d + 1
 end
def uptoSmall : (H : Type) → List (DataW H) → Bool := fun _ ds => decide (uptoBulkAll ds ≤ 1048576)
def OpenSpec.upto (s : _root_.Go.ChangeSpec) : _root_.Go.OpenSpec := { _root_.Go.OpenSpec.ofChange s with cond := some uptoSmall }

/-- 'laws.FnOperators', WHERE WHAT IT READS IS OF BULK AT MOST 1048576: true; the input reads as it did. -/
def fnOperatorsUptoRow : OpenClaim := { program := "ytehipnbielgbeaagreat", sum := "cb51f7e0ae05d388a8be54e8b3f63c3207155ed4220a128e13b96b633317be1b", func := "loop.example/g00510/laws.FnOperators", spec := "fnOperators", unfollowed := true, recurses := true, apart := false, narrowed := true }
def FnOperatorsUptoSaid : Prop := fnOperatorsUptoRow.holds Tryz.pinned (OpenSpec.upto fnOperatorsSpec)

/-- 'laws.FnOperandErrors', WHERE WHAT IT READS IS OF BULK AT MOST 1048576: true; the input reads as it did. -/
def fnOperandErrorsUptoRow : OpenClaim := { program := "ytehipnbielgbeaagreat", sum := "cb51f7e0ae05d388a8be54e8b3f63c3207155ed4220a128e13b96b633317be1b", func := "loop.example/g00510/laws.FnOperandErrors", spec := "fnOperandErrors", unfollowed := true, recurses := true, apart := false, narrowed := true }
def FnOperandErrorsUptoSaid : Prop := fnOperandErrorsUptoRow.holds Tryz.pinned (OpenSpec.upto fnOperandErrorsSpec)

/-- 'laws.FnExactApplyOperator', WHERE WHAT IT READS IS OF BULK AT MOST 1048576: true; the input reads as it did. -/
def fnExactApplyOperatorUptoRow : OpenClaim := { program := "ytehipnbielgbeaagreat", sum := "cb51f7e0ae05d388a8be54e8b3f63c3207155ed4220a128e13b96b633317be1b", func := "loop.example/g00510/laws.FnExactApplyOperator", spec := "fnExactApplyOperator", unfollowed := true, recurses := true, loops := true, apart := false, narrowed := true }
def FnExactApplyOperatorUptoSaid : Prop := fnExactApplyOperatorUptoRow.holds Tryz.pinned (OpenSpec.upto fnExactApplyOperatorSpec)

end Rows
end Go.Proofs.YtehipnbielgbeaaGreat
