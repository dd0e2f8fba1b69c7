/-
  NARROWER THAN 'FOR EVERY INPUT', by the rows' own cells (each row's printed sentence says how): FnExactListValue: loops · FnExactDepthOf: loops · FnExactEqualValue: loops · FnExactEqualShown: loops · FnExactSizeOf: loops.
  DERIVED. THE GIVEN ROWS OF THIS SEAT. 11 by the template 'for every input the law returns true; each argument reads behind the call as it read before'; 0 by the template 'total and deterministic' (their statements: YtdmbgogldbfhlaaTotals.lean).
  GIVEN WITH THE SEED: the statements are not yours to turn. If you find one false, say at which input.
  Laid BY PROGRAM, IN A SANDBOX (cutbox-rows.mjs): the forced cells as the released guide's own fill.sh prints them over the translation 0ddf2004b0642b7a… (all of the seat's roots in one cut). By AI agents, Wed Nov 11 2026. No macro, syntax, notation, axiom, sorry.
-/
import Derived.Test.YtdmbgogldbfhlaaChecked
import GoSem.Claim
import GoSem.ClaimJoined
import GoSem.ClaimMapViews
import Derived.JoinedTies
import Derived.KernelRfl
namespace Go.Proofs.Ytdmbgogldbfhlaa
/- THE CELL 'sum', in the pinned program and in every row, IS THE sha256 OF THE DUMP (.gsa) THAT YtdmbgogldbfhlaaProg.lean LOADS. Nothing in Lean hashes anything: it is a label: what it is worth is what the hold of that sum in a sandbox is worth. -/
noncomputable def Try.pinned : Pinned := { name := "ytdmbgogldbfhlaa", sum := "0ddf2004b0642b7a004702b7323c1473a54abd42c90b4b88cfe3cd09a3038c4e", checked := Try.checked }
namespace Rows
def none {H : Type} : Left H := { results := [], args := [] }

/-- 'laws.FnValues': WHATEVER THE INPUT: true; the input reads as it did. -/
def fnValuesSpec : ChangeSpec := { name := "fnValues", fn := fun _ => fun
  | [d] => { results := [.lit (.bool true)], args := [d] }
  | _ => none }
def fnValuesRow : OpenClaim := { program := "ytdmbgogldbfhlaa", sum := "0ddf2004b0642b7a004702b7323c1473a54abd42c90b4b88cfe3cd09a3038c4e", func := "loop.example/g00510/laws.FnValues", spec := "fnValues", unfollowed := true, recurses := true, apart := false }
def FnValuesSaid : Prop := fnValuesRow.holds Try.pinned (OpenSpec.ofChange fnValuesSpec)

/-- ITS FALSE NEIGHBOUR: 'it returns false'. Refute it at one input. -/
def fnValuesWrong : ChangeSpec := { name := "fnValues", fn := fun _ => fun
  | [d] => { results := [.lit (.bool false)], args := [d] }
  | _ => none }
def FnValuesWrongFalsely : Prop := fnValuesRow.holds Try.pinned (OpenSpec.ofChange fnValuesWrong)

/-- 'laws.FnExactNumberValue': WHATEVER THE INPUT: true; the input reads as it did. -/
def fnExactNumberValueSpec : ChangeSpec := { name := "fnExactNumberValue", fn := fun _ => fun
  | [d] => { results := [.lit (.bool true)], args := [d] }
  | _ => none }
def fnExactNumberValueRow : OpenClaim := { program := "ytdmbgogldbfhlaa", sum := "0ddf2004b0642b7a004702b7323c1473a54abd42c90b4b88cfe3cd09a3038c4e", func := "loop.example/g00510/laws.FnExactNumberValue", spec := "fnExactNumberValue", recurses := true, apart := false }
def FnExactNumberValueSaid : Prop := fnExactNumberValueRow.holds Try.pinned (OpenSpec.ofChange fnExactNumberValueSpec)

/-- ITS FALSE NEIGHBOUR: 'it returns false'. Refute it at one input. -/
def fnExactNumberValueWrong : ChangeSpec := { name := "fnExactNumberValue", fn := fun _ => fun
  | [d] => { results := [.lit (.bool false)], args := [d] }
  | _ => none }
def FnExactNumberValueWrongFalsely : Prop := fnExactNumberValueRow.holds Try.pinned (OpenSpec.ofChange fnExactNumberValueWrong)

/-- 'laws.FnExactTextValue': WHATEVER THE INPUT: true; the input reads as it did. -/
def fnExactTextValueSpec : ChangeSpec := { name := "fnExactTextValue", fn := fun _ => fun
  | [d] => { results := [.lit (.bool true)], args := [d] }
  | _ => none }
def fnExactTextValueRow : OpenClaim := { program := "ytdmbgogldbfhlaa", sum := "0ddf2004b0642b7a004702b7323c1473a54abd42c90b4b88cfe3cd09a3038c4e", func := "loop.example/g00510/laws.FnExactTextValue", spec := "fnExactTextValue", recurses := true, apart := false }
def FnExactTextValueSaid : Prop := fnExactTextValueRow.holds Try.pinned (OpenSpec.ofChange fnExactTextValueSpec)

/-- ITS FALSE NEIGHBOUR: 'it returns false'. Refute it at one input. -/
def fnExactTextValueWrong : ChangeSpec := { name := "fnExactTextValue", fn := fun _ => fun
  | [d] => { results := [.lit (.bool false)], args := [d] }
  | _ => none }
def FnExactTextValueWrongFalsely : Prop := fnExactTextValueRow.holds Try.pinned (OpenSpec.ofChange fnExactTextValueWrong)

/-- 'laws.FnExactListValue': WHATEVER THE INPUT: true; the input reads as it did. -/
def fnExactListValueSpec : ChangeSpec := { name := "fnExactListValue", fn := fun _ => fun
  | [d] => { results := [.lit (.bool true)], args := [d] }
  | _ => none }
def fnExactListValueRow : OpenClaim := { program := "ytdmbgogldbfhlaa", sum := "0ddf2004b0642b7a004702b7323c1473a54abd42c90b4b88cfe3cd09a3038c4e", func := "loop.example/g00510/laws.FnExactListValue", spec := "fnExactListValue", recurses := true, loops := true, apart := false }
def FnExactListValueSaid : Prop := fnExactListValueRow.holds Try.pinned (OpenSpec.ofChange fnExactListValueSpec)

/-- ITS FALSE NEIGHBOUR: 'it returns false'. Refute it at one input. -/
def fnExactListValueWrong : ChangeSpec := { name := "fnExactListValue", fn := fun _ => fun
  | [d] => { results := [.lit (.bool false)], args := [d] }
  | _ => none }
def FnExactListValueWrongFalsely : Prop := fnExactListValueRow.holds Try.pinned (OpenSpec.ofChange fnExactListValueWrong)

/-- 'laws.FnExactStreamValue': WHATEVER THE INPUT: true; the input reads as it did. -/
def fnExactStreamValueSpec : ChangeSpec := { name := "fnExactStreamValue", fn := fun _ => fun
  | [d1, d2] => { results := [.lit (.bool true)], args := [d1, d2] }
  | _ => none }
def fnExactStreamValueRow : OpenClaim := { program := "ytdmbgogldbfhlaa", sum := "0ddf2004b0642b7a004702b7323c1473a54abd42c90b4b88cfe3cd09a3038c4e", func := "loop.example/g00510/laws.FnExactStreamValue", spec := "fnExactStreamValue", recurses := true, apart := false }
def FnExactStreamValueSaid : Prop := fnExactStreamValueRow.holds Try.pinned (OpenSpec.ofChange fnExactStreamValueSpec)

/-- ITS FALSE NEIGHBOUR: 'it returns false'. Refute it at one input. -/
def fnExactStreamValueWrong : ChangeSpec := { name := "fnExactStreamValue", fn := fun _ => fun
  | [d1, d2] => { results := [.lit (.bool false)], args := [d1, d2] }
  | _ => none }
def FnExactStreamValueWrongFalsely : Prop := fnExactStreamValueRow.holds Try.pinned (OpenSpec.ofChange fnExactStreamValueWrong)

/-- 'laws.FnExactErrorValue': WHATEVER THE INPUT: true; the input reads as it did. -/
def fnExactErrorValueSpec : ChangeSpec := { name := "fnExactErrorValue", fn := fun _ => fun
  | [d] => { results := [.lit (.bool true)], args := [d] }
  | _ => none }
def fnExactErrorValueRow : OpenClaim := { program := "ytdmbgogldbfhlaa", sum := "0ddf2004b0642b7a004702b7323c1473a54abd42c90b4b88cfe3cd09a3038c4e", func := "loop.example/g00510/laws.FnExactErrorValue", spec := "fnExactErrorValue", recurses := true, apart := false }
def FnExactErrorValueSaid : Prop := fnExactErrorValueRow.holds Try.pinned (OpenSpec.ofChange fnExactErrorValueSpec)

/-- ITS FALSE NEIGHBOUR: 'it returns false'. Refute it at one input. -/
def fnExactErrorValueWrong : ChangeSpec := { name := "fnExactErrorValue", fn := fun _ => fun
  | [d] => { results := [.lit (.bool false)], args := [d] }
  | _ => none }
def FnExactErrorValueWrongFalsely : Prop := fnExactErrorValueRow.holds Try.pinned (OpenSpec.ofChange fnExactErrorValueWrong)

/-- 'laws.FnExactIsValidText': WHATEVER THE INPUT: true; the input reads as it did. -/
def fnExactIsValidTextSpec : ChangeSpec := { name := "fnExactIsValidText", fn := fun _ => fun
  | [d] => { results := [.lit (.bool true)], args := [d] }
  | _ => none }
def fnExactIsValidTextRow : OpenClaim := { program := "ytdmbgogldbfhlaa", sum := "0ddf2004b0642b7a004702b7323c1473a54abd42c90b4b88cfe3cd09a3038c4e", func := "loop.example/g00510/laws.FnExactIsValidText", spec := "fnExactIsValidText", apart := false }
def FnExactIsValidTextSaid : Prop := fnExactIsValidTextRow.holds Try.pinned (OpenSpec.ofChange fnExactIsValidTextSpec)

/-- ITS FALSE NEIGHBOUR: 'it returns false'. Refute it at one input. -/
def fnExactIsValidTextWrong : ChangeSpec := { name := "fnExactIsValidText", fn := fun _ => fun
  | [d] => { results := [.lit (.bool false)], args := [d] }
  | _ => none }
def FnExactIsValidTextWrongFalsely : Prop := fnExactIsValidTextRow.holds Try.pinned (OpenSpec.ofChange fnExactIsValidTextWrong)

/-- 'laws.FnExactDepthOf': WHATEVER THE INPUT: true; the input reads as it did. -/
def fnExactDepthOfSpec : ChangeSpec := { name := "fnExactDepthOf", fn := fun _ => fun
  | [d] => { results := [.lit (.bool true)], args := [d] }
  | _ => none }
def fnExactDepthOfRow : OpenClaim := { program := "ytdmbgogldbfhlaa", sum := "0ddf2004b0642b7a004702b7323c1473a54abd42c90b4b88cfe3cd09a3038c4e", func := "loop.example/g00510/laws.FnExactDepthOf", spec := "fnExactDepthOf", recurses := true, loops := true, apart := false }
def FnExactDepthOfSaid : Prop := fnExactDepthOfRow.holds Try.pinned (OpenSpec.ofChange fnExactDepthOfSpec)

/-- ITS FALSE NEIGHBOUR: 'it returns false'. Refute it at one input. -/
def fnExactDepthOfWrong : ChangeSpec := { name := "fnExactDepthOf", fn := fun _ => fun
  | [d] => { results := [.lit (.bool false)], args := [d] }
  | _ => none }
def FnExactDepthOfWrongFalsely : Prop := fnExactDepthOfRow.holds Try.pinned (OpenSpec.ofChange fnExactDepthOfWrong)

/-- 'laws.FnExactEqualValue': WHATEVER THE INPUT: true; the input reads as it did. -/
def fnExactEqualValueSpec : ChangeSpec := { name := "fnExactEqualValue", fn := fun _ => fun
  | [d1, d2] => { results := [.lit (.bool true)], args := [d1, d2] }
  | _ => none }
def fnExactEqualValueRow : OpenClaim := { program := "ytdmbgogldbfhlaa", sum := "0ddf2004b0642b7a004702b7323c1473a54abd42c90b4b88cfe3cd09a3038c4e", func := "loop.example/g00510/laws.FnExactEqualValue", spec := "fnExactEqualValue", unfollowed := true, recurses := true, loops := true, apart := false }
def FnExactEqualValueSaid : Prop := fnExactEqualValueRow.holds Try.pinned (OpenSpec.ofChange fnExactEqualValueSpec)

/-- ITS FALSE NEIGHBOUR: 'it returns false'. Refute it at one input. -/
def fnExactEqualValueWrong : ChangeSpec := { name := "fnExactEqualValue", fn := fun _ => fun
  | [d1, d2] => { results := [.lit (.bool false)], args := [d1, d2] }
  | _ => none }
def FnExactEqualValueWrongFalsely : Prop := fnExactEqualValueRow.holds Try.pinned (OpenSpec.ofChange fnExactEqualValueWrong)

/-- 'laws.FnExactEqualShown': WHATEVER THE INPUT: true; the input reads as it did. -/
def fnExactEqualShownSpec : ChangeSpec := { name := "fnExactEqualShown", fn := fun _ => fun
  | [d1, d2] => { results := [.lit (.bool true)], args := [d1, d2] }
  | _ => none }
def fnExactEqualShownRow : OpenClaim := { program := "ytdmbgogldbfhlaa", sum := "0ddf2004b0642b7a004702b7323c1473a54abd42c90b4b88cfe3cd09a3038c4e", func := "loop.example/g00510/laws.FnExactEqualShown", spec := "fnExactEqualShown", unfollowed := true, recurses := true, loops := true, apart := false }
def FnExactEqualShownSaid : Prop := fnExactEqualShownRow.holds Try.pinned (OpenSpec.ofChange fnExactEqualShownSpec)

/-- ITS FALSE NEIGHBOUR: 'it returns false'. Refute it at one input. -/
def fnExactEqualShownWrong : ChangeSpec := { name := "fnExactEqualShown", fn := fun _ => fun
  | [d1, d2] => { results := [.lit (.bool false)], args := [d1, d2] }
  | _ => none }
def FnExactEqualShownWrongFalsely : Prop := fnExactEqualShownRow.holds Try.pinned (OpenSpec.ofChange fnExactEqualShownWrong)

/-- 'laws.FnExactSizeOf': WHATEVER THE INPUT: true; the input reads as it did. -/
def fnExactSizeOfSpec : ChangeSpec := { name := "fnExactSizeOf", fn := fun _ => fun
  | [d] => { results := [.lit (.bool true)], args := [d] }
  | _ => none }
def fnExactSizeOfRow : OpenClaim := { program := "ytdmbgogldbfhlaa", sum := "0ddf2004b0642b7a004702b7323c1473a54abd42c90b4b88cfe3cd09a3038c4e", func := "loop.example/g00510/laws.FnExactSizeOf", spec := "fnExactSizeOf", recurses := true, loops := true, apart := false }
def FnExactSizeOfSaid : Prop := fnExactSizeOfRow.holds Try.pinned (OpenSpec.ofChange fnExactSizeOfSpec)

/-- ITS FALSE NEIGHBOUR: 'it returns false'. Refute it at one input. -/
def fnExactSizeOfWrong : ChangeSpec := { name := "fnExactSizeOf", fn := fun _ => fun
  | [d] => { results := [.lit (.bool false)], args := [d] }
  | _ => none }
def FnExactSizeOfWrongFalsely : Prop := fnExactSizeOfRow.holds Try.pinned (OpenSpec.ofChange fnExactSizeOfWrong)

/- THE SECOND FORM. 'bulk': how many values and letters a reading holds, each counted each time it is reached (what is shared counts as often as it is met; a slice's spare places count too). A statement '..UptoSaid' is the law's where the arguments, and the package variables that the reading takes, are together of bulk at most 1048576: NARROWER than '..Said'. Prove '..Said' where nothing that the law and all that it calls make is longer than what came in: it says more and counts as full. Else prove '..UptoSaid'. A law counts once. -/
mutual
def uptoBulk {H : Type} : DataW H → Nat
  | .lit (.string bytes) => bytes.length + 1
  | .lit _ => 1
  | .nil => 1
  | .ptr d => uptoBulk d + 1
  | .slice elems spare => uptoBulkAll elems + uptoBulkAll spare + 1
  | .agg parts => uptoBulkAll parts + 1
  | .iface _ d => uptoBulk d + 1
  | .map entries => uptoBulkEntries entries + 1
  | .held _ => 1
def uptoBulkAll {H : Type} : List (DataW H) → Nat
  | [] => 0
  | d :: r => uptoBulk d + uptoBulkAll r
def uptoBulkEntries {H : Type} : List (Lit × DataW H) → Nat
  | [] => 0
  | x :: r => uptoBulkEntry x + uptoBulkEntries r
def uptoBulkEntry {H : Type} : Lit × DataW H → Nat
  | (.string bytes, d) => bytes.length + uptoBulk d + 1
  | (_, d) => uptoBulk d + 1
 end
def uptoSmall : (H : Type) → List (DataW H) → Bool := fun _ ds => decide (uptoBulkAll ds ≤ 1048576)
def OpenSpec.upto (s : _root_.Go.ChangeSpec) : _root_.Go.OpenSpec := { _root_.Go.OpenSpec.ofChange s with cond := some uptoSmall }

/-- 'laws.FnValues', WHERE WHAT IT READS IS OF BULK AT MOST 1048576: true; the input reads as it did. -/
def fnValuesUptoRow : OpenClaim := { program := "ytdmbgogldbfhlaa", sum := "0ddf2004b0642b7a004702b7323c1473a54abd42c90b4b88cfe3cd09a3038c4e", func := "loop.example/g00510/laws.FnValues", spec := "fnValues", unfollowed := true, recurses := true, apart := false, narrowed := true }
def FnValuesUptoSaid : Prop := fnValuesUptoRow.holds Try.pinned (OpenSpec.upto fnValuesSpec)

/-- 'laws.FnExactNumberValue', WHERE WHAT IT READS IS OF BULK AT MOST 1048576: true; the input reads as it did. -/
def fnExactNumberValueUptoRow : OpenClaim := { program := "ytdmbgogldbfhlaa", sum := "0ddf2004b0642b7a004702b7323c1473a54abd42c90b4b88cfe3cd09a3038c4e", func := "loop.example/g00510/laws.FnExactNumberValue", spec := "fnExactNumberValue", recurses := true, apart := false, narrowed := true }
def FnExactNumberValueUptoSaid : Prop := fnExactNumberValueUptoRow.holds Try.pinned (OpenSpec.upto fnExactNumberValueSpec)

/-- 'laws.FnExactTextValue', WHERE WHAT IT READS IS OF BULK AT MOST 1048576: true; the input reads as it did. -/
def fnExactTextValueUptoRow : OpenClaim := { program := "ytdmbgogldbfhlaa", sum := "0ddf2004b0642b7a004702b7323c1473a54abd42c90b4b88cfe3cd09a3038c4e", func := "loop.example/g00510/laws.FnExactTextValue", spec := "fnExactTextValue", recurses := true, apart := false, narrowed := true }
def FnExactTextValueUptoSaid : Prop := fnExactTextValueUptoRow.holds Try.pinned (OpenSpec.upto fnExactTextValueSpec)

/-- 'laws.FnExactListValue', WHERE WHAT IT READS IS OF BULK AT MOST 1048576: true; the input reads as it did. -/
def fnExactListValueUptoRow : OpenClaim := { program := "ytdmbgogldbfhlaa", sum := "0ddf2004b0642b7a004702b7323c1473a54abd42c90b4b88cfe3cd09a3038c4e", func := "loop.example/g00510/laws.FnExactListValue", spec := "fnExactListValue", recurses := true, loops := true, apart := false, narrowed := true }
def FnExactListValueUptoSaid : Prop := fnExactListValueUptoRow.holds Try.pinned (OpenSpec.upto fnExactListValueSpec)

/-- 'laws.FnExactStreamValue', WHERE WHAT IT READS IS OF BULK AT MOST 1048576: true; the input reads as it did. -/
def fnExactStreamValueUptoRow : OpenClaim := { program := "ytdmbgogldbfhlaa", sum := "0ddf2004b0642b7a004702b7323c1473a54abd42c90b4b88cfe3cd09a3038c4e", func := "loop.example/g00510/laws.FnExactStreamValue", spec := "fnExactStreamValue", recurses := true, apart := false, narrowed := true }
def FnExactStreamValueUptoSaid : Prop := fnExactStreamValueUptoRow.holds Try.pinned (OpenSpec.upto fnExactStreamValueSpec)

/-- 'laws.FnExactErrorValue', WHERE WHAT IT READS IS OF BULK AT MOST 1048576: true; the input reads as it did. -/
def fnExactErrorValueUptoRow : OpenClaim := { program := "ytdmbgogldbfhlaa", sum := "0ddf2004b0642b7a004702b7323c1473a54abd42c90b4b88cfe3cd09a3038c4e", func := "loop.example/g00510/laws.FnExactErrorValue", spec := "fnExactErrorValue", recurses := true, apart := false, narrowed := true }
def FnExactErrorValueUptoSaid : Prop := fnExactErrorValueUptoRow.holds Try.pinned (OpenSpec.upto fnExactErrorValueSpec)

/-- 'laws.FnExactIsValidText', WHERE WHAT IT READS IS OF BULK AT MOST 1048576: true; the input reads as it did. -/
def fnExactIsValidTextUptoRow : OpenClaim := { program := "ytdmbgogldbfhlaa", sum := "0ddf2004b0642b7a004702b7323c1473a54abd42c90b4b88cfe3cd09a3038c4e", func := "loop.example/g00510/laws.FnExactIsValidText", spec := "fnExactIsValidText", apart := false, narrowed := true }
def FnExactIsValidTextUptoSaid : Prop := fnExactIsValidTextUptoRow.holds Try.pinned (OpenSpec.upto fnExactIsValidTextSpec)

/-- 'laws.FnExactDepthOf', WHERE WHAT IT READS IS OF BULK AT MOST 1048576: true; the input reads as it did. -/
def fnExactDepthOfUptoRow : OpenClaim := { program := "ytdmbgogldbfhlaa", sum := "0ddf2004b0642b7a004702b7323c1473a54abd42c90b4b88cfe3cd09a3038c4e", func := "loop.example/g00510/laws.FnExactDepthOf", spec := "fnExactDepthOf", recurses := true, loops := true, apart := false, narrowed := true }
def FnExactDepthOfUptoSaid : Prop := fnExactDepthOfUptoRow.holds Try.pinned (OpenSpec.upto fnExactDepthOfSpec)

/-- 'laws.FnExactEqualValue', WHERE WHAT IT READS IS OF BULK AT MOST 1048576: true; the input reads as it did. -/
def fnExactEqualValueUptoRow : OpenClaim := { program := "ytdmbgogldbfhlaa", sum := "0ddf2004b0642b7a004702b7323c1473a54abd42c90b4b88cfe3cd09a3038c4e", func := "loop.example/g00510/laws.FnExactEqualValue", spec := "fnExactEqualValue", unfollowed := true, recurses := true, loops := true, apart := false, narrowed := true }
def FnExactEqualValueUptoSaid : Prop := fnExactEqualValueUptoRow.holds Try.pinned (OpenSpec.upto fnExactEqualValueSpec)

/-- 'laws.FnExactEqualShown', WHERE WHAT IT READS IS OF BULK AT MOST 1048576: true; the input reads as it did. -/
def fnExactEqualShownUptoRow : OpenClaim := { program := "ytdmbgogldbfhlaa", sum := "0ddf2004b0642b7a004702b7323c1473a54abd42c90b4b88cfe3cd09a3038c4e", func := "loop.example/g00510/laws.FnExactEqualShown", spec := "fnExactEqualShown", unfollowed := true, recurses := true, loops := true, apart := false, narrowed := true }
def FnExactEqualShownUptoSaid : Prop := fnExactEqualShownUptoRow.holds Try.pinned (OpenSpec.upto fnExactEqualShownSpec)

/-- 'laws.FnExactSizeOf', WHERE WHAT IT READS IS OF BULK AT MOST 1048576: true; the input reads as it did. -/
def fnExactSizeOfUptoRow : OpenClaim := { program := "ytdmbgogldbfhlaa", sum := "0ddf2004b0642b7a004702b7323c1473a54abd42c90b4b88cfe3cd09a3038c4e", func := "loop.example/g00510/laws.FnExactSizeOf", spec := "fnExactSizeOf", recurses := true, loops := true, apart := false, narrowed := true }
def FnExactSizeOfUptoSaid : Prop := fnExactSizeOfUptoRow.holds Try.pinned (OpenSpec.upto fnExactSizeOfSpec)

end Rows
end Go.Proofs.Ytdmbgogldbfhlaa
