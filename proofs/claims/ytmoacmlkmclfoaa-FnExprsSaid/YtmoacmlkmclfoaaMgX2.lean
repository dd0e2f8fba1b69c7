/-
  Texts that the proof rests on, put together: NameMath.
-/
import Derived.Test.YtmoacmlkmclfoaaRows
import Derived.Lib.SlicesCompact
import Derived.Lib.SlicesS
import Derived.Sort.Walk0
/-
  Names in lexical order: sorting without repeats, as the model does it and as the library's calls do.
-/

namespace Go.Proofs.Ytmoacmlkmclfoaa
set_option linter.unusedVariables false

/-- A name's bytes. -/
abbrev Nm := List UInt8

/-! ### what the library's calls compute -/
open Go.Lib in
/-! ### all distinct -/
end Go.Proofs.Ytmoacmlkmclfoaa
