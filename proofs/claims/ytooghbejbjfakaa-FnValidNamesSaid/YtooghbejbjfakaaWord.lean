/-
  Which texts have the form of a name (in Lead), beside what is reserved.
-/
import Derived.Test.YtooghbejbjfakaaReserved
import Derived.Test.YtooghbejbjfakaaLead
