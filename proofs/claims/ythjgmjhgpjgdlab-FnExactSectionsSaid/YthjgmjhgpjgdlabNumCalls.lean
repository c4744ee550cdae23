/-
  What the functions of numbers of 32 bits answer when they are called, one contract a function: the specification's and the program's.
-/
import Derived.Test.YthjgmjhgpjgdlabRows
import Derived.Test.YthjgmjhgpjgdlabPlainNum
import Derived.WalkKit
import Derived.ProofKit
import Derived.OpenShut
import Derived.Handy
namespace Go.Proofs.Ythjgmjhgpjgdlab.NumCalls
open Go.RowKit PlainNum
end Go.Proofs.Ythjgmjhgpjgdlab.NumCalls
