/-
  What the functions of numbers of 32 bits answer when they are called, one contract a function: the specification's and the program's.
-/
import Derived.Test.YtojhfpbikmbhfaaRows
import Derived.Test.YtojhfpbikmbhfaaPlainNum
import Derived.WalkKit
import Derived.ProofKit
import Derived.OpenShut
import Derived.Handy
namespace Go.Proofs.Ytojhfpbikmbhfaa.NumCalls
open Go.RowKit PlainNum
end Go.Proofs.Ytojhfpbikmbhfaa.NumCalls
