/-
  What the functions of numbers of 32 bits answer when they are called, one contract a function: the specification's and the program's.
-/
import Derived.Test.YtjelpchkeepmhaaRows
import Derived.Test.YtjelpchkeepmhaaPlainNum
import Derived.WalkKit
import Derived.ProofKit
import Derived.OpenShut
import Derived.Handy
namespace Go.Proofs.Ytjelpchkeepmhaa.NumCalls
open Go.RowKit PlainNum
end Go.Proofs.Ytjelpchkeepmhaa.NumCalls
