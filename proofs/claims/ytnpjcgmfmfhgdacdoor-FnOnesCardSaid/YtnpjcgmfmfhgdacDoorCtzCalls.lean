/-
  What Ctz of numbers of 32 bits answers when it is called: the specification's.
-/
import Derived.Test.YtnpjcgmfmfhgdacDoorNumCalls
import Derived.Test.YtnpjcgmfmfhgdacDoorPlainCtz
namespace Go.Proofs.YtnpjcgmfmfhgdacDoor.CtzCalls
open Go.RowKit PlainNum NumCalls PlainCtz
end Go.Proofs.YtnpjcgmfmfhgdacDoor.CtzCalls
