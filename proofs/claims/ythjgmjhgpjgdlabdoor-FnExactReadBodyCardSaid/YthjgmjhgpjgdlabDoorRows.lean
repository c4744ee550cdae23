/-
  NARROWER THAN 'FOR EVERY INPUT', by the rows' own cells (each row's printed sentence says how): FnExactBodyBytes: laid · FnExactReadBody: laid.
  DERIVED. THE GIVEN ROWS OF THIS SEAT. 2 by the template 'for every input the law returns true; each argument reads behind the call as it read before'; 0 by the template 'total and deterministic' (their statements: YthjgmjhgpjgdlabDoorTotals.lean).
  GIVEN WITH THE SEED: the statements are not yours to turn. If you find one false, say at which input.
  Laid BY PROGRAM, IN A SANDBOX (cutbox-rows.mjs): the forced cells as the released guide's own fill.sh prints them over the translation 2926a19e6afbcd63… (all of the seat's roots in one cut). By AI agents, Wed Nov 11 2026. No macro, syntax, notation, axiom, sorry.
-/
import Derived.Test.YthjgmjhgpjgdlabDoorChecked
import GoSem.Claim
import GoSem.ClaimJoined
import GoSem.ClaimMapViews
import Derived.JoinedTies
import Derived.KernelRfl
namespace Go.Proofs.YthjgmjhgpjgdlabDoor
/- THE CELL 'sum', in the pinned program and in every row, IS THE sha256 OF THE DUMP (.gsa) THAT YthjgmjhgpjgdlabDoorProg.lean LOADS. Nothing in Lean hashes anything: it is a label: what it is worth is what the hold of that sum in a sandbox is worth. -/
noncomputable def Tryd.pinned : Pinned := { name := "ythjgmjhgpjgdlabdoor", sum := "2926a19e6afbcd638d427adb0406b9e27056d3cbeaf5474629b273a9038a325a", checked := Tryd.checked }
namespace Rows
def none {H : Type} : Left H := { results := [], args := [] }

/- WHAT THE LISTED PACKAGE-LEVEL VARIABLES READ AS WHEN THE CALL BEGINS. Each datum BY PROGRAM (the guide's laid-datum.mjs) off the statement by which the dump's own 'gosem.cut.vars' lays the variable. In a bare row this is a premise. The card (YthjgmjhgpjgdlabDoorCards.lean) ties it to the program's text. -/
def laid_loop_example_g00472_impl_opNames {H : Type} : DataW H := .agg [.lit (.string [117, 110, 114, 101, 97, 99, 104, 97, 98, 108, 101]), .lit (.string [110, 111, 112]), .lit (.string [98, 108, 111, 99, 107]), .lit (.string [108, 111, 111, 112]), .lit (.string [105, 102]), .lit (.string [101, 108, 115, 101]), .lit (.string []), .lit (.string []), .lit (.string []), .lit (.string []), .lit (.string []), .lit (.string [101, 110, 100]), .lit (.string [98, 114]), .lit (.string [98, 114, 95, 105, 102]), .lit (.string []), .lit (.string [114, 101, 116, 117, 114, 110]), .lit (.string [99, 97, 108, 108]), .lit (.string []), .lit (.string []), .lit (.string []), .lit (.string []), .lit (.string []), .lit (.string []), .lit (.string []), .lit (.string []), .lit (.string []), .lit (.string [100, 114, 111, 112]), .lit (.string [115, 101, 108, 101, 99, 116]), .lit (.string []), .lit (.string []), .lit (.string []), .lit (.string []), .lit (.string [108, 111, 99, 97, 108, 46, 103, 101, 116]), .lit (.string [108, 111, 99, 97, 108, 46, 115, 101, 116]), .lit (.string [108, 111, 99, 97, 108, 46, 116, 101, 101]), .lit (.string [103, 108, 111, 98, 97, 108, 46, 103, 101, 116]), .lit (.string [103, 108, 111, 98, 97, 108, 46, 115, 101, 116]), .lit (.string []), .lit (.string []), .lit (.string []), .lit (.string [105, 51, 50, 46, 108, 111, 97, 100]), .lit (.string []), .lit (.string []), .lit (.string []), .lit (.string []), .lit (.string []), .lit (.string []), .lit (.string []), .lit (.string []), .lit (.string []), .lit (.string []), .lit (.string []), .lit (.string []), .lit (.string []), .lit (.string [105, 51, 50, 46, 115, 116, 111, 114, 101]), .lit (.string []), .lit (.string []), .lit (.string []), .lit (.string []), .lit (.string []), .lit (.string []), .lit (.string []), .lit (.string []), .lit (.string [109, 101, 109, 111, 114, 121, 46, 115, 105, 122, 101]), .lit (.string [109, 101, 109, 111, 114, 121, 46, 103, 114, 111, 119]), .lit (.string [105, 51, 50, 46, 99, 111, 110, 115, 116]), .lit (.string []), .lit (.string []), .lit (.string []), .lit (.string [105, 51, 50, 46, 101, 113, 122]), .lit (.string [105, 51, 50, 46, 101, 113]), .lit (.string [105, 51, 50, 46, 110, 101]), .lit (.string [105, 51, 50, 46, 108, 116, 95, 115]), .lit (.string [105, 51, 50, 46, 108, 116, 95, 117]), .lit (.string [105, 51, 50, 46, 103, 116, 95, 115]), .lit (.string [105, 51, 50, 46, 103, 116, 95, 117]), .lit (.string [105, 51, 50, 46, 108, 101, 95, 115]), .lit (.string [105, 51, 50, 46, 108, 101, 95, 117]), .lit (.string [105, 51, 50, 46, 103, 101, 95, 115]), .lit (.string [105, 51, 50, 46, 103, 101, 95, 117]), .lit (.string []), .lit (.string []), .lit (.string []), .lit (.string []), .lit (.string []), .lit (.string []), .lit (.string []), .lit (.string []), .lit (.string []), .lit (.string []), .lit (.string []), .lit (.string []), .lit (.string []), .lit (.string []), .lit (.string []), .lit (.string []), .lit (.string []), .lit (.string []), .lit (.string []), .lit (.string []), .lit (.string []), .lit (.string []), .lit (.string []), .lit (.string [105, 51, 50, 46, 99, 108, 122]), .lit (.string [105, 51, 50, 46, 99, 116, 122]), .lit (.string [105, 51, 50, 46, 112, 111, 112, 99, 110, 116]), .lit (.string [105, 51, 50, 46, 97, 100, 100]), .lit (.string [105, 51, 50, 46, 115, 117, 98]), .lit (.string [105, 51, 50, 46, 109, 117, 108]), .lit (.string [105, 51, 50, 46, 100, 105, 118, 95, 115]), .lit (.string [105, 51, 50, 46, 100, 105, 118, 95, 117]), .lit (.string [105, 51, 50, 46, 114, 101, 109, 95, 115]), .lit (.string [105, 51, 50, 46, 114, 101, 109, 95, 117]), .lit (.string [105, 51, 50, 46, 97, 110, 100]), .lit (.string [105, 51, 50, 46, 111, 114]), .lit (.string [105, 51, 50, 46, 120, 111, 114]), .lit (.string [105, 51, 50, 46, 115, 104, 108]), .lit (.string [105, 51, 50, 46, 115, 104, 114, 95, 115]), .lit (.string [105, 51, 50, 46, 115, 104, 114, 95, 117]), .lit (.string [105, 51, 50, 46, 114, 111, 116, 108]), .lit (.string [105, 51, 50, 46, 114, 111, 116, 114])]

/-- 'laws.FnExactBodyBytes': WHATEVER THE INPUT: true; the input reads as it did. -/
def fnExactBodyBytesSpec : ChangeSpec := { name := "fnExactBodyBytes", vars := ["loop.example/g00472/impl.opNames"], fn := fun _ => fun
  | [d, g1] => { results := [.lit (.bool true)], args := [d], vars := [g1] }
  | _ => none }
def fnExactBodyBytesRow : OpenClaim := { program := "ythjgmjhgpjgdlabdoor", sum := "2926a19e6afbcd638d427adb0406b9e27056d3cbeaf5474629b273a9038a325a", func := "loop.example/g00472/laws.FnExactBodyBytes", spec := "fnExactBodyBytes", unfollowed := true, recurses := true, named := ["loop.example/g00472/impl.opNames"], apart := false, laid := [("loop.example/g00472/impl.opNames", laid_loop_example_g00472_impl_opNames)] }
def FnExactBodyBytesSaid : Prop := fnExactBodyBytesRow.holds Tryd.pinned (OpenSpec.ofChange fnExactBodyBytesSpec)

/-- ITS FALSE NEIGHBOUR: 'it returns false'. Refute it at one input. -/
def fnExactBodyBytesWrong : ChangeSpec := { name := "fnExactBodyBytes", vars := ["loop.example/g00472/impl.opNames"], fn := fun _ => fun
  | [d, g1] => { results := [.lit (.bool false)], args := [d], vars := [g1] }
  | _ => none }
def FnExactBodyBytesWrongFalsely : Prop := fnExactBodyBytesRow.holds Tryd.pinned (OpenSpec.ofChange fnExactBodyBytesWrong)

/-- 'laws.FnExactReadBody': WHATEVER THE INPUT: true; the input reads as it did. -/
def fnExactReadBodySpec : ChangeSpec := { name := "fnExactReadBody", vars := ["loop.example/g00472/impl.opNames"], fn := fun _ => fun
  | [d, g1] => { results := [.lit (.bool true)], args := [d], vars := [g1] }
  | _ => none }
def fnExactReadBodyRow : OpenClaim := { program := "ythjgmjhgpjgdlabdoor", sum := "2926a19e6afbcd638d427adb0406b9e27056d3cbeaf5474629b273a9038a325a", func := "loop.example/g00472/laws.FnExactReadBody", spec := "fnExactReadBody", inPlace := ["internal/bytealg.IndexByte"], unfollowed := true, recurses := true, named := ["loop.example/g00472/impl.opNames"], apart := false, laid := [("loop.example/g00472/impl.opNames", laid_loop_example_g00472_impl_opNames)] }
def FnExactReadBodySaid : Prop := fnExactReadBodyRow.holds Tryd.pinned (OpenSpec.ofChange fnExactReadBodySpec)

/-- ITS FALSE NEIGHBOUR: 'it returns false'. Refute it at one input. -/
def fnExactReadBodyWrong : ChangeSpec := { name := "fnExactReadBody", vars := ["loop.example/g00472/impl.opNames"], fn := fun _ => fun
  | [d, g1] => { results := [.lit (.bool false)], args := [d], vars := [g1] }
  | _ => none }
def FnExactReadBodyWrongFalsely : Prop := fnExactReadBodyRow.holds Tryd.pinned (OpenSpec.ofChange fnExactReadBodyWrong)

/- THE SECOND FORM. 'bulk': how many values and letters a reading holds, each counted each time it is reached (what is shared counts as often as it is met; a slice's spare places count too). A statement '..UptoSaid' is the law's where the arguments, and the package variables that the reading takes, are together of bulk at most 1048576: NARROWER than '..Said'. Prove '..Said' where nothing that the law and all that it calls make is longer than what came in: it says more and counts as full. Else prove '..UptoSaid'. A law counts once. -/
mutual
def uptoBulk {H : Type} : DataW H → Nat
  | .lit (.string bytes) => bytes.length + 1
  | .lit _ => 1
  | .nil => 1
  | .ptr d => uptoBulk d + 1
  | .slice elems spare => uptoBulkAll elems + uptoBulkAll spare + 1
  | .agg parts => uptoBulkAll parts + 1
  | .iface _ d => uptoBulk d + 1
  | .map entries => uptoBulkEntries entries + 1
  | .held _ => 1
def uptoBulkAll {H : Type} : List (DataW H) → Nat
  | [] => 0
  | d :: r => uptoBulk d + uptoBulkAll r
def uptoBulkEntries {H : Type} : List (Lit × DataW H) → Nat
  | [] => 0
  | x :: r => uptoBulkEntry x + uptoBulkEntries r
def uptoBulkEntry {H : Type} : Lit × DataW H → Nat
  | (.string bytes, d) => bytes.length + uptoBulk d + 1
  | (_, d) => uptoBulk d + 1
 end
def uptoSmall : (H : Type) → List (DataW H) → Bool := fun _ ds => decide (uptoBulkAll ds ≤ 1048576)
def OpenSpec.upto (s : _root_.Go.ChangeSpec) : _root_.Go.OpenSpec := { _root_.Go.OpenSpec.ofChange s with cond := some uptoSmall }

/-- 'laws.FnExactBodyBytes', WHERE WHAT IT READS IS OF BULK AT MOST 1048576: true; the input reads as it did. -/
def fnExactBodyBytesUptoRow : OpenClaim := { program := "ythjgmjhgpjgdlabdoor", sum := "2926a19e6afbcd638d427adb0406b9e27056d3cbeaf5474629b273a9038a325a", func := "loop.example/g00472/laws.FnExactBodyBytes", spec := "fnExactBodyBytes", unfollowed := true, recurses := true, named := ["loop.example/g00472/impl.opNames"], apart := false, laid := [("loop.example/g00472/impl.opNames", laid_loop_example_g00472_impl_opNames)], narrowed := true }
def FnExactBodyBytesUptoSaid : Prop := fnExactBodyBytesUptoRow.holds Tryd.pinned (OpenSpec.upto fnExactBodyBytesSpec)

/-- 'laws.FnExactReadBody', WHERE WHAT IT READS IS OF BULK AT MOST 1048576: true; the input reads as it did. -/
def fnExactReadBodyUptoRow : OpenClaim := { program := "ythjgmjhgpjgdlabdoor", sum := "2926a19e6afbcd638d427adb0406b9e27056d3cbeaf5474629b273a9038a325a", func := "loop.example/g00472/laws.FnExactReadBody", spec := "fnExactReadBody", inPlace := ["internal/bytealg.IndexByte"], unfollowed := true, recurses := true, named := ["loop.example/g00472/impl.opNames"], apart := false, laid := [("loop.example/g00472/impl.opNames", laid_loop_example_g00472_impl_opNames)], narrowed := true }
def FnExactReadBodyUptoSaid : Prop := fnExactReadBodyUptoRow.holds Tryd.pinned (OpenSpec.upto fnExactReadBodySpec)

end Rows
end Go.Proofs.YthjgmjhgpjgdlabDoor
