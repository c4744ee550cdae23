/-
  No cell of these rows narrows 'for every input' (looked for: loops, veiled, ifaces, maps, wideKeys, modest, calm, conditions, laid).
  DERIVED. THE GIVEN ROWS OF THIS SEAT. 6 by the template 'for every input the law returns true; each argument reads behind the call as it read before'; 0 by the template 'total and deterministic' (their statements: YtnpjcgmfmfhgdajTotals.lean).
  GIVEN WITH THE SEED: the statements are not yours to turn. If you find one false, say at which input.
  Laid BY PROGRAM, IN A SANDBOX (cutbox-rows.mjs): the forced cells as the released guide's own fill.sh prints them over the translation d151928fb3a0da85… (all of the seat's roots in one cut). By AI agents, Wed Nov 11 2026. No macro, syntax, notation, axiom, sorry.
-/
import Derived.Test.YtnpjcgmfmfhgdajChecked
import GoSem.Claim
import GoSem.ClaimJoined
import GoSem.ClaimMapViews
import Derived.JoinedTies
import Derived.KernelRfl
namespace Go.Proofs.Ytnpjcgmfmfhgdaj
/- THE CELL 'sum', in the pinned program and in every row, IS THE sha256 OF THE DUMP (.gsa) THAT YtnpjcgmfmfhgdajProg.lean LOADS. Nothing in Lean hashes anything: it is a label: what it is worth is what the hold of that sum in a sandbox is worth. -/
noncomputable def Try.pinned : Pinned := { name := "ytnpjcgmfmfhgdaj", sum := "d151928fb3a0da85e01013549661a6d366035166b4342a1c659b7d1b15559bce", checked := Try.checked }
namespace Rows
def none {H : Type} : Left H := { results := [], args := [] }

/-- 'laws.FnExactDivS': WHATEVER THE INPUT: true; the input reads as it did. -/
def fnExactDivSSpec : ChangeSpec := { name := "fnExactDivS", fn := fun _ => fun
  | [d1, d2] => { results := [.lit (.bool true)], args := [d1, d2] }
  | _ => none }
def fnExactDivSRow : OpenClaim := { program := "ytnpjcgmfmfhgdaj", sum := "d151928fb3a0da85e01013549661a6d366035166b4342a1c659b7d1b15559bce", func := "loop.example/g00472/laws.FnExactDivS", spec := "fnExactDivS", apart := false }
def FnExactDivSSaid : Prop := fnExactDivSRow.holds Try.pinned (OpenSpec.ofChange fnExactDivSSpec)

/-- ITS FALSE NEIGHBOUR: 'it returns false'. Refute it at one input. -/
def fnExactDivSWrong : ChangeSpec := { name := "fnExactDivS", fn := fun _ => fun
  | [d1, d2] => { results := [.lit (.bool false)], args := [d1, d2] }
  | _ => none }
def FnExactDivSWrongFalsely : Prop := fnExactDivSRow.holds Try.pinned (OpenSpec.ofChange fnExactDivSWrong)

/-- 'laws.FnExactRemS': WHATEVER THE INPUT: true; the input reads as it did. -/
def fnExactRemSSpec : ChangeSpec := { name := "fnExactRemS", fn := fun _ => fun
  | [d1, d2] => { results := [.lit (.bool true)], args := [d1, d2] }
  | _ => none }
def fnExactRemSRow : OpenClaim := { program := "ytnpjcgmfmfhgdaj", sum := "d151928fb3a0da85e01013549661a6d366035166b4342a1c659b7d1b15559bce", func := "loop.example/g00472/laws.FnExactRemS", spec := "fnExactRemS", apart := false }
def FnExactRemSSaid : Prop := fnExactRemSRow.holds Try.pinned (OpenSpec.ofChange fnExactRemSSpec)

/-- ITS FALSE NEIGHBOUR: 'it returns false'. Refute it at one input. -/
def fnExactRemSWrong : ChangeSpec := { name := "fnExactRemS", fn := fun _ => fun
  | [d1, d2] => { results := [.lit (.bool false)], args := [d1, d2] }
  | _ => none }
def FnExactRemSWrongFalsely : Prop := fnExactRemSRow.holds Try.pinned (OpenSpec.ofChange fnExactRemSWrong)

/-- 'laws.FnExactDivU': WHATEVER THE INPUT: true; the input reads as it did. -/
def fnExactDivUSpec : ChangeSpec := { name := "fnExactDivU", fn := fun _ => fun
  | [d1, d2] => { results := [.lit (.bool true)], args := [d1, d2] }
  | _ => none }
def fnExactDivURow : OpenClaim := { program := "ytnpjcgmfmfhgdaj", sum := "d151928fb3a0da85e01013549661a6d366035166b4342a1c659b7d1b15559bce", func := "loop.example/g00472/laws.FnExactDivU", spec := "fnExactDivU", apart := false }
def FnExactDivUSaid : Prop := fnExactDivURow.holds Try.pinned (OpenSpec.ofChange fnExactDivUSpec)

/-- ITS FALSE NEIGHBOUR: 'it returns false'. Refute it at one input. -/
def fnExactDivUWrong : ChangeSpec := { name := "fnExactDivU", fn := fun _ => fun
  | [d1, d2] => { results := [.lit (.bool false)], args := [d1, d2] }
  | _ => none }
def FnExactDivUWrongFalsely : Prop := fnExactDivURow.holds Try.pinned (OpenSpec.ofChange fnExactDivUWrong)

/-- 'laws.FnExactRemU': WHATEVER THE INPUT: true; the input reads as it did. -/
def fnExactRemUSpec : ChangeSpec := { name := "fnExactRemU", fn := fun _ => fun
  | [d1, d2] => { results := [.lit (.bool true)], args := [d1, d2] }
  | _ => none }
def fnExactRemURow : OpenClaim := { program := "ytnpjcgmfmfhgdaj", sum := "d151928fb3a0da85e01013549661a6d366035166b4342a1c659b7d1b15559bce", func := "loop.example/g00472/laws.FnExactRemU", spec := "fnExactRemU", apart := false }
def FnExactRemUSaid : Prop := fnExactRemURow.holds Try.pinned (OpenSpec.ofChange fnExactRemUSpec)

/-- ITS FALSE NEIGHBOUR: 'it returns false'. Refute it at one input. -/
def fnExactRemUWrong : ChangeSpec := { name := "fnExactRemU", fn := fun _ => fun
  | [d1, d2] => { results := [.lit (.bool false)], args := [d1, d2] }
  | _ => none }
def FnExactRemUWrongFalsely : Prop := fnExactRemURow.holds Try.pinned (OpenSpec.ofChange fnExactRemUWrong)

/-- 'laws.FnExactBits': WHATEVER THE INPUT: true; the input reads as it did. -/
def fnExactBitsSpec : ChangeSpec := { name := "fnExactBits", fn := fun _ => fun
  | [d1, d2, d3] => { results := [.lit (.bool true)], args := [d1, d2, d3] }
  | _ => none }
def fnExactBitsRow : OpenClaim := { program := "ytnpjcgmfmfhgdaj", sum := "d151928fb3a0da85e01013549661a6d366035166b4342a1c659b7d1b15559bce", func := "loop.example/g00472/laws.FnExactBits", spec := "fnExactBits", apart := false }
def FnExactBitsSaid : Prop := fnExactBitsRow.holds Try.pinned (OpenSpec.ofChange fnExactBitsSpec)

/-- ITS FALSE NEIGHBOUR: 'it returns false'. Refute it at one input. -/
def fnExactBitsWrong : ChangeSpec := { name := "fnExactBits", fn := fun _ => fun
  | [d1, d2, d3] => { results := [.lit (.bool false)], args := [d1, d2, d3] }
  | _ => none }
def FnExactBitsWrongFalsely : Prop := fnExactBitsRow.holds Try.pinned (OpenSpec.ofChange fnExactBitsWrong)

/-- 'laws.FnExactCompare': WHATEVER THE INPUT: true; the input reads as it did. -/
def fnExactCompareSpec : ChangeSpec := { name := "fnExactCompare", fn := fun _ => fun
  | [d1, d2, d3] => { results := [.lit (.bool true)], args := [d1, d2, d3] }
  | _ => none }
def fnExactCompareRow : OpenClaim := { program := "ytnpjcgmfmfhgdaj", sum := "d151928fb3a0da85e01013549661a6d366035166b4342a1c659b7d1b15559bce", func := "loop.example/g00472/laws.FnExactCompare", spec := "fnExactCompare", apart := false }
def FnExactCompareSaid : Prop := fnExactCompareRow.holds Try.pinned (OpenSpec.ofChange fnExactCompareSpec)

/-- ITS FALSE NEIGHBOUR: 'it returns false'. Refute it at one input. -/
def fnExactCompareWrong : ChangeSpec := { name := "fnExactCompare", fn := fun _ => fun
  | [d1, d2, d3] => { results := [.lit (.bool false)], args := [d1, d2, d3] }
  | _ => none }
def FnExactCompareWrongFalsely : Prop := fnExactCompareRow.holds Try.pinned (OpenSpec.ofChange fnExactCompareWrong)

/- THE SECOND FORM. 'bulk': how many values and letters a reading holds, each counted each time it is reached (what is shared counts as often as it is met; a slice's spare places count too). A statement '..UptoSaid' is the law's where the arguments, and the package variables that the reading takes, are together of bulk at most 1048576: NARROWER than '..Said'. Prove '..Said' where nothing that the law and all that it calls make is longer than what came in: it says more and counts as full. Else prove '..UptoSaid'. A law counts once. -/
mutual
def uptoBulk {H : Type} : DataW H → Nat
  | .lit (.string bytes) => bytes.length + 1
  | .lit _ => 1
  | .nil => 1
  | .ptr d => uptoBulk d + 1
  | .slice elems spare => uptoBulkAll elems + uptoBulkAll spare + 1
  | .agg parts => uptoBulkAll parts + 1
  | .iface _ d => uptoBulk d + 1
  | .map entries => uptoBulkEntries entries + 1
  | .held _ => 1
def uptoBulkAll {H : Type} : List (DataW H) → Nat
  | [] => 0
  | d :: r => uptoBulk d + uptoBulkAll r
def uptoBulkEntries {H : Type} : List (Lit × DataW H) → Nat
  | [] => 0
  | x :: r => uptoBulkEntry x + uptoBulkEntries r
def uptoBulkEntry {H : Type} : Lit × DataW H → Nat
  | (.string bytes, d) => bytes.length + uptoBulk d + 1
  | (_, d) => uptoBulk d + 1
 end
def uptoSmall : (H : Type) → List (DataW H) → Bool := fun _ ds => decide (uptoBulkAll ds ≤ 1048576)
def OpenSpec.upto (s : _root_.Go.ChangeSpec) : _root_.Go.OpenSpec := { _root_.Go.OpenSpec.ofChange s with cond := some uptoSmall }

/-- 'laws.FnExactDivS', WHERE WHAT IT READS IS OF BULK AT MOST 1048576: true; the input reads as it did. -/
def fnExactDivSUptoRow : OpenClaim := { program := "ytnpjcgmfmfhgdaj", sum := "d151928fb3a0da85e01013549661a6d366035166b4342a1c659b7d1b15559bce", func := "loop.example/g00472/laws.FnExactDivS", spec := "fnExactDivS", apart := false, narrowed := true }
def FnExactDivSUptoSaid : Prop := fnExactDivSUptoRow.holds Try.pinned (OpenSpec.upto fnExactDivSSpec)

/-- 'laws.FnExactRemS', WHERE WHAT IT READS IS OF BULK AT MOST 1048576: true; the input reads as it did. -/
def fnExactRemSUptoRow : OpenClaim := { program := "ytnpjcgmfmfhgdaj", sum := "d151928fb3a0da85e01013549661a6d366035166b4342a1c659b7d1b15559bce", func := "loop.example/g00472/laws.FnExactRemS", spec := "fnExactRemS", apart := false, narrowed := true }
def FnExactRemSUptoSaid : Prop := fnExactRemSUptoRow.holds Try.pinned (OpenSpec.upto fnExactRemSSpec)

/-- 'laws.FnExactDivU', WHERE WHAT IT READS IS OF BULK AT MOST 1048576: true; the input reads as it did. -/
def fnExactDivUUptoRow : OpenClaim := { program := "ytnpjcgmfmfhgdaj", sum := "d151928fb3a0da85e01013549661a6d366035166b4342a1c659b7d1b15559bce", func := "loop.example/g00472/laws.FnExactDivU", spec := "fnExactDivU", apart := false, narrowed := true }
def FnExactDivUUptoSaid : Prop := fnExactDivUUptoRow.holds Try.pinned (OpenSpec.upto fnExactDivUSpec)

/-- 'laws.FnExactRemU', WHERE WHAT IT READS IS OF BULK AT MOST 1048576: true; the input reads as it did. -/
def fnExactRemUUptoRow : OpenClaim := { program := "ytnpjcgmfmfhgdaj", sum := "d151928fb3a0da85e01013549661a6d366035166b4342a1c659b7d1b15559bce", func := "loop.example/g00472/laws.FnExactRemU", spec := "fnExactRemU", apart := false, narrowed := true }
def FnExactRemUUptoSaid : Prop := fnExactRemUUptoRow.holds Try.pinned (OpenSpec.upto fnExactRemUSpec)

/-- 'laws.FnExactBits', WHERE WHAT IT READS IS OF BULK AT MOST 1048576: true; the input reads as it did. -/
def fnExactBitsUptoRow : OpenClaim := { program := "ytnpjcgmfmfhgdaj", sum := "d151928fb3a0da85e01013549661a6d366035166b4342a1c659b7d1b15559bce", func := "loop.example/g00472/laws.FnExactBits", spec := "fnExactBits", apart := false, narrowed := true }
def FnExactBitsUptoSaid : Prop := fnExactBitsUptoRow.holds Try.pinned (OpenSpec.upto fnExactBitsSpec)

/-- 'laws.FnExactCompare', WHERE WHAT IT READS IS OF BULK AT MOST 1048576: true; the input reads as it did. -/
def fnExactCompareUptoRow : OpenClaim := { program := "ytnpjcgmfmfhgdaj", sum := "d151928fb3a0da85e01013549661a6d366035166b4342a1c659b7d1b15559bce", func := "loop.example/g00472/laws.FnExactCompare", spec := "fnExactCompare", apart := false, narrowed := true }
def FnExactCompareUptoSaid : Prop := fnExactCompareUptoRow.holds Try.pinned (OpenSpec.upto fnExactCompareSpec)

end Rows
end Go.Proofs.Ytnpjcgmfmfhgdaj
