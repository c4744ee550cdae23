/-
  No cell of these rows narrows 'for every input' (looked for: loops, veiled, ifaces, maps, wideKeys, modest, calm, conditions, laid).
  DERIVED. THE GIVEN ROWS OF THIS SEAT. 6 by the template 'for every input the law returns true; each argument reads behind the call as it read before'; 0 by the template 'total and deterministic' (their statements: YtgfdgeieojbgaaaTotals.lean).
  GIVEN WITH THE SEED: the statements are not yours to turn. If you find one false, say at which input.
  Laid BY PROGRAM, IN A SANDBOX (cutbox-rows.mjs): the forced cells as the released guide's own fill.sh prints them over the translation cbc0b55decbcc86d… (all of the seat's roots in one cut). By AI agents, Wed Nov 11 2026. No macro, syntax, notation, axiom, sorry.
-/
import Derived.Test.YtgfdgeieojbgaaaChecked
import GoSem.Claim
import GoSem.ClaimJoined
import GoSem.ClaimMapViews
import Derived.JoinedTies
import Derived.KernelRfl
namespace Go.Proofs.Ytgfdgeieojbgaaa
/- THE CELL 'sum', in the pinned program and in every row, IS THE sha256 OF THE DUMP (.gsa) THAT YtgfdgeieojbgaaaProg.lean LOADS. Nothing in Lean hashes anything: it is a label: what it is worth is what the hold of that sum in a sandbox is worth. -/
noncomputable def Try.pinned : Pinned := { name := "ytgfdgeieojbgaaa", sum := "cbc0b55decbcc86d5f5a68021044ea7c15116e6b815422ce39dedcb90160e2b1", checked := Try.checked }
namespace Rows
def none {H : Type} : Left H := { results := [], args := [] }

/-- 'laws.FnLeb': WHATEVER THE INPUT: true; the input reads as it did. -/
def fnLebSpec : ChangeSpec := { name := "fnLeb", fn := fun _ => fun
  | [d] => { results := [.lit (.bool true)], args := [d] }
  | _ => none }
def fnLebRow : OpenClaim := { program := "ytgfdgeieojbgaaa", sum := "cbc0b55decbcc86d5f5a68021044ea7c15116e6b815422ce39dedcb90160e2b1", func := "loop.example/g00472/laws.FnLeb", spec := "fnLeb", unfollowed := true, recurses := true, apart := false }
def FnLebSaid : Prop := fnLebRow.holds Try.pinned (OpenSpec.ofChange fnLebSpec)

/-- ITS FALSE NEIGHBOUR: 'it returns false'. Refute it at one input. -/
def fnLebWrong : ChangeSpec := { name := "fnLeb", fn := fun _ => fun
  | [d] => { results := [.lit (.bool false)], args := [d] }
  | _ => none }
def FnLebWrongFalsely : Prop := fnLebRow.holds Try.pinned (OpenSpec.ofChange fnLebWrong)

/-- 'laws.FnPieces': WHATEVER THE INPUT: true; the input reads as it did. -/
def fnPiecesSpec : ChangeSpec := { name := "fnPieces", fn := fun _ => fun
  | [d] => { results := [.lit (.bool true)], args := [d] }
  | _ => none }
def fnPiecesRow : OpenClaim := { program := "ytgfdgeieojbgaaa", sum := "cbc0b55decbcc86d5f5a68021044ea7c15116e6b815422ce39dedcb90160e2b1", func := "loop.example/g00472/laws.FnPieces", spec := "fnPieces", unfollowed := true, recurses := true, apart := false }
def FnPiecesSaid : Prop := fnPiecesRow.holds Try.pinned (OpenSpec.ofChange fnPiecesSpec)

/-- ITS FALSE NEIGHBOUR: 'it returns false'. Refute it at one input. -/
def fnPiecesWrong : ChangeSpec := { name := "fnPieces", fn := fun _ => fun
  | [d] => { results := [.lit (.bool false)], args := [d] }
  | _ => none }
def FnPiecesWrongFalsely : Prop := fnPiecesRow.holds Try.pinned (OpenSpec.ofChange fnPiecesWrong)

/-- 'laws.FnExactPutU': WHATEVER THE INPUT: true; the input reads as it did. -/
def fnExactPutUSpec : ChangeSpec := { name := "fnExactPutU", fn := fun _ => fun
  | [d1, d2] => { results := [.lit (.bool true)], args := [d1, d2] }
  | _ => none }
def fnExactPutURow : OpenClaim := { program := "ytgfdgeieojbgaaa", sum := "cbc0b55decbcc86d5f5a68021044ea7c15116e6b815422ce39dedcb90160e2b1", func := "loop.example/g00472/laws.FnExactPutU", spec := "fnExactPutU", unfollowed := true, recurses := true, apart := false }
def FnExactPutUSaid : Prop := fnExactPutURow.holds Try.pinned (OpenSpec.ofChange fnExactPutUSpec)

/-- ITS FALSE NEIGHBOUR: 'it returns false'. Refute it at one input. -/
def fnExactPutUWrong : ChangeSpec := { name := "fnExactPutU", fn := fun _ => fun
  | [d1, d2] => { results := [.lit (.bool false)], args := [d1, d2] }
  | _ => none }
def FnExactPutUWrongFalsely : Prop := fnExactPutURow.holds Try.pinned (OpenSpec.ofChange fnExactPutUWrong)

/-- 'laws.FnExactPutS': WHATEVER THE INPUT: true; the input reads as it did. -/
def fnExactPutSSpec : ChangeSpec := { name := "fnExactPutS", fn := fun _ => fun
  | [d1, d2] => { results := [.lit (.bool true)], args := [d1, d2] }
  | _ => none }
def fnExactPutSRow : OpenClaim := { program := "ytgfdgeieojbgaaa", sum := "cbc0b55decbcc86d5f5a68021044ea7c15116e6b815422ce39dedcb90160e2b1", func := "loop.example/g00472/laws.FnExactPutS", spec := "fnExactPutS", unfollowed := true, recurses := true, apart := false }
def FnExactPutSSaid : Prop := fnExactPutSRow.holds Try.pinned (OpenSpec.ofChange fnExactPutSSpec)

/-- ITS FALSE NEIGHBOUR: 'it returns false'. Refute it at one input. -/
def fnExactPutSWrong : ChangeSpec := { name := "fnExactPutS", fn := fun _ => fun
  | [d1, d2] => { results := [.lit (.bool false)], args := [d1, d2] }
  | _ => none }
def FnExactPutSWrongFalsely : Prop := fnExactPutSRow.holds Try.pinned (OpenSpec.ofChange fnExactPutSWrong)

/-- 'laws.FnExactGetU': WHATEVER THE INPUT: true; the input reads as it did. -/
def fnExactGetUSpec : ChangeSpec := { name := "fnExactGetU", fn := fun _ => fun
  | [d1, d2] => { results := [.lit (.bool true)], args := [d1, d2] }
  | _ => none }
def fnExactGetURow : OpenClaim := { program := "ytgfdgeieojbgaaa", sum := "cbc0b55decbcc86d5f5a68021044ea7c15116e6b815422ce39dedcb90160e2b1", func := "loop.example/g00472/laws.FnExactGetU", spec := "fnExactGetU", unfollowed := true, recurses := true, apart := false }
def FnExactGetUSaid : Prop := fnExactGetURow.holds Try.pinned (OpenSpec.ofChange fnExactGetUSpec)

/-- ITS FALSE NEIGHBOUR: 'it returns false'. Refute it at one input. -/
def fnExactGetUWrong : ChangeSpec := { name := "fnExactGetU", fn := fun _ => fun
  | [d1, d2] => { results := [.lit (.bool false)], args := [d1, d2] }
  | _ => none }
def FnExactGetUWrongFalsely : Prop := fnExactGetURow.holds Try.pinned (OpenSpec.ofChange fnExactGetUWrong)

/-- 'laws.FnExactGetS': WHATEVER THE INPUT: true; the input reads as it did. -/
def fnExactGetSSpec : ChangeSpec := { name := "fnExactGetS", fn := fun _ => fun
  | [d1, d2] => { results := [.lit (.bool true)], args := [d1, d2] }
  | _ => none }
def fnExactGetSRow : OpenClaim := { program := "ytgfdgeieojbgaaa", sum := "cbc0b55decbcc86d5f5a68021044ea7c15116e6b815422ce39dedcb90160e2b1", func := "loop.example/g00472/laws.FnExactGetS", spec := "fnExactGetS", unfollowed := true, recurses := true, apart := false }
def FnExactGetSSaid : Prop := fnExactGetSRow.holds Try.pinned (OpenSpec.ofChange fnExactGetSSpec)

/-- ITS FALSE NEIGHBOUR: 'it returns false'. Refute it at one input. -/
def fnExactGetSWrong : ChangeSpec := { name := "fnExactGetS", fn := fun _ => fun
  | [d1, d2] => { results := [.lit (.bool false)], args := [d1, d2] }
  | _ => none }
def FnExactGetSWrongFalsely : Prop := fnExactGetSRow.holds Try.pinned (OpenSpec.ofChange fnExactGetSWrong)

/- THE SECOND FORM. 'bulk': how many values and letters a reading holds, each counted each time it is reached (what is shared counts as often as it is met; a slice's spare places count too). A statement '..UptoSaid' is the law's where the arguments, and the package variables that the reading takes, are together of bulk at most 1048576: NARROWER than '..Said'. Prove '..Said' where nothing that the law and all that it calls make is longer than what came in: it says more and counts as full. Else prove '..UptoSaid'. A law counts once. -/
mutual
def uptoBulk {H : Type} : DataW H → Nat
  | .lit (.string bytes) => bytes.length + 1
  | .lit _ => 1
  | .nil => 1
  | .ptr d => uptoBulk d + 1
  | .slice elems spare => uptoBulkAll elems + uptoBulkAll spare + 1
  | .agg parts => uptoBulkAll parts + 1
  | .iface _ d => uptoBulk d + 1
  | .map entries => uptoBulkEntries entries + 1
  | .held _ => 1
def uptoBulkAll {H : Type} : List (DataW H) → Nat
  | [] => 0
  | d :: r => uptoBulk d + uptoBulkAll r
def uptoBulkEntries {H : Type} : List (Lit × DataW H) → Nat
  | [] => 0
  | x :: r => uptoBulkEntry x + uptoBulkEntries r
def uptoBulkEntry {H : Type} : Lit × DataW H → Nat
  | (.string bytes, d) => bytes.length + uptoBulk d + 1
  | (_, d) => uptoBulk d + 1
 end
def uptoSmall : (H : Type) → List (DataW H) → Bool := fun _ ds => decide (uptoBulkAll ds ≤ 1048576)
def OpenSpec.upto (s : _root_.Go.ChangeSpec) : _root_.Go.OpenSpec := { _root_.Go.OpenSpec.ofChange s with cond := some uptoSmall }

/-- 'laws.FnLeb', WHERE WHAT IT READS IS OF BULK AT MOST 1048576: true; the input reads as it did. -/
def fnLebUptoRow : OpenClaim := { program := "ytgfdgeieojbgaaa", sum := "cbc0b55decbcc86d5f5a68021044ea7c15116e6b815422ce39dedcb90160e2b1", func := "loop.example/g00472/laws.FnLeb", spec := "fnLeb", unfollowed := true, recurses := true, apart := false, narrowed := true }
def FnLebUptoSaid : Prop := fnLebUptoRow.holds Try.pinned (OpenSpec.upto fnLebSpec)

/-- 'laws.FnPieces', WHERE WHAT IT READS IS OF BULK AT MOST 1048576: true; the input reads as it did. -/
def fnPiecesUptoRow : OpenClaim := { program := "ytgfdgeieojbgaaa", sum := "cbc0b55decbcc86d5f5a68021044ea7c15116e6b815422ce39dedcb90160e2b1", func := "loop.example/g00472/laws.FnPieces", spec := "fnPieces", unfollowed := true, recurses := true, apart := false, narrowed := true }
def FnPiecesUptoSaid : Prop := fnPiecesUptoRow.holds Try.pinned (OpenSpec.upto fnPiecesSpec)

/-- 'laws.FnExactPutU', WHERE WHAT IT READS IS OF BULK AT MOST 1048576: true; the input reads as it did. -/
def fnExactPutUUptoRow : OpenClaim := { program := "ytgfdgeieojbgaaa", sum := "cbc0b55decbcc86d5f5a68021044ea7c15116e6b815422ce39dedcb90160e2b1", func := "loop.example/g00472/laws.FnExactPutU", spec := "fnExactPutU", unfollowed := true, recurses := true, apart := false, narrowed := true }
def FnExactPutUUptoSaid : Prop := fnExactPutUUptoRow.holds Try.pinned (OpenSpec.upto fnExactPutUSpec)

/-- 'laws.FnExactPutS', WHERE WHAT IT READS IS OF BULK AT MOST 1048576: true; the input reads as it did. -/
def fnExactPutSUptoRow : OpenClaim := { program := "ytgfdgeieojbgaaa", sum := "cbc0b55decbcc86d5f5a68021044ea7c15116e6b815422ce39dedcb90160e2b1", func := "loop.example/g00472/laws.FnExactPutS", spec := "fnExactPutS", unfollowed := true, recurses := true, apart := false, narrowed := true }
def FnExactPutSUptoSaid : Prop := fnExactPutSUptoRow.holds Try.pinned (OpenSpec.upto fnExactPutSSpec)

/-- 'laws.FnExactGetU', WHERE WHAT IT READS IS OF BULK AT MOST 1048576: true; the input reads as it did. -/
def fnExactGetUUptoRow : OpenClaim := { program := "ytgfdgeieojbgaaa", sum := "cbc0b55decbcc86d5f5a68021044ea7c15116e6b815422ce39dedcb90160e2b1", func := "loop.example/g00472/laws.FnExactGetU", spec := "fnExactGetU", unfollowed := true, recurses := true, apart := false, narrowed := true }
def FnExactGetUUptoSaid : Prop := fnExactGetUUptoRow.holds Try.pinned (OpenSpec.upto fnExactGetUSpec)

/-- 'laws.FnExactGetS', WHERE WHAT IT READS IS OF BULK AT MOST 1048576: true; the input reads as it did. -/
def fnExactGetSUptoRow : OpenClaim := { program := "ytgfdgeieojbgaaa", sum := "cbc0b55decbcc86d5f5a68021044ea7c15116e6b815422ce39dedcb90160e2b1", func := "loop.example/g00472/laws.FnExactGetS", spec := "fnExactGetS", unfollowed := true, recurses := true, apart := false, narrowed := true }
def FnExactGetSUptoSaid : Prop := fnExactGetSUptoRow.holds Try.pinned (OpenSpec.upto fnExactGetSSpec)

end Rows
end Go.Proofs.Ytgfdgeieojbgaaa
