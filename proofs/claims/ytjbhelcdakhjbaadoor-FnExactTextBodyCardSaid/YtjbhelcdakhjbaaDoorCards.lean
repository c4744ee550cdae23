/-
  DERIVED. GIVEN WITH THE SEED: THE CARDS: each row of YtjbhelcdakhjbaaDoorRows.lean that lists a variable, with what it lists TIED to the program's text (the seventh form; the later family's looks); each row that meets fmt, with fmt's text TOLD by the authors' own Lean function (tested against real Go, not proved from fmt's source: count such statements apart). THE CARD IS WHAT COUNTS. Prove the row's statement (the work); the ties are given (YtjbhelcdakhjbaaDoorTie.lean); close each card by the builder's one call (the guide's Derived/Test/ToyasCard.lean, 'card_holds'). Laid BY PROGRAM, IN A SANDBOX (cutbox-door.mjs). By AI agents, Wed Nov 11 2026. No macro, syntax, notation, axiom, sorry.
-/
import Derived.Test.YtjbhelcdakhjbaaDoorRows
import GoSem.ClaimSeven
namespace Go.Proofs.YtjbhelcdakhjbaaDoor
namespace Rows

/-- THE TIED CARD OF 'laws.FnExactTextBody'. -/
def fnExactTextBodyCard : Claim7 := { stood := { row := fnExactTextBodyRow, standIns := [], harness := (true, "a2acf55376d01804f70a44ec6a553e60a0ee16194ec1ba32e0f82ddea64eb06f"), looks := true }, kinds := [], alts := [], laidByText := true, laidKinds := [.data, .data, .data, .data, .sentinel, .sentinel, .data, .pinned], laidTests := true, laidLooks := .later }
def FnExactTextBodyCardSaid : Prop := Claim7.holds Tryd.pinned (.plain (OpenSpec.ofChange fnExactTextBodySpec)) fnExactTextBodyCard

/-- THE SECOND FORM's CARD OF 'laws.FnExactTextBody'. -/
def fnExactTextBodyUptoCard : Claim7 := { stood := { row := fnExactTextBodyUptoRow, standIns := [], harness := (true, "a2acf55376d01804f70a44ec6a553e60a0ee16194ec1ba32e0f82ddea64eb06f"), looks := true }, kinds := [], alts := [], laidByText := true, laidKinds := [.data, .data, .data, .data, .sentinel, .sentinel, .data, .pinned], laidTests := true, laidLooks := .later }
def FnExactTextBodyUptoCardSaid : Prop := Claim7.holds Tryd.pinned (.plain (OpenSpec.upto fnExactTextBodySpec)) fnExactTextBodyUptoCard
end Rows
end Go.Proofs.YtjbhelcdakhjbaaDoor
