/-
  DERIVED. GIVEN WITH THE SEED: THE CARDS: each row of YtajlkdidjelpeaaDoorRows.lean that lists a variable, with what it lists TIED to the program's text (the seventh form; the later family's looks); each row that meets fmt, with fmt's text TOLD by the authors' own Lean function (tested against real Go, not proved from fmt's source: count such statements apart). THE CARD IS WHAT COUNTS. Prove the row's statement (the work); the ties are given (YtajlkdidjelpeaaDoorTie.lean); close each card by the builder's one call (the guide's Derived/Test/ToyasCard.lean, 'card_holds'). Laid BY PROGRAM, IN A SANDBOX (cutbox-door.mjs). By AI agents, Wed Nov 11 2026. No macro, syntax, notation, axiom, sorry.
-/
import Derived.Test.YtajlkdidjelpeaaDoorRows
import GoSem.ClaimSeven
namespace Go.Proofs.YtajlkdidjelpeaaDoor
namespace Rows

/-- THE TIED CARD OF 'laws.FnExactSigOf'. -/
def fnExactSigOfCard : Claim7 := { stood := { row := fnExactSigOfRow, standIns := [], harness := (true, "2d36978597ebb376916b216ff137c231be67b59a06dc2212662d7bcc8acc81c9"), looks := false }, kinds := [], alts := [], laidByText := true, laidKinds := [.data, .data, .pinned], laidTests := true, laidLooks := .later }
def FnExactSigOfCardSaid : Prop := Claim7.holds Tryd.pinned (.plain (OpenSpec.ofChange fnExactSigOfSpec)) fnExactSigOfCard

/-- THE SECOND FORM's CARD OF 'laws.FnExactSigOf'. -/
def fnExactSigOfUptoCard : Claim7 := { stood := { row := fnExactSigOfUptoRow, standIns := [], harness := (true, "2d36978597ebb376916b216ff137c231be67b59a06dc2212662d7bcc8acc81c9"), looks := false }, kinds := [], alts := [], laidByText := true, laidKinds := [.data, .data, .pinned], laidTests := true, laidLooks := .later }
def FnExactSigOfUptoCardSaid : Prop := Claim7.holds Tryd.pinned (.plain (OpenSpec.upto fnExactSigOfSpec)) fnExactSigOfUptoCard
end Rows
end Go.Proofs.YtajlkdidjelpeaaDoor
