/-
  DERIVED. GIVEN WITH THE SEED: THE CARDS: each row of YthjgmjhgpjgdlabDoorRows.lean that lists a variable, with what it lists TIED to the program's text (the seventh form; the later family's looks); each row that meets fmt, with fmt's text TOLD by the authors' own Lean function (tested against real Go, not proved from fmt's source: count such statements apart). THE CARD IS WHAT COUNTS. Prove the row's statement (the work); the ties are given (YthjgmjhgpjgdlabDoorTie.lean); close each card by the builder's one call (the guide's Derived/Test/ToyasCard.lean, 'card_holds'). Laid BY PROGRAM, IN A SANDBOX (cutbox-door.mjs). By AI agents, Wed Nov 11 2026. No macro, syntax, notation, axiom, sorry.
-/
import Derived.Test.YthjgmjhgpjgdlabDoorRows
import GoSem.ClaimSeven
namespace Go.Proofs.YthjgmjhgpjgdlabDoor
namespace Rows

/-- THE TIED CARD OF 'laws.FnExactBodyBytes'. -/
def fnExactBodyBytesCard : Claim7 := { stood := { row := fnExactBodyBytesRow, standIns := [], harness := (true, "622aeea1e96e32e502d78bb759bf58721f3bc5b69b89a173b415b7de72319d6d"), looks := true }, kinds := [], alts := [], laidByText := true, laidKinds := [.data], laidTests := true, laidLooks := .later }
def FnExactBodyBytesCardSaid : Prop := Claim7.holds Tryd.pinned (.plain (OpenSpec.ofChange fnExactBodyBytesSpec)) fnExactBodyBytesCard

/-- THE TIED CARD OF 'laws.FnExactReadBody'. -/
def fnExactReadBodyCard : Claim7 := { stood := { row := fnExactReadBodyRow, standIns := [], harness := (true, "622aeea1e96e32e502d78bb759bf58721f3bc5b69b89a173b415b7de72319d6d"), looks := true }, kinds := [], alts := [], laidByText := true, laidKinds := [.data], laidTests := true, laidLooks := .later }
def FnExactReadBodyCardSaid : Prop := Claim7.holds Tryd.pinned (.plain (OpenSpec.ofChange fnExactReadBodySpec)) fnExactReadBodyCard

/-- THE SECOND FORM's CARD OF 'laws.FnExactBodyBytes'. -/
def fnExactBodyBytesUptoCard : Claim7 := { stood := { row := fnExactBodyBytesUptoRow, standIns := [], harness := (true, "622aeea1e96e32e502d78bb759bf58721f3bc5b69b89a173b415b7de72319d6d"), looks := true }, kinds := [], alts := [], laidByText := true, laidKinds := [.data], laidTests := true, laidLooks := .later }
def FnExactBodyBytesUptoCardSaid : Prop := Claim7.holds Tryd.pinned (.plain (OpenSpec.upto fnExactBodyBytesSpec)) fnExactBodyBytesUptoCard

/-- THE SECOND FORM's CARD OF 'laws.FnExactReadBody'. -/
def fnExactReadBodyUptoCard : Claim7 := { stood := { row := fnExactReadBodyUptoRow, standIns := [], harness := (true, "622aeea1e96e32e502d78bb759bf58721f3bc5b69b89a173b415b7de72319d6d"), looks := true }, kinds := [], alts := [], laidByText := true, laidKinds := [.data], laidTests := true, laidLooks := .later }
def FnExactReadBodyUptoCardSaid : Prop := Claim7.holds Tryd.pinned (.plain (OpenSpec.upto fnExactReadBodySpec)) fnExactReadBodyUptoCard
end Rows
end Go.Proofs.YthjgmjhgpjgdlabDoor
