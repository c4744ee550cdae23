/-
  DERIVED. GIVEN WITH THE SEED: THE CARDS: each row of YtgfdgeieojbgaabDoorRows.lean that lists a variable, with what it lists TIED to the program's text (the seventh form; the later family's looks); each row that meets fmt, with fmt's text TOLD by the authors' own Lean function (tested against real Go, not proved from fmt's source: count such statements apart). THE CARD IS WHAT COUNTS. Prove the row's statement (the work); the ties are given (YtgfdgeieojbgaabDoorTie.lean); close each card by the builder's one call (the guide's Derived/Test/ToyasCard.lean, 'card_holds'). Laid BY PROGRAM, IN A SANDBOX (cutbox-door.mjs). By AI agents, Wed Nov 11 2026. No macro, syntax, notation, axiom, sorry.
-/
import Derived.Test.YtgfdgeieojbgaabDoorRows
import GoSem.ClaimSeven
namespace Go.Proofs.YtgfdgeieojbgaabDoor
namespace Rows

/-- THE TIED CARD OF 'laws.FnExactUtfOk'. -/
def fnExactUtfOkCard : Claim7 := { stood := { row := fnExactUtfOkRow, standIns := [], harness := (true, "ff84be28795747ce869f4c8ff724383149cd473f02a1526c65809b08837b836f"), looks := false }, kinds := [], alts := [], laidByText := true, laidKinds := [.data, .pinned], laidTests := true, laidLooks := .later }
def FnExactUtfOkCardSaid : Prop := Claim7.holds Tryd.pinned (.plain (OpenSpec.ofChange fnExactUtfOkSpec)) fnExactUtfOkCard

/-- THE SECOND FORM's CARD OF 'laws.FnExactUtfOk'. -/
def fnExactUtfOkUptoCard : Claim7 := { stood := { row := fnExactUtfOkUptoRow, standIns := [], harness := (true, "ff84be28795747ce869f4c8ff724383149cd473f02a1526c65809b08837b836f"), looks := false }, kinds := [], alts := [], laidByText := true, laidKinds := [.data, .pinned], laidTests := true, laidLooks := .later }
def FnExactUtfOkUptoCardSaid : Prop := Claim7.holds Tryd.pinned (.plain (OpenSpec.upto fnExactUtfOkSpec)) fnExactUtfOkUptoCard
end Rows
end Go.Proofs.YtgfdgeieojbgaabDoor
