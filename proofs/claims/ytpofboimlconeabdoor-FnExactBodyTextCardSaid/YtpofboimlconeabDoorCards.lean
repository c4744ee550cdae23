/-
  DERIVED. GIVEN WITH THE SEED: THE CARDS: each row of YtpofboimlconeabDoorRows.lean that lists a variable, with what it lists TIED to the program's text (the seventh form; the later family's looks); each row that meets fmt, with fmt's text TOLD by the authors' own Lean function (tested against real Go, not proved from fmt's source: count such statements apart). THE CARD IS WHAT COUNTS. Prove the row's statement (the work); the ties are given (YtpofboimlconeabDoorTie.lean); close each card by the builder's one call (the guide's Derived/Test/ToyasCard.lean, 'card_holds'). Laid BY PROGRAM, IN A SANDBOX (cutbox-door.mjs). By AI agents, Wed Nov 11 2026. No macro, syntax, notation, axiom, sorry.
-/
import Derived.Test.YtpofboimlconeabDoorRows
import GoSem.ClaimSeven
namespace Go.Proofs.YtpofboimlconeabDoor
namespace Rows

/-- THE TIED CARD OF 'laws.FnExactFormOk'. -/
def fnExactFormOkCard : Claim7 := { stood := { row := fnExactFormOkRow, standIns := [], harness := (true, "be3cd47c23d5869667e61c8fda636a55df06da066d50246412a129f3e552f372"), looks := true }, kinds := [], alts := [], laidByText := true, laidKinds := [.data, .data, .pinned], laidTests := true, laidLooks := .later }
def FnExactFormOkCardSaid : Prop := Claim7.holds Tryd.pinned (.plain (OpenSpec.ofChange fnExactFormOkSpec)) fnExactFormOkCard

/-- THE TIED CARD OF 'laws.FnExactBodyText'. -/
def fnExactBodyTextCard : Claim7 := { stood := { row := fnExactBodyTextRow, standIns := [], harness := (true, "be3cd47c23d5869667e61c8fda636a55df06da066d50246412a129f3e552f372"), looks := true }, kinds := [], alts := [], laidByText := true, laidKinds := [.data, .data, .data, .data], laidTests := true, laidLooks := .later }
def FnExactBodyTextCardSaid : Prop := Claim7.holds Tryd.pinned (.plain (OpenSpec.ofChange fnExactBodyTextSpec)) fnExactBodyTextCard

/-- THE TIED CARD OF 'laws.FnExactTextBody'. -/
def fnExactTextBodyCard : Claim7 := { stood := { row := fnExactTextBodyRow, standIns := [], harness := (true, "be3cd47c23d5869667e61c8fda636a55df06da066d50246412a129f3e552f372"), looks := true }, kinds := [], alts := [], laidByText := true, laidKinds := [.data, .data, .data, .data, .sentinel, .sentinel, .data, .pinned], laidTests := true, laidLooks := .later }
def FnExactTextBodyCardSaid : Prop := Claim7.holds Tryd.pinned (.plain (OpenSpec.ofChange fnExactTextBodySpec)) fnExactTextBodyCard

/-- THE SECOND FORM's CARD OF 'laws.FnExactFormOk'. -/
def fnExactFormOkUptoCard : Claim7 := { stood := { row := fnExactFormOkUptoRow, standIns := [], harness := (true, "be3cd47c23d5869667e61c8fda636a55df06da066d50246412a129f3e552f372"), looks := true }, kinds := [], alts := [], laidByText := true, laidKinds := [.data, .data, .pinned], laidTests := true, laidLooks := .later }
def FnExactFormOkUptoCardSaid : Prop := Claim7.holds Tryd.pinned (.plain (OpenSpec.upto fnExactFormOkSpec)) fnExactFormOkUptoCard

/-- THE SECOND FORM's CARD OF 'laws.FnExactBodyText'. -/
def fnExactBodyTextUptoCard : Claim7 := { stood := { row := fnExactBodyTextUptoRow, standIns := [], harness := (true, "be3cd47c23d5869667e61c8fda636a55df06da066d50246412a129f3e552f372"), looks := true }, kinds := [], alts := [], laidByText := true, laidKinds := [.data, .data, .data, .data], laidTests := true, laidLooks := .later }
def FnExactBodyTextUptoCardSaid : Prop := Claim7.holds Tryd.pinned (.plain (OpenSpec.upto fnExactBodyTextSpec)) fnExactBodyTextUptoCard

/-- THE SECOND FORM's CARD OF 'laws.FnExactTextBody'. -/
def fnExactTextBodyUptoCard : Claim7 := { stood := { row := fnExactTextBodyUptoRow, standIns := [], harness := (true, "be3cd47c23d5869667e61c8fda636a55df06da066d50246412a129f3e552f372"), looks := true }, kinds := [], alts := [], laidByText := true, laidKinds := [.data, .data, .data, .data, .sentinel, .sentinel, .data, .pinned], laidTests := true, laidLooks := .later }
def FnExactTextBodyUptoCardSaid : Prop := Claim7.holds Tryd.pinned (.plain (OpenSpec.upto fnExactTextBodySpec)) fnExactTextBodyUptoCard
end Rows
end Go.Proofs.YtpofboimlconeabDoor
