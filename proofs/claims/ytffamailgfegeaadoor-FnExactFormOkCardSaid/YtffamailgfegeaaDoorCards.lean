/-
  DERIVED. GIVEN WITH THE SEED: THE CARDS: each row of YtffamailgfegeaaDoorRows.lean that lists a variable, with what it lists TIED to the program's text (the seventh form; the later family's looks); each row that meets fmt, with fmt's text TOLD by the authors' own Lean function (tested against real Go, not proved from fmt's source: count such statements apart). THE CARD IS WHAT COUNTS. Prove the row's statement (the work); the ties are given (YtffamailgfegeaaDoorTie.lean); close each card by the builder's one call (the guide's Derived/Test/ToyasCard.lean, 'card_holds'). Laid BY PROGRAM, IN A SANDBOX (cutbox-door.mjs). By AI agents, Wed Nov 11 2026. No macro, syntax, notation, axiom, sorry.
-/
import Derived.Test.YtffamailgfegeaaDoorRows
import GoSem.ClaimSeven
namespace Go.Proofs.YtffamailgfegeaaDoor
namespace Rows

/-- THE TIED CARD OF 'laws.FnExactFormOk'. -/
def fnExactFormOkCard : Claim7 := { stood := { row := fnExactFormOkRow, standIns := [], harness := (true, "51810924bb10ee0846cf1127c1d767d2475f46215879cce8c294ba2ab3e5c1aa"), looks := false }, kinds := [], alts := [], laidByText := true, laidKinds := [.data, .data, .pinned], laidTests := true, laidLooks := .later }
def FnExactFormOkCardSaid : Prop := Claim7.holds Tryd.pinned (.plain (OpenSpec.ofChange fnExactFormOkSpec)) fnExactFormOkCard

/-- THE SECOND FORM's CARD OF 'laws.FnExactFormOk'. -/
def fnExactFormOkUptoCard : Claim7 := { stood := { row := fnExactFormOkUptoRow, standIns := [], harness := (true, "51810924bb10ee0846cf1127c1d767d2475f46215879cce8c294ba2ab3e5c1aa"), looks := false }, kinds := [], alts := [], laidByText := true, laidKinds := [.data, .data, .pinned], laidTests := true, laidLooks := .later }
def FnExactFormOkUptoCardSaid : Prop := Claim7.holds Tryd.pinned (.plain (OpenSpec.upto fnExactFormOkSpec)) fnExactFormOkUptoCard
end Rows
end Go.Proofs.YtffamailgfegeaaDoor
