/-
  DERIVED. GIVEN WITH THE SEED: THE CARDS: each row of YtnpjcgmfmfhgdacDoorRows.lean that lists a variable, with what it lists TIED to the program's text (the seventh form; the later family's looks); each row that meets fmt, with fmt's text TOLD by the authors' own Lean function (tested against real Go, not proved from fmt's source: count such statements apart). THE CARD IS WHAT COUNTS. Prove the row's statement (the work); the ties are given (YtnpjcgmfmfhgdacDoorTie.lean); close each card by the builder's one call (the guide's Derived/Test/ToyasCard.lean, 'card_holds'). Laid BY PROGRAM, IN A SANDBOX (cutbox-door.mjs). By AI agents, Wed Nov 11 2026. No macro, syntax, notation, axiom, sorry.
-/
import Derived.Test.YtnpjcgmfmfhgdacDoorRows
import GoSem.ClaimSeven
namespace Go.Proofs.YtnpjcgmfmfhgdacDoor
namespace Rows

/-- THE TIED CARD OF 'laws.FnOnes'. -/
def fnOnesCard : Claim7 := { stood := { row := fnOnesRow, standIns := [], harness := (true, "c285fa1d8f624e480a7c0c8018ae15ced9c0f3997d615851486c752bcb272b80"), looks := true }, kinds := [], alts := [], laidByText := true, laidKinds := [.data], laidTests := true, laidLooks := .later }
def FnOnesCardSaid : Prop := Claim7.holds Tryd.pinned (.plain (OpenSpec.ofChange fnOnesSpec)) fnOnesCard

/-- THE TIED CARD OF 'laws.FnNumText'. -/
def fnNumTextCard : Claim7 := { stood := { row := fnNumTextRow, standIns := [], harness := (true, "c285fa1d8f624e480a7c0c8018ae15ced9c0f3997d615851486c752bcb272b80"), looks := true }, kinds := [], alts := [], laidByText := true, laidKinds := [.data, .data, .data, .sentinel, .sentinel], laidTests := true, laidLooks := .later }
def FnNumTextCardSaid : Prop := Claim7.holds Tryd.pinned (.plain (OpenSpec.ofChange fnNumTextSpec)) fnNumTextCard

/-- THE SECOND FORM's CARD OF 'laws.FnOnes'. -/
def fnOnesUptoCard : Claim7 := { stood := { row := fnOnesUptoRow, standIns := [], harness := (true, "c285fa1d8f624e480a7c0c8018ae15ced9c0f3997d615851486c752bcb272b80"), looks := true }, kinds := [], alts := [], laidByText := true, laidKinds := [.data], laidTests := true, laidLooks := .later }
def FnOnesUptoCardSaid : Prop := Claim7.holds Tryd.pinned (.plain (OpenSpec.upto fnOnesSpec)) fnOnesUptoCard

/-- THE SECOND FORM's CARD OF 'laws.FnNumText'. -/
def fnNumTextUptoCard : Claim7 := { stood := { row := fnNumTextUptoRow, standIns := [], harness := (true, "c285fa1d8f624e480a7c0c8018ae15ced9c0f3997d615851486c752bcb272b80"), looks := true }, kinds := [], alts := [], laidByText := true, laidKinds := [.data, .data, .data, .sentinel, .sentinel], laidTests := true, laidLooks := .later }
def FnNumTextUptoCardSaid : Prop := Claim7.holds Tryd.pinned (.plain (OpenSpec.upto fnNumTextSpec)) fnNumTextUptoCard
end Rows
end Go.Proofs.YtnpjcgmfmfhgdacDoor
