/-
  DERIVED. GIVEN WITH THE SEED: THE CARDS: each row of YtlihhfijigoklabDoorRows.lean that lists a variable, with what it lists TIED to the program's text (the seventh form; the later family's looks); each row that meets fmt, with fmt's text TOLD by the authors' own Lean function (tested against real Go, not proved from fmt's source: count such statements apart). THE CARD IS WHAT COUNTS. Prove the row's statement (the work); the ties are given (YtlihhfijigoklabDoorTie.lean); close each card by the builder's one call (the guide's Derived/Test/ToyasCard.lean, 'card_holds'). Laid BY PROGRAM, IN A SANDBOX (cutbox-door.mjs). By AI agents, Wed Nov 11 2026. No macro, syntax, notation, axiom, sorry.
-/
import Derived.Test.YtlihhfijigoklabDoorRows
import GoSem.ClaimSeven
namespace Go.Proofs.YtlihhfijigoklabDoor
namespace Rows

/-- THE TIED CARD OF 'jvmcorelaw1.DescTypes'. -/
def descTypesCard : Claim7 := { stood := { row := descTypesRow, standIns := [], harness := (true, "0972e649285a4b2943b2d6a448b3a62e48fe1f495e0b69ff49be21c424cb753d"), looks := false }, kinds := [], alts := [], laidByText := true, laidKinds := [.data, .pinned], laidTests := true, laidLooks := .later }
def DescTypesCardSaid : Prop := Claim7.holds Tryd.pinned (.plain (OpenSpec.ofChange descTypesSpec)) descTypesCard

/-- THE SECOND FORM's CARD OF 'jvmcorelaw1.DescTypes'. -/
def descTypesUptoCard : Claim7 := { stood := { row := descTypesUptoRow, standIns := [], harness := (true, "0972e649285a4b2943b2d6a448b3a62e48fe1f495e0b69ff49be21c424cb753d"), looks := false }, kinds := [], alts := [], laidByText := true, laidKinds := [.data, .pinned], laidTests := true, laidLooks := .later }
def DescTypesUptoCardSaid : Prop := Claim7.holds Tryd.pinned (.plain (OpenSpec.upto descTypesSpec)) descTypesUptoCard
end Rows
end Go.Proofs.YtlihhfijigoklabDoor
