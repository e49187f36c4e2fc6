/-
  DERIVED. GIVEN WITH THE SEED: THE CARDS: each row of YtmihneegdkdghabDoorRows.lean that lists a variable, with what it lists TIED to the program's text (the seventh form; the later family's looks); each row that meets fmt, with fmt's text TOLD by the authors' own Lean function (tested against real Go, not proved from fmt's source: count such statements apart). THE CARD IS WHAT COUNTS. Prove the row's statement (the work); the ties are given (YtmihneegdkdghabDoorTie.lean); close each card by the builder's one call (the guide's Derived/Test/ToyasCard.lean, 'card_holds'). Laid BY PROGRAM, IN A SANDBOX (cutbox-door.mjs). By AI agents, Wed Nov 11 2026. No macro, syntax, notation, axiom, sorry.
-/
import Derived.Test.YtmihneegdkdghabDoorRows
import GoSem.ClaimSeven
namespace Go.Proofs.YtmihneegdkdghabDoor
namespace Rows

/-- THE TIED CARD OF 'emenderlaw07.SchemaZero'. -/
def schemaZeroCard : Claim7 := { stood := { row := schemaZeroRow, standIns := [], harness := (true, "09bf23ebed865a380c03b912b6aad8e852c8b4ed1bf685633abf6483e4262121"), looks := false }, kinds := [], alts := [], laidByText := true, laidKinds := [.data], laidTests := true, laidLooks := .later }
def SchemaZeroCardSaid : Prop := Claim7.holds Tryd.pinned (.plain (OpenSpec.ofChange schemaZeroSpec)) schemaZeroCard

/-- THE SECOND FORM's CARD OF 'emenderlaw07.SchemaZero'. -/
def schemaZeroUptoCard : Claim7 := { stood := { row := schemaZeroUptoRow, standIns := [], harness := (true, "09bf23ebed865a380c03b912b6aad8e852c8b4ed1bf685633abf6483e4262121"), looks := false }, kinds := [], alts := [], laidByText := true, laidKinds := [.data], laidTests := true, laidLooks := .later }
def SchemaZeroUptoCardSaid : Prop := Claim7.holds Tryd.pinned (.plain (OpenSpec.upto schemaZeroSpec)) schemaZeroUptoCard
end Rows
end Go.Proofs.YtmihneegdkdghabDoor
