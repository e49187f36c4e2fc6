/-
  DERIVED. GIVEN WITH THE SEED: THE CARDS: each row of YtofkiaeocfpkeaaGreatDoorRows.lean that lists a variable, with what it lists TIED to the program's text (the seventh form; the later family's looks); each row that meets fmt, with fmt's text TOLD by the authors' own Lean function (tested against real Go, not proved from fmt's source: count such statements apart). THE CARD IS WHAT COUNTS. Prove the row's statement (the work); the ties are given (YtofkiaeocfpkeaaGreatDoorTie.lean); close each card by the builder's one call (the guide's Derived/Test/ToyasCard.lean, 'card_holds'). Laid BY PROGRAM, IN A SANDBOX (cutbox-door.mjs). By AI agents, Wed Nov 11 2026. No macro, syntax, notation, axiom, sorry.
-/
import Derived.Test.YtofkiaeocfpkeaaGreatDoorRows
import GoSem.ClaimSeven
namespace Go.Proofs.YtofkiaeocfpkeaaGreatDoor
namespace Rows

/-- THE TIED CARD OF 'emenderlaw06.RegFills'. -/
def regFillsCard : Claim7 := { stood := { row := regFillsRow, standIns := [], harness := (true, "67bb87431c0c86a8362e6fe32e253091c07b3e00bdb653b1c1f46914c82faae6"), looks := true }, kinds := [], alts := [], laidByText := true, laidKinds := [.data, .handle], laidTests := true, laidLooks := .later }
def RegFillsCardSaid : Prop := Claim7.holds Tryz.pinned (.plain (OpenSpec.ofChange regFillsSpec)) regFillsCard

/-- THE TIED CARD OF 'emenderlaw07.SchemaChecks'. -/
def schemaChecksCard : Claim7 := { stood := { row := schemaChecksRow, standIns := [], harness := (true, "67bb87431c0c86a8362e6fe32e253091c07b3e00bdb653b1c1f46914c82faae6"), looks := true }, kinds := [], alts := [], laidByText := true, laidKinds := [.handle], laidTests := true, laidLooks := .later }
def SchemaChecksCardSaid : Prop := Claim7.holds Tryz.pinned (.plain (OpenSpec.ofChange schemaChecksSpec)) schemaChecksCard

/-- THE TIED CARD OF 'emenderlaw07.SchemaNews'. -/
def schemaNewsCard : Claim7 := { stood := { row := schemaNewsRow, standIns := [], harness := (true, "67bb87431c0c86a8362e6fe32e253091c07b3e00bdb653b1c1f46914c82faae6"), looks := true }, kinds := [], alts := [], laidByText := true, laidKinds := [.handle], laidTests := true, laidLooks := .later }
def SchemaNewsCardSaid : Prop := Claim7.holds Tryz.pinned (.plain (OpenSpec.ofChange schemaNewsSpec)) schemaNewsCard

/-- THE TIED CARD OF 'emenderlaw07.SchemaFills'. -/
def schemaFillsCard : Claim7 := { stood := { row := schemaFillsRow, standIns := [], harness := (true, "67bb87431c0c86a8362e6fe32e253091c07b3e00bdb653b1c1f46914c82faae6"), looks := true }, kinds := [], alts := [], laidByText := true, laidKinds := [.data, .handle], laidTests := true, laidLooks := .later }
def SchemaFillsCardSaid : Prop := Claim7.holds Tryz.pinned (.plain (OpenSpec.ofChange schemaFillsSpec)) schemaFillsCard

/-- THE TIED CARD OF 'emenderlaw07.SchemaWhole'. -/
def schemaWholeCard : Claim7 := { stood := { row := schemaWholeRow, standIns := [], harness := (true, "67bb87431c0c86a8362e6fe32e253091c07b3e00bdb653b1c1f46914c82faae6"), looks := true }, kinds := [], alts := [], laidByText := true, laidKinds := [.data, .handle], laidTests := true, laidLooks := .later }
def SchemaWholeCardSaid : Prop := Claim7.holds Tryz.pinned (.plain (OpenSpec.ofChange schemaWholeSpec)) schemaWholeCard

/-- THE TIED CARD OF 'emenderlaw07.SchemaJoins'. -/
def schemaJoinsCard : Claim7 := { stood := { row := schemaJoinsRow, standIns := [], harness := (true, "67bb87431c0c86a8362e6fe32e253091c07b3e00bdb653b1c1f46914c82faae6"), looks := true }, kinds := [], alts := [], laidByText := true, laidKinds := [.handle], laidTests := true, laidLooks := .later }
def SchemaJoinsCardSaid : Prop := Claim7.holds Tryz.pinned (.plain (OpenSpec.ofChange schemaJoinsSpec)) schemaJoinsCard

/-- THE SECOND FORM's CARD OF 'emenderlaw06.RegFills'. -/
def regFillsUptoCard : Claim7 := { stood := { row := regFillsUptoRow, standIns := [], harness := (true, "67bb87431c0c86a8362e6fe32e253091c07b3e00bdb653b1c1f46914c82faae6"), looks := true }, kinds := [], alts := [], laidByText := true, laidKinds := [.data, .handle], laidTests := true, laidLooks := .later }
def RegFillsUptoCardSaid : Prop := Claim7.holds Tryz.pinned (.plain (OpenSpec.upto regFillsSpec)) regFillsUptoCard

/-- THE SECOND FORM's CARD OF 'emenderlaw07.SchemaChecks'. -/
def schemaChecksUptoCard : Claim7 := { stood := { row := schemaChecksUptoRow, standIns := [], harness := (true, "67bb87431c0c86a8362e6fe32e253091c07b3e00bdb653b1c1f46914c82faae6"), looks := true }, kinds := [], alts := [], laidByText := true, laidKinds := [.handle], laidTests := true, laidLooks := .later }
def SchemaChecksUptoCardSaid : Prop := Claim7.holds Tryz.pinned (.plain (OpenSpec.upto schemaChecksSpec)) schemaChecksUptoCard

/-- THE SECOND FORM's CARD OF 'emenderlaw07.SchemaNews'. -/
def schemaNewsUptoCard : Claim7 := { stood := { row := schemaNewsUptoRow, standIns := [], harness := (true, "67bb87431c0c86a8362e6fe32e253091c07b3e00bdb653b1c1f46914c82faae6"), looks := true }, kinds := [], alts := [], laidByText := true, laidKinds := [.handle], laidTests := true, laidLooks := .later }
def SchemaNewsUptoCardSaid : Prop := Claim7.holds Tryz.pinned (.plain (OpenSpec.upto schemaNewsSpec)) schemaNewsUptoCard

/-- THE SECOND FORM's CARD OF 'emenderlaw07.SchemaFills'. -/
def schemaFillsUptoCard : Claim7 := { stood := { row := schemaFillsUptoRow, standIns := [], harness := (true, "67bb87431c0c86a8362e6fe32e253091c07b3e00bdb653b1c1f46914c82faae6"), looks := true }, kinds := [], alts := [], laidByText := true, laidKinds := [.data, .handle], laidTests := true, laidLooks := .later }
def SchemaFillsUptoCardSaid : Prop := Claim7.holds Tryz.pinned (.plain (OpenSpec.upto schemaFillsSpec)) schemaFillsUptoCard

/-- THE SECOND FORM's CARD OF 'emenderlaw07.SchemaWhole'. -/
def schemaWholeUptoCard : Claim7 := { stood := { row := schemaWholeUptoRow, standIns := [], harness := (true, "67bb87431c0c86a8362e6fe32e253091c07b3e00bdb653b1c1f46914c82faae6"), looks := true }, kinds := [], alts := [], laidByText := true, laidKinds := [.data, .handle], laidTests := true, laidLooks := .later }
def SchemaWholeUptoCardSaid : Prop := Claim7.holds Tryz.pinned (.plain (OpenSpec.upto schemaWholeSpec)) schemaWholeUptoCard

/-- THE SECOND FORM's CARD OF 'emenderlaw07.SchemaJoins'. -/
def schemaJoinsUptoCard : Claim7 := { stood := { row := schemaJoinsUptoRow, standIns := [], harness := (true, "67bb87431c0c86a8362e6fe32e253091c07b3e00bdb653b1c1f46914c82faae6"), looks := true }, kinds := [], alts := [], laidByText := true, laidKinds := [.handle], laidTests := true, laidLooks := .later }
def SchemaJoinsUptoCardSaid : Prop := Claim7.holds Tryz.pinned (.plain (OpenSpec.upto schemaJoinsSpec)) schemaJoinsUptoCard
end Rows
end Go.Proofs.YtofkiaeocfpkeaaGreatDoor
