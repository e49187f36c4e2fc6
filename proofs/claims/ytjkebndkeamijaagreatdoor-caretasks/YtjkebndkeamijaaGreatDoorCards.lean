/-
  DERIVED. GIVEN WITH THE SEED: THE CARDS: each row of YtjkebndkeamijaaGreatDoorRows.lean that lists a variable, with what it lists TIED to the program's text (the seventh form; the later family's looks); each row that meets fmt, with fmt's text TOLD by the authors' own Lean function (tested against real Go, not proved from fmt's source: count such statements apart). THE CARD IS WHAT COUNTS. Prove the row's statement (the work); the ties are given (YtjkebndkeamijaaGreatDoorTie.lean); close each card by the builder's one call (the guide's Derived/Test/ToyasCard.lean, 'card_holds'). Laid BY PROGRAM, IN A SANDBOX (cutbox-door.mjs). By AI agents, Wed Nov 11 2026. No macro, syntax, notation, axiom, sorry.
-/
import Derived.Test.YtjkebndkeamijaaGreatDoorRows
import GoSem.ClaimSeven
namespace Go.Proofs.YtjkebndkeamijaaGreatDoor
namespace Rows

/-- THE TIED CARD OF 'emenderlaw07.SchemaChecks'. -/
def schemaChecksCard : Claim7 := { stood := { row := schemaChecksRow, standIns := [], harness := (true, "e7a4e0874a3967dbdd8f9122eb19bed5a945cbade09e5481f31c11c89643d36b"), looks := true }, kinds := [], alts := [], laidByText := true, laidKinds := [.handle], laidTests := true, laidLooks := .later }
def SchemaChecksCardSaid : Prop := Claim7.holds Tryz.pinned (.plain (OpenSpec.ofChange schemaChecksSpec)) schemaChecksCard

/-- THE TIED CARD OF 'emenderlaw07.SchemaNews'. -/
def schemaNewsCard : Claim7 := { stood := { row := schemaNewsRow, standIns := [], harness := (true, "e7a4e0874a3967dbdd8f9122eb19bed5a945cbade09e5481f31c11c89643d36b"), looks := true }, kinds := [], alts := [], laidByText := true, laidKinds := [.handle], laidTests := true, laidLooks := .later }
def SchemaNewsCardSaid : Prop := Claim7.holds Tryz.pinned (.plain (OpenSpec.ofChange schemaNewsSpec)) schemaNewsCard

/-- THE TIED CARD OF 'emenderlaw07.SchemaFills'. -/
def schemaFillsCard : Claim7 := { stood := { row := schemaFillsRow, standIns := [], harness := (true, "e7a4e0874a3967dbdd8f9122eb19bed5a945cbade09e5481f31c11c89643d36b"), looks := true }, kinds := [], alts := [], laidByText := true, laidKinds := [.data, .handle], laidTests := true, laidLooks := .later }
def SchemaFillsCardSaid : Prop := Claim7.holds Tryz.pinned (.plain (OpenSpec.ofChange schemaFillsSpec)) schemaFillsCard

/-- THE TIED CARD OF 'emenderlaw11.CaretAsks'. -/
def caretAsksCard : Claim7 := { stood := { row := caretAsksRow, standIns := [], harness := (true, "e7a4e0874a3967dbdd8f9122eb19bed5a945cbade09e5481f31c11c89643d36b"), looks := true }, kinds := [], alts := [], laidByText := true, laidKinds := [.handle], laidTests := true, laidLooks := .later }
def CaretAsksCardSaid : Prop := Claim7.holds Tryz.pinned (.plain (OpenSpec.ofChange caretAsksSpec)) caretAsksCard

/-- THE SECOND FORM's CARD OF 'emenderlaw07.SchemaChecks'. -/
def schemaChecksUptoCard : Claim7 := { stood := { row := schemaChecksUptoRow, standIns := [], harness := (true, "e7a4e0874a3967dbdd8f9122eb19bed5a945cbade09e5481f31c11c89643d36b"), looks := true }, kinds := [], alts := [], laidByText := true, laidKinds := [.handle], laidTests := true, laidLooks := .later }
def SchemaChecksUptoCardSaid : Prop := Claim7.holds Tryz.pinned (.plain (OpenSpec.upto schemaChecksSpec)) schemaChecksUptoCard

/-- THE SECOND FORM's CARD OF 'emenderlaw07.SchemaNews'. -/
def schemaNewsUptoCard : Claim7 := { stood := { row := schemaNewsUptoRow, standIns := [], harness := (true, "e7a4e0874a3967dbdd8f9122eb19bed5a945cbade09e5481f31c11c89643d36b"), looks := true }, kinds := [], alts := [], laidByText := true, laidKinds := [.handle], laidTests := true, laidLooks := .later }
def SchemaNewsUptoCardSaid : Prop := Claim7.holds Tryz.pinned (.plain (OpenSpec.upto schemaNewsSpec)) schemaNewsUptoCard

/-- THE SECOND FORM's CARD OF 'emenderlaw07.SchemaFills'. -/
def schemaFillsUptoCard : Claim7 := { stood := { row := schemaFillsUptoRow, standIns := [], harness := (true, "e7a4e0874a3967dbdd8f9122eb19bed5a945cbade09e5481f31c11c89643d36b"), looks := true }, kinds := [], alts := [], laidByText := true, laidKinds := [.data, .handle], laidTests := true, laidLooks := .later }
def SchemaFillsUptoCardSaid : Prop := Claim7.holds Tryz.pinned (.plain (OpenSpec.upto schemaFillsSpec)) schemaFillsUptoCard

/-- THE SECOND FORM's CARD OF 'emenderlaw11.CaretAsks'. -/
def caretAsksUptoCard : Claim7 := { stood := { row := caretAsksUptoRow, standIns := [], harness := (true, "e7a4e0874a3967dbdd8f9122eb19bed5a945cbade09e5481f31c11c89643d36b"), looks := true }, kinds := [], alts := [], laidByText := true, laidKinds := [.handle], laidTests := true, laidLooks := .later }
def CaretAsksUptoCardSaid : Prop := Claim7.holds Tryz.pinned (.plain (OpenSpec.upto caretAsksSpec)) caretAsksUptoCard
end Rows
end Go.Proofs.YtjkebndkeamijaaGreatDoor
