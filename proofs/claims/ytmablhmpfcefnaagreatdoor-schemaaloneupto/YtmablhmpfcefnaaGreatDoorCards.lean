/-
  DERIVED. GIVEN WITH THE SEED: THE CARDS: each row of YtmablhmpfcefnaaGreatDoorRows.lean that lists a variable, with what it lists TIED to the program's text (the seventh form; the later family's looks); each row that meets fmt, with fmt's text TOLD by the authors' own Lean function (tested against real Go, not proved from fmt's source: count such statements apart). THE CARD IS WHAT COUNTS. Prove the row's statement (the work); the ties are given (YtmablhmpfcefnaaGreatDoorTie.lean); close each card by the builder's one call (the guide's Derived/Test/ToyasCard.lean, 'card_holds'). Laid BY PROGRAM, IN A SANDBOX (cutbox-door.mjs). By AI agents, Wed Nov 11 2026. No macro, syntax, notation, axiom, sorry.
-/
import Derived.Test.YtmablhmpfcefnaaGreatDoorRows
import GoSem.ClaimSeven
namespace Go.Proofs.YtmablhmpfcefnaaGreatDoor
namespace Rows

/-- THE TIED CARD OF 'emenderlaw07.SchemaChecks'. -/
def schemaChecksCard : Claim7 := { stood := { row := schemaChecksRow, standIns := [], harness := (true, "ab5105326f79693b28c26c8c593825f92da49b17d88699acd8fd0218158c84a8"), looks := true }, kinds := [], alts := [], laidByText := true, laidKinds := [.handle], laidTests := true, laidLooks := .later }
def SchemaChecksCardSaid : Prop := Claim7.holds Tryz.pinned (.plain (OpenSpec.ofChange schemaChecksSpec)) schemaChecksCard

/-- THE TIED CARD OF 'emenderlaw07.SchemaNews'. -/
def schemaNewsCard : Claim7 := { stood := { row := schemaNewsRow, standIns := [], harness := (true, "ab5105326f79693b28c26c8c593825f92da49b17d88699acd8fd0218158c84a8"), looks := true }, kinds := [], alts := [], laidByText := true, laidKinds := [.handle], laidTests := true, laidLooks := .later }
def SchemaNewsCardSaid : Prop := Claim7.holds Tryz.pinned (.plain (OpenSpec.ofChange schemaNewsSpec)) schemaNewsCard

/-- THE TIED CARD OF 'emenderlaw07.SchemaFills'. -/
def schemaFillsCard : Claim7 := { stood := { row := schemaFillsRow, standIns := [], harness := (true, "ab5105326f79693b28c26c8c593825f92da49b17d88699acd8fd0218158c84a8"), looks := true }, kinds := [], alts := [], laidByText := true, laidKinds := [.data, .handle], laidTests := true, laidLooks := .later }
def SchemaFillsCardSaid : Prop := Claim7.holds Tryz.pinned (.plain (OpenSpec.ofChange schemaFillsSpec)) schemaFillsCard

/-- THE TIED CARD OF 'emenderlaw07.SchemaAlone'. -/
def schemaAloneCard : Claim7 := { stood := { row := schemaAloneRow, standIns := [], harness := (true, "ab5105326f79693b28c26c8c593825f92da49b17d88699acd8fd0218158c84a8"), looks := true }, kinds := [], alts := [], laidByText := true, laidKinds := [.handle], laidTests := true, laidLooks := .later }
def SchemaAloneCardSaid : Prop := Claim7.holds Tryz.pinned (.plain (OpenSpec.ofChange schemaAloneSpec)) schemaAloneCard

/-- THE SECOND FORM's CARD OF 'emenderlaw07.SchemaChecks'. -/
def schemaChecksUptoCard : Claim7 := { stood := { row := schemaChecksUptoRow, standIns := [], harness := (true, "ab5105326f79693b28c26c8c593825f92da49b17d88699acd8fd0218158c84a8"), looks := true }, kinds := [], alts := [], laidByText := true, laidKinds := [.handle], laidTests := true, laidLooks := .later }
def SchemaChecksUptoCardSaid : Prop := Claim7.holds Tryz.pinned (.plain (OpenSpec.upto schemaChecksSpec)) schemaChecksUptoCard

/-- THE SECOND FORM's CARD OF 'emenderlaw07.SchemaNews'. -/
def schemaNewsUptoCard : Claim7 := { stood := { row := schemaNewsUptoRow, standIns := [], harness := (true, "ab5105326f79693b28c26c8c593825f92da49b17d88699acd8fd0218158c84a8"), looks := true }, kinds := [], alts := [], laidByText := true, laidKinds := [.handle], laidTests := true, laidLooks := .later }
def SchemaNewsUptoCardSaid : Prop := Claim7.holds Tryz.pinned (.plain (OpenSpec.upto schemaNewsSpec)) schemaNewsUptoCard

/-- THE SECOND FORM's CARD OF 'emenderlaw07.SchemaFills'. -/
def schemaFillsUptoCard : Claim7 := { stood := { row := schemaFillsUptoRow, standIns := [], harness := (true, "ab5105326f79693b28c26c8c593825f92da49b17d88699acd8fd0218158c84a8"), looks := true }, kinds := [], alts := [], laidByText := true, laidKinds := [.data, .handle], laidTests := true, laidLooks := .later }
def SchemaFillsUptoCardSaid : Prop := Claim7.holds Tryz.pinned (.plain (OpenSpec.upto schemaFillsSpec)) schemaFillsUptoCard

/-- THE SECOND FORM's CARD OF 'emenderlaw07.SchemaAlone'. -/
def schemaAloneUptoCard : Claim7 := { stood := { row := schemaAloneUptoRow, standIns := [], harness := (true, "ab5105326f79693b28c26c8c593825f92da49b17d88699acd8fd0218158c84a8"), looks := true }, kinds := [], alts := [], laidByText := true, laidKinds := [.handle], laidTests := true, laidLooks := .later }
def SchemaAloneUptoCardSaid : Prop := Claim7.holds Tryz.pinned (.plain (OpenSpec.upto schemaAloneSpec)) schemaAloneUptoCard
end Rows
end Go.Proofs.YtmablhmpfcefnaaGreatDoor
