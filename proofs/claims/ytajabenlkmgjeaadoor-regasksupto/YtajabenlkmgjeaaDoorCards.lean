/-
  DERIVED. GIVEN WITH THE SEED: THE CARDS: each row of YtajabenlkmgjeaaDoorRows.lean that lists a variable, with what it lists TIED to the program's text (the seventh form; the later family's looks); each row that meets fmt, with fmt's text TOLD by the authors' own Lean function (tested against real Go, not proved from fmt's source: count such statements apart). THE CARD IS WHAT COUNTS. Prove the row's statement (the work); the ties are given (YtajabenlkmgjeaaDoorTie.lean); close each card by the builder's one call (the guide's Derived/Test/ToyasCard.lean, 'card_holds'). Laid BY PROGRAM, IN A SANDBOX (cutbox-door.mjs). By AI agents, Wed Nov 11 2026. No macro, syntax, notation, axiom, sorry.
-/
import Derived.Test.YtajabenlkmgjeaaDoorRows
import GoSem.ClaimSeven
namespace Go.Proofs.YtajabenlkmgjeaaDoor
namespace Rows

/-- THE TIED CARD OF 'emenderlaw06.RegAsks'. -/
def regAsksCard : Claim7 := { stood := { row := regAsksRow, standIns := [], harness := (true, "4e3cc39a26492823e5a4caaee7c24d6bdd3c62a2f834491a0bf89c1854df1b2b"), looks := true }, kinds := [], alts := [], laidByText := true, laidKinds := [.data], laidTests := true, laidLooks := .later }
def RegAsksCardSaid : Prop := Claim7.holds Tryd.pinned (.plain (OpenSpec.ofChange regAsksSpec)) regAsksCard

/-- THE TIED CARD OF 'emenderlaw06.RegFilled'. -/
def regFilledCard : Claim7 := { stood := { row := regFilledRow, standIns := [], harness := (true, "4e3cc39a26492823e5a4caaee7c24d6bdd3c62a2f834491a0bf89c1854df1b2b"), looks := true }, kinds := [], alts := [], laidByText := true, laidKinds := [.data, .handle], laidTests := true, laidLooks := .later }
def RegFilledCardSaid : Prop := Claim7.holds Tryd.pinned (.plain (OpenSpec.ofChange regFilledSpec)) regFilledCard

/-- THE TIED CARD OF 'emenderlaw06.RegNexts'. -/
def regNextsCard : Claim7 := { stood := { row := regNextsRow, standIns := [], harness := (true, "4e3cc39a26492823e5a4caaee7c24d6bdd3c62a2f834491a0bf89c1854df1b2b"), looks := true }, kinds := [], alts := [], laidByText := true, laidKinds := [.data], laidTests := true, laidLooks := .later }
def RegNextsCardSaid : Prop := Claim7.holds Tryd.pinned (.plain (OpenSpec.ofChange regNextsSpec)) regNextsCard

/-- THE SECOND FORM's CARD OF 'emenderlaw06.RegAsks'. -/
def regAsksUptoCard : Claim7 := { stood := { row := regAsksUptoRow, standIns := [], harness := (true, "4e3cc39a26492823e5a4caaee7c24d6bdd3c62a2f834491a0bf89c1854df1b2b"), looks := true }, kinds := [], alts := [], laidByText := true, laidKinds := [.data], laidTests := true, laidLooks := .later }
def RegAsksUptoCardSaid : Prop := Claim7.holds Tryd.pinned (.plain (OpenSpec.upto regAsksSpec)) regAsksUptoCard

/-- THE SECOND FORM's CARD OF 'emenderlaw06.RegFilled'. -/
def regFilledUptoCard : Claim7 := { stood := { row := regFilledUptoRow, standIns := [], harness := (true, "4e3cc39a26492823e5a4caaee7c24d6bdd3c62a2f834491a0bf89c1854df1b2b"), looks := true }, kinds := [], alts := [], laidByText := true, laidKinds := [.data, .handle], laidTests := true, laidLooks := .later }
def RegFilledUptoCardSaid : Prop := Claim7.holds Tryd.pinned (.plain (OpenSpec.upto regFilledSpec)) regFilledUptoCard

/-- THE SECOND FORM's CARD OF 'emenderlaw06.RegNexts'. -/
def regNextsUptoCard : Claim7 := { stood := { row := regNextsUptoRow, standIns := [], harness := (true, "4e3cc39a26492823e5a4caaee7c24d6bdd3c62a2f834491a0bf89c1854df1b2b"), looks := true }, kinds := [], alts := [], laidByText := true, laidKinds := [.data], laidTests := true, laidLooks := .later }
def RegNextsUptoCardSaid : Prop := Claim7.holds Tryd.pinned (.plain (OpenSpec.upto regNextsSpec)) regNextsUptoCard
end Rows
end Go.Proofs.YtajabenlkmgjeaaDoor
