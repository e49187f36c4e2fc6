/-
  NARROWER THAN 'FOR EVERY INPUT', by the rows' own cells (each row's printed sentence says how): CaretAsks: laid · CaretSends: laid · CaretNear: laid · CaretMoves: laid · CaretKeeps: laid.
  DERIVED. THE GIVEN ROWS OF THIS SEAT. 5 by the template 'for every input the law returns true; each argument reads behind the call as it read before'; 0 by the template 'total and deterministic' (their statements: YtbkpehfaofhmaaaGreatDoorTotals.lean).
  GIVEN WITH THE SEED: the statements are not yours to turn. If you find one false, say at which input.
  Laid BY PROGRAM, IN A SANDBOX (cutbox-rows.mjs): the forced cells as the released guide's own fill.sh prints them over the translation 0b25860df73c8eb2… (all of the seat's roots in one cut). By AI agents, Wed Nov 11 2026. No macro, syntax, notation, axiom, sorry.
-/
import Derived.Test.YtbkpehfaofhmaaaGreatDoorChecked
import GoSem.Claim
import GoSem.ClaimJoined
import GoSem.ClaimMapViews
import Derived.JoinedTies
import Derived.KernelRfl
namespace Go.Proofs.YtbkpehfaofhmaaaGreatDoor
/- THE CELL 'sum', in the pinned program and in every row, IS THE sha256 OF THE DUMP (.gsa) THAT YtbkpehfaofhmaaaGreatDoorProg.lean LOADS. Nothing in Lean hashes anything: it is a label: what it is worth is what the hold of that sum in a sandbox is worth. -/
noncomputable def Tryz.pinned : Pinned := { name := "ytbkpehfaofhmaaagreatdoor", sum := "0b25860df73c8eb2d22d17af86411f1f7d577ea203154abd2d0dc86b2054d709", checked := Tryz.checked }
namespace Rows
def none {H : Type} : Left H := { results := [], args := [] }

/- WHAT THE LISTED PACKAGE-LEVEL VARIABLES READ AS WHEN THE CALL BEGINS. Each datum BY PROGRAM (the guide's laid-datum.mjs) off the statement by which the dump's own 'gosem.cut.vars' lays the variable. In a bare row this is a premise. The card (YtbkpehfaofhmaaaGreatDoorCards.lean) ties it to the program's text. -/
def laid_errors_errorType {H : Type} : DataW H := .iface "internal/reflectlite.rtype" (.agg [.ptr (.lit (.string [101, 114, 114, 111, 114]))])

/-- 'emenderlaw11.CaretAsks': WHATEVER THE INPUT: true; the input reads as it did. -/
def caretAsksSpec : ChangeSpec := { name := "caretAsks", fn := fun _ => fun
  | [d1, d2, d3, d4] => { results := [.lit (.bool true)], args := [d1, d2, d3, d4] }
  | _ => none }
def caretAsksRow : OpenClaim := { program := "ytbkpehfaofhmaaagreatdoor", sum := "0b25860df73c8eb2d22d17af86411f1f7d577ea203154abd2d0dc86b2054d709", func := "emender/emenderlaw11.CaretAsks", spec := "caretAsks", inPlace := ["internal/bytealg.IndexByteString", "internal/reflectlite.ValueOf", "(internal/reflectlite.Value).Type", "(internal/reflectlite.Value).IsNil", "internal/reflectlite.TypeOf", "(internal/reflectlite.Value).Elem", "(internal/reflectlite.Value).Set", "slices.overlaps[int]"], unfollowed := true, recurses := true, named := ["errors.errorType"], apart := false, laid := [("errors.errorType", laid_errors_errorType)] }
def CaretAsksSaid : Prop := caretAsksRow.holds Tryz.pinned (OpenSpec.ofChange caretAsksSpec)

/-- ITS FALSE NEIGHBOUR: 'it returns false'. Refute it at one input. -/
def caretAsksWrong : ChangeSpec := { name := "caretAsks", fn := fun _ => fun
  | [d1, d2, d3, d4] => { results := [.lit (.bool false)], args := [d1, d2, d3, d4] }
  | _ => none }
def CaretAsksWrongFalsely : Prop := caretAsksRow.holds Tryz.pinned (OpenSpec.ofChange caretAsksWrong)

/-- 'emenderlaw11.CaretSends': WHATEVER THE INPUT: true; the input reads as it did. -/
def caretSendsSpec : ChangeSpec := { name := "caretSends", fn := fun _ => fun
  | [d1, d2, d3] => { results := [.lit (.bool true)], args := [d1, d2, d3] }
  | _ => none }
def caretSendsRow : OpenClaim := { program := "ytbkpehfaofhmaaagreatdoor", sum := "0b25860df73c8eb2d22d17af86411f1f7d577ea203154abd2d0dc86b2054d709", func := "emender/emenderlaw11.CaretSends", spec := "caretSends", inPlace := ["internal/bytealg.IndexByteString", "internal/reflectlite.ValueOf", "(internal/reflectlite.Value).Type", "(internal/reflectlite.Value).IsNil", "internal/reflectlite.TypeOf", "(internal/reflectlite.Value).Elem", "(internal/reflectlite.Value).Set", "slices.overlaps[int]"], unfollowed := true, recurses := true, named := ["errors.errorType"], apart := false, laid := [("errors.errorType", laid_errors_errorType)] }
def CaretSendsSaid : Prop := caretSendsRow.holds Tryz.pinned (OpenSpec.ofChange caretSendsSpec)

/-- ITS FALSE NEIGHBOUR: 'it returns false'. Refute it at one input. -/
def caretSendsWrong : ChangeSpec := { name := "caretSends", fn := fun _ => fun
  | [d1, d2, d3] => { results := [.lit (.bool false)], args := [d1, d2, d3] }
  | _ => none }
def CaretSendsWrongFalsely : Prop := caretSendsRow.holds Tryz.pinned (OpenSpec.ofChange caretSendsWrong)

/-- 'emenderlaw11.CaretNear': WHATEVER THE INPUT: true; the input reads as it did. -/
def caretNearSpec : ChangeSpec := { name := "caretNear", fn := fun _ => fun
  | [d1, d2, d3] => { results := [.lit (.bool true)], args := [d1, d2, d3] }
  | _ => none }
def caretNearRow : OpenClaim := { program := "ytbkpehfaofhmaaagreatdoor", sum := "0b25860df73c8eb2d22d17af86411f1f7d577ea203154abd2d0dc86b2054d709", func := "emender/emenderlaw11.CaretNear", spec := "caretNear", inPlace := ["internal/bytealg.IndexByteString", "internal/reflectlite.ValueOf", "(internal/reflectlite.Value).Type", "(internal/reflectlite.Value).IsNil", "internal/reflectlite.TypeOf", "(internal/reflectlite.Value).Elem", "(internal/reflectlite.Value).Set", "slices.overlaps[int]"], unfollowed := true, recurses := true, named := ["errors.errorType"], apart := false, laid := [("errors.errorType", laid_errors_errorType)] }
def CaretNearSaid : Prop := caretNearRow.holds Tryz.pinned (OpenSpec.ofChange caretNearSpec)

/-- ITS FALSE NEIGHBOUR: 'it returns false'. Refute it at one input. -/
def caretNearWrong : ChangeSpec := { name := "caretNear", fn := fun _ => fun
  | [d1, d2, d3] => { results := [.lit (.bool false)], args := [d1, d2, d3] }
  | _ => none }
def CaretNearWrongFalsely : Prop := caretNearRow.holds Tryz.pinned (OpenSpec.ofChange caretNearWrong)

/-- 'emenderlaw11.CaretMoves': WHATEVER THE INPUT: true; the input reads as it did. -/
def caretMovesSpec : ChangeSpec := { name := "caretMoves", fn := fun _ => fun
  | [d1, d2, d3] => { results := [.lit (.bool true)], args := [d1, d2, d3] }
  | _ => none }
def caretMovesRow : OpenClaim := { program := "ytbkpehfaofhmaaagreatdoor", sum := "0b25860df73c8eb2d22d17af86411f1f7d577ea203154abd2d0dc86b2054d709", func := "emender/emenderlaw11.CaretMoves", spec := "caretMoves", inPlace := ["internal/bytealg.IndexByteString", "internal/reflectlite.ValueOf", "(internal/reflectlite.Value).Type", "(internal/reflectlite.Value).IsNil", "internal/reflectlite.TypeOf", "(internal/reflectlite.Value).Elem", "(internal/reflectlite.Value).Set", "slices.overlaps[int]"], unfollowed := true, recurses := true, named := ["errors.errorType"], apart := false, laid := [("errors.errorType", laid_errors_errorType)] }
def CaretMovesSaid : Prop := caretMovesRow.holds Tryz.pinned (OpenSpec.ofChange caretMovesSpec)

/-- ITS FALSE NEIGHBOUR: 'it returns false'. Refute it at one input. -/
def caretMovesWrong : ChangeSpec := { name := "caretMoves", fn := fun _ => fun
  | [d1, d2, d3] => { results := [.lit (.bool false)], args := [d1, d2, d3] }
  | _ => none }
def CaretMovesWrongFalsely : Prop := caretMovesRow.holds Tryz.pinned (OpenSpec.ofChange caretMovesWrong)

/-- 'emenderlaw11.CaretKeeps': WHATEVER THE INPUT: true; the input reads as it did. -/
def caretKeepsSpec : ChangeSpec := { name := "caretKeeps", fn := fun _ => fun
  | [d1, d2, d3] => { results := [.lit (.bool true)], args := [d1, d2, d3] }
  | _ => none }
def caretKeepsRow : OpenClaim := { program := "ytbkpehfaofhmaaagreatdoor", sum := "0b25860df73c8eb2d22d17af86411f1f7d577ea203154abd2d0dc86b2054d709", func := "emender/emenderlaw11.CaretKeeps", spec := "caretKeeps", inPlace := ["internal/bytealg.IndexByteString", "internal/reflectlite.ValueOf", "(internal/reflectlite.Value).Type", "(internal/reflectlite.Value).IsNil", "internal/reflectlite.TypeOf", "(internal/reflectlite.Value).Elem", "(internal/reflectlite.Value).Set", "slices.overlaps[int]"], unfollowed := true, recurses := true, named := ["errors.errorType"], apart := false, laid := [("errors.errorType", laid_errors_errorType)] }
def CaretKeepsSaid : Prop := caretKeepsRow.holds Tryz.pinned (OpenSpec.ofChange caretKeepsSpec)

/-- ITS FALSE NEIGHBOUR: 'it returns false'. Refute it at one input. -/
def caretKeepsWrong : ChangeSpec := { name := "caretKeeps", fn := fun _ => fun
  | [d1, d2, d3] => { results := [.lit (.bool false)], args := [d1, d2, d3] }
  | _ => none }
def CaretKeepsWrongFalsely : Prop := caretKeepsRow.holds Tryz.pinned (OpenSpec.ofChange caretKeepsWrong)

/- THE SECOND FORM. 'bulk': how many values and letters a reading holds, each counted each time it is reached (what is shared counts as often as it is met; a slice's spare places count too). A statement '..UptoSaid' is the law's where the arguments, and the package variables that the reading takes, are together of bulk at most 1048576: NARROWER than '..Said'. Prove '..Said' where nothing that the law and all that it calls make is longer than what came in: it says more and counts as full. Else prove '..UptoSaid'. A law counts once. -/
mutual
def uptoBulk {H : Type} : DataW H → Nat
  | .lit (.string bytes) => bytes.length + 1
  | .lit _ => 1
  | .nil => 1
  | .ptr d => uptoBulk d + 1
  | .slice elems spare => uptoBulkAll elems + uptoBulkAll spare + 1
  | .agg parts => uptoBulkAll parts + 1
  | .iface _ d => uptoBulk d + 1
  | .map entries => uptoBulkEntries entries + 1
  | .held _ => 1
def uptoBulkAll {H : Type} : List (DataW H) → Nat
  | [] => 0
  | d :: r => uptoBulk d + uptoBulkAll r
def uptoBulkEntries {H : Type} : List (Lit × DataW H) → Nat
  | [] => 0
  | x :: r => uptoBulkEntry x + uptoBulkEntries r
def uptoBulkEntry {H : Type} : Lit × DataW H → Nat
  | (.string bytes, d) => bytes.length + uptoBulk d + 1
  | (_, d) => uptoBulk d + 1
 end
def uptoSmall : (H : Type) → List (DataW H) → Bool := fun _ ds => decide (uptoBulkAll ds ≤ 1048576)
def OpenSpec.upto (s : _root_.Go.ChangeSpec) : _root_.Go.OpenSpec := { _root_.Go.OpenSpec.ofChange s with cond := some uptoSmall }

/-- 'emenderlaw11.CaretAsks', WHERE WHAT IT READS IS OF BULK AT MOST 1048576: true; the input reads as it did. -/
def caretAsksUptoRow : OpenClaim := { program := "ytbkpehfaofhmaaagreatdoor", sum := "0b25860df73c8eb2d22d17af86411f1f7d577ea203154abd2d0dc86b2054d709", func := "emender/emenderlaw11.CaretAsks", spec := "caretAsks", inPlace := ["internal/bytealg.IndexByteString", "internal/reflectlite.ValueOf", "(internal/reflectlite.Value).Type", "(internal/reflectlite.Value).IsNil", "internal/reflectlite.TypeOf", "(internal/reflectlite.Value).Elem", "(internal/reflectlite.Value).Set", "slices.overlaps[int]"], unfollowed := true, recurses := true, named := ["errors.errorType"], apart := false, laid := [("errors.errorType", laid_errors_errorType)], narrowed := true }
def CaretAsksUptoSaid : Prop := caretAsksUptoRow.holds Tryz.pinned (OpenSpec.upto caretAsksSpec)

/-- 'emenderlaw11.CaretSends', WHERE WHAT IT READS IS OF BULK AT MOST 1048576: true; the input reads as it did. -/
def caretSendsUptoRow : OpenClaim := { program := "ytbkpehfaofhmaaagreatdoor", sum := "0b25860df73c8eb2d22d17af86411f1f7d577ea203154abd2d0dc86b2054d709", func := "emender/emenderlaw11.CaretSends", spec := "caretSends", inPlace := ["internal/bytealg.IndexByteString", "internal/reflectlite.ValueOf", "(internal/reflectlite.Value).Type", "(internal/reflectlite.Value).IsNil", "internal/reflectlite.TypeOf", "(internal/reflectlite.Value).Elem", "(internal/reflectlite.Value).Set", "slices.overlaps[int]"], unfollowed := true, recurses := true, named := ["errors.errorType"], apart := false, laid := [("errors.errorType", laid_errors_errorType)], narrowed := true }
def CaretSendsUptoSaid : Prop := caretSendsUptoRow.holds Tryz.pinned (OpenSpec.upto caretSendsSpec)

/-- 'emenderlaw11.CaretNear', WHERE WHAT IT READS IS OF BULK AT MOST 1048576: true; the input reads as it did. -/
def caretNearUptoRow : OpenClaim := { program := "ytbkpehfaofhmaaagreatdoor", sum := "0b25860df73c8eb2d22d17af86411f1f7d577ea203154abd2d0dc86b2054d709", func := "emender/emenderlaw11.CaretNear", spec := "caretNear", inPlace := ["internal/bytealg.IndexByteString", "internal/reflectlite.ValueOf", "(internal/reflectlite.Value).Type", "(internal/reflectlite.Value).IsNil", "internal/reflectlite.TypeOf", "(internal/reflectlite.Value).Elem", "(internal/reflectlite.Value).Set", "slices.overlaps[int]"], unfollowed := true, recurses := true, named := ["errors.errorType"], apart := false, laid := [("errors.errorType", laid_errors_errorType)], narrowed := true }
def CaretNearUptoSaid : Prop := caretNearUptoRow.holds Tryz.pinned (OpenSpec.upto caretNearSpec)

/-- 'emenderlaw11.CaretMoves', WHERE WHAT IT READS IS OF BULK AT MOST 1048576: true; the input reads as it did. -/
def caretMovesUptoRow : OpenClaim := { program := "ytbkpehfaofhmaaagreatdoor", sum := "0b25860df73c8eb2d22d17af86411f1f7d577ea203154abd2d0dc86b2054d709", func := "emender/emenderlaw11.CaretMoves", spec := "caretMoves", inPlace := ["internal/bytealg.IndexByteString", "internal/reflectlite.ValueOf", "(internal/reflectlite.Value).Type", "(internal/reflectlite.Value).IsNil", "internal/reflectlite.TypeOf", "(internal/reflectlite.Value).Elem", "(internal/reflectlite.Value).Set", "slices.overlaps[int]"], unfollowed := true, recurses := true, named := ["errors.errorType"], apart := false, laid := [("errors.errorType", laid_errors_errorType)], narrowed := true }
def CaretMovesUptoSaid : Prop := caretMovesUptoRow.holds Tryz.pinned (OpenSpec.upto caretMovesSpec)

/-- 'emenderlaw11.CaretKeeps', WHERE WHAT IT READS IS OF BULK AT MOST 1048576: true; the input reads as it did. -/
def caretKeepsUptoRow : OpenClaim := { program := "ytbkpehfaofhmaaagreatdoor", sum := "0b25860df73c8eb2d22d17af86411f1f7d577ea203154abd2d0dc86b2054d709", func := "emender/emenderlaw11.CaretKeeps", spec := "caretKeeps", inPlace := ["internal/bytealg.IndexByteString", "internal/reflectlite.ValueOf", "(internal/reflectlite.Value).Type", "(internal/reflectlite.Value).IsNil", "internal/reflectlite.TypeOf", "(internal/reflectlite.Value).Elem", "(internal/reflectlite.Value).Set", "slices.overlaps[int]"], unfollowed := true, recurses := true, named := ["errors.errorType"], apart := false, laid := [("errors.errorType", laid_errors_errorType)], narrowed := true }
def CaretKeepsUptoSaid : Prop := caretKeepsUptoRow.holds Tryz.pinned (OpenSpec.upto caretKeepsSpec)

end Rows
end Go.Proofs.YtbkpehfaofhmaaaGreatDoor
