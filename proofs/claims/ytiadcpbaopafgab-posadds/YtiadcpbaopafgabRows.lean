/-
  No cell of these rows narrows 'for every input' (looked for: loops, veiled, ifaces, maps, wideKeys, modest, calm, conditions, laid).
  DERIVED. THE GIVEN ROWS OF THIS SEAT. 3 by the template 'for every input the law returns true; each argument reads behind the call as it read before'; 0 by the template 'total and deterministic' (their statements: YtiadcpbaopafgabTotals.lean).
  GIVEN WITH THE SEED: the statements are not yours to turn. If you find one false, say at which input.
  Laid BY PROGRAM, IN A SANDBOX (cutbox-rows.mjs): the forced cells as the released guide's own fill.sh prints them over the translation a384cbb63979c93c… (all of the seat's roots in one cut). By AI agents, Wed Nov 11 2026. No macro, syntax, notation, axiom, sorry.
-/
import Derived.Test.YtiadcpbaopafgabChecked
import GoSem.Claim
import GoSem.ClaimJoined
import GoSem.ClaimMapViews
import Derived.JoinedTies
import Derived.KernelRfl
namespace Go.Proofs.Ytiadcpbaopafgab
/- THE CELL 'sum', in the pinned program and in every row, IS THE sha256 OF THE DUMP (.gsa) THAT YtiadcpbaopafgabProg.lean LOADS. Nothing in Lean hashes anything: it is a label: what it is worth is what the hold of that sum in a sandbox is worth. -/
noncomputable def Try.pinned : Pinned := { name := "ytiadcpbaopafgab", sum := "a384cbb63979c93ce815aba784e3389cc9ec879b7e60286fbed188749856c1b6", checked := Try.checked }
namespace Rows
def none {H : Type} : Left H := { results := [], args := [] }

/-- 'emenderlaw08.PosZero': WHATEVER THE INPUT: true; the input reads as it did. -/
def posZeroSpec : ChangeSpec := { name := "posZero", fn := fun _ => fun
  | [d1, d2] => { results := [.lit (.bool true)], args := [d1, d2] }
  | _ => none }
def posZeroRow : OpenClaim := { program := "ytiadcpbaopafgab", sum := "a384cbb63979c93ce815aba784e3389cc9ec879b7e60286fbed188749856c1b6", func := "emender/emenderlaw08.PosZero", spec := "posZero", unfollowed := true, recurses := true, apart := false }
def PosZeroSaid : Prop := posZeroRow.holds Try.pinned (OpenSpec.ofChange posZeroSpec)

/-- ITS FALSE NEIGHBOUR: 'it returns false'. Refute it at one input. -/
def posZeroWrong : ChangeSpec := { name := "posZero", fn := fun _ => fun
  | [d1, d2] => { results := [.lit (.bool false)], args := [d1, d2] }
  | _ => none }
def PosZeroWrongFalsely : Prop := posZeroRow.holds Try.pinned (OpenSpec.ofChange posZeroWrong)

/-- 'emenderlaw08.PosEmpty': WHATEVER THE INPUT: true; the input reads as it did. -/
def posEmptySpec : ChangeSpec := { name := "posEmpty", fn := fun _ => fun
  | [d1, d2, d3] => { results := [.lit (.bool true)], args := [d1, d2, d3] }
  | _ => none }
def posEmptyRow : OpenClaim := { program := "ytiadcpbaopafgab", sum := "a384cbb63979c93ce815aba784e3389cc9ec879b7e60286fbed188749856c1b6", func := "emender/emenderlaw08.PosEmpty", spec := "posEmpty", unfollowed := true, recurses := true, apart := false }
def PosEmptySaid : Prop := posEmptyRow.holds Try.pinned (OpenSpec.ofChange posEmptySpec)

/-- ITS FALSE NEIGHBOUR: 'it returns false'. Refute it at one input. -/
def posEmptyWrong : ChangeSpec := { name := "posEmpty", fn := fun _ => fun
  | [d1, d2, d3] => { results := [.lit (.bool false)], args := [d1, d2, d3] }
  | _ => none }
def PosEmptyWrongFalsely : Prop := posEmptyRow.holds Try.pinned (OpenSpec.ofChange posEmptyWrong)

/-- 'emenderlaw08.PosAdds': WHATEVER THE INPUT: true; the input reads as it did. -/
def posAddsSpec : ChangeSpec := { name := "posAdds", fn := fun _ => fun
  | [d1, d2, d3] => { results := [.lit (.bool true)], args := [d1, d2, d3] }
  | _ => none }
def posAddsRow : OpenClaim := { program := "ytiadcpbaopafgab", sum := "a384cbb63979c93ce815aba784e3389cc9ec879b7e60286fbed188749856c1b6", func := "emender/emenderlaw08.PosAdds", spec := "posAdds", unfollowed := true, recurses := true, apart := false }
def PosAddsSaid : Prop := posAddsRow.holds Try.pinned (OpenSpec.ofChange posAddsSpec)

/-- ITS FALSE NEIGHBOUR: 'it returns false'. Refute it at one input. -/
def posAddsWrong : ChangeSpec := { name := "posAdds", fn := fun _ => fun
  | [d1, d2, d3] => { results := [.lit (.bool false)], args := [d1, d2, d3] }
  | _ => none }
def PosAddsWrongFalsely : Prop := posAddsRow.holds Try.pinned (OpenSpec.ofChange posAddsWrong)

/- THE SECOND FORM. 'bulk': how many values and letters a reading holds, each counted each time it is reached (what is shared counts as often as it is met; a slice's spare places count too). A statement '..UptoSaid' is the law's where the arguments, and the package variables that the reading takes, are together of bulk at most 1048576: NARROWER than '..Said'. Prove '..Said' where nothing that the law and all that it calls make is longer than what came in: it says more and counts as full. Else prove '..UptoSaid'. A law counts once. -/
mutual
def uptoBulk {H : Type} : DataW H → Nat
  | .lit (.string bytes) => bytes.length + 1
  | .lit _ => 1
  | .nil => 1
  | .ptr d => uptoBulk d + 1
  | .slice elems spare => uptoBulkAll elems + uptoBulkAll spare + 1
  | .agg parts => uptoBulkAll parts + 1
  | .iface _ d => uptoBulk d + 1
  | .map entries => uptoBulkEntries entries + 1
  | .held _ => 1
def uptoBulkAll {H : Type} : List (DataW H) → Nat
  | [] => 0
  | d :: r => uptoBulk d + uptoBulkAll r
def uptoBulkEntries {H : Type} : List (Lit × DataW H) → Nat
  | [] => 0
  | x :: r => uptoBulkEntry x + uptoBulkEntries r
def uptoBulkEntry {H : Type} : Lit × DataW H → Nat
  | (.string bytes, d) => bytes.length + uptoBulk d + 1
  | (_, d) => uptoBulk d + 1
 end
def uptoSmall : (H : Type) → List (DataW H) → Bool := fun _ ds => decide (uptoBulkAll ds ≤ 1048576)
def OpenSpec.upto (s : _root_.Go.ChangeSpec) : _root_.Go.OpenSpec := { _root_.Go.OpenSpec.ofChange s with cond := some uptoSmall }

/-- 'emenderlaw08.PosZero', WHERE WHAT IT READS IS OF BULK AT MOST 1048576: true; the input reads as it did. -/
def posZeroUptoRow : OpenClaim := { program := "ytiadcpbaopafgab", sum := "a384cbb63979c93ce815aba784e3389cc9ec879b7e60286fbed188749856c1b6", func := "emender/emenderlaw08.PosZero", spec := "posZero", unfollowed := true, recurses := true, apart := false, narrowed := true }
def PosZeroUptoSaid : Prop := posZeroUptoRow.holds Try.pinned (OpenSpec.upto posZeroSpec)

/-- 'emenderlaw08.PosEmpty', WHERE WHAT IT READS IS OF BULK AT MOST 1048576: true; the input reads as it did. -/
def posEmptyUptoRow : OpenClaim := { program := "ytiadcpbaopafgab", sum := "a384cbb63979c93ce815aba784e3389cc9ec879b7e60286fbed188749856c1b6", func := "emender/emenderlaw08.PosEmpty", spec := "posEmpty", unfollowed := true, recurses := true, apart := false, narrowed := true }
def PosEmptyUptoSaid : Prop := posEmptyUptoRow.holds Try.pinned (OpenSpec.upto posEmptySpec)

/-- 'emenderlaw08.PosAdds', WHERE WHAT IT READS IS OF BULK AT MOST 1048576: true; the input reads as it did. -/
def posAddsUptoRow : OpenClaim := { program := "ytiadcpbaopafgab", sum := "a384cbb63979c93ce815aba784e3389cc9ec879b7e60286fbed188749856c1b6", func := "emender/emenderlaw08.PosAdds", spec := "posAdds", unfollowed := true, recurses := true, apart := false, narrowed := true }
def PosAddsUptoSaid : Prop := posAddsUptoRow.holds Try.pinned (OpenSpec.upto posAddsSpec)

end Rows
end Go.Proofs.Ytiadcpbaopafgab
