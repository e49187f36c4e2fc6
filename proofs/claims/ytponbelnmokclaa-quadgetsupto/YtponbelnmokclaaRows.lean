/-
  No cell of these rows narrows 'for every input' (looked for: loops, veiled, ifaces, maps, wideKeys, modest, calm, conditions, laid).
  DERIVED. THE GIVEN ROWS OF THIS SEAT. 6 by the template 'for every input the law returns true; each argument reads behind the call as it read before'; 0 by the template 'total and deterministic' (their statements: YtponbelnmokclaaTotals.lean).
  GIVEN WITH THE SEED: the statements are not yours to turn. If you find one false, say at which input.
  Laid BY PROGRAM, IN A SANDBOX (cutbox-rows.mjs): the forced cells as the released guide's own fill.sh prints them over the translation ebecdb753a9e307f… (all of the seat's roots in one cut). By AI agents, Wed Nov 11 2026. No macro, syntax, notation, axiom, sorry.
-/
import Derived.Test.YtponbelnmokclaaChecked
import GoSem.Claim
import GoSem.ClaimJoined
import GoSem.ClaimMapViews
import Derived.JoinedTies
import Derived.KernelRfl
namespace Go.Proofs.Ytponbelnmokclaa
/- THE CELL 'sum', in the pinned program and in every row, IS THE sha256 OF THE DUMP (.gsa) THAT YtponbelnmokclaaProg.lean LOADS. Nothing in Lean hashes anything: it is a label: what it is worth is what the hold of that sum in a sandbox is worth. -/
noncomputable def Try.pinned : Pinned := { name := "ytponbelnmokclaa", sum := "ebecdb753a9e307f0fc7d948c2ef71839cff7c4da72ef0c120db1329212494e2", checked := Try.checked }
namespace Rows
def none {H : Type} : Left H := { results := [], args := [] }

/-- 'emenderlaw01.QuadPuts': WHATEVER THE INPUT: true; the input reads as it did. -/
def quadPutsSpec : ChangeSpec := { name := "quadPuts", fn := fun _ => fun
  | [d1, d2] => { results := [.lit (.bool true)], args := [d1, d2] }
  | _ => none }
def quadPutsRow : OpenClaim := { program := "ytponbelnmokclaa", sum := "ebecdb753a9e307f0fc7d948c2ef71839cff7c4da72ef0c120db1329212494e2", func := "emender/emenderlaw01.QuadPuts", spec := "quadPuts", unfollowed := true, recurses := true, apart := false }
def QuadPutsSaid : Prop := quadPutsRow.holds Try.pinned (OpenSpec.ofChange quadPutsSpec)

/-- ITS FALSE NEIGHBOUR: 'it returns false'. Refute it at one input. -/
def quadPutsWrong : ChangeSpec := { name := "quadPuts", fn := fun _ => fun
  | [d1, d2] => { results := [.lit (.bool false)], args := [d1, d2] }
  | _ => none }
def QuadPutsWrongFalsely : Prop := quadPutsRow.holds Try.pinned (OpenSpec.ofChange quadPutsWrong)

/-- 'emenderlaw01.QuadGets': WHATEVER THE INPUT: true; the input reads as it did. -/
def quadGetsSpec : ChangeSpec := { name := "quadGets", fn := fun _ => fun
  | [d1, d2] => { results := [.lit (.bool true)], args := [d1, d2] }
  | _ => none }
def quadGetsRow : OpenClaim := { program := "ytponbelnmokclaa", sum := "ebecdb753a9e307f0fc7d948c2ef71839cff7c4da72ef0c120db1329212494e2", func := "emender/emenderlaw01.QuadGets", spec := "quadGets", unfollowed := true, recurses := true, apart := false }
def QuadGetsSaid : Prop := quadGetsRow.holds Try.pinned (OpenSpec.ofChange quadGetsSpec)

/-- ITS FALSE NEIGHBOUR: 'it returns false'. Refute it at one input. -/
def quadGetsWrong : ChangeSpec := { name := "quadGets", fn := fun _ => fun
  | [d1, d2] => { results := [.lit (.bool false)], args := [d1, d2] }
  | _ => none }
def QuadGetsWrongFalsely : Prop := quadGetsRow.holds Try.pinned (OpenSpec.ofChange quadGetsWrong)

/-- 'emenderlaw01.QuadBack': WHATEVER THE INPUT: true; the input reads as it did. -/
def quadBackSpec : ChangeSpec := { name := "quadBack", fn := fun _ => fun
  | [d1, d2] => { results := [.lit (.bool true)], args := [d1, d2] }
  | _ => none }
def quadBackRow : OpenClaim := { program := "ytponbelnmokclaa", sum := "ebecdb753a9e307f0fc7d948c2ef71839cff7c4da72ef0c120db1329212494e2", func := "emender/emenderlaw01.QuadBack", spec := "quadBack", unfollowed := true, recurses := true, apart := false }
def QuadBackSaid : Prop := quadBackRow.holds Try.pinned (OpenSpec.ofChange quadBackSpec)

/-- ITS FALSE NEIGHBOUR: 'it returns false'. Refute it at one input. -/
def quadBackWrong : ChangeSpec := { name := "quadBack", fn := fun _ => fun
  | [d1, d2] => { results := [.lit (.bool false)], args := [d1, d2] }
  | _ => none }
def QuadBackWrongFalsely : Prop := quadBackRow.holds Try.pinned (OpenSpec.ofChange quadBackWrong)

/-- 'emenderlaw01.QuadLeast': WHATEVER THE INPUT: true; the input reads as it did. -/
def quadLeastSpec : ChangeSpec := { name := "quadLeast", fn := fun _ => fun
  | [d1, d2] => { results := [.lit (.bool true)], args := [d1, d2] }
  | _ => none }
def quadLeastRow : OpenClaim := { program := "ytponbelnmokclaa", sum := "ebecdb753a9e307f0fc7d948c2ef71839cff7c4da72ef0c120db1329212494e2", func := "emender/emenderlaw01.QuadLeast", spec := "quadLeast", unfollowed := true, recurses := true, apart := false }
def QuadLeastSaid : Prop := quadLeastRow.holds Try.pinned (OpenSpec.ofChange quadLeastSpec)

/-- ITS FALSE NEIGHBOUR: 'it returns false'. Refute it at one input. -/
def quadLeastWrong : ChangeSpec := { name := "quadLeast", fn := fun _ => fun
  | [d1, d2] => { results := [.lit (.bool false)], args := [d1, d2] }
  | _ => none }
def QuadLeastWrongFalsely : Prop := quadLeastRow.holds Try.pinned (OpenSpec.ofChange quadLeastWrong)

/-- 'emenderlaw01.QuadJoins': WHATEVER THE INPUT: true; the input reads as it did. -/
def quadJoinsSpec : ChangeSpec := { name := "quadJoins", fn := fun _ => fun
  | [d1, d2, d3] => { results := [.lit (.bool true)], args := [d1, d2, d3] }
  | _ => none }
def quadJoinsRow : OpenClaim := { program := "ytponbelnmokclaa", sum := "ebecdb753a9e307f0fc7d948c2ef71839cff7c4da72ef0c120db1329212494e2", func := "emender/emenderlaw01.QuadJoins", spec := "quadJoins", unfollowed := true, recurses := true, apart := false }
def QuadJoinsSaid : Prop := quadJoinsRow.holds Try.pinned (OpenSpec.ofChange quadJoinsSpec)

/-- ITS FALSE NEIGHBOUR: 'it returns false'. Refute it at one input. -/
def quadJoinsWrong : ChangeSpec := { name := "quadJoins", fn := fun _ => fun
  | [d1, d2, d3] => { results := [.lit (.bool false)], args := [d1, d2, d3] }
  | _ => none }
def QuadJoinsWrongFalsely : Prop := quadJoinsRow.holds Try.pinned (OpenSpec.ofChange quadJoinsWrong)

/-- 'emenderlaw01.QuadOrder': WHATEVER THE INPUT: true; the input reads as it did. -/
def quadOrderSpec : ChangeSpec := { name := "quadOrder", fn := fun _ => fun
  | [d1, d2] => { results := [.lit (.bool true)], args := [d1, d2] }
  | _ => none }
def quadOrderRow : OpenClaim := { program := "ytponbelnmokclaa", sum := "ebecdb753a9e307f0fc7d948c2ef71839cff7c4da72ef0c120db1329212494e2", func := "emender/emenderlaw01.QuadOrder", spec := "quadOrder", unfollowed := true, recurses := true, apart := false }
def QuadOrderSaid : Prop := quadOrderRow.holds Try.pinned (OpenSpec.ofChange quadOrderSpec)

/-- ITS FALSE NEIGHBOUR: 'it returns false'. Refute it at one input. -/
def quadOrderWrong : ChangeSpec := { name := "quadOrder", fn := fun _ => fun
  | [d1, d2] => { results := [.lit (.bool false)], args := [d1, d2] }
  | _ => none }
def QuadOrderWrongFalsely : Prop := quadOrderRow.holds Try.pinned (OpenSpec.ofChange quadOrderWrong)

/- THE SECOND FORM. 'bulk': how many values and letters a reading holds, each counted each time it is reached (what is shared counts as often as it is met; a slice's spare places count too). A statement '..UptoSaid' is the law's where the arguments, and the package variables that the reading takes, are together of bulk at most 1048576: NARROWER than '..Said'. Prove '..Said' where nothing that the law and all that it calls make is longer than what came in: it says more and counts as full. Else prove '..UptoSaid'. A law counts once. -/
mutual
def uptoBulk {H : Type} : DataW H → Nat
  | .lit (.string bytes) => bytes.length + 1
  | .lit _ => 1
  | .nil => 1
  | .ptr d => uptoBulk d + 1
  | .slice elems spare => uptoBulkAll elems + uptoBulkAll spare + 1
  | .agg parts => uptoBulkAll parts + 1
  | .iface _ d => uptoBulk d + 1
  | .map entries => uptoBulkEntries entries + 1
  | .held _ => 1
def uptoBulkAll {H : Type} : List (DataW H) → Nat
  | [] => 0
  | d :: r => uptoBulk d + uptoBulkAll r
def uptoBulkEntries {H : Type} : List (Lit × DataW H) → Nat
  | [] => 0
  | x :: r => uptoBulkEntry x + uptoBulkEntries r
def uptoBulkEntry {H : Type} : Lit × DataW H → Nat
  | (.string bytes, d) => bytes.length + uptoBulk d + 1
  | (_, d) => uptoBulk d + 1
 end
def uptoSmall : (H : Type) → List (DataW H) → Bool := fun _ ds => decide (uptoBulkAll ds ≤ 1048576)
def OpenSpec.upto (s : _root_.Go.ChangeSpec) : _root_.Go.OpenSpec := { _root_.Go.OpenSpec.ofChange s with cond := some uptoSmall }

/-- 'emenderlaw01.QuadPuts', WHERE WHAT IT READS IS OF BULK AT MOST 1048576: true; the input reads as it did. -/
def quadPutsUptoRow : OpenClaim := { program := "ytponbelnmokclaa", sum := "ebecdb753a9e307f0fc7d948c2ef71839cff7c4da72ef0c120db1329212494e2", func := "emender/emenderlaw01.QuadPuts", spec := "quadPuts", unfollowed := true, recurses := true, apart := false, narrowed := true }
def QuadPutsUptoSaid : Prop := quadPutsUptoRow.holds Try.pinned (OpenSpec.upto quadPutsSpec)

/-- 'emenderlaw01.QuadGets', WHERE WHAT IT READS IS OF BULK AT MOST 1048576: true; the input reads as it did. -/
def quadGetsUptoRow : OpenClaim := { program := "ytponbelnmokclaa", sum := "ebecdb753a9e307f0fc7d948c2ef71839cff7c4da72ef0c120db1329212494e2", func := "emender/emenderlaw01.QuadGets", spec := "quadGets", unfollowed := true, recurses := true, apart := false, narrowed := true }
def QuadGetsUptoSaid : Prop := quadGetsUptoRow.holds Try.pinned (OpenSpec.upto quadGetsSpec)

/-- 'emenderlaw01.QuadBack', WHERE WHAT IT READS IS OF BULK AT MOST 1048576: true; the input reads as it did. -/
def quadBackUptoRow : OpenClaim := { program := "ytponbelnmokclaa", sum := "ebecdb753a9e307f0fc7d948c2ef71839cff7c4da72ef0c120db1329212494e2", func := "emender/emenderlaw01.QuadBack", spec := "quadBack", unfollowed := true, recurses := true, apart := false, narrowed := true }
def QuadBackUptoSaid : Prop := quadBackUptoRow.holds Try.pinned (OpenSpec.upto quadBackSpec)

/-- 'emenderlaw01.QuadLeast', WHERE WHAT IT READS IS OF BULK AT MOST 1048576: true; the input reads as it did. -/
def quadLeastUptoRow : OpenClaim := { program := "ytponbelnmokclaa", sum := "ebecdb753a9e307f0fc7d948c2ef71839cff7c4da72ef0c120db1329212494e2", func := "emender/emenderlaw01.QuadLeast", spec := "quadLeast", unfollowed := true, recurses := true, apart := false, narrowed := true }
def QuadLeastUptoSaid : Prop := quadLeastUptoRow.holds Try.pinned (OpenSpec.upto quadLeastSpec)

/-- 'emenderlaw01.QuadJoins', WHERE WHAT IT READS IS OF BULK AT MOST 1048576: true; the input reads as it did. -/
def quadJoinsUptoRow : OpenClaim := { program := "ytponbelnmokclaa", sum := "ebecdb753a9e307f0fc7d948c2ef71839cff7c4da72ef0c120db1329212494e2", func := "emender/emenderlaw01.QuadJoins", spec := "quadJoins", unfollowed := true, recurses := true, apart := false, narrowed := true }
def QuadJoinsUptoSaid : Prop := quadJoinsUptoRow.holds Try.pinned (OpenSpec.upto quadJoinsSpec)

/-- 'emenderlaw01.QuadOrder', WHERE WHAT IT READS IS OF BULK AT MOST 1048576: true; the input reads as it did. -/
def quadOrderUptoRow : OpenClaim := { program := "ytponbelnmokclaa", sum := "ebecdb753a9e307f0fc7d948c2ef71839cff7c4da72ef0c120db1329212494e2", func := "emender/emenderlaw01.QuadOrder", spec := "quadOrder", unfollowed := true, recurses := true, apart := false, narrowed := true }
def QuadOrderUptoSaid : Prop := quadOrderUptoRow.holds Try.pinned (OpenSpec.upto quadOrderSpec)

end Rows
end Go.Proofs.Ytponbelnmokclaa
