/-
  No cell of these rows narrows 'for every input' (looked for: loops, veiled, ifaces, maps, wideKeys, modest, calm, conditions, laid).
  DERIVED. THE GIVEN ROWS OF THIS SEAT. 3 by the template 'for every input the law returns true; each argument reads behind the call as it read before'; 0 by the template 'total and deterministic' (their statements: YteplmpafebeklaaTotals.lean).
  GIVEN WITH THE SEED: the statements are not yours to turn. If you find one false, say at which input.
  Laid BY PROGRAM, IN A SANDBOX (cutbox-rows.mjs): the forced cells as the released guide's own fill.sh prints them over the translation d69c9062b3c02e3b… (all of the seat's roots in one cut). By AI agents, Wed Nov 11 2026. No macro, syntax, notation, axiom, sorry.
-/
import Derived.Test.YteplmpafebeklaaChecked
import GoSem.Claim
import GoSem.ClaimJoined
import GoSem.ClaimMapViews
import Derived.JoinedTies
import Derived.KernelRfl
namespace Go.Proofs.Yteplmpafebeklaa
/- THE CELL 'sum', in the pinned program and in every row, IS THE sha256 OF THE DUMP (.gsa) THAT YteplmpafebeklaaProg.lean LOADS. Nothing in Lean hashes anything: it is a label: what it is worth is what the hold of that sum in a sandbox is worth. -/
noncomputable def Try.pinned : Pinned := { name := "yteplmpafebeklaa", sum := "d69c9062b3c02e3bcef2b6e57954b4d75ea8d4afd50b8ce193e194d0fc5abb3d", checked := Try.checked }
namespace Rows
def none {H : Type} : Left H := { results := [], args := [] }

/-- 'emenderlaw03.MarkLists': WHATEVER THE INPUT: true; the input reads as it did. -/
def markListsSpec : ChangeSpec := { name := "markLists", fn := fun _ => fun
  | [d1, d2] => { results := [.lit (.bool true)], args := [d1, d2] }
  | _ => none }
def markListsRow : OpenClaim := { program := "yteplmpafebeklaa", sum := "d69c9062b3c02e3bcef2b6e57954b4d75ea8d4afd50b8ce193e194d0fc5abb3d", func := "emender/emenderlaw03.MarkLists", spec := "markLists", apart := false }
def MarkListsSaid : Prop := markListsRow.holds Try.pinned (OpenSpec.ofChange markListsSpec)

/-- ITS FALSE NEIGHBOUR: 'it returns false'. Refute it at one input. -/
def markListsWrong : ChangeSpec := { name := "markLists", fn := fun _ => fun
  | [d1, d2] => { results := [.lit (.bool false)], args := [d1, d2] }
  | _ => none }
def MarkListsWrongFalsely : Prop := markListsRow.holds Try.pinned (OpenSpec.ofChange markListsWrong)

/-- 'emenderlaw03.MarkSum': WHATEVER THE INPUT: true; the input reads as it did. -/
def markSumSpec : ChangeSpec := { name := "markSum", fn := fun _ => fun
  | [d] => { results := [.lit (.bool true)], args := [d] }
  | _ => none }
def markSumRow : OpenClaim := { program := "yteplmpafebeklaa", sum := "d69c9062b3c02e3bcef2b6e57954b4d75ea8d4afd50b8ce193e194d0fc5abb3d", func := "emender/emenderlaw03.MarkSum", spec := "markSum", apart := false }
def MarkSumSaid : Prop := markSumRow.holds Try.pinned (OpenSpec.ofChange markSumSpec)

/-- ITS FALSE NEIGHBOUR: 'it returns false'. Refute it at one input. -/
def markSumWrong : ChangeSpec := { name := "markSum", fn := fun _ => fun
  | [d] => { results := [.lit (.bool false)], args := [d] }
  | _ => none }
def MarkSumWrongFalsely : Prop := markSumRow.holds Try.pinned (OpenSpec.ofChange markSumWrong)

/-- 'emenderlaw03.MarkWithin': WHATEVER THE INPUT: true; the input reads as it did. -/
def markWithinSpec : ChangeSpec := { name := "markWithin", fn := fun _ => fun
  | [d1, d2, d3] => { results := [.lit (.bool true)], args := [d1, d2, d3] }
  | _ => none }
def markWithinRow : OpenClaim := { program := "yteplmpafebeklaa", sum := "d69c9062b3c02e3bcef2b6e57954b4d75ea8d4afd50b8ce193e194d0fc5abb3d", func := "emender/emenderlaw03.MarkWithin", spec := "markWithin", apart := false }
def MarkWithinSaid : Prop := markWithinRow.holds Try.pinned (OpenSpec.ofChange markWithinSpec)

/-- ITS FALSE NEIGHBOUR: 'it returns false'. Refute it at one input. -/
def markWithinWrong : ChangeSpec := { name := "markWithin", fn := fun _ => fun
  | [d1, d2, d3] => { results := [.lit (.bool false)], args := [d1, d2, d3] }
  | _ => none }
def MarkWithinWrongFalsely : Prop := markWithinRow.holds Try.pinned (OpenSpec.ofChange markWithinWrong)

/- THE SECOND FORM. 'bulk': how many values and letters a reading holds, each counted each time it is reached (what is shared counts as often as it is met; a slice's spare places count too). A statement '..UptoSaid' is the law's where the arguments, and the package variables that the reading takes, are together of bulk at most 1048576: NARROWER than '..Said'. Prove '..Said' where nothing that the law and all that it calls make is longer than what came in: it says more and counts as full. Else prove '..UptoSaid'. A law counts once. -/
mutual
def uptoBulk {H : Type} : DataW H → Nat
  | .lit (.string bytes) => bytes.length + 1
  | .lit _ => 1
  | .nil => 1
  | .ptr d => uptoBulk d + 1
  | .slice elems spare => uptoBulkAll elems + uptoBulkAll spare + 1
  | .agg parts => uptoBulkAll parts + 1
  | .iface _ d => uptoBulk d + 1
  | .map entries => uptoBulkEntries entries + 1
  | .held _ => 1
def uptoBulkAll {H : Type} : List (DataW H) → Nat
  | [] => 0
  | d :: r => uptoBulk d + uptoBulkAll r
def uptoBulkEntries {H : Type} : List (Lit × DataW H) → Nat
  | [] => 0
  | x :: r => uptoBulkEntry x + uptoBulkEntries r
def uptoBulkEntry {H : Type} : Lit × DataW H → Nat
  | (.string bytes, d) => bytes.length + uptoBulk d + 1
  | (_, d) => uptoBulk d + 1
 end
def uptoSmall : (H : Type) → List (DataW H) → Bool := fun _ ds => decide (uptoBulkAll ds ≤ 1048576)
def OpenSpec.upto (s : _root_.Go.ChangeSpec) : _root_.Go.OpenSpec := { _root_.Go.OpenSpec.ofChange s with cond := some uptoSmall }

/-- 'emenderlaw03.MarkLists', WHERE WHAT IT READS IS OF BULK AT MOST 1048576: true; the input reads as it did. -/
def markListsUptoRow : OpenClaim := { program := "yteplmpafebeklaa", sum := "d69c9062b3c02e3bcef2b6e57954b4d75ea8d4afd50b8ce193e194d0fc5abb3d", func := "emender/emenderlaw03.MarkLists", spec := "markLists", apart := false, narrowed := true }
def MarkListsUptoSaid : Prop := markListsUptoRow.holds Try.pinned (OpenSpec.upto markListsSpec)

/-- 'emenderlaw03.MarkSum', WHERE WHAT IT READS IS OF BULK AT MOST 1048576: true; the input reads as it did. -/
def markSumUptoRow : OpenClaim := { program := "yteplmpafebeklaa", sum := "d69c9062b3c02e3bcef2b6e57954b4d75ea8d4afd50b8ce193e194d0fc5abb3d", func := "emender/emenderlaw03.MarkSum", spec := "markSum", apart := false, narrowed := true }
def MarkSumUptoSaid : Prop := markSumUptoRow.holds Try.pinned (OpenSpec.upto markSumSpec)

/-- 'emenderlaw03.MarkWithin', WHERE WHAT IT READS IS OF BULK AT MOST 1048576: true; the input reads as it did. -/
def markWithinUptoRow : OpenClaim := { program := "yteplmpafebeklaa", sum := "d69c9062b3c02e3bcef2b6e57954b4d75ea8d4afd50b8ce193e194d0fc5abb3d", func := "emender/emenderlaw03.MarkWithin", spec := "markWithin", apart := false, narrowed := true }
def MarkWithinUptoSaid : Prop := markWithinUptoRow.holds Try.pinned (OpenSpec.upto markWithinSpec)

end Rows
end Go.Proofs.Yteplmpafebeklaa
