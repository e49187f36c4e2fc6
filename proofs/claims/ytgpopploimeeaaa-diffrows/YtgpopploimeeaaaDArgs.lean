/-
  PROVED HERE: how long a slice of tokens that came in may be; by the reach, and by the bulk.
-/
import Derived.Test.YtgpopploimeeaaaRows
import Derived.Test.YtgpopploimeeaaaArgs
import Derived.OpenShut
import Derived.DataShut
import Derived.SizedLaws
import Derived.Carry
namespace Go.Proofs.Ytgpopploimeeaaa
open Go.ChangeShapes Go.WideShapes Go.ChangeAt Go.RowKit

theorem toks_sized {H : Type} {ts : List TypeId} {ds : List (DataW H)} (h : (DataW.weightsEach Try.prog ts ds).all (· ≤ reachBytes) = true) {j : Nat} {d : DataW H} {len cap : Nat} (ht : ts[j]? = some 22) (hd : ds[j]? = some d)
    (hh : len = 0 ∨ ∃ elems spare, d = .slice elems spare ∧ len ≤ elems.length ∧ cap ≤ elems.length + spare.length) : len ≤ 4398046511104 := by
  rcases hh with h0 | ⟨elems, spare, rfl, hl, hc⟩
  · omega
  · have := sized_slice h ht hd Try.underlying22
    rw [show Try.prog.bytesOf 62 = 32 from by kernel_rfl] at this
    have h2 : reachBytes ≤ 140737488351232 := by decide
    omega
/-- What is read of many is at least as much as there are. -/
theorem bulk_all {H : Type} (ds : List (DataW H)) : ds.length ≤ Rows.uptoBulkAll ds := by
  induction ds with
  | nil => exact Nat.zero_le _
  | cons d r ih =>
    have : 1 ≤ Rows.uptoBulk d := by
      cases d with
      | lit x => cases x <;> simp [Rows.uptoBulk]
      | _ => simp [Rows.uptoBulk]
    rw [Rows.uptoBulkAll, List.length_cons]
    omega
theorem toks_bulk {H : Type} {d : DataW H} {len cap : Nat} (hh : len = 0 ∨ ∃ elems spare, d = .slice elems spare ∧ len ≤ elems.length ∧ cap ≤ elems.length + spare.length) : len ≤ Rows.uptoBulk d := by
  rcases hh with h0 | ⟨elems, spare, rfl, hl, _⟩
  · omega
  · have := bulk_all elems
    rw [Rows.uptoBulk]
    omega
end Go.Proofs.Ytgpopploimeeaaa
