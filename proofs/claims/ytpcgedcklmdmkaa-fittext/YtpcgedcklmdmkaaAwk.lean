/-
  PROVED HERE: awake: what it returns; nothing that lay before is turned.
-/
import Derived.Test.YtpcgedcklmdmkaaClos
namespace Go.Proofs.Ytpcgedcklmdmkaa
open Go.RowKit

set_option maxRecDepth 100000 in
set_option maxHeartbeats 1000000 in
theorem awake_calls (w : World) : Calls Try.prog 11 #[] w fun e w' => e = .returned (.bool true) ∧ Below w.heap.size w w' := by
  have hB0 : ∀ o, Below w.heap.size w (w.alloc o) := fun o => (Below.refl _ w).alloc (Nat.le_refl _) o
  have hc := fclosed_calls _ 1 1 _ _ (new_toks w ⟨1, 1, 0, 0⟩) (by omega)
  rw [show (closed [⟨1, 1, 0, 0⟩]).length = 2 from by decide +kernel] at hc
  simp only at hc
  go_enter Try.func11, Try.ntmps11
  go_wp2_with fail
  refine hc.mono ?_
  rintro e W ⟨a', cp, rfl, _, hB⟩
  go_wp2
  go_ret
  exact ⟨rfl, (hB0 _).trans (hB.mono (hB0 _).size)⟩
end Go.Proofs.Ytpcgedcklmdmkaa
