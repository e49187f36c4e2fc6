/-
  PROVED HERE: pos.Invert, as the laws take it.
-/
import Derived.Test.YtiadcpbaopafgaaInv
namespace Go.Proofs.Ytiadcpbaopafgaa
open Go.RowKit

theorem inv_short (l : List Rng) : (inv l).length ≤ 4 := by
  unfold inv
  split
  · rename_i h
    exact (right_len h.2).1
  · simp
/-- Invert, as the laws take it. -/
theorem inv_call (a : Option Addr) (len cap : Nat) (l : List Rng) (w : World) (hl : Rngs w a len l) (hz : len ≤ 140737488355328) :
    Calls Try.prog 14 #[.slice a len cap] w fun e w' => ∃ a1 c1, e = .returned (.tuple #[.slice a1 (inv l).length c1, .int .i64 (invE l)]) ∧ Rngs w' a1 (inv l).length (inv l) ∧ Below w.heap.size w w' := by
  refine (invert_calls a len cap l w hl hz).mono ?_
  rintro e w' ⟨v, rfl, h1, h2⟩
  obtain ⟨a1, c1, rfl, h3, _⟩ := rngs_of_owns h1
  exact ⟨a1, c1, rfl, h3, h2⟩
end Go.Proofs.Ytiadcpbaopafgaa
