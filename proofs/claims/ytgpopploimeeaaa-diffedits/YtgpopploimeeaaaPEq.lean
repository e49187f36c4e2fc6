/-
  PROVED HERE: the program's own comparison of two tokens.
-/
import Derived.Test.YtgpopploimeeaaaRLike
namespace Go.Proofs.Ytgpopploimeeaaa
open Go.RowKit

theorem peq_calls (x y : Tok) (W : World) : Calls Try.prog 25 #[tokV x, tokV y] W fun e W' => e = .returned (.bool (tokEq x y)) ∧ Below W.heap.size W W' := by
  have hg := fun (x y : Operand) (xs ys : Array Value) (W : World) => tok_eqGuard .eql x y xs ys W
  have hq := fun W => tok_eql x y W
  generalize tokEq x y = d at *
  simp only [tokV] at *
  obtain ⟨xk, xt, xn, xm⟩ := x
  obtain ⟨yk, yt, yn, ym⟩ := y
  simp only at *
  go_enter Try.func25, Try.ntmps25
  go_wp2
  go_ret
  exact ⟨rfl, (Below.refl _ W).alloc (Nat.le_refl _) _ |>.alloc (by rw [World.size_alloc]; omega) _⟩
end Go.Proofs.Ytgpopploimeeaaa
