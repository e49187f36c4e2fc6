/-
  PROVED HERE: two tokens compared.
-/
import Derived.Test.YtgpopploimeeaaaTok
import Derived.WalkSmall
import Derived.BigQuiet
import Derived.Deep.QuietTactic
import Derived.Laws.StructEq
namespace Go.Proofs.Ytgpopploimeeaaa
open Go.RowKit

theorem tok_eqGuard (op : BinOp) (x y : Operand) (xs ys : Array Value) (W : World) : (eqGuard op 62 x y (.agg xs) (.agg ys)).run Try.prog W = .ok () W := run_eqGuard_agg W op 62 x y xs ys (by kernel_rfl)
theorem tok_equal (x y : Tok) (W : World) : (Op.equalIn 10000 62 (tokV x) (tokV y)).run Try.prog W = .ok (tokEq x y) W := by
  have u3 := Try.underlying3
  have a3 := Try.isAgg3
  have z3 := Try.sizeOf3
  have hS : Try.prog.underlying 62 = some (.struct (Try.prog.fieldsOf 62)) := by kernel_rfl
  have hp : Try.prog.stoodInHeld 62 = false := by kernel_rfl
  obtain ⟨k, t, n, m⟩ := x
  obtain ⟨k', t', n', m'⟩ := y
  simp only [tokV]
  rw [show (10000 : Nat) = 9999 + 1 from rfl, run_equalIn_agg W 9999 62 _ _ hS hp]
  simp only [Program.fieldsOf, Try.underlying62]
  go_simp
  unfold tokEq
  by_cases h1 : k = k' <;> by_cases h2 : t = t' <;> by_cases h3 : n = n' <;> by_cases h4 : m = m' <;> simp [h1, h2, h3, h4]
theorem tok_neq (x y : Tok) (W : World) : (binOp .neq 62 (tokV x) (tokV y)).run Try.prog W = .ok (.bool (!tokEq x y)) W := by
  rw [show tokV x = .agg #[.int .i64 x.k, .int .i64 x.t, .int .i64 x.n, .int .i64 x.m] from rfl, show tokV y = .agg #[.int .i64 y.k, .int .i64 y.t, .int .i64 y.n, .int .i64 y.m] from rfl, run_neq_struct]
  have h := tok_equal x y W
  simp only [tokV] at h
  rw [h]
  rfl
theorem tok_eql (x y : Tok) (W : World) : (binOp .eql 62 (tokV x) (tokV y)).run Try.prog W = .ok (.bool (tokEq x y)) W := by
  rw [show tokV x = .agg #[.int .i64 x.k, .int .i64 x.t, .int .i64 x.n, .int .i64 x.m] from rfl, show tokV y = .agg #[.int .i64 y.k, .int .i64 y.t, .int .i64 y.n, .int .i64 y.m] from rfl, run_eql_struct]
  have h := tok_equal x y W
  simp only [tokV] at h
  rw [h]
  rfl

theorem take_succ_same {l1 l2 : List Tok} {k : Nat} (h : l1.take k = l2.take k) {x : Tok} (h1 : l1[k]? = some x) (h2 : l2[k]? = some x) : l1.take (k + 1) = l2.take (k + 1) := by
  rw [List.take_add_one, List.take_add_one, h, h1, h2]
end Go.Proofs.Ytgpopploimeeaaa
