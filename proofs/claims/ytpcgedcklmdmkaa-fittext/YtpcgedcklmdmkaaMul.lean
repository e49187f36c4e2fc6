/-
  PROVED HERE: bits.Mul64 and bits.Mul at one and a number of less than 32 bits.
-/
import Derived.Test.YtpcgedcklmdmkaaTkr
import Derived.Laws.BitsAllLaws
import Derived.Shelf.Bits.Mul64
namespace Go.Proofs.Ytpcgedcklmdmkaa
open Go.RowKit

set_option maxRecDepth 100000 in
set_option maxHeartbeats 400000 in
theorem mul64_calls (n : Nat) (hn : n < 4294967296) (w : World) : Calls Try.prog 32 #[.int .u64 1, .int .u64 (n : Int)] w fun e w' => e = .returned (.tuple #[.int .u64 0, .int .u64 (n : Int)]) ∧ w' = w := by
  have m1 : bits .and .u64 (n : Int) 4294967295 = (n : Int) := by rw [Go.Proofs.Mul64.maskN n (by omega), Nat.mod_eq_of_lt hn]
  have m2 : bits .and .u64 (1 : Int) 4294967295 = 1 := by decide +kernel
  have m3 : bits .and .u64 (0 : Int) 4294967295 = 0 := by decide +kernel
  have d1 : (n : Int) / 4294967296 = 0 := by omega
  have w1 : IntKind.u64.wrap (n : Int) = (n : Int) := by rw [IntKind.wrap_u64]; omega
  go_enter Try.func32, Try.ntmps32
  go_wp2
  go_ret2
  exact ⟨rfl, rfl⟩
set_option maxRecDepth 100000 in
set_option maxHeartbeats 400000 in
theorem mul_calls (n : Nat) (hn : n < 4294967296) (w : World) : Calls Try.prog 24 #[.int .u64 1, .int .u64 (n : Int)] w fun e w' => e = .returned (.tuple #[.int .u64 0, .int .u64 (n : Int)]) ∧ w' = w := by
  have h := fun W => mul64_calls n hn W
  go_enter Try.func24, Try.ntmps24
  go_wp2_with fail
  refine (h _).mono ?_
  rintro e w' ⟨rfl, rfl⟩
  go_wp2
  go_ret2
  exact ⟨rfl, rfl⟩
end Go.Proofs.Ytpcgedcklmdmkaa
