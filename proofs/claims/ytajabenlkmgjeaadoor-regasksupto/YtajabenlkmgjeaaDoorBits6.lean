/-
  PROVED HERE: the lowest bit of a number of sixteen bits, and the list of its bits.
-/
import Derived.Test.YtajabenlkmgjeaaDoorTree
import Derived.Laws.BitsAllLaws
namespace Go.Proofs.YtajabenlkmgjeaaDoor
open Go.RowKit

/-- A number that is not 0: its lowest bit. -/
theorem low_bit : ∀ (b m : Nat), m ≤ b → m ≠ 0 → ∃ k q, m = 2 ^ k * (2 * q + 1) := by
  intro b
  induction b with
  | zero => intro m h1 h2; omega
  | succ b ih =>
    intro m h1 h2
    rcases Nat.mod_two_eq_zero_or_one m with h | h
    · obtain ⟨k, q, e⟩ := ih (m / 2) (by omega) (by omega)
      refine ⟨k + 1, q, ?_⟩
      have : m = 2 * (m / 2) := by omega
      rw [this, e, Nat.pow_succ, Nat.mul_comm (2 ^ k) 2, Nat.mul_assoc]
    · exact ⟨0, m / 2, by omega⟩
theorem bit_odd (q i : Nat) : (2 * q + 1).testBit i = (decide (i = 0) || (2 * q).testBit i) := by
  cases i with
  | zero => simp
  | succ i =>
    rw [Nat.testBit_succ, Nat.testBit_succ, show (2 * q + 1) / 2 = q by omega, show 2 * q / 2 = q by omega]
    simp
theorem bit_even (q : Nat) : (2 * q).testBit 0 = false := by simp
theorem low_test (k q j : Nat) : (2 ^ k * (2 * q + 1)).testBit j = (decide (k ≤ j) && (2 * q + 1).testBit (j - k)) := by
  rw [Nat.mul_comm, Nat.testBit_mul_two_pow]
theorem less_one (k q : Nat) : 2 ^ k * (2 * q + 1) - 1 = 2 ^ k * (2 * q) + (2 ^ k - 1) := by
  have : 0 < 2 ^ k := Nat.two_pow_pos k
  rw [Nat.mul_add]
  omega
/-- With one less, and both: the lowest bit is struck. -/
theorem struck (k q j : Nat) : ((2 ^ k * (2 * q + 1)) &&& (2 ^ k * (2 * q + 1) - 1)).testBit j = ((2 ^ k * (2 * q + 1)).testBit j && !decide (j = k)) := by
  have hp : 0 < 2 ^ k := Nat.two_pow_pos k
  rw [Nat.testBit_and, low_test, less_one, Nat.testBit_two_pow_mul_add _ (by omega)]
  by_cases h : j < k
  · have h1 : decide (k ≤ j) = false := by simp; omega
    rw [h1]; simp
  · have h1 : decide (k ≤ j) = true := by simp; omega
    rw [if_neg h, h1, bit_odd]
    by_cases h2 : j = k
    · subst h2
      simp
    · have h3 : ¬ j - k = 0 := by omega
      simp [h2, h3]
theorem low_is (k q : Nat) : (2 ^ k * (2 * q + 1)).testBit k = true := by rw [low_test, bit_odd]; simp
theorem low_none (k q j : Nat) (h : j < k) : (2 ^ k * (2 * q + 1)).testBit j = false := by
  rw [low_test]
  have : decide (k ≤ j) = false := by simp; omega
  rw [this]; rfl
end Go.Proofs.YtajabenlkmgjeaaDoor
