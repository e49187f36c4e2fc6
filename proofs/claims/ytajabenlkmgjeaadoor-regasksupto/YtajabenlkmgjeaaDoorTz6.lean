/-
  PROVED HERE: bits.TrailingZeros16 at every number of sixteen bits that is not 0: its lowest bit; memory stays.
-/
import Derived.Test.YtajabenlkmgjeaaDoorBits6
namespace Go.Proofs.YtajabenlkmgjeaaDoor
open Go.RowKit

theorem low_and (k q : Nat) (h : 2 ^ k * (2 * q + 1) < 65536) : (2 ^ k * (2 * q + 1)) &&& (65536 - 2 ^ k * (2 * q + 1)) = 2 ^ k := by
  have hk : k < 16 := by
    rcases Nat.lt_or_ge k 16 with e | e
    · exact e
    · have h1 : 2 ^ 16 ≤ 2 ^ k := Nat.pow_le_pow_right (by decide) e
      have h2 : 2 ^ k * 1 ≤ 2 ^ k * (2 * q + 1) := Nat.mul_le_mul_left _ (by omega)
      omega
  have hp : 2 ^ k * 2 ^ (16 - k) = 65536 := by rw [← Nat.pow_add, show k + (16 - k) = 16 by omega]
  have hq : 2 * q < 2 ^ (16 - k) := by
    have : 2 ^ k * (2 * q + 1) < 2 ^ k * 2 ^ (16 - k) := by rw [hp]; exact h
    have := Nat.lt_of_mul_lt_mul_left this
    omega
  have e : 65536 - 2 ^ k * (2 * q + 1) = 2 ^ k * (2 ^ (16 - k) - (2 * q + 1)) := by rw [Nat.mul_sub, hp]
  apply Nat.eq_of_testBit_eq
  intro j
  rw [Nat.testBit_and, low_test, e, Nat.mul_comm (2 ^ k) (2 ^ (16 - k) - (2 * q + 1)), Nat.testBit_mul_two_pow, Nat.testBit_two_pow_sub_succ hq, bit_odd, Nat.testBit_two_pow]
  by_cases hj : k ≤ j
  · by_cases h0 : j - k = 0
    · have : k = j := by omega
      subst this
      simp
      omega
    · have h1 : ¬ k = j := by omega
      cases hb : (2 * q).testBit (j - k) <;> simp [h0, h1]
  · have h1 : ¬ k = j := by omega
    simp [hj, h1]
/-- The table that the program's variable holds. -/
def tabL : List Int := [0, 1, 28, 2, 29, 14, 24, 3, 30, 22, 20, 15, 25, 17, 4, 8, 31, 27, 13, 23, 21, 19, 16, 7, 26, 12, 18, 6, 11, 5, 10, 9]
def Tab (w : World) : Prop := ∀ i x, tabL[i]? = some x → w.cell? ⟨0, i, none⟩ = some (.int .u8 x)
theorem Tab.below {b : Nat} {w w' : World} (h : Tab w) (hb : Below b w w') (h0 : 0 < b) : Tab w' := fun i x hx => (hb.cell (p := ⟨0, i, none⟩) h0).trans (h i x hx)
set_option maxRecDepth 100000 in
set_option maxHeartbeats 4000000 in
theorem tz_calls (k q : Nat) (w : World) (h : 2 ^ k * (2 * q + 1) < 65536) (hT : Tab w) :
    Calls Tryd.prog 35 #[.int .u16 ((2 ^ k * (2 * q + 1) : Nat) : Int)] w fun e w' => e = .returned (.int .i64 (k : Int)) ∧ w' = w := by
  have hla := low_and k q h
  have hpos : 0 < 2 ^ k * (2 * q + 1) := Nat.mul_pos (Nat.two_pow_pos k) (by omega)
  obtain ⟨m, hm⟩ : ∃ m, m = 2 ^ k * (2 * q + 1) := ⟨_, rfl⟩
  rw [← hm] at h hla hpos ⊢
  have hne : ((m : Int) == 0) = false := by rw [beq_eq_false_iff_ne]; omega
  have hk : k < 16 := by
    rcases Nat.lt_or_ge k 16 with e | e
    · exact e
    · have h1 : 2 ^ 16 ≤ 2 ^ k := Nat.pow_le_pow_right (by decide) e
      have h2 : m &&& 65536 - m ≤ m := Nat.and_le_left
      omega
  have hw : IntKind.u16.wrap (-(m : Int)) = ((65536 - m : Nat) : Int) := by
    show (-(m : Int)) % 65536 = _
    omega
  have hb : bits .and .u16 (m : Int) (IntKind.u16.wrap (-(m : Int))) = ((2 ^ k : Nat) : Int) := by
    rw [hw, u16_and_nat m (65536 - m) h (by omega), hla]
  have key : ∀ k : Fin 16, 0 ≤ ((2 ^ k.val : Nat) : Int) % 4294967296 * 125613361 % 4294967296 / 134217728 ∧ ((2 ^ k.val : Nat) : Int) % 4294967296 * 125613361 % 4294967296 / 134217728 < 32 ∧ tabL[(((2 ^ k.val : Nat) : Int) % 4294967296 * 125613361 % 4294967296 / 134217728).toNat]? = some (k.val : Int) := by decide +kernel
  obtain ⟨k1, k2, k3⟩ := key ⟨k, hk⟩
  have hc := hT _ _ k3
  rw [← hb] at k1 k2 hc
  have hki : (k : Int) < 16 := by omega
  clear hm k3 key hla hw hb hT hpos
  go_enter Tryd.func35, Tryd.ntmps35
  go_wp2
  go_ret
  exact ⟨rfl, rfl⟩
end Go.Proofs.YtajabenlkmgjeaaDoor
