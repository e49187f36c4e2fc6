/-
  PROVED HERE, plain: where two are alike the longest pairs begin with them; a row in which none begins may be passed by.
-/
import Derived.Test.YtgpopploimeeaaaCB8
namespace Go.Proofs.Ytgpopploimeeaaa

section
variable (like : Nat → Nat → Bool) (n m : Nat)

theorem lastP_succ (a b : Nat) : lastP like n m (a + 1) (b + 1) = if like (n - (a + 1)) (m - (b + 1)) then max (max (lastP like n m a (b + 1)) (lastP like n m (a + 1) b)) (1 + lastP like n m a b) else max (lastP like n m a (b + 1)) (lastP like n m (a + 1) b) := by
  rw [lastP]
theorem lastP_nil (b : Nat) : lastP like n m 0 b = 0 := by
  unfold lastP
  rfl
theorem lastP_up (a b : Nat) : lastP like n m a b ≤ lastP like n m (a + 1) b := by
  cases b with
  | zero => rw [lastP_zero]; exact Nat.zero_le _
  | succ b =>
    rw [lastP_succ]
    split <;> omega
theorem lastP_right (a b : Nat) : lastP like n m a b ≤ lastP like n m a (b + 1) := by
  cases a with
  | zero => rw [lastP_nil]; exact Nat.zero_le _
  | succ a =>
    rw [lastP_succ]
    split <;> omega
theorem lastP_upOne (a : Nat) : ∀ b, lastP like n m (a + 1) b ≤ 1 + lastP like n m a b
  | 0 => by rw [lastP_zero]; omega
  | b + 1 => by
    have h1 := lastP_upOne a b
    have h2 := lastP_right like n m a b
    rw [lastP_succ]
    split <;> omega
theorem lastP_rightOne (b : Nat) : ∀ a, lastP like n m a (b + 1) ≤ 1 + lastP like n m a b
  | 0 => by rw [lastP_nil]; omega
  | a + 1 => by
    have h1 := lastP_rightOne b a
    have h2 := lastP_up like n m a b
    rw [lastP_succ]
    split <;> omega

theorem longP_down (i j : Nat) : longP like n m (i + 1) j ≤ longP like n m i j := by
  by_cases h : i < n
  · unfold longP
    rw [show n - i = (n - (i + 1)) + 1 by omega]
    exact lastP_up like n m _ _
  · rw [longP_row like n m (by omega)]
    exact Nat.zero_le _
theorem longP_on (i j : Nat) : longP like n m i (j + 1) ≤ longP like n m i j := by
  by_cases h : j < m
  · unfold longP
    rw [show m - j = (m - (j + 1)) + 1 by omega]
    exact lastP_right like n m _ _
  · rw [longP_col like n m _ (by omega)]
    exact Nat.zero_le _
theorem longP_mono (i j : Nat) : ∀ a b, longP like n m (i + a) (j + b) ≤ longP like n m i j
  | 0, 0 => Nat.le_refl _
  | 0, b + 1 => Nat.le_trans (longP_on like n m _ (j + b)) (longP_mono i j 0 b)
  | a + 1, b => Nat.le_trans (longP_down like n m (i + a) _) (longP_mono i j a b)

variable {like n m}
theorem longP_hit {i j : Nat} (hi : i < n) (hj : j < m) (h : like i j = true) : longP like n m i j = 1 + longP like n m (i + 1) (j + 1) := by
  have hs := longP_step like n m hi hj
  rw [if_pos h] at hs
  have h1 : longP like n m (i + 1) j ≤ 1 + longP like n m (i + 1) (j + 1) := by
    unfold longP
    rw [show m - j = (m - (j + 1)) + 1 by omega]
    exact lastP_rightOne like n m _ _
  have h2 : longP like n m i (j + 1) ≤ 1 + longP like n m (i + 1) (j + 1) := by
    unfold longP
    rw [show n - i = (n - (i + 1)) + 1 by omega]
    exact lastP_upOne like n m _ _
  omega
theorem longP_miss {i j : Nat} (hi : i < n) (hj : j < m) (h : like i j = false) : longP like n m i j = max (longP like n m (i + 1) j) (longP like n m i (j + 1)) := by
  have hs := longP_step like n m hi hj
  rw [if_neg (by rw [h]; exact Bool.false_ne_true)] at hs
  exact hs

/-- In this row none begins the longest pairs. -/
def NoneIn (like : Nat → Nat → Bool) (n m i j k : Nat) : Prop := ∀ q, j ≤ q → q < k → ¬ Opens like n m i j i q
theorem longP_skip {i j : Nat} (h : NoneIn like n m i j m) : longP like n m (i + 1) j = longP like n m i j := by
  have h1 := longP_down like n m i j
  by_cases h2 : longP like n m (i + 1) j = longP like n m i j
  · exact h2
  · obtain ⟨p, q, a1, a2, a3, a4, a5, a6⟩ := opens_some _ i j (Nat.le_refl _) (by omega : 0 < longP like n m i j)
    exfalso
    by_cases e : p = i
    · subst e
      exact h q a3 a4 ⟨a5, a6⟩
    · have e1 := longP_hit a2 a4 a5
      have e2 := longP_mono like n m (i + 1) j (p - (i + 1)) (q - j)
      rw [show i + 1 + (p - (i + 1)) = p by omega, show j + (q - j) = q by omega] at e2
      omega
theorem IsPairs.skip {i j : Nat} {r : List (Nat × Nat)} (h : NoneIn like n m i j m) (hr : IsPairs like n m (i + 1) j r) : IsPairs like n m i j r := by
  have e := longP_skip h
  cases r with
  | nil =>
    have hr : longP like n m (i + 1) j = 0 := hr
    show longP like n m i j = 0
    omega
  | cons x r =>
    obtain ⟨h1, h2, h3⟩ := hr
    refine ⟨by omega, ⟨by have := h2.ip; omega, h2.pn, h2.jq, h2.qm, ⟨h2.opens.1, by rw [h2.opens.2, e]⟩, fun p' q' b1 b2 b3 b4 b5 => ?_, fun q' b1 b2 b3 => h2.row q' b1 b2 ⟨b3.1, by rw [b3.2, e]⟩⟩, h3⟩
    by_cases e2 : p' = i
    · subst e2
      exact h q' b3 b4 b5
    · exact h2.rows p' q' (by omega) b2 b3 b4 ⟨b5.1, by rw [b5.2, e]⟩
theorem IsNext.here {i j k : Nat} (hi : i < n) (hjk : j ≤ k) (hk : k < m) (ho : Opens like n m i j i k) (h : NoneIn like n m i j k) : IsNext like n m i j i k :=
  ⟨Nat.le_refl _, hi, hjk, hk, ho, fun p' q' b1 b2 => by omega, fun q' b1 b2 => h q' b1 b2⟩
theorem IsPairs.done {i j : Nat} (hi : n ≤ i) : IsPairs like n m i j [] := longP_row like n m hi j
end
end Go.Proofs.Ytgpopploimeeaaa
