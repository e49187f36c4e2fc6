/-
  PROVED HERE: plain mathematics: places keep their order through a right map; to the left is never behind to the right.
-/
import Derived.Test.YtiadcpbaopafgaaRng
namespace Go.Proofs.Ytiadcpbaopafgaa

theorem goal_bounds {x : Rng} {e : Int} (h : rightR x e = true) (d p side : Int) : x.a + d ≤ goal x d p side ∧ goal x d p side ≤ x.a + d + x.n := by
  have hx := (rightR_iff x e).1 h
  unfold goal
  split
  · split <;> omega
  · split <;> omega
theorem goal_mono {x : Rng} {e : Int} (h : rightR x e = true) (d side : Int) {p q : Int} (hpq : p ≤ q) (_h1 : x.a ≤ p) (h2 : q ≤ x.a + x.o) : goal x d p side ≤ goal x d q side := by
  have hx := (rightR_iff x e).1 h
  unfold goal inner
  by_cases h0 : x.o = 0
  · simp [h0]
  · by_cases hs : side < 0
    · simp only [hs, h0, false_or, Bool.and_eq_true, decide_eq_true_eq, if_true]
      repeat' split
      all_goals omega
    · simp only [hs, h0, false_or, Bool.and_eq_true, decide_eq_true_eq, if_false]
      repeat' split
      all_goals omega
theorem goal_side {x : Rng} {e : Int} (h : rightR x e = true) (d p : Int) : goal x d p (-1) ≤ goal x d p 1 := by
  have hx := (rightR_iff x e).1 h
  unfold goal
  simp only [show ((-1 : Int) < 0) from by omega, show ¬ ((1 : Int) < 0) from by omega, if_true, if_false]
  repeat' split
  all_goals omega
theorem send_low : ∀ (l : List Rng) (e : Int) (i : Nat) (d q side : Int), rightL l e = true → e ≤ q → e + d ≤ (sendL l i d q side).at' := by
  intro l
  induction l with
  | nil => intro e i d q side _ h; simp only [sendL]; omega
  | cons x r ih =>
    intro e i d q side h hq
    obtain ⟨h1, h2⟩ := rightL_cons h
    have hx := (rightR_iff x e).1 h1
    rw [sendL]
    split
    · simp only; omega
    · split
      · have := (goal_bounds h1 d q side).1
        simp only [spotR]
        omega
      · have := ih (x.a + x.o) (i + 1) (d + x.n - x.o) q side h2 (by omega)
        omega
theorem send_mono : ∀ (l : List Rng) (e : Int) (i : Nat) (d p q side : Int), rightL l e = true → p ≤ q → (sendL l i d p side).at' ≤ (sendL l i d q side).at' := by
  intro l
  induction l with
  | nil => intro e i d p q side _ h; simp only [sendL]; omega
  | cons x r ih =>
    intro e i d p q side h hpq
    obtain ⟨h1, h2⟩ := rightL_cons h
    have hx := (rightR_iff x e).1 h1
    rw [sendL, sendL]
    by_cases a1 : p < x.a
    · rw [if_pos a1]
      by_cases b1 : q < x.a
      · rw [if_pos b1]
        simp only
        omega
      · rw [if_neg b1]
        by_cases b2 : q ≤ x.a + x.o
        · rw [if_pos b2]
          have := (goal_bounds h1 d q side).1
          simp only [spotR]
          omega
        · rw [if_neg b2]
          have := send_low r (x.a + x.o) (i + 1) (d + x.n - x.o) q side h2 (by omega)
          simp only
          omega
    · rw [if_neg a1, if_neg (show ¬ q < x.a by omega)]
      by_cases a2 : p ≤ x.a + x.o
      · rw [if_pos a2]
        by_cases b2 : q ≤ x.a + x.o
        · rw [if_pos b2]
          exact goal_mono h1 d side hpq (by omega) b2
        · rw [if_neg b2]
          have h3 := send_low r (x.a + x.o) (i + 1) (d + x.n - x.o) q side h2 (by omega)
          have h4 := (goal_bounds h1 d p side).2
          simp only [spotR]
          omega
      · rw [if_neg a2, if_neg (show ¬ q ≤ x.a + x.o by omega)]
        exact ih _ _ _ _ _ _ h2 hpq
theorem send_side : ∀ (l : List Rng) (e : Int) (i : Nat) (d p : Int), rightL l e = true → (sendL l i d p (-1)).at' ≤ (sendL l i d p 1).at' ∧ (sendL l i d p (-1)).gone = (sendL l i d p 1).gone := by
  intro l
  induction l with
  | nil => intro e i d p _; exact ⟨Int.le_refl _, rfl⟩
  | cons x r ih =>
    intro e i d p h
    obtain ⟨h1, h2⟩ := rightL_cons h
    rw [sendL, sendL]
    split
    · exact ⟨Int.le_refl _, rfl⟩
    · split
      · exact ⟨goal_side h1 d p, rfl⟩
      · exact ih _ _ _ _ h2
theorem map_ok {l : List Rng} {p : Int} (h : mapE l p = 0) : right l = true ∧ within p = true := by
  unfold mapE at h
  cases h1 : right l with
  | false => rw [h1] at h; simp at h
  | true =>
    cases h2 : within p with
    | false => rw [h1, h2] at h; simp at h
    | true => exact ⟨rfl, rfl⟩
theorem map_send {l : List Rng} {p : Int} (h1 : right l = true) (h2 : within p = true) (side : Int) : mapA l p side = sendL l 0 0 p side := by
  unfold mapA
  rw [h1, h2]
  simp
theorem map_zero {l : List Rng} {p : Int} (h1 : right l = true) (h2 : within p = true) : mapE l p = 0 := by
  unfold mapE
  rw [h1, h2]
  simp
theorem order_all {l : List Rng} {p q : Int} (side : Int) (h1 : mapE l p = 0) (h2 : mapE l q = 0) (hpq : p ≤ q) : (mapA l p side).at' ≤ (mapA l q side).at' := by
  obtain ⟨r1, r2⟩ := map_ok h1
  obtain ⟨_, r3⟩ := map_ok h2
  rw [map_send r1 r2, map_send r1 r3]
  exact send_mono l 0 0 0 p q side (right_len r1).2 hpq
theorem order_side {l : List Rng} {p : Int} (h1 : mapE l p = 0) : (mapA l p (-1)).at' ≤ (mapA l p 1).at' ∧ (mapA l p (-1)).gone = (mapA l p 1).gone := by
  obtain ⟨r1, r2⟩ := map_ok h1
  rw [map_send r1 r2, map_send r1 r2]
  exact send_side l 0 0 0 p (right_len r1).2
end Go.Proofs.Ytiadcpbaopafgaa
