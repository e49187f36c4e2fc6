/-
  PROVED HERE: the document's own Point and Right at every token: what they return; nothing that lay before is turned.
-/
import Derived.Test.YtgpopploimeeaaaTok
namespace Go.Proofs.Ytgpopploimeeaaa
open Go.RowKit

set_option maxHeartbeats 400000 in
theorem rightM_calls (s : Int) (w : World) : Calls Try.prog 61 #[.int .i64 s] w fun e w' => e = .returned (.bool (rightM s)) ∧ w' = w := by
  unfold rightM
  cases h1 : decide (0 ≤ s)
  all_goals
    go_enter Try.func61, Try.ntmps61
    go_wp2
    go_ret
    exact ⟨rfl, rfl⟩
set_option maxHeartbeats 400000 in
theorem point_calls (n : Int) (w : World) : Calls Try.prog 60 #[.int .i64 n] w fun e w' => e = .returned (.bool (point n)) ∧ w' = w := by
  unfold point
  cases h1 : decide (0 ≤ n) <;> cases h2 : decide (n ≤ 1114111) <;> cases h3 : decide (n < 55296)
  all_goals
    go_enter Try.func60, Try.ntmps60
    go_wp2
    go_ret
    exact ⟨rfl, rfl⟩
set_option maxHeartbeats 1000000 in
theorem rightT_calls (x : Tok) (w : World) : Calls Try.prog 56 #[tokV x] w fun e w' => e = .returned (.bool (rightT x)) ∧ Below w.heap.size w w' := by
  obtain ⟨k, t, n, m⟩ := x
  unfold tokV rightT
  simp only
  by_cases k0 : k = 0
  · subst k0
    rw [if_pos rfl]
    have c1 := fun W => point_calls n W
    have c2 := fun W => rightM_calls m W
    generalize point n = p at *
    generalize rightM m = q at *
    cases h0 : t == 0
    · simp only [Bool.false_and]
      go_enter Try.func56, Try.ntmps56
      go_wp2
      go_ret
      exact ⟨rfl, (Below.refl _ _).alloc (Nat.le_refl _) _⟩
    · cases h1 : p
      · rw [h1] at c1
        simp only [Bool.and_false, Bool.false_and]
        go_enter Try.func56, Try.ntmps56
        go_wp2_with fail
        refine (c1 _).mono ?_
        rintro e w' ⟨rfl, rfl⟩
        go_wp2
        go_ret
        exact ⟨rfl, (Below.refl _ _).alloc (Nat.le_refl _) _⟩
      · rw [h1] at c1
        cases h2 : q
        · rw [h2] at c2
          simp only [Bool.and_false]
          go_enter Try.func56, Try.ntmps56
          go_wp2_with fail
          refine (c1 _).mono ?_
          rintro e w' ⟨rfl, rfl⟩
          go_wp2_with fail
          refine (c2 _).mono ?_
          rintro e w' ⟨rfl, rfl⟩
          go_wp2
          go_ret
          exact ⟨rfl, (Below.refl _ _).alloc (Nat.le_refl _) _⟩
        · rw [h2] at c2
          go_enter Try.func56, Try.ntmps56
          go_wp2_with fail
          refine (c1 _).mono ?_
          rintro e w' ⟨rfl, rfl⟩
          go_wp2_with fail
          refine (c2 _).mono ?_
          rintro e w' ⟨rfl, rfl⟩
          go_wp2
          go_ret
          exact ⟨rfl, (Below.refl _ _).alloc (Nat.le_refl _) _⟩
  rw [if_neg k0]
  have e0 : (k == 0) = false := by simpa using k0
  by_cases k1 : k = 1
  · subst k1
    rw [if_pos (.inl rfl)]
    cases h0 : decide (1 ≤ t)
    · simp only [Bool.false_and]
      go_enter Try.func56, Try.ntmps56
      go_wp2
      go_ret
      exact ⟨rfl, (Below.refl _ _).alloc (Nat.le_refl _) _⟩
    · cases h1 : decide (t < 16)
      · simp only [Bool.and_false, Bool.false_and]
        go_enter Try.func56, Try.ntmps56
        go_wp2
        go_ret
        exact ⟨rfl, (Below.refl _ _).alloc (Nat.le_refl _) _⟩
      · cases h2 : decide (0 ≤ n)
        · simp only [Bool.and_false, Bool.false_and]
          go_enter Try.func56, Try.ntmps56
          go_wp2
          go_ret
          exact ⟨rfl, (Below.refl _ _).alloc (Nat.le_refl _) _⟩
        · cases h3 : decide (n ≤ 15)
          · simp only [Bool.and_false, Bool.false_and]
            go_enter Try.func56, Try.ntmps56
            go_wp2
            go_ret
            exact ⟨rfl, (Below.refl _ _).alloc (Nat.le_refl _) _⟩
          · cases h4 : m == 0
            · simp only [Bool.and_false]
              go_enter Try.func56, Try.ntmps56
              go_wp2
              go_ret
              exact ⟨rfl, (Below.refl _ _).alloc (Nat.le_refl _) _⟩
            · go_enter Try.func56, Try.ntmps56
              go_wp2
              go_ret
              exact ⟨rfl, (Below.refl _ _).alloc (Nat.le_refl _) _⟩
  have e1 : (k == 1) = false := by simpa using k1
  by_cases k3 : k = 3
  · subst k3
    rw [if_pos (.inr rfl)]
    cases h0 : decide (1 ≤ t)
    · simp only [Bool.false_and]
      go_enter Try.func56, Try.ntmps56
      go_wp2
      go_ret
      exact ⟨rfl, (Below.refl _ _).alloc (Nat.le_refl _) _⟩
    · cases h1 : decide (t < 16)
      · simp only [Bool.and_false, Bool.false_and]
        go_enter Try.func56, Try.ntmps56
        go_wp2
        go_ret
        exact ⟨rfl, (Below.refl _ _).alloc (Nat.le_refl _) _⟩
      · cases h2 : decide (0 ≤ n)
        · simp only [Bool.and_false, Bool.false_and]
          go_enter Try.func56, Try.ntmps56
          go_wp2
          go_ret
          exact ⟨rfl, (Below.refl _ _).alloc (Nat.le_refl _) _⟩
        · cases h3 : decide (n ≤ 15)
          · simp only [Bool.and_false, Bool.false_and]
            go_enter Try.func56, Try.ntmps56
            go_wp2
            go_ret
            exact ⟨rfl, (Below.refl _ _).alloc (Nat.le_refl _) _⟩
          · cases h4 : m == 0
            · simp only [Bool.and_false]
              go_enter Try.func56, Try.ntmps56
              go_wp2
              go_ret
              exact ⟨rfl, (Below.refl _ _).alloc (Nat.le_refl _) _⟩
            · go_enter Try.func56, Try.ntmps56
              go_wp2
              go_ret
              exact ⟨rfl, (Below.refl _ _).alloc (Nat.le_refl _) _⟩
  have e3 : (k == 3) = false := by simpa using k3
  rw [if_neg (by omega)]
  by_cases k2 : k = 2
  · subst k2
    rw [if_pos rfl]
    cases h0 : t == 0
    · simp only [Bool.false_and]
      go_enter Try.func56, Try.ntmps56
      go_wp2
      go_ret
      exact ⟨rfl, (Below.refl _ _).alloc (Nat.le_refl _) _⟩
    · cases h1 : n == 0
      · simp only [Bool.and_false, Bool.false_and]
        go_enter Try.func56, Try.ntmps56
        go_wp2
        go_ret
        exact ⟨rfl, (Below.refl _ _).alloc (Nat.le_refl _) _⟩
      · cases h2 : m == 0
        · simp only [Bool.and_false]
          go_enter Try.func56, Try.ntmps56
          go_wp2
          go_ret
          exact ⟨rfl, (Below.refl _ _).alloc (Nat.le_refl _) _⟩
        · go_enter Try.func56, Try.ntmps56
          go_wp2
          go_ret
          exact ⟨rfl, (Below.refl _ _).alloc (Nat.le_refl _) _⟩
  have e2 : (k == 2) = false := by simpa using k2
  rw [if_neg k2]
  go_enter Try.func56, Try.ntmps56
  go_wp2
  go_ret
  exact ⟨rfl, (Below.refl _ _).alloc (Nat.le_refl _) _⟩
end Go.Proofs.Ytgpopploimeeaaa
