/-
  PROVED HERE: flat.isCodePoint, mark.Right and flat.Right at every token: what they return; nothing that lay before is turned.
-/
import Derived.Test.YtgpopploimeeaaaEq
namespace Go.Proofs.Ytgpopploimeeaaa
open Go.RowKit

set_option maxHeartbeats 400000 in
theorem fmark_calls (s : Int) (w : World) : Calls Try.prog 59 #[.int .i64 s] w fun e w' => e = .returned (.bool (rightM s)) ∧ w' = w := by
  unfold rightM
  cases h1 : decide (0 ≤ s)
  all_goals
    go_enter Try.func59, Try.ntmps59
    go_wp2
    go_ret
    exact ⟨rfl, rfl⟩
set_option maxHeartbeats 400000 in
theorem fpoint_calls (n : Int) (w : World) : Calls Try.prog 58 #[.int .i64 n] w fun e w' => e = .returned (.bool (point n)) ∧ w' = w := by
  by_cases a0 : 0 ≤ n
  · by_cases a1 : n < 55296
    · rw [show point n = true from by simp [point]; omega]
      go_enter Try.func58, Try.ntmps58
      go_wp2
      go_ret
      exact ⟨rfl, rfl⟩
    · by_cases a2 : 57343 < n
      · rw [show point n = decide (n ≤ 1114111) from by rw [Bool.eq_iff_iff]; simp [point]; omega]
        go_enter Try.func58, Try.ntmps58
        go_wp2
        go_ret
        exact ⟨rfl, rfl⟩
      · rw [show point n = false from by simp [point]; omega]
        go_enter Try.func58, Try.ntmps58
        go_wp2
        go_ret
        exact ⟨rfl, rfl⟩
  · rw [show point n = false from by simp [point]; omega]
    have e0 : decide (0 ≤ n) = false := by simpa using a0
    go_enter Try.func58, Try.ntmps58
    go_wp2
    go_ret
    exact ⟨rfl, rfl⟩

set_option maxHeartbeats 1000000 in
theorem fright_calls (x : Tok) (w : World) : Calls Try.prog 55 #[tokV x] w fun e w' => e = .returned (.bool (rightT x)) ∧ Below w.heap.size w w' := by
  obtain ⟨k, t, n, m⟩ := x
  have e16 : decide (t < 16) = decide (t ≤ 15) := by by_cases h : t ≤ 15 <;> simp [h] <;> omega
  have hq := fun W => tok_eql ⟨k, t, n, m⟩ ⟨2, 0, 0, 0⟩ W
  unfold tokV rightT
  simp only [tokV, e16] at *
  clear e16
  by_cases k0 : k = 0
  · subst k0
    rw [if_pos rfl]
    have c1 := fun W => fpoint_calls n W
    have c2 := fun W => fmark_calls m W
    generalize point n = p at *
    generalize rightM m = q at *
    cases h0 : t == 0
    · simp only [Bool.false_and]
      go_enter Try.func55, Try.ntmps55
      go_wp2
      go_ret
      exact ⟨rfl, (Below.refl _ _).alloc (Nat.le_refl _) _⟩
    · cases h1 : p
      · rw [h1] at c1
        simp only [Bool.and_false, Bool.false_and]
        go_enter Try.func55, Try.ntmps55
        go_wp2_with fail
        refine (c1 _).mono ?_
        rintro e w' ⟨rfl, rfl⟩
        go_wp2
        go_ret
        exact ⟨rfl, (Below.refl _ _).alloc (Nat.le_refl _) _⟩
      · rw [h1] at c1
        cases h2 : q
        · rw [h2] at c2
          simp only [Bool.and_false]
          go_enter Try.func55, Try.ntmps55
          go_wp2_with fail
          refine (c1 _).mono ?_
          rintro e w' ⟨rfl, rfl⟩
          go_wp2_with fail
          refine (c2 _).mono ?_
          rintro e w' ⟨rfl, rfl⟩
          go_wp2
          go_ret
          exact ⟨rfl, (Below.refl _ _).alloc (Nat.le_refl _) _⟩
        · rw [h2] at c2
          go_enter Try.func55, Try.ntmps55
          go_wp2_with fail
          refine (c1 _).mono ?_
          rintro e w' ⟨rfl, rfl⟩
          go_wp2_with fail
          refine (c2 _).mono ?_
          rintro e w' ⟨rfl, rfl⟩
          go_wp2
          go_ret
          exact ⟨rfl, (Below.refl _ _).alloc (Nat.le_refl _) _⟩
  rw [if_neg k0]
  have e0 : (k == 0) = false := by simpa using k0
  by_cases k1 : k = 1
  · subst k1
    rw [if_pos (.inl rfl)]
    clear hq
    cases h0 : decide (1 ≤ t)
    · simp only [Bool.false_and]
      go_enter Try.func55, Try.ntmps55
      go_wp2
      go_ret
      exact ⟨rfl, (Below.refl _ _).alloc (Nat.le_refl _) _⟩
    · cases h1 : decide (t ≤ 15)
      · simp only [Bool.and_false, Bool.false_and]
        go_enter Try.func55, Try.ntmps55
        go_wp2
        go_ret
        exact ⟨rfl, (Below.refl _ _).alloc (Nat.le_refl _) _⟩
      · cases h2 : decide (0 ≤ n)
        · simp only [Bool.and_false, Bool.false_and]
          go_enter Try.func55, Try.ntmps55
          go_wp2
          go_ret
          exact ⟨rfl, (Below.refl _ _).alloc (Nat.le_refl _) _⟩
        · cases h3 : decide (n ≤ 15)
          · simp only [Bool.and_false, Bool.false_and]
            go_enter Try.func55, Try.ntmps55
            go_wp2
            go_ret
            exact ⟨rfl, (Below.refl _ _).alloc (Nat.le_refl _) _⟩
          · cases h4 : m == 0
            · simp only [Bool.and_false]
              go_enter Try.func55, Try.ntmps55
              go_wp2
              go_ret
              exact ⟨rfl, (Below.refl _ _).alloc (Nat.le_refl _) _⟩
            · go_enter Try.func55, Try.ntmps55
              go_wp2
              go_ret
              exact ⟨rfl, (Below.refl _ _).alloc (Nat.le_refl _) _⟩
  have e1 : (k == 1) = false := by simpa using k1
  by_cases k3 : k = 3
  · subst k3
    rw [if_pos (.inr rfl)]
    clear hq
    cases h0 : decide (1 ≤ t)
    · simp only [Bool.false_and]
      go_enter Try.func55, Try.ntmps55
      go_wp2
      go_ret
      exact ⟨rfl, (Below.refl _ _).alloc (Nat.le_refl _) _⟩
    · cases h1 : decide (t ≤ 15)
      · simp only [Bool.and_false, Bool.false_and]
        go_enter Try.func55, Try.ntmps55
        go_wp2
        go_ret
        exact ⟨rfl, (Below.refl _ _).alloc (Nat.le_refl _) _⟩
      · cases h2 : decide (0 ≤ n)
        · simp only [Bool.and_false, Bool.false_and]
          go_enter Try.func55, Try.ntmps55
          go_wp2
          go_ret
          exact ⟨rfl, (Below.refl _ _).alloc (Nat.le_refl _) _⟩
        · cases h3 : decide (n ≤ 15)
          · simp only [Bool.and_false, Bool.false_and]
            go_enter Try.func55, Try.ntmps55
            go_wp2
            go_ret
            exact ⟨rfl, (Below.refl _ _).alloc (Nat.le_refl _) _⟩
          · cases h4 : m == 0
            · simp only [Bool.and_false]
              go_enter Try.func55, Try.ntmps55
              go_wp2
              go_ret
              exact ⟨rfl, (Below.refl _ _).alloc (Nat.le_refl _) _⟩
            · go_enter Try.func55, Try.ntmps55
              go_wp2
              go_ret
              exact ⟨rfl, (Below.refl _ _).alloc (Nat.le_refl _) _⟩
  have e3 : (k == 3) = false := by simpa using k3
  rw [if_neg (by omega)]
  by_cases k2 : k = 2
  · subst k2
    rw [if_pos rfl]
    have hd : tokEq ⟨2, t, n, m⟩ ⟨2, 0, 0, 0⟩ = (t == 0 && n == 0 && m == 0) := by
      rw [Bool.eq_iff_iff]
      simp [tokEq, and_assoc]
    rw [hd] at hq
    clear hd
    have hg := fun (x y : Operand) (xs ys : Array Value) (W : World) => tok_eqGuard .eql x y xs ys W
    generalize (t == 0 && n == 0 && m == 0) = z at *
    go_enter Try.func55, Try.ntmps55
    go_wp2
    go_ret
    exact ⟨rfl, (Below.refl _ _).alloc (Nat.le_refl _) _⟩
  have e2 : (k == 2) = false := by simpa using k2
  rw [if_neg k2]
  clear hq
  go_enter Try.func55, Try.ntmps55
  go_wp2
  go_ret
  exact ⟨rfl, (Below.refl _ _).alloc (Nat.le_refl _) _⟩
end Go.Proofs.Ytgpopploimeeaaa
