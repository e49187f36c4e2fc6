/-
  PROVED HERE: pos's small functions (isWithin, isLeft, and of a part: begin, end, isInner, isOuter, goal): what they return; nothing that lay before is turned.
-/
import Derived.Test.YtiadcpbaopafgaaRng
namespace Go.Proofs.Ytiadcpbaopafgaa
open Go.RowKit

set_option maxHeartbeats 400000 in
theorem within_calls (n : Int) (w : World) : Calls Try.prog 27 #[.int .i64 n] w fun e w' => e = .returned (.bool (within n)) ∧ w' = w := by
  unfold within
  cases h1 : decide (0 ≤ n)
  all_goals
    go_enter Try.func27, Try.ntmps27
    go_wp2
    go_ret
    exact ⟨rfl, rfl⟩
set_option maxHeartbeats 400000 in
theorem left_calls (s : Int) (w : World) : Calls Try.prog 42 #[.int .i64 s] w fun e w' => e = .returned (.bool (decide (s < 0))) ∧ w' = w := by
  go_enter Try.func42, Try.ntmps42
  go_wp2
  go_ret
  exact ⟨rfl, rfl⟩

/-- Numbers that no sum carries off. -/
def Small (n : Int) : Prop := -4294967296 ≤ n ∧ n ≤ 4294967296

set_option maxHeartbeats 400000 in
theorem begin_calls (x : Rng) (i d : Int) (w : World) (hx : Small x.a) (hd : Small d) : Calls Try.prog 31 #[partV x i d] w fun e w' => e = .returned (.int .i64 (x.a + d)) ∧ Below w.heap.size w w' := by
  obtain ⟨a, o, n⟩ := x
  unfold Small at *
  simp only [partV] at *
  go_enter Try.func31, Try.ntmps31
  go_wp2
  go_ret
  exact ⟨rfl, (Below.refl _ _).alloc (Nat.le_refl _) _⟩
set_option maxHeartbeats 400000 in
theorem end_calls (x : Rng) (i d : Int) (w : World) (hx : Small x.a) (ho : Small x.o) : Calls Try.prog 36 #[partV x i d] w fun e w' => e = .returned (.int .i64 (x.a + x.o)) ∧ Below w.heap.size w w' := by
  obtain ⟨a, o, n⟩ := x
  unfold Small at *
  simp only [partV] at *
  go_enter Try.func36, Try.ntmps36
  go_wp2
  go_ret
  exact ⟨rfl, (Below.refl _ _).alloc (Nat.le_refl _) _⟩
set_option maxHeartbeats 1000000 in
theorem inner_calls (x : Rng) (i d p : Int) (w : World) (hx : Small x.a) (ho : Small x.o) : Calls Try.prog 40 #[partV x i d, .int .i64 p] w fun e w' => e = .returned (.bool (inner x p)) ∧ Below w.heap.size w w' := by
  have c1 := fun W => end_calls x i d W hx ho
  obtain ⟨a, o, n⟩ := x
  unfold Small at *
  simp only [partV, inner] at *
  cases h1 : decide (a < p)
  · simp only [Bool.false_and]
    go_enter Try.func40, Try.ntmps40
    go_wp2_with fail
    go_ret
    exact ⟨rfl, (Below.refl _ _).alloc (Nat.le_refl _) _⟩
  · simp only [Bool.true_and]
    go_enter Try.func40, Try.ntmps40
    go_wp2_with fail
    refine (c1 _).mono ?_
    rintro e W1 ⟨rfl, hB1⟩
    have hB := ((Below.refl w.heap.size w).alloc (Nat.le_refl _) (.cells #[.int .i64 a, .int .i64 o, .int .i64 n, .int .i64 i, .int .i64 d] 70)).trans (hB1.mono (by simp))
    go_wp2
    go_ret
    exact ⟨rfl, hB⟩
set_option maxHeartbeats 1000000 in
theorem outer_calls (x : Rng) (i d p side : Int) (w : World) (hx : Small x.a) (ho : Small x.o) : Calls Try.prog 41 #[partV x i d, .int .i64 p, .int .i64 side] w fun e w' => e = .returned (.bool (outer x p side)) ∧ Below w.heap.size w w' := by
  have c1 := fun W => end_calls x i d W hx ho
  have c2 := fun W => left_calls side W
  obtain ⟨a, o, n⟩ := x
  unfold Small at *
  simp only [partV, outer] at *
  by_cases h1 : side < 0
  · rw [if_pos h1]
    rw [show decide (side < 0) = true from by simpa using h1] at c2
    clear h1
    go_enter Try.func41, Try.ntmps41
    go_wp2_with fail
    refine (c2 _).mono ?_
    rintro e w' ⟨rfl, rfl⟩
    go_wp2_with fail
    go_ret
    exact ⟨rfl, (Below.refl _ _).alloc (Nat.le_refl _) _⟩
  · rw [if_neg h1]
    rw [show decide (side < 0) = false from by simpa using h1] at c2
    clear h1
    go_enter Try.func41, Try.ntmps41
    go_wp2_with fail
    refine (c2 _).mono ?_
    rintro e w' ⟨rfl, rfl⟩
    go_wp2_with fail
    refine (c1 _).mono ?_
    rintro e W1 ⟨rfl, hB1⟩
    have hB := ((Below.refl w.heap.size w).alloc (Nat.le_refl _) (.cells #[.int .i64 a, .int .i64 o, .int .i64 n, .int .i64 i, .int .i64 d] 70)).trans (hB1.mono (by simp))
    go_wp2
    go_ret
    exact ⟨rfl, hB⟩
end Go.Proofs.Ytiadcpbaopafgaa
