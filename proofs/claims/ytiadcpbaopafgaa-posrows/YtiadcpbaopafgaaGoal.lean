/-
  PROVED HERE: a part's goal: what it returns; nothing that lay before is turned.
-/
import Derived.Test.YtiadcpbaopafgaaSmall
namespace Go.Proofs.Ytiadcpbaopafgaa
open Go.RowKit

set_option maxRecDepth 100000 in
set_option maxHeartbeats 2000000 in
theorem goal_calls (x : Rng) (i d p side : Int) (w : World) (hx : Small x.a) (ho : Small x.o) (hn : Small x.n) (hd : Small d) : Calls Try.prog 39 #[partV x i d, .int .i64 p, .int .i64 side] w fun e w' => e = .returned (.int .i64 (goal x d p side)) ∧ Below w.heap.size w w' := by
  have c1 := fun W => begin_calls x i d W hx hd
  have c2 := fun W => inner_calls x i d p W hx ho
  have c3 := fun W => end_calls x i d W hx ho
  have c4 := fun W => left_calls side W
  obtain ⟨W0, hW0⟩ : ∃ W0, w.alloc (.cells #[.int .i64 x.a, .int .i64 x.o, .int .i64 x.n, .int .i64 i, .int .i64 d] 70) = W0 := ⟨_, rfl⟩
  have hB0 : Below w.heap.size w W0 := by rw [← hW0]; exact (Below.refl _ _).alloc (Nat.le_refl _) _
  have hs0 : w.heap.size < W0.heap.size := by rw [← hW0]; simp
  have m0 : W0.heap[w.heap.size]? = some (.cells #[.int .i64 x.a, .int .i64 x.o, .int .i64 x.n, .int .i64 i, .int .i64 d] 70 (0, 0)) := by rw [← hW0]; exact World.alloc_heap_new w _
  have k := fun W (hW : Below W0.heap.size W0 W) => cells5 ((hW.block _ hs0).trans m0)
  have HW0 : Hid (w.alloc (.cells #[.int .i64 x.a, .int .i64 x.o, .int .i64 x.n, .int .i64 i, .int .i64 d] 70) = W0) := hW0
  have K : Hid (∀ W, Below W0.heap.size W0 W → W.cell? ⟨w.heap.size, 0, none⟩ = some (.int .i64 x.a) ∧ W.cell? ⟨w.heap.size, 1, none⟩ = some (.int .i64 x.o) ∧ W.cell? ⟨w.heap.size, 2, none⟩ = some (.int .i64 x.n) ∧ W.cell? ⟨w.heap.size, 3, none⟩ = some (.int .i64 i) ∧ W.cell? ⟨w.heap.size, 4, none⟩ = some (.int .i64 d)) := k
  clear k hW0 m0
  obtain ⟨a, o, n⟩ := x
  unfold Small at *
  simp only [partV, goal] at *
  generalize inner ⟨a, o, n⟩ p = q at *
  by_cases h0 : o = 0
  · subst h0
    rw [if_pos (.inl rfl)]
    by_cases hs : side < 0
    · rw [if_pos hs]
      rw [show decide (side < 0) = true from by simpa using hs] at c4
      clear hs
      go_enter Try.func39, Try.ntmps39
      go_wp2_with fail
      rw [HW0.out]
      obtain ⟨k0, k1, k2, k3, k4⟩ := K.out W0 (Below.refl _ _)
      refine (c1 _).mono ?_
      rintro e W1 ⟨rfl, hB1⟩
      obtain ⟨k0, k1, k2, k3, k4⟩ := K.out W1 hB1
      have hB := hB0.trans (hB1.mono hB0.size)
      go_wp2_with fail
      refine (c4 _).mono ?_
      rintro e w' ⟨rfl, rfl⟩
      go_wp2
      go_ret
      exact ⟨rfl, hB⟩
    · rw [if_neg hs]
      rw [show decide (side < 0) = false from by simpa using hs] at c4
      clear hs
      go_enter Try.func39, Try.ntmps39
      go_wp2_with fail
      rw [HW0.out]
      refine (c1 _).mono ?_
      rintro e W1 ⟨rfl, hB1⟩
      obtain ⟨k0, k1, k2, k3, k4⟩ := K.out W1 hB1
      have hB := hB0.trans (hB1.mono hB0.size)
      go_wp2_with fail
      refine (c4 _).mono ?_
      rintro e w' ⟨rfl, rfl⟩
      go_wp2
      go_ret
      exact ⟨rfl, hB⟩
  · have e0 : (o == 0) = false := by simpa using h0
    cases q with
    | true =>
      rw [if_pos (.inr rfl)]
      by_cases hs : side < 0
      · rw [if_pos hs]
        rw [show decide (side < 0) = true from by simpa using hs] at c4
        clear hs
        go_enter Try.func39, Try.ntmps39
        go_wp2_with fail
        rw [HW0.out]
        refine (c1 _).mono ?_
        rintro e W1 ⟨rfl, hB1⟩
        obtain ⟨k0, k1, k2, k3, k4⟩ := K.out W1 hB1
        go_wp2_with fail
        refine (c2 _).mono ?_
        rintro e W2 ⟨rfl, hB2⟩
        have hB3 := hB1.trans (hB2.mono hB1.size)
        clear k0 k1 k2 k3 k4
        obtain ⟨k0, k1, k2, k3, k4⟩ := K.out W2 hB3
        have hB := hB0.trans (hB3.mono hB0.size)
        go_wp2_with fail
        refine (c4 _).mono ?_
        rintro e w' ⟨rfl, rfl⟩
        go_wp2
        go_ret
        exact ⟨rfl, hB⟩
      · rw [if_neg hs]
        rw [show decide (side < 0) = false from by simpa using hs] at c4
        clear hs
        go_enter Try.func39, Try.ntmps39
        go_wp2_with fail
        rw [HW0.out]
        refine (c1 _).mono ?_
        rintro e W1 ⟨rfl, hB1⟩
        obtain ⟨k0, k1, k2, k3, k4⟩ := K.out W1 hB1
        go_wp2_with fail
        refine (c2 _).mono ?_
        rintro e W2 ⟨rfl, hB2⟩
        have hB3 := hB1.trans (hB2.mono hB1.size)
        clear k0 k1 k2 k3 k4
        obtain ⟨k0, k1, k2, k3, k4⟩ := K.out W2 hB3
        have hB := hB0.trans (hB3.mono hB0.size)
        go_wp2_with fail
        refine (c4 _).mono ?_
        rintro e w' ⟨rfl, rfl⟩
        go_wp2
        go_ret
        exact ⟨rfl, hB⟩
    | false =>
      rw [if_neg (by simp [h0])]
      by_cases hp : p = a + o
      · rw [if_pos hp]
        have ep : (p == a + o) = true := by simpa using hp
        clear hp
        go_enter Try.func39, Try.ntmps39
        go_wp2_with fail
        rw [HW0.out]
        refine (c1 _).mono ?_
        rintro e W1 ⟨rfl, hB1⟩
        obtain ⟨k0, k1, k2, k3, k4⟩ := K.out W1 hB1
        go_wp2_with fail
        refine (c2 _).mono ?_
        rintro e W2 ⟨rfl, hB2⟩
        have hB3 := hB1.trans (hB2.mono hB1.size)
        clear k0 k1 k2 k3 k4
        obtain ⟨k0, k1, k2, k3, k4⟩ := K.out W2 hB3
        go_wp2_with fail
        refine (c3 _).mono ?_
        rintro e W3 ⟨rfl, hB4⟩
        have hB5 := hB3.trans (hB4.mono hB3.size)
        clear k0 k1 k2 k3 k4
        obtain ⟨k0, k1, k2, k3, k4⟩ := K.out W3 hB5
        have hB := hB0.trans (hB5.mono hB0.size)
        go_wp2
        go_ret
        exact ⟨rfl, hB⟩
      · rw [if_neg hp]
        have ep : (p == a + o) = false := by simpa using hp
        clear hp
        go_enter Try.func39, Try.ntmps39
        go_wp2_with fail
        rw [HW0.out]
        refine (c1 _).mono ?_
        rintro e W1 ⟨rfl, hB1⟩
        obtain ⟨k0, k1, k2, k3, k4⟩ := K.out W1 hB1
        go_wp2_with fail
        refine (c2 _).mono ?_
        rintro e W2 ⟨rfl, hB2⟩
        have hB3 := hB1.trans (hB2.mono hB1.size)
        clear k0 k1 k2 k3 k4
        obtain ⟨k0, k1, k2, k3, k4⟩ := K.out W2 hB3
        go_wp2_with fail
        refine (c3 _).mono ?_
        rintro e W3 ⟨rfl, hB4⟩
        have hB5 := hB3.trans (hB4.mono hB3.size)
        have hB := hB0.trans (hB5.mono hB0.size)
        go_wp2
        go_ret
        exact ⟨rfl, hB⟩
end Go.Proofs.Ytiadcpbaopafgaa
