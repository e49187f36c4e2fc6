/-
  PROVED HERE: the calls of a mapping that nobody made: what they return; nothing that lay before is turned.
-/
import Derived.Test.YtiadcpbaopafgaaMapF
namespace Go.Proofs.Ytiadcpbaopafgaa
open Go.RowKit

/-- A pointer to a mapping: was it made? -/
def MadeAt (w : World) (x : Option Addr) (q : Bool) : Prop := (x = none ∧ q = false) ∨ ∃ B, x = some ⟨B, 0, none⟩ ∧ B < w.heap.size ∧ w.cell? ⟨B, 1, none⟩ = some (.bool q)
theorem MadeAt.below {w w' : World} {x : Option Addr} {q : Bool} (h : MadeAt w x q) (hb : Below w.heap.size w w') : MadeAt w' x q := by
  rcases h with h | ⟨B, rfl, hB, hc⟩
  · exact .inl h
  · exact .inr ⟨B, rfl, Nat.lt_of_lt_of_le hB hb.size, (hb.cell (p := ⟨B, 1, none⟩) hB).trans hc⟩
set_option maxHeartbeats 400000 in
theorem made_calls (x : Option Addr) (q : Bool) (w : World) (h : MadeAt w x q) : Calls Try.prog 32 #[.pointer x] w fun e w' => e = .returned (.bool q) ∧ w' = w := by
  rcases h with ⟨rfl, rfl⟩ | ⟨B, rfl, hB, hc⟩
  · go_enter Try.func32, Try.ntmps32
    go_wp2
    go_ret
    exact ⟨rfl, rfl⟩
  · go_enter Try.func32, Try.ntmps32
    go_wp2
    go_ret
    exact ⟨rfl, rfl⟩
set_option maxHeartbeats 400000 in
theorem zadd_calls (x : Option Addr) (v : Value) (w : World) (h : MadeAt w x false) : Calls Try.prog 20 #[.pointer x, v] w fun e w' => e = .returned (.int .i64 7) ∧ w' = w := by
  have c := made_calls x false w h
  go_enter Try.func20, Try.ntmps20
  go_wp2_with fail
  refine c.mono ?_
  rintro e w' ⟨rfl, rfl⟩
  go_wp2
  go_ret
  exact ⟨rfl, rfl⟩
set_option maxHeartbeats 400000 in
theorem zmirror_calls (x : Option Addr) (i j : Int) (w : World) (h : MadeAt w x false) : Calls Try.prog 22 #[.pointer x, .int .i64 i, .int .i64 j] w fun e w' => e = .returned (.int .i64 7) ∧ w' = w := by
  have c := made_calls x false w h
  go_enter Try.func22, Try.ntmps22
  go_wp2_with fail
  refine c.mono ?_
  rintro e w' ⟨rfl, rfl⟩
  go_wp2
  go_ret
  exact ⟨rfl, rfl⟩
set_option maxHeartbeats 400000 in
theorem zlen_calls (x : Option Addr) (w : World) (h : MadeAt w x false) : Calls Try.prog 26 #[.pointer x] w fun e w' => e = .returned (.int .i64 0) ∧ w' = w := by
  have c := made_calls x false w h
  go_enter Try.func26, Try.ntmps26
  go_wp2_with fail
  refine c.mono ?_
  rintro e w' ⟨rfl, rfl⟩
  go_wp2
  go_ret
  exact ⟨rfl, rfl⟩
set_option maxRecDepth 100000 in
set_option maxHeartbeats 1000000 in
theorem zmap_calls (x : Option Addr) (f p side : Int) (w : World) (h : MadeAt w x false) : Calls Try.prog 24 #[.pointer x, .int .i64 f, .int .i64 p, .int .i64 side] w fun e w' => e = .returned (.tuple #[.agg #[.int .i64 0, .bool false, .int .i64 0, .int .i64 0], .int .i64 7]) ∧ Below w.heap.size w w' := by
  obtain ⟨W1, hW1⟩ : ∃ W1, w.alloc (.cells #[.int .i64 0, .bool false, .int .i64 0, .int .i64 0] 24) = W1 := ⟨_, rfl⟩
  have hB0 : Below w.heap.size w W1 := by rw [← hW1]; exact (Below.refl _ _).alloc (Nat.le_refl _) _
  have m0 : W1.heap[w.heap.size]? = some (.cells #[.int .i64 0, .bool false, .int .i64 0, .int .i64 0] 24 (0, 0)) := by rw [← hW1]; exact World.alloc_heap_new w _
  have HW1 : Hid (w.alloc (.cells #[.int .i64 0, .bool false, .int .i64 0, .int .i64 0] 24) = W1) := hW1
  have c := made_calls x false W1 (h.below hB0)
  obtain ⟨j0, j1, j2, j3⟩ := cells4 m0
  have f0 : ∀ j, W1.frozen? ⟨w.heap.size, j, none⟩ = false := fun j => frozen_block m0
  have M0 : Hid (W1.heap[w.heap.size]? = some (.cells #[.int .i64 0, .bool false, .int .i64 0, .int .i64 0] 24 (0, 0))) := m0
  clear hW1 m0
  go_enter Try.func24, Try.ntmps24
  go_wp2_with fail
  rw [HW1.out]
  refine c.mono ?_
  rintro e w' ⟨rfl, hw'⟩
  rw [hw']
  clear hw'
  go_wp2
  refine bodyPost_ret (results_row_tmp rfl _ _ w.heap.size 24 _ (0, 0) _ rfl (put4 M0.out _ _ _ _) Try.underlying24 rfl sizeSpot) rfl ?_
  exact ⟨rfl, below4 hB0 (Nat.le_refl _) ..⟩
end Go.Proofs.Ytiadcpbaopafgaa
