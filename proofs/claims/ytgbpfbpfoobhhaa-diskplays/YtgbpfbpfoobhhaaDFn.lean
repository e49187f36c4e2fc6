/-
  PROVED HERE: what isMade, New, Len, Sure of a disk answer; its bytes in memory of their own.
-/
import Derived.Test.YtgbpfbpfoobhhaaDBase
import Derived.Laws.MakeOwn
namespace Go.Proofs.Ytgbpfbpfoobhhaa
open Go.RowKit

set_option maxRecDepth 100000 in
set_option maxHeartbeats 1000000 in
theorem made_nil (w : World) : Calls Try.prog 22 #[.pointer none] w fun e w' => e = .returned (.bool false) ∧ w' = w := by
  go_enter Try.func22, Try.ntmps22
  go_wp2
  go_ret
  exact ⟨rfl, rfl⟩

set_option maxRecDepth 100000 in
set_option maxHeartbeats 1000000 in
theorem made_calls (b : Nat) (m : Bool) (w : World) (h : w.cell? ⟨b, 3, none⟩ = some (.bool m)) : Calls Try.prog 22 #[.pointer (some ⟨b, 0, none⟩)] w fun e w' => e = .returned (.bool m) ∧ w' = w := by
  go_enter Try.func22, Try.ntmps22
  go_wp2
  go_ret
  exact ⟨rfl, rfl⟩

set_option maxRecDepth 100000 in
set_option maxHeartbeats 1000000 in
theorem new_bad (most : Int) (w : World) (h : most < 0 ∨ 262144 < most) : Calls Try.prog 7 #[.int .i64 most] w fun e w' => e = .returned (.tuple #[.pointer none, .int .i64 1]) ∧ w' = w := by
  by_cases h0 : most < 0
  · go_enter Try.func7, Try.ntmps7
    go_wp2
    go_ret2
    exact ⟨rfl, rfl⟩
  · have h1 : 262144 < most := h.resolve_left h0
    clear h
    go_enter Try.func7, Try.ntmps7
    go_wp2
    go_ret2
    exact ⟨rfl, rfl⟩

set_option maxRecDepth 100000 in
set_option maxHeartbeats 1000000 in
theorem new_good (most : Int) (w : World) (h : ¬ (most < 0 ∨ 262144 < most)) : Calls Try.prog 7 #[.int .i64 most] w fun e w' => e = .returned (.tuple #[.pointer (some ⟨w.heap.size, 0, none⟩), .int .i64 0]) ∧ w' = w.alloc (.cells #[.slice none 0 0, .int .i64 0, .int .i64 most, .bool true] 48) := by
  have h0 : ¬ most < 0 := fun e => h (.inl e)
  have h1 : ¬ 262144 < most := fun e => h (.inr e)
  clear h
  go_enter Try.func7, Try.ntmps7
  go_wp2
  go_ret2
  exact ⟨rfl, rfl⟩

set_option maxRecDepth 100000 in
set_option maxHeartbeats 1000000 in
theorem refNew_bad (most : Int) (w : World) (h : most < 0 ∨ 262144 < most) : Calls Try.prog 8 #[.int .i64 most] w fun e w' => e = .returned (.tuple #[.pointer none, .int .i64 1]) ∧ w' = w := by
  by_cases h0 : most < 0
  · go_enter Try.func8, Try.ntmps8
    go_wp2
    go_ret2
    exact ⟨rfl, rfl⟩
  · have h1 : 262144 < most := h.resolve_left h0
    clear h
    go_enter Try.func8, Try.ntmps8
    go_wp2
    go_ret2
    exact ⟨rfl, rfl⟩

set_option maxRecDepth 100000 in
set_option maxHeartbeats 1000000 in
theorem refNew_good (most : Int) (w : World) (h : ¬ (most < 0 ∨ 262144 < most)) : Calls Try.prog 8 #[.int .i64 most] w fun e w' => e = .returned (.tuple #[.pointer (some ⟨w.heap.size, 0, none⟩), .int .i64 0]) ∧ w' = w.alloc (.cells #[.slice none 0 0, .int .i64 0, .int .i64 most] 41) := by
  have h0 : ¬ most < 0 := fun e => h (.inl e)
  have h1 : ¬ 262144 < most := fun e => h (.inr e)
  clear h
  go_enter Try.func8, Try.ntmps8
  go_wp2
  go_ret2
  exact ⟨rfl, rfl⟩

theorem dk_new (w : World) (most : Int) (h0 : ¬ (most < 0 ∨ 262144 < most)) : Dk (w.alloc (.cells #[.slice none 0 0, .int .i64 0, .int .i64 most, .bool true] 48)) w.heap.size w.heap.size (.slice none 0 0) [] 0 most :=
  ⟨World.alloc_heap_new w _, World.ownsRow_nil _ _ _ _, Nat.le_refl _, fun c hc => (by cases hc), Int.le_refl _, by simp, by simp; omega, by omega⟩
theorem rk_new (w : World) (most : Int) (h0 : ¬ (most < 0 ∨ 262144 < most)) : Rk (w.alloc (.cells #[.slice none 0 0, .int .i64 0, .int .i64 most] 41)) w.heap.size w.heap.size (.slice none 0 0) [] 0 most :=
  ⟨World.alloc_heap_new w _, World.ownsRow_nil _ _ _ _, Nat.le_refl _, fun c hc => (by cases hc), Int.le_refl _, by simp, by simp; omega, by omega⟩

set_option maxRecDepth 100000 in
set_option maxHeartbeats 1000000 in
theorem len_calls (base b : Nat) (v : Value) (bs : List Int) (s m : Int) (w : World) (h : Dk w base b v bs s m) : Calls Try.prog 20 #[.pointer (some ⟨b, 0, none⟩)] w fun e w' => e = .returned (.int .i64 (bs.length : Int)) ∧ w' = w := by
  have HM := hide_ (made_calls b true w h.cell3)
  have c0 := h.cell0
  obtain ⟨a, cap, rfl, _, _, _, _⟩ := h.row
  clear h
  generalize bs.length = n at *
  go_enter Try.func20, Try.ntmps20
  go_wp2_with fail
  refine HM.out.mono ?_
  rintro e W1 ⟨rfl, rfl⟩
  go_wp2
  go_ret
  exact ⟨rfl, rfl⟩

set_option maxRecDepth 100000 in
set_option maxHeartbeats 1000000 in
theorem sure_calls (base b : Nat) (v : Value) (bs : List Int) (s m : Int) (w : World) (h : Dk w base b v bs s m) : Calls Try.prog 21 #[.pointer (some ⟨b, 0, none⟩)] w fun e w' => e = .returned (.int .i64 s) ∧ w' = w := by
  have HM := hide_ (made_calls b true w h.cell3)
  have c1 := h.cell1
  clear h
  go_enter Try.func21, Try.ntmps21
  go_wp2_with fail
  refine HM.out.mono ?_
  rintro e W1 ⟨rfl, rfl⟩
  go_wp2
  go_ret
  exact ⟨rfl, rfl⟩
end Go.Proofs.Ytgbpfbpfoobhhaa
