/-
  PROVED HERE: the document's own word of an act, and the letters of its numbers.
-/
import Derived.Test.YtmkcdkfjomaidaaDoorSShapes
namespace Go.Proofs.YtmkcdkfjomaidaaDoor
open Go.RowKit

set_option maxRecDepth 100000 in
set_option maxHeartbeats 2000000 in
theorem word_hit (t : Shp) (ht : t ∈ tab) (k b : Int) (hk : t.k = k) (hb : k = 0 → t.b = b) (w : World) :
    Calls Tryd.prog 16 #[.int .i64 k, .int .i64 b] w fun e w' => e = .returned (.tuple #[.string t.word, .string t.fs]) ∧ w' = w := by
  unfold tab at ht
  simp only [List.mem_cons, List.not_mem_nil, or_false] at ht
  rcases ht with rfl | rfl | rfl | rfl | rfl | rfl | rfl | rfl | rfl | rfl | rfl | rfl | rfl | rfl | rfl
  · obtain rfl : (0 : Int) = k := hk
    obtain rfl : (0 : Int) = b := hb rfl
    go_enter Tryd.func16, Tryd.ntmps16
    go_wp2
    go_ret2
    exact ⟨rfl, rfl⟩
  · obtain rfl : (0 : Int) = k := hk
    obtain rfl : (1 : Int) = b := hb rfl
    go_enter Tryd.func16, Tryd.ntmps16
    go_wp2
    go_ret2
    exact ⟨rfl, rfl⟩
  · obtain rfl : (0 : Int) = k := hk
    obtain rfl : (2 : Int) = b := hb rfl
    go_enter Tryd.func16, Tryd.ntmps16
    go_wp2
    go_ret2
    exact ⟨rfl, rfl⟩
  · obtain rfl : (0 : Int) = k := hk
    obtain rfl : (3 : Int) = b := hb rfl
    go_enter Tryd.func16, Tryd.ntmps16
    go_wp2
    go_ret2
    exact ⟨rfl, rfl⟩
  · obtain rfl : (0 : Int) = k := hk
    obtain rfl : (4 : Int) = b := hb rfl
    go_enter Tryd.func16, Tryd.ntmps16
    go_wp2
    go_ret2
    exact ⟨rfl, rfl⟩
  · obtain rfl : (0 : Int) = k := hk
    obtain rfl : (5 : Int) = b := hb rfl
    go_enter Tryd.func16, Tryd.ntmps16
    go_wp2
    go_ret2
    exact ⟨rfl, rfl⟩
  · obtain rfl : (0 : Int) = k := hk
    obtain rfl : (6 : Int) = b := hb rfl
    go_enter Tryd.func16, Tryd.ntmps16
    go_wp2
    go_ret2
    exact ⟨rfl, rfl⟩
  · obtain rfl : (0 : Int) = k := hk
    obtain rfl : (7 : Int) = b := hb rfl
    go_enter Tryd.func16, Tryd.ntmps16
    go_wp2
    go_ret2
    exact ⟨rfl, rfl⟩
  · obtain rfl : (1 : Int) = k := hk
    clear hb
    go_enter Tryd.func16, Tryd.ntmps16
    go_wp2
    go_ret2
    exact ⟨rfl, rfl⟩
  · obtain rfl : (2 : Int) = k := hk
    clear hb
    go_enter Tryd.func16, Tryd.ntmps16
    go_wp2
    go_ret2
    exact ⟨rfl, rfl⟩
  · obtain rfl : (3 : Int) = k := hk
    clear hb
    go_enter Tryd.func16, Tryd.ntmps16
    go_wp2
    go_ret2
    exact ⟨rfl, rfl⟩
  · obtain rfl : (4 : Int) = k := hk
    clear hb
    go_enter Tryd.func16, Tryd.ntmps16
    go_wp2
    go_ret2
    exact ⟨rfl, rfl⟩
  · obtain rfl : (5 : Int) = k := hk
    clear hb
    go_enter Tryd.func16, Tryd.ntmps16
    go_wp2
    go_ret2
    exact ⟨rfl, rfl⟩
  · obtain rfl : (6 : Int) = k := hk
    clear hb
    go_enter Tryd.func16, Tryd.ntmps16
    go_wp2
    go_ret2
    exact ⟨rfl, rfl⟩
  · obtain rfl : (8 : Int) = k := hk
    clear hb
    go_enter Tryd.func16, Tryd.ntmps16
    go_wp2
    go_ret2
    exact ⟨rfl, rfl⟩

/-- No act's numbers. -/
def NoWord (k b : Int) : Prop := ∀ t ∈ tab, ¬ (t.k = k ∧ (k = 0 → t.b = b))
theorem noWord_k {k b : Int} (h : NoWord k b) : (k ≠ 1 ∧ k ≠ 2 ∧ k ≠ 3 ∧ k ≠ 4 ∧ k ≠ 5 ∧ k ≠ 6 ∧ k ≠ 8) ∧ (k = 0 → (b ≠ 0 ∧ b ≠ 1 ∧ b ≠ 2 ∧ b ≠ 3 ∧ b ≠ 4 ∧ b ≠ 5 ∧ b ≠ 6 ∧ b ≠ 7)) := by
  unfold NoWord tab at h
  simp only [List.mem_cons, List.not_mem_nil, or_false, forall_eq_or_imp, forall_eq] at h
  obtain ⟨a0, a1, a2, a3, a4, a5, a6, a7, a8, a9, a10, a11, a12, a13, a14⟩ := h
  refine ⟨⟨?_, ?_, ?_, ?_, ?_, ?_, ?_⟩, fun hk => ⟨?_, ?_, ?_, ?_, ?_, ?_, ?_, ?_⟩⟩
  · intro e; exact a8 ⟨e.symm, fun h => by rw [e] at h; cases h⟩
  · intro e; exact a9 ⟨e.symm, fun h => by rw [e] at h; cases h⟩
  · intro e; exact a10 ⟨e.symm, fun h => by rw [e] at h; cases h⟩
  · intro e; exact a11 ⟨e.symm, fun h => by rw [e] at h; cases h⟩
  · intro e; exact a12 ⟨e.symm, fun h => by rw [e] at h; cases h⟩
  · intro e; exact a13 ⟨e.symm, fun h => by rw [e] at h; cases h⟩
  · intro e; exact a14 ⟨e.symm, fun h => by rw [e] at h; cases h⟩
  · intro e; exact a0 ⟨hk.symm, fun _ => e.symm⟩
  · intro e; exact a1 ⟨hk.symm, fun _ => e.symm⟩
  · intro e; exact a2 ⟨hk.symm, fun _ => e.symm⟩
  · intro e; exact a3 ⟨hk.symm, fun _ => e.symm⟩
  · intro e; exact a4 ⟨hk.symm, fun _ => e.symm⟩
  · intro e; exact a5 ⟨hk.symm, fun _ => e.symm⟩
  · intro e; exact a6 ⟨hk.symm, fun _ => e.symm⟩
  · intro e; exact a7 ⟨hk.symm, fun _ => e.symm⟩

set_option maxRecDepth 100000 in
set_option maxHeartbeats 2000000 in
theorem word_miss (k b : Int) (h : NoWord k b) (w : World) :
    Calls Tryd.prog 16 #[.int .i64 k, .int .i64 b] w fun e w' => e = .returned (.tuple #[.string ⟨#[]⟩, .string ⟨#[]⟩]) ∧ w' = w := by
  obtain ⟨⟨h1, h2, h3, h4, h5, h6, h8⟩, h0⟩ := noWord_k h
  clear h
  by_cases hk : k = 0
  · subst hk
    obtain ⟨b0, b1, b2, b3, b4, b5, b6, b7⟩ := h0 rfl
    clear h0
    go_enter Tryd.func16, Tryd.ntmps16
    go_wp2
    go_ret2
    exact ⟨rfl, rfl⟩
  · clear h0
    go_enter Tryd.func16, Tryd.ntmps16
    go_wp2
    go_ret2
    exact ⟨rfl, rfl⟩
end Go.Proofs.YtmkcdkfjomaidaaDoor
