/-
  PROVED HERE: the three boxes that lay makes of its parameters.
-/
import Derived.Test.YtajabenlkmgjeaaDoorLoop
namespace Go.Proofs.YtajabenlkmgjeaaDoor
open Go.RowKit

/-- The world behind lay's first steps: the three boxes of its parameters. -/
def laid3 (w : World) (B : Nat) (k : Int) (s : ByteArray) (a : Option Addr) (len cap next : Nat) : World :=
  ((w.alloc (.cells #[.pointer (some ⟨B, 0, none⟩)] 82)).alloc (.cells #[.int .i64 k, .string s, .slice a len cap] 24)).alloc (.cells #[.int .i64 (next : Int)] 3)
theorem laid3_size (w : World) (B : Nat) (k : Int) (s : ByteArray) (a : Option Addr) (len cap next : Nat) : (laid3 w B k s a len cap next).heap.size = w.heap.size + 3 := by unfold laid3; simp
theorem laid3_below (w : World) (B : Nat) (k : Int) (s : ByteArray) (a : Option Addr) (len cap next : Nat) : Below w.heap.size w (laid3 w B k s a len cap next) := by
  unfold laid3
  exact (((Below.refl _ w).alloc (Nat.le_refl _) _).alloc (by simp) _).alloc (by simp; omega) _
theorem laid3_blocks (w : World) (B : Nat) (k : Int) (s : ByteArray) (a : Option Addr) (len cap next : Nat) :
    (laid3 w B k s a len cap next).heap[w.heap.size]? = some (.cells #[.pointer (some ⟨B, 0, none⟩)] 82 (0, 0)) ∧ (laid3 w B k s a len cap next).heap[w.heap.size + 1]? = some (.cells #[.int .i64 k, .string s, .slice a len cap] 24 (0, 0)) ∧ (laid3 w B k s a len cap next).heap[w.heap.size + 2]? = some (.cells #[.int .i64 (next : Int)] 3 (0, 0)) := by
  unfold laid3
  refine ⟨?_, ?_, ?_⟩
  · rw [Below.heap_alloc _ _ _ (by simp; omega), Below.heap_alloc _ _ _ (by simp)]
    exact World.alloc_heap_new w _
  · rw [Below.heap_alloc _ _ _ (by simp)]
    have := World.alloc_heap_new (w.alloc (.cells #[.pointer (some ⟨B, 0, none⟩)] 82)) (.cells #[.int .i64 k, .string s, .slice a len cap] 24)
    rwa [World.size_alloc] at this
  · have := World.alloc_heap_new ((w.alloc (.cells #[.pointer (some ⟨B, 0, none⟩)] 82)).alloc (.cells #[.int .i64 k, .string s, .slice a len cap] 24)) (.cells #[.int .i64 (next : Int)] 3)
    rwa [World.size_alloc, World.size_alloc] at this
/-- What the boxes show in a world that has them. -/
theorem laid3_cells {w X : World} {B : Nat} {k : Int} {s : ByteArray} {a : Option Addr} {len cap next : Nat} (h : ∀ b, b < 3 → X.heap[w.heap.size + b]? = (laid3 w B k s a len cap next).heap[w.heap.size + b]?) :
    X.cell? ⟨w.heap.size, 0, none⟩ = some (.pointer (some ⟨B, 0, none⟩)) ∧ X.cell? ⟨w.heap.size + 1, 0, none⟩ = some (.int .i64 k) ∧ X.cell? ⟨w.heap.size + 1, 1, none⟩ = some (.string s) ∧ X.cell? ⟨w.heap.size + 1, 2, none⟩ = some (.slice a len cap) ∧ X.cell? ⟨w.heap.size + 2, 0, none⟩ = some (.int .i64 (next : Int)) := by
  obtain ⟨b0, b1, b2⟩ := laid3_blocks w B k s a len cap next
  have h0 := (h 0 (by omega)).trans b0
  have h1 := (h 1 (by omega)).trans b1
  have h2 := (h 2 (by omega)).trans b2
  exact ⟨cell_of_row X _ 0 _ _ _ h0, cell_of_row X _ 0 _ _ _ h1, cell_of_row X _ 1 _ _ _ h1, cell_of_row X _ 2 _ _ _ h1, cell_of_row X _ 0 _ _ _ h2⟩
end Go.Proofs.YtajabenlkmgjeaaDoor
