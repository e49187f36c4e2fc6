/-
  PROVED HERE: the document's own table of the longest pairs.
-/
import Derived.Test.YtgpopploimeeaaaGGrid
namespace Go.Proofs.Ytgpopploimeeaaa
open Go.RowKit

def BoolG (W : World) (base g n m : Nat) (rb : Nat → Nat) (like : Nat → Nat → Bool) : Prop := Grd W base g n m rb (fun i j => .bool (like i j))
def IntG (W : World) (base g n m : Nat) (rb : Nat → Nat) (f : Nat → Nat → Nat) : Prop := Grd W base g n m rb (fun i j => .int .i64 (f i j : Int))

theorem info_row : (Try.prog.info? 45).map (fun i => (i.zero, i.size, i.bytes)) = some (some (.slice none 0 0), 1, 24) := by kernel_rfl
theorem info_int : (Try.prog.info? 3).map (fun i => (i.zero, i.size, i.bytes)) = some (some (.int .i64 0), 1, 8) := by kernel_rfl

/-- The outer row while the inner ones are made: k of them are. -/
def topC (g n m k : Nat) : Array Value := ((List.range n).map fun p => if p < k then (.slice (some ⟨g + 1 + p, 0, none⟩) m m : Value) else .slice none 0 0).toArray
theorem topC_zero (g n m : Nat) : topC g n m 0 = madeCells #[.slice none 0 0] n := by
  apply Array.ext
  · simp [topC, madeCells]
  · intro i h1 h2
    simp [topC, madeCells, Nat.mod_one]
theorem topC_at (g n m k p : Nat) (hp : p < n) : (topC g n m k)[p]? = some (if p < k then (.slice (some ⟨g + 1 + p, 0, none⟩) m m : Value) else .slice none 0 0) := by
  unfold topC
  rw [List.getElem?_toArray, List.getElem?_map, List.getElem?_range hp]
  rfl
theorem topC_set (g n m k : Nat) (hk : k < n) : (topC g n m k).setIfInBounds k (.slice (some ⟨g + 1 + k, 0, none⟩) m m) = topC g n m (k + 1) := by
  apply Array.ext_getElem?
  intro p
  rw [Array.getElem?_setIfInBounds]
  by_cases hp : p < n
  · by_cases e : k = p
    · subst e
      rw [if_pos rfl, if_pos (by simp [topC]; exact hp), topC_at _ _ _ _ _ hp, if_pos (by omega)]
    · rw [if_neg e, topC_at _ _ _ _ _ hp, topC_at _ _ _ _ _ hp]
      by_cases h1 : p < k
      · rw [if_pos h1, if_pos (by omega)]
      · rw [if_neg h1, if_neg (by omega)]
  · have h1 : (topC g n m k).size = n := by simp [topC]
    have h2 : (topC g n m (k + 1)).size = n := by simp [topC]
    rw [if_neg (by omega), Array.getElem?_eq_none (by omega), Array.getElem?_eq_none (by omega)]

/-- The rows while they are made. -/
structure Mk (w W : World) (n m k : Nat) : Prop where
  top : W.heap[w.heap.size]? = some (.cells (topC w.heap.size n m k) 45 (0, 0))
  row : ∀ p, p < k → W.heap[w.heap.size + 1 + p]? = some (.cells (madeCells #[.int .i64 0] m) 3 (0, 0))
  size : W.heap.size = w.heap.size + 1 + k
  b : Below w.heap.size w W

theorem made_at (m j : Nat) (h : j < m) : (madeCells #[.int .i64 0] m)[j]? = some (.int .i64 0) := by
  simp [madeCells, h, Nat.mod_one]
theorem heap_set_row (W : World) (b o : Nat) (cur : Array Value) (t : TypeId) (u : Value) (h : W.heap[b]? = some (.cells cur t (0, 0))) : (W.setCell ⟨b, o, none⟩ u).heap[b]? = some (.cells (cur.setIfInBounds o u) t (0, 0)) := by
  have hlt : b < W.heap.size := (Array.getElem?_eq_some_iff.1 h).1
  have hg : W.heap[b] = .cells cur t (0, 0) := by
    rw [Array.getElem?_eq_getElem hlt] at h
    exact Option.some.inj h
  simp [World.setCell, hlt, Array.getElem_modify, hg]

theorem Mk.more {w W : World} {n m k : Nat} (h : Mk w W n m k) (hk : k < n) : Mk w ((W.setCell ⟨w.heap.size, k, none⟩ (.slice (some ⟨W.heap.size, 0, none⟩) m m)).alloc (.cells (madeCells #[.int .i64 0] m) 3)) n m (k + 1) := by
  have hs := h.size
  have hV : (W.setCell ⟨w.heap.size, k, none⟩ (.slice (some ⟨W.heap.size, 0, none⟩) m m)).heap.size = W.heap.size := by simp [World.setCell]
  have ht := heap_set_row W w.heap.size k _ _ (.slice (some ⟨W.heap.size, 0, none⟩) m m) h.top
  have ho : ∀ q, q ≠ w.heap.size → (W.setCell ⟨w.heap.size, k, none⟩ (.slice (some ⟨W.heap.size, 0, none⟩) m m)).heap[q]? = W.heap[q]? := fun q hq => Below.heap_setCell _ _ _ _ hq
  have hb : Below w.heap.size w (W.setCell ⟨w.heap.size, k, none⟩ (.slice (some ⟨W.heap.size, 0, none⟩) m m)) := h.b.setCell (Nat.le_refl _) _
  rw [hs, topC_set _ _ _ _ hk] at ht
  rw [hs] at hV ho hb ⊢
  generalize W.setCell ⟨w.heap.size, k, none⟩ (.slice (some ⟨w.heap.size + 1 + k, 0, none⟩) m m) = V at *
  refine ⟨(Below.heap_alloc V _ _ (by omega)).trans ht, fun p hp => ?_, by rw [World.size_alloc]; omega, hb.alloc hb.size _⟩
  by_cases e : p = k
  · subst e
    rw [← hV]
    exact World.alloc_heap_new V _
  · exact (Below.heap_alloc V _ _ (by omega)).trans ((ho _ (by omega)).trans (h.row p (by omega)))

theorem Mk.grid {w W : World} {n m : Nat} (h : Mk w W n m n) : IntG W w.heap.size w.heap.size n m (fun i => w.heap.size + 1 + i) (fun _ _ => 0) := by
  have hs := h.size
  have hc : ∀ (b o : Nat) (cs : Array Value) (t : TypeId), W.heap[b]? = some (.cells cs t (0, 0)) → W.cell? ⟨b, o, none⟩ = cs[o]? := fun b o cs t hh => by
    simp only [World.cell?]
    rw [hh]
    rfl
  refine ⟨fun i hi => ?_, fun i j hi hj => ?_, fun i j hi => ?_, fun i _ => by omega, fun i k _ _ e => by omega, Nat.le_refl _, fun i _ => by omega, by omega, fun i hi => by omega⟩
  · rw [hc _ _ _ _ h.top, topC_at _ _ _ _ _ hi, if_pos hi]
  · rw [hc _ _ _ _ (h.row i hi), made_at m j hj]
    rfl
  · simp [World.frozen?, h.row i hi]
end Go.Proofs.Ytgpopploimeeaaa
