/-
  PROVED HERE: rows within a row in memory, of which the last ones are made.
-/
import Derived.Test.YtgpopploimeeaaaRTable
namespace Go.Proofs.Ytgpopploimeeaaa
open Go.RowKit

/-- The rows from a on of n rows of m cells, in blocks from base on; the others are nil yet. -/
structure Rws (W : World) (base g n m a : Nat) (rb : Nat → Nat) (f : Nat → Nat → Value) : Prop where
  top : ∀ i, a ≤ i → i < n → W.cell? ⟨g, i, none⟩ = some (.slice (some ⟨rb i, 0, none⟩) m m)
  nil : ∀ i, i < a → i < n → W.cell? ⟨g, i, none⟩ = some (.slice none 0 0)
  tfr : ∀ i, i < n → W.frozen? ⟨g, i, none⟩ = false
  row : ∀ i j, a ≤ i → i < n → j < m → W.cell? ⟨rb i, j, none⟩ = some (f i j)
  fro : ∀ i j, a ≤ i → i < n → W.frozen? ⟨rb i, j, none⟩ = false
  ne : ∀ i, a ≤ i → i < n → rb i ≠ g
  inj : ∀ i k, a ≤ i → i < n → a ≤ k → k < n → rb i = rb k → i = k
  gb : base ≤ g
  rge : ∀ i, a ≤ i → i < n → base ≤ rb i
  gl : g < W.heap.size
  rl : ∀ i, a ≤ i → i < n → rb i < W.heap.size

section
variable {W W' : World} {base g n m a : Nat} {rb : Nat → Nat} {f : Nat → Nat → Value}
theorem Rws.below (h : Rws W base g n m a rb f) (hB : Below W.heap.size W W') : Rws W' base g n m a rb f :=
  ⟨fun i h1 h2 => (hB.cell (p := ⟨g, i, none⟩) h.gl).trans (h.top i h1 h2), fun i h1 h2 => (hB.cell (p := ⟨g, i, none⟩) h.gl).trans (h.nil i h1 h2), fun i h1 => (hB.frozen (p := ⟨g, i, none⟩) h.gl).trans (h.tfr i h1),
    fun i j h1 h2 h3 => (hB.cell (p := ⟨rb i, j, none⟩) (h.rl i h1 h2)).trans (h.row i j h1 h2 h3), fun i j h1 h2 => (hB.frozen (p := ⟨rb i, j, none⟩) (h.rl i h1 h2)).trans (h.fro i j h1 h2), h.ne, h.inj, h.gb, h.rge, Nat.lt_of_lt_of_le h.gl hB.size, fun i h1 h2 => Nat.lt_of_lt_of_le (h.rl i h1 h2) hB.size⟩
theorem Rws.congr {f' : Nat → Nat → Value} (h : Rws W base g n m a rb f) (e : ∀ p q, a ≤ p → p < n → q < m → f p q = f' p q) : Rws W base g n m a rb f' :=
  ⟨h.top, h.nil, h.tfr, fun i j h1 h2 h3 => (h.row i j h1 h2 h3).trans (by rw [e i j h1 h2 h3]), h.fro, h.ne, h.inj, h.gb, h.rge, h.gl, h.rl⟩
theorem Rws.drew (h : Rws W base g n m a rb f) : Rws W.drew base g n m a rb f := h.below (Below.refl _ W).drew
theorem Rws.grid (h : Rws W base g n m 0 rb f) : Grd W base g n m rb f :=
  ⟨fun i h1 => h.top i (Nat.zero_le _) h1, fun i j h1 h2 => h.row i j (Nat.zero_le _) h1 h2, fun i j h1 => h.fro i j (Nat.zero_le _) h1, fun i h1 => h.ne i (Nat.zero_le _) h1, fun i k h1 h2 => h.inj i k (Nat.zero_le _) h1 (Nat.zero_le _) h2, h.gb, fun i h1 => h.rge i (Nat.zero_le _) h1, h.gl, fun i h1 => h.rl i (Nat.zero_le _) h1⟩
/-- One cell set. -/
theorem Rws.set (h : Rws W base g n m a rb f) (i j : Nat) (ha : a ≤ i) (hi : i < n) (hj : j < m) (v : Value) : Rws (W.setCell ⟨rb i, j, none⟩ v) base g n m a rb (fun p q => if p = i ∧ q = j then v else f p q) := by
  have hs : (W.setCell ⟨rb i, j, none⟩ v).heap.size = W.heap.size := by simp [World.setCell]
  have ht : ∀ p, (W.setCell ⟨rb i, j, none⟩ v).cell? ⟨g, p, none⟩ = W.cell? ⟨g, p, none⟩ := fun p => World.cell?_setCell_other _ _ _ _ (by intro e; exact h.ne i ha hi (by cases e; rfl))
  refine ⟨fun p h1 h2 => (ht p).trans (h.top p h1 h2), fun p h1 h2 => (ht p).trans (h.nil p h1 h2), fun p h1 => by rw [World.frozen?_setCell]; exact h.tfr p h1, fun p q h1 hp hq => ?_, fun p q h1 hp => ?_, h.ne, h.inj, h.gb, h.rge, by rw [hs]; exact h.gl, fun p h1 hp => by rw [hs]; exact h.rl p h1 hp⟩
  · by_cases e : p = i ∧ q = j
    · obtain ⟨rfl, rfl⟩ := e
      rw [if_pos ⟨rfl, rfl⟩]
      exact World.cell?_setCell_same _ _ _ (h.row p q h1 hp hq)
    · rw [if_neg e, World.cell?_setCell_other _ _ _ _ (by
        intro e2
        apply e
        have e3 := congrArg Addr.block e2
        have e4 := congrArg Addr.off e2
        exact ⟨h.inj _ _ h1 hp ha hi e3.symm, e4.symm⟩)]
      exact h.row p q h1 hp hq
  · rw [World.frozen?_setCell]
    exact h.fro p q h1 hp
/-- One row more: laid, and told in the outer one. -/
theorem Rws.more (h : Rws W base g n m (a + 1) rb f) (hb : base ≤ W.heap.size) (ha : a < n) (z : Value) (t : TypeId) (hz : ∀ p q, q < m → p = a → f p q = z) (hm : ∀ j, j < m → (madeCells #[z] m)[j]? = some z) :
    Rws ((W.alloc (.cells (madeCells #[z] m) t)).setCell ⟨g, a, none⟩ (.slice (some ⟨W.heap.size, 0, none⟩) m m)) base g n m a (fun i => if i = a then W.heap.size else rb i) f := by
  have hB : Below W.heap.size W (W.alloc (.cells (madeCells #[z] m) t)) := (Below.refl _ W).alloc (Nat.le_refl _) _
  have h1 := h.below hB
  have hnew := World.alloc_heap_new W (.cells (madeCells #[z] m) t)
  have hsz := World.size_alloc W (.cells (madeCells #[z] m) t)
  have hgl := h.gl
  have hrl := h.rl
  generalize W.alloc (.cells (madeCells #[z] m) t) = V at *
  have hs : (V.setCell ⟨g, a, none⟩ (.slice (some ⟨W.heap.size, 0, none⟩) m m)).heap.size = V.heap.size := by simp [World.setCell]
  have ho : ∀ (b o : Nat), b ≠ g → (V.setCell ⟨g, a, none⟩ (.slice (some ⟨W.heap.size, 0, none⟩) m m)).cell? ⟨b, o, none⟩ = V.cell? ⟨b, o, none⟩ := fun b o hb => World.cell?_setCell_other _ _ _ _ (by intro e; exact hb (by cases e; rfl))
  have hc : ∀ p, p ≠ a → (V.setCell ⟨g, a, none⟩ (.slice (some ⟨W.heap.size, 0, none⟩) m m)).cell? ⟨g, p, none⟩ = V.cell? ⟨g, p, none⟩ := fun p hp => World.cell?_setCell_other _ _ _ _ (by intro e; exact hp (by cases e; rfl))
  refine ⟨fun p h2 h3 => ?_, fun p h2 h3 => ?_, fun p h2 => ?_, fun p q h2 h3 h4 => ?_, fun p q h2 h3 => ?_, fun p h2 h3 => ?_, fun p k h2 h3 h4 h5 h6 => ?_, h.gb, fun p h2 h3 => ?_, by rw [hs]; omega, fun p h2 h3 => ?_⟩
  · by_cases e : p = a
    · subst e
      rw [World.cell?_setCell_same _ _ _ (h1.nil p (Nat.lt_succ_self _) h3), if_pos rfl]
    · rw [hc p e, if_neg e]
      exact h1.top p (by omega) h3
  · rw [hc p (by omega)]
    exact h1.nil p (by omega) h3
  · rw [World.frozen?_setCell]
    exact h1.tfr p h2
  · by_cases e : p = a
    · subst e
      rw [if_pos rfl, ho _ _ (by omega), hz p q h4 rfl]
      simp only [World.cell?]
      rw [hnew]
      exact hm q h4
    · rw [if_neg e, ho _ _ (h.ne p (by omega) h3)]
      exact h1.row p q (by omega) h3 h4
  · rw [World.frozen?_setCell]
    by_cases e : p = a
    · rw [if_pos e]
      simp [World.frozen?, hnew]
    · rw [if_neg e]
      exact h1.fro p q (by omega) h3
  · by_cases e : p = a
    · rw [if_pos e]
      omega
    · rw [if_neg e]
      exact h.ne p (by omega) h3
  · by_cases e : p = a
    · rw [if_pos e] at h6
      by_cases e2 : k = a
      · omega
      · rw [if_neg e2] at h6
        have := hrl k (by omega) h5
        omega
    · rw [if_neg e] at h6
      by_cases e2 : k = a
      · rw [if_pos e2] at h6
        have := hrl p (by omega) h3
        omega
      · rw [if_neg e2] at h6
        exact h.inj p k (by omega) h3 (by omega) h5 h6
  · by_cases e : p = a
    · rw [if_pos e]
      exact hb
    · rw [if_neg e]
      exact h.rge p (by omega) h3
  · rw [hs]
    by_cases e : p = a
    · rw [if_pos e]
      omega
    · rw [if_neg e]
      have := hrl p (by omega) h3
      omega
/-- None is made yet. -/
theorem Rws.fresh (w : World) (n m : Nat) (t : TypeId) (rb : Nat → Nat) (f : Nat → Nat → Value) : Rws (w.alloc (.cells (madeCells #[.slice Option.none 0 0] n) t)) w.heap.size w.heap.size n m n rb f := by
  have hnew := World.alloc_heap_new w (.cells (madeCells #[.slice none 0 0] n) t)
  have hsz := World.size_alloc w (.cells (madeCells #[.slice none 0 0] n) t)
  generalize w.alloc (.cells (madeCells #[.slice none 0 0] n) t) = V at *
  refine ⟨fun p h2 h3 => by omega, fun p h2 h3 => ?_, fun p h2 => by simp [World.frozen?, hnew], fun p q h2 h3 h4 => by omega, fun p q h2 h3 => by omega, fun p h2 h3 => by omega, fun p k h2 h3 h4 h5 h6 => by omega, Nat.le_refl _, fun p h2 h3 => by omega, by omega, fun p h2 h3 => by omega⟩
  simp only [World.cell?]
  rw [hnew]
  show (madeCells #[.slice Option.none 0 0] n)[p]? = _
  simp [madeCells, h3, Nat.mod_one]
end
end Go.Proofs.Ytgpopploimeeaaa
