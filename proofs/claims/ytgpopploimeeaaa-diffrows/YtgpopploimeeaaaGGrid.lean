/-
  PROVED HERE: rows within rows in memory: what they hold, one cell set, what keeps them.
-/
import Derived.Test.YtgpopploimeeaaaPDiff
import Derived.Test.YtgpopploimeeaaaProg
import Derived.WalkKit
import Derived.WalkSmall
import Derived.BigQuiet
import Derived.BigRegion
import Derived.KernelRfl
import Derived.ProofKit
import Derived.RangeFuncRecord
import Derived.Deep.OwnRows
import Derived.Deep.LoopGhost
import Derived.Maps.AppendAt
import Derived.Deep.RegionHeld3
namespace Go.Proofs.Ytgpopploimeeaaa
open Go.RowKit

theorem hide_ {p : Prop} (h : p) : Hid p := h

/-- n rows of m cells, in blocks from base on. -/
structure Grd (W : World) (base g n m : Nat) (rb : Nat → Nat) (f : Nat → Nat → Value) : Prop where
  top : ∀ i, i < n → W.cell? ⟨g, i, none⟩ = some (.slice (some ⟨rb i, 0, none⟩) m m)
  row : ∀ i j, i < n → j < m → W.cell? ⟨rb i, j, none⟩ = some (f i j)
  fro : ∀ i j, i < n → W.frozen? ⟨rb i, j, none⟩ = false
  ne : ∀ i, i < n → rb i ≠ g
  inj : ∀ i k, i < n → k < n → rb i = rb k → i = k
  gb : base ≤ g
  rge : ∀ i, i < n → base ≤ rb i
  gl : g < W.heap.size
  rl : ∀ i, i < n → rb i < W.heap.size

section
variable {W W' : World} {base g n m : Nat} {rb : Nat → Nat} {f : Nat → Nat → Value}
theorem Grd.below (h : Grd W base g n m rb f) (hB : Below W.heap.size W W') : Grd W' base g n m rb f :=
  ⟨fun i hi => (hB.cell (p := ⟨g, i, none⟩) h.gl).trans (h.top i hi), fun i j hi hj => (hB.cell (p := ⟨rb i, j, none⟩) (h.rl i hi)).trans (h.row i j hi hj), fun i j hi => (hB.frozen (p := ⟨rb i, j, none⟩) (h.rl i hi)).trans (h.fro i j hi), h.ne, h.inj, h.gb, h.rge, Nat.lt_of_lt_of_le h.gl hB.size, fun i hi => Nat.lt_of_lt_of_le (h.rl i hi) hB.size⟩
theorem Grd.kept (h : Grd W base g n m rb f) (hs : W.heap.size ≤ W'.heap.size) (hg : W'.heap[g]? = W.heap[g]?) (hr : ∀ i, i < n → W'.heap[rb i]? = W.heap[rb i]?) : Grd W' base g n m rb f :=
  ⟨fun i hi => (World.cell?_of_block (w := W) hg).trans (h.top i hi), fun i j hi hj => (World.cell?_of_block (w := W) (hr i hi)).trans (h.row i j hi hj), fun i j hi => (World.frozen?_of_block (w := W) (hr i hi)).trans (h.fro i j hi), h.ne, h.inj, h.gb, h.rge, Nat.lt_of_lt_of_le h.gl hs, fun i hi => Nat.lt_of_lt_of_le (h.rl i hi) hs⟩
/-- One cell set. -/
theorem Grd.set (h : Grd W base g n m rb f) (i j : Nat) (hi : i < n) (hj : j < m) (v : Value) : Grd (W.setCell ⟨rb i, j, none⟩ v) base g n m rb (fun p q => if p = i ∧ q = j then v else f p q) := by
  have hs : (W.setCell ⟨rb i, j, none⟩ v).heap.size = W.heap.size := by simp [World.setCell]
  refine ⟨fun p hp => ?_, fun p q hp hq => ?_, fun p q hp => ?_, h.ne, h.inj, h.gb, h.rge, by rw [hs]; exact h.gl, fun p hp => by rw [hs]; exact h.rl p hp⟩
  · rw [World.cell?_setCell_other _ _ _ _ (by intro e; exact h.ne i hi (by cases e; rfl))]
    exact h.top p hp
  · by_cases e : p = i ∧ q = j
    · obtain ⟨rfl, rfl⟩ := e
      rw [if_pos ⟨rfl, rfl⟩]
      exact World.cell?_setCell_same _ _ _ (h.row p q hp hq)
    · rw [if_neg e, World.cell?_setCell_other _ _ _ _ (by
        intro e2
        apply e
        have e3 := congrArg Addr.block e2
        have e4 := congrArg Addr.off e2
        exact ⟨h.inj _ _ hp hi e3.symm, e4.symm⟩)]
      exact h.row p q hp hq
  · rw [World.frozen?_setCell]
    exact h.fro p q hp
end
end Go.Proofs.Ytgpopploimeeaaa
