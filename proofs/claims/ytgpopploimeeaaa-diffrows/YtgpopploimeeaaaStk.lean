/-
  PROVED HERE: the stack of flat, push, pop, pass and top of it: what they leave and return; nothing else that lay before is turned.
-/
import Derived.Test.YtgpopploimeeaaaRow
import Derived.RegionTactic
import Derived.BigRegion
import Derived.BigQuiet
import Derived.Deep.QuietTactic
import Derived.Laws.Rows
namespace Go.Proofs.Ytgpopploimeeaaa
open Go.RowKit

/-- The cells of a stack that holds R, its rest being v. -/
def StkCells (v : Value) (R : List Int) (cs : Array Value) : Prop :=
  cs.size = 34 ∧ (∀ i, i < 32 → i < R.length → cs[i]? = some (.int .i64 (R.getD i 0))) ∧ (∀ i, i < 32 → ∃ z, cs[i]? = some (.int .i64 z)) ∧ cs[32]? = some v ∧ cs[33]? = some (.int .i64 (R.length : Int))
/-- The block g is a stack that holds R, its rest being v. -/
def Stk (w : World) (base g : Nat) (v : Value) (R : List Int) : Prop :=
  base ≤ g ∧ w.ownsRow base 3 1 v (R.length - 32) ((R.drop 32).map (Value.int .i64)) ∧ ∃ cs, w.heap[g]? = some (.cells cs 80 (0, 0)) ∧ StkCells v R cs

/-- Nothing but the blocks g and v is turned. -/
structure Kept (g : Nat) (v : Option Nat) (w w' : World) : Prop where
  os : w'.os = w.os
  tape : w'.tape = w.tape
  output : w'.output = w.output
  size : w.heap.size ≤ w'.heap.size
  block : ∀ k, k < w.heap.size → k ≠ g → some k ≠ v → w'.heap[k]? = w.heap[k]?
theorem Kept.refl (g : Nat) (v : Option Nat) (w : World) : Kept g v w w := ⟨rfl, rfl, rfl, Nat.le_refl _, fun _ _ _ _ => rfl⟩
theorem Kept.drew {g : Nat} {v : Option Nat} {w w' : World} (h : Kept g v w w') : Kept g v w w'.drew := ⟨h.os, h.tape, h.output, h.size, h.block⟩
theorem Kept.drewN {g : Nat} {v : Option Nat} {w w' : World} (h : Kept g v w w') (n : Nat) : Kept g v w (w'.drewN n) := ⟨h.os, h.tape, h.output, h.size, h.block⟩
theorem Kept.alloc {g : Nat} {v : Option Nat} {w w' : World} (h : Kept g v w w') (o : Obj) : Kept g v w (w'.alloc o) :=
  ⟨h.os, h.tape, h.output, by have := h.size; simp; omega, fun k h1 h2 h3 => (Below.heap_alloc w' o k (Nat.lt_of_lt_of_le h1 h.size)).trans (h.block k h1 h2 h3)⟩
theorem Kept.setCell {g : Nat} {v : Option Nat} {w w' : World} (h : Kept g v w w') (j : Nat) (u : Value) : Kept g v w (w'.setCell ⟨g, j, none⟩ u) :=
  ⟨h.os, h.tape, h.output, by simpa using h.size, fun k h1 h2 h3 => (Below.heap_setCell w' _ u k h2).trans (h.block k h1 h2 h3)⟩
theorem Kept.below {g : Nat} {v : Option Nat} {w w' : World} (h : Kept g v w w') {base : Nat} (hg : base ≤ g) (hv : ∀ k, v = some k → base ≤ k) (hb : base ≤ w.heap.size) : Below base w w' :=
  ⟨h.os, h.tape, h.output, h.size, fun k hk => h.block k (by omega) (by omega) (fun e => by have := hv k e.symm; omega)⟩

theorem own_base {w : World} {base : Nat} {e : TypeId} {v : Value} {n : Nat} {xs : List Value} (h : w.ownsRow base e 1 v n xs) : ∀ k, v.ownBlock = some k → base ≤ k ∧ k < w.heap.size ∧ ∃ cur, w.heap[k]? = some (.cells cur e (0, 0)) := by
  intro k hk
  rcases h.2 with ⟨rfl, _⟩ | ⟨g, cap, cur, rfl, hb, hg, _⟩
  · simp [Value.ownBlock] at hk
  · obtain rfl : g = k := by simpa [Value.ownBlock] using hk
    exact ⟨hb, (Array.getElem?_eq_some_iff.1 hg).1, cur, hg⟩
theorem Stk.apart {w : World} {base g : Nat} {v : Value} {R : List Int} (h : Stk w base g v R) : v.ownBlock ≠ some g := by
  intro e
  obtain ⟨_, h2, cs, h3, _⟩ := h
  obtain ⟨_, _, cur, h4⟩ := own_base h2 g e
  rw [h3] at h4
  have := (Obj.cells.inj (Option.some.inj h4)).2.1
  exact absurd this (by decide)
theorem own_set {w : World} {base : Nat} {e : TypeId} {v : Value} {n : Nat} {xs : List Value} (h : w.ownsRow base e 1 v n xs) (g j : Nat) (u : Value) (hg : v.ownBlock ≠ some g) : (w.setCell ⟨g, j, none⟩ u).ownsRow base e 1 v n xs := by
  obtain ⟨h1, h2 | ⟨b, cap, cur, rfl, hb, hc, h3⟩⟩ := h
  · exact ⟨h1, .inl h2⟩
  · refine ⟨h1, .inr ⟨b, cap, cur, rfl, hb, ?_, h3⟩⟩
    rw [Below.heap_setCell w _ u b (by intro e; exact hg (by simp [Value.ownBlock, e]))]
    exact hc
/-- What a stack's cells are. -/
theorem Stk.cells {w : World} {base g : Nat} {v : Value} {R : List Int} (h : Stk w base g v R) : w.cell? ⟨g, 32, none⟩ = some v ∧ w.cell? ⟨g, 33, none⟩ = some (.int .i64 (R.length : Int)) ∧ (∀ i, i < 32 → ∃ z, w.cell? ⟨g, i, none⟩ = some (.int .i64 z)) ∧ (∀ i, i < 32 → i < R.length → w.cell? ⟨g, i, none⟩ = some (.int .i64 (R.getD i 0))) ∧ (∀ i, w.frozen? ⟨g, i, none⟩ = false) ∧ g < w.heap.size := by
  obtain ⟨_, _, cs, hg, h0, h1, h2, h3, h4⟩ := h
  have hc := fun j => cell_of_row w g j cs _ _ hg
  refine ⟨(hc 32).trans h3, (hc 33).trans h4, fun i hi => ?_, fun i hi hr => (hc i).trans (h1 i hi hr), fun i => ?_, (Array.getElem?_eq_some_iff.1 hg).1⟩
  · obtain ⟨z, hz⟩ := h2 i hi
    exact ⟨z, (hc i).trans hz⟩
  · simp [World.frozen?, hg]
end Go.Proofs.Ytgpopploimeeaaa
