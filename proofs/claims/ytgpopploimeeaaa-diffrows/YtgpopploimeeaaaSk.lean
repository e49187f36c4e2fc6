/-
  PROVED HERE: what the program's search for the longest pairs leaves as it was, and what it adds.
-/
import Derived.Test.YtgpopploimeeaaaRPairs
namespace Go.Proofs.Ytgpopploimeeaaa
open Go.RowKit

theorem owns_below {W W' : World} {b : Nat} {e : TypeId} {s : Nat} {v : Value} {n : Nat} {xs : List Value} (h : W.ownsRow b e s v n xs) (hB : Below W.heap.size W W') : W'.ownsRow b e s v n xs := by
  refine ⟨h.1, ?_⟩
  rcases h.2 with hn | ⟨g, cap, cur, rfl, hbb, hg, rest⟩
  · exact .inl hn
  · exact .inr ⟨g, cap, cur, rfl, hbb, (hB.block g (Array.getElem?_eq_some_iff.1 hg).1).trans hg, rest⟩

/-- What stays while the program's search goes on. -/
structure Sk (like : Nat → Nat → Bool) (w W : World) (g n m : Nat) (rb : Nat → Nat) (v : Value) (l : List (Nat × Nat)) : Prop where
  own : W.ownsRow w.heap.size 68 2 v l.length (pairV l)
  grid : IntG W w.heap.size g (n + 1) (m + 1) rb (longP like n m)
  b : Below w.heap.size w W
  ne : ∀ k, v.ownBlock = some k → k ≠ g ∧ ∀ i, i < n + 1 → k ≠ rb i
theorem Sk.below {like : Nat → Nat → Bool} {w W W' : World} {g n m : Nat} {rb : Nat → Nat} {v : Value} {l : List (Nat × Nat)} (h : Sk like w W g n m rb v l) (hB : Below W.heap.size W W') : Sk like w W' g n m rb v l :=
  ⟨owns_below h.own hB, Grd.below h.grid hB, h.b.trans (hB.mono h.b.size), h.ne⟩

/-- One pair more. -/
theorem Sk.more {like : Nat → Nat → Bool} {w W : World} {g n m : Nat} {rb : Nat → Nat} {v : Value} {l : List (Nat × Nat)} (h : Sk like w W g n m rb v l) (hl : l.length ≤ 400) (p q : Nat) :
    ∃ v' W1, (Builtin.append_ #[26, 26] 26 #[v, .slice (some ⟨W.heap.size, 0, none⟩) 1 1]).run Try.prog (W.alloc (.cells #[.int .i64 (p : Int), .int .i64 (q : Int)] 68)) = .ok v' W1 ∧
      Hid (Sk like w W1 g n m rb v' (l ++ [(p, q)])) := by
  have hown := h.own.alloc (.cells #[.int .i64 (p : Int), .int .i64 (q : Int)] 68)
  have hB := h.b.alloc h.b.size (.cells #[.int .i64 (p : Int), .int .i64 (q : Int)] 68)
  have hG : Grd (W.alloc (.cells #[.int .i64 (p : Int), .int .i64 (q : Int)] 68)) w.heap.size g (n + 1) (m + 1) rb _ := Grd.below h.grid ((Below.refl _ W).alloc (Nat.le_refl _) _)
  have hsz := World.size_alloc W (.cells #[.int .i64 (p : Int), .int .i64 (q : Int)] 68)
  have hnew := World.alloc_heap_new W (.cells #[.int .i64 (p : Int), .int .i64 (q : Int)] 68)
  generalize W.alloc (.cells #[.int .i64 (p : Int), .int .i64 (q : Int)] 68) = V at *
  have hws := h.b.size
  have c0 : V.cell? ⟨W.heap.size, 0, none⟩ = some (.int .i64 (p : Int)) := by simp only [World.cell?]; rw [hnew]; rfl
  have c1 : V.cell? ⟨W.heap.size, 1, none⟩ = some (.int .i64 (q : Int)) := by simp only [World.cell?]; rw [hnew]; rfl
  obtain ⟨v', W1, h1, h2, h3, h4⟩ := append_pair w.heap.size v l V hown (by omega) (by omega) W.heap.size p q c0 c1
  have hsz1 := h3.size
  refine ⟨v', W1, h1, h2, ?_, ?_, ?_⟩
  · exact hG.kept hsz1 (h3.block _ hG.gl (fun e => (h.ne _ e.symm).1 rfl)) (fun i hi => h3.block _ (hG.rl i hi) (fun e => (h.ne _ e.symm).2 i hi rfl))
  · exact hB.grown h3 (by omega) (fun j e => (World.ownsRow.lt hown _ e).1)
  · intro k e
    rcases h4 with h4 | h4
    · exact h.ne k (h4 ▸ e)
    · rw [h4] at e
      cases e
      exact ⟨fun e2 => by have := hG.gl; omega, fun i hi e2 => by have := hG.rl i hi; omega⟩
end Go.Proofs.Ytgpopploimeeaaa
