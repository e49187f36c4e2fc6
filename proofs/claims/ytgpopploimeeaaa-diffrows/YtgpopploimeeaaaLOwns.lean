/-
  PROVED HERE: rows of pairs, of ranges, that the call owns, read as the law's comparisons read them.
-/
import Derived.Test.YtgpopploimeeaaaREdits
import Derived.Test.YtgpopploimeeaaaLPairs
import Derived.Test.YtgpopploimeeaaaLRanges
namespace Go.Proofs.Ytgpopploimeeaaa
open Go.RowKit

theorem rangeV_at : ∀ (l : List (Nat × Nat × Nat)) (k : Nat) (x : Nat × Nat × Nat), l[k]? = some x → (rangeV l)[3 * k]? = some (.int .i64 (x.1 : Int)) ∧ (rangeV l)[3 * k + 1]? = some (.int .i64 (x.2.1 : Int)) ∧ (rangeV l)[3 * k + 2]? = some (.int .i64 (x.2.2 : Int))
  | [], k, x, h => by simp at h
  | y :: l, 0, x, h => by
    obtain rfl : y = x := by simpa using h
    exact ⟨rfl, rfl, rfl⟩
  | y :: l, k + 1, x, h => by
    have := rangeV_at l k x (by simpa using h)
    have e : rangeV (y :: l) = .int .i64 (y.1 : Int) :: .int .i64 (y.2.1 : Int) :: .int .i64 (y.2.2 : Int) :: rangeV l := rfl
    rw [e, show 3 * (k + 1) = 3 * k + 1 + 1 + 1 by omega]
    exact this

/-- A cell of a row that the call owns. -/
theorem owns_cell {W : World} {base : Nat} {e : TypeId} {s n : Nat} {v : Value} {xs : List Value} (h : W.ownsRow base e s v n xs) (hn : 0 < n) :
    ∃ g cap, v = .slice (some ⟨g, 0, none⟩) n cap ∧ g < W.heap.size ∧ ∀ j u, j < n * s → xs[j]? = some u → W.cell? ⟨g, 0 + j, none⟩ = some u := by
  obtain ⟨_, ⟨_, h2⟩ | ⟨g, cap, cur, rfl, hb, hg, hc1, hc2, hc3, hc4⟩⟩ := h
  · omega
  · refine ⟨g, cap, rfl, (Array.getElem?_eq_some_iff.1 hg).1, fun j u hj hu => ?_⟩
    rw [← hc4, List.getElem?_take, if_pos hj] at hu
    rw [Nat.zero_add]
    simp only [World.cell?]
    rw [hg]
    show cur[_]? = _
    rw [← Array.getElem?_toList]
    exact hu
theorem owns_none {W : World} {base : Nat} {e : TypeId} {s : Nat} {v : Value} {xs : List Value} (h : W.ownsRow base e s v 0 xs) : ∃ a cap, v = .slice a 0 cap := by
  obtain ⟨_, ⟨rfl, _⟩ | ⟨g, cap, cur, rfl, _⟩⟩ := h
  · exact ⟨none, 0, rfl⟩
  · exact ⟨_, cap, rfl⟩

theorem Prs_of_owns {W : World} {base : Nat} {v : Value} {l : List (Nat × Nat)} (h : W.ownsRow base 68 2 v l.length (pairV l)) : ∃ a cap, v = .slice a l.length cap ∧ Prs W a l.length l := by
  rcases Nat.eq_zero_or_pos l.length with h0 | h0
  · rw [h0] at h
    obtain ⟨a, cap, rfl⟩ := owns_none h
    exact ⟨a, cap, by rw [h0], rfl, .inl h0⟩
  · obtain ⟨g, cap, rfl, hlt, hc⟩ := owns_cell h h0
    refine ⟨_, cap, rfl, rfl, .inr ⟨g, 0, rfl, hlt, fun i x hx => ?_⟩⟩
    have hi : i < l.length := (List.getElem?_eq_some_iff.1 hx).1
    have hp := pairV_at l i x hx
    rw [Nat.mul_comm] at hp
    exact ⟨hc _ _ (by omega) hp.1, hc _ _ (by omega) hp.2⟩
theorem Rgs_of_owns {W : World} {base : Nat} {v : Value} {l : List (Nat × Nat × Nat)} (h : W.ownsRow base 41 3 v l.length (rangeV l)) : ∃ a cap, v = .slice a l.length cap ∧ Rgs W a l.length l := by
  rcases Nat.eq_zero_or_pos l.length with h0 | h0
  · rw [h0] at h
    obtain ⟨a, cap, rfl⟩ := owns_none h
    exact ⟨a, cap, by rw [h0], rfl, .inl h0⟩
  · obtain ⟨g, cap, rfl, hlt, hc⟩ := owns_cell h h0
    refine ⟨_, cap, rfl, rfl, .inr ⟨g, 0, rfl, hlt, fun i x hx => ?_⟩⟩
    have hi : i < l.length := (List.getElem?_eq_some_iff.1 hx).1
    have hp := rangeV_at l i x hx
    rw [Nat.mul_comm] at hp
    exact ⟨hc _ _ (by omega) hp.1, hc _ _ (by omega) hp.2.1, hc _ _ (by omega) hp.2.2⟩
end Go.Proofs.Ytgpopploimeeaaa
