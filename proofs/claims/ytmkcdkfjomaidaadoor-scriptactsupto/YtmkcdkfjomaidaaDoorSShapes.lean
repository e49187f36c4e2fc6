/-
  PROVED HERE: script.shapes: its fifteen shapes of a line, in memory of their own.
-/
import Derived.Test.YtmkcdkfjomaidaaDoorSFill
namespace Go.Proofs.YtmkcdkfjomaidaaDoor
open Go.RowKit

/-- A shape: the line's word, its letters, the two numbers of the act. -/
structure Shp where
  word : ByteArray
  fs : ByteArray
  k : Int
  b : Int

def tab : List Shp := [
  ⟨⟨#[105, 110, 115, 101, 114, 116]⟩, ⟨#[97, 99, 110]⟩, 0, 0⟩,
  ⟨⟨#[100, 101, 108, 101, 116, 101]⟩, ⟨#[97, 99, 100]⟩, 0, 1⟩,
  ⟨⟨#[115, 112, 108, 105, 116]⟩, ⟨#[97, 99]⟩, 0, 2⟩,
  ⟨⟨#[106, 111, 105, 110]⟩, ⟨#[97, 99]⟩, 0, 3⟩,
  ⟨⟨#[98, 108, 111, 99, 107]⟩, ⟨#[97, 99, 100, 110]⟩, 0, 4⟩,
  ⟨⟨#[109, 97, 114, 107]⟩, ⟨#[97, 99, 100, 110]⟩, 0, 5⟩,
  ⟨⟨#[119, 114, 97, 112]⟩, ⟨#[97, 99, 100, 110]⟩, 0, 6⟩,
  ⟨⟨#[108, 105, 102, 116]⟩, ⟨#[97, 99]⟩, 0, 7⟩,
  ⟨⟨#[115, 117, 98, 109, 105, 116]⟩, ⟨#[97]⟩, 1, 0⟩,
  ⟨⟨#[97, 115, 107]⟩, ⟨#[97]⟩, 2, 0⟩,
  ⟨⟨#[100, 101, 108, 105, 118, 101, 114]⟩, ⟨#[97]⟩, 3, 0⟩,
  ⟨⟨#[100, 114, 111, 112]⟩, ⟨#[97]⟩, 4, 0⟩,
  ⟨⟨#[116, 119, 105, 99, 101]⟩, ⟨#[97]⟩, 5, 0⟩,
  ⟨⟨#[99, 114, 97, 115, 104]⟩, ⟨#[97]⟩, 6, 0⟩,
  ⟨⟨#[115, 121, 110, 99]⟩, ⟨#[]⟩, 8, 0⟩]

def shpC (t : Shp) : List Value := [.string t.word, .string t.fs, .int .i64 t.k, .int .i64 t.b]
def tabC : Array Value := (tab.flatMap shpC).toArray

theorem flat_at : ∀ (l : List Shp) (i : Nat) (t : Shp) (j : Nat), l[i]? = some t → j < 4 → (l.flatMap shpC)[i * 4 + j]? = (shpC t)[j]?
  | [], i, t, j, h, _ => by simp at h
  | x :: l, 0, t, j, h, hj => by
    simp only [List.getElem?_cons_zero, Option.some.injEq] at h
    subst h
    rw [List.flatMap_cons, Nat.zero_mul, Nat.zero_add, List.getElem?_append_left (by exact hj)]
  | x :: l, i + 1, t, j, h, hj => by
    rw [List.flatMap_cons, List.getElem?_append_right (by show 4 ≤ _; omega)]
    have e : (i + 1) * 4 + j - (shpC x).length = i * 4 + j := by show _ - 4 = _; omega
    rw [e]
    exact flat_at l i t j (by simpa using h) hj
theorem tabC_at (i : Nat) (t : Shp) (h : tab[i]? = some t) : tabC[i * 4]? = some (.string t.word) ∧ tabC[i * 4 + 1]? = some (.string t.fs) ∧ tabC[i * 4 + 2]? = some (.int .i64 t.k) ∧ tabC[i * 4 + 3]? = some (.int .i64 t.b) := by
  unfold tabC
  simp only [List.getElem?_toArray]
  refine ⟨?_, flat_at _ _ _ 1 h (by decide), flat_at _ _ _ 2 h (by decide), flat_at _ _ _ 3 h (by decide)⟩
  have := flat_at _ _ _ 0 h (by decide)
  rw [Nat.add_zero] at this
  exact this
theorem tab_length : tab.length = 15 := rfl

/-- What holds of each shape's letters. -/
def okShp (t : Shp) : Bool := decide (t.fs.size ≤ 4) && t.fs.data.toList.all (fun c => decide (c.toNat < 128))
theorem tab_ok : tab.all okShp = true := by decide
theorem tab_asc {t : Shp} (h : t ∈ tab) : Asc t.fs ∧ t.fs.size ≤ 4 := by
  have h1 := List.all_eq_true.1 tab_ok t h
  unfold okShp at h1
  simp only [Bool.and_eq_true, decide_eq_true_eq, List.all_eq_true] at h1
  refine ⟨fun k hk => h1.2 _ ?_, h1.1⟩
  have e : t.fs.data.toList[k]? = some (t.fs[k]'hk) := by
    rw [Array.getElem?_toList]
    exact Array.getElem?_eq_getElem hk
  exact List.mem_of_getElem? e

set_option maxRecDepth 100000 in
set_option maxHeartbeats 2000000 in
theorem shapes_calls (w : World) : Calls Tryd.prog 12 #[] w fun e w' => e = .returned (.slice (some ⟨w.heap.size, 0, none⟩) 15 15) ∧ w' = w.alloc (.cells tabC 44) := by
  go_enter Tryd.func12, Tryd.ntmps12
  go_wp2
  go_ret
  exact ⟨rfl, rfl⟩
end Go.Proofs.YtmkcdkfjomaidaaDoor
