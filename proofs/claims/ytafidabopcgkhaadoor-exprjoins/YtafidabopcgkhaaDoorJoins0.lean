/-
  PROVED HERE: two trees side by side, as plain data and in memory.
-/
import Derived.Test.YtafidabopcgkhaaDoorBlanks
namespace Go.Proofs.YtafidabopcgkhaaDoor
open Go.RowKit

theorem right_down : ∀ (n : Nat) (t : DataW Unit) (m : Nat), rightE n t = true → dp n t ≤ m → rightE m t = true := by
  intro n
  induction n with
  | zero => intro t m h; cases h
  | succ n ih =>
    intro t m h hd
    rw [rightE, Bool.and_eq_true, List.all_eq_true] at h
    rw [dp] at hd
    have hg := greatest_nonneg (dp n) (subs t)
    cases m with
    | zero => omega
    | succ m =>
      rw [rightE, Bool.and_eq_true, List.all_eq_true]
      refine ⟨fun x hx => ?_, h.2⟩
      have h1 := h.1 x hx
      rw [Bool.and_eq_true] at h1 ⊢
      have := le_greatest (f := dp n) (subs t) x hx
      exact ⟨h1.1, ih x m h1.2 (by omega)⟩
theorem checkE_ok {n : Nat} {t : DataW Unit} (h : checkE n t = 0) : rightE n t = true ∧ dp n t ≤ 60 ∧ cnt n t ≤ 200 := by
  unfold checkE at h
  split at h
  · cases h
  · rename_i h1
    split at h
    · rename_i h2
      exact ⟨h2, by omega, by omega⟩
    · cases h
/-- Two starred trees, as parts or choices, may be. -/
theorem two_check {x y : DataW Unit} (k : Int) (hk : k = 2 ∨ k = 3) (hx : checkE 200 x = 0) (hy : checkE 200 y = 0) (hx0 : kindT x ≠ 0) (hy0 : kindT y ≠ 0) {a b : Nat} (bx : ∀ n, dp n x ≤ a ∧ cnt n x + 1 ≤ 2 * a) (bY : ∀ n, dp n y ≤ b ∧ cnt n y + 1 ≤ 2 * b) (hab : a + b ≤ 50) :
    checkE 200 (node k ⟨#[]⟩ [node 4 ⟨#[]⟩ [x], node 4 ⟨#[]⟩ [y]]) = 0 := by
  have h1 : cnt 200 (node k ⟨#[]⟩ [node 4 ⟨#[]⟩ [x], node 4 ⟨#[]⟩ [y]]) = 1 + ((1 + (cnt 198 x + 0)) + ((1 + (cnt 198 y + 0)) + 0)) := rfl
  have h2 : dp 200 (node k ⟨#[]⟩ [node 4 ⟨#[]⟩ [x], node 4 ⟨#[]⟩ [y]]) = max (max (dp 198 x) 0 + 1) (max (max (dp 198 y) 0 + 1) 0) + 1 := rfl
  have b1 := bx 198
  have b2 := bY 198
  have h3 : rightE 200 (node k ⟨#[]⟩ [node 4 ⟨#[]⟩ [x], node 4 ⟨#[]⟩ [y]]) = true := by
    have r1 := right_down 200 x 198 (checkE_ok hx).1 (by have := (checkE_ok hx).2.1; omega)
    have r2 := right_down 200 y 198 (checkE_ok hy).1 (by have := (checkE_ok hy).2.1; omega)
    have e1 : ∀ z, rightE 198 z = true → kindT z ≠ 0 → rightE 199 (node 4 ⟨#[]⟩ [z]) = true := fun z hz h0 => by
      rw [rightE, subs_node, kindT_node, nameT_node]
      simp [shapely, ByteArray.toList_eq, hz, h0]
    rw [rightE, subs_node, kindT_node, nameT_node]
    simp only [List.all_cons, List.all_nil, kindT_node, e1 x r1 hx0, e1 y r2 hy0]
    rcases hk with rfl | rfl
    · simp [shapely, ByteArray.toList_eq, kindT_node]
    · simp [shapely, ByteArray.toList_eq, kindT_node]
  unfold checkE
  rw [if_neg (by rw [h1, h2]; omega), if_pos h3]
theorem Ex.mk1 {w : World} {n b : Nat} {x : DataW Unit} {k : Int} {nm : ByteArray} {a : Option Addr} {ln cp : Nat} (hb : w.heap[b]? = some (.cells #[.int .i64 k, .string nm, .slice a ln cp] 24 (0, 0))) (hx : Ex w n x (.agg #[.int .i64 k, .string nm, .slice a ln cp])) (k' : Int) (s' : ByteArray) :
    Ex w (n + 1) (node k' s' [x]) (.agg #[.int .i64 k', .string s', .slice (some ⟨b, 0, none⟩) 1 1]) := by
  refine ⟨k', s', _, 1, 1, [x], rfl, rfl, rfl, by omega, .inr ⟨b, 0, rfl, (Array.getElem?_eq_some_iff.1 hb).1, fun i y hy => ?_⟩⟩
  cases i with
  | zero =>
    obtain rfl : x = y := by simpa using hy
    exact ⟨k, nm, a, ln, cp, cell_of_row w b 0 _ _ _ hb, cell_of_row w b 1 _ _ _ hb, cell_of_row w b 2 _ _ _ hb, hx⟩
  | succ i => simp at hy
theorem Ex.mk2 {w : World} {n b : Nat} {x y : DataW Unit} {k : Int} {nm : ByteArray} {a : Option Addr} {ln cp : Nat} {k2 : Int} {nm2 : ByteArray} {a2 : Option Addr} {ln2 cp2 : Nat} (hb : w.heap[b]? = some (.cells #[.int .i64 k, .string nm, .slice a ln cp, .int .i64 k2, .string nm2, .slice a2 ln2 cp2] 24 (0, 0)))
    (hx : Ex w n x (.agg #[.int .i64 k, .string nm, .slice a ln cp])) (hy : Ex w n y (.agg #[.int .i64 k2, .string nm2, .slice a2 ln2 cp2])) (k' : Int) (s' : ByteArray) :
    Ex w (n + 1) (node k' s' [x, y]) (.agg #[.int .i64 k', .string s', .slice (some ⟨b, 0, none⟩) 2 2]) := by
  refine ⟨k', s', _, 2, 2, [x, y], rfl, rfl, rfl, by omega, .inr ⟨b, 0, rfl, (Array.getElem?_eq_some_iff.1 hb).1, fun i z hz => ?_⟩⟩
  cases i with
  | zero =>
    obtain rfl : x = z := by simpa using hz
    exact ⟨k, nm, a, ln, cp, cell_of_row w b 0 _ _ _ hb, cell_of_row w b 1 _ _ _ hb, cell_of_row w b 2 _ _ _ hb, hx⟩
  | succ i =>
    cases i with
    | zero =>
      obtain rfl : y = z := by simpa using hz
      exact ⟨k2, nm2, a2, ln2, cp2, cell_of_row w b 3 _ _ _ hb, cell_of_row w b 4 _ _ _ hb, cell_of_row w b 5 _ _ _ hb, hy⟩
    | succ i => simp at hz
def partsB (s t : ByteArray) : ByteArray := ⟨#[40]⟩ ++ s ++ ⟨#[41, 42, 32, 40]⟩ ++ t ++ ⟨#[41, 42]⟩
def choicesB (s t : ByteArray) : ByteArray := ⟨#[40]⟩ ++ s ++ ⟨#[41, 42, 124, 40]⟩ ++ t ++ ⟨#[41, 42]⟩
theorem out_two {s t : ByteArray} (hs : outE s = 0) (ht : outE t = 0) (ks : kindT (outTree s) ≠ 0) (kt : kindT (outTree t) ≠ 0) (hl : s.size + t.size ≤ 50) :
    (outTree (partsB s t) = node 2 ⟨#[]⟩ [node 4 ⟨#[]⟩ [outTree s], node 4 ⟨#[]⟩ [outTree t]] ∧ outE (partsB s t) = 0) ∧ (outTree (choicesB s t) = node 3 ⟨#[]⟩ [node 4 ⟨#[]⟩ [outTree s], node 4 ⟨#[]⟩ [outTree t]] ∧ outE (choicesB s t) = 0) := by
  obtain ⟨_, x, hx, cx, ex⟩ := out_ok hs
  obtain ⟨_, y, hy, cy, ey⟩ := out_ok ht
  rw [ex] at ks ⊢
  rw [ey] at kt ⊢
  have bx := fun n => read_bound hx ks n
  have bY := fun n => read_bound hy kt n
  simp only [bts_length] at bx bY
  have z1 : (partsB s t).size ≤ 200 := by
    unfold partsB
    simp only [size_append]
    show 1 + s.size + 4 + t.size + 2 ≤ 200
    omega
  have z2 : (choicesB s t).size ≤ 200 := by
    unfold choicesB
    simp only [size_append]
    show 1 + s.size + 4 + t.size + 2 ≤ 200
    omega
  have r1 : readT (bts (partsB s t)) = some (node 2 ⟨#[]⟩ [node 4 ⟨#[]⟩ [x], node 4 ⟨#[]⟩ [y]]) := by
    rw [← read_parts hx ks hy kt]
    unfold partsB
    simp only [bts_append, List.append_assoc]
    rfl
  have r2 : readT (bts (choicesB s t)) = some (node 3 ⟨#[]⟩ [node 4 ⟨#[]⟩ [x], node 4 ⟨#[]⟩ [y]]) := by
    rw [← read_choices hx ks hy kt]
    unfold choicesB
    simp only [bts_append, List.append_assoc]
    rfl
  exact ⟨out_is z1 r1 (two_check 2 (.inl rfl) cx cy ks kt (a := s.size) (b := t.size) bx bY hl), out_is z2 r2 (two_check 3 (.inr rfl) cx cy ks kt (a := s.size) (b := t.size) bx bY hl)⟩
end Go.Proofs.YtafidabopcgkhaaDoor
