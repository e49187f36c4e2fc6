/-
  PROVED HERE: a name with signs behind it, as plain data.
-/
import Derived.Test.YtafidabopcgkhaaDoorJoins0
namespace Go.Proofs.YtafidabopcgkhaaDoor
open Go.RowKit

/-- The sign of a number. -/
def signOf (z : Int) : UInt8 := if z % 3 = 0 then 42 else if z % 3 = 1 then 43 else 63
def tower (l : List Int) : DataW Unit := l.foldl (fun t z => node (4 + z % 3) ⟨#[]⟩ [t]) (node 1 ⟨#[97]⟩ [])
def signText (l : List Int) : ByteArray := ⟨(97 :: l.map signOf).toArray⟩
theorem sign_kind (z : Int) : signKind (signOf z) = 4 + z % 3 ∧ signOf z ≠ 32 ∧ signKind (signOf z) ≠ 0 := by
  unfold signOf
  by_cases h0 : z % 3 = 0
  · rw [if_pos h0, h0]; decide
  · rw [if_neg h0]
    by_cases h1 : z % 3 = 1
    · rw [if_pos h1, h1]; decide
    · rw [if_neg h1]
      have h2 : z % 3 = 2 := by omega
      rw [h2]; decide
theorem tower_add (l : List Int) (z : Int) : tower (l ++ [z]) = node (4 + z % 3) ⟨#[]⟩ [tower l] := by
  unfold tower
  rw [List.foldl_append]
  rfl
theorem fold_signs : ∀ (l : List Int) (t : DataW Unit), (l.map signOf).foldl (fun t c => node (signKind c) ⟨#[]⟩ [t]) t = l.foldl (fun t z => node (4 + z % 3) ⟨#[]⟩ [t]) t := by
  intro l
  induction l with
  | nil => intro t; rfl
  | cons z r ih =>
    intro t
    rw [List.map_cons, List.foldl_cons, List.foldl_cons, (sign_kind z).1, ih]
theorem sign_read (l : List Int) : readT (bts (signText l)) = some (tower l) := by
  have h := read_signs (l.map signOf) (fun c hc => by
    obtain ⟨z, _, rfl⟩ := List.mem_map.1 hc
    exact ⟨(sign_kind z).2.1, (sign_kind z).2.2⟩)
  rw [fold_signs] at h
  exact h
theorem list_snoc : ∀ l : List Int, l ≠ [] → ∃ l' z, l = l' ++ [z] := fun l h => ⟨l.dropLast, l.getLast h, (List.dropLast_concat_getLast h).symm⟩
theorem tower_kind (l : List Int) : kindT (tower l) ≠ 0 := by
  by_cases h : l = []
  · subst h
    intro e
    cases e
  · obtain ⟨l', z, rfl⟩ := list_snoc l h
    rw [tower_add, kindT_node]
    omega
theorem tower_right : ∀ (n : Nat) (l : List Int), l.length < n → rightE n (tower l) = true ∧ dp n (tower l) ≤ l.length + 1 ∧ cnt n (tower l) ≤ l.length + 1 := by
  intro n
  induction n with
  | zero => intro l h; omega
  | succ n ih =>
    intro l h
    by_cases hl : l = []
    · subst hl
      refine ⟨?_, ?_, ?_⟩
      · show rightE (n + 1) (node 1 ⟨#[97]⟩ []) = true
        rw [rightE, subs_node, kindT_node, nameT_node]
        simp [shapely, letters_a]
      · show dp (n + 1) (node 1 ⟨#[97]⟩ []) ≤ _
        rw [dp, subs_node]
        exact Int.le_refl _
      · show cnt (n + 1) (node 1 ⟨#[97]⟩ []) ≤ _
        rw [cnt, subs_node]
        exact Int.le_refl _
    · obtain ⟨l', z, rfl⟩ := list_snoc l hl
      rw [List.length_append, List.length_cons, List.length_nil] at h ⊢
      obtain ⟨h1, h2, h3⟩ := ih l' (by omega)
      have hk := tower_kind l'
      have hd := dp_nonneg n (tower l')
      rw [tower_add]
      refine ⟨?_, ?_, ?_⟩
      · rw [rightE, subs_node, kindT_node, nameT_node]
        have hm : z % 3 = 0 ∨ z % 3 = 1 ∨ z % 3 = 2 := by omega
        rcases hm with e | e | e <;> rw [e] <;> simp [shapely, ByteArray.toList_eq, h1, hk]
      · rw [dp, subs_node]
        show max (dp n (tower l')) 0 + 1 ≤ _
        omega
      · rw [cnt, subs_node]
        show 1 + (cnt n (tower l') + 0) ≤ _
        omega
theorem sign_out (l : List Int) (h : l.length ≤ 58) : outTree (signText l) = tower l ∧ outE (signText l) = 0 := by
  obtain ⟨h1, h2, h3⟩ := tower_right 200 l (by omega)
  refine out_is ?_ (sign_read l) ?_
  · show (97 :: l.map signOf).toArray.size ≤ 200
    rw [List.size_toArray, List.length_cons, List.length_map]
    omega
  · unfold checkE
    rw [if_neg (by omega), if_pos h1]
theorem signText_add (l : List Int) (z : Int) : signText (l ++ [z]) = signText l ++ ⟨#[signOf z]⟩ := by
  have : bts (signText (l ++ [z])) = bts (signText l ++ ⟨#[signOf z]⟩) := by
    rw [bts_append]
    show 97 :: (l ++ [z]).map signOf = (97 :: l.map signOf) ++ [signOf z]
    simp
  have h2 := congrArg (fun l : List UInt8 => (⟨l.toArray⟩ : ByteArray)) this
  simpa [of_bts] using h2
theorem signText_size (l : List Int) : (signText l).size = l.length + 1 := by
  show (97 :: l.map signOf).toArray.size = _
  rw [List.size_toArray, List.length_cons, List.length_map]
end Go.Proofs.YtafidabopcgkhaaDoor
