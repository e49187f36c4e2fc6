/-
  PROVED HERE: plain facts on places, as the program lays them: what each place needs to the end, and what words lead there.
-/
import Derived.WalkKit
namespace Go.Proofs.YtajabenlkmgjeaaDoor

/-- A place: the types that it takes, as bits; where it goes on; the fewest types to the end. -/
abbrev Place : Type := Nat × List Nat × Nat
def leastAt (L : List Place) (p : Nat) : Nat :=
  match L[p]? with
  | some x => x.2.2
  | none => 0
def takes (m : Nat) (t : Int) : Bool := decide (0 ≤ t) && decide (t < 16) && m.testBit t.toNat
theorem takes_zero (t : Int) : takes 0 t = false := by unfold takes; simp
theorem leastAt_some {L : List Place} {p : Nat} {x : Place} (h : L[p]? = some x) : leastAt L p = x.2.2 := by unfold leastAt; rw [h]
theorem leastAt_congr {L L' : List Place} {p : Nat} (h : L'[p]? = L[p]?) : leastAt L' p = leastAt L p := by unfold leastAt; rw [h]
def StepAt (L : List Place) (p : Nat) (x : Place) : Prop := x.1 ≠ 0 ∧ ∃ q, x.2.1 = [q] ∧ q < p ∧ x.2.2 = leastAt L q + 1
def ForkAt (L : List Place) (p : Nat) (x : Place) : Prop := x.1 = 0 ∧ (∀ q ∈ x.2.1, q < L.length ∧ x.2.2 ≤ leastAt L q) ∧ ∃ q ∈ x.2.1, q < p ∧ x.2.2 = leastAt L q
/-- Each place but the end takes a type and goes on to one laid before, or is a fork of which one way, laid before, is the shortest. -/
def wf (L : List Place) : Prop := L[0]? = some (0, [], 0) ∧ ∀ p x, 0 < p → L[p]? = some x → StepAt L p x ∨ ForkAt L p x
theorem wf.pos {L : List Place} (h : wf L) : 0 < L.length := (List.getElem?_eq_some_iff.1 h.1).1
theorem wf_one : wf [((0, [], 0) : Place)] := ⟨rfl, fun p x hp hx => by
  have := (List.getElem?_eq_some_iff.1 hx).1
  simp at this
  omega⟩
theorem get_snoc_lt {L : List Place} {y : Place} {p : Nat} (h : p < L.length) : (L ++ [y])[p]? = L[p]? := List.getElem?_append_left h
theorem get_snoc_eq {L : List Place} {y : Place} : (L ++ [y])[L.length]? = some y := by simp
theorem wf_add {L : List Place} (h : wf L) {y : Place} (hy : (y.1 ≠ 0 ∧ ∃ q, y.2.1 = [q] ∧ q < L.length ∧ y.2.2 = leastAt L q + 1) ∨ (y.1 = 0 ∧ (∀ q ∈ y.2.1, q < L.length ∧ y.2.2 ≤ leastAt L q) ∧ ∃ q ∈ y.2.1, y.2.2 = leastAt L q)) : wf (L ++ [y]) := by
  have hl : ∀ q, q < L.length → leastAt (L ++ [y]) q = leastAt L q := fun q hq => leastAt_congr (get_snoc_lt hq)
  refine ⟨by rw [get_snoc_lt h.pos]; exact h.1, fun p x hp hx => ?_⟩
  rcases Nat.lt_or_ge p L.length with hlt | hge
  · rw [get_snoc_lt hlt] at hx
    rcases h.2 p x hp hx with ⟨h1, q, h2, h3, h4⟩ | ⟨h1, h2, q, h3, h4, h5⟩
    · exact .inl ⟨h1, q, h2, h3, by rw [hl q (by omega)]; exact h4⟩
    · refine .inr ⟨h1, fun r hr => ?_, q, h3, h4, by rw [hl q (by omega)]; exact h5⟩
      obtain ⟨g1, g2⟩ := h2 r hr
      exact ⟨by simp; omega, by rw [hl r g1]; exact g2⟩
  · have hpl : p = L.length := by
      have := (List.getElem?_eq_some_iff.1 hx).1
      simp at this
      omega
    subst hpl
    rw [get_snoc_eq] at hx
    cases hx
    rcases hy with ⟨h1, q, h2, h3, h4⟩ | ⟨h1, h2, q, h3, h4⟩
    · exact .inl ⟨h1, q, h2, h3, by rw [hl q h3]; exact h4⟩
    · refine .inr ⟨h1, fun r hr => ?_, q, h3, (h2 q h3).1, by rw [hl q (h2 q h3).1]; exact h4⟩
      obtain ⟨g1, g2⟩ := h2 r hr
      exact ⟨by simp; omega, by rw [hl r g1]; exact g2⟩
/-- One way more from a place. -/
def addNext (L : List Place) (i q : Nat) : List Place := L.modify i (fun x => (x.1, x.2.1 ++ [q], x.2.2))
theorem addNext_length (L : List Place) (i q : Nat) : (addNext L i q).length = L.length := by unfold addNext; simp
theorem addNext_ne {L : List Place} {i q p : Nat} (h : p ≠ i) : (addNext L i q)[p]? = L[p]? := by unfold addNext; rw [List.getElem?_modify]; simp [Ne.symm h]
theorem addNext_eq {L : List Place} {i q : Nat} {x : Place} (h : L[i]? = some x) : (addNext L i q)[i]? = some (x.1, x.2.1 ++ [q], x.2.2) := by unfold addNext; rw [List.getElem?_modify, h]; simp
theorem addNext_least (L : List Place) (i q p : Nat) : leastAt (addNext L i q) p = leastAt L p := by
  by_cases h : p = i
  · subst h
    cases hx : L[p]? with
    | none =>
      have : (addNext L p q)[p]? = none := by
        rw [List.getElem?_eq_none_iff] at hx ⊢
        rw [addNext_length]
        exact hx
      unfold leastAt
      rw [hx, this]
    | some x => rw [leastAt_some hx, leastAt_some (addNext_eq hx)]
  · exact leastAt_congr (addNext_ne h)
theorem wf_next {L : List Place} (h : wf L) {i q : Nat} {y : Place} (hi : 0 < i) (hy : L[i]? = some y) (hz : y.1 = 0) (hq : q < L.length) (hl : y.2.2 ≤ leastAt L q) : wf (addNext L i q) := by
  refine ⟨by rw [addNext_ne (by omega)]; exact h.1, fun p x hp hx => ?_⟩
  by_cases hpi : p = i
  · subst hpi
    rw [addNext_eq hy] at hx
    cases hx
    rcases h.2 p y hp hy with ⟨h1, _⟩ | ⟨h1, h2, r, h3, h4, h5⟩
    · exact absurd hz h1
    · refine .inr ⟨h1, fun s hs => ?_, r, List.mem_append_left _ h3, h4, by rw [addNext_least]; exact h5⟩
      rw [addNext_length, addNext_least]
      rcases List.mem_append.1 hs with hs | hs
      · exact h2 s hs
      · simp at hs
        subst hs
        exact ⟨hq, hl⟩
  · rw [addNext_ne hpi] at hx
    rcases h.2 p x hp hx with ⟨h1, r, h2, h3, h4⟩ | ⟨h1, h2, r, h3, h4, h5⟩
    · exact .inl ⟨h1, r, h2, h3, by rw [addNext_least]; exact h4⟩
    · refine .inr ⟨h1, fun s hs => ?_, r, h3, h4, by rw [addNext_least]; exact h5⟩
      rw [addNext_length, addNext_least]
      exact h2 s hs
/-- What leads from a place to the end, in at most k moves. -/
def Reads (F : List Place) : Nat → Nat → List Int → Prop
  | 0, p, w => p = 0 ∧ w = []
  | k + 1, p, w => (p = 0 ∧ w = []) ∨ ∃ x, F[p]? = some x ∧ ((x.1 = 0 ∧ ∃ q ∈ x.2.1, Reads F k q w) ∨ (x.1 ≠ 0 ∧ ∃ t v q, w = t :: v ∧ takes x.1 t = true ∧ x.2.1[0]? = some q ∧ Reads F k q v))
theorem Reads.up {F : List Place} : ∀ {k p : Nat} {w : List Int}, Reads F k p w → Reads F (k + 1) p w := by
  intro k
  induction k with
  | zero => intro p w h; exact .inl h
  | succ k ih =>
    intro p w h
    rcases h with h | ⟨x, hx, ⟨h0, q, hq, hr⟩ | ⟨h0, t, v, q, e, ht, hq, hr⟩⟩
    · exact .inl h
    · exact .inr ⟨x, hx, .inl ⟨h0, q, hq, ih hr⟩⟩
    · exact .inr ⟨x, hx, .inr ⟨h0, t, v, q, e, ht, hq, ih hr⟩⟩
theorem Reads.upto {F : List Place} {k m p : Nat} {w : List Int} (h : k ≤ m) (hr : Reads F k p w) : Reads F m p w := by
  induction h with
  | refl => exact hr
  | step _ ih => exact Reads.up ih
/-- No word to the end is shorter than the place says. -/
theorem Reads.long {F : List Place} (hF : wf F) : ∀ {k p : Nat} {w : List Int}, Reads F k p w → leastAt F p ≤ w.length := by
  have h00 : leastAt F 0 = 0 := leastAt_some hF.1
  intro k
  induction k with
  | zero => rintro p w ⟨rfl, rfl⟩; rw [h00]; exact Nat.zero_le _
  | succ k ih =>
    intro p w h
    rcases h with ⟨rfl, rfl⟩ | ⟨x, hx, ⟨h0, q, hq, hr⟩ | ⟨h0, t, v, q, rfl, ht, hq, hr⟩⟩
    · rw [h00]; exact Nat.zero_le _
    · have := ih hr
      rcases Nat.eq_zero_or_pos p with rfl | hp
      · rw [h00]; exact Nat.zero_le _
      · rcases hF.2 p x hp hx with ⟨h1, _⟩ | ⟨_, h2, _⟩
        · exact absurd h0 h1
        · rw [leastAt_some hx]
          exact Nat.le_trans (h2 q hq).2 this
    · have := ih hr
      rcases Nat.eq_zero_or_pos p with rfl | hp
      · rw [h00]; exact Nat.zero_le _
      · rcases hF.2 p x hp hx with ⟨_, r, h2, _, h4⟩ | ⟨h1, _⟩
        · rw [h2] at hq
          cases hq
          rw [leastAt_some hx, h4, List.length_cons]
          omega
        · exact absurd h1 h0
end Go.Proofs.YtajabenlkmgjeaaDoor
