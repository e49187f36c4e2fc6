/-
  PROVED HERE, plain: how long the longest pairs are from two places on; which ones are the least of the longest.
-/
namespace Go.Proofs.Ytgpopploimeeaaa

section
variable (like : Nat → Nat → Bool) (n m : Nat)

/-- How long the longest pairs are in the last a of the one and the last b of the other. -/
def lastP : Nat → Nat → Nat
  | 0, _ => 0
  | _ + 1, 0 => 0
  | a + 1, b + 1 => if like (n - (a + 1)) (m - (b + 1)) then max (max (lastP a (b + 1)) (lastP (a + 1) b)) (1 + lastP a b) else max (lastP a (b + 1)) (lastP (a + 1) b)
/-- From the places i and j on. -/
def longP (i j : Nat) : Nat := lastP like n m (n - i) (m - j)

theorem lastP_zero (a : Nat) : lastP like n m a 0 = 0 := by
  cases a with
  | zero => unfold lastP; rfl
  | succ a => unfold lastP; rfl
theorem longP_row {i : Nat} (h : n ≤ i) (j : Nat) : longP like n m i j = 0 := by
  unfold longP
  rw [show n - i = 0 by omega]
  unfold lastP
  rfl
theorem longP_col (i : Nat) {j : Nat} (h : m ≤ j) : longP like n m i j = 0 := by
  unfold longP
  rw [show m - j = 0 by omega]
  exact lastP_zero like n m _
theorem longP_step {i j : Nat} (hi : i < n) (hj : j < m) : longP like n m i j = if like i j then max (max (longP like n m (i + 1) j) (longP like n m i (j + 1))) (1 + longP like n m (i + 1) (j + 1)) else max (longP like n m (i + 1) j) (longP like n m i (j + 1)) := by
  have e1 : n - i = (n - (i + 1)) + 1 := by omega
  have e2 : m - j = (m - (j + 1)) + 1 := by omega
  unfold longP
  rw [e1, e2]
  rw [lastP]
  rw [show n - (n - (i + 1) + 1) = i by omega, show m - (m - (j + 1) + 1) = j by omega]

theorem lastP_le : ∀ a b : Nat, lastP like n m a b ≤ a
  | 0, _ => by unfold lastP; exact Nat.le_refl _
  | a + 1, 0 => by unfold lastP; exact Nat.zero_le _
  | a + 1, b + 1 => by
    have h1 := lastP_le a (b + 1)
    have h2 := lastP_le (a + 1) b
    have h3 := lastP_le a b
    rw [lastP]
    split <;> omega
theorem longP_le (i j : Nat) : longP like n m i j ≤ n - i := lastP_le like n m _ _

/-- A pair that some longest pairs from i and j on begin with. -/
def Opens (i j p q : Nat) : Prop := like p q = true ∧ 1 + longP like n m (p + 1) (q + 1) = longP like n m i j
/-- The least one. -/
structure IsNext (i j p q : Nat) : Prop where
  ip : i ≤ p
  pn : p < n
  jq : j ≤ q
  qm : q < m
  opens : Opens like n m i j p q
  rows : ∀ p' q', i ≤ p' → p' < p → j ≤ q' → q' < m → ¬ Opens like n m i j p' q'
  row : ∀ q', j ≤ q' → q' < q → ¬ Opens like n m i j p q'
/-- The longest pairs, of as many the least. -/
def IsPairs : Nat → Nat → List (Nat × Nat) → Prop
  | i, j, [] => longP like n m i j = 0
  | i, j, x :: l => 0 < longP like n m i j ∧ IsNext like n m i j x.1 x.2 ∧ IsPairs (x.1 + 1) (x.2 + 1) l

variable {like n m}
theorem IsNext.same {i j p q p' q' : Nat} (h : IsNext like n m i j p q) (h' : IsNext like n m i j p' q') : p = p' ∧ q = q' := by
  have hp : p = p' := by
    rcases Nat.lt_trichotomy p p' with e | e | e
    · exact absurd h.opens (h'.rows p q h.ip e h.jq h.qm)
    · exact e
    · exact absurd h'.opens (h.rows p' q' h'.ip e h'.jq h'.qm)
  subst hp
  refine ⟨rfl, ?_⟩
  rcases Nat.lt_trichotomy q q' with e | e | e
  · exact absurd h.opens (h'.row q h.jq e)
  · exact e
  · exact absurd h'.opens (h.row q' h'.jq e)
theorem IsPairs.same : ∀ {l l' : List (Nat × Nat)} {i j : Nat}, IsPairs like n m i j l → IsPairs like n m i j l' → l = l'
  | [], [], _, _, _, _ => rfl
  | [], _ :: _, _, _, h, h' => by
    have h : longP like n m _ _ = 0 := h
    have := h'.1
    omega
  | _ :: _, [], _, _, h, h' => by
    have h' : longP like n m _ _ = 0 := h'
    have := h.1
    omega
  | x :: l, y :: l', _, _, h, h' => by
    obtain ⟨e1, e2⟩ := h.2.1.same h'.2.1
    have h2 := h.2.2
    rw [e1, e2] at h2
    rw [IsPairs.same h2 h'.2.2, show x = y from Prod.ext e1 e2]

/-- Some pair opens. -/
theorem opens_some : ∀ (k i j : Nat), (n - i) + (m - j) ≤ k → 0 < longP like n m i j → ∃ p q, i ≤ p ∧ p < n ∧ j ≤ q ∧ q < m ∧ Opens like n m i j p q
  | 0, i, j, hk, h => by
    rw [longP_row like n m (by omega)] at h
    omega
  | k + 1, i, j, hk, h => by
    by_cases hi : i < n
    · by_cases hj : j < m
      · have hs := longP_step like n m hi hj
        have up : longP like n m (i + 1) j = longP like n m i j → ∃ p q, i ≤ p ∧ p < n ∧ j ≤ q ∧ q < m ∧ Opens like n m i j p q := fun e => by
          obtain ⟨p, q, a1, a2, a3, a4, a5, a6⟩ := opens_some k (i + 1) j (by omega) (by omega)
          exact ⟨p, q, by omega, a2, a3, a4, a5, by rw [a6, e]⟩
        have right : longP like n m i (j + 1) = longP like n m i j → ∃ p q, i ≤ p ∧ p < n ∧ j ≤ q ∧ q < m ∧ Opens like n m i j p q := fun e => by
          obtain ⟨p, q, a1, a2, a3, a4, a5, a6⟩ := opens_some k i (j + 1) (by omega) (by omega)
          exact ⟨p, q, a1, a2, by omega, a4, a5, by rw [a6, e]⟩
        by_cases hl : like i j = true
        · rw [if_pos hl] at hs
          by_cases h1 : longP like n m (i + 1) j = longP like n m i j
          · exact up h1
          · by_cases h2 : longP like n m i (j + 1) = longP like n m i j
            · exact right h2
            · exact ⟨i, j, Nat.le_refl _, hi, Nat.le_refl _, hj, hl, by clear up right; omega⟩
        · rw [if_neg hl] at hs
          by_cases h1 : longP like n m (i + 1) j = longP like n m i j
          · exact up h1
          · exact right (by clear up right; omega)
      · rw [longP_col like n m i (by omega)] at h
        omega
    · rw [longP_row like n m (by omega)] at h
      omega
end
end Go.Proofs.Ytgpopploimeeaaa
