/-
  PROVED HERE, plain: the rows tell each block of the one and of the other once, in order; of two that are the same all stay.
-/
import Derived.Test.YtgpopploimeeaaaPGs
import Derived.Test.YtgpopploimeeaaaREdits
import Derived.Test.YtgpopploimeeaaaPLong
namespace Go.Proofs.Ytgpopploimeeaaa

/-- One row, read; where the reading stands behind it. -/
def stepR (k1 k2 : List Nat) (like : Nat → Nat → Bool) (r : Int × Int × Int) (i j : Nat) : Option (Nat × Nat) :=
  if r.1 = 0 then (if i < k1.length ∧ j < k2.length ∧ r = (0, ((k1.getD i 0 : Nat) : Int), ((k2.getD j 0 : Nat) : Int)) ∧ like i j = true then some (i + 1, j + 1) else none)
  else if r.1 = 1 then (if i < k1.length ∧ r = (1, ((k1.getD i 0 : Nat) : Int), -1) then some (i + 1, j) else none)
  else (if j < k2.length ∧ r = (2, -1, ((k2.getD j 0 : Nat) : Int)) then some (i, j + 1) else none)
def runR (k1 k2 : List Nat) (like : Nat → Nat → Bool) : List (Int × Int × Int) → Nat → Nat → Option (Nat × Nat)
  | [], i, j => some (i, j)
  | r :: rs, i, j => (stepR k1 k2 like r i j).bind fun x => runR k1 k2 like rs x.1 x.2
section
variable {k1 k2 : List Nat} {like : Nat → Nat → Bool}
theorem runR_append : ∀ (rs ts : List (Int × Int × Int)) (i j : Nat), runR k1 k2 like (rs ++ ts) i j = (runR k1 k2 like rs i j).bind fun x => runR k1 k2 like ts x.1 x.2
  | [], ts, i, j => rfl
  | r :: rs, ts, i, j => by
    rw [List.cons_append, runR, runR]
    cases stepR k1 k2 like r i j with
    | none => rfl
    | some x => exact runR_append rs ts x.1 x.2
theorem runR_length : ∀ (rs : List (Int × Int × Int)) (i j : Nat) (x : Nat × Nat), runR k1 k2 like rs i j = some x → i + j + rs.length ≤ x.1 + x.2
  | [], i, j, x, h => by
    have h := Option.some.inj h
    subst h
    exact Nat.le_refl _
  | r :: rs, i, j, x, h => by
    rw [runR] at h
    obtain ⟨y, hy, hr⟩ := Option.bind_eq_some_iff.1 h
    have ih := runR_length rs y.1 y.2 x hr
    have hs : i + j + 1 ≤ y.1 + y.2 := by
      unfold stepR at hy
      by_cases r0 : r.1 = 0
      · rw [if_pos r0] at hy
        split at hy
        · have hy := Option.some.inj hy
          subst hy
          show i + j + 1 ≤ i + 1 + (j + 1)
          omega
        · cases hy
      · rw [if_neg r0] at hy
        by_cases r1 : r.1 = 1
        · rw [if_pos r1] at hy
          split at hy
          · have hy := Option.some.inj hy
            subst hy
            show i + j + 1 ≤ i + 1 + j
            omega
          · cases hy
        · rw [if_neg r1] at hy
          split at hy
          · have hy := Option.some.inj hy
            subst hy
            show i + j + 1 ≤ i + (j + 1)
            omega
          · cases hy
    rw [List.length_cons]
    omega
theorem runR_goA (i j : Nat) : ∀ d, i + d ≤ k1.length → runR k1 k2 like (goA k1 i d) i j = some (i + d, j)
  | 0, _ => rfl
  | d + 1, h => by
    rw [goA, runR_append, runR_goA i j d (by omega)]
    show (stepR k1 k2 like _ _ _).bind _ = _
    unfold stepR
    rw [if_neg (show ¬ ((1 : Int) = 0) by decide), if_pos rfl, if_pos ⟨by show i + d < k1.length; omega, rfl⟩]
    rfl
theorem runR_goB (i j : Nat) : ∀ d, j + d ≤ k2.length → runR k1 k2 like (goB k2 j d) i j = some (i, j + d)
  | 0, _ => rfl
  | d + 1, h => by
    rw [goB, runR_append, runR_goB i j d (by omega)]
    show (stepR k1 k2 like _ _ _).bind _ = _
    unfold stepR
    rw [if_neg (show ¬ ((2 : Int) = 0) by decide), if_neg (show ¬ ((2 : Int) = 1) by decide), if_pos ⟨by show j + d < k2.length; omega, rfl⟩]
    rfl
theorem runR_rows : ∀ (P : List (Nat × Nat)) (i j : Nat), i ≤ k1.length → j ≤ k2.length → IsPairs like k1.length k2.length i j P → runR k1 k2 like (rowsP k1 k2 P i j) i j = some (k1.length, k2.length)
  | [], i, j, hi, hj, _ => by
    rw [rowsP, runR_append, runR_goA i j _ (by omega)]
    show runR k1 k2 like (goB k2 j (k2.length - j)) (i + (k1.length - i)) j = _
    rw [runR_goB _ j _ (by omega)]
    rw [show i + (k1.length - i) = k1.length by omega, show j + (k2.length - j) = k2.length by omega]
  | x :: P, i, j, hi, hj, h => by
    obtain ⟨_, hnx, hr⟩ := h
    have h1 := hnx.ip
    have h2 := hnx.pn
    have h3 := hnx.jq
    have h4 := hnx.qm
    rw [rowsP, runR_append, runR_goA i j _ (by omega)]
    show runR k1 k2 like (goB k2 j (x.2 - j) ++ _) (i + (x.1 - i)) j = _
    rw [runR_append, runR_goB _ j _ (by omega)]
    rw [show i + (x.1 - i) = x.1 by omega, show j + (x.2 - j) = x.2 by omega]
    show (stepR k1 k2 like _ x.1 x.2).bind _ = _
    unfold stepR
    rw [if_pos rfl, if_pos ⟨h2, h4, rfl, hnx.opens.1⟩]
    exact runR_rows P (x.1 + 1) (x.2 + 1) h2 h4 hr
end

def diag : Nat → Nat → List (Nat × Nat)
  | _, 0 => []
  | i, d + 1 => (i, i) :: diag (i + 1) d
theorem diag_pairs {like : Nat → Nat → Bool} {n : Nat} (h : ∀ t, t < n → like t t = true) : ∀ (d i : Nat), i + d = n → IsPairs like n n i i (diag i d) ∧ longP like n n i i = d
  | 0, i, hi => by
    have := longP_row like n n (show n ≤ i by omega) i
    exact ⟨this, this⟩
  | d + 1, i, hi => by
    obtain ⟨a1, a2⟩ := diag_pairs h d (i + 1) (by omega)
    have a3 := longP_hit (n := n) (m := n) (show i < n by omega) (show i < n by omega) (h i (by omega))
    exact ⟨⟨by omega, ⟨Nat.le_refl _, by show i < n; omega, Nat.le_refl _, by show i < n; omega, ⟨h i (by omega), by show 1 + longP like n n (i + 1) (i + 1) = _; omega⟩, fun p' q' b1 b2 => by simp only at b2; omega, fun q' b1 b2 => by simp only at b2; omega⟩, a1⟩, by omega⟩
theorem diag_rows (k : List Nat) : ∀ (d i : Nat), i + d = k.length → (rowsP k k (diag i d) i i).length = d
  | 0, i, hi => by
    rw [diag, rowsP, List.length_append, goA_length, goB_length]
    omega
  | d + 1, i, hi => by
    rw [diag, rowsP]
    show (goA k i (i - i) ++ (goB k i (i - i) ++ _ :: rowsP k k (diag (i + 1) d) (i + 1) (i + 1))).length = _
    rw [List.length_append, List.length_append, List.length_cons, goA_length, goB_length, diag_rows k d (i + 1) (by omega)]
    omega
/-- Of two that are the same all stays. -/
theorem rows_same (l : List Tok) (P : List (Nat × Nat)) (h : IsPairs (likeB l l) (tops l).length (tops l).length 0 0 P) : (rowsP (tops l) (tops l) P 0 0).length = (tops l).length := by
  obtain ⟨a1, _⟩ := diag_pairs (like := likeB l l) (n := (tops l).length) (fun t ht => by
    have hx : (tops l)[t]? = some ((tops l)[t]) := List.getElem?_eq_getElem ht
    unfold likeB
    rw [hx]
    exact (eqL_iff _ _).2 rfl) (tops l).length 0 (by omega)
  rw [h.same a1]
  exact diag_rows (tops l) _ 0 (by omega)

theorem rowV_at : ∀ (l : List (Int × Int × Int)) (k : Nat) (x : Int × Int × Int), l[k]? = some x → (rowV l)[3 * k]? = some (.int .i64 x.1) ∧ (rowV l)[3 * k + 1]? = some (.int .i64 x.2.1) ∧ (rowV l)[3 * k + 2]? = some (.int .i64 x.2.2)
  | [], k, x, h => by simp at h
  | y :: l, 0, x, h => by
    obtain rfl : y = x := by simpa using h
    exact ⟨rfl, rfl, rfl⟩
  | y :: l, k + 1, x, h => by
    have := rowV_at l k x (by simpa using h)
    have e : rowV (y :: l) = .int .i64 y.1 :: .int .i64 y.2.1 :: .int .i64 y.2.2 :: rowV l := rfl
    rw [e, show 3 * (k + 1) = 3 * k + 1 + 1 + 1 by omega]
    exact this
theorem tops_len {l : List Tok} : (tops l).length ≤ l.length := topsL_length l l.length 0
end Go.Proofs.Ytgpopploimeeaaa
