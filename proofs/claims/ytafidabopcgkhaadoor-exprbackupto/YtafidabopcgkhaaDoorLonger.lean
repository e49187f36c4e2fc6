/-
  PROVED HERE: the plain parser at a text with more behind it; how many brackets it may ask for says nothing.
-/
import Derived.Test.YtafidabopcgkhaaDoorBack
namespace Go.Proofs.YtafidabopcgkhaaDoor
open Go.RowKit

/-- What is left, with more behind it. -/
def ext (r q : List UInt8) : List UInt8 := if q = [] then skipL r else q ++ r
theorem ext_nil (r : List UInt8) : ext r [] = skipL r := rfl
theorem ext_cons (r : List UInt8) (c : UInt8) (q : List UInt8) : ext r (c :: q) = c :: (q ++ r) := by
  unfold ext
  rw [if_neg (by simp)]
  rfl
theorem skip_length : ∀ (l : List UInt8), (skipL l).length ≤ l.length := by
  intro l
  induction l with
  | nil => exact Nat.le_refl _
  | cons d l ih =>
    rw [skipL]
    split
    · exact Nat.le_succ_of_le ih
    · exact Nat.le_refl _
theorem signs_length : ∀ (l : List UInt8) (t : DataW Unit), (signsL t l).2.length ≤ l.length := by
  intro l
  induction l with
  | nil => intro t; exact Nat.le_refl _
  | cons d l ih =>
    intro t
    rw [signsL]
    split
    · exact Nat.le_succ_of_le (ih _)
    · split
      · exact Nat.le_refl _
      · exact Nat.le_succ_of_le (ih _)
theorem skip_ext (r : List UInt8) : ∀ s, skipL (s ++ r) = ext r (skipL s) := by
  intro s
  induction s with
  | nil => rfl
  | cons d s ih =>
    rw [List.cons_append, skipL, skipL]
    split
    · exact ih
    · rw [ext_cons]
theorem signs_ext {r : List UInt8} (hr : stops r) : ∀ (s : List UInt8) (t : DataW Unit), signsL t (s ++ r) = ((signsL t s).1, ext r (signsL t s).2) := by
  intro s
  induction s with
  | nil => intro t; exact signs_stop t r hr
  | cons d s ih =>
    intro t
    rw [List.cons_append, signsL, signsL]
    split
    · exact ih t
    · split
      · rw [ext_cons]
      · exact ih _
theorem while_ext {r : List UInt8} (hn : noLet r) : ∀ s : List UInt8, (s ++ r).takeWhile letter = s.takeWhile letter ∧ (s ++ r).dropWhile letter = s.dropWhile letter ++ r := by
  intro s
  induction s with
  | nil =>
    cases r with
    | nil => exact ⟨rfl, rfl⟩
    | cons c q => have := hn c q rfl; simp [this]
  | cons c s ih =>
    by_cases hc : letter c = true
    · simp [hc, ih]
    · simp [hc]
/-- It reads on as it read. -/
def Ext {α : Type} (r : List UInt8) (f : List UInt8 → Option α × List UInt8) : Prop := ∀ s o q, f s = (o, q) → (q ≠ [] ∨ o ≠ none ∨ skipL r = []) → f (s ++ r) = (o, ext r q)
/-- It takes something. -/
def Shr (f : List UInt8 → Option (DataW Unit) × List UInt8) : Prop := ∀ s t q, f s = (some t, q) → q.length < s.length
theorem while_length : ∀ s : List UInt8, (s.dropWhile letter).length ≤ s.length := by
  intro s
  induction s with
  | nil => exact Nat.le_refl _
  | cons c s ih =>
    by_cases hc : letter c = true
    · rw [List.dropWhile_cons_of_pos hc]; exact Nat.le_succ_of_le ih
    · rw [List.dropWhile_cons_of_neg hc]; exact Nat.le_refl _
theorem part_ext {r : List UInt8} {alt : List UInt8 → Option (DataW Unit) × List UInt8} (hr : shuts r) (hn : noLet r) (ha : Ext r alt) : Ext r (partL alt) := by
  intro s o q h hq
  unfold partL at h ⊢
  rw [skip_ext]
  match hs : skipL s with
  | [] =>
    rw [hs] at h
    cases h
    rcases hq with hq | hq | hq
    · exact absurd rfl hq
    · exact absurd rfl hq
    · rw [ext_nil, hq]
  | c :: p =>
    rw [hs] at h
    rw [ext_cons]
    simp only at h ⊢
    by_cases hl : letter c = true
    · rw [if_pos hl] at h
      rw [if_pos hl]
      cases h
      rw [← List.cons_append, (while_ext hn (c :: p)).1, (while_ext hn (c :: p)).2, signs_ext hr.stops]
    · rw [if_neg hl] at h
      rw [if_neg hl]
      by_cases h40 : c = 40
      · rw [if_pos h40] at h
        rw [if_pos h40]
        match hp : alt p with
        | (none, p') =>
          rw [hp] at h
          cases h
          rw [ha p none _ hp hq]
        | (some t, []) =>
          rw [hp] at h
          cases h
          rcases hq with hq | hq | hq
          · exact absurd rfl hq
          · exact absurd rfl hq
          · rw [ha p (some t) [] hp (.inr (.inr hq)), ext_nil, hq]
        | (some t, d :: p') =>
          rw [hp] at h
          rw [ha p (some t) (d :: p') hp (.inr (.inl (by simp))), ext_cons]
          simp only at h ⊢
          by_cases h41 : d = 41
          · rw [if_pos h41] at h
            rw [if_pos h41]
            cases h
            rw [signs_ext hr.stops]
          · rw [if_neg h41] at h
            rw [if_neg h41]
            cases h
            rw [ext_cons]
      · rw [if_neg h40] at h
        rw [if_neg h40]
        cases h
        rw [ext_cons]
theorem part_shr {alt : List UInt8 → Option (DataW Unit) × List UInt8} (ha : Shr alt) : Shr (partL alt) := by
  intro s t q h
  unfold partL at h
  have hL := skip_length s
  match hs : skipL s with
  | [] => rw [hs] at h; cases h
  | c :: p =>
    rw [hs] at h hL
    simp only at h
    rw [List.length_cons] at hL
    by_cases hl : letter c = true
    · rw [if_pos hl] at h
      cases h
      rw [List.dropWhile_cons_of_pos hl]
      have h1 := while_length p
      have h2 := signs_length (p.dropWhile letter) (node 1 ⟨((c :: p).takeWhile letter).toArray⟩ [])
      omega
    · rw [if_neg hl] at h
      by_cases h40 : c = 40
      · rw [if_pos h40] at h
        match hp : alt p with
        | (none, p') => rw [hp] at h; cases h
        | (some u, []) => rw [hp] at h; cases h
        | (some u, d :: p') =>
          rw [hp] at h
          have h1 := ha p u _ hp
          rw [List.length_cons] at h1
          simp only at h
          by_cases h41 : d = 41
          · rw [if_pos h41] at h
            cases h
            have h2 := signs_length p' u
            omega
          · rw [if_neg h41] at h
            cases h
      · rw [if_neg h40] at h
        cases h
theorem seq_loop_ext {r : List UInt8} {part : List UInt8 → Option (DataW Unit) × List UInt8} (hr : shuts r) (hp : Ext r part) (hs : Shr part) : ∀ (F F' : Nat) (l : List (DataW Unit)) (s : List UInt8) (o : Option (List (DataW Unit))) (q : List UInt8), s.length < F → (ext r s).length < F' →
    seqLoop part F l s = (o, q) → (q ≠ [] ∨ o ≠ none ∨ skipL r = []) → seqLoop part F' l (ext r s) = (o, ext r q) := by
  intro F
  induction F with
  | zero => intro F' l s o q h; omega
  | succ F ih =>
    intro F' l s o q hF hF' h hq
    obtain ⟨F', rfl⟩ : ∃ G, F' = G + 1 := ⟨F' - 1, by omega⟩
    cases s with
    | nil =>
      cases h
      rw [ext_nil]
      match hk : skipL r with
      | [] => rfl
      | c :: p => rw [seqLoop, if_pos (.inr (hr c p hk))]
    | cons c s =>
      rw [ext_cons] at hF' ⊢
      rw [seqLoop] at h ⊢
      by_cases hc : c = 124 ∨ c = 41
      · rw [if_pos hc] at h
        rw [if_pos hc]
        cases h
        rw [ext_cons]
      · rw [if_neg hc] at h
        rw [if_neg hc]
        match hx : part (c :: s) with
        | (none, s') =>
          rw [hx] at h
          cases h
          have := hp _ _ _ hx (hq.imp id (Or.imp (fun h => absurd rfl h) id))
          rw [List.cons_append] at this
          rw [this]
        | (some t, s') =>
          rw [hx] at h
          have h1 := hp _ _ _ hx (.inr (.inl (by simp)))
          rw [List.cons_append] at h1
          rw [h1]
          have h2 := hs _ _ _ hx
          have h3 := hs _ _ _ h1
          exact ih F' (l ++ [t]) s' o q (by omega) (by omega) h hq
theorem alt_loop_ext {r : List UInt8} {seq : List UInt8 → Option (DataW Unit) × List UInt8} (hr : shuts r) (hp : Ext r seq) (hs : Shr seq) : ∀ (F F' : Nat) (l : List (DataW Unit)) (s : List UInt8) (o : Option (List (DataW Unit))) (q : List UInt8), s.length < F → (ext r s).length < F' →
    altLoop seq F l s = (o, q) → (q ≠ [] ∨ o ≠ none ∨ skipL r = []) → altLoop seq F' l (ext r s) = (o, ext r q) := by
  intro F
  induction F with
  | zero => intro F' l s o q h; omega
  | succ F ih =>
    intro F' l s o q hF hF' h hq
    obtain ⟨F', rfl⟩ : ∃ G, F' = G + 1 := ⟨F' - 1, by omega⟩
    cases s with
    | nil =>
      cases h
      rw [ext_nil]
      match hk : skipL r with
      | [] => rfl
      | c :: p => rw [altLoop, if_neg (by rw [hr c p hk]; decide)]
    | cons c s =>
      rw [ext_cons] at hF' ⊢
      rw [altLoop] at h ⊢
      by_cases hc : c = 124
      · rw [if_pos hc] at h
        rw [if_pos hc]
        match hx : seq s with
        | (none, s') =>
          rw [hx] at h
          cases h
          rw [hp _ _ _ hx (hq.imp id (Or.imp (fun h => absurd rfl h) id))]
        | (some t, s') =>
          rw [hx] at h
          have h1 := hp _ _ _ hx (.inr (.inl (by simp)))
          rw [h1]
          have h2 := hs _ _ _ hx
          have h3 := hs _ _ _ h1
          rw [List.length_cons] at hF hF'
          exact ih F' (l ++ [t]) s' o q (by omega) (by omega) h hq
      · rw [if_neg hc] at h
        rw [if_neg hc]
        cases h
        rw [ext_cons]
theorem map_some {α β : Type} {g : α → β} {o : Option α} (h : o.map g ≠ none) : o ≠ none := by
  rintro rfl
  exact h rfl
theorem seq_ext {r : List UInt8} {part : List UInt8 → Option (DataW Unit) × List UInt8} (hr : shuts r) (hp : Ext r part) (hs : Shr part) : Ext r (seqL part) := by
  intro s o q h hq
  unfold seqL at h ⊢
  match hx : part s with
  | (none, s') =>
    rw [hx] at h
    cases h
    rw [hp _ _ _ hx hq]
  | (some t, s') =>
    rw [hx] at h
    rw [hp _ _ _ hx (.inr (.inl (by simp)))]
    cases h
    have := seq_loop_ext hr hp hs (s'.length + 1) ((ext r s').length + 1) [t] s' _ _ (Nat.lt_succ_self _) (Nat.lt_succ_self _) rfl (hq.imp id (Or.imp map_some id))
    simp only [this]
theorem alt_ext {r : List UInt8} {seq : List UInt8 → Option (DataW Unit) × List UInt8} (hr : shuts r) (hp : Ext r seq) (hs : Shr seq) : Ext r (altL seq) := by
  intro s o q h hq
  unfold altL at h ⊢
  match hx : seq s with
  | (none, s') =>
    rw [hx] at h
    cases h
    rw [hp _ _ _ hx hq]
  | (some t, s') =>
    rw [hx] at h
    rw [hp _ _ _ hx (.inr (.inl (by simp)))]
    cases h
    have := alt_loop_ext hr hp hs (s'.length + 1) ((ext r s').length + 1) [t] s' _ _ (Nat.lt_succ_self _) (Nat.lt_succ_self _) rfl (hq.imp id (Or.imp map_some id))
    simp only [this]
theorem seq_loop_length {part : List UInt8 → Option (DataW Unit) × List UInt8} (hs : Shr part) : ∀ (F : Nat) (l l' : List (DataW Unit)) (s q : List UInt8), seqLoop part F l s = (some l', q) → q.length ≤ s.length := by
  intro F
  induction F with
  | zero => intro l l' s q h; cases h
  | succ F ih =>
    intro l l' s q h
    cases s with
    | nil => cases h; exact Nat.le_refl _
    | cons c s =>
      rw [seqLoop] at h
      split at h
      · cases h; exact Nat.le_refl _
      · match hx : part (c :: s) with
        | (none, s') => rw [hx] at h; cases h
        | (some t, s') =>
          rw [hx] at h
          have h1 := ih _ _ _ _ h
          have h2 := hs _ _ _ hx
          omega
theorem alt_loop_length {seq : List UInt8 → Option (DataW Unit) × List UInt8} (hs : Shr seq) : ∀ (F : Nat) (l l' : List (DataW Unit)) (s q : List UInt8), altLoop seq F l s = (some l', q) → q.length ≤ s.length := by
  intro F
  induction F with
  | zero => intro l l' s q h; cases h
  | succ F ih =>
    intro l l' s q h
    cases s with
    | nil => cases h; exact Nat.le_refl _
    | cons c s =>
      rw [altLoop] at h
      split at h
      · match hx : seq s with
        | (none, s') => rw [hx] at h; cases h
        | (some t, s') =>
          rw [hx] at h
          have h1 := ih _ _ _ _ h
          have h2 := hs _ _ _ hx
          rw [List.length_cons]
          omega
      · cases h; exact Nat.le_refl _
theorem seq_shr {part : List UInt8 → Option (DataW Unit) × List UInt8} (hs : Shr part) : Shr (seqL part) := by
  intro s t q h
  unfold seqL at h
  match hx : part s with
  | (none, s') => rw [hx] at h; cases h
  | (some u, s') =>
    rw [hx] at h
    have h1 := hs _ _ _ hx
    simp only at h
    match hy : seqLoop part (s'.length + 1) [u] s' with
    | (none, p) => rw [hy] at h; cases h
    | (some l, p) =>
      rw [hy] at h
      cases h
      have h2 := seq_loop_length hs _ _ _ _ _ hy
      exact Nat.lt_of_le_of_lt h2 h1
theorem alt_shr {seq : List UInt8 → Option (DataW Unit) × List UInt8} (hs : Shr seq) : Shr (altL seq) := by
  intro s t q h
  unfold altL at h
  match hx : seq s with
  | (none, s') => rw [hx] at h; cases h
  | (some u, s') =>
    rw [hx] at h
    have h1 := hs _ _ _ hx
    simp only at h
    match hy : altLoop seq (s'.length + 1) [u] s' with
    | (none, p) => rw [hy] at h; cases h
    | (some l, p) =>
      rw [hy] at h
      cases h
      have h2 := alt_loop_length hs _ _ _ _ _ hy
      exact Nat.lt_of_le_of_lt h2 h1
theorem altN_shr : ∀ n, Shr (altN n) := by
  intro n
  induction n with
  | zero => intro s t q h; cases h
  | succ n ih => exact alt_shr (seq_shr (part_shr ih))
/-- THE SAME, WITH MORE BEHIND. -/
theorem altN_ext {r : List UInt8} (hr : shuts r) (hn : noLet r) : ∀ n, Ext r (altN n) := by
  intro n
  induction n with
  | zero =>
    intro s o q h _
    cases h
    rw [altN, skip_ext]
  | succ n ih => exact alt_ext hr (seq_ext hr (part_ext hr hn ih) (part_shr (altN_shr n))) (seq_shr (part_shr (altN_shr n)))
end Go.Proofs.YtafidabopcgkhaaDoor
