/-
  PROVED HERE: how many are in what the plain parser reads, and within one another: by the length of the text.
-/
import Derived.Test.YtafidabopcgkhaaDoorReads
namespace Go.Proofs.YtafidabopcgkhaaDoor
open Go.RowKit

theorem greatest_le {f : DataW Unit → Int} {B : Int} (hB : 0 ≤ B) : ∀ l : List (DataW Unit), (∀ x ∈ l, f x ≤ B) → greatest f l ≤ B := by
  intro l
  induction l with
  | nil => intro _; exact hB
  | cons x l ih =>
    intro h
    have h1 := h x (List.mem_cons_self ..)
    have h2 := ih fun y hy => h y (List.mem_cons_of_mem _ hy)
    rw [greatest]
    omega
theorem le_greatest {f : DataW Unit → Int} : ∀ (l : List (DataW Unit)) (x : DataW Unit), x ∈ l → f x ≤ greatest f l := by
  intro l
  induction l with
  | nil => intro x h; cases h
  | cons y l ih =>
    intro x h
    rw [greatest]
    rcases List.mem_cons.1 h with rfl | h
    · omega
    · have := ih x h; omega
theorem total_mono {f g : DataW Unit → Int} (h : ∀ x, f x ≤ g x) : ∀ l, total f l ≤ total g l := by
  intro l
  induction l with
  | nil => exact Int.le_refl _
  | cons x r ih => have := h x; rw [total, total]; omega
theorem total_add (f : DataW Unit → Int) : ∀ l l' : List (DataW Unit), total f (l ++ l') = total f l + total f l' := by
  intro l l'
  induction l with
  | nil => rw [List.nil_append, total]; omega
  | cons x r ih => rw [List.cons_append, total, total, ih]; omega
theorem cnt_pos (n : Nat) : ∀ t, 0 ≤ cnt n t := by
  induction n with
  | zero => intro t; exact Int.le_refl _
  | succ n ih => intro t; have := total_nonneg ih (subs t); rw [cnt]; omega
theorem cnt_next (n : Nat) : ∀ t, cnt n t ≤ cnt (n + 1) t := by
  induction n with
  | zero => intro t; exact cnt_pos 1 t
  | succ n ih => intro t; have := total_mono ih (subs t); rw [cnt, cnt]; omega
/-- So many bytes, so many trees. -/
def Bnd (f : List UInt8 → Option (DataW Unit) × List UInt8) : Prop := ∀ s t q, f s = (some t, q) → ∀ n, dp n t + q.length ≤ s.length ∧ cnt n t + 2 * q.length + 1 ≤ 2 * s.length
theorem signs_bound : ∀ (s : List UInt8) (t : DataW Unit) (D C : Int), (∀ n, dp n t ≤ D ∧ cnt n t ≤ C) → ∀ n, dp n (signsL t s).1 + (signsL t s).2.length ≤ D + s.length ∧ cnt n (signsL t s).1 + 2 * (signsL t s).2.length ≤ C + 2 * s.length := by
  intro s
  induction s with
  | nil => intro t D C h n; have := h n; rw [signsL]; simp only [List.length_nil]; omega
  | cons c s ih =>
    intro t D C h n
    rw [signsL]
    split
    · have := ih t D C h n
      rw [List.length_cons]
      omega
    · split
      · have := h n
        simp only
        omega
      · have := ih (node (signKind c) ⟨#[]⟩ [t]) (D + 1) (C + 1) (fun m => by
          have h0 : 0 ≤ D ∧ 0 ≤ C := h 0
          cases m with
          | zero => rw [dp, cnt]; omega
          | succ m =>
            have := h m
            rw [dp, cnt, subs_node, greatest, greatest, total, total]
            omega) n
        rw [List.length_cons]
        omega
theorem part_bound {alt : List UInt8 → Option (DataW Unit) × List UInt8} (ha : Bnd alt) : Bnd (partL alt) := by
  intro s t q h n
  unfold partL at h
  have hL := skip_length s
  match hs : skipL s with
  | [] => rw [hs] at h; cases h
  | c :: p =>
    rw [hs] at h hL
    simp only at h
    rw [List.length_cons] at hL
    by_cases hl : letter c = true
    · rw [if_pos hl] at h
      cases h
      rw [List.dropWhile_cons_of_pos hl]
      have h1 := while_length p
      have h2 := signs_bound (p.dropWhile letter) (node 1 ⟨((c :: p).takeWhile letter).toArray⟩ []) 1 1 (fun m => by
        cases m with
        | zero => rw [dp, cnt]; omega
        | succ m => rw [dp, cnt, subs_node, greatest, total]; omega) n
      omega
    · rw [if_neg hl] at h
      by_cases h40 : c = 40
      · rw [if_pos h40] at h
        match hp : alt p with
        | (none, p') => rw [hp] at h; cases h
        | (some u, []) => rw [hp] at h; cases h
        | (some u, d :: p') =>
          rw [hp] at h
          have h1 := ha p u _ hp
          rw [List.length_cons] at h1
          simp only at h
          by_cases h41 : d = 41
          · rw [if_pos h41] at h
            cases h
            have h2 := signs_bound p' u (p.length - p'.length - 1) (2 * p.length - 2 * p'.length - 3) (fun m => by have := h1 m; omega) n
            omega
          · rw [if_neg h41] at h
            cases h
      · rw [if_neg h40] at h
        cases h
/-- What is read so far, of M bytes. -/
def Inv (l : List (DataW Unit)) (M : Int) : Prop := 1 ≤ l.length ∧ (l.length : Int) ≤ M ∧ ∀ n, total (cnt n) l + l.length ≤ 2 * M ∧ ∀ x ∈ l, dp n x + l.length ≤ M + 1
theorem Inv.one {x : DataW Unit} {M : Int} (h : ∀ n, dp n x ≤ M ∧ cnt n x + 1 ≤ 2 * M) : Inv [x] M := by
  have h0 : (0 : Int) ≤ M ∧ (0 : Int) + 1 ≤ 2 * M := h 0
  refine ⟨Nat.le_refl _, by rw [List.length_singleton]; omega, fun n => ?_⟩
  have := h n
  rw [List.length_singleton, total, total]
  refine ⟨by omega, fun y hy => ?_⟩
  rw [List.mem_singleton.1 hy]
  omega
theorem Inv.add {l : List (DataW Unit)} {M m : Int} (hI : Inv l M) {x : DataW Unit} (h : ∀ n, dp n x ≤ m ∧ cnt n x + 1 ≤ 2 * m) : Inv (l ++ [x]) (M + m) := by
  obtain ⟨h1, h2, h3⟩ := hI
  have h0 : (0 : Int) ≤ m ∧ (0 : Int) + 1 ≤ 2 * m := h 0
  have hlen : (l ++ [x]).length = l.length + 1 := by simp
  rw [Inv, hlen]
  refine ⟨by omega, by omega, fun n => ?_⟩
  have hx := h n
  have hl := h3 n
  rw [total_add, total, total]
  refine ⟨by omega, fun y hy => ?_⟩
  rcases List.mem_append.1 hy with hy | hy
  · have := hl.2 y hy; omega
  · rw [List.mem_singleton.1 hy]; omega
theorem Inv.more {l : List (DataW Unit)} {M M' : Int} (hI : Inv l M) (h : M ≤ M') : Inv l M' := by
  obtain ⟨h1, h2, h3⟩ := hI
  refine ⟨h1, by omega, fun n => ⟨by have := (h3 n).1; omega, fun x hx => by have := (h3 n).2 x hx; omega⟩⟩
theorem flat_total (k : Int) (n : Nat) : ∀ l : List (DataW Unit), total (cnt n) (flatT k l) ≤ total (cnt (n + 1)) l := by
  intro l
  induction l with
  | nil => exact Int.le_refl _
  | cons x l ih =>
    rw [flatT, total_add, total]
    split
    · rw [cnt]; omega
    · have := cnt_next n x; rw [total, total]; omega
theorem flat_mem (k : Int) : ∀ (l : List (DataW Unit)) (y : DataW Unit), y ∈ flatT k l → y ∈ l ∨ ∃ x ∈ l, y ∈ subs x := by
  intro l
  induction l with
  | nil => intro y h; cases h
  | cons x l ih =>
    intro y h
    rw [flatT] at h
    rcases List.mem_append.1 h with h | h
    · split at h
      · exact .inr ⟨x, List.mem_cons_self .., h⟩
      · rw [List.mem_singleton.1 h]; exact .inl (List.mem_cons_self ..)
    · rcases ih y h with h | ⟨z, hz, h⟩
      · exact .inl (List.mem_cons_of_mem _ h)
      · exact .inr ⟨z, List.mem_cons_of_mem _ hz, h⟩
theorem Inv.join {l : List (DataW Unit)} {M : Int} (hI : Inv l M) (k : Int) (n : Nat) : dp n (joinT k l) ≤ M ∧ cnt n (joinT k l) + 1 ≤ 2 * M := by
  obtain ⟨h1, h2, h3⟩ := hI
  match l, h1, h2, h3 with
  | [x], _, _, h3 =>
    have := (h3 n).2 x (List.mem_cons_self ..)
    have h4 := (h3 n).1
    rw [total, total, List.length_singleton] at h4
    rw [List.length_singleton] at this
    rw [joinT]
    omega
  | x :: y :: l, _, h2, h3 =>
    have hlen : (2 : Int) ≤ ((x :: y :: l).length : Int) := by simp only [List.length_cons]; omega
    generalize hL : x :: y :: l = L at *
    have hj : joinT k L = node k ⟨#[]⟩ (flatT k L) := by rw [← hL]; rfl
    rw [hj]
    cases n with
    | zero => rw [dp, cnt]; omega
    | succ n =>
      have hg : greatest (dp n) (flatT k L) ≤ M - 1 := by
        refine greatest_le (by omega) _ fun y hy => ?_
        rcases flat_mem k L y hy with hy | ⟨z, hz, hy⟩
        · have := (h3 n).2 y hy; omega
        · have h4 := (h3 (n + 1)).2 z hz
          have h5 := le_greatest (f := dp n) (subs z) y hy
          rw [dp] at h4
          omega
      have ht := flat_total k n L
      have h4 := (h3 (n + 1)).1
      rw [dp, cnt, subs_node]
      omega
theorem seq_loop_bound {part : List UInt8 → Option (DataW Unit) × List UInt8} (hp : Bnd part) : ∀ (F : Nat) (l l' : List (DataW Unit)) (s q : List UInt8) (M : Int), Inv l M → seqLoop part F l s = (some l', q) → Inv l' (M + s.length - q.length) := by
  intro F
  induction F with
  | zero => intro l l' s q M _ h; cases h
  | succ F ih =>
    intro l l' s q M hI h
    cases s with
    | nil => cases h; exact hI.more (by omega)
    | cons c s =>
      rw [seqLoop] at h
      split at h
      · cases h; exact hI.more (by omega)
      · match hx : part (c :: s) with
        | (none, s') => rw [hx] at h; cases h
        | (some t, s') =>
          rw [hx] at h
          have h1 := hp _ _ _ hx
          have h2 := ih _ _ _ _ _ (hI.add (m := (c :: s).length - s'.length) (fun n => by have := h1 n; omega)) h
          exact h2.more (by omega)
theorem alt_loop_bound {seq : List UInt8 → Option (DataW Unit) × List UInt8} (hp : Bnd seq) : ∀ (F : Nat) (l l' : List (DataW Unit)) (s q : List UInt8) (M : Int), Inv l M → altLoop seq F l s = (some l', q) → Inv l' (M + s.length - q.length) := by
  intro F
  induction F with
  | zero => intro l l' s q M _ h; cases h
  | succ F ih =>
    intro l l' s q M hI h
    cases s with
    | nil => cases h; exact hI.more (by omega)
    | cons c s =>
      rw [altLoop] at h
      split at h
      · match hx : seq s with
        | (none, s') => rw [hx] at h; cases h
        | (some t, s') =>
          rw [hx] at h
          have h1 := hp _ _ _ hx
          have h2 := ih _ _ _ _ _ (hI.add (m := s.length - s'.length) (fun n => by have := h1 n; omega)) h
          rw [List.length_cons]
          exact h2.more (by omega)
      · cases h; exact hI.more (by omega)
theorem seq_bound {part : List UInt8 → Option (DataW Unit) × List UInt8} (hp : Bnd part) : Bnd (seqL part) := by
  intro s t q h n
  unfold seqL at h
  match hx : part s with
  | (none, s') => rw [hx] at h; cases h
  | (some u, s') =>
    rw [hx] at h
    have h1 := hp _ _ _ hx
    simp only at h
    match hy : seqLoop part (s'.length + 1) [u] s' with
    | (none, p) => rw [hy] at h; cases h
    | (some l, p) =>
      rw [hy] at h
      cases h
      have h2 := (seq_loop_bound hp _ _ _ _ _ _ (Inv.one (M := s.length - s'.length) fun n => by have := h1 n; omega) hy).join 2 n
      simp only
      omega
theorem alt_bound {seq : List UInt8 → Option (DataW Unit) × List UInt8} (hp : Bnd seq) : Bnd (altL seq) := by
  intro s t q h n
  unfold altL at h
  match hx : seq s with
  | (none, s') => rw [hx] at h; cases h
  | (some u, s') =>
    rw [hx] at h
    have h1 := hp _ _ _ hx
    simp only at h
    match hy : altLoop seq (s'.length + 1) [u] s' with
    | (none, p) => rw [hy] at h; cases h
    | (some l, p) =>
      rw [hy] at h
      cases h
      have h2 := (alt_loop_bound hp _ _ _ _ _ _ (Inv.one (M := s.length - s'.length) fun n => by have := h1 n; omega) hy).join 3 n
      simp only
      omega
theorem altN_bound : ∀ n, Bnd (altN n) := by
  intro n
  induction n with
  | zero => intro s t q h; cases h
  | succ n ih => exact alt_bound (seq_bound (part_bound ih))
/-- A tree that is read: its bounds. -/
theorem read_bound {s : List UInt8} {t : DataW Unit} (h : readT s = some t) (h0 : kindT t ≠ 0) (n : Nat) : dp n t ≤ s.length ∧ cnt n t + 1 ≤ 2 * s.length := by
  have := altN_bound _ _ _ _ ((read_some h h0).2 _ (Nat.lt_succ_self _)) n
  rw [List.length_nil] at this
  omega
end Go.Proofs.YtafidabopcgkhaaDoor
