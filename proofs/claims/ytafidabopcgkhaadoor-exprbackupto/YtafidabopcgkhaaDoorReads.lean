/-
  PROVED HERE: what the plain parser makes of a text: blanks around it say nothing, nor do brackets; parts and choices; signs behind.
-/
import Derived.Test.YtafidabopcgkhaaDoorLonger
namespace Go.Proofs.YtafidabopcgkhaaDoor
open Go.RowKit

/-- The same at all that is shorter. -/
def Agree (K : Nat) (f g : List UInt8 → Option (DataW Unit) × List UInt8) : Prop := ∀ s, s.length < K → f s = g s
theorem part_agree {K : Nat} {f g : List UInt8 → Option (DataW Unit) × List UInt8} (h : Agree K f g) : Agree (K + 1) (partL f) (partL g) := by
  intro s hs
  unfold partL
  have hL := skip_length s
  match hk : skipL s with
  | [] => rfl
  | c :: p =>
    rw [hk, List.length_cons] at hL
    simp only [h p (by omega)]
theorem seq_loop_agree {K : Nat} {f g : List UInt8 → Option (DataW Unit) × List UInt8} (h : Agree K f g) (hs : Shr f) : ∀ (F : Nat) (l : List (DataW Unit)) (s : List UInt8), s.length < K → seqLoop f F l s = seqLoop g F l s := by
  intro F
  induction F with
  | zero => intro l s _; rfl
  | succ F ih =>
    intro l s hK
    cases s with
    | nil => rfl
    | cons c s =>
      rw [seqLoop, seqLoop, ← h _ hK]
      split
      · rfl
      · match hx : f (c :: s) with
        | (none, s') => rfl
        | (some t, s') => have := hs _ _ _ hx; exact ih _ _ (by omega)
theorem alt_loop_agree {K : Nat} {f g : List UInt8 → Option (DataW Unit) × List UInt8} (h : Agree K f g) (hs : Shr f) : ∀ (F : Nat) (l : List (DataW Unit)) (s : List UInt8), s.length < K → altLoop f F l s = altLoop g F l s := by
  intro F
  induction F with
  | zero => intro l s _; rfl
  | succ F ih =>
    intro l s hK
    cases s with
    | nil => rfl
    | cons c s =>
      rw [List.length_cons] at hK
      rw [altLoop, altLoop, ← h s (by omega)]
      split
      · match hx : f s with
        | (none, s') => rfl
        | (some t, s') => have := hs _ _ _ hx; exact ih _ _ (by omega)
      · rfl
theorem seq_agree {K : Nat} {f g : List UInt8 → Option (DataW Unit) × List UInt8} (h : Agree K f g) (hs : Shr f) : Agree K (seqL f) (seqL g) := by
  intro s hK
  unfold seqL
  rw [← h s hK]
  match hx : f s with
  | (none, s') => rfl
  | (some t, s') =>
    have := hs _ _ _ hx
    simp only [seq_loop_agree h hs _ [t] s' (by omega)]
theorem alt_agree {K : Nat} {f g : List UInt8 → Option (DataW Unit) × List UInt8} (h : Agree K f g) (hs : Shr f) : Agree K (altL f) (altL g) := by
  intro s hK
  unfold altL
  rw [← h s hK]
  match hx : f s with
  | (none, s') => rfl
  | (some t, s') =>
    have := hs _ _ _ hx
    simp only [alt_loop_agree h hs _ [t] s' (by omega)]
theorem altN_next : ∀ n, Agree n (altN n) (altN (n + 1)) := by
  intro n
  induction n with
  | zero => intro s h; omega
  | succ n ih => exact alt_agree (seq_agree (part_agree ih) (part_shr (altN_shr n))) (seq_shr (part_shr (altN_shr n)))
theorem altN_more {s : List UInt8} {n m : Nat} (h : s.length < n) (hm : n ≤ m) : altN m s = altN n s := by
  obtain ⟨d, rfl⟩ : ∃ d, m = n + d := ⟨m - n, by omega⟩
  clear hm
  induction d with
  | zero => rfl
  | succ d ih => rw [← ih, ← Nat.add_assoc, ← altN_next (n + d) s (by omega)]
theorem altN_skip (n : Nat) {s s' : List UInt8} (h : skipL s = skipL s') : altN n s = altN n s' := by
  cases n with
  | zero => rw [altN, altN, h]
  | succ n =>
    have : partL (altN n) s = partL (altN n) s' := by unfold partL; rw [h]
    rw [altN, altN]
    unfold altL seqL
    rw [this]
/-- The tree of a text, before it is checked. -/
def readT (s : List UInt8) : Option (DataW Unit) :=
  if skipL s = [] then some (node 0 ⟨#[]⟩ [])
  else
    match altN (s.length + 1) s with
    | (some t, []) => some t
    | _ => none
theorem read_some {s : List UInt8} {t : DataW Unit} (h : readT s = some t) (h0 : kindT t ≠ 0) : skipL s ≠ [] ∧ ∀ n, s.length < n → altN n s = (some t, []) := by
  unfold readT at h
  split at h
  · cases h; exact absurd rfl h0
  · rename_i hs
    refine ⟨hs, fun n hn => ?_⟩
    rw [altN_more (Nat.lt_succ_self _) hn]
    match hx : altN (s.length + 1) s with
    | (some u, []) => rw [hx] at h; cases h; rfl
    | (some u, c :: q) => rw [hx] at h; cases h
    | (none, q) => rw [hx] at h; cases h
theorem read_of {s : List UInt8} {t : DataW Unit} (hs : skipL s ≠ []) {n : Nat} (hn : s.length < n) (h : altN n s = (some t, [])) : readT s = some t := by
  unfold readT
  rw [if_neg hs, ← altN_more (Nat.lt_succ_self _) hn, h]
theorem blank_ends {b : List UInt8} (h : skipL b = []) : shuts b ∧ noLet b := by
  refine ⟨fun c q e => (by rw [h] at e; cases e), fun c q e => ?_⟩
  subst e
  rw [skipL] at h
  split at h
  · rename_i hc; subst hc; decide
  · cases h
theorem skip_ahead {b : List UInt8} (h : skipL b = []) (s : List UInt8) : skipL (b ++ s) = skipL s := by
  rw [skip_ext, h]
  rfl
/-- BLANKS SAY NOTHING. -/
theorem read_blanks {b b' : List UInt8} (h : skipL b = []) (h' : skipL b' = []) (s : List UInt8) : readT (b ++ (s ++ b')) = readT s := by
  obtain ⟨e1, e2⟩ := blank_ends h'
  unfold readT
  rw [skip_ahead h, skip_ext]
  by_cases hs : skipL s = []
  · rw [hs, ext_nil, if_pos h', if_pos rfl]
  · have hne : ext b' (skipL s) ≠ [] := by
      match hk : skipL s with
      | [] => exact absurd hk hs
      | c :: q => rw [ext_cons]; simp
    rw [if_neg hne, if_neg hs, altN_skip _ (skip_ahead h (s ++ b')), altN_more (n := (s ++ b').length + 1) (Nat.lt_succ_self _) (by simp)]
    have hm : altN ((s ++ b').length + 1) s = altN (s.length + 1) s := altN_more (Nat.lt_succ_self _) (by simp)
    match hx : altN (s.length + 1) s with
    | (o, q) =>
      rw [altN_ext e1 e2 _ s o q (hm.trans hx) (.inr (.inr h'))]
      cases q with
      | nil => rw [ext_nil, h']
      | cons c q => rw [ext_cons]; cases o <;> rfl
/-- A text in brackets is a part. -/
theorem part_read {s : List UInt8} {t : DataW Unit} (h : readT s = some t) (h0 : kindT t ≠ 0) {n : Nat} (hn : s.length < n) (r : List UInt8) : partL (altN n) (40 :: (s ++ 41 :: r)) = (some (signsL t r).1, (signsL t r).2) := by
  refine part_brackets _ _ _ _ ?_
  have := altN_ext (r := 41 :: r) (by intro c q e; rw [skipL, if_neg (by decide)] at e; cases e; rfl) (noLet_sign _ _ (by decide)) n s (some t) [] ((read_some h h0).2 n hn) (.inr (.inl (by simp)))
  rw [this, ext_nil, skipL, if_neg (by decide)]
theorem read_brackets {s : List UInt8} {t : DataW Unit} (h : readT s = some t) (h0 : kindT t ≠ 0) : readT (40 :: (s ++ [41])) = some t := by
  refine read_of (n := s.length + 4) (by rw [skipL, if_neg (by decide)]; simp) (by simp) ?_
  have hp := part_read h h0 (n := s.length + 3) (by omega) []
  rw [altN]
  exact alt_one (r := []) (fun c q e => by cases e) (seq_one (fun c q e => by cases e) hp)
/-- CHOICES AND PARTS. -/
theorem read_parts {s s' : List UInt8} {t t' : DataW Unit} (h : readT s = some t) (h0 : kindT t ≠ 0) (h' : readT s' = some t') (h0' : kindT t' ≠ 0) :
    readT (40 :: (s ++ 41 :: 42 :: 32 :: 40 :: (s' ++ [41, 42]))) = some (node 2 ⟨#[]⟩ [node 4 ⟨#[]⟩ [t], node 4 ⟨#[]⟩ [t']]) := by
  refine read_of (n := s.length + s'.length + 9) (by rw [skipL, if_neg (by decide)]; simp) (by simp; omega) ?_
  have hp := part_read h h0 (n := s.length + s'.length + 8) (by omega) (42 :: 32 :: 40 :: (s' ++ [41, 42]))
  have hp' := part_read h' h0' (n := s.length + s'.length + 8) (by omega) [42]
  have e : signsL t (42 :: 32 :: 40 :: (s' ++ [41, 42])) = (node 4 ⟨#[]⟩ [t], 40 :: (s' ++ [41, 42])) := rfl
  rw [altN]
  refine alt_one (r := []) (fun c q e => by cases e) ?_
  unfold seqL
  rw [hp, e]
  simp only
  rw [seqLoop, if_neg (by decide), hp']
  rfl
theorem read_choices {s s' : List UInt8} {t t' : DataW Unit} (h : readT s = some t) (h0 : kindT t ≠ 0) (h' : readT s' = some t') (h0' : kindT t' ≠ 0) :
    readT (40 :: (s ++ 41 :: 42 :: 124 :: 40 :: (s' ++ [41, 42]))) = some (node 3 ⟨#[]⟩ [node 4 ⟨#[]⟩ [t], node 4 ⟨#[]⟩ [t']]) := by
  refine read_of (n := s.length + s'.length + 9) (by rw [skipL, if_neg (by decide)]; simp) (by simp; omega) ?_
  have hp := part_read h h0 (n := s.length + s'.length + 8) (by omega) (42 :: 124 :: 40 :: (s' ++ [41, 42]))
  have hp' := part_read h' h0' (n := s.length + s'.length + 8) (by omega) [42]
  have e : signsL t (42 :: 124 :: 40 :: (s' ++ [41, 42])) = (node 4 ⟨#[]⟩ [t], 124 :: 40 :: (s' ++ [41, 42])) := rfl
  have hs : seqL (partL (altN (s.length + s'.length + 8))) (40 :: (s ++ 41 :: 42 :: 124 :: 40 :: (s' ++ [41, 42]))) = (some (node 4 ⟨#[]⟩ [t]), 124 :: 40 :: (s' ++ [41, 42])) := by
    unfold seqL
    rw [hp, e]
    rfl
  have hs' : seqL (partL (altN (s.length + s'.length + 8))) (40 :: (s' ++ [41, 42])) = (some (node 4 ⟨#[]⟩ [t']), []) := by
    unfold seqL
    rw [hp']
    rfl
  rw [altN]
  unfold altL
  rw [hs]
  simp only
  rw [altLoop, if_pos rfl, hs']
  rfl
/-- SIGNS BEHIND. -/
theorem signs_all : ∀ (l : List UInt8) (t : DataW Unit), (∀ c ∈ l, c ≠ 32 ∧ signKind c ≠ 0) → signsL t l = (l.foldl (fun t c => node (signKind c) ⟨#[]⟩ [t]) t, []) := by
  intro l
  induction l with
  | nil => intro t _; rfl
  | cons c l ih =>
    intro t h
    have := h c (List.mem_cons_self ..)
    rw [signsL, if_neg this.1, if_neg this.2, ih _ fun d hd => h d (List.mem_cons_of_mem _ hd)]
    rfl
theorem read_signs (l : List UInt8) (h : ∀ c ∈ l, c ≠ 32 ∧ signKind c ≠ 0) : readT (97 :: l) = some (l.foldl (fun t c => node (signKind c) ⟨#[]⟩ [t]) (node 1 ⟨#[97]⟩ [])) := by
  have hn : noLet l := by
    intro c q e
    subst e
    have := (h c (List.mem_cons_self ..)).2
    unfold signKind at this
    split at this
    · rename_i hc; subst hc; decide
    · split at this
      · rename_i hc; subst hc; decide
      · split at this
        · rename_i hc; subst hc; decide
        · exact absurd rfl this
  refine read_of (n := l.length + 3) (by rw [skipL, if_neg (by decide)]; simp) (by simp) ?_
  have hp := part_name (altN (l.length + 2)) ⟨#[97]⟩ l (by unfold letters; rw [ByteArray.toList_eq]; decide) hn
  rw [signs_all l _ h] at hp
  rw [altN]
  exact alt_one (r := []) (fun c q e => by cases e) (seq_one (fun c q e => by cases e) hp)
/-- THERE AND BACK, of a text. -/
theorem read_back {n : Nat} {x : DataW Unit} (h : rightE n x = true) (hg : good n x) (h0 : kindT x ≠ 0) : readT (bts (textE n x)) = some x := by
  have hA := (back n).2.2 x h hg h0 (n + (bts (textE n x)).length + 1) (by omega) [] (fun c q e => by cases e) (fun c q e => by cases e)
  rw [List.append_nil] at hA
  refine read_of (fun hs => ?_) (n := n + (bts (textE n x)).length + 1) (by omega) hA
  rw [altN_skip _ (s' := []) (by rw [hs]; rfl), altN] at hA
  cases hA
end Go.Proofs.YtafidabopcgkhaaDoor
