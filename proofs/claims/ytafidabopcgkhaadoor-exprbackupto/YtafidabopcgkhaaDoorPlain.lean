/-
  PROVED HERE: a plain parser, and that it reads the text of a right tree as the tree.
-/
import Derived.Test.YtafidabopcgkhaaDoorTextE
namespace Go.Proofs.YtafidabopcgkhaaDoor
open Go.RowKit

/-- All blanks ahead are gone. -/
def skipL : List UInt8 → List UInt8
  | [] => []
  | c :: r => if c = 32 then skipL r else c :: r
def signKind (c : UInt8) : Int := if c = 42 then 4 else if c = 43 then 5 else if c = 63 then 6 else 0
/-- Signs behind a tree. -/
def signsL : DataW Unit → List UInt8 → DataW Unit × List UInt8
  | t, [] => (t, [])
  | t, c :: r => if c = 32 then signsL t r else if signKind c = 0 then (t, c :: r) else signsL (node (signKind c) ⟨#[]⟩ [t]) r
/-- Those of the kind give their parts. -/
def flatT (k : Int) : List (DataW Unit) → List (DataW Unit)
  | [] => []
  | x :: l => (if kindT x = k then subs x else [x]) ++ flatT k l
def joinT (k : Int) : List (DataW Unit) → DataW Unit
  | [x] => x
  | l => node k ⟨#[]⟩ (flatT k l)
/-- A name, or brackets, and what stands behind. -/
def partL (alt : List UInt8 → Option (DataW Unit) × List UInt8) (r : List UInt8) : Option (DataW Unit) × List UInt8 :=
  match skipL r with
  | [] => (none, [])
  | c :: q =>
    if letter c = true then
      (some (signsL (node 1 ⟨((c :: q).takeWhile letter).toArray⟩ []) ((c :: q).dropWhile letter)).1, (signsL (node 1 ⟨((c :: q).takeWhile letter).toArray⟩ []) ((c :: q).dropWhile letter)).2)
    else if c = 40 then
      match alt q with
      | (none, q') => (none, q')
      | (some _, []) => (none, [])
      | (some t, d :: q') => if d = 41 then (some (signsL t q').1, (signsL t q').2) else (none, d :: q')
    else (none, c :: q)
def seqLoop (part : List UInt8 → Option (DataW Unit) × List UInt8) : Nat → List (DataW Unit) → List UInt8 → Option (List (DataW Unit)) × List UInt8
  | 0, _, r => (none, r)
  | _ + 1, l, [] => (some l, [])
  | f + 1, l, c :: q =>
    if c = 124 ∨ c = 41 then (some l, c :: q)
    else
      match part (c :: q) with
      | (none, r') => (none, r')
      | (some t, r') => seqLoop part f (l ++ [t]) r'
def seqL (part : List UInt8 → Option (DataW Unit) × List UInt8) (r : List UInt8) : Option (DataW Unit) × List UInt8 :=
  match part r with
  | (none, r') => (none, r')
  | (some t, r') => ((seqLoop part (r'.length + 1) [t] r').1.map (joinT 2), (seqLoop part (r'.length + 1) [t] r').2)
def altLoop (seq : List UInt8 → Option (DataW Unit) × List UInt8) : Nat → List (DataW Unit) → List UInt8 → Option (List (DataW Unit)) × List UInt8
  | 0, _, r => (none, r)
  | _ + 1, l, [] => (some l, [])
  | f + 1, l, c :: q =>
    if c = 124 then
      match seq q with
      | (none, r') => (none, r')
      | (some t, r') => altLoop seq f (l ++ [t]) r'
    else (some l, c :: q)
def altL (seq : List UInt8 → Option (DataW Unit) × List UInt8) (r : List UInt8) : Option (DataW Unit) × List UInt8 :=
  match seq r with
  | (none, r') => (none, r')
  | (some t, r') => ((altLoop seq (r'.length + 1) [t] r').1.map (joinT 3), (altLoop seq (r'.length + 1) [t] r').2)
/-- At most so many brackets within one another. -/
def altN : Nat → List UInt8 → Option (DataW Unit) × List UInt8
  | 0, r => (none, skipL r)
  | n + 1, r => altL (seqL (partL (altN n))) r

/-- A tree of nodes. -/
def good : Nat → DataW Unit → Prop
  | 0, _ => True
  | n + 1, t => t = node (kindT t) (nameT t) (subs t) ∧ ∀ x ∈ subs t, good n x
theorem Ex.good {w : World} : ∀ (n : Nat) (t : DataW Unit) (v : Value), Ex w n t v → good n t := by
  intro n
  induction n with
  | zero => intro t v h; trivial
  | succ n ih =>
    rintro t v ⟨k, s, a, len, cap, ts, rfl, _, hl, _, hk⟩
    refine ⟨by rw [kindT_node, nameT_node, subs_node], fun x hx => ?_⟩
    rw [subs_node] at hx
    rcases hk with h0 | ⟨b, o, _, _, hc⟩
    · obtain rfl : ts = [] := List.length_eq_zero_iff.1 (by omega)
      cases hx
    · obtain ⟨i, hi⟩ := List.getElem?_of_mem hx
      obtain ⟨_, _, _, _, _, _, _, _, h⟩ := hc i x hi
      exact ih _ _ h
/-- The bytes of a text. -/
def bts (s : ByteArray) : List UInt8 := s.data.toList
theorem bts_append (a b : ByteArray) : bts (a ++ b) = bts a ++ bts b := by
  unfold bts
  rw [ByteArray.data_append, Array.toList_append]
theorem bts_sign (n : UInt8) : bts (sign n) = [n] := rfl
theorem bts_mk (l : List UInt8) : bts ⟨l.toArray⟩ = l := rfl
theorem bts_toList (s : ByteArray) : s.toList = bts s := ByteArray.toList_eq s
theorem of_bts (s : ByteArray) : (⟨(bts s).toArray⟩ : ByteArray) = s := by
  unfold bts
  rw [Array.toArray_toList]
/-- It starts with no letter. -/
def noLet (r : List UInt8) : Prop := ∀ c q, r = c :: q → letter c = false
/-- The text is at its end, or a choice, or brackets. -/
def stops (r : List UInt8) : Prop := ∀ c q, skipL r = c :: q → c = 124 ∨ c = 41
def shuts (r : List UInt8) : Prop := ∀ c q, skipL r = c :: q → c = 41
theorem shuts.stops {r : List UInt8} (h : shuts r) : stops r := fun c q e => .inr (h c q e)
theorem skipL_head : ∀ (r : List UInt8) (c : UInt8) (q : List UInt8), skipL r = c :: q → c ≠ 32 := by
  intro r
  induction r with
  | nil => intro c q h; cases h
  | cons d r ih =>
    intro c q h
    rw [skipL] at h
    split at h
    · exact ih c q h
    · cases h; assumption
theorem signs_stop (t : DataW Unit) : ∀ (r : List UInt8), stops r → signsL t r = (t, skipL r) := by
  intro r
  induction r with
  | nil => intro _; rfl
  | cons d r ih =>
    intro h
    rw [signsL, skipL]
    by_cases hd : d = 32
    · rw [if_pos hd, if_pos hd]
      refine ih fun c q e => h c q ?_
      rw [skipL, if_pos hd, e]
    · rw [if_neg hd, if_neg hd]
      have := h d r (by rw [skipL, if_neg hd])
      rw [if_pos (by rcases this with rfl | rfl <;> rfl)]
theorem signs_stay (t : DataW Unit) (c : UInt8) (q : List UInt8) (h : letter c = true ∨ c = 40) : signsL t (c :: q) = (t, c :: q) ∧ skipL (c :: q) = c :: q ∧ c ≠ 124 ∧ c ≠ 41 := by
  have hk : c ≠ 32 ∧ c ≠ 42 ∧ c ≠ 43 ∧ c ≠ 63 ∧ c ≠ 124 ∧ c ≠ 41 := by
    rcases h with h | rfl
    · refine ⟨?_, ?_, ?_, ?_, ?_, ?_⟩ <;> (rintro rfl; revert h; decide)
    · decide
  obtain ⟨h1, h2, h3, h4, h5, h6⟩ := hk
  refine ⟨?_, ?_, h5, h6⟩
  · rw [signsL, if_neg h1, signKind, if_neg h2, if_neg h3, if_neg h4, if_pos rfl]
  · rw [skipL, if_neg h1]
theorem flat_none (k : Int) : ∀ l : List (DataW Unit), (∀ x ∈ l, kindT x ≠ k) → flatT k l = l := by
  intro l
  induction l with
  | nil => intro _; rfl
  | cons x l ih =>
    intro h
    rw [flatT, if_neg (h x (List.mem_cons_self ..)), ih fun y hy => h y (List.mem_cons_of_mem _ hy)]
    rfl
theorem take_letters : ∀ (l r : List UInt8), l.all letter = true → noLet r → (l ++ r).takeWhile letter = l ∧ (l ++ r).dropWhile letter = r := by
  intro l
  induction l with
  | nil =>
    intro r _ h
    cases r with
    | nil => exact ⟨rfl, rfl⟩
    | cons c q => have := h c q rfl; simp [this]
  | cons c l ih =>
    intro r h hr
    rw [List.all_cons, Bool.and_eq_true] at h
    have := ih r h.2 hr
    simp [h.1, this]
/-- A name is read. -/
theorem part_name (alt : List UInt8 → Option (DataW Unit) × List UInt8) (s : ByteArray) (r : List UInt8) (h : letters s = true) (hr : noLet r) : partL alt (bts s ++ r) = (some (signsL (node 1 s []) r).1, (signsL (node 1 s []) r).2) := by
  unfold letters at h
  rw [Bool.and_eq_true, bts_toList] at h
  obtain ⟨h1, h2⟩ := h
  have ht := take_letters (bts s) r h1 hr
  have hs := of_bts s
  generalize bts s = l at *
  cases l with
  | nil => cases h2
  | cons c q =>
    rw [List.all_cons, Bool.and_eq_true] at h1
    obtain ⟨_, hk, _, _⟩ := signs_stay .nil c (q ++ r) (.inl h1.1)
    unfold partL
    rw [List.cons_append, hk]
    simp only [h1.1, if_true]
    rw [← List.cons_append, ht.1, ht.2, hs]
/-- Brackets are read. -/
theorem part_brackets (alt : List UInt8 → Option (DataW Unit) × List UInt8) (t : DataW Unit) (l r : List UInt8) (h : alt (l ++ 41 :: r) = (some t, 41 :: r)) : partL alt (40 :: (l ++ 41 :: r)) = (some (signsL t r).1, (signsL t r).2) := by
  unfold partL
  rw [skipL, if_neg (by decide)]
  simp only [show letter 40 = false from by decide, h, Bool.false_eq_true, if_false, if_true]
end Go.Proofs.YtafidabopcgkhaaDoor
