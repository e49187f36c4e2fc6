/-
  PROVED HERE: the plain parser in the program's steps.
-/
import Derived.Test.YtafidabopcgkhaaDoorLib5
import Derived.Test.YtafidabopcgkhaaDoorReads
import Derived.Test.YtafidabopcgkhaaDoorBound
namespace Go.Proofs.YtafidabopcgkhaaDoor
open Go.RowKit

/-- A name, or brackets; what stands behind is not looked at. -/
def bareL (alt : List UInt8 → Option (DataW Unit) × List UInt8) (r : List UInt8) : Option (DataW Unit) × List UInt8 :=
  match skipL r with
  | [] => (none, [])
  | c :: q =>
    if letter c = true then (some (node 1 ⟨((c :: q).takeWhile letter).toArray⟩ []), skipL ((c :: q).dropWhile letter))
    else if c = 40 then
      match alt q with
      | (none, q') => (none, q')
      | (some _, []) => (none, [])
      | (some t, d :: q') => if d = 41 then (some t, skipL q') else (none, d :: q')
    else (none, c :: q)
theorem signs_skip (t : DataW Unit) : ∀ r : List UInt8, signsL t (skipL r) = signsL t r := by
  intro r
  induction r with
  | nil => rfl
  | cons c r ih =>
    rw [skipL]
    split
    · rename_i h
      rw [ih, signsL, if_pos h]
    · rfl
theorem part_bare (alt : List UInt8 → Option (DataW Unit) × List UInt8) (r : List UInt8) : partL alt r = match bareL alt r with
    | (none, q) => (none, q)
    | (some t, q) => (some (signsL t q).1, (signsL t q).2) := by
  unfold partL bareL
  cases skipL r with
  | nil => rfl
  | cons c q =>
    simp only
    by_cases h1 : letter c = true
    · rw [if_pos h1, if_pos h1]
      simp only [signs_skip]
    · rw [if_neg h1, if_neg h1]
      by_cases h2 : c = 40
      · rw [if_pos h2, if_pos h2]
        match alt q with
        | (none, q') => rfl
        | (some _, []) => rfl
        | (some t, d :: q') =>
          simp only
          by_cases h3 : d = 41
          · rw [if_pos h3, if_pos h3]
            simp only [signs_skip]
          · rw [if_neg h3, if_neg h3]
      · rw [if_neg h2, if_neg h2]
theorem part_skip (alt : List UInt8 → Option (DataW Unit) × List UInt8) (r : List UInt8) : partL alt (skipL r) = partL alt r := by
  unfold partL
  rw [skip_twice]
theorem seq_skip (alt : List UInt8 → Option (DataW Unit) × List UInt8) (r : List UInt8) : seqL (partL alt) (skipL r) = seqL (partL alt) r := by
  unfold seqL
  rw [part_skip]
/-- What is left is no end of a part. -/
def Bad (l : List UInt8) : Prop := ∃ c q, l = c :: q ∧ c ≠ 124 ∧ c ≠ 41
def FR (s : ByteArray) (R : Option (DataW Unit) × List UInt8) (j : Nat) : Prop := R = (none, left s j) ∧ Pl s j
def DR (s : ByteArray) (R : Option (DataW Unit) × List UInt8) (t : DataW Unit) (j : Nat) : Prop := R = (some t, left s j) ∧ Pl s j
def DB (s : ByteArray) (R : Option (DataW Unit) × List UInt8) (t : DataW Unit) (j : Nat) : Prop := (R = (some t, left s j) ∨ (R = (none, left s j) ∧ Bad (left s j))) ∧ Pl s j
def mapJ (k : Int) (x : Option (List (DataW Unit)) × List UInt8) : Option (DataW Unit) × List UInt8 := (x.1.map (joinT k), x.2)
theorem toNat_eq {c : UInt8} {n : Nat} (hn : n < 256) (h : (c.toNat : Int) = n) : c = UInt8.ofNat n := by
  apply UInt8.toNat_inj.1
  rw [UInt8.toNat_ofNat_of_lt' hn]
  omega

/-! ### parts -/
def InvS (s : ByteArray) (P : List UInt8 → Option (DataW Unit) × List UInt8) (R : Option (DataW Unit) × List UInt8) (_i0 n : Nat) (f : Nat) (l : List (DataW Unit)) (i : Nat) : Prop :=
  Pl s i ∧ s.size - i < n + 1 ∧ s.size - i ≤ f ∧ ((l = [] ∧ seqL P (left s i) = R) ∨ (∃ c q F, left s i = c :: q ∧ c ≠ 124 ∧ c ≠ 41 ∧ q.length < F ∧ mapJ 2 (seqLoop P (F + 1) l (left s i)) = R))
def MidS (s : ByteArray) (P : List UInt8 → Option (DataW Unit) × List UInt8) (R : Option (DataW Unit) × List UInt8) (n : Nat) (f : Nat) (l : List (DataW Unit)) (j : Nat) : Prop :=
  Pl s j ∧ s.size - j < n + 1 ∧ s.size - j < f + 1 ∧ (left s j ≠ [] → s.size - j < f) ∧ ∃ F, (left s j).length < F ∧ mapJ 2 (seqLoop P F l (left s j)) = R
def DoneS (s : ByteArray) (R : Option (DataW Unit) × List UInt8) (k : Int) (l : List (DataW Unit)) (j : Nat) : Prop := DB s R (joinT k l) j
theorem inv_fail {s : ByteArray} {P : List UInt8 → Option (DataW Unit) × List UInt8} {R : Option (DataW Unit) × List UInt8} {i0 n f : Nat} {l : List (DataW Unit)} {i j : Nat} (h : InvS s P R i0 n f l i) (hf : FR s (P (left s i)) j) : FR s R j := by
  obtain ⟨-, -, -, ⟨_, h⟩ | ⟨c, q, F, e, h1, h2, h3, h⟩⟩ := h
  · refine ⟨?_, hf.2⟩
    rw [← h]
    unfold seqL
    rw [hf.1]
  · refine ⟨?_, hf.2⟩
    rw [← h]
    rw [e] at hf ⊢
    rw [seqLoop, if_neg (by rintro (h | h); exact h1 h; exact h2 h), hf.1]
    rfl
theorem inv_next {s : ByteArray} {P : List UInt8 → Option (DataW Unit) × List UInt8} {R : Option (DataW Unit) × List UInt8} {i0 n f : Nat} {l : List (DataW Unit)} {i j : Nat} {t : DataW Unit} (h : InvS s P R i0 n f l i) (hf : DR s (P (left s i)) t j) (hij : i < j) : MidS s P R n f (l ++ [t]) j := by
  obtain ⟨h0, hn, hff, h⟩ := h
  have hj := hf.2
  refine ⟨hj, by omega, by omega, fun hne => ?_, ?_⟩
  · have := left_length s j
    have : (left s j).length ≠ 0 := fun e => hne (List.length_eq_zero_iff.1 e)
    omega
  · rcases h with ⟨rfl, h⟩ | ⟨c, q, F, e, h1, h2, h3, h⟩
    · refine ⟨(left s j).length + 1, by omega, ?_⟩
      rw [← h]
      unfold seqL
      rw [hf.1]
      rfl
    · have hq := left_length s i
      rw [e, List.length_cons] at hq
      have hq2 := left_length s j
      refine ⟨F, by omega, ?_⟩
      rw [← h]
      rw [e] at hf ⊢
      rw [seqLoop, if_neg (by rintro (h | h); exact h1 h; exact h2 h), hf.1]
theorem mid_more {s : ByteArray} {alt : List UInt8 → Option (DataW Unit) × List UInt8} {R : Option (DataW Unit) × List UInt8} {i0 n f : Nat} {l : List (DataW Unit)} {j : Nat} (h : MidS s (partL alt) R n f l j) (hp : (lett (pk s j) || pk s j == 40) = true) : InvS s (partL alt) R i0 n (s.size - j) l j ∧ s.size - j < f := by
  obtain ⟨h0, hn, hff, hf2, F, hF, h⟩ := h
  rcases pk_left h0.1 with ⟨e, hk, _⟩ | ⟨c, q, e, hk, _, _⟩
  · rw [hk] at hp
    cases hp
  · refine ⟨⟨h0, hn, Nat.le_refl _, .inr ⟨c, q, F - 1, e, ?_, ?_, ?_, ?_⟩⟩, hf2 (by rw [e]; simp)⟩
    · rintro rfl
      rw [hk] at hp
      revert hp
      decide
    · rintro rfl
      rw [hk] at hp
      revert hp
      decide
    · rw [e, List.length_cons] at hF
      omega
    · rw [show F - 1 + 1 = F from by omega]
      exact h
theorem mid_done {s : ByteArray} {alt : List UInt8 → Option (DataW Unit) × List UInt8} {R : Option (DataW Unit) × List UInt8} {n f : Nat} {l : List (DataW Unit)} {j : Nat} (h : MidS s (partL alt) R n f l j) (hp : (lett (pk s j) || pk s j == 40) = false) : DoneS s R 2 l j := by
  obtain ⟨h0, hn, hff, hf2, F, hF, h⟩ := h
  refine ⟨?_, h0⟩
  cases F with
  | zero => omega
  | succ F =>
    rcases pk_left h0.1 with ⟨e, hk, _⟩ | ⟨c, q, e, hk, _, _⟩
    · rw [e, seqLoop] at h
      rw [e]
      exact .inl h.symm
    · rw [e, seqLoop] at h
      rw [e]
      by_cases hc : c = 124 ∨ c = 41
      · rw [if_pos hc] at h
        exact .inl h.symm
      · rw [if_neg hc] at h
        have hl : letter c = false := by
          rw [hk, lett_letter] at hp
          cases hl : letter c with
          | false => rfl
          | true => rw [hl] at hp; cases hp
        have h40 : c ≠ 40 := by
          rintro rfl
          rw [hk] at hp
          revert hp
          decide
        have hsk := h0.2
        rw [e] at hsk
        have hpl : partL alt (c :: q) = (none, c :: q) := by
          unfold partL
          rw [hsk]
          simp only [hl, Bool.false_eq_true, if_false, if_neg h40]
        rw [hpl] at h
        exact .inr ⟨h.symm, c, q, rfl, fun e => hc (.inl e), fun e => hc (.inr e)⟩

/-! ### choices -/
def nextA (P : List UInt8 → Option (DataW Unit) × List UInt8) (F : Nat) (l : List (DataW Unit)) (r : List UInt8) : Option (DataW Unit) × List UInt8 :=
  match P r with
  | (none, r') => (none, r')
  | (some t, r') => mapJ 3 (altLoop P F (l ++ [t]) r')
def InvA (s : ByteArray) (P : List UInt8 → Option (DataW Unit) × List UInt8) (R : Option (DataW Unit) × List UInt8) (n : Nat) (f : Nat) (l : List (DataW Unit)) (i : Nat) : Prop :=
  Pl s i ∧ s.size - i < n + 1 ∧ s.size - i ≤ f ∧ ((l = [] ∧ altL P (left s i) = R) ∨ ∃ F, (left s i).length ≤ F ∧ nextA P F l (left s i) = R)
def MidA (s : ByteArray) (P : List UInt8 → Option (DataW Unit) × List UInt8) (R : Option (DataW Unit) × List UInt8) (n : Nat) (f : Nat) (l : List (DataW Unit)) (j : Nat) : Prop :=
  Pl s j ∧ s.size - j < n + 1 ∧ s.size - j < f + 1 ∧ (left s j ≠ [] → s.size - j < f + 1) ∧ ((∃ F, (left s j).length < F ∧ mapJ 3 (altLoop P F l (left s j)) = R) ∨ (R = (none, left s j) ∧ Bad (left s j)))
theorem inva_fail {s : ByteArray} {P : List UInt8 → Option (DataW Unit) × List UInt8} {R : Option (DataW Unit) × List UInt8} {n f : Nat} {l : List (DataW Unit)} {i j : Nat} (h : InvA s P R n f l i) (hf : FR s (P (left s i)) j) : FR s R j := by
  obtain ⟨-, -, -, ⟨_, h⟩ | ⟨F, h3, h⟩⟩ := h
  · refine ⟨?_, hf.2⟩
    rw [← h]
    unfold altL
    rw [hf.1]
  · refine ⟨?_, hf.2⟩
    rw [← h]
    unfold nextA
    rw [hf.1]
theorem inva_next {s : ByteArray} {P : List UInt8 → Option (DataW Unit) × List UInt8} {R : Option (DataW Unit) × List UInt8} {n f : Nat} {l : List (DataW Unit)} {i j : Nat} {t : DataW Unit} (h : InvA s P R n f l i) (hf : DB s (P (left s i)) t j) (hij : i < j) : MidA s P R n f (l ++ [t]) j := by
  obtain ⟨h0, hn, hff, h⟩ := h
  obtain ⟨hf, hj⟩ := hf
  have h0s := h0.1
  have hjs := hj.1
  have hli := left_length s i
  have hlj := left_length s j
  refine ⟨hj, by omega, by omega, fun _ => by omega, ?_⟩
  rcases hf with hf | ⟨hf, hb⟩
  · rcases h with ⟨rfl, h⟩ | ⟨F, h3, h⟩
    · refine .inl ⟨(left s j).length + 1, by omega, ?_⟩
      rw [← h]
      unfold altL
      rw [hf]
      rfl
    · refine .inl ⟨F, by omega, ?_⟩
      rw [← h]
      unfold nextA
      rw [hf]
  · exact .inr ⟨(inva_fail ⟨h0, hn, hff, h⟩ ⟨hf, hj⟩).1, hb⟩
theorem mida_more {s : ByteArray} {alt : List UInt8 → Option (DataW Unit) × List UInt8} {R : Option (DataW Unit) × List UInt8} {n f : Nat} {l : List (DataW Unit)} {j : Nat} (h : MidA s (seqL (partL alt)) R n f l j) (hp : pk s j = 124) : InvA s (seqL (partL alt)) R n (s.size - skip s (j + 1)) l (skip s (j + 1)) ∧ s.size - skip s (j + 1) < f ∧ j ≤ skip s (j + 1) := by
  obtain ⟨h0, hn, hff, hf2, h⟩ := h
  rcases pk_left h0.1 with ⟨e, hk, _⟩ | ⟨c, q, e, hk, hq, hlt⟩
  · rw [hk] at hp
    cases hp
  · obtain rfl : c = 124 := toNat_eq (n := 124) (by decide) (by rw [← hk, hp]; rfl)
    obtain ⟨p1, p2, p3⟩ := Pl.skip (s := s) (i := j + 1) (by omega)
    have hli := left_length s (skip s (j + 1))
    have hle := p1.1
    refine ⟨⟨p1, by omega, Nat.le_refl _, ?_⟩, by omega, by omega⟩
    rcases h with ⟨F, hF, h⟩ | ⟨_, c', q', e', h1, h2⟩
    · cases F with
      | zero => omega
      | succ F =>
        rw [e, List.length_cons] at hF
        have hlq : q.length = s.size - (j + 1) := by rw [← hq]; exact left_length s (j + 1)
        refine .inr ⟨F, by omega, ?_⟩
        rw [← h, e, altLoop, if_pos rfl, p3, hq]
        unfold nextA
        rw [seq_skip]
        match seqL (partL alt) q with
        | (none, r') => rfl
        | (some t, r') => rfl
    · rw [e] at e'
      cases e'
      exact absurd rfl h1
theorem mida_done {s : ByteArray} {P : List UInt8 → Option (DataW Unit) × List UInt8} {R : Option (DataW Unit) × List UInt8} {n f : Nat} {l : List (DataW Unit)} {j : Nat} (h : MidA s P R n f l j) (hp : pk s j ≠ 124) : DoneS s R 3 l j := by
  obtain ⟨h0, hn, hff, hf2, h⟩ := h
  refine ⟨?_, h0⟩
  rcases h with ⟨F, hF, h⟩ | h
  · cases F with
    | zero => omega
    | succ F =>
      rcases pk_left h0.1 with ⟨e, hk, _⟩ | ⟨c, q, e, hk, _, _⟩
      · rw [e, altLoop] at h
        rw [e]
        exact .inl h.symm
      · rw [e, altLoop, if_neg (by rintro rfl; exact hp (by rw [hk]; rfl))] at h
        rw [e]
        exact .inl h.symm
  · exact .inr h
end Go.Proofs.YtafidabopcgkhaaDoor
