/-
  PROVED HERE: plain facts on tokens: what is open from a TOpen on, step by step, till it is ended; no program in it.
-/
import Derived.Test.YtgpopploimeeaaaPair
namespace Go.Proofs.Ytgpopploimeeaaa

/-- What is open from the TOpen at i on. -/
def Since (l : List Tok) (i k : Nat) (S : List Int) : Prop :=
  (k = i ∧ S = []) ∨ (i < k ∧ ∃ S', S = (i : Int) :: S' ∧ (∀ x ∈ S', (i : Int) < x) ∧ opened l k = opened l i ++ S)
theorem since_around {l : List Tok} {i k : Nat} {S : List Int} (h : Since l i k S) (hk : i < k) : around l k = S.getLast?.getD (-1) ∧ (around l k = i ↔ S = [(i : Int)]) := by
  rcases h with ⟨rfl, _⟩ | ⟨_, S', rfl, h1, h2⟩
  · omega
  · have h3 : around l k = ((i : Int) :: S').getLast?.getD (-1) := by
      unfold around
      rw [h2, List.getLast?_append]
      cases h4 : ((i : Int) :: S').getLast? with
      | none => simp at h4
      | some y => simp
    refine ⟨h3, ?_⟩
    rw [h3]
    constructor
    · intro h4
      cases S' with
      | nil => rfl
      | cons y r =>
        have h5 : ((i : Int) :: y :: r).getLast? = (y :: r).getLast? := by simp [List.getLast?_cons]
        rw [h5] at h4
        cases h6 : (y :: r).getLast? with
        | none => simp at h6
        | some z =>
          rw [h6] at h4
          have := h1 z (List.mem_of_getLast? h6)
          simp at h4
          omega
    · intro h4
      rw [h4]
      rfl
theorem turn_one {x : Tok} {k : Nat} {S : List Int} (h : x.k = 1) : turn x k S = S ++ [(k : Int)] := by unfold turn; rw [if_pos h]
theorem turn_two {x : Tok} {k : Nat} {S : List Int} (h : x.k = 2) : turn x k S = S.dropLast := by unfold turn; rw [if_neg (by omega), if_pos h]
theorem turn_else {x : Tok} {k : Nat} {S : List Int} (h1 : x.k ≠ 1) (h2 : x.k ≠ 2) : turn x k S = S := by unfold turn; rw [if_neg h1, if_neg h2]
/-- One token on. -/
theorem since_step {l : List Tok} {i k : Nat} {S : List Int} {x : Tok} (h : Since l i k S) (hik : i ≤ k) (hx : l[k]? = some x) (hi : kindAt l i = 1) :
    (turn x k S = [] ∧ i < k ∧ x.k = 2 ∧ S = [(i : Int)]) ∨ (turn x k S ≠ [] ∧ Since l i (k + 1) (turn x k S) ∧ (i < k → ¬ (x.k = 2 ∧ S = [(i : Int)]))) := by
  have hs := opened_succ l k x hx
  rcases h with ⟨rfl, rfl⟩ | ⟨h0, S', rfl, h1, h2⟩
  · rw [kindAt_some hx] at hi
    rw [turn_one hi] at hs ⊢
    refine .inr ⟨by simp, .inr ⟨by omega, [], rfl, by simp, hs⟩, fun h => by omega⟩
  · by_cases k1 : x.k = 1
    · rw [turn_one k1] at hs ⊢
      refine .inr ⟨by simp, .inr ⟨by omega, S' ++ [(k : Int)], rfl, fun y hy => ?_, ?_⟩, fun _ h => by omega⟩
      · rcases List.mem_append.1 hy with hy | hy
        · exact h1 y hy
        · obtain rfl : y = (k : Int) := by simpa using hy
          omega
      · rw [hs, h2]
        simp
    · by_cases k2 : x.k = 2
      · rw [turn_two k2] at hs ⊢
        cases S' with
        | nil => exact .inl ⟨rfl, h0, k2, rfl⟩
        | cons y r =>
          refine .inr ⟨by simp, .inr ⟨by omega, (y :: r).dropLast, rfl, fun z hz => h1 z (List.dropLast_subset _ hz), ?_⟩, fun _ h => by simp at h⟩
          rw [hs, h2, List.dropLast_append_of_ne_nil (by simp)]
      · rw [turn_else k1 k2] at hs ⊢
        exact .inr ⟨by simp, .inr ⟨by omega, S', rfl, h1, by rw [hs, h2]⟩, fun _ h => k2 h.1⟩

/-- How the partner of a TOpen is looked for. -/
def Seeks (l : List Tok) (i k : Nat) (P : Int) : Prop := (k = i ∧ P = seek l i (i + 1) (l.length - (i + 1))) ∨ (i < k ∧ P = seek l i k (l.length - k))
theorem end_step {l : List Tok} {i k : Nat} {S : List Int} {x : Tok} {P : Int} (h : Since l i k S) (hik : i ≤ k) (hk : k < l.length) (hx : l[k]? = some x) (hi : kindAt l i = 1) (hP : Seeks l i k P) :
    (turn x k S = [] ∧ P = k) ∨ (turn x k S ≠ [] ∧ Since l i (k + 1) (turn x k S) ∧ Seeks l i (k + 1) P) := by
  have hst := since_step h hik hx hi
  rcases hP with ⟨rfl, hP⟩ | ⟨hlt, hP⟩
  · rcases hst with ⟨_, h2, _⟩ | ⟨h1, h2, _⟩
    · omega
    · exact .inr ⟨h1, h2, .inr ⟨by omega, hP⟩⟩
  · have ha := (since_around h hlt).2
    rw [show l.length - k = (l.length - (k + 1)) + 1 from by omega, seek, kindAt_some hx] at hP
    rcases hst with ⟨h1, _, h3, h4⟩ | ⟨h1, h2, h3⟩
    · rw [if_pos ⟨h3, ha.2 h4⟩] at hP
      exact .inl ⟨h1, hP⟩
    · rw [if_neg (fun h => h3 hlt ⟨h.1, ha.1 h.2⟩)] at hP
      exact .inr ⟨h1, h2, .inr ⟨by omega, hP⟩⟩
theorem end_none {l : List Tok} {i : Nat} {P : Int} (hi : i < l.length) (hP : Seeks l i l.length P) : P = -1 := by
  rcases hP with ⟨h, _⟩ | ⟨_, h⟩
  · omega
  · rw [Nat.sub_self, seek] at h
    exact h

/-- How what stands just in a place is gathered. -/
def Gathers (l : List Tok) (i : Int) (k : Nat) (out K : List Int) : Prop := (i = k ∧ out = [] ∧ K = kidsL l i (k + 1) (l.length - (k + 1)) []) ∨ (i < k ∧ K = kidsL l i k (l.length - k) out)
/-- What is kept of what stands at k. -/
def kept (i : Int) (x : Tok) (k : Nat) (S out : List Int) : List Int := if S.getLast?.getD (-1) = i ∧ (x.k = 0 ∨ x.k = 1 ∨ x.k = 3) then out ++ [(k : Int)] else out
theorem kids_step {l : List Tok} {i k : Nat} {S out K : List Int} {x : Tok} (h : Since l i k S) (hik : i ≤ k) (hk : k < l.length) (hx : l[k]? = some x) (hi : kindAt l i = 1) (hP : Gathers l i k out K) :
    (turn x k S = [] ∧ K = kept i x k S out) ∨ (turn x k S ≠ [] ∧ Since l i (k + 1) (turn x k S) ∧ Gathers l i (k + 1) (kept i x k S out) K) := by
  have hst := since_step h hik hx hi
  rcases hP with ⟨e, rfl, hP⟩ | ⟨hlt, hP⟩
  · obtain rfl : i = k := by omega
    rcases hst with ⟨_, h2, _⟩ | ⟨h1, h2, _⟩
    · omega
    · refine .inr ⟨h1, h2, .inr ⟨by omega, ?_⟩⟩
      rcases h with ⟨_, rfl⟩ | ⟨h, _⟩
      · unfold kept
        rw [if_neg (by simp), hP]
      · omega
  · have hlt' : i < k := by omega
    obtain ⟨ha1, ha⟩ := since_around h hlt'
    have hkp : kept i x k S out = if x.k ≠ 2 ∧ 0 ≤ x.k ∧ x.k ≤ 3 ∧ around l k = i then out ++ [(k : Int)] else out := by
      unfold kept
      rw [← ha1]
      by_cases c : around l k = i ∧ (x.k = 0 ∨ x.k = 1 ∨ x.k = 3)
      · rw [if_pos c, if_pos (by omega)]
      · rw [if_neg c, if_neg (by omega)]
    rw [show l.length - k = (l.length - (k + 1)) + 1 from by omega, kidsL, kindAt_some hx, ← hkp] at hP
    rcases hst with ⟨h1, _, h3, h4⟩ | ⟨h1, h2, h3⟩
    · rw [if_pos ⟨h3, ha.2 h4, by omega⟩] at hP
      refine .inl ⟨h1, ?_⟩
      rw [hP, hkp, if_neg (by omega)]
    · rw [if_neg (fun h => h3 hlt' ⟨h.1, ha.1 h.2.1⟩)] at hP
      exact .inr ⟨h1, h2, .inr ⟨by omega, hP⟩⟩
theorem kids_none {l : List Tok} {i : Int} {out K : List Int} (hi : i < l.length) (hP : Gathers l i l.length out K) : K = out := by
  rcases hP with ⟨h, _⟩ | ⟨_, h⟩
  · omega
  · rw [Nat.sub_self, kidsL] at h
    exact h
/-- In nothing. -/
theorem kids_out {l : List Tok} {k : Nat} {out K : List Int} {x : Tok} (hk : k < l.length) (hx : l[k]? = some x) (hP : Gathers l (-1) k out K) : Gathers l (-1) (k + 1) (kept (-1) x k (opened l k) out) K := by
  rcases hP with ⟨e, _⟩ | ⟨_, hP⟩
  · omega
  · refine .inr ⟨by omega, ?_⟩
    have hkp : kept (-1) x k (opened l k) out = if x.k ≠ 2 ∧ 0 ≤ x.k ∧ x.k ≤ 3 ∧ around l k = -1 then out ++ [(k : Int)] else out := by
      unfold kept
      rw [show (opened l k).getLast?.getD (-1) = around l k from rfl]
      by_cases c : around l k = -1 ∧ (x.k = 0 ∨ x.k = 1 ∨ x.k = 3)
      · rw [if_pos c, if_pos (by omega)]
      · rw [if_neg c, if_neg (by omega)]
    rw [show l.length - k = (l.length - (k + 1)) + 1 from by omega, kidsL, kindAt_some hx, ← hkp, if_neg (by omega)] at hP
    exact hP
end Go.Proofs.Ytgpopploimeeaaa
