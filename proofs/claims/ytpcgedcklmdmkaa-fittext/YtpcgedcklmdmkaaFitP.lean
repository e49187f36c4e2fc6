/-
  PROVED HERE: tokens closed, and their text for a type, as plain data; no program in it.
-/
import Derived.Test.YtpcgedcklmdmkaaMk
import Derived.Test.YtpcgedcklmdmkaaTxt
import Derived.Test.YtpcgedcklmdmkaaDoc
namespace Go.Proofs.Ytpcgedcklmdmkaa
open Go.RowKit

def shutT : Tok := ⟨2, 0, 0, 0⟩
/-- The tokens closed, d of what lies ahead of them open. -/
def closA : List Tok → Nat → List Tok
  | [], d => List.replicate d shutT
  | x :: r, d => if x.k = 1 then x :: closA r (d + 1) else if x.k = 2 then (if d = 0 then closA r 0 else x :: closA r (d - 1)) else x :: closA r d
def closed (l : List Tok) : List Tok := closA l 0
theorem closA_length (l : List Tok) (d : Nat) : (closA l d).length ≤ 2 * l.length + d := by
  induction l generalizing d with
  | nil => simp [closA]
  | cons x r ih =>
    have h0 := ih 0
    have h1 := ih (d + 1)
    have h2 := ih (d - 1)
    have h3 := ih d
    rw [closA]
    split
    · simp only [List.length_cons]; omega
    · split
      · split
        · simp only [List.length_cons]; omega
        · simp only [List.length_cons]; omega
      · simp only [List.length_cons]; omega
theorem shut_right : rightT shutT = true := by decide +kernel
theorem check_shut (d i : Nat) : (checkL (List.replicate d shutT) i (d : Int)).2 = 0 ∨ (checkL (List.replicate d shutT) i (d : Int)).2 = 8 := by
  induction d generalizing i with
  | zero => exact .inl rfl
  | succ d ih =>
    rw [List.replicate_succ, checkL, if_neg (by rw [shut_right]; simp [shutT]; omega), show (if shutT.k = 1 then ((d + 1 : Nat) : Int) + 1 else if shutT.k = 2 then ((d + 1 : Nat) : Int) - 1 else ((d + 1 : Nat) : Int)) = (d : Int) from by simp [shutT]]
    split
    · exact .inr rfl
    · exact ih (i + 1)
theorem check_closA (l : List Tok) (hr : ∀ x ∈ l, rightT x = true) (d i : Nat) : (checkL (closA l d) i (d : Int)).2 = 0 ∨ (checkL (closA l d) i (d : Int)).2 = 8 := by
  induction l generalizing d i with
  | nil => exact check_shut d i
  | cons x r ih =>
    have hx := hr x (List.mem_cons_self ..)
    have ih := ih fun y hy => hr y (List.mem_cons_of_mem _ hy)
    rw [closA]
    by_cases k1 : x.k = 1
    · rw [if_pos k1, checkL, if_neg (by rw [hx]; simp [k1]), if_pos k1]
      split
      · exact .inr rfl
      · exact ih (d + 1) (i + 1)
    · rw [if_neg k1]
      by_cases k2 : x.k = 2
      · rw [if_pos k2]
        by_cases h0 : d = 0
        · subst h0
          rw [if_pos rfl]
          exact ih 0 i
        · rw [if_neg h0, checkL, if_neg (by rw [hx]; simp [h0]), if_neg k1, if_pos k2, show (d : Int) - 1 = ((d - 1 : Nat) : Int) from by omega]
          split
          · exact .inr rfl
          · exact ih (d - 1) (i + 1)
      · rw [if_neg k2, checkL, if_neg (by rw [hx]; simp [k2]), if_neg k1, if_neg k2]
        split
        · exact .inr rfl
        · exact ih d (i + 1)
theorem check_closed (l : List Tok) (hr : ∀ x ∈ l, rightT x = true) : (check (closed l)).2 = 0 ∨ (check (closed l)).2 = 8 ∨ (check (closed l)).2 = 2 := by
  unfold check
  split
  · exact .inr (.inr rfl)
  · rcases check_closA l hr 0 0 with h | h
    · exact .inl h
    · exact .inr (.inl h)
theorem closA_same (l : List Tok) (d i : Nat) (h : (checkL l i (d : Int)).2 = 0) : closA l d = l := by
  induction l generalizing d i with
  | nil =>
    rw [checkL] at h
    split at h
    · simp at h
    · obtain rfl : d = 0 := by omega
      rfl
  | cons x r ih =>
    rw [checkL] at h
    split at h
    · simp at h
    · rename_i hf
      rw [closA]
      by_cases k1 : x.k = 1
      · rw [if_pos k1] at h ⊢
        split at h
        · simp at h
        · rw [ih (d + 1) (i + 1) h]
      · rw [if_neg k1] at h ⊢
        by_cases k2 : x.k = 2
        · rw [if_pos k2] at h ⊢
          have h0 : d ≠ 0 := by
            intro e
            subst e
            simp [k2] at hf
          split at h
          · simp at h
          · rw [if_neg h0, ih (d - 1) (i + 1) (by rw [show ((d - 1 : Nat) : Int) = (d : Int) - 1 from by omega]; exact h)]
        · rw [if_neg k2] at h ⊢
          split at h
          · simp at h
          · rw [ih d (i + 1) h]
theorem closed_same (l : List Tok) (h : (check l).2 = 0) : closed l = l := by
  unfold check at h
  split at h
  · simp at h
  · exact closA_same l 0 0 h
theorem closA_twice (l : List Tok) (d : Nat) : closA (closA l d) d = closA l d := by
  induction l generalizing d with
  | nil =>
    rw [closA]
    induction d with
    | zero => rfl
    | succ d ih => rw [List.replicate_succ, closA, if_neg (by simp [shutT]), if_pos (by simp [shutT]), if_neg (by omega), Nat.add_sub_cancel, ih]
  | cons x r ih =>
    rw [closA]
    by_cases k1 : x.k = 1
    · rw [if_pos k1, closA, if_pos k1, ih]
    · rw [if_neg k1]
      by_cases k2 : x.k = 2
      · rw [if_pos k2]
        by_cases h0 : d = 0
        · subst h0
          rw [if_pos rfl, ih]
        · rw [if_neg h0, closA, if_neg k1, if_pos k2, if_neg h0, ih]
      · rw [if_neg k2, closA, if_neg k1, if_neg k2, ih]
theorem closed_twice (l : List Tok) : closed (closed l) = closed l := closA_twice l 0
theorem text_cons (x : Tok) (l : List Tok) : text (x :: l) = (if (x.k == 0 && rightT x) = true then enc x.n else []) ++ text l := by simp [text]
theorem text_shut (d : Nat) : text (List.replicate d shutT) = [] := by
  induction d with
  | zero => rfl
  | succ d ih => rw [List.replicate_succ, text_cons, ih]; rfl
theorem text_closA (l : List Tok) (d : Nat) : text (closA l d) = text l := by
  induction l generalizing d with
  | nil => exact text_shut d
  | cons x r ih =>
    rw [closA]
    by_cases k1 : x.k = 1
    · rw [if_pos k1, text_cons, text_cons, ih]
    · rw [if_neg k1]
      by_cases k2 : x.k = 2
      · rw [if_pos k2]
        by_cases h0 : d = 0
        · rw [if_pos h0, ih, text_cons, if_neg (by simp [k2])]
          rfl
        · rw [if_neg h0, text_cons, text_cons, ih]
      · rw [if_neg k2, text_cons, text_cons, ih]
theorem text_closed (l : List Tok) : text (closed l) = text l := text_closA l 0

/-- A token's text for a type. -/
def plain1 (marks : Int) (lines : Bool) (x : Tok) : List Tok :=
  if (x.k == 0 && rightT x && (x.n != 10 || lines)) = true then [⟨x.k, x.t, x.n, within x.m marks⟩] else []
def plainL (marks : Int) (lines : Bool) (l : List Tok) : List Tok := l.flatMap (plain1 marks lines)
theorem plain_take (marks : Int) (lines : Bool) (l : List Tok) (k : Nat) (x : Tok) (h : l[k]? = some x) : plainL marks lines (l.take (k + 1)) = plainL marks lines (l.take k) ++ plain1 marks lines x := by
  have hk : k < l.length := (List.getElem?_eq_some_iff.1 h).1
  rw [plainL, List.take_succ_eq_append_getElem hk, List.flatMap_append, (List.getElem?_eq_some_iff.1 h).2]
  simp [plainL]
theorem plain1_length (marks : Int) (lines : Bool) (x : Tok) : (plain1 marks lines x).length ≤ 1 := by unfold plain1; split <;> simp
theorem plain_length (marks : Int) (lines : Bool) (l : List Tok) : (plainL marks lines l).length ≤ l.length := by
  induction l with
  | nil => simp [plainL]
  | cons x r ih =>
    have := plain1_length marks lines x
    simp only [plainL, List.flatMap_cons, List.length_append, List.length_cons] at ih ⊢
    omega
theorem right_rune {x : Tok} (h0 : x.k = 0) (h : rightT x = true) (m : Int) (hm : rightM m = true) : rightT ⟨x.k, x.t, x.n, m⟩ = true := by
  unfold rightT at h ⊢
  rw [if_pos h0] at h
  simp only [h0, if_true]
  rw [hm, Bool.and_true]
  simp only [Bool.and_eq_true] at h
  rw [h.1.1, h.1.2]
  rfl
/-- What a token of the text is. -/
theorem plain_mem {marks : Int} {lines : Bool} {l : List Tok} {y : Tok} (h : y ∈ plainL marks lines l) : y.k = 0 ∧ rightT y = true ∧ bits BinOp.and IntKind.i64 y.m marks = y.m ∧ (y.n = 10 → lines = true) ∧ plain1 marks lines y = [y] := by
  obtain ⟨x, _, hx⟩ := List.mem_flatMap.1 h
  unfold plain1 at hx
  split at hx
  · rename_i hc
    simp only [Bool.and_eq_true, beq_iff_eq, Bool.or_eq_true, bne_iff_ne] at hc
    obtain ⟨⟨c1, c2⟩, c3⟩ := hc
    obtain rfl : y = ⟨x.k, x.t, x.n, within x.m marks⟩ := by simpa using hx
    have hr := right_rune c1 c2 _ (within_right x.m marks)
    refine ⟨c1, hr, within_and _ _, fun e => ?_, ?_⟩
    · rcases c3 with c3 | c3
      · exact absurd e c3
      · exact c3
    · unfold plain1
      rw [if_pos]
      · rw [within_again]
      · simp only [Bool.and_eq_true, beq_iff_eq, Bool.or_eq_true, bne_iff_ne]
        exact ⟨⟨c1, hr⟩, c3⟩
  · cases hx
theorem plain_fix {marks : Int} {lines : Bool} (l : List Tok) (h : ∀ y ∈ l, plain1 marks lines y = [y]) : plainL marks lines l = l := by
  induction l with
  | nil => rfl
  | cons x r ih =>
    rw [plainL, List.flatMap_cons, h x (List.mem_cons_self ..)]
    exact congrArg (x :: ·) (ih fun y hy => h y (List.mem_cons_of_mem _ hy))
theorem plain_twice (marks : Int) (lines : Bool) (l : List Tok) : plainL marks lines (plainL marks lines l) = plainL marks lines l :=
  plain_fix _ fun _ hy => (plain_mem hy).2.2.2.2

/-- Does a token of the slice answer one of the text? -/
def hit (z y : Tok) : Bool := z.k == 0 && z.n == y.n && rightT z
/-- The text lies in the tokens, in their order: each as soon as may be. -/
def emb : List Tok → List Tok → Prop
  | [], _ => True
  | _ :: _, [] => False
  | y :: ys, z :: r => if hit z y = true then emb ys r else emb (y :: ys) r
theorem emb_nil (l : List Tok) : emb [] l := by cases l <;> trivial
theorem emb_both (r : List Tok) : (∀ y ys, emb (y :: ys) r → emb ys r) ∧ (∀ ys z, emb ys r → emb ys (z :: r)) := by
  have weak : ∀ r, (∀ y ys, emb (y :: ys) r → emb ys r) → ∀ ys z, emb ys r → emb ys (z :: r) := by
    intro r ht ys z h
    cases ys with
    | nil => exact emb_nil _
    | cons y ys =>
      rw [emb]
      split
      · exact ht y ys h
      · exact h
  have tail : ∀ y ys, emb (y :: ys) r → emb ys r := by
    induction r with
    | nil => intro y ys h; exact absurd h (by simp [emb])
    | cons z r ih =>
      intro y ys h
      rw [emb] at h
      refine weak r ih ys z ?_
      split at h
      · exact h
      · exact ih y ys h
  exact ⟨tail, weak r tail⟩
theorem emb_plain (marks : Int) (lines : Bool) (l : List Tok) : emb (plainL marks lines l) l := by
  induction l with
  | nil => exact emb_nil _
  | cons x r ih =>
    rw [plainL, List.flatMap_cons]
    unfold plain1
    split
    · rename_i hc
      simp only [Bool.and_eq_true] at hc
      rw [List.singleton_append, emb, if_pos (by unfold hit; simp only [Bool.and_eq_true, beq_self_eq_true, and_true]; exact hc.1)]
      exact ih
    · exact (emb_both r).2 _ x ih
theorem emb_step {y : Tok} {ys l : List Tok} {k : Nat} (h : emb (y :: ys) (l.drop k)) : ∃ z, l[k]? = some z ∧ k < l.length ∧ (if hit z y = true then emb ys (l.drop (k + 1)) else emb (y :: ys) (l.drop (k + 1))) := by
  by_cases hk : k < l.length
  · refine ⟨l[k], List.getElem?_eq_getElem hk, hk, ?_⟩
    rw [List.drop_eq_getElem_cons hk, emb] at h
    exact h
  · rw [List.drop_eq_nil_of_le (by omega)] at h
    exact absurd h (by simp [emb])
end Go.Proofs.Ytpcgedcklmdmkaa
