/-
  PROVED HERE, plain: with what the pairs leave taken out of the one list, and the other's put in, it is the other; as many tokens are kept as there are pairs.
-/
import Derived.Test.YtgpopploimeeaaaREdits
namespace Go.Proofs.Ytgpopploimeeaaa

/-- What is put together range by range, and how many tokens are kept; none where a range isn't right. -/
def foldE (a b : List Tok) : List (Nat × Nat × Nat) → Nat → Nat → Option (List Tok × Nat)
  | [], f, _ => some (a.drop f, a.length - f)
  | x :: r, f, t =>
    if f ≤ x.1 ∧ x.1 + x.2.1 ≤ a.length ∧ (x.1 - f + t) + x.2.2 ≤ b.length ∧ 0 < x.2.1 + x.2.2 then
      (foldE a b r (x.1 + x.2.1) (x.1 - f + t + x.2.2)).map fun y => ((a.drop f).take (x.1 - f) ++ ((b.drop (x.1 - f + t)).take x.2.2 ++ y.1), x.1 - f + y.2)
    else none

/-- What lies ahead is alike on both sides. -/
def SameAt (a b : List Tok) (f t c : Nat) : Prop := ∀ k, k < c → a[f + k]? = b[t + k]?
theorem SameAt.take {a b : List Tok} {f t c : Nat} (h : SameAt a b f t c) : (a.drop f).take c = (b.drop t).take c := by
  apply List.ext_getElem?
  intro k
  rw [List.getElem?_take, List.getElem?_take, List.getElem?_drop, List.getElem?_drop]
  by_cases hk : k < c
  · rw [if_pos hk, if_pos hk, h k hk]
  · rw [if_neg hk, if_neg hk]
theorem take_drop_more (b : List Tok) (t c d : Nat) : (b.drop t).take c ++ ((b.drop (c + t)).take d ++ b.drop (c + t + d)) = b.drop t := by
  have e1 : (b.drop (c + t)).take d ++ b.drop (c + t + d) = b.drop (c + t) := by
    have e0 : b.drop (c + t + d) = (b.drop (c + t)).drop d := by rw [List.drop_drop]
    rw [e0]
    exact List.take_append_drop d _
  have e2 : b.drop (c + t) = (b.drop t).drop c := by rw [List.drop_drop, Nat.add_comm]
  rw [e1, e2]
  exact List.take_append_drop c _
theorem like_same {a b : List Tok} {p q : Nat} (h : likeL a b p q = true) : a[p]? = b[q]? := by
  unfold likeL at h
  split at h
  · rename_i x y hx hy
    rw [hx, hy, (tokEq_iff x y).1 h]
  · cases h

theorem foldE_pairs (a b : List Tok) : ∀ (l : List (Nat × Nat)) (i j f t : Nat), i ≤ a.length → j ≤ b.length → f ≤ i → i - f + t = j → SameAt a b f t (i - f) → IsPairs (likeL a b) a.length b.length i j l →
    foldE a b (editsP (l ++ [(a.length, b.length)]) i j) f t = some (b.drop t, i - f + l.length)
  | [], i, j, f, t, hi, hj, hf, ht, hs, _ => by
    rw [List.nil_append, editsP]
    by_cases h : i < a.length ∨ j < b.length
    · rw [if_pos h]
      show foldE a b ((i, a.length - i, b.length - j) :: editsP [] _ _) f t = _
      rw [foldE]
      rw [if_pos ⟨hf, by show i + (a.length - i) ≤ _; omega, by show (i - f + t) + (b.length - j) ≤ _; omega, by show 0 < a.length - i + (b.length - j); omega⟩]
      show (some _).map _ = _
      rw [Option.map_some]
      dsimp only
      have e1 : i + (a.length - i) = a.length := by omega
      rw [e1, List.drop_length, List.append_nil, Nat.sub_self, hs.take]
      have e2 := take_drop_more b t (i - f) (b.length - j)
      have e3 : i - f + t + (b.length - j) = b.length := by omega
      rw [e3, List.drop_length, List.append_nil] at e2
      rw [e2]
      rfl
    · rw [if_neg h]
      show foldE a b [] f t = _
      obtain rfl : i = a.length := by omega
      have hjb : j = b.length := by omega
      rw [foldE]
      have e1 : a.drop f = b.drop t := by
        have := hs.take
        rw [List.take_of_length_le (by rw [List.length_drop]; omega), List.take_of_length_le (by rw [List.length_drop]; omega)] at this
        exact this
      rw [e1]
      rfl
  | x :: l, i, j, f, t, hi, hj, hf, ht, hs, h => by
    obtain ⟨_, hnx, hrest⟩ := h
    have hsame := like_same hnx.opens.1
    have h1 := hnx.ip
    have h2 := hnx.jq
    have h3 := hnx.pn
    have h4 := hnx.qm
    rw [List.cons_append, editsP]
    by_cases hb : i < x.1 ∨ j < x.2
    · rw [if_pos hb]
      have ih := foldE_pairs a b l (x.1 + 1) (x.2 + 1) x.1 x.2 h3 h4 (Nat.le_succ _) (by omega) (fun k hk => by
        obtain rfl : k = 0 := by omega
        exact hsame) hrest
      rw [foldE]
      rw [if_pos ⟨hf, by show i + (x.1 - i) ≤ _; omega, by show (i - f + t) + (x.2 - j) ≤ _; omega, by show 0 < x.1 - i + (x.2 - j); omega⟩]
      dsimp only
      have e1 : i + (x.1 - i) = x.1 := by omega
      have e2 : i - f + t + (x.2 - j) = x.2 := by omega
      rw [e1, e2, ih, Option.map_some]
      dsimp only
      have e3 := take_drop_more b t (i - f) (x.2 - j)
      rw [e2] at e3
      rw [hs.take, e3, List.length_cons]
      have e4 : i - f + (x.1 + 1 - x.1 + l.length) = i - f + (l.length + 1) := by omega
      rw [e4]
    · rw [if_neg hb]
      have e1 : x.1 = i := by omega
      have e2 : x.2 = j := by omega
      rw [e1, e2] at hrest hsame
      have ih := foldE_pairs a b l (i + 1) (j + 1) f t (by omega) (by omega) (by omega) (by omega) (fun k hk => by
        by_cases e : k < i - f
        · exact hs k e
        · have e5 : f + k = i := by omega
          have e6 : t + k = j := by omega
          rw [e5, e6]
          exact hsame) hrest
      rw [e1, e2, ih, List.length_cons]
      have e4 : i + 1 - f + l.length = i - f + (l.length + 1) := by omega
      rw [e4]
/-- From the start on. -/
theorem foldE_all (a b : List Tok) (l : List (Nat × Nat)) (h : IsPairs (likeL a b) a.length b.length 0 0 l) : foldE a b (editsP (l ++ [(a.length, b.length)]) 0 0) 0 0 = some (b, l.length) := by
  have := foldE_pairs a b l 0 0 0 0 (Nat.zero_le _) (Nat.zero_le _) (Nat.le_refl _) rfl (fun k hk => absurd hk (by omega)) h
  rw [this, List.drop_zero]
  congr 2
  omega
end Go.Proofs.Ytgpopploimeeaaa
