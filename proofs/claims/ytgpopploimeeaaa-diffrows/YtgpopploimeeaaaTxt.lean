/-
  PROVED HERE: the bytes of code points and of tokens, as plain data.
-/
import Derived.Test.YtgpopploimeeaaaTok
namespace Go.Proofs.Ytgpopploimeeaaa
open Go.RowKit

/-- The bytes of a code point. -/
def enc (n : Int) : List Int :=
  if n < 128 then [n]
  else if n < 2048 then [192 + n / 64, 128 + n % 64]
  else if n < 65536 then [224 + n / 4096, 128 + n / 64 % 64, 128 + n % 64]
  else [240 + n / 262144, 128 + n / 4096 % 64, 128 + n / 64 % 64, 128 + n % 64]
/-- The bytes of all right TRunes. -/
def text (l : List Tok) : List Int := l.flatMap fun x => if (x.k == 0 && rightT x) = true then enc x.n else []

theorem enc_length (n : Int) : 1 ≤ (enc n).length ∧ (enc n).length ≤ 4 := by unfold enc; split <;> (try split) <;> (try split) <;> simp
theorem text_take (l : List Tok) (k : Nat) (x : Tok) (h : l[k]? = some x) : text (l.take (k + 1)) = text (l.take k) ++ (if (x.k == 0 && rightT x) = true then enc x.n else []) := by
  rw [List.take_add_one, h]
  simp [text, List.flatMap_append]
theorem rightT_point {x : Tok} (h : rightT x = true) (h0 : x.k = 0) : 0 ≤ x.n ∧ x.n ≤ 1114111 := by
  unfold rightT at h
  rw [if_pos h0] at h
  simp only [Bool.and_eq_true, point, decide_eq_true_eq] at h
  omega
end Go.Proofs.Ytgpopploimeeaaa
