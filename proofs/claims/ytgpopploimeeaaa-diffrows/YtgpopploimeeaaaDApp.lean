/-
  PROVED HERE: parts of tokens put behind what a call owns, from none on.
-/
import Derived.Test.YtgpopploimeeaaaOwn
import Derived.Laws.OwnMore
namespace Go.Proofs.Ytgpopploimeeaaa
open Go.RowKit

/-- append of tokens to what the call owns, whatever it is. -/
theorem tok_append_any (base : Nat) (v : Value) (xs : List Tok) (W : World) (hown : W.ownsRow base 62 4 v xs.length (flat xs)) (hbase : base ≤ W.heap.size) (a : Option Addr) (len cap : Nat) (bs : List Tok) (hr : Toks W a len bs) (hz : a = none → cap = 0) (hsz : xs.length + len ≤ 4398046511104) :
    ∃ v' W1, (Builtin.append_ #[22, 22] 22 #[v, .slice a len cap]).run Try.prog W = .ok v' W1 ∧ W1.ownsRow base 62 4 v' (xs ++ bs).length (flat (xs ++ bs)) ∧
      (∀ w : World, Below base w W → Below base w W1) ∧ (∀ b, b < W.heap.size → v.ownBlock ≠ some b → W1.heap[b]? = W.heap[b]?) ∧ W.heap.size ≤ W1.heap.size := by
  obtain ⟨i0, hi, hz0, hz1, hz2⟩ := info_parts info23
  have hlen := hr.1
  cases a with
  | none =>
    obtain rfl : cap = 0 := hz rfl
    obtain rfl : len = 0 := by
      rcases hr.2 with h | ⟨b, o, h, _⟩
      · exact h
      · cases h
    obtain rfl : bs = [] := List.length_eq_zero_iff.1 hlen
    exact ⟨v, W, run_append_owned_none (P := Try.prog) W base 22 22 62 i0 4 Try.underlying22 hi v _ _ hown, by rw [List.append_nil]; exact hown, fun w h => h, fun b _ _ => rfl, Nat.le_refl _⟩
  | some p =>
    obtain ⟨v', W1, h1, h2, h3, _⟩ := run_append_own (P := Try.prog) W base 22 22 62 i0 _ 4 32 Try.underlying22 hi hz0 hz1 hz2 rfl (by decide) v xs.length _ hown p len cap (flat bs) (by rw [flat_length, hlen])
      (fun j u hj => by
        rcases hr.2 with h | ⟨b', o', e, _, hc⟩
        · obtain rfl : bs = [] := List.length_eq_zero_iff.1 (by omega)
          simp [flat] at hj
        · cases e
          rw [add_none]
          exact flat_cells bs o' hc j u hj) (flat_one bs) (by unfold maxLen; omega) (by omega) hbase
    rw [← flat_append] at h2
    rw [List.length_append, hlen]
    exact ⟨v', W1, h1, h2, fun w h => h.grown h3 hbase (fun k e => (World.ownsRow.lt hown _ e).1), fun b hb hne => h3.block b hb (fun e => hne e.symm), h3.size⟩
end Go.Proofs.Ytgpopploimeeaaa
