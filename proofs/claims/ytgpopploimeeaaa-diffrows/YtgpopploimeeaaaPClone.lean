/-
  PROVED HERE: slices.Clone of tokens: what it returns, in new memory; nothing that lay before is turned.
-/
import Derived.Test.YtgpopploimeeaaaOwn
import Derived.Laws.Cover3
namespace Go.Proofs.Ytgpopploimeeaaa
open Go.RowKit

theorem eql_nil (a : Option Addr) (l c : Nat) (W : World) : (binOp .eql 22 (.slice a l c) (.slice none 0 0)).run Try.prog W = .ok (.bool a.isNone) W := by
  simp only [binOp]
  simp [run_equal_slice_nil W 22 _ a l c Try.underlying22]

set_option maxRecDepth 100000 in
set_option maxHeartbeats 1000000 in
theorem fclone2_calls (a : Option Addr) (len cap : Nat) (l : List Tok) (w : World) (hl : Toks w a len l) (hsz : len ≤ 4398046511104) (ha : a = none → cap = 0) (hc : len ≤ cap) :
    Calls Try.prog 43 #[.slice a len cap] w fun e w' => ∃ a' cap', e = .returned (.slice a' len cap') ∧ Toks w' a' len l ∧ len ≤ cap' ∧ (∀ b o, a' = some ⟨b, o, none⟩ → w.heap.size ≤ b) ∧ Below w.heap.size w w' := by
  cases a with
  | none =>
    obtain rfl := ha rfl
    obtain rfl : len = 0 := by omega
    obtain rfl : l = [] := List.length_eq_zero_iff.1 hl.1
    have hq := fun W => eql_nil none 0 0 W
    go_enter Try.func43, Try.ntmps43
    go_wp2
    go_ret
    have hx : ∀ b o, (none : Option Addr) = some ⟨b, o, none⟩ → w.heap.size ≤ b := fun b o h => by cases h
    first | exact ⟨none, 0, rfl, ⟨rfl, .inl rfl⟩, by simp, hx, Below.refl _ _⟩ | exact ⟨none, ⟨0, rfl, by simp⟩, ⟨rfl, .inl rfl⟩, hx, Below.refl _ _⟩ | exact ⟨none, ⟨0, rfl⟩, ⟨rfl, .inl rfl⟩, hx, Below.refl _ _⟩ | trace_state
  | some x =>
    obtain ⟨v, W1, hrun, r1, r2, r3⟩ := tok_clone_own (some x) len cap l w hl hsz
    obtain ⟨g, cp, rfl, hg, hg1, hg2, ht⟩ := toks_of_owns r1 r2
    clear r1 r2 hl
    have hq := fun W => eql_nil (some x) len cap W
    simp only [Option.isNone_some] at hq
    go_enter Try.func43, Try.ntmps43
    go_wp2_with (at_builtin; refine wpList_tok_run rfl _ _ 22 rfl _ _ _ _ rfl rfl hrun ?_)
    go_ret
    have hx : ∀ b o, (some ⟨g, 0, none⟩ : Option Addr) = some ⟨b, o, none⟩ → w.heap.size ≤ b := fun b o h => by cases h; exact hg
    first | exact ⟨_, cp, rfl, ht, hg1, hx, r3⟩ | exact ⟨_, ⟨cp, rfl, hg1⟩, ht, hx, r3⟩ | exact ⟨_, ⟨cp, rfl⟩, ht, hx, r3⟩ | trace_state
end Go.Proofs.Ytgpopploimeeaaa
