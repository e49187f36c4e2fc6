/-
  PROVED HERE: the document's own Check at every tree: what it returns; nothing that lay before is turned.
-/
import Derived.Test.YtafidabopcgkhaaDoorRight
namespace Go.Proofs.YtafidabopcgkhaaDoor
open Go.RowKit

def checkE (n : Nat) (t : DataW Unit) : Int := if 200 < cnt n t ∨ 60 < dp n t then 2 else if rightE n t = true then 0 else 4

set_option maxRecDepth 100000 in
set_option maxHeartbeats 2000000 in
theorem checkE_calls (n : Nat) (t : DataW Unit) (v : Value) (w : World) (h : Ex w n t v) (hc : cnt n t ≤ 1152921504606846976) (hN : named n t) :
    Calls Tryd.prog 16 #[v] w fun e w' => e = .returned (.int .i64 (checkE n t)) ∧ Below w.heap.size w w' := by
  have H1 := fun W (hW : Below w.heap.size w W) => count_calls n t v W (Ex.below hW _ _ _ h) hc
  have H2 := fun W (hW : Below w.heap.size w W) => deep_calls n t v W (Ex.below hW _ _ _ h) hc
  have H3 := fun W (hW : Below w.heap.size w W) => right_calls n t v W (Ex.below hW _ _ _ h) hN
  have hx : ∃ k s a len cap, v = .agg #[.int .i64 k, .string s, .slice a len cap] := by
    cases n with
    | zero => exact h.elim
    | succ n =>
      obtain ⟨k, s, a, len, cap, ts, _, e, _⟩ := h
      exact ⟨k, s, a, len, cap, e⟩
  obtain ⟨k, s, a, len, cap, rfl⟩ := hx
  unfold checkE
  generalize cnt n t = x1 at *
  generalize dp n t = x2 at *
  generalize rightE n t = x3 at *
  clear h hN
  have hB0 : ∀ o, Below w.heap.size w (w.alloc o) := fun o => (Below.refl _ w).alloc (Nat.le_refl _) o
  by_cases h1 : 200 < x1
  · rw [if_pos (.inl h1)]
    go_enter Tryd.func16, Tryd.ntmps16
    go_wp2_with fail
    refine (H1 _ (hB0 _)).mono ?_
    rintro e W1 ⟨rfl, b1⟩
    obtain ⟨c0, c1, c2, g1⟩ := one_kept b1
    go_wp2
    go_ret
    exact ⟨rfl, g1⟩
  have e1 : decide (200 < x1) = false := by simpa using h1
  by_cases h2 : 60 < x2
  · rw [if_pos (.inr h2)]
    go_enter Tryd.func16, Tryd.ntmps16
    go_wp2_with fail
    refine (H1 _ (hB0 _)).mono ?_
    rintro e W1 ⟨rfl, b1⟩
    obtain ⟨c0, c1, c2, g1⟩ := one_kept b1
    go_wp2_with fail
    refine (H2 _ g1).mono ?_
    rintro e W2 ⟨rfl, b2⟩
    go_wp2
    go_ret
    exact ⟨rfl, g1.trans (b2.mono g1.size)⟩
  have e2 : decide (60 < x2) = false := by simpa using h2
  rw [if_neg (by omega)]
  cases x3
  all_goals
    simp only [Bool.false_eq_true, if_false, if_true]
    go_enter Tryd.func16, Tryd.ntmps16
    go_wp2_with fail
    refine (H1 _ (hB0 _)).mono ?_
    rintro e W1 ⟨rfl, b1⟩
    obtain ⟨c0, c1, c2, g1⟩ := one_kept b1
    go_wp2_with fail
    refine (H2 _ g1).mono ?_
    rintro e W2 ⟨rfl, b2⟩
    obtain ⟨d0, d1, d2, _⟩ := one_kept (b1.trans (b2.mono b1.size))
    have g2 := g1.trans (b2.mono g1.size)
    go_wp2_with fail
    refine (H3 _ g2).mono ?_
    rintro e W3 ⟨rfl, b3⟩
    go_wp2
    go_ret
    exact ⟨rfl, g2.trans (b3.mono g2.size)⟩
end Go.Proofs.YtafidabopcgkhaaDoor
