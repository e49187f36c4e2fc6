/-
  PROVED HERE: the law's own alike at every two slices of tokens: what it returns; nothing that lay before is turned.
-/
import Derived.Test.YtgpopploimeeaaaCB4
namespace Go.Proofs.Ytgpopploimeeaaa
open Go.RowKit

set_option maxRecDepth 100000 in
set_option maxHeartbeats 2000000 in
theorem alike_calls (a1 a2 : Option Addr) (n1 n2 c1 c2 : Nat) (l1 l2 : List Tok) (w : World) (h1 : Toks w a1 n1 l1) (h2 : Toks w a2 n2 l2) (hsz : n1 ≤ 35184372088832) (hsz2 : n2 ≤ 35184372088832) :
    Calls Try.prog 16 #[.slice a1 n1 c1, .slice a2 n2 c2] w fun e w' => e = .returned (.bool (eqL l1 l2)) ∧ Below w.heap.size w w' := by
  by_cases hn : n1 = n2
  · subst hn
    generalize hD : eqL l1 l2 = D at *
    go_enter Try.func16, Try.ntmps16
    go_wp2
    go_loopw [5] (fun i w' => ∃ k : Nat, k ≤ n1 ∧ i = .int .i64 (k : Int) ∧ l1.take k = l2.take k ∧ Below w.heap.size w w') (fun i _ => n1 - (intOf i).toNat)
    case atStart => exact ⟨0, Nat.zero_le _, rfl, rfl, Below.refl _ _⟩
    case round =>
      obtain ⟨k, hk, rfl, ht, hB⟩ := hrel
      have HT : Hid (l1.take k = l2.take k) := ht
      clear ht
      by_cases hlt : k < n1
      · obtain ⟨b, o, x, rfl, hbl, hx, hc⟩ := h1.token hlt
        obtain ⟨b', o', y, rfl, hbl', hy, hc'⟩ := h2.token hlt
        obtain ⟨p0, p1, p2, p3⟩ := hc wr hB
        obtain ⟨q0, q1, q2, q3⟩ := hc' wr hB
        clear hc hc'
        have hg := fun (x y : Operand) (xs ys : Array Value) (W : World) => tok_eqGuard .neq x y xs ys W
        have hq := fun W => tok_neq x y W
        have hdd : (tokEq x y = true ∧ l1.take (k + 1) = l2.take (k + 1)) ∨ (tokEq x y = false ∧ D = false) := by
          by_cases h : x = y
          · subst h
            exact .inl ⟨(tokEq_iff _ _).2 rfl, take_succ_same HT.out hx hy⟩
          · refine .inr ⟨tokEq_false h, ?_⟩
            rw [← hD]
            apply eqL_false
            intro e
            rw [e, hy] at hx
            exact h (Option.some.inj hx).symm
        generalize tokEq x y = d at *
        simp only [tokV] at hq
        obtain ⟨xk, xt, xn, xm⟩ := x
        obtain ⟨yk, yt, yn, ym⟩ := y
        simp only at *
        rcases hdd with ⟨rfl, hts⟩ | ⟨rfl, hd2⟩
        · have HS : Hid (l1.take (k + 1) = l2.take (k + 1)) := hts
          clear hts hx hy hD h1 h2
          go_wp2_with fail
          go_quiet (fail)
          go_wp2
          go_roundw
          case rel => exact ⟨k + 1, by omega, rfl, HS.out, below_drewN hB _⟩
          case measure => simp [intOf]; omega
        · have HD : Hid (D = false) := hd2
          clear hd2 hx hy hD h1 h2
          go_wp2_with fail
          go_quiet (fail)
          go_wp2
          go_ret
          exact ⟨by rw [HD.out]; rfl, below_drewN hB _⟩
      · obtain rfl : k = n1 := by omega
        have HD : Hid (D = true) := by
          show D = true
          have := HT.out
          rw [List.take_of_length_le (Nat.le_of_eq h1.1), List.take_of_length_le (Nat.le_of_eq h2.1)] at this
          rw [← hD, this]
          exact (eqL_iff _ _).2 rfl
        clear hD h1 h2
        go_wp2
        go_ret
        exact ⟨by rw [HD.out]; rfl, hB⟩
  · have HD : eqL l1 l2 = false := by
      apply eqL_false
      intro e
      exact hn (by rw [← h1.1, ← h2.1, e])
    rw [HD]
    go_enter Try.func16, Try.ntmps16
    go_wp2
    go_ret
    exact ⟨rfl, Below.refl _ _⟩
end Go.Proofs.Ytgpopploimeeaaa
