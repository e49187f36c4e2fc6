/-
  PROVED HERE: the law's own ranges at every two slices of ranges: what it returns; nothing that lay before is turned.
-/
import Derived.Test.YtiadcpbaopafgaaFitR
import Derived.Test.YtiadcpbaopafgaaHeld
namespace Go.Proofs.Ytiadcpbaopafgaa
open Go.RowKit

def rngEq (x y : Rng) : Bool := x.a == y.a && (x.o == y.o && x.n == y.n)
theorem rngEq_iff (x y : Rng) : rngEq x y = true ↔ x = y := by
  obtain ⟨a, b, c⟩ := x
  obtain ⟨a', b', c'⟩ := y
  simp [rngEq]
theorem rngEq_false {x y : Rng} (h : x ≠ y) : rngEq x y = false := by
  cases e : rngEq x y with
  | false => rfl
  | true => exact absurd ((rngEq_iff x y).1 e) h
def eqRs : List Rng → List Rng → Bool
  | [], [] => true
  | x :: r, y :: s => rngEq x y && eqRs r s
  | [], _ :: _ => false
  | _ :: _, [] => false
theorem eqRs_iff (l m : List Rng) : eqRs l m = true ↔ l = m := by
  induction l generalizing m with
  | nil => cases m <;> simp [eqRs]
  | cons x r ih =>
    cases m with
    | nil => simp [eqRs]
    | cons y s => rw [eqRs, Bool.and_eq_true, rngEq_iff, ih, List.cons.injEq]
theorem eqRs_false {l m : List Rng} (h : l ≠ m) : eqRs l m = false := by
  cases e : eqRs l m with
  | false => rfl
  | true => exact absurd ((eqRs_iff l m).1 e) h
theorem rng_eqGuard (op : BinOp) (x y : Operand) (xs ys : Array Value) (W : World) : (eqGuard op 60 x y (.agg xs) (.agg ys)).run Try.prog W = .ok () W := run_eqGuard_agg W op 60 x y xs ys (by kernel_rfl)
theorem rng_equal (x y : Rng) (W : World) : (Op.equalIn 10000 60 (rngV x) (rngV y)).run Try.prog W = .ok (rngEq x y) W := by
  have u3 := Try.underlying3
  have a3 := Try.isAgg3
  have z3 := Try.sizeOf3
  have hS : Try.prog.underlying 60 = some (.struct (Try.prog.fieldsOf 60)) := by kernel_rfl
  have hp : Try.prog.stoodInHeld 60 = false := by kernel_rfl
  obtain ⟨k, t, n⟩ := x
  obtain ⟨k', t', n'⟩ := y
  simp only [rngV]
  rw [show (10000 : Nat) = 9999 + 1 from rfl, run_equalIn_agg W 9999 60 _ _ hS hp]
  simp only [Program.fieldsOf, Try.underlying60]
  go_simp
  unfold rngEq
  by_cases h1 : k = k' <;> by_cases h2 : t = t' <;> by_cases h3 : n = n' <;> simp [h1, h2, h3]
theorem rng_neq (x y : Rng) (W : World) : (binOp .neq 60 (rngV x) (rngV y)).run Try.prog W = .ok (.bool (!rngEq x y)) W := by
  rw [show rngV x = .agg #[.int .i64 x.a, .int .i64 x.o, .int .i64 x.n] from rfl, show rngV y = .agg #[.int .i64 y.a, .int .i64 y.o, .int .i64 y.n] from rfl, run_neq_struct]
  have h := rng_equal x y W
  simp only [rngV] at h
  rw [h]
  rfl
theorem take_succ_sameR {l1 l2 : List Rng} {k : Nat} (h : l1.take k = l2.take k) {x : Rng} (h1 : l1[k]? = some x) (h2 : l2[k]? = some x) : l1.take (k + 1) = l2.take (k + 1) := by
  rw [List.take_add_one, List.take_add_one, h, h1, h2]

set_option maxRecDepth 100000 in
set_option maxHeartbeats 2000000 in
theorem ranges_calls (a1 a2 : Option Addr) (n1 n2 c1 c2 : Nat) (l1 l2 : List Rng) (w : World) (h1 : Rngs w a1 n1 l1) (h2 : Rngs w a2 n2 l2) (hsz : n1 ≤ 35184372088832) (hsz2 : n2 ≤ 35184372088832) :
    Calls Try.prog 18 #[.slice a1 n1 c1, .slice a2 n2 c2] w fun e w' => e = .returned (.bool (eqRs l1 l2)) ∧ Below w.heap.size w w' := by
  by_cases hn : n1 = n2
  · subst hn
    generalize hD : eqRs l1 l2 = D at *
    go_enter Try.func18, Try.ntmps18
    go_wp2
    go_loopw [5] (fun i w' => ∃ k : Nat, k ≤ n1 ∧ i = .int .i64 (k : Int) ∧ l1.take k = l2.take k ∧ Below w.heap.size w w') (fun i _ => n1 - (intOf i).toNat)
    case atStart => exact ⟨0, Nat.zero_le _, rfl, rfl, Below.refl _ _⟩
    case round =>
      obtain ⟨k, hk, rfl, ht, hB⟩ := hrel
      have HT : Hid (l1.take k = l2.take k) := ht
      clear ht
      by_cases hlt : k < n1
      · obtain ⟨b, o, x, rfl, hbl, hx, _, hc⟩ := h1.range hlt
        obtain ⟨b', o', y, rfl, hbl', hy, _, hc'⟩ := h2.range hlt
        obtain ⟨p0, p1, p2⟩ := hc wr hB
        obtain ⟨q0, q1, q2⟩ := hc' wr hB
        clear hc hc'
        have hg := fun (x y : Operand) (xs ys : Array Value) (W : World) => rng_eqGuard .neq x y xs ys W
        have hq := fun W => rng_neq x y W
        have hdd : (rngEq x y = true ∧ l1.take (k + 1) = l2.take (k + 1)) ∨ (rngEq x y = false ∧ D = false) := by
          by_cases h : x = y
          · subst h
            exact .inl ⟨(rngEq_iff _ _).2 rfl, take_succ_sameR HT.out hx hy⟩
          · refine .inr ⟨rngEq_false h, ?_⟩
            rw [← hD]
            apply eqRs_false
            intro e
            rw [e, hy] at hx
            exact h (Option.some.inj hx).symm
        generalize rngEq x y = d at *
        simp only [rngV] at hq
        obtain ⟨xa, xo, xn⟩ := x
        obtain ⟨ya, yo, yn⟩ := y
        simp only at *
        rcases hdd with ⟨rfl, hts⟩ | ⟨rfl, hd2⟩
        · have HS : Hid (l1.take (k + 1) = l2.take (k + 1)) := hts
          clear hts hx hy hD h1 h2
          go_wp2_with fail
          go_quiet (fail)
          go_wp2
          go_roundw
          case rel => exact ⟨k + 1, by omega, rfl, HS.out, below_drewN hB _⟩
          case measure => simp [intOf]; omega
        · have HD : Hid (D = false) := hd2
          clear hd2 hx hy hD h1 h2
          go_wp2_with fail
          go_quiet (fail)
          go_wp2
          go_ret
          exact ⟨by rw [HD.out]; rfl, below_drewN hB _⟩
      · obtain rfl : k = n1 := by omega
        have HD : Hid (D = true) := by
          show D = true
          have := HT.out
          rw [List.take_of_length_le (Nat.le_of_eq h1.1), List.take_of_length_le (Nat.le_of_eq h2.1)] at this
          rw [← hD, this]
          exact (eqRs_iff _ _).2 rfl
        clear hD h1 h2
        go_wp2
        go_ret
        exact ⟨by rw [HD.out]; rfl, hB⟩
  · have HD : eqRs l1 l2 = false := by
      apply eqRs_false
      intro e
      exact hn (by rw [← h1.1, ← h2.1, e])
    rw [HD]
    have hn' : ¬ ((n1 : Int) = n2) := by omega
    go_enter Try.func18, Try.ntmps18
    go_wp2
    go_ret
    exact ⟨rfl, Below.refl _ _⟩
end Go.Proofs.Ytiadcpbaopafgaa
