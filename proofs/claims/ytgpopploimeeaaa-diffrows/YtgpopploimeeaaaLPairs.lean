/-
  PROVED HERE: two pairs compared; the law's own comparison of lists of them: what it returns; nothing that lay before is turned.
-/
import Derived.Test.YtgpopploimeeaaaGTab
import Derived.Laws.StructEq
import Derived.ChangeKeysEq
namespace Go.Proofs.Ytgpopploimeeaaa
open Go.RowKit

def PrV (x : Nat × Nat) : Value := .agg #[.int .i64 (x.1 : Int), .int .i64 (x.2 : Int)]
theorem Pr_eqGuard (op : BinOp) (x y : Operand) (xs ys : Array Value) (W : World) : (eqGuard op 68 x y (.agg xs) (.agg ys)).run Try.prog W = .ok () W := run_eqGuard_agg W op 68 x y xs ys (by kernel_rfl)
theorem Pr_equal (x y : Nat × Nat) (W : World) : (Op.equalIn 10000 68 (PrV x) (PrV y)).run Try.prog W = .ok (decide (x = y)) W := by
  have u3 := Try.underlying3
  have a3 := Try.isAgg3
  obtain ⟨i0, hi, _⟩ := Option.map_eq_some_iff.1 info_int
  have hc : Try.prog.cellsOf 3 = 1 := by kernel_rfl
  obtain ⟨a, b⟩ := x
  obtain ⟨a', b'⟩ := y
  simp only [PrV]
  rw [show (10000 : Nat) = 9999 + 1 from rfl, run_equalIn_array W 9999 _ _ Try.underlying68 hi, hc]
  simp only [show List.range 2 = [0, 1] from rfl, Op.eqItems]
  go_simp
  by_cases h1 : a = a' <;> by_cases h2 : b = b' <;> (simp [h1, h2] <;> omega)
theorem Pr_neq (x y : Nat × Nat) (W : World) : (binOp .neq 68 (PrV x) (PrV y)).run Try.prog W = .ok (.bool (!decide (x = y))) W := by
  have h := Pr_equal x y W
  simp only [PrV] at h ⊢
  rw [run_neq_struct, h]
  rfl

/-- A slice's elements. -/
def Prs (w : World) (a : Option Addr) (len : Nat) (l : List (Nat × Nat)) : Prop :=
  l.length = len ∧ (len = 0 ∨ ∃ b o, a = some ⟨b, o, none⟩ ∧ b < w.heap.size ∧ ∀ i x, l[i]? = some x → w.cell? ⟨b, o + i * 2, none⟩ = some (.int .i64 (x.1 : Int)) ∧ w.cell? ⟨b, o + i * 2 + 1, none⟩ = some (.int .i64 (x.2 : Int)))
theorem Prs.at {w : World} {a : Option Addr} {len : Nat} {l : List (Nat × Nat)} (h : Prs w a len l) {k : Nat} (hk : k < len) : ∃ b o x, a = some ⟨b, o, none⟩ ∧ b < w.heap.size ∧ l[k]? = some x ∧ ∀ W : World, Below w.heap.size w W → W.cell? ⟨b, o + k * 2, none⟩ = some (.int .i64 (x.1 : Int)) ∧ W.cell? ⟨b, o + k * 2 + 1, none⟩ = some (.int .i64 (x.2 : Int)) := by
  obtain ⟨h1, h2 | ⟨b, o, rfl, hlt, hc⟩⟩ := h
  · omega
  · have hx : l[k]? = some (l[k]'(by omega)) := List.getElem?_eq_getElem (by omega)
    refine ⟨b, o, _, rfl, hlt, hx, fun W hb => ?_⟩
    obtain ⟨c0, c1⟩ := hc k _ hx
    exact ⟨(hb.cell (p := ⟨b, _, none⟩) hlt).trans c0, (hb.cell (p := ⟨b, _, none⟩) hlt).trans c1⟩
theorem Prs.below {w w' : World} {a : Option Addr} {len : Nat} {l : List (Nat × Nat)} (h : Prs w a len l) (hb : Below w.heap.size w w') : Prs w' a len l := by
  obtain ⟨h1, h2⟩ := h
  refine ⟨h1, ?_⟩
  rcases h2 with h2 | ⟨b, o, rfl, hlt, hc⟩
  · exact .inl h2
  · refine .inr ⟨b, o, rfl, Nat.lt_of_lt_of_le hlt hb.size, fun i x hx => ?_⟩
    obtain ⟨c0, c1⟩ := hc i x hx
    exact ⟨(hb.cell (p := ⟨b, _, none⟩) hlt).trans c0, (hb.cell (p := ⟨b, _, none⟩) hlt).trans c1⟩
theorem Pr_take {l1 l2 : List (Nat × Nat)} {k : Nat} (h : l1.take k = l2.take k) {x : Nat × Nat} (h1 : l1[k]? = some x) (h2 : l2[k]? = some x) : l1.take (k + 1) = l2.take (k + 1) := by
  rw [List.take_add_one, List.take_add_one, h, h1, h2]

set_option maxRecDepth 100000 in
set_option maxHeartbeats 2000000 in
theorem lpairs_calls (a1 a2 : Option Addr) (n1 n2 c1 c2 : Nat) (l1 l2 : List (Nat × Nat)) (w : World) (h1 : Prs w a1 n1 l1) (h2 : Prs w a2 n2 l2) (hsz : n1 ≤ 35184372088832) (hsz2 : n2 ≤ 35184372088832) :
    Calls Try.prog 14 #[.slice a1 n1 c1, .slice a2 n2 c2] w fun e w' => e = .returned (.bool (decide (l1 = l2))) ∧ Below w.heap.size w w' := by
  by_cases hn : n1 = n2
  · subst hn
    generalize hD : decide (l1 = l2) = D at *
    go_enter Try.func14, Try.ntmps14
    go_wp2
    go_loopg [5] (n1 + 1) (fun gk u wr => ∃ k : Nat, k ≤ n1 ∧ u = .int .i64 (k : Int) ∧ n1 < k + gk ∧ Hid (l1.take k = l2.take k) ∧ Hid (Below w.heap.size w wr))
    case atStart => exact ⟨0, Nat.zero_le _, rfl, by omega, rfl, Below.refl _ _⟩
    case round =>
      obtain ⟨k, hk, rfl, hgk, HT, HB⟩ := hrel
      have hk0 : (0 : Int) ≤ (k : Int) := by omega
      by_cases hlt : k < n1
      · have hlti : (k : Int) < (n1 : Int) := by omega
        obtain ⟨b, o, x, rfl, hbl, hx, hc⟩ := h1.at hlt
        obtain ⟨b', o', y, rfl, hbl', hy, hc'⟩ := h2.at hlt
        obtain ⟨p0, p1⟩ := hc wr HB.out
        obtain ⟨q0, q1⟩ := hc' wr HB.out
        clear hc hc'
        have hg := fun (x y : Operand) (xs ys : Array Value) (W : World) => Pr_eqGuard .neq x y xs ys W
        have hq := fun W => Pr_neq x y W
        have hdd : (decide (x = y) = true ∧ l1.take (k + 1) = l2.take (k + 1)) ∨ (decide (x = y) = false ∧ D = false) := by
          by_cases h : x = y
          · subst h
            exact .inl ⟨decide_eq_true rfl, Pr_take HT.out hx hy⟩
          · refine .inr ⟨decide_eq_false h, ?_⟩
            rw [← hD]
            apply decide_eq_false
            intro e
            rw [e, hy] at hx
            exact h (Option.some.inj hx).symm
        generalize decide (x = y) = d at *
        simp only [PrV] at hq
        obtain ⟨x0, x1⟩ := x
        obtain ⟨y0, y1⟩ := y
        simp only at *
        rcases hdd with ⟨rfl, hts⟩ | ⟨rfl, hd2⟩
        · have HS : Hid (l1.take (k + 1) = l2.take (k + 1)) := hts
          clear hts hx hy hD h1 h2
          go_wp2_with fail
          go_quiet (fail)
          obtain ⟨V, hV⟩ : ∃ V, V = wr.drewN nq := ⟨_, rfl⟩
          have HV : Hid (Below w.heap.size w V) := by rw [hV]; exact below_drewN HB.out nq
          rw [← hV]
          clear hV HB
          go_wp2
          go_roundg (n1 - k)
          case measure => omega
          case rel => exact ⟨k + 1, by omega, by first | rfl | go_num, by omega, HS, HV⟩
        · have HD : Hid (D = false) := hd2
          clear hd2 hx hy hD h1 h2
          go_wp2_with fail
          go_quiet (fail)
          obtain ⟨V, hV⟩ : ∃ V, V = wr.drewN nq := ⟨_, rfl⟩
          have HV : Hid (Below w.heap.size w V) := by rw [hV]; exact below_drewN HB.out nq
          rw [← hV]
          clear hV HB
          go_wp2
          go_ret
          exact ⟨by rw [HD.out]; rfl, HV.out⟩
      · obtain rfl : k = n1 := by omega
        have HD : Hid (D = true) := by
          show D = true
          have := HT.out
          rw [List.take_of_length_le (Nat.le_of_eq h1.1), List.take_of_length_le (Nat.le_of_eq h2.1)] at this
          rw [← hD, this]
          exact decide_eq_true rfl
        clear hD h1 h2
        go_wp2
        go_ret
        exact ⟨by rw [HD.out]; rfl, HB.out⟩
  · have HD : decide (l1 = l2) = false := by
      apply decide_eq_false
      intro e
      exact hn (by rw [← h1.1, ← h2.1, e])
    rw [HD]
    go_enter Try.func14, Try.ntmps14
    go_wp2
    go_ret
    exact ⟨rfl, Below.refl _ _⟩
end Go.Proofs.Ytgpopploimeeaaa
