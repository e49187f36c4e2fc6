/-
  PROVED HERE: what the texts PRun, LAlike, DTwin, PPatch, RPatch say (each has its own words below).
-/
import Derived.Test.YtgpopploimeeaaaCR12
import Derived.Test.YtgpopploimeeaaaCRREdits
import Derived.Test.YtgpopploimeeaaaCRPLong
import Derived.Test.YtgpopploimeeaaaCR4
import Derived.Test.YtgpopploimeeaaaCR21
import Derived.Test.YtgpopploimeeaaaCRRRows
import Derived.Test.YtgpopploimeeaaaCR24
/- PRun:  -/
namespace Go.Proofs.Ytgpopploimeeaaa

/-- One row, read; where the reading stands behind it. -/
def stepR (k1 k2 : List Nat) (like : Nat → Nat → Bool) (r : Int × Int × Int) (i j : Nat) : Option (Nat × Nat) :=
  if r.1 = 0 then (if i < k1.length ∧ j < k2.length ∧ r = (0, ((k1.getD i 0 : Nat) : Int), ((k2.getD j 0 : Nat) : Int)) ∧ like i j = true then some (i + 1, j + 1) else none)
  else if r.1 = 1 then (if i < k1.length ∧ r = (1, ((k1.getD i 0 : Nat) : Int), -1) then some (i + 1, j) else none)
  else (if j < k2.length ∧ r = (2, -1, ((k2.getD j 0 : Nat) : Int)) then some (i, j + 1) else none)
def runR (k1 k2 : List Nat) (like : Nat → Nat → Bool) : List (Int × Int × Int) → Nat → Nat → Option (Nat × Nat)
  | [], i, j => some (i, j)
  | r :: rs, i, j => (stepR k1 k2 like r i j).bind fun x => runR k1 k2 like rs x.1 x.2
section
variable {k1 k2 : List Nat} {like : Nat → Nat → Bool}
theorem runR_append : ∀ (rs ts : List (Int × Int × Int)) (i j : Nat), runR k1 k2 like (rs ++ ts) i j = (runR k1 k2 like rs i j).bind fun x => runR k1 k2 like ts x.1 x.2
  | [], ts, i, j => rfl
  | r :: rs, ts, i, j => by
    rw [List.cons_append, runR, runR]
    cases stepR k1 k2 like r i j with
    | none => rfl
    | some x => exact runR_append rs ts x.1 x.2
theorem runR_length : ∀ (rs : List (Int × Int × Int)) (i j : Nat) (x : Nat × Nat), runR k1 k2 like rs i j = some x → i + j + rs.length ≤ x.1 + x.2
  | [], i, j, x, h => by
    have h := Option.some.inj h
    subst h
    exact Nat.le_refl _
  | r :: rs, i, j, x, h => by
    rw [runR] at h
    obtain ⟨y, hy, hr⟩ := Option.bind_eq_some_iff.1 h
    have ih := runR_length rs y.1 y.2 x hr
    have hs : i + j + 1 ≤ y.1 + y.2 := by
      unfold stepR at hy
      by_cases r0 : r.1 = 0
      · rw [if_pos r0] at hy
        split at hy
        · have hy := Option.some.inj hy
          subst hy
          show i + j + 1 ≤ i + 1 + (j + 1)
          omega
        · cases hy
      · rw [if_neg r0] at hy
        by_cases r1 : r.1 = 1
        · rw [if_pos r1] at hy
          split at hy
          · have hy := Option.some.inj hy
            subst hy
            show i + j + 1 ≤ i + 1 + j
            omega
          · cases hy
        · rw [if_neg r1] at hy
          split at hy
          · have hy := Option.some.inj hy
            subst hy
            show i + j + 1 ≤ i + (j + 1)
            omega
          · cases hy
    rw [List.length_cons]
    omega
theorem runR_goA (i j : Nat) : ∀ d, i + d ≤ k1.length → runR k1 k2 like (goA k1 i d) i j = some (i + d, j)
  | 0, _ => rfl
  | d + 1, h => by
    rw [goA, runR_append, runR_goA i j d (by omega)]
    show (stepR k1 k2 like _ _ _).bind _ = _
    unfold stepR
    rw [if_neg (show ¬ ((1 : Int) = 0) by decide), if_pos rfl, if_pos ⟨by show i + d < k1.length; omega, rfl⟩]
    rfl
theorem runR_goB (i j : Nat) : ∀ d, j + d ≤ k2.length → runR k1 k2 like (goB k2 j d) i j = some (i, j + d)
  | 0, _ => rfl
  | d + 1, h => by
    rw [goB, runR_append, runR_goB i j d (by omega)]
    show (stepR k1 k2 like _ _ _).bind _ = _
    unfold stepR
    rw [if_neg (show ¬ ((2 : Int) = 0) by decide), if_neg (show ¬ ((2 : Int) = 1) by decide), if_pos ⟨by show j + d < k2.length; omega, rfl⟩]
    rfl
theorem runR_rows : ∀ (P : List (Nat × Nat)) (i j : Nat), i ≤ k1.length → j ≤ k2.length → IsPairs like k1.length k2.length i j P → runR k1 k2 like (rowsP k1 k2 P i j) i j = some (k1.length, k2.length)
  | [], i, j, hi, hj, _ => by
    rw [rowsP, runR_append, runR_goA i j _ (by omega)]
    show runR k1 k2 like (goB k2 j (k2.length - j)) (i + (k1.length - i)) j = _
    rw [runR_goB _ j _ (by omega)]
    rw [show i + (k1.length - i) = k1.length by omega, show j + (k2.length - j) = k2.length by omega]
  | x :: P, i, j, hi, hj, h => by
    obtain ⟨_, hnx, hr⟩ := h
    have h1 := hnx.ip
    have h2 := hnx.pn
    have h3 := hnx.jq
    have h4 := hnx.qm
    rw [rowsP, runR_append, runR_goA i j _ (by omega)]
    show runR k1 k2 like (goB k2 j (x.2 - j) ++ _) (i + (x.1 - i)) j = _
    rw [runR_append, runR_goB _ j _ (by omega)]
    rw [show i + (x.1 - i) = x.1 by omega, show j + (x.2 - j) = x.2 by omega]
    show (stepR k1 k2 like _ x.1 x.2).bind _ = _
    unfold stepR
    rw [if_pos rfl, if_pos ⟨h2, h4, rfl, hnx.opens.1⟩]
    exact runR_rows P (x.1 + 1) (x.2 + 1) h2 h4 hr
end

def diag : Nat → Nat → List (Nat × Nat)
  | _, 0 => []
  | i, d + 1 => (i, i) :: diag (i + 1) d
theorem diag_pairs {like : Nat → Nat → Bool} {n : Nat} (h : ∀ t, t < n → like t t = true) : ∀ (d i : Nat), i + d = n → IsPairs like n n i i (diag i d) ∧ longP like n n i i = d
  | 0, i, hi => by
    have := longP_row like n n (show n ≤ i by omega) i
    exact ⟨this, this⟩
  | d + 1, i, hi => by
    obtain ⟨a1, a2⟩ := diag_pairs h d (i + 1) (by omega)
    have a3 := longP_hit (n := n) (m := n) (show i < n by omega) (show i < n by omega) (h i (by omega))
    exact ⟨⟨by omega, ⟨Nat.le_refl _, by show i < n; omega, Nat.le_refl _, by show i < n; omega, ⟨h i (by omega), by show 1 + longP like n n (i + 1) (i + 1) = _; omega⟩, fun p' q' b1 b2 => by simp only at b2; omega, fun q' b1 b2 => by simp only at b2; omega⟩, a1⟩, by omega⟩
theorem diag_rows (k : List Nat) : ∀ (d i : Nat), i + d = k.length → (rowsP k k (diag i d) i i).length = d
  | 0, i, hi => by
    rw [diag, rowsP, List.length_append, goA_length, goB_length]
    omega
  | d + 1, i, hi => by
    rw [diag, rowsP]
    show (goA k i (i - i) ++ (goB k i (i - i) ++ _ :: rowsP k k (diag (i + 1) d) (i + 1) (i + 1))).length = _
    rw [List.length_append, List.length_append, List.length_cons, goA_length, goB_length, diag_rows k d (i + 1) (by omega)]
    omega
/-- Of two that are the same all stays. -/
theorem rows_same (l : List Tok) (P : List (Nat × Nat)) (h : IsPairs (likeB l l) (tops l).length (tops l).length 0 0 P) : (rowsP (tops l) (tops l) P 0 0).length = (tops l).length := by
  obtain ⟨a1, _⟩ := diag_pairs (like := likeB l l) (n := (tops l).length) (fun t ht => by
    have hx : (tops l)[t]? = some ((tops l)[t]) := List.getElem?_eq_getElem ht
    unfold likeB
    rw [hx]
    exact (eqL_iff _ _).2 rfl) (tops l).length 0 (by omega)
  rw [h.same a1]
  exact diag_rows (tops l) _ 0 (by omega)

theorem rowV_at : ∀ (l : List (Int × Int × Int)) (k : Nat) (x : Int × Int × Int), l[k]? = some x → (rowV l)[3 * k]? = some (.int .i64 x.1) ∧ (rowV l)[3 * k + 1]? = some (.int .i64 x.2.1) ∧ (rowV l)[3 * k + 2]? = some (.int .i64 x.2.2)
  | [], k, x, h => by simp at h
  | y :: l, 0, x, h => by
    obtain rfl : y = x := by simpa using h
    exact ⟨rfl, rfl, rfl⟩
  | y :: l, k + 1, x, h => by
    have := rowV_at l k x (by simpa using h)
    have e : rowV (y :: l) = .int .i64 y.1 :: .int .i64 y.2.1 :: .int .i64 y.2.2 :: rowV l := rfl
    rw [e, show 3 * (k + 1) = 3 * k + 1 + 1 + 1 by omega]
    exact this
theorem tops_len {l : List Tok} : (tops l).length ≤ l.length := topsL_length l l.length 0
end Go.Proofs.Ytgpopploimeeaaa

/- LAlike: the law's own alike at every two slices of tokens: what it returns; nothing that lay before is turned. -/
namespace Go.Proofs.Ytgpopploimeeaaa
open Go.RowKit

set_option maxRecDepth 100000 in
set_option maxHeartbeats 2000000 in
theorem alike_calls (a1 a2 : Option Addr) (n1 n2 c1 c2 : Nat) (l1 l2 : List Tok) (w : World) (h1 : Toks w a1 n1 l1) (h2 : Toks w a2 n2 l2) (hsz : n1 ≤ 35184372088832) (hsz2 : n2 ≤ 35184372088832) :
    Calls Try.prog 16 #[.slice a1 n1 c1, .slice a2 n2 c2] w fun e w' => e = .returned (.bool (eqL l1 l2)) ∧ Below w.heap.size w w' := by
  by_cases hn : n1 = n2
  · subst hn
    generalize hD : eqL l1 l2 = D at *
    go_enter Try.func16, Try.ntmps16
    go_wp2
    go_loopw [5] (fun i w' => ∃ k : Nat, k ≤ n1 ∧ i = .int .i64 (k : Int) ∧ l1.take k = l2.take k ∧ Below w.heap.size w w') (fun i _ => n1 - (intOf i).toNat)
    case atStart => exact ⟨0, Nat.zero_le _, rfl, rfl, Below.refl _ _⟩
    case round =>
      obtain ⟨k, hk, rfl, ht, hB⟩ := hrel
      have HT : Hid (l1.take k = l2.take k) := ht
      clear ht
      by_cases hlt : k < n1
      · obtain ⟨b, o, x, rfl, hbl, hx, hc⟩ := h1.token hlt
        obtain ⟨b', o', y, rfl, hbl', hy, hc'⟩ := h2.token hlt
        obtain ⟨p0, p1, p2, p3⟩ := hc wr hB
        obtain ⟨q0, q1, q2, q3⟩ := hc' wr hB
        clear hc hc'
        have hg := fun (x y : Operand) (xs ys : Array Value) (W : World) => tok_eqGuard .neq x y xs ys W
        have hq := fun W => tok_neq x y W
        have hdd : (tokEq x y = true ∧ l1.take (k + 1) = l2.take (k + 1)) ∨ (tokEq x y = false ∧ D = false) := by
          by_cases h : x = y
          · subst h
            exact .inl ⟨(tokEq_iff _ _).2 rfl, take_succ_same HT.out hx hy⟩
          · refine .inr ⟨tokEq_false h, ?_⟩
            rw [← hD]
            apply eqL_false
            intro e
            rw [e, hy] at hx
            exact h (Option.some.inj hx).symm
        generalize tokEq x y = d at *
        simp only [tokV] at hq
        obtain ⟨xk, xt, xn, xm⟩ := x
        obtain ⟨yk, yt, yn, ym⟩ := y
        simp only at *
        rcases hdd with ⟨rfl, hts⟩ | ⟨rfl, hd2⟩
        · have HS : Hid (l1.take (k + 1) = l2.take (k + 1)) := hts
          clear hts hx hy hD h1 h2
          go_wp2_with fail
          go_quiet (fail)
          go_wp2
          go_roundw
          case rel => exact ⟨k + 1, by omega, rfl, HS.out, below_drewN hB _⟩
          case measure => simp [intOf]; omega
        · have HD : Hid (D = false) := hd2
          clear hd2 hx hy hD h1 h2
          go_wp2_with fail
          go_quiet (fail)
          go_wp2
          go_ret
          exact ⟨by rw [HD.out]; rfl, below_drewN hB _⟩
      · obtain rfl : k = n1 := by omega
        have HD : Hid (D = true) := by
          show D = true
          have := HT.out
          rw [List.take_of_length_le (Nat.le_of_eq h1.1), List.take_of_length_le (Nat.le_of_eq h2.1)] at this
          rw [← hD, this]
          exact (eqL_iff _ _).2 rfl
        clear hD h1 h2
        go_wp2
        go_ret
        exact ⟨by rw [HD.out]; rfl, hB⟩
  · have HD : eqL l1 l2 = false := by
      apply eqL_false
      intro e
      exact hn (by rw [← h1.1, ← h2.1, e])
    rw [HD]
    go_enter Try.func16, Try.ntmps16
    go_wp2
    go_ret
    exact ⟨rfl, Below.refl _ _⟩
end Go.Proofs.Ytgpopploimeeaaa

/- DTwin: the law's own comparison of two steps that are the same; the document's Rows where one is no document; rows in memory. -/
namespace Go.Proofs.Ytgpopploimeeaaa
open Go.RowKit

set_option maxRecDepth 100000 in
set_option maxHeartbeats 2000000 in
theorem twin_calls (f t : Int) (a1 a2 : Option Addr) (len c1 c2 : Nat) (l : List Tok) (w : World) (h1 : Toks w a1 len l) (h2 : Toks w a2 len l) (hsz : len ≤ 2048) :
    Calls Try.prog 23 #[.agg (stepC f t a1 len c1), .agg (stepC f t a2 len c2)] w fun e w' => e = .returned (.bool true) ∧ Below w.heap.size w w' := by
  have hB : Below w.heap.size w ((w.alloc (.cells (stepC f t a1 len c1) 54)).alloc (.cells (stepC f t a2 len c2) 54)) := ((Below.refl _ w).alloc (Nat.le_refl _) _).alloc (by rw [World.size_alloc]; omega) _
  have HAL := hide_ (alike_calls a1 a2 len len c1 c2 l l _ (h1.below hB) (h2.below hB) (by omega) (by omega))
  rw [(eqL_iff l l).2 rfl] at HAL
  have HB := hide_ hB
  clear h1 h2 hB
  simp only [stepC] at HAL HB ⊢
  go_enter Try.func23, Try.ntmps23
  go_wp2_with fail
  refine HAL.out.mono ?_
  rintro e W1 ⟨rfl, b1⟩
  have B1 := hide_ (HB.out.trans (b1.mono HB.out.size))
  clear b1 HAL HB
  go_wp2
  go_ret
  exact ⟨rfl, B1.out⟩

set_option maxRecDepth 100000 in
theorem rrows_no (a1 a2 : Option Addr) (n m c1 c2 : Nat) (l1 l2 : List Tok) (w : World) (h1 : Toks w a1 n l1) (h2 : Toks w a2 m l2) (hn : n ≤ 200) (hm : m ≤ 200) (hb : bothP l1 l2 ≠ 0) :
    Calls Try.prog 20 #[.slice a1 n c1, .slice a2 m c2] w fun e w' => e = .returned (.tuple #[.slice none 0 0, .int .i64 (bothP l1 l2)]) ∧ Below w.heap.size w w' := by
  have HC := both_calls a1 a2 n m c1 c2 l1 l2 w h1 h2 (by omega) (by omega)
  generalize bothP l1 l2 = y at *
  have hyb : (y == 0) = false := by simpa using hb
  clear h1 h2
  go_enter Try.func20, Try.ntmps20
  go_wp2_with fail
  refine HC.mono ?_
  rintro e W1 ⟨rfl, b1⟩
  have B1 := hide_ b1
  clear b1 HC
  go_wp2
  go_ret2
  exact ⟨rfl, B1.out⟩

/-- A slice's elements are the rows R. -/
def RowsIn (W : World) (a : Option Addr) (R : List (Int × Int × Int)) : Prop :=
  ∀ k r, R[k]? = some r → ∃ b, a = some ⟨b, 0, none⟩ ∧ b < W.heap.size ∧ ∀ X : World, Below W.heap.size W X → X.cell? ⟨b, k * 3, none⟩ = some (.int .i64 r.1) ∧ X.cell? ⟨b, k * 3 + 1, none⟩ = some (.int .i64 r.2.1) ∧ X.cell? ⟨b, k * 3 + 2, none⟩ = some (.int .i64 r.2.2)
theorem RowsIn.below {W W' : World} {a : Option Addr} {R : List (Int × Int × Int)} (h : RowsIn W a R) (hB : Below W.heap.size W W') : RowsIn W' a R := fun k r hk => by
  obtain ⟨b, hb, hlt, hc⟩ := h k r hk
  exact ⟨b, hb, Nat.lt_of_lt_of_le hlt hB.size, fun X hX => hc X (hB.trans (hX.mono hB.size))⟩
theorem rowsIn_of {W : World} {base : Nat} {e : TypeId} {v : Value} {R : List (Int × Int × Int)} (h : W.ownsRow base e 3 v R.length (rowV R)) : ∃ a cap, v = .slice a R.length cap ∧ RowsIn W a R := by
  rcases Nat.eq_zero_or_pos R.length with h0 | h0
  · rw [h0] at h
    obtain ⟨a, cap, rfl⟩ := owns_none h
    exact ⟨a, cap, by rw [h0], fun k r hk => by have := (List.getElem?_eq_some_iff.1 hk).1; omega⟩
  · obtain ⟨g, cap, rfl, hg, hc⟩ := owns_cell h h0
    refine ⟨_, cap, rfl, fun k r hk => ⟨g, rfl, hg, fun X hX => ?_⟩⟩
    have hkl := (List.getElem?_eq_some_iff.1 hk).1
    obtain ⟨p0, p1, p2⟩ := rowV_at R k r hk
    have e0 := hc (3 * k) _ (by omega) p0
    have e1 := hc (3 * k + 1) _ (by omega) p1
    have e2 := hc (3 * k + 2) _ (by omega) p2
    rw [Nat.zero_add, Nat.mul_comm] at e0 e1 e2
    exact ⟨(hX.cell (p := ⟨g, _, none⟩) hg).trans e0, (hX.cell (p := ⟨g, _, none⟩) hg).trans e1, (hX.cell (p := ⟨g, _, none⟩) hg).trans e2⟩
end Go.Proofs.Ytgpopploimeeaaa

/- PPatch: the program's own Patch at every two slices of at most 200 tokens each. -/
namespace Go.Proofs.Ytgpopploimeeaaa
open Go.RowKit

set_option maxRecDepth 100000 in
set_option maxHeartbeats 2000000 in
theorem ppatch_no (a1 a2 : Option Addr) (n m c1 c2 : Nat) (l1 l2 : List Tok) (w : World) (h1 : Toks w a1 n l1) (h2 : Toks w a2 m l2) (hn : n ≤ 200) (hm : m ≤ 200) (hb : bothP l1 l2 ≠ 0) :
    Calls Try.prog 21 #[.slice a1 n c1, .slice a2 m c2] w fun e w' => e = .returned (.tuple #[.agg (stepC 0 0 none 0 0), .int .i64 (bothP l1 l2)]) ∧ Below w.heap.size w w' := by
  have hB0 : Below w.heap.size w (w.alloc (.cells (stepC 0 0 none 0 0) 54)) := (Below.refl _ w).alloc (Nat.le_refl _) _
  have hZ0 : (w.alloc (.cells (stepC 0 0 none 0 0) 54)).heap[w.heap.size]? = some (.cells (stepC 0 0 none 0 0) 54 (0, 0)) := World.alloc_heap_new w _
  have HC := pcheck_calls a1 a2 n m c1 c2 l1 l2 _ (h1.below hB0) (h2.below hB0) (by omega) (by omega)
  generalize bothP l1 l2 = y at *
  have hyb : (y == 0) = false := by simpa using hb
  have HB0 := hide_ hB0
  have HZ0 := hide_ hZ0
  clear h1 h2 hB0 hZ0
  go_enter Try.func21, Try.ntmps21
  go_wp2_with fail
  refine HC.mono ?_
  rintro e W1 ⟨rfl, b1⟩
  have HZ1 : Hid (W1.heap[w.heap.size]? = some (.cells (stepC 0 0 none 0 0) 54 (0, 0))) := (b1.block _ (Array.getElem?_eq_some_iff.1 HZ0.out).1).trans HZ0.out
  have B1 := hide_ (HB0.out.trans (b1.mono HB0.out.size))
  clear b1 HC HB0 HZ0
  go_wp2_with (refine wpList_store_row rfl 54 _ _ rfl w.heap.size (stepC 0 0 none 0 0) rfl rfl 54 _ HZ1.out sizeStep rfl (ones8 _ _ _ _ _) ?_)
  refine bodyPost_ret (results_row_tmp rfl _ _ w.heap.size 54 (stepC 0 0 none 0 0) (0, 0) _ rfl (setRow_heap _ _ _ _ _ _ HZ1.out) Try.underlying54 rfl sizeStep) rfl ?_
  exact ⟨rfl, below_setRow B1.out (Nat.le_refl _) _⟩

set_option maxRecDepth 100000 in
set_option maxHeartbeats 4000000 in
theorem ppatch_calls (a1 a2 : Option Addr) (n m c1 c2 : Nat) (l1 l2 : List Tok) (w : World) (h1 : Toks w a1 n l1) (h2 : Toks w a2 m l2) (hn : n ≤ 200) (hm : m ≤ 200) (hc2 : m ≤ c2) (z2 : a2 = none → c2 = 0) (hb : bothP l1 l2 = 0) :
    Calls Try.prog 21 #[.slice a1 n c1, .slice a2 m c2] w fun e w' => ∃ a' cap', e = .returned (.tuple #[.agg (stepC (headP l1 l2 : Int) ((n - tailP l1 l2 : Nat) : Int) a' (m - tailP l1 l2 - headP l1 l2) cap'), .int .i64 0]) ∧
      Toks w' a' (m - tailP l1 l2 - headP l1 l2) ((l2.drop (headP l1 l2)).take (m - tailP l1 l2 - headP l1 l2)) ∧ Below w.heap.size w w' := by
  have hB0 : Below w.heap.size w (w.alloc (.cells (stepC 0 0 none 0 0) 54)) := (Below.refl _ w).alloc (Nat.le_refl _) _
  have hZ0 : (w.alloc (.cells (stepC 0 0 none 0 0) 54)).heap[w.heap.size]? = some (.cells (stepC 0 0 none 0 0) 54 (0, 0)) := World.alloc_heap_new w _
  have HC := pcheck_calls a1 a2 n m c1 c2 l1 l2 _ (h1.below hB0) (h2.below hB0) (by omega) (by omega)
  rw [hb] at HC
  have hin := ends_in (l1 := l1) (l2 := l2)
  rw [h1.1, h2.1] at hin
  have H1 := hide_ h1
  have H2 := hide_ h2
  have HE := hide_ (fun (W : World) (hW : Below w.heap.size w W) => pends_calls a1 a2 n m c1 c2 l1 l2 W (H1.out.below hW) (H2.out.below hW) (by omega) (by omega))
  obtain ⟨H, hH⟩ : ∃ H, headP l1 l2 = H := ⟨_, rfl⟩
  obtain ⟨T, hT⟩ : ∃ T, tailP l1 l2 = T := ⟨_, rfl⟩
  rw [hH, hT] at hin HE ⊢
  obtain ⟨T1, hT1⟩ : ∃ x, n - T = x := ⟨_, rfl⟩
  obtain ⟨T2, hT2⟩ : ∃ x, m - T = x := ⟨_, rfl⟩
  rw [hT1, hT2]
  have s1 : (n : Int) - (T : Int) = (T1 : Int) := by omega
  have s2 : (m : Int) - (T : Int) = (T2 : Int) := by omega
  have s3 : IntKind.i64.wrap ((n : Int) - (T : Int)) = (T1 : Int) := by rw [IntKind.wrap_i64]; omega
  have s4 : IntKind.i64.wrap ((m : Int) - (T : Int)) = (T2 : Int) := by rw [IntKind.wrap_i64]; omega
  have hs1 : H ≤ T2 := by omega
  have hs2 : T2 ≤ c2 := by omega
  have HB0 := hide_ hB0
  have HZ0 := hide_ hZ0
  clear h1 h2 hB0 hZ0 hH hT hb
  go_enter Try.func21, Try.ntmps21
  go_wp2_with fail
  refine HC.mono ?_
  rintro e W1 ⟨rfl, b1⟩
  have HZ1 : Hid (W1.heap[w.heap.size]? = some (.cells (stepC 0 0 none 0 0) 54 (0, 0))) := (b1.block _ (Array.getElem?_eq_some_iff.1 HZ0.out).1).trans HZ0.out
  have B1 := hide_ (HB0.out.trans (b1.mono HB0.out.size))
  clear b1 HC HB0 HZ0
  go_wp2_with fail
  refine (HE.out W1 B1.out).mono ?_
  rintro e W2 ⟨rfl, b2⟩
  have HZ2 : Hid (W2.heap[w.heap.size]? = some (.cells (stepC 0 0 none 0 0) 54 (0, 0))) := (b2.block _ (Array.getElem?_eq_some_iff.1 HZ1.out).1).trans HZ1.out
  have B2 := hide_ (B1.out.trans (b2.mono B1.out.size))
  clear b2 HE HZ1 B1
  have HCL := hide_ (fun (W : World) (hW : Below w.heap.size w W) => fclone2_calls (partA a2 c2 H) (T2 - H) (c2 - H) ((l2.drop H).take (T2 - H)) W ((H2.out.below hW).partA hc2 H (T2 - H) (by omega)) (by omega) (partA_none z2) (by omega))
  go_wp2_with (guard_target =~ wpList _ _ _ (Oper.mk _ (Op.slice _ _ _ _ _) _ _ _ _ :: _) _ _; refine wpList_run_slice rfl (.tmp 23) (some (.tmp 24)) (some (.tmp 28)) 22 rfl _ _ rfl (slice_lh a2 m c2 H T2 hs1 hs2 _) ?_)
  refine (HCL.out W2 B2.out).mono ?_
  rintro e W4 ⟨a', cap', rfl, ht, _, hfr, b4⟩
  have HZ4 : Hid (W4.heap[w.heap.size]? = some (.cells (stepC 0 0 none 0 0) 54 (0, 0))) := (b4.block _ (Array.getElem?_eq_some_iff.1 HZ2.out).1).trans HZ2.out
  have HT4 := hide_ ht
  have B4 := hide_ (B2.out.trans (b4.mono B2.out.size))
  have hz2 := (Array.getElem?_eq_some_iff.1 HZ2.out).1
  clear ht b4 HCL HZ2 B2
  go_wp2_with (refine wpList_store_row rfl 54 _ _ rfl w.heap.size (stepC (H : Int) (T1 : Int) a' (T2 - H) cap') rfl rfl 54 _ HZ4.out sizeStep rfl (ones8 _ _ _ _ _) ?_)
  refine bodyPost_ret (results_row_tmp rfl _ _ w.heap.size 54 (stepC (H : Int) (T1 : Int) a' (T2 - H) cap') (0, 0) _ rfl (setRow_heap _ _ _ _ _ _ HZ4.out) Try.underlying54 rfl sizeStep) rfl ?_
  refine ⟨a', cap', rfl, ?_, below_setRow B4.out (Nat.le_refl _) _⟩
  exact toks_setRow HT4.out (fun b o e _ => by have := hfr b o e; omega)
end Go.Proofs.Ytgpopploimeeaaa

/- RPatch: the document's own Patch at every two slices of at most 200 tokens each. -/
namespace Go.Proofs.Ytgpopploimeeaaa
open Go.RowKit

set_option maxRecDepth 100000 in
set_option maxHeartbeats 2000000 in
theorem rpatch_no (a1 a2 : Option Addr) (n m c1 c2 : Nat) (l1 l2 : List Tok) (w : World) (h1 : Toks w a1 n l1) (h2 : Toks w a2 m l2) (hn : n ≤ 200) (hm : m ≤ 200) (hb : bothP l1 l2 ≠ 0) :
    Calls Try.prog 22 #[.slice a1 n c1, .slice a2 m c2] w fun e w' => e = .returned (.tuple #[.agg (stepC 0 0 none 0 0), .int .i64 (bothP l1 l2)]) ∧ Below w.heap.size w w' := by
  have hB0 : Below w.heap.size w (w.alloc (.cells (stepC 0 0 none 0 0) 54)) := (Below.refl _ w).alloc (Nat.le_refl _) _
  have hZ0 : (w.alloc (.cells (stepC 0 0 none 0 0) 54)).heap[w.heap.size]? = some (.cells (stepC 0 0 none 0 0) 54 (0, 0)) := World.alloc_heap_new w _
  have HC := both_calls a1 a2 n m c1 c2 l1 l2 _ (h1.below hB0) (h2.below hB0) (by omega) (by omega)
  generalize bothP l1 l2 = y at *
  have hyb : (y == 0) = false := by simpa using hb
  have HB0 := hide_ hB0
  have HZ0 := hide_ hZ0
  clear h1 h2 hB0 hZ0
  go_enter Try.func22, Try.ntmps22
  go_wp2_with fail
  refine HC.mono ?_
  rintro e W1 ⟨rfl, b1⟩
  have HZ1 : Hid (W1.heap[w.heap.size]? = some (.cells (stepC 0 0 none 0 0) 54 (0, 0))) := (b1.block _ (Array.getElem?_eq_some_iff.1 HZ0.out).1).trans HZ0.out
  have B1 := hide_ (HB0.out.trans (b1.mono HB0.out.size))
  clear b1 HC HB0 HZ0
  go_wp2_with (refine wpList_store_row rfl 54 _ _ rfl w.heap.size (stepC 0 0 none 0 0) rfl rfl 54 _ HZ1.out sizeStep rfl (ones8 _ _ _ _ _) ?_)
  refine bodyPost_ret (results_row_tmp rfl _ _ w.heap.size 54 (stepC 0 0 none 0 0) (0, 0) _ rfl (setRow_heap _ _ _ _ _ _ HZ1.out) Try.underlying54 rfl sizeStep) rfl ?_
  exact ⟨rfl, below_setRow B1.out (Nat.le_refl _) _⟩

set_option maxRecDepth 100000 in
set_option maxHeartbeats 4000000 in
theorem rpatch_calls (a1 a2 : Option Addr) (n m c1 c2 : Nat) (l1 l2 : List Tok) (w : World) (h1 : Toks w a1 n l1) (h2 : Toks w a2 m l2) (hn : n ≤ 200) (hm : m ≤ 200) (hc2 : m ≤ c2) (_z2 : a2 = none → c2 = 0) (hb : bothP l1 l2 = 0) :
    Calls Try.prog 22 #[.slice a1 n c1, .slice a2 m c2] w fun e w' => ∃ a' cap', e = .returned (.tuple #[.agg (stepC (headP l1 l2 : Int) ((n - tailP l1 l2 : Nat) : Int) a' (m - tailP l1 l2 - headP l1 l2) cap'), .int .i64 0]) ∧
      Toks w' a' (m - tailP l1 l2 - headP l1 l2) ((l2.drop (headP l1 l2)).take (m - tailP l1 l2 - headP l1 l2)) ∧ Below w.heap.size w w' := by
  have hB0 : Below w.heap.size w (w.alloc (.cells (stepC 0 0 none 0 0) 54)) := (Below.refl _ w).alloc (Nat.le_refl _) _
  have hZ0 : (w.alloc (.cells (stepC 0 0 none 0 0) 54)).heap[w.heap.size]? = some (.cells (stepC 0 0 none 0 0) 54 (0, 0)) := World.alloc_heap_new w _
  have HC := both_calls a1 a2 n m c1 c2 l1 l2 _ (h1.below hB0) (h2.below hB0) (by omega) (by omega)
  rw [hb] at HC
  have hin := ends_in (l1 := l1) (l2 := l2)
  rw [h1.1, h2.1] at hin
  have H1 := hide_ h1
  have H2 := hide_ h2
  have HE := hide_ (fun (W : World) (hW : Below w.heap.size w W) => ends_calls a1 a2 n m c1 c2 l1 l2 W (H1.out.below hW) (H2.out.below hW) (by omega) (by omega))
  obtain ⟨H, hH⟩ : ∃ H, headP l1 l2 = H := ⟨_, rfl⟩
  obtain ⟨T, hT⟩ : ∃ T, tailP l1 l2 = T := ⟨_, rfl⟩
  rw [hH, hT] at hin HE ⊢
  obtain ⟨T1, hT1⟩ : ∃ x, n - T = x := ⟨_, rfl⟩
  obtain ⟨T2, hT2⟩ : ∃ x, m - T = x := ⟨_, rfl⟩
  rw [hT1, hT2]
  have s1 : (n : Int) - (T : Int) = (T1 : Int) := by omega
  have s2 : (m : Int) - (T : Int) = (T2 : Int) := by omega
  have s3 : IntKind.i64.wrap ((n : Int) - (T : Int)) = (T1 : Int) := by rw [IntKind.wrap_i64]; omega
  have s4 : IntKind.i64.wrap ((m : Int) - (T : Int)) = (T2 : Int) := by rw [IntKind.wrap_i64]; omega
  have hs1 : H ≤ T2 := by omega
  have hs2 : T2 ≤ c2 := by omega
  have HB0 := hide_ hB0
  have HZ0 := hide_ hZ0
  clear h1 h2 hB0 hZ0 hH hT hb
  go_enter Try.func22, Try.ntmps22
  go_wp2_with fail
  refine HC.mono ?_
  rintro e W1 ⟨rfl, b1⟩
  have HZ1 : Hid (W1.heap[w.heap.size]? = some (.cells (stepC 0 0 none 0 0) 54 (0, 0))) := (b1.block _ (Array.getElem?_eq_some_iff.1 HZ0.out).1).trans HZ0.out
  have B1 := hide_ (HB0.out.trans (b1.mono HB0.out.size))
  clear b1 HC HB0 HZ0
  go_wp2_with fail
  refine (HE.out W1 B1.out).mono ?_
  rintro e W2 ⟨rfl, b2⟩
  have HZ2 : Hid (W2.heap[w.heap.size]? = some (.cells (stepC 0 0 none 0 0) 54 (0, 0))) := (b2.block _ (Array.getElem?_eq_some_iff.1 HZ1.out).1).trans HZ1.out
  have B2 := hide_ (B1.out.trans (b2.mono B1.out.size))
  clear b2 HE HZ1 B1
  obtain ⟨v4, W4, hrun, o4, nz4, b4⟩ := tok_clone_own (partA a2 c2 H) (T2 - H) (c2 - H) ((l2.drop H).take (T2 - H)) W2 ((H2.out.below B2.out).partA hc2 H (T2 - H) (by omega)) (by omega)
  obtain ⟨g4, cap', rfl, hg4, _, _, ht⟩ := toks_of_owns o4 nz4
  have HRUN := hide_ hrun
  have HZ4 : Hid (W4.heap[w.heap.size]? = some (.cells (stepC 0 0 none 0 0) 54 (0, 0))) := (b4.block _ (Array.getElem?_eq_some_iff.1 HZ2.out).1).trans HZ2.out
  have HT4 := hide_ ht
  have B4 := hide_ (B2.out.trans (b4.mono B2.out.size))
  have hz2 := (Array.getElem?_eq_some_iff.1 HZ2.out).1
  clear ht b4 HZ2 B2 hrun o4 nz4
  go_wp2_with (first
    | (at_builtin; refine wpList_run_append rfl (.tmp 27) (.tmp 34) 22 rfl _ _ _ _ rfl rfl HRUN.out ?_)
    | (guard_target =~ wpList _ _ _ (Oper.mk _ (Op.slice _ _ _ _ _) _ _ _ _ :: _) _ _; refine wpList_run_slice rfl (.tmp 28) (some (.tmp 29)) (some (.tmp 33)) 22 rfl _ _ rfl (slice_lh a2 m c2 H T2 hs1 hs2 _) ?_)
    | (guard_target =~ wpList _ _ _ (Oper.mk _ (Op.store _ _ _) _ _ _ _ :: _) _ _; refine wpList_store_row rfl 54 _ _ rfl w.heap.size (stepC (H : Int) (T1 : Int) (some ⟨g4, 0, none⟩) (T2 - H) cap') rfl rfl 54 _ HZ4.out sizeStep rfl (ones8 _ _ _ _ _) ?_))
  refine bodyPost_ret (results_row_tmp rfl _ _ w.heap.size 54 (stepC (H : Int) (T1 : Int) (some ⟨g4, 0, none⟩) (T2 - H) cap') (0, 0) _ rfl (setRow_heap _ _ _ _ _ _ HZ4.out) Try.underlying54 rfl sizeStep) rfl ?_
  refine ⟨_, cap', rfl, ?_, below_setRow B4.out (Nat.le_refl _) _⟩
  exact toks_setRow HT4.out (fun b o e _ => by cases e; omega)
end Go.Proofs.Ytgpopploimeeaaa
