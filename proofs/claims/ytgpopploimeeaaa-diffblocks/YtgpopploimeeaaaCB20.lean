/-
  PROVED HERE: what the texts PRowsC, PRun say (each has its own words below).
-/
import Derived.Test.YtgpopploimeeaaaCB16
import Derived.Test.YtgpopploimeeaaaCBPPairsB
import Derived.Test.YtgpopploimeeaaaCB5
import Derived.Test.YtgpopploimeeaaaCB12
import Derived.Test.YtgpopploimeeaaaCBREdits
import Derived.Test.YtgpopploimeeaaaCBPLong
/- PRowsC: the program's own Rows, of at most 200 tokens each. -/
namespace Go.Proofs.Ytgpopploimeeaaa
open Go.RowKit

/-- What keeps the one, or else the other, from being a document. -/
def bothP (l1 l2 : List Tok) : Int := if (check l1).2 = 0 then (check l2).2 else (check l1).2
theorem bothP_ok {l1 l2 : List Tok} (h : bothP l1 l2 = 0) : goes l1 0 = some 0 ∧ goes l2 0 = some 0 ∧ l1.length ≤ 2048 ∧ l2.length ≤ 2048 := by
  unfold bothP at h
  by_cases h1 : (check l1).2 = 0
  · rw [if_pos h1] at h
    obtain ⟨a1, a2⟩ := (check_ok l1).1 h1
    obtain ⟨b1, b2⟩ := (check_ok l2).1 h
    exact ⟨a2, b2, a1, b1⟩
  · rw [if_neg h1] at h
    exact absurd h h1

set_option maxRecDepth 100000 in
theorem pcheck_calls (a1 a2 : Option Addr) (n m c1 c2 : Nat) (l1 l2 : List Tok) (w : World) (h1 : Toks w a1 n l1) (h2 : Toks w a2 m l2) (hn : n ≤ 4398046511104) (hm : m ≤ 4398046511104) :
    Calls Try.prog 27 #[.slice a1 n c1, .slice a2 m c2] w fun e w' => e = .returned (.int .i64 (bothP l1 l2)) ∧ Below w.heap.size w w' := by
  have HC1 := fcheck_calls a1 n c1 l1 w h1 hn
  have H2 := hide_ h2
  clear h1 h2
  unfold bothP
  obtain ⟨x1, hx1⟩ : ∃ x, (check l1).1 = x := ⟨_, rfl⟩
  obtain ⟨y1, hy1⟩ : ∃ x, (check l1).2 = x := ⟨_, rfl⟩
  obtain ⟨y2, hy2⟩ : ∃ x, (check l2).2 = x := ⟨_, rfl⟩
  rw [hx1, hy1] at HC1
  rw [hy1, hy2]
  clear hx1 hy1
  by_cases h0 : y1 = 0
  · subst h0
    rw [if_pos rfl]
    go_enter Try.func27, Try.ntmps27
    go_wp2_with fail
    refine HC1.mono ?_
    rintro e W1 ⟨rfl, b1⟩
    have HC2 := fcheck_calls a2 m c2 l2 W1 (H2.out.below b1) hm
    rw [hy2] at HC2
    have B1 := hide_ b1
    clear b1 HC1 hy2
    go_wp2_with fail
    refine HC2.mono ?_
    rintro e W2 ⟨rfl, b2⟩
    have B2 := hide_ (B1.out.trans (b2.mono B1.out.size))
    clear b2 B1 HC2
    go_wp2
    go_ret
    exact ⟨rfl, B2.out⟩
  · rw [if_neg h0]
    have h0b : (y1 == 0) = false := by simpa using h0
    clear hy2
    go_enter Try.func27, Try.ntmps27
    go_wp2_with fail
    refine HC1.mono ?_
    rintro e W1 ⟨rfl, b1⟩
    have B1 := hide_ b1
    clear b1 HC1
    go_wp2
    go_ret
    exact ⟨rfl, B1.out⟩

set_option maxRecDepth 100000 in
theorem prows_no (a1 a2 : Option Addr) (n m c1 c2 : Nat) (l1 l2 : List Tok) (w : World) (h1 : Toks w a1 n l1) (h2 : Toks w a2 m l2) (hn : n ≤ 200) (hm : m ≤ 200) (hb : bothP l1 l2 ≠ 0) :
    Calls Try.prog 17 #[.slice a1 n c1, .slice a2 m c2] w fun e w' => e = .returned (.tuple #[.slice none 0 0, .int .i64 (bothP l1 l2)]) ∧ Below w.heap.size w w' := by
  have HC := pcheck_calls a1 a2 n m c1 c2 l1 l2 w h1 h2 (by omega) (by omega)
  generalize bothP l1 l2 = y at *
  have hyb : (y == 0) = false := by simpa using hb
  clear h1 h2
  go_enter Try.func17, Try.ntmps17
  go_wp2_with fail
  refine HC.mono ?_
  rintro e W1 ⟨rfl, b1⟩
  have B1 := hide_ b1
  clear b1 HC
  go_wp2
  go_ret2
  exact ⟨rfl, B1.out⟩

set_option maxRecDepth 100000 in
set_option maxHeartbeats 2000000 in
theorem prows_calls (a1 a2 : Option Addr) (n m c1 c2 : Nat) (l1 l2 : List Tok) (w : World) (h1 : Toks w a1 n l1) (h2 : Toks w a2 m l2) (hn : n ≤ 200) (hm : m ≤ 200) (hc1 : n ≤ c1) (hc2 : m ≤ c2) (hb : bothP l1 l2 = 0) :
    Calls Try.prog 17 #[.slice a1 n c1, .slice a2 m c2] w fun e w' => ∃ P v, e = .returned (.tuple #[v, .int .i64 0]) ∧ IsPairs (likeB l1 l2) (tops l1).length (tops l2).length 0 0 P ∧
      w'.ownsRow w.heap.size 48 3 v (rowsP (tops l1) (tops l2) P 0 0).length (rowV (rowsP (tops l1) (tops l2) P 0 0)) ∧ Below w.heap.size w w' := by
  have HC := pcheck_calls a1 a2 n m c1 c2 l1 l2 w h1 h2 (by omega) (by omega)
  rw [hb] at HC
  obtain ⟨g1, g2, _, _⟩ := bothP_ok hb
  have D1 : Hid (Doc w a1 n c1 l1) := ⟨h1, g1, by omega, hc1⟩
  have D2 : Hid (Doc w a2 m c2 l2) := ⟨h2, g2, by omega, hc2⟩
  have t1 : (tops l1).length ≤ 200 := by have := topsL_length l1 l1.length 0; have := h1.1; unfold tops; omega
  have t2 : (tops l2).length ≤ 200 := by have := topsL_length l2 l2.length 0; have := h2.1; unfold tops; omega
  have i1 : ¬ ((200 : Int) < ((tops l1).length : Int)) := by omega
  have i2 : ¬ ((200 : Int) < ((tops l2).length : Int)) := by omega
  clear h1 h2 g1 g2 hb
  go_enter Try.func17, Try.ntmps17
  go_wp2_with fail
  refine HC.mono ?_
  rintro e W1 ⟨rfl, b1⟩
  have B1 := hide_ b1
  clear b1 HC
  go_wp2_with fail
  refine (blocks_calls a1 n c1 l1 W1 (D1.out.below B1.out).1 D1.out.2.1 (by omega) hc1).mono ?_
  rintro e W2 ⟨v1, rfl, o1, b2⟩
  obtain ⟨d1, e1, rfl, B1s⟩ := Blks_of_owns o1
  have B2 := hide_ (B1.out.trans (b2.mono B1.out.size))
  have X1 := hide_ B1s
  clear b2 B1 o1 B1s
  go_wp2_with fail
  refine (blocks_calls a2 m c2 l2 W2 (D2.out.below B2.out).1 D2.out.2.1 (by omega) hc2).mono ?_
  rintro e W3 ⟨v2, rfl, o2, b3⟩
  obtain ⟨d2, e2, rfl, B2s⟩ := Blks_of_owns o2
  have B3 := hide_ (B2.out.trans (b3.mono B2.out.size))
  have X13 := hide_ (X1.out.below b3)
  have X2 := hide_ B2s
  clear b3 B2 o2 B2s X1
  go_wp2_with fail
  refine (longestB_calls d1 d2 _ _ e1 e2 a1 a2 n m c1 c2 l1 l2 (by omega) (by omega) W3 X13.out X2.out (D1.out.below B3.out) (D2.out.below B3.out)).mono ?_
  rintro e W4 ⟨P, v3, rfl, hI, hPl, o3, b4⟩
  obtain ⟨ap, cp, rfl, hP⟩ := Prs_of_owns o3
  have B4 := hide_ (B3.out.trans (b4.mono B3.out.size))
  have X14 := hide_ (X13.out.below b4)
  have X24 := hide_ (X2.out.below b4)
  have IP := hide_ hI
  have PP := hide_ hP
  clear b4 B3 o3 hP X13 X2 hI
  go_wp2_with fail
  refine (rows_calls _ _ e1 e2 P.length cp c1 c2 d1 d2 a1 a2 ap l1 l2 P W4 X14.out X24.out PP.out IP.out (by omega) (by omega) (by omega)).mono ?_
  rintro e W5 ⟨v4, rfl, o4, b5⟩
  have B5 := hide_ (B4.out.trans (b5.mono B4.out.size))
  have O4 := hide_ (owns_base o4 B4.out.size)
  clear b5 B4 o4 PP X14 X24
  go_wp2
  go_ret2
  exact ⟨P, v4, rfl, IP.out, O4.out, B5.out⟩
end Go.Proofs.Ytgpopploimeeaaa

/- PRun:  -/
namespace Go.Proofs.Ytgpopploimeeaaa

/-- One row, read; where the reading stands behind it. -/
def stepR (k1 k2 : List Nat) (like : Nat → Nat → Bool) (r : Int × Int × Int) (i j : Nat) : Option (Nat × Nat) :=
  if r.1 = 0 then (if i < k1.length ∧ j < k2.length ∧ r = (0, ((k1.getD i 0 : Nat) : Int), ((k2.getD j 0 : Nat) : Int)) ∧ like i j = true then some (i + 1, j + 1) else none)
  else if r.1 = 1 then (if i < k1.length ∧ r = (1, ((k1.getD i 0 : Nat) : Int), -1) then some (i + 1, j) else none)
  else (if j < k2.length ∧ r = (2, -1, ((k2.getD j 0 : Nat) : Int)) then some (i, j + 1) else none)
def runR (k1 k2 : List Nat) (like : Nat → Nat → Bool) : List (Int × Int × Int) → Nat → Nat → Option (Nat × Nat)
  | [], i, j => some (i, j)
  | r :: rs, i, j => (stepR k1 k2 like r i j).bind fun x => runR k1 k2 like rs x.1 x.2
section
variable {k1 k2 : List Nat} {like : Nat → Nat → Bool}
theorem runR_append : ∀ (rs ts : List (Int × Int × Int)) (i j : Nat), runR k1 k2 like (rs ++ ts) i j = (runR k1 k2 like rs i j).bind fun x => runR k1 k2 like ts x.1 x.2
  | [], ts, i, j => rfl
  | r :: rs, ts, i, j => by
    rw [List.cons_append, runR, runR]
    cases stepR k1 k2 like r i j with
    | none => rfl
    | some x => exact runR_append rs ts x.1 x.2
theorem runR_length : ∀ (rs : List (Int × Int × Int)) (i j : Nat) (x : Nat × Nat), runR k1 k2 like rs i j = some x → i + j + rs.length ≤ x.1 + x.2
  | [], i, j, x, h => by
    have h := Option.some.inj h
    subst h
    exact Nat.le_refl _
  | r :: rs, i, j, x, h => by
    rw [runR] at h
    obtain ⟨y, hy, hr⟩ := Option.bind_eq_some_iff.1 h
    have ih := runR_length rs y.1 y.2 x hr
    have hs : i + j + 1 ≤ y.1 + y.2 := by
      unfold stepR at hy
      by_cases r0 : r.1 = 0
      · rw [if_pos r0] at hy
        split at hy
        · have hy := Option.some.inj hy
          subst hy
          show i + j + 1 ≤ i + 1 + (j + 1)
          omega
        · cases hy
      · rw [if_neg r0] at hy
        by_cases r1 : r.1 = 1
        · rw [if_pos r1] at hy
          split at hy
          · have hy := Option.some.inj hy
            subst hy
            show i + j + 1 ≤ i + 1 + j
            omega
          · cases hy
        · rw [if_neg r1] at hy
          split at hy
          · have hy := Option.some.inj hy
            subst hy
            show i + j + 1 ≤ i + (j + 1)
            omega
          · cases hy
    rw [List.length_cons]
    omega
theorem runR_goA (i j : Nat) : ∀ d, i + d ≤ k1.length → runR k1 k2 like (goA k1 i d) i j = some (i + d, j)
  | 0, _ => rfl
  | d + 1, h => by
    rw [goA, runR_append, runR_goA i j d (by omega)]
    show (stepR k1 k2 like _ _ _).bind _ = _
    unfold stepR
    rw [if_neg (show ¬ ((1 : Int) = 0) by decide), if_pos rfl, if_pos ⟨by show i + d < k1.length; omega, rfl⟩]
    rfl
theorem runR_goB (i j : Nat) : ∀ d, j + d ≤ k2.length → runR k1 k2 like (goB k2 j d) i j = some (i, j + d)
  | 0, _ => rfl
  | d + 1, h => by
    rw [goB, runR_append, runR_goB i j d (by omega)]
    show (stepR k1 k2 like _ _ _).bind _ = _
    unfold stepR
    rw [if_neg (show ¬ ((2 : Int) = 0) by decide), if_neg (show ¬ ((2 : Int) = 1) by decide), if_pos ⟨by show j + d < k2.length; omega, rfl⟩]
    rfl
theorem runR_rows : ∀ (P : List (Nat × Nat)) (i j : Nat), i ≤ k1.length → j ≤ k2.length → IsPairs like k1.length k2.length i j P → runR k1 k2 like (rowsP k1 k2 P i j) i j = some (k1.length, k2.length)
  | [], i, j, hi, hj, _ => by
    rw [rowsP, runR_append, runR_goA i j _ (by omega)]
    show runR k1 k2 like (goB k2 j (k2.length - j)) (i + (k1.length - i)) j = _
    rw [runR_goB _ j _ (by omega)]
    rw [show i + (k1.length - i) = k1.length by omega, show j + (k2.length - j) = k2.length by omega]
  | x :: P, i, j, hi, hj, h => by
    obtain ⟨_, hnx, hr⟩ := h
    have h1 := hnx.ip
    have h2 := hnx.pn
    have h3 := hnx.jq
    have h4 := hnx.qm
    rw [rowsP, runR_append, runR_goA i j _ (by omega)]
    show runR k1 k2 like (goB k2 j (x.2 - j) ++ _) (i + (x.1 - i)) j = _
    rw [runR_append, runR_goB _ j _ (by omega)]
    rw [show i + (x.1 - i) = x.1 by omega, show j + (x.2 - j) = x.2 by omega]
    show (stepR k1 k2 like _ x.1 x.2).bind _ = _
    unfold stepR
    rw [if_pos rfl, if_pos ⟨h2, h4, rfl, hnx.opens.1⟩]
    exact runR_rows P (x.1 + 1) (x.2 + 1) h2 h4 hr
end

def diag : Nat → Nat → List (Nat × Nat)
  | _, 0 => []
  | i, d + 1 => (i, i) :: diag (i + 1) d
theorem diag_pairs {like : Nat → Nat → Bool} {n : Nat} (h : ∀ t, t < n → like t t = true) : ∀ (d i : Nat), i + d = n → IsPairs like n n i i (diag i d) ∧ longP like n n i i = d
  | 0, i, hi => by
    have := longP_row like n n (show n ≤ i by omega) i
    exact ⟨this, this⟩
  | d + 1, i, hi => by
    obtain ⟨a1, a2⟩ := diag_pairs h d (i + 1) (by omega)
    have a3 := longP_hit (n := n) (m := n) (show i < n by omega) (show i < n by omega) (h i (by omega))
    exact ⟨⟨by omega, ⟨Nat.le_refl _, by show i < n; omega, Nat.le_refl _, by show i < n; omega, ⟨h i (by omega), by show 1 + longP like n n (i + 1) (i + 1) = _; omega⟩, fun p' q' b1 b2 => by simp only at b2; omega, fun q' b1 b2 => by simp only at b2; omega⟩, a1⟩, by omega⟩
theorem diag_rows (k : List Nat) : ∀ (d i : Nat), i + d = k.length → (rowsP k k (diag i d) i i).length = d
  | 0, i, hi => by
    rw [diag, rowsP, List.length_append, goA_length, goB_length]
    omega
  | d + 1, i, hi => by
    rw [diag, rowsP]
    show (goA k i (i - i) ++ (goB k i (i - i) ++ _ :: rowsP k k (diag (i + 1) d) (i + 1) (i + 1))).length = _
    rw [List.length_append, List.length_append, List.length_cons, goA_length, goB_length, diag_rows k d (i + 1) (by omega)]
    omega
/-- Of two that are the same all stays. -/
theorem rows_same (l : List Tok) (P : List (Nat × Nat)) (h : IsPairs (likeB l l) (tops l).length (tops l).length 0 0 P) : (rowsP (tops l) (tops l) P 0 0).length = (tops l).length := by
  obtain ⟨a1, _⟩ := diag_pairs (like := likeB l l) (n := (tops l).length) (fun t ht => by
    have hx : (tops l)[t]? = some ((tops l)[t]) := List.getElem?_eq_getElem ht
    unfold likeB
    rw [hx]
    exact (eqL_iff _ _).2 rfl) (tops l).length 0 (by omega)
  rw [h.same a1]
  exact diag_rows (tops l) _ 0 (by omega)

theorem rowV_at : ∀ (l : List (Int × Int × Int)) (k : Nat) (x : Int × Int × Int), l[k]? = some x → (rowV l)[3 * k]? = some (.int .i64 x.1) ∧ (rowV l)[3 * k + 1]? = some (.int .i64 x.2.1) ∧ (rowV l)[3 * k + 2]? = some (.int .i64 x.2.2)
  | [], k, x, h => by simp at h
  | y :: l, 0, x, h => by
    obtain rfl : y = x := by simpa using h
    exact ⟨rfl, rfl, rfl⟩
  | y :: l, k + 1, x, h => by
    have := rowV_at l k x (by simpa using h)
    have e : rowV (y :: l) = .int .i64 y.1 :: .int .i64 y.2.1 :: .int .i64 y.2.2 :: rowV l := rfl
    rw [e, show 3 * (k + 1) = 3 * k + 1 + 1 + 1 by omega]
    exact this
theorem tops_len {l : List Tok} : (tops l).length ≤ l.length := topsL_length l l.length 0
end Go.Proofs.Ytgpopploimeeaaa
