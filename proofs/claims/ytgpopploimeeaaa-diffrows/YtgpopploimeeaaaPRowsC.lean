/-
  PROVED HERE: the program's own Rows, of at most 200 tokens each.
-/
import Derived.Test.YtgpopploimeeaaaPRowsW
import Derived.Test.YtgpopploimeeaaaPPairsB
import Derived.Test.YtgpopploimeeaaaFCheck
namespace Go.Proofs.Ytgpopploimeeaaa
open Go.RowKit

/-- What keeps the one, or else the other, from being a document. -/
def bothP (l1 l2 : List Tok) : Int := if (check l1).2 = 0 then (check l2).2 else (check l1).2
theorem bothP_ok {l1 l2 : List Tok} (h : bothP l1 l2 = 0) : goes l1 0 = some 0 ∧ goes l2 0 = some 0 ∧ l1.length ≤ 2048 ∧ l2.length ≤ 2048 := by
  unfold bothP at h
  by_cases h1 : (check l1).2 = 0
  · rw [if_pos h1] at h
    obtain ⟨a1, a2⟩ := (check_ok l1).1 h1
    obtain ⟨b1, b2⟩ := (check_ok l2).1 h
    exact ⟨a2, b2, a1, b1⟩
  · rw [if_neg h1] at h
    exact absurd h h1

set_option maxRecDepth 100000 in
theorem pcheck_calls (a1 a2 : Option Addr) (n m c1 c2 : Nat) (l1 l2 : List Tok) (w : World) (h1 : Toks w a1 n l1) (h2 : Toks w a2 m l2) (hn : n ≤ 4398046511104) (hm : m ≤ 4398046511104) :
    Calls Try.prog 27 #[.slice a1 n c1, .slice a2 m c2] w fun e w' => e = .returned (.int .i64 (bothP l1 l2)) ∧ Below w.heap.size w w' := by
  have HC1 := fcheck_calls a1 n c1 l1 w h1 hn
  have H2 := hide_ h2
  clear h1 h2
  unfold bothP
  obtain ⟨x1, hx1⟩ : ∃ x, (check l1).1 = x := ⟨_, rfl⟩
  obtain ⟨y1, hy1⟩ : ∃ x, (check l1).2 = x := ⟨_, rfl⟩
  obtain ⟨y2, hy2⟩ : ∃ x, (check l2).2 = x := ⟨_, rfl⟩
  rw [hx1, hy1] at HC1
  rw [hy1, hy2]
  clear hx1 hy1
  by_cases h0 : y1 = 0
  · subst h0
    rw [if_pos rfl]
    go_enter Try.func27, Try.ntmps27
    go_wp2_with fail
    refine HC1.mono ?_
    rintro e W1 ⟨rfl, b1⟩
    have HC2 := fcheck_calls a2 m c2 l2 W1 (H2.out.below b1) hm
    rw [hy2] at HC2
    have B1 := hide_ b1
    clear b1 HC1 hy2
    go_wp2_with fail
    refine HC2.mono ?_
    rintro e W2 ⟨rfl, b2⟩
    have B2 := hide_ (B1.out.trans (b2.mono B1.out.size))
    clear b2 B1 HC2
    go_wp2
    go_ret
    exact ⟨rfl, B2.out⟩
  · rw [if_neg h0]
    have h0b : (y1 == 0) = false := by simpa using h0
    clear hy2
    go_enter Try.func27, Try.ntmps27
    go_wp2_with fail
    refine HC1.mono ?_
    rintro e W1 ⟨rfl, b1⟩
    have B1 := hide_ b1
    clear b1 HC1
    go_wp2
    go_ret
    exact ⟨rfl, B1.out⟩

set_option maxRecDepth 100000 in
theorem prows_no (a1 a2 : Option Addr) (n m c1 c2 : Nat) (l1 l2 : List Tok) (w : World) (h1 : Toks w a1 n l1) (h2 : Toks w a2 m l2) (hn : n ≤ 200) (hm : m ≤ 200) (hb : bothP l1 l2 ≠ 0) :
    Calls Try.prog 17 #[.slice a1 n c1, .slice a2 m c2] w fun e w' => e = .returned (.tuple #[.slice none 0 0, .int .i64 (bothP l1 l2)]) ∧ Below w.heap.size w w' := by
  have HC := pcheck_calls a1 a2 n m c1 c2 l1 l2 w h1 h2 (by omega) (by omega)
  generalize bothP l1 l2 = y at *
  have hyb : (y == 0) = false := by simpa using hb
  clear h1 h2
  go_enter Try.func17, Try.ntmps17
  go_wp2_with fail
  refine HC.mono ?_
  rintro e W1 ⟨rfl, b1⟩
  have B1 := hide_ b1
  clear b1 HC
  go_wp2
  go_ret2
  exact ⟨rfl, B1.out⟩

set_option maxRecDepth 100000 in
set_option maxHeartbeats 2000000 in
theorem prows_calls (a1 a2 : Option Addr) (n m c1 c2 : Nat) (l1 l2 : List Tok) (w : World) (h1 : Toks w a1 n l1) (h2 : Toks w a2 m l2) (hn : n ≤ 200) (hm : m ≤ 200) (hc1 : n ≤ c1) (hc2 : m ≤ c2) (hb : bothP l1 l2 = 0) :
    Calls Try.prog 17 #[.slice a1 n c1, .slice a2 m c2] w fun e w' => ∃ P v, e = .returned (.tuple #[v, .int .i64 0]) ∧ IsPairs (likeB l1 l2) (tops l1).length (tops l2).length 0 0 P ∧
      w'.ownsRow w.heap.size 48 3 v (rowsP (tops l1) (tops l2) P 0 0).length (rowV (rowsP (tops l1) (tops l2) P 0 0)) ∧ Below w.heap.size w w' := by
  have HC := pcheck_calls a1 a2 n m c1 c2 l1 l2 w h1 h2 (by omega) (by omega)
  rw [hb] at HC
  obtain ⟨g1, g2, _, _⟩ := bothP_ok hb
  have D1 : Hid (Doc w a1 n c1 l1) := ⟨h1, g1, by omega, hc1⟩
  have D2 : Hid (Doc w a2 m c2 l2) := ⟨h2, g2, by omega, hc2⟩
  have t1 : (tops l1).length ≤ 200 := by have := topsL_length l1 l1.length 0; have := h1.1; unfold tops; omega
  have t2 : (tops l2).length ≤ 200 := by have := topsL_length l2 l2.length 0; have := h2.1; unfold tops; omega
  have i1 : ¬ ((200 : Int) < ((tops l1).length : Int)) := by omega
  have i2 : ¬ ((200 : Int) < ((tops l2).length : Int)) := by omega
  clear h1 h2 g1 g2 hb
  go_enter Try.func17, Try.ntmps17
  go_wp2_with fail
  refine HC.mono ?_
  rintro e W1 ⟨rfl, b1⟩
  have B1 := hide_ b1
  clear b1 HC
  go_wp2_with fail
  refine (blocks_calls a1 n c1 l1 W1 (D1.out.below B1.out).1 D1.out.2.1 (by omega) hc1).mono ?_
  rintro e W2 ⟨v1, rfl, o1, b2⟩
  obtain ⟨d1, e1, rfl, B1s⟩ := Blks_of_owns o1
  have B2 := hide_ (B1.out.trans (b2.mono B1.out.size))
  have X1 := hide_ B1s
  clear b2 B1 o1 B1s
  go_wp2_with fail
  refine (blocks_calls a2 m c2 l2 W2 (D2.out.below B2.out).1 D2.out.2.1 (by omega) hc2).mono ?_
  rintro e W3 ⟨v2, rfl, o2, b3⟩
  obtain ⟨d2, e2, rfl, B2s⟩ := Blks_of_owns o2
  have B3 := hide_ (B2.out.trans (b3.mono B2.out.size))
  have X13 := hide_ (X1.out.below b3)
  have X2 := hide_ B2s
  clear b3 B2 o2 B2s X1
  go_wp2_with fail
  refine (longestB_calls d1 d2 _ _ e1 e2 a1 a2 n m c1 c2 l1 l2 (by omega) (by omega) W3 X13.out X2.out (D1.out.below B3.out) (D2.out.below B3.out)).mono ?_
  rintro e W4 ⟨P, v3, rfl, hI, hPl, o3, b4⟩
  obtain ⟨ap, cp, rfl, hP⟩ := Prs_of_owns o3
  have B4 := hide_ (B3.out.trans (b4.mono B3.out.size))
  have X14 := hide_ (X13.out.below b4)
  have X24 := hide_ (X2.out.below b4)
  have IP := hide_ hI
  have PP := hide_ hP
  clear b4 B3 o3 hP X13 X2 hI
  go_wp2_with fail
  refine (rows_calls _ _ e1 e2 P.length cp c1 c2 d1 d2 a1 a2 ap l1 l2 P W4 X14.out X24.out PP.out IP.out (by omega) (by omega) (by omega)).mono ?_
  rintro e W5 ⟨v4, rfl, o4, b5⟩
  have B5 := hide_ (B4.out.trans (b5.mono B4.out.size))
  have O4 := hide_ (owns_base o4 B4.out.size)
  clear b5 B4 o4 PP X14 X24
  go_wp2
  go_ret2
  exact ⟨P, v4, rfl, IP.out, O4.out, B5.out⟩
end Go.Proofs.Ytgpopploimeeaaa
