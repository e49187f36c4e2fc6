/-
  PROVED HERE: what the texts PRowsC, REnds say (each has its own words below).
-/
import Derived.Test.YtgpopploimeeaaaCR16
import Derived.Test.YtgpopploimeeaaaCRPPairsB
import Derived.Test.YtgpopploimeeaaaCR5
import Derived.Test.YtgpopploimeeaaaCR11
/- PRowsC: the program's own Rows, of at most 200 tokens each. -/
namespace Go.Proofs.Ytgpopploimeeaaa
open Go.RowKit

/-- What keeps the one, or else the other, from being a document. -/
def bothP (l1 l2 : List Tok) : Int := if (check l1).2 = 0 then (check l2).2 else (check l1).2
theorem bothP_ok {l1 l2 : List Tok} (h : bothP l1 l2 = 0) : goes l1 0 = some 0 ∧ goes l2 0 = some 0 ∧ l1.length ≤ 2048 ∧ l2.length ≤ 2048 := by
  unfold bothP at h
  by_cases h1 : (check l1).2 = 0
  · rw [if_pos h1] at h
    obtain ⟨a1, a2⟩ := (check_ok l1).1 h1
    obtain ⟨b1, b2⟩ := (check_ok l2).1 h
    exact ⟨a2, b2, a1, b1⟩
  · rw [if_neg h1] at h
    exact absurd h h1

set_option maxRecDepth 100000 in
theorem pcheck_calls (a1 a2 : Option Addr) (n m c1 c2 : Nat) (l1 l2 : List Tok) (w : World) (h1 : Toks w a1 n l1) (h2 : Toks w a2 m l2) (hn : n ≤ 4398046511104) (hm : m ≤ 4398046511104) :
    Calls Try.prog 27 #[.slice a1 n c1, .slice a2 m c2] w fun e w' => e = .returned (.int .i64 (bothP l1 l2)) ∧ Below w.heap.size w w' := by
  have HC1 := fcheck_calls a1 n c1 l1 w h1 hn
  have H2 := hide_ h2
  clear h1 h2
  unfold bothP
  obtain ⟨x1, hx1⟩ : ∃ x, (check l1).1 = x := ⟨_, rfl⟩
  obtain ⟨y1, hy1⟩ : ∃ x, (check l1).2 = x := ⟨_, rfl⟩
  obtain ⟨y2, hy2⟩ : ∃ x, (check l2).2 = x := ⟨_, rfl⟩
  rw [hx1, hy1] at HC1
  rw [hy1, hy2]
  clear hx1 hy1
  by_cases h0 : y1 = 0
  · subst h0
    rw [if_pos rfl]
    go_enter Try.func27, Try.ntmps27
    go_wp2_with fail
    refine HC1.mono ?_
    rintro e W1 ⟨rfl, b1⟩
    have HC2 := fcheck_calls a2 m c2 l2 W1 (H2.out.below b1) hm
    rw [hy2] at HC2
    have B1 := hide_ b1
    clear b1 HC1 hy2
    go_wp2_with fail
    refine HC2.mono ?_
    rintro e W2 ⟨rfl, b2⟩
    have B2 := hide_ (B1.out.trans (b2.mono B1.out.size))
    clear b2 B1 HC2
    go_wp2
    go_ret
    exact ⟨rfl, B2.out⟩
  · rw [if_neg h0]
    have h0b : (y1 == 0) = false := by simpa using h0
    clear hy2
    go_enter Try.func27, Try.ntmps27
    go_wp2_with fail
    refine HC1.mono ?_
    rintro e W1 ⟨rfl, b1⟩
    have B1 := hide_ b1
    clear b1 HC1
    go_wp2
    go_ret
    exact ⟨rfl, B1.out⟩

set_option maxRecDepth 100000 in
theorem prows_no (a1 a2 : Option Addr) (n m c1 c2 : Nat) (l1 l2 : List Tok) (w : World) (h1 : Toks w a1 n l1) (h2 : Toks w a2 m l2) (hn : n ≤ 200) (hm : m ≤ 200) (hb : bothP l1 l2 ≠ 0) :
    Calls Try.prog 17 #[.slice a1 n c1, .slice a2 m c2] w fun e w' => e = .returned (.tuple #[.slice none 0 0, .int .i64 (bothP l1 l2)]) ∧ Below w.heap.size w w' := by
  have HC := pcheck_calls a1 a2 n m c1 c2 l1 l2 w h1 h2 (by omega) (by omega)
  generalize bothP l1 l2 = y at *
  have hyb : (y == 0) = false := by simpa using hb
  clear h1 h2
  go_enter Try.func17, Try.ntmps17
  go_wp2_with fail
  refine HC.mono ?_
  rintro e W1 ⟨rfl, b1⟩
  have B1 := hide_ b1
  clear b1 HC
  go_wp2
  go_ret2
  exact ⟨rfl, B1.out⟩

set_option maxRecDepth 100000 in
set_option maxHeartbeats 2000000 in
theorem prows_calls (a1 a2 : Option Addr) (n m c1 c2 : Nat) (l1 l2 : List Tok) (w : World) (h1 : Toks w a1 n l1) (h2 : Toks w a2 m l2) (hn : n ≤ 200) (hm : m ≤ 200) (hc1 : n ≤ c1) (hc2 : m ≤ c2) (hb : bothP l1 l2 = 0) :
    Calls Try.prog 17 #[.slice a1 n c1, .slice a2 m c2] w fun e w' => ∃ P v, e = .returned (.tuple #[v, .int .i64 0]) ∧ IsPairs (likeB l1 l2) (tops l1).length (tops l2).length 0 0 P ∧
      w'.ownsRow w.heap.size 48 3 v (rowsP (tops l1) (tops l2) P 0 0).length (rowV (rowsP (tops l1) (tops l2) P 0 0)) ∧ Below w.heap.size w w' := by
  have HC := pcheck_calls a1 a2 n m c1 c2 l1 l2 w h1 h2 (by omega) (by omega)
  rw [hb] at HC
  obtain ⟨g1, g2, _, _⟩ := bothP_ok hb
  have D1 : Hid (Doc w a1 n c1 l1) := ⟨h1, g1, by omega, hc1⟩
  have D2 : Hid (Doc w a2 m c2 l2) := ⟨h2, g2, by omega, hc2⟩
  have t1 : (tops l1).length ≤ 200 := by have := topsL_length l1 l1.length 0; have := h1.1; unfold tops; omega
  have t2 : (tops l2).length ≤ 200 := by have := topsL_length l2 l2.length 0; have := h2.1; unfold tops; omega
  have i1 : ¬ ((200 : Int) < ((tops l1).length : Int)) := by omega
  have i2 : ¬ ((200 : Int) < ((tops l2).length : Int)) := by omega
  clear h1 h2 g1 g2 hb
  go_enter Try.func17, Try.ntmps17
  go_wp2_with fail
  refine HC.mono ?_
  rintro e W1 ⟨rfl, b1⟩
  have B1 := hide_ b1
  clear b1 HC
  go_wp2_with fail
  refine (blocks_calls a1 n c1 l1 W1 (D1.out.below B1.out).1 D1.out.2.1 (by omega) hc1).mono ?_
  rintro e W2 ⟨v1, rfl, o1, b2⟩
  obtain ⟨d1, e1, rfl, B1s⟩ := Blks_of_owns o1
  have B2 := hide_ (B1.out.trans (b2.mono B1.out.size))
  have X1 := hide_ B1s
  clear b2 B1 o1 B1s
  go_wp2_with fail
  refine (blocks_calls a2 m c2 l2 W2 (D2.out.below B2.out).1 D2.out.2.1 (by omega) hc2).mono ?_
  rintro e W3 ⟨v2, rfl, o2, b3⟩
  obtain ⟨d2, e2, rfl, B2s⟩ := Blks_of_owns o2
  have B3 := hide_ (B2.out.trans (b3.mono B2.out.size))
  have X13 := hide_ (X1.out.below b3)
  have X2 := hide_ B2s
  clear b3 B2 o2 B2s X1
  go_wp2_with fail
  refine (longestB_calls d1 d2 _ _ e1 e2 a1 a2 n m c1 c2 l1 l2 (by omega) (by omega) W3 X13.out X2.out (D1.out.below B3.out) (D2.out.below B3.out)).mono ?_
  rintro e W4 ⟨P, v3, rfl, hI, hPl, o3, b4⟩
  obtain ⟨ap, cp, rfl, hP⟩ := Prs_of_owns o3
  have B4 := hide_ (B3.out.trans (b4.mono B3.out.size))
  have X14 := hide_ (X13.out.below b4)
  have X24 := hide_ (X2.out.below b4)
  have IP := hide_ hI
  have PP := hide_ hP
  clear b4 B3 o3 hP X13 X2 hI
  go_wp2_with fail
  refine (rows_calls _ _ e1 e2 P.length cp c1 c2 d1 d2 a1 a2 ap l1 l2 P W4 X14.out X24.out PP.out IP.out (by omega) (by omega) (by omega)).mono ?_
  rintro e W5 ⟨v4, rfl, o4, b5⟩
  have B5 := hide_ (B4.out.trans (b5.mono B4.out.size))
  have O4 := hide_ (owns_base o4 B4.out.size)
  clear b5 B4 o4 PP X14 X24
  go_wp2
  go_ret2
  exact ⟨P, v4, rfl, IP.out, O4.out, B5.out⟩
end Go.Proofs.Ytgpopploimeeaaa

/- REnds: the document's own Ends: what two lists share at both ends. -/
namespace Go.Proofs.Ytgpopploimeeaaa
open Go.RowKit

/-- How many tokens two lists begin with alike. -/
def headP : List Tok → List Tok → Nat
  | x :: r, y :: s => if tokEq x y then headP r s + 1 else 0
  | _, _ => 0
theorem headP_nil (l : List Tok) : headP l [] = 0 := by cases l <;> rfl
theorem headP_le : ∀ (l m : List Tok), headP l m ≤ l.length ∧ headP l m ≤ m.length
  | [], _ => ⟨Nat.le_refl _, Nat.zero_le _⟩
  | x :: r, [] => ⟨Nat.zero_le _, Nat.le_refl _⟩
  | x :: r, y :: s => by
    have := headP_le r s
    unfold headP
    split <;> simp only [List.length_cons] <;> omega
/-- What they share behind the head. -/
def tailP (l m : List Tok) : Nat := headP (l.drop (headP l m)).reverse (m.drop (headP l m)).reverse

/-- One step of the search. -/
theorem headP_go {l m : List Tok} {k h : Nat} {x y : Tok} (hh : h = k + headP (l.drop k) (m.drop k)) (hx : l[k]? = some x) (hy : m[k]? = some y) :
    (tokEq x y = true ∧ h = (k + 1) + headP (l.drop (k + 1)) (m.drop (k + 1))) ∨ (tokEq x y = false ∧ h = k) := by
  have hl : k < l.length := (List.getElem?_eq_some_iff.1 hx).1
  have hm : k < m.length := (List.getElem?_eq_some_iff.1 hy).1
  rw [List.drop_eq_getElem_cons hl, List.drop_eq_getElem_cons hm, headP] at hh
  rw [List.getElem?_eq_getElem hl] at hx
  rw [List.getElem?_eq_getElem hm] at hy
  rw [Option.some.inj hx, Option.some.inj hy] at hh
  cases e : tokEq x y with
  | true => rw [e, if_pos rfl] at hh; exact .inl ⟨rfl, by omega⟩
  | false => rw [e] at hh; exact .inr ⟨rfl, hh⟩
theorem headP_end {l m : List Tok} {k h : Nat} (hh : h = k + headP (l.drop k) (m.drop k)) (he : l.length ≤ k ∨ m.length ≤ k) : h = k := by
  rcases he with he | he
  · rw [List.drop_eq_nil_of_le he] at hh
    exact hh
  · rw [List.drop_eq_nil_of_le he, headP_nil] at hh
    exact hh
/-- The k-th from behind, of what lies behind the n-th. -/
theorem rev_at {l : List Tok} {n k : Nat} (h : k + n < l.length) : ((l.drop n).reverse)[k]? = l[l.length - 1 - k]? := by
  rw [List.getElem?_reverse (by rw [List.length_drop]; omega), List.length_drop, List.getElem?_drop]
  congr 1
  omega

set_option maxRecDepth 100000 in
set_option maxHeartbeats 4000000 in
theorem ends_calls (a1 a2 : Option Addr) (n1 n2 c1 c2 : Nat) (l1 l2 : List Tok) (w : World) (h1 : Toks w a1 n1 l1) (h2 : Toks w a2 n2 l2) (hz1 : n1 ≤ 35184372088832) (hz2 : n2 ≤ 35184372088832) :
    Calls Try.prog 9 #[.slice a1 n1 c1, .slice a2 n2 c2] w fun e w' => e = .returned (.tuple #[.int .i64 (headP l1 l2 : Int), .int .i64 (tailP l1 l2 : Int)]) ∧ Below w.heap.size w w' := by
  have hg := fun (x y : Operand) (xs ys : Array Value) (W : World) => tok_eqGuard .eql x y xs ys W
  have H1 := hide_ h1
  have H2 := hide_ h2
  obtain ⟨H, hH⟩ : ∃ H, headP l1 l2 = H := ⟨_, rfl⟩
  obtain ⟨T, hT⟩ : ∃ T, tailP l1 l2 = T := ⟨_, rfl⟩
  rw [hH, hT]
  have HT := hide_ hT
  have HH := hide_ hH
  clear h1 h2 hT hH
  go_enter Try.func9, Try.ntmps9
  go_wp2
  go_loopg [6] (n1 + 1) (fun gk u wr => ∃ k : Nat, u = .int .i64 (k : Int) ∧ k ≤ n1 ∧ k ≤ n2 ∧ n1 < k + gk ∧ Hid (H = k + headP (l1.drop k) (l2.drop k)) ∧ Hid (Below w.heap.size w wr))
  case atStart => exact ⟨0, rfl, Nat.zero_le _, Nat.zero_le _, by omega, by show H = 0 + headP l1 l2; rw [HH.out, Nat.zero_add], Below.refl _ w⟩
  case round =>
    obtain ⟨k, rfl, hk1, hk2, hgk, HR, HB⟩ := hrel
    have hk0 : (0 : Int) ≤ (k : Int) := by omega
    by_cases hlt : k < n1 ∧ k < n2
    · obtain ⟨hlt1, hlt2⟩ := hlt
      have hi1 : (k : Int) < (n1 : Int) := by omega
      have hi2 : (k : Int) < (n2 : Int) := by omega
      obtain ⟨b, o, x, rfl, hbl, hx, hc⟩ := H1.out.token hlt1
      obtain ⟨b', o', y, rfl, hbl', hy, hc'⟩ := H2.out.token hlt2
      obtain ⟨p0, p1, p2, p3⟩ := hc wr HB.out
      obtain ⟨q0, q1, q2, q3⟩ := hc' wr HB.out
      have hgo := headP_go HR.out hx hy
      clear hc hc' hx hy
      have hq := fun W => tok_eql x y W
      generalize tokEq x y = d at *
      simp only [tokV] at hq
      obtain ⟨xk, xt, xn, xm⟩ := x
      obtain ⟨yk, yt, yn, ym⟩ := y
      simp only at *
      rcases hgo with ⟨rfl, hN⟩ | ⟨rfl, hN⟩
      · have HN := hide_ hN
        clear hN HR
        go_wp2_with fail
        go_quiet (fail)
        obtain ⟨V, hV⟩ : ∃ V, V = wr.drewN nq := ⟨_, rfl⟩
        have HV : Hid (Below w.heap.size w V) := by rw [hV]; exact below_drewN HB.out nq
        rw [← hV]
        clear hV HB
        go_wp2
        go_roundg (n1 - k)
        case measure => omega
        case rel => exact ⟨k + 1, by first | rfl | go_num, by omega, by omega, by omega, HN, HV⟩
      · have HN : Hid (H = k) := hide_ hN
        clear hN HR
        go_wp2_with fail
        go_quiet (fail)
        obtain ⟨V, hV⟩ : ∃ V, V = wr.drewN nq := ⟨_, rfl⟩
        have HV : Hid (Below w.heap.size w V) := by rw [hV]; exact below_drewN HB.out nq
        rw [← hV]
        clear hV HB
        have eH := HN.out
        subst eH
        have HS : Hid (T = 0 + headP ((l1.drop H).reverse.drop 0) ((l2.drop H).reverse.drop 0)) := by
          show T = 0 + headP (l1.drop H).reverse (l2.drop H).reverse
          rw [Nat.zero_add, ← HT.out, tailP, HH.out]
        clear HN HT HH
        have w1 : IntKind.i64.wrap ((n1 : Int) - (H : Int)) = (n1 : Int) - (H : Int) := by rw [IntKind.wrap_i64]; omega
        have w2 : IntKind.i64.wrap ((n2 : Int) - (H : Int)) = (n2 : Int) - (H : Int) := by rw [IntKind.wrap_i64]; omega
        go_wp2
        go_loopg [7] (n1 + 1) (fun gk u wr => ∃ k : Nat, u = .int .i64 (k : Int) ∧ k + H ≤ n1 ∧ k + H ≤ n2 ∧ n1 < k + gk ∧ Hid (T = k + headP ((l1.drop H).reverse.drop k) ((l2.drop H).reverse.drop k)) ∧ Hid (Below w.heap.size w wr))
        case atStart => exact ⟨0, rfl, by omega, by omega, by omega, HS, HV⟩
        case round =>
          obtain ⟨k, rfl, hkn1, hkn2, hgk, HR, HB⟩ := hrel
          clear HS HV
          have hk0 : (0 : Int) ≤ (k : Int) := by omega
          by_cases hlt : k + H < n1 ∧ k + H < n2
          · obtain ⟨hlt1, hlt2⟩ := hlt
            have hi1 : (k : Int) < (n1 : Int) - (H : Int) := by omega
            have hi2 : (k : Int) < (n2 : Int) - (H : Int) := by omega
            obtain ⟨p, hp⟩ : ∃ p, p = n1 - 1 - k := ⟨_, rfl⟩
            obtain ⟨q, hq'⟩ : ∃ q, q = n2 - 1 - k := ⟨_, rfl⟩
            have e1 : (n1 : Int) - 1 - (k : Int) = (p : Int) := by omega
            have e2 : (n2 : Int) - 1 - (k : Int) = (q : Int) := by omega
            have hpn : p < n1 := by omega
            have hqn : q < n2 := by omega
            have hpi : (p : Int) < (n1 : Int) := by omega
            have hqi : (q : Int) < (n2 : Int) := by omega
            have hp0 : (0 : Int) ≤ (p : Int) := by omega
            have hq0 : (0 : Int) ≤ (q : Int) := by omega
            obtain ⟨b, o, x, ha1, hbl, hx, hc⟩ := H1.out.token hpn
            obtain ⟨b', o', y, ha2, hbl', hy, hc'⟩ := H2.out.token hqn
            cases ha1
            cases ha2
            obtain ⟨p0, p1, p2, p3⟩ := hc wr HB.out
            obtain ⟨q0, q1, q2, q3⟩ := hc' wr HB.out
            have L1 := H1.out.1
            have L2 := H2.out.1
            have hgo := headP_go HR.out (x := x) (y := y) (by rw [rev_at (by omega), L1, ← hp]; exact hx) (by rw [rev_at (by omega), L2, ← hq']; exact hy)
            clear hc hc' hx hy hp hq' L1 L2
            have hq := fun W => tok_eql x y W
            generalize tokEq x y = d at *
            simp only [tokV] at hq
            obtain ⟨xk, xt, xn, xm⟩ := x
            obtain ⟨yk, yt, yn, ym⟩ := y
            simp only at *
            rcases hgo with ⟨rfl, hN⟩ | ⟨rfl, hN⟩
            · have HN := hide_ hN
              clear hN HR
              go_wp2_with fail
              go_quiet (fail)
              obtain ⟨V, hV⟩ : ∃ V, V = wr.drewN nq := ⟨_, rfl⟩
              have HV : Hid (Below w.heap.size w V) := by rw [hV]; exact below_drewN HB.out nq
              rw [← hV]
              clear hV HB
              go_wp2
              go_roundg (n1 - k)
              case measure => omega
              case rel => exact ⟨k + 1, by first | rfl | go_num, by omega, by omega, by omega, HN, HV⟩
            · have HN : Hid (T = k) := hide_ hN
              clear hN HR
              go_wp2_with fail
              go_quiet (fail)
              obtain ⟨V, hV⟩ : ∃ V, V = wr.drewN nq := ⟨_, rfl⟩
              have HV : Hid (Below w.heap.size w V) := by rw [hV]; exact below_drewN HB.out nq
              rw [← hV]
              clear hV HB
              go_wp2
              go_ret2
              exact ⟨by rw [HN.out]; rfl, HV.out⟩
          · have HN : Hid (T = k) := headP_end HR.out (by
              rw [List.length_reverse, List.length_reverse, List.length_drop, List.length_drop]
              have := H1.out.1
              have := H2.out.1
              omega)
            clear HR
            by_cases hlt1 : k + H < n1
            · have hi1 : (k : Int) < (n1 : Int) - (H : Int) := by omega
              have hi2 : decide ((k : Int) < (n2 : Int) - (H : Int)) = false := decide_eq_false (by omega)
              go_wp2_with fail
              go_quiet (fail)
              obtain ⟨V, hV⟩ : ∃ V, V = wr.drewN nq := ⟨_, rfl⟩
              have HV : Hid (Below w.heap.size w V) := by rw [hV]; exact below_drewN HB.out nq
              rw [← hV]
              clear hV HB
              go_wp2
              go_ret2
              exact ⟨by rw [HN.out]; rfl, HV.out⟩
            · have hi1 : decide ((k : Int) < (n1 : Int) - (H : Int)) = false := decide_eq_false (by omega)
              go_wp2_with fail
              go_quiet (fail)
              obtain ⟨V, hV⟩ : ∃ V, V = wr.drewN nq := ⟨_, rfl⟩
              have HV : Hid (Below w.heap.size w V) := by rw [hV]; exact below_drewN HB.out nq
              rw [← hV]
              clear hV HB
              go_wp2
              go_ret2
              exact ⟨by rw [HN.out]; rfl, HV.out⟩
    · have HN : Hid (H = k) := headP_end HR.out (by have := H1.out.1; have := H2.out.1; omega)
      clear HR
      by_cases hlt1 : k < n1
      · have hi1 : (k : Int) < (n1 : Int) := by omega
        have hi2 : ¬ ((k : Int) < (n2 : Int)) := by omega
        have hm2 : ¬ (k < n2) := by omega
        go_wp2_with fail
        go_quiet (fail)
        obtain ⟨V, hV⟩ : ∃ V, V = wr.drewN nq := ⟨_, rfl⟩
        have HV : Hid (Below w.heap.size w V) := by rw [hV]; exact below_drewN HB.out nq
        rw [← hV]
        clear hV HB
        have eH := HN.out
        subst eH
        have HS : Hid (T = 0 + headP ((l1.drop H).reverse.drop 0) ((l2.drop H).reverse.drop 0)) := by
          show T = 0 + headP (l1.drop H).reverse (l2.drop H).reverse
          rw [Nat.zero_add, ← HT.out, tailP, HH.out]
        clear HN HT HH
        have w1 : IntKind.i64.wrap ((n1 : Int) - (H : Int)) = (n1 : Int) - (H : Int) := by rw [IntKind.wrap_i64]; omega
        have w2 : IntKind.i64.wrap ((n2 : Int) - (H : Int)) = (n2 : Int) - (H : Int) := by rw [IntKind.wrap_i64]; omega
        go_wp2
        go_loopg [7] (n1 + 1) (fun gk u wr => ∃ k : Nat, u = .int .i64 (k : Int) ∧ k + H ≤ n1 ∧ k + H ≤ n2 ∧ n1 < k + gk ∧ Hid (T = k + headP ((l1.drop H).reverse.drop k) ((l2.drop H).reverse.drop k)) ∧ Hid (Below w.heap.size w wr))
        case atStart => exact ⟨0, rfl, by omega, by omega, by omega, HS, HV⟩
        case round =>
          obtain ⟨k, rfl, hkn1, hkn2, hgk, HR, HB⟩ := hrel
          clear HS HV
          have hk0 : (0 : Int) ≤ (k : Int) := by omega
          by_cases hlt : k + H < n1 ∧ k + H < n2
          · obtain ⟨hlt1, hlt2⟩ := hlt
            have hi1 : (k : Int) < (n1 : Int) - (H : Int) := by omega
            have hi2 : (k : Int) < (n2 : Int) - (H : Int) := by omega
            obtain ⟨p, hp⟩ : ∃ p, p = n1 - 1 - k := ⟨_, rfl⟩
            obtain ⟨q, hq'⟩ : ∃ q, q = n2 - 1 - k := ⟨_, rfl⟩
            have e1 : (n1 : Int) - 1 - (k : Int) = (p : Int) := by omega
            have e2 : (n2 : Int) - 1 - (k : Int) = (q : Int) := by omega
            have hpn : p < n1 := by omega
            have hqn : q < n2 := by omega
            have hpi : (p : Int) < (n1 : Int) := by omega
            have hqi : (q : Int) < (n2 : Int) := by omega
            have hp0 : (0 : Int) ≤ (p : Int) := by omega
            have hq0 : (0 : Int) ≤ (q : Int) := by omega
            obtain ⟨b, o, x, ha1, hbl, hx, hc⟩ := H1.out.token hpn
            obtain ⟨b', o', y, ha2, hbl', hy, hc'⟩ := H2.out.token hqn
            cases ha1
            cases ha2
            obtain ⟨p0, p1, p2, p3⟩ := hc wr HB.out
            obtain ⟨q0, q1, q2, q3⟩ := hc' wr HB.out
            have L1 := H1.out.1
            have L2 := H2.out.1
            have hgo := headP_go HR.out (x := x) (y := y) (by rw [rev_at (by omega), L1, ← hp]; exact hx) (by rw [rev_at (by omega), L2, ← hq']; exact hy)
            clear hc hc' hx hy hp hq' L1 L2
            have hq := fun W => tok_eql x y W
            generalize tokEq x y = d at *
            simp only [tokV] at hq
            obtain ⟨xk, xt, xn, xm⟩ := x
            obtain ⟨yk, yt, yn, ym⟩ := y
            simp only at *
            rcases hgo with ⟨rfl, hN⟩ | ⟨rfl, hN⟩
            · have HN := hide_ hN
              clear hN HR
              go_wp2_with fail
              go_quiet (fail)
              obtain ⟨V, hV⟩ : ∃ V, V = wr.drewN nq := ⟨_, rfl⟩
              have HV : Hid (Below w.heap.size w V) := by rw [hV]; exact below_drewN HB.out nq
              rw [← hV]
              clear hV HB
              go_wp2
              go_roundg (n1 - k)
              case measure => omega
              case rel => exact ⟨k + 1, by first | rfl | go_num, by omega, by omega, by omega, HN, HV⟩
            · have HN : Hid (T = k) := hide_ hN
              clear hN HR
              go_wp2_with fail
              go_quiet (fail)
              obtain ⟨V, hV⟩ : ∃ V, V = wr.drewN nq := ⟨_, rfl⟩
              have HV : Hid (Below w.heap.size w V) := by rw [hV]; exact below_drewN HB.out nq
              rw [← hV]
              clear hV HB
              go_wp2
              go_ret2
              exact ⟨by rw [HN.out]; rfl, HV.out⟩
          · have HN : Hid (T = k) := headP_end HR.out (by
              rw [List.length_reverse, List.length_reverse, List.length_drop, List.length_drop]
              have := H1.out.1
              have := H2.out.1
              omega)
            clear HR
            by_cases hlt1 : k + H < n1
            · have hi1 : (k : Int) < (n1 : Int) - (H : Int) := by omega
              have hi2 : decide ((k : Int) < (n2 : Int) - (H : Int)) = false := decide_eq_false (by omega)
              go_wp2_with fail
              go_quiet (fail)
              obtain ⟨V, hV⟩ : ∃ V, V = wr.drewN nq := ⟨_, rfl⟩
              have HV : Hid (Below w.heap.size w V) := by rw [hV]; exact below_drewN HB.out nq
              rw [← hV]
              clear hV HB
              go_wp2
              go_ret2
              exact ⟨by rw [HN.out]; rfl, HV.out⟩
            · have hi1 : decide ((k : Int) < (n1 : Int) - (H : Int)) = false := decide_eq_false (by omega)
              go_wp2_with fail
              go_quiet (fail)
              obtain ⟨V, hV⟩ : ∃ V, V = wr.drewN nq := ⟨_, rfl⟩
              have HV : Hid (Below w.heap.size w V) := by rw [hV]; exact below_drewN HB.out nq
              rw [← hV]
              clear hV HB
              go_wp2
              go_ret2
              exact ⟨by rw [HN.out]; rfl, HV.out⟩
      · have hi1 : ¬ ((k : Int) < (n1 : Int)) := by omega
        go_wp2_with fail
        go_quiet (fail)
        obtain ⟨V, hV⟩ : ∃ V, V = wr.drewN nq := ⟨_, rfl⟩
        have HV : Hid (Below w.heap.size w V) := by rw [hV]; exact below_drewN HB.out nq
        rw [← hV]
        clear hV HB
        have eH := HN.out
        subst eH
        have HS : Hid (T = 0 + headP ((l1.drop H).reverse.drop 0) ((l2.drop H).reverse.drop 0)) := by
          show T = 0 + headP (l1.drop H).reverse (l2.drop H).reverse
          rw [Nat.zero_add, ← HT.out, tailP, HH.out]
        clear HN HT HH
        have w1 : IntKind.i64.wrap ((n1 : Int) - (H : Int)) = (n1 : Int) - (H : Int) := by rw [IntKind.wrap_i64]; omega
        have w2 : IntKind.i64.wrap ((n2 : Int) - (H : Int)) = (n2 : Int) - (H : Int) := by rw [IntKind.wrap_i64]; omega
        go_wp2
        go_loopg [7] (n1 + 1) (fun gk u wr => ∃ k : Nat, u = .int .i64 (k : Int) ∧ k + H ≤ n1 ∧ k + H ≤ n2 ∧ n1 < k + gk ∧ Hid (T = k + headP ((l1.drop H).reverse.drop k) ((l2.drop H).reverse.drop k)) ∧ Hid (Below w.heap.size w wr))
        case atStart => exact ⟨0, rfl, by omega, by omega, by omega, HS, HV⟩
        case round =>
          obtain ⟨k, rfl, hkn1, hkn2, hgk, HR, HB⟩ := hrel
          clear HS HV
          have hk0 : (0 : Int) ≤ (k : Int) := by omega
          by_cases hlt : k + H < n1 ∧ k + H < n2
          · obtain ⟨hlt1, hlt2⟩ := hlt
            have hi1 : (k : Int) < (n1 : Int) - (H : Int) := by omega
            have hi2 : (k : Int) < (n2 : Int) - (H : Int) := by omega
            obtain ⟨p, hp⟩ : ∃ p, p = n1 - 1 - k := ⟨_, rfl⟩
            obtain ⟨q, hq'⟩ : ∃ q, q = n2 - 1 - k := ⟨_, rfl⟩
            have e1 : (n1 : Int) - 1 - (k : Int) = (p : Int) := by omega
            have e2 : (n2 : Int) - 1 - (k : Int) = (q : Int) := by omega
            have hpn : p < n1 := by omega
            have hqn : q < n2 := by omega
            have hpi : (p : Int) < (n1 : Int) := by omega
            have hqi : (q : Int) < (n2 : Int) := by omega
            have hp0 : (0 : Int) ≤ (p : Int) := by omega
            have hq0 : (0 : Int) ≤ (q : Int) := by omega
            obtain ⟨b, o, x, ha1, hbl, hx, hc⟩ := H1.out.token hpn
            obtain ⟨b', o', y, ha2, hbl', hy, hc'⟩ := H2.out.token hqn
            cases ha1
            cases ha2
            obtain ⟨p0, p1, p2, p3⟩ := hc wr HB.out
            obtain ⟨q0, q1, q2, q3⟩ := hc' wr HB.out
            have L1 := H1.out.1
            have L2 := H2.out.1
            have hgo := headP_go HR.out (x := x) (y := y) (by rw [rev_at (by omega), L1, ← hp]; exact hx) (by rw [rev_at (by omega), L2, ← hq']; exact hy)
            clear hc hc' hx hy hp hq' L1 L2
            have hq := fun W => tok_eql x y W
            generalize tokEq x y = d at *
            simp only [tokV] at hq
            obtain ⟨xk, xt, xn, xm⟩ := x
            obtain ⟨yk, yt, yn, ym⟩ := y
            simp only at *
            rcases hgo with ⟨rfl, hN⟩ | ⟨rfl, hN⟩
            · have HN := hide_ hN
              clear hN HR
              go_wp2_with fail
              go_quiet (fail)
              obtain ⟨V, hV⟩ : ∃ V, V = wr.drewN nq := ⟨_, rfl⟩
              have HV : Hid (Below w.heap.size w V) := by rw [hV]; exact below_drewN HB.out nq
              rw [← hV]
              clear hV HB
              go_wp2
              go_roundg (n1 - k)
              case measure => omega
              case rel => exact ⟨k + 1, by first | rfl | go_num, by omega, by omega, by omega, HN, HV⟩
            · have HN : Hid (T = k) := hide_ hN
              clear hN HR
              go_wp2_with fail
              go_quiet (fail)
              obtain ⟨V, hV⟩ : ∃ V, V = wr.drewN nq := ⟨_, rfl⟩
              have HV : Hid (Below w.heap.size w V) := by rw [hV]; exact below_drewN HB.out nq
              rw [← hV]
              clear hV HB
              go_wp2
              go_ret2
              exact ⟨by rw [HN.out]; rfl, HV.out⟩
          · have HN : Hid (T = k) := headP_end HR.out (by
              rw [List.length_reverse, List.length_reverse, List.length_drop, List.length_drop]
              have := H1.out.1
              have := H2.out.1
              omega)
            clear HR
            by_cases hlt1 : k + H < n1
            · have hi1 : (k : Int) < (n1 : Int) - (H : Int) := by omega
              have hi2 : decide ((k : Int) < (n2 : Int) - (H : Int)) = false := decide_eq_false (by omega)
              go_wp2_with fail
              go_quiet (fail)
              obtain ⟨V, hV⟩ : ∃ V, V = wr.drewN nq := ⟨_, rfl⟩
              have HV : Hid (Below w.heap.size w V) := by rw [hV]; exact below_drewN HB.out nq
              rw [← hV]
              clear hV HB
              go_wp2
              go_ret2
              exact ⟨by rw [HN.out]; rfl, HV.out⟩
            · have hi1 : decide ((k : Int) < (n1 : Int) - (H : Int)) = false := decide_eq_false (by omega)
              go_wp2_with fail
              go_quiet (fail)
              obtain ⟨V, hV⟩ : ∃ V, V = wr.drewN nq := ⟨_, rfl⟩
              have HV : Hid (Below w.heap.size w V) := by rw [hV]; exact below_drewN HB.out nq
              rw [← hV]
              clear hV HB
              go_wp2
              go_ret2
              exact ⟨by rw [HN.out]; rfl, HV.out⟩
end Go.Proofs.Ytgpopploimeeaaa
