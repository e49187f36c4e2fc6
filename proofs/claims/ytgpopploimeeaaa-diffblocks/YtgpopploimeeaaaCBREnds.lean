/-
  PROVED HERE: the document's own Ends: what two lists share at both ends.
-/
import Derived.Test.YtgpopploimeeaaaCB11
namespace Go.Proofs.Ytgpopploimeeaaa
open Go.RowKit

/-- How many tokens two lists begin with alike. -/
def headP : List Tok → List Tok → Nat
  | x :: r, y :: s => if tokEq x y then headP r s + 1 else 0
  | _, _ => 0
theorem headP_nil (l : List Tok) : headP l [] = 0 := by cases l <;> rfl
theorem headP_le : ∀ (l m : List Tok), headP l m ≤ l.length ∧ headP l m ≤ m.length
  | [], _ => ⟨Nat.le_refl _, Nat.zero_le _⟩
  | x :: r, [] => ⟨Nat.zero_le _, Nat.le_refl _⟩
  | x :: r, y :: s => by
    have := headP_le r s
    unfold headP
    split <;> simp only [List.length_cons] <;> omega
/-- What they share behind the head. -/
def tailP (l m : List Tok) : Nat := headP (l.drop (headP l m)).reverse (m.drop (headP l m)).reverse

/-- One step of the search. -/
theorem headP_go {l m : List Tok} {k h : Nat} {x y : Tok} (hh : h = k + headP (l.drop k) (m.drop k)) (hx : l[k]? = some x) (hy : m[k]? = some y) :
    (tokEq x y = true ∧ h = (k + 1) + headP (l.drop (k + 1)) (m.drop (k + 1))) ∨ (tokEq x y = false ∧ h = k) := by
  have hl : k < l.length := (List.getElem?_eq_some_iff.1 hx).1
  have hm : k < m.length := (List.getElem?_eq_some_iff.1 hy).1
  rw [List.drop_eq_getElem_cons hl, List.drop_eq_getElem_cons hm, headP] at hh
  rw [List.getElem?_eq_getElem hl] at hx
  rw [List.getElem?_eq_getElem hm] at hy
  rw [Option.some.inj hx, Option.some.inj hy] at hh
  cases e : tokEq x y with
  | true => rw [e, if_pos rfl] at hh; exact .inl ⟨rfl, by omega⟩
  | false => rw [e] at hh; exact .inr ⟨rfl, hh⟩
theorem headP_end {l m : List Tok} {k h : Nat} (hh : h = k + headP (l.drop k) (m.drop k)) (he : l.length ≤ k ∨ m.length ≤ k) : h = k := by
  rcases he with he | he
  · rw [List.drop_eq_nil_of_le he] at hh
    exact hh
  · rw [List.drop_eq_nil_of_le he, headP_nil] at hh
    exact hh
/-- The k-th from behind, of what lies behind the n-th. -/
theorem rev_at {l : List Tok} {n k : Nat} (h : k + n < l.length) : ((l.drop n).reverse)[k]? = l[l.length - 1 - k]? := by
  rw [List.getElem?_reverse (by rw [List.length_drop]; omega), List.length_drop, List.getElem?_drop]
  congr 1
  omega

set_option maxRecDepth 100000 in
set_option maxHeartbeats 4000000 in
theorem ends_calls (a1 a2 : Option Addr) (n1 n2 c1 c2 : Nat) (l1 l2 : List Tok) (w : World) (h1 : Toks w a1 n1 l1) (h2 : Toks w a2 n2 l2) (hz1 : n1 ≤ 35184372088832) (hz2 : n2 ≤ 35184372088832) :
    Calls Try.prog 9 #[.slice a1 n1 c1, .slice a2 n2 c2] w fun e w' => e = .returned (.tuple #[.int .i64 (headP l1 l2 : Int), .int .i64 (tailP l1 l2 : Int)]) ∧ Below w.heap.size w w' := by
  have hg := fun (x y : Operand) (xs ys : Array Value) (W : World) => tok_eqGuard .eql x y xs ys W
  have H1 := hide_ h1
  have H2 := hide_ h2
  obtain ⟨H, hH⟩ : ∃ H, headP l1 l2 = H := ⟨_, rfl⟩
  obtain ⟨T, hT⟩ : ∃ T, tailP l1 l2 = T := ⟨_, rfl⟩
  rw [hH, hT]
  have HT := hide_ hT
  have HH := hide_ hH
  clear h1 h2 hT hH
  go_enter Try.func9, Try.ntmps9
  go_wp2
  go_loopg [6] (n1 + 1) (fun gk u wr => ∃ k : Nat, u = .int .i64 (k : Int) ∧ k ≤ n1 ∧ k ≤ n2 ∧ n1 < k + gk ∧ Hid (H = k + headP (l1.drop k) (l2.drop k)) ∧ Hid (Below w.heap.size w wr))
  case atStart => exact ⟨0, rfl, Nat.zero_le _, Nat.zero_le _, by omega, by show H = 0 + headP l1 l2; rw [HH.out, Nat.zero_add], Below.refl _ w⟩
  case round =>
    obtain ⟨k, rfl, hk1, hk2, hgk, HR, HB⟩ := hrel
    have hk0 : (0 : Int) ≤ (k : Int) := by omega
    by_cases hlt : k < n1 ∧ k < n2
    · obtain ⟨hlt1, hlt2⟩ := hlt
      have hi1 : (k : Int) < (n1 : Int) := by omega
      have hi2 : (k : Int) < (n2 : Int) := by omega
      obtain ⟨b, o, x, rfl, hbl, hx, hc⟩ := H1.out.token hlt1
      obtain ⟨b', o', y, rfl, hbl', hy, hc'⟩ := H2.out.token hlt2
      obtain ⟨p0, p1, p2, p3⟩ := hc wr HB.out
      obtain ⟨q0, q1, q2, q3⟩ := hc' wr HB.out
      have hgo := headP_go HR.out hx hy
      clear hc hc' hx hy
      have hq := fun W => tok_eql x y W
      generalize tokEq x y = d at *
      simp only [tokV] at hq
      obtain ⟨xk, xt, xn, xm⟩ := x
      obtain ⟨yk, yt, yn, ym⟩ := y
      simp only at *
      rcases hgo with ⟨rfl, hN⟩ | ⟨rfl, hN⟩
      · have HN := hide_ hN
        clear hN HR
        go_wp2_with fail
        go_quiet (fail)
        obtain ⟨V, hV⟩ : ∃ V, V = wr.drewN nq := ⟨_, rfl⟩
        have HV : Hid (Below w.heap.size w V) := by rw [hV]; exact below_drewN HB.out nq
        rw [← hV]
        clear hV HB
        go_wp2
        go_roundg (n1 - k)
        case measure => omega
        case rel => exact ⟨k + 1, by first | rfl | go_num, by omega, by omega, by omega, HN, HV⟩
      · have HN : Hid (H = k) := hide_ hN
        clear hN HR
        go_wp2_with fail
        go_quiet (fail)
        obtain ⟨V, hV⟩ : ∃ V, V = wr.drewN nq := ⟨_, rfl⟩
        have HV : Hid (Below w.heap.size w V) := by rw [hV]; exact below_drewN HB.out nq
        rw [← hV]
        clear hV HB
        have eH := HN.out
        subst eH
        have HS : Hid (T = 0 + headP ((l1.drop H).reverse.drop 0) ((l2.drop H).reverse.drop 0)) := by
          show T = 0 + headP (l1.drop H).reverse (l2.drop H).reverse
          rw [Nat.zero_add, ← HT.out, tailP, HH.out]
        clear HN HT HH
        have w1 : IntKind.i64.wrap ((n1 : Int) - (H : Int)) = (n1 : Int) - (H : Int) := by rw [IntKind.wrap_i64]; omega
        have w2 : IntKind.i64.wrap ((n2 : Int) - (H : Int)) = (n2 : Int) - (H : Int) := by rw [IntKind.wrap_i64]; omega
        go_wp2
        go_loopg [7] (n1 + 1) (fun gk u wr => ∃ k : Nat, u = .int .i64 (k : Int) ∧ k + H ≤ n1 ∧ k + H ≤ n2 ∧ n1 < k + gk ∧ Hid (T = k + headP ((l1.drop H).reverse.drop k) ((l2.drop H).reverse.drop k)) ∧ Hid (Below w.heap.size w wr))
        case atStart => exact ⟨0, rfl, by omega, by omega, by omega, HS, HV⟩
        case round =>
          obtain ⟨k, rfl, hkn1, hkn2, hgk, HR, HB⟩ := hrel
          clear HS HV
          have hk0 : (0 : Int) ≤ (k : Int) := by omega
          by_cases hlt : k + H < n1 ∧ k + H < n2
          · obtain ⟨hlt1, hlt2⟩ := hlt
            have hi1 : (k : Int) < (n1 : Int) - (H : Int) := by omega
            have hi2 : (k : Int) < (n2 : Int) - (H : Int) := by omega
            obtain ⟨p, hp⟩ : ∃ p, p = n1 - 1 - k := ⟨_, rfl⟩
            obtain ⟨q, hq'⟩ : ∃ q, q = n2 - 1 - k := ⟨_, rfl⟩
            have e1 : (n1 : Int) - 1 - (k : Int) = (p : Int) := by omega
            have e2 : (n2 : Int) - 1 - (k : Int) = (q : Int) := by omega
            have hpn : p < n1 := by omega
            have hqn : q < n2 := by omega
            have hpi : (p : Int) < (n1 : Int) := by omega
            have hqi : (q : Int) < (n2 : Int) := by omega
            have hp0 : (0 : Int) ≤ (p : Int) := by omega
            have hq0 : (0 : Int) ≤ (q : Int) := by omega
            obtain ⟨b, o, x, ha1, hbl, hx, hc⟩ := H1.out.token hpn
            obtain ⟨b', o', y, ha2, hbl', hy, hc'⟩ := H2.out.token hqn
            cases ha1
            cases ha2
            obtain ⟨p0, p1, p2, p3⟩ := hc wr HB.out
            obtain ⟨q0, q1, q2, q3⟩ := hc' wr HB.out
            have L1 := H1.out.1
            have L2 := H2.out.1
            have hgo := headP_go HR.out (x := x) (y := y) (by rw [rev_at (by omega), L1, ← hp]; exact hx) (by rw [rev_at (by omega), L2, ← hq']; exact hy)
            clear hc hc' hx hy hp hq' L1 L2
            have hq := fun W => tok_eql x y W
            generalize tokEq x y = d at *
            simp only [tokV] at hq
            obtain ⟨xk, xt, xn, xm⟩ := x
            obtain ⟨yk, yt, yn, ym⟩ := y
            simp only at *
            rcases hgo with ⟨rfl, hN⟩ | ⟨rfl, hN⟩
            · have HN := hide_ hN
              clear hN HR
              go_wp2_with fail
              go_quiet (fail)
              obtain ⟨V, hV⟩ : ∃ V, V = wr.drewN nq := ⟨_, rfl⟩
              have HV : Hid (Below w.heap.size w V) := by rw [hV]; exact below_drewN HB.out nq
              rw [← hV]
              clear hV HB
              go_wp2
              go_roundg (n1 - k)
              case measure => omega
              case rel => exact ⟨k + 1, by first | rfl | go_num, by omega, by omega, by omega, HN, HV⟩
            · have HN : Hid (T = k) := hide_ hN
              clear hN HR
              go_wp2_with fail
              go_quiet (fail)
              obtain ⟨V, hV⟩ : ∃ V, V = wr.drewN nq := ⟨_, rfl⟩
              have HV : Hid (Below w.heap.size w V) := by rw [hV]; exact below_drewN HB.out nq
              rw [← hV]
              clear hV HB
              go_wp2
              go_ret2
              exact ⟨by rw [HN.out]; rfl, HV.out⟩
          · have HN : Hid (T = k) := headP_end HR.out (by
              rw [List.length_reverse, List.length_reverse, List.length_drop, List.length_drop]
              have := H1.out.1
              have := H2.out.1
              omega)
            clear HR
            by_cases hlt1 : k + H < n1
            · have hi1 : (k : Int) < (n1 : Int) - (H : Int) := by omega
              have hi2 : decide ((k : Int) < (n2 : Int) - (H : Int)) = false := decide_eq_false (by omega)
              go_wp2_with fail
              go_quiet (fail)
              obtain ⟨V, hV⟩ : ∃ V, V = wr.drewN nq := ⟨_, rfl⟩
              have HV : Hid (Below w.heap.size w V) := by rw [hV]; exact below_drewN HB.out nq
              rw [← hV]
              clear hV HB
              go_wp2
              go_ret2
              exact ⟨by rw [HN.out]; rfl, HV.out⟩
            · have hi1 : decide ((k : Int) < (n1 : Int) - (H : Int)) = false := decide_eq_false (by omega)
              go_wp2_with fail
              go_quiet (fail)
              obtain ⟨V, hV⟩ : ∃ V, V = wr.drewN nq := ⟨_, rfl⟩
              have HV : Hid (Below w.heap.size w V) := by rw [hV]; exact below_drewN HB.out nq
              rw [← hV]
              clear hV HB
              go_wp2
              go_ret2
              exact ⟨by rw [HN.out]; rfl, HV.out⟩
    · have HN : Hid (H = k) := headP_end HR.out (by have := H1.out.1; have := H2.out.1; omega)
      clear HR
      by_cases hlt1 : k < n1
      · have hi1 : (k : Int) < (n1 : Int) := by omega
        have hi2 : ¬ ((k : Int) < (n2 : Int)) := by omega
        have hm2 : ¬ (k < n2) := by omega
        go_wp2_with fail
        go_quiet (fail)
        obtain ⟨V, hV⟩ : ∃ V, V = wr.drewN nq := ⟨_, rfl⟩
        have HV : Hid (Below w.heap.size w V) := by rw [hV]; exact below_drewN HB.out nq
        rw [← hV]
        clear hV HB
        have eH := HN.out
        subst eH
        have HS : Hid (T = 0 + headP ((l1.drop H).reverse.drop 0) ((l2.drop H).reverse.drop 0)) := by
          show T = 0 + headP (l1.drop H).reverse (l2.drop H).reverse
          rw [Nat.zero_add, ← HT.out, tailP, HH.out]
        clear HN HT HH
        have w1 : IntKind.i64.wrap ((n1 : Int) - (H : Int)) = (n1 : Int) - (H : Int) := by rw [IntKind.wrap_i64]; omega
        have w2 : IntKind.i64.wrap ((n2 : Int) - (H : Int)) = (n2 : Int) - (H : Int) := by rw [IntKind.wrap_i64]; omega
        go_wp2
        go_loopg [7] (n1 + 1) (fun gk u wr => ∃ k : Nat, u = .int .i64 (k : Int) ∧ k + H ≤ n1 ∧ k + H ≤ n2 ∧ n1 < k + gk ∧ Hid (T = k + headP ((l1.drop H).reverse.drop k) ((l2.drop H).reverse.drop k)) ∧ Hid (Below w.heap.size w wr))
        case atStart => exact ⟨0, rfl, by omega, by omega, by omega, HS, HV⟩
        case round =>
          obtain ⟨k, rfl, hkn1, hkn2, hgk, HR, HB⟩ := hrel
          clear HS HV
          have hk0 : (0 : Int) ≤ (k : Int) := by omega
          by_cases hlt : k + H < n1 ∧ k + H < n2
          · obtain ⟨hlt1, hlt2⟩ := hlt
            have hi1 : (k : Int) < (n1 : Int) - (H : Int) := by omega
            have hi2 : (k : Int) < (n2 : Int) - (H : Int) := by omega
            obtain ⟨p, hp⟩ : ∃ p, p = n1 - 1 - k := ⟨_, rfl⟩
            obtain ⟨q, hq'⟩ : ∃ q, q = n2 - 1 - k := ⟨_, rfl⟩
            have e1 : (n1 : Int) - 1 - (k : Int) = (p : Int) := by omega
            have e2 : (n2 : Int) - 1 - (k : Int) = (q : Int) := by omega
            have hpn : p < n1 := by omega
            have hqn : q < n2 := by omega
            have hpi : (p : Int) < (n1 : Int) := by omega
            have hqi : (q : Int) < (n2 : Int) := by omega
            have hp0 : (0 : Int) ≤ (p : Int) := by omega
            have hq0 : (0 : Int) ≤ (q : Int) := by omega
            obtain ⟨b, o, x, ha1, hbl, hx, hc⟩ := H1.out.token hpn
            obtain ⟨b', o', y, ha2, hbl', hy, hc'⟩ := H2.out.token hqn
            cases ha1
            cases ha2
            obtain ⟨p0, p1, p2, p3⟩ := hc wr HB.out
            obtain ⟨q0, q1, q2, q3⟩ := hc' wr HB.out
            have L1 := H1.out.1
            have L2 := H2.out.1
            have hgo := headP_go HR.out (x := x) (y := y) (by rw [rev_at (by omega), L1, ← hp]; exact hx) (by rw [rev_at (by omega), L2, ← hq']; exact hy)
            clear hc hc' hx hy hp hq' L1 L2
            have hq := fun W => tok_eql x y W
            generalize tokEq x y = d at *
            simp only [tokV] at hq
            obtain ⟨xk, xt, xn, xm⟩ := x
            obtain ⟨yk, yt, yn, ym⟩ := y
            simp only at *
            rcases hgo with ⟨rfl, hN⟩ | ⟨rfl, hN⟩
            · have HN := hide_ hN
              clear hN HR
              go_wp2_with fail
              go_quiet (fail)
              obtain ⟨V, hV⟩ : ∃ V, V = wr.drewN nq := ⟨_, rfl⟩
              have HV : Hid (Below w.heap.size w V) := by rw [hV]; exact below_drewN HB.out nq
              rw [← hV]
              clear hV HB
              go_wp2
              go_roundg (n1 - k)
              case measure => omega
              case rel => exact ⟨k + 1, by first | rfl | go_num, by omega, by omega, by omega, HN, HV⟩
            · have HN : Hid (T = k) := hide_ hN
              clear hN HR
              go_wp2_with fail
              go_quiet (fail)
              obtain ⟨V, hV⟩ : ∃ V, V = wr.drewN nq := ⟨_, rfl⟩
              have HV : Hid (Below w.heap.size w V) := by rw [hV]; exact below_drewN HB.out nq
              rw [← hV]
              clear hV HB
              go_wp2
              go_ret2
              exact ⟨by rw [HN.out]; rfl, HV.out⟩
          · have HN : Hid (T = k) := headP_end HR.out (by
              rw [List.length_reverse, List.length_reverse, List.length_drop, List.length_drop]
              have := H1.out.1
              have := H2.out.1
              omega)
            clear HR
            by_cases hlt1 : k + H < n1
            · have hi1 : (k : Int) < (n1 : Int) - (H : Int) := by omega
              have hi2 : decide ((k : Int) < (n2 : Int) - (H : Int)) = false := decide_eq_false (by omega)
              go_wp2_with fail
              go_quiet (fail)
              obtain ⟨V, hV⟩ : ∃ V, V = wr.drewN nq := ⟨_, rfl⟩
              have HV : Hid (Below w.heap.size w V) := by rw [hV]; exact below_drewN HB.out nq
              rw [← hV]
              clear hV HB
              go_wp2
              go_ret2
              exact ⟨by rw [HN.out]; rfl, HV.out⟩
            · have hi1 : decide ((k : Int) < (n1 : Int) - (H : Int)) = false := decide_eq_false (by omega)
              go_wp2_with fail
              go_quiet (fail)
              obtain ⟨V, hV⟩ : ∃ V, V = wr.drewN nq := ⟨_, rfl⟩
              have HV : Hid (Below w.heap.size w V) := by rw [hV]; exact below_drewN HB.out nq
              rw [← hV]
              clear hV HB
              go_wp2
              go_ret2
              exact ⟨by rw [HN.out]; rfl, HV.out⟩
      · have hi1 : ¬ ((k : Int) < (n1 : Int)) := by omega
        go_wp2_with fail
        go_quiet (fail)
        obtain ⟨V, hV⟩ : ∃ V, V = wr.drewN nq := ⟨_, rfl⟩
        have HV : Hid (Below w.heap.size w V) := by rw [hV]; exact below_drewN HB.out nq
        rw [← hV]
        clear hV HB
        have eH := HN.out
        subst eH
        have HS : Hid (T = 0 + headP ((l1.drop H).reverse.drop 0) ((l2.drop H).reverse.drop 0)) := by
          show T = 0 + headP (l1.drop H).reverse (l2.drop H).reverse
          rw [Nat.zero_add, ← HT.out, tailP, HH.out]
        clear HN HT HH
        have w1 : IntKind.i64.wrap ((n1 : Int) - (H : Int)) = (n1 : Int) - (H : Int) := by rw [IntKind.wrap_i64]; omega
        have w2 : IntKind.i64.wrap ((n2 : Int) - (H : Int)) = (n2 : Int) - (H : Int) := by rw [IntKind.wrap_i64]; omega
        go_wp2
        go_loopg [7] (n1 + 1) (fun gk u wr => ∃ k : Nat, u = .int .i64 (k : Int) ∧ k + H ≤ n1 ∧ k + H ≤ n2 ∧ n1 < k + gk ∧ Hid (T = k + headP ((l1.drop H).reverse.drop k) ((l2.drop H).reverse.drop k)) ∧ Hid (Below w.heap.size w wr))
        case atStart => exact ⟨0, rfl, by omega, by omega, by omega, HS, HV⟩
        case round =>
          obtain ⟨k, rfl, hkn1, hkn2, hgk, HR, HB⟩ := hrel
          clear HS HV
          have hk0 : (0 : Int) ≤ (k : Int) := by omega
          by_cases hlt : k + H < n1 ∧ k + H < n2
          · obtain ⟨hlt1, hlt2⟩ := hlt
            have hi1 : (k : Int) < (n1 : Int) - (H : Int) := by omega
            have hi2 : (k : Int) < (n2 : Int) - (H : Int) := by omega
            obtain ⟨p, hp⟩ : ∃ p, p = n1 - 1 - k := ⟨_, rfl⟩
            obtain ⟨q, hq'⟩ : ∃ q, q = n2 - 1 - k := ⟨_, rfl⟩
            have e1 : (n1 : Int) - 1 - (k : Int) = (p : Int) := by omega
            have e2 : (n2 : Int) - 1 - (k : Int) = (q : Int) := by omega
            have hpn : p < n1 := by omega
            have hqn : q < n2 := by omega
            have hpi : (p : Int) < (n1 : Int) := by omega
            have hqi : (q : Int) < (n2 : Int) := by omega
            have hp0 : (0 : Int) ≤ (p : Int) := by omega
            have hq0 : (0 : Int) ≤ (q : Int) := by omega
            obtain ⟨b, o, x, ha1, hbl, hx, hc⟩ := H1.out.token hpn
            obtain ⟨b', o', y, ha2, hbl', hy, hc'⟩ := H2.out.token hqn
            cases ha1
            cases ha2
            obtain ⟨p0, p1, p2, p3⟩ := hc wr HB.out
            obtain ⟨q0, q1, q2, q3⟩ := hc' wr HB.out
            have L1 := H1.out.1
            have L2 := H2.out.1
            have hgo := headP_go HR.out (x := x) (y := y) (by rw [rev_at (by omega), L1, ← hp]; exact hx) (by rw [rev_at (by omega), L2, ← hq']; exact hy)
            clear hc hc' hx hy hp hq' L1 L2
            have hq := fun W => tok_eql x y W
            generalize tokEq x y = d at *
            simp only [tokV] at hq
            obtain ⟨xk, xt, xn, xm⟩ := x
            obtain ⟨yk, yt, yn, ym⟩ := y
            simp only at *
            rcases hgo with ⟨rfl, hN⟩ | ⟨rfl, hN⟩
            · have HN := hide_ hN
              clear hN HR
              go_wp2_with fail
              go_quiet (fail)
              obtain ⟨V, hV⟩ : ∃ V, V = wr.drewN nq := ⟨_, rfl⟩
              have HV : Hid (Below w.heap.size w V) := by rw [hV]; exact below_drewN HB.out nq
              rw [← hV]
              clear hV HB
              go_wp2
              go_roundg (n1 - k)
              case measure => omega
              case rel => exact ⟨k + 1, by first | rfl | go_num, by omega, by omega, by omega, HN, HV⟩
            · have HN : Hid (T = k) := hide_ hN
              clear hN HR
              go_wp2_with fail
              go_quiet (fail)
              obtain ⟨V, hV⟩ : ∃ V, V = wr.drewN nq := ⟨_, rfl⟩
              have HV : Hid (Below w.heap.size w V) := by rw [hV]; exact below_drewN HB.out nq
              rw [← hV]
              clear hV HB
              go_wp2
              go_ret2
              exact ⟨by rw [HN.out]; rfl, HV.out⟩
          · have HN : Hid (T = k) := headP_end HR.out (by
              rw [List.length_reverse, List.length_reverse, List.length_drop, List.length_drop]
              have := H1.out.1
              have := H2.out.1
              omega)
            clear HR
            by_cases hlt1 : k + H < n1
            · have hi1 : (k : Int) < (n1 : Int) - (H : Int) := by omega
              have hi2 : decide ((k : Int) < (n2 : Int) - (H : Int)) = false := decide_eq_false (by omega)
              go_wp2_with fail
              go_quiet (fail)
              obtain ⟨V, hV⟩ : ∃ V, V = wr.drewN nq := ⟨_, rfl⟩
              have HV : Hid (Below w.heap.size w V) := by rw [hV]; exact below_drewN HB.out nq
              rw [← hV]
              clear hV HB
              go_wp2
              go_ret2
              exact ⟨by rw [HN.out]; rfl, HV.out⟩
            · have hi1 : decide ((k : Int) < (n1 : Int) - (H : Int)) = false := decide_eq_false (by omega)
              go_wp2_with fail
              go_quiet (fail)
              obtain ⟨V, hV⟩ : ∃ V, V = wr.drewN nq := ⟨_, rfl⟩
              have HV : Hid (Below w.heap.size w V) := by rw [hV]; exact below_drewN HB.out nq
              rw [← hV]
              clear hV HB
              go_wp2
              go_ret2
              exact ⟨by rw [HN.out]; rfl, HV.out⟩
end Go.Proofs.Ytgpopploimeeaaa
