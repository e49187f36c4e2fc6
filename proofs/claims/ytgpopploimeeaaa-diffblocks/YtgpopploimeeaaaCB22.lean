/-
  PROVED HERE: what the texts PEnds, DAwk say (each has its own words below).
-/
import Derived.Test.YtgpopploimeeaaaCBREnds
/- PEnds: the program's own Ends: what two lists share at both ends. -/
namespace Go.Proofs.Ytgpopploimeeaaa
open Go.RowKit

set_option maxRecDepth 100000 in
set_option maxHeartbeats 8000000 in
theorem pends_calls (a1 a2 : Option Addr) (n1 n2 c1 c2 : Nat) (l1 l2 : List Tok) (w : World) (h1 : Toks w a1 n1 l1) (h2 : Toks w a2 n2 l2) (hz1 : n1 ≤ 35184372088832) (hz2 : n2 ≤ 35184372088832) :
    Calls Try.prog 8 #[.slice a1 n1 c1, .slice a2 n2 c2] w fun e w' => e = .returned (.tuple #[.int .i64 (headP l1 l2 : Int), .int .i64 (tailP l1 l2 : Int)]) ∧ Below w.heap.size w w' := by
  have hg := fun (x y : Operand) (xs ys : Array Value) (W : World) => tok_eqGuard .eql x y xs ys W
  have H1 := hide_ h1
  have H2 := hide_ h2
  obtain ⟨H, hH⟩ : ∃ H, headP l1 l2 = H := ⟨_, rfl⟩
  obtain ⟨T, hT⟩ : ∃ T, tailP l1 l2 = T := ⟨_, rfl⟩
  rw [hH, hT]
  have HT := hide_ hT
  have HH := hide_ hH
  clear h1 h2 hT hH
  by_cases hle : n1 ≤ n2
  · have hleI : (n1 : Int) ≤ (n2 : Int) := by omega
    go_enter Try.func8, Try.ntmps8
    go_wp2
    go_loopg [7] (n1 + 1) (fun gk u wr => ∃ k : Nat, u = .int .i64 (k : Int) ∧ k ≤ n1 ∧ k ≤ n2 ∧ n1 < k + gk ∧ Hid (H = k + headP (l1.drop k) (l2.drop k)) ∧ Hid (Below w.heap.size w wr))
    case atStart => exact ⟨0, rfl, Nat.zero_le _, Nat.zero_le _, by omega, by show H = 0 + headP l1 l2; rw [HH.out, Nat.zero_add], Below.refl _ w⟩
    case round =>
      obtain ⟨k, rfl, hk1, hk2, hgk, HR, HB⟩ := hrel
      have hk0 : (0 : Int) ≤ (k : Int) := by omega
      by_cases hlt : k < n1
      · have hlt1 : k < n1 := by omega
        have hlt2 : k < n2 := by omega
        have hi1 : (k : Int) < (n1 : Int) := by omega
        have hi2 : (k : Int) < (n2 : Int) := by omega
        obtain ⟨b, o, x, rfl, hbl, hx, hc⟩ := H1.out.token hlt1
        obtain ⟨b', o', y, rfl, hbl', hy, hc'⟩ := H2.out.token hlt2
        obtain ⟨p0, p1, p2, p3⟩ := hc wr HB.out
        obtain ⟨q0, q1, q2, q3⟩ := hc' wr HB.out
        have hgo := headP_go HR.out hx hy
        clear hc hc' hx hy
        have hq := fun W => tok_eql x y W
        generalize tokEq x y = d at *
        simp only [tokV] at hq
        obtain ⟨xk, xt, xn, xm⟩ := x
        obtain ⟨yk, yt, yn, ym⟩ := y
        simp only at *
        rcases hgo with ⟨rfl, hN⟩ | ⟨rfl, hN⟩
        · have HN := hide_ hN
          clear hN HR
          go_wp2_with fail
          go_quiet (fail)
          obtain ⟨V, hV⟩ : ∃ V, V = wr.drewN nq := ⟨_, rfl⟩
          have HV : Hid (Below w.heap.size w V) := by rw [hV]; exact below_drewN HB.out nq
          rw [← hV]
          clear hV HB
          go_wp2
          go_roundg (n1 - k)
          case measure => omega
          case rel => exact ⟨k + 1, by first | rfl | go_num, by omega, by omega, by omega, HN, HV⟩
        · have HN : Hid (H = k) := hide_ hN
          clear hN HR
          go_wp2_with fail
          go_quiet (fail)
          obtain ⟨V, hV⟩ : ∃ V, V = wr.drewN nq := ⟨_, rfl⟩
          have HV : Hid (Below w.heap.size w V) := by rw [hV]; exact below_drewN HB.out nq
          rw [← hV]
          clear hV HB
          clear p0 p1 p2 p3 q0 q1 q2 q3 hq
          have eH := HN.out
          subst eH
          have HS : Hid (T = 0 + headP ((l1.drop H).reverse.drop 0) ((l2.drop H).reverse.drop 0)) := by
            show T = 0 + headP (l1.drop H).reverse (l2.drop H).reverse
            rw [Nat.zero_add, ← HT.out, tailP, HH.out]
          clear HN HT HH
          have w1 : IntKind.i64.wrap ((n1 : Int) - (H : Int)) = (n1 : Int) - (H : Int) := by rw [IntKind.wrap_i64]; omega
          go_wp2
          go_loopg [8] (n1 + 1) (fun gk u wr => ∃ k : Nat, u = .int .i64 (k : Int) ∧ k + H ≤ n1 ∧ k + H ≤ n2 ∧ n1 < k + gk ∧ Hid (T = k + headP ((l1.drop H).reverse.drop k) ((l2.drop H).reverse.drop k)) ∧ Hid (Below w.heap.size w wr))
          case atStart => exact ⟨0, rfl, by omega, by omega, by omega, HS, HV⟩
          case round =>
            obtain ⟨k, rfl, hkn1, hkn2, hgk, HR, HB⟩ := hrel
            clear HS HV
            have hk0 : (0 : Int) ≤ (k : Int) := by omega
            by_cases hlt : k + H < n1
            · have hlt1 : k + H < n1 := by omega
              have hlt2 : k + H < n2 := by omega
              have hi1 : (k : Int) < (n1 : Int) - (H : Int) := by omega
              obtain ⟨p, hp⟩ : ∃ p, p = n1 - 1 - k := ⟨_, rfl⟩
              obtain ⟨q, hq'⟩ : ∃ q, q = n2 - 1 - k := ⟨_, rfl⟩
              have e1 : (n1 : Int) - 1 - (k : Int) = (p : Int) := by omega
              have e2 : (n2 : Int) - 1 - (k : Int) = (q : Int) := by omega
              have hpn : p < n1 := by omega
              have hqn : q < n2 := by omega
              have hpi : (p : Int) < (n1 : Int) := by omega
              have hqi : (q : Int) < (n2 : Int) := by omega
              have hp0 : (0 : Int) ≤ (p : Int) := by omega
              have hq0 : (0 : Int) ≤ (q : Int) := by omega
              obtain ⟨b, o, x, ha1, hbl, hx, hc⟩ := H1.out.token hpn
              obtain ⟨b', o', y, ha2, hbl', hy, hc'⟩ := H2.out.token hqn
              cases ha1
              cases ha2
              obtain ⟨p0, p1, p2, p3⟩ := hc wr HB.out
              obtain ⟨q0, q1, q2, q3⟩ := hc' wr HB.out
              have L1 := H1.out.1
              have L2 := H2.out.1
              have hgo := headP_go HR.out (x := x) (y := y) (by rw [rev_at (by omega), L1, ← hp]; exact hx) (by rw [rev_at (by omega), L2, ← hq']; exact hy)
              clear hc hc' hx hy hp hq' L1 L2
              have hq := fun W => tok_eql x y W
              generalize tokEq x y = d at *
              simp only [tokV] at hq
              obtain ⟨xk, xt, xn, xm⟩ := x
              obtain ⟨yk, yt, yn, ym⟩ := y
              simp only at *
              rcases hgo with ⟨rfl, hN⟩ | ⟨rfl, hN⟩
              · have HN := hide_ hN
                clear hN HR
                go_wp2_with fail
                go_quiet (fail)
                obtain ⟨V, hV⟩ : ∃ V, V = wr.drewN nq := ⟨_, rfl⟩
                have HV : Hid (Below w.heap.size w V) := by rw [hV]; exact below_drewN HB.out nq
                rw [← hV]
                clear hV HB
                go_wp2
                go_roundg (n1 - k)
                case measure => omega
                case rel => exact ⟨k + 1, by first | rfl | go_num, by omega, by omega, by omega, HN, HV⟩
              · have HN : Hid (T = k) := hide_ hN
                clear hN HR
                go_wp2_with fail
                go_quiet (fail)
                obtain ⟨V, hV⟩ : ∃ V, V = wr.drewN nq := ⟨_, rfl⟩
                have HV : Hid (Below w.heap.size w V) := by rw [hV]; exact below_drewN HB.out nq
                rw [← hV]
                clear hV HB
                go_wp2
                go_ret2
                exact ⟨by rw [HN.out]; rfl, HV.out⟩
            · have HN : Hid (T = k) := headP_end HR.out (by
                rw [List.length_reverse, List.length_reverse, List.length_drop, List.length_drop]
                have := H1.out.1
                have := H2.out.1
                omega)
              clear HR
              have hi1 : decide ((k : Int) < (n1 : Int) - (H : Int)) = false := decide_eq_false (by omega)
              go_wp2_with fail
              go_quiet (fail)
              obtain ⟨V, hV⟩ : ∃ V, V = wr.drewN nq := ⟨_, rfl⟩
              have HV : Hid (Below w.heap.size w V) := by rw [hV]; exact below_drewN HB.out nq
              rw [← hV]
              clear hV HB
              go_wp2
              go_ret2
              exact ⟨by rw [HN.out]; rfl, HV.out⟩
      · have HN : Hid (H = k) := headP_end HR.out (by have := H1.out.1; have := H2.out.1; omega)
        clear HR
        have hi1 : decide ((k : Int) < (n1 : Int)) = false := decide_eq_false (by omega)
        go_wp2_with fail
        go_quiet (fail)
        obtain ⟨V, hV⟩ : ∃ V, V = wr.drewN nq := ⟨_, rfl⟩
        have HV : Hid (Below w.heap.size w V) := by rw [hV]; exact below_drewN HB.out nq
        rw [← hV]
        clear hV HB
        have eH := HN.out
        subst eH
        have HS : Hid (T = 0 + headP ((l1.drop H).reverse.drop 0) ((l2.drop H).reverse.drop 0)) := by
          show T = 0 + headP (l1.drop H).reverse (l2.drop H).reverse
          rw [Nat.zero_add, ← HT.out, tailP, HH.out]
        clear HN HT HH
        have w1 : IntKind.i64.wrap ((n1 : Int) - (H : Int)) = (n1 : Int) - (H : Int) := by rw [IntKind.wrap_i64]; omega
        go_wp2
        go_loopg [8] (n1 + 1) (fun gk u wr => ∃ k : Nat, u = .int .i64 (k : Int) ∧ k + H ≤ n1 ∧ k + H ≤ n2 ∧ n1 < k + gk ∧ Hid (T = k + headP ((l1.drop H).reverse.drop k) ((l2.drop H).reverse.drop k)) ∧ Hid (Below w.heap.size w wr))
        case atStart => exact ⟨0, rfl, by omega, by omega, by omega, HS, HV⟩
        case round =>
          obtain ⟨k, rfl, hkn1, hkn2, hgk, HR, HB⟩ := hrel
          clear HS HV
          have hk0 : (0 : Int) ≤ (k : Int) := by omega
          by_cases hlt : k + H < n1
          · have hlt1 : k + H < n1 := by omega
            have hlt2 : k + H < n2 := by omega
            have hi1 : (k : Int) < (n1 : Int) - (H : Int) := by omega
            obtain ⟨p, hp⟩ : ∃ p, p = n1 - 1 - k := ⟨_, rfl⟩
            obtain ⟨q, hq'⟩ : ∃ q, q = n2 - 1 - k := ⟨_, rfl⟩
            have e1 : (n1 : Int) - 1 - (k : Int) = (p : Int) := by omega
            have e2 : (n2 : Int) - 1 - (k : Int) = (q : Int) := by omega
            have hpn : p < n1 := by omega
            have hqn : q < n2 := by omega
            have hpi : (p : Int) < (n1 : Int) := by omega
            have hqi : (q : Int) < (n2 : Int) := by omega
            have hp0 : (0 : Int) ≤ (p : Int) := by omega
            have hq0 : (0 : Int) ≤ (q : Int) := by omega
            obtain ⟨b, o, x, rfl, hbl, hx, hc⟩ := H1.out.token hpn
            obtain ⟨b', o', y, rfl, hbl', hy, hc'⟩ := H2.out.token hqn
            obtain ⟨p0, p1, p2, p3⟩ := hc wr HB.out
            obtain ⟨q0, q1, q2, q3⟩ := hc' wr HB.out
            have L1 := H1.out.1
            have L2 := H2.out.1
            have hgo := headP_go HR.out (x := x) (y := y) (by rw [rev_at (by omega), L1, ← hp]; exact hx) (by rw [rev_at (by omega), L2, ← hq']; exact hy)
            clear hc hc' hx hy hp hq' L1 L2
            have hq := fun W => tok_eql x y W
            generalize tokEq x y = d at *
            simp only [tokV] at hq
            obtain ⟨xk, xt, xn, xm⟩ := x
            obtain ⟨yk, yt, yn, ym⟩ := y
            simp only at *
            rcases hgo with ⟨rfl, hN⟩ | ⟨rfl, hN⟩
            · have HN := hide_ hN
              clear hN HR
              go_wp2_with fail
              go_quiet (fail)
              obtain ⟨V, hV⟩ : ∃ V, V = wr.drewN nq := ⟨_, rfl⟩
              have HV : Hid (Below w.heap.size w V) := by rw [hV]; exact below_drewN HB.out nq
              rw [← hV]
              clear hV HB
              go_wp2
              go_roundg (n1 - k)
              case measure => omega
              case rel => exact ⟨k + 1, by first | rfl | go_num, by omega, by omega, by omega, HN, HV⟩
            · have HN : Hid (T = k) := hide_ hN
              clear hN HR
              go_wp2_with fail
              go_quiet (fail)
              obtain ⟨V, hV⟩ : ∃ V, V = wr.drewN nq := ⟨_, rfl⟩
              have HV : Hid (Below w.heap.size w V) := by rw [hV]; exact below_drewN HB.out nq
              rw [← hV]
              clear hV HB
              go_wp2
              go_ret2
              exact ⟨by rw [HN.out]; rfl, HV.out⟩
          · have HN : Hid (T = k) := headP_end HR.out (by
              rw [List.length_reverse, List.length_reverse, List.length_drop, List.length_drop]
              have := H1.out.1
              have := H2.out.1
              omega)
            clear HR
            have hi1 : decide ((k : Int) < (n1 : Int) - (H : Int)) = false := decide_eq_false (by omega)
            go_wp2_with fail
            go_quiet (fail)
            obtain ⟨V, hV⟩ : ∃ V, V = wr.drewN nq := ⟨_, rfl⟩
            have HV : Hid (Below w.heap.size w V) := by rw [hV]; exact below_drewN HB.out nq
            rw [← hV]
            clear hV HB
            go_wp2
            go_ret2
            exact ⟨by rw [HN.out]; rfl, HV.out⟩
  · have hleI : (n2 : Int) < (n1 : Int) := by omega
    go_enter Try.func8, Try.ntmps8
    go_wp2
    go_loopg [7] (n1 + 1) (fun gk u wr => ∃ k : Nat, u = .int .i64 (k : Int) ∧ k ≤ n1 ∧ k ≤ n2 ∧ n1 < k + gk ∧ Hid (H = k + headP (l1.drop k) (l2.drop k)) ∧ Hid (Below w.heap.size w wr))
    case atStart => exact ⟨0, rfl, Nat.zero_le _, Nat.zero_le _, by omega, by show H = 0 + headP l1 l2; rw [HH.out, Nat.zero_add], Below.refl _ w⟩
    case round =>
      obtain ⟨k, rfl, hk1, hk2, hgk, HR, HB⟩ := hrel
      have hk0 : (0 : Int) ≤ (k : Int) := by omega
      by_cases hlt : k < n2
      · have hlt1 : k < n1 := by omega
        have hlt2 : k < n2 := by omega
        have hi1 : (k : Int) < (n1 : Int) := by omega
        have hi2 : (k : Int) < (n2 : Int) := by omega
        obtain ⟨b, o, x, rfl, hbl, hx, hc⟩ := H1.out.token hlt1
        obtain ⟨b', o', y, rfl, hbl', hy, hc'⟩ := H2.out.token hlt2
        obtain ⟨p0, p1, p2, p3⟩ := hc wr HB.out
        obtain ⟨q0, q1, q2, q3⟩ := hc' wr HB.out
        have hgo := headP_go HR.out hx hy
        clear hc hc' hx hy
        have hq := fun W => tok_eql x y W
        generalize tokEq x y = d at *
        simp only [tokV] at hq
        obtain ⟨xk, xt, xn, xm⟩ := x
        obtain ⟨yk, yt, yn, ym⟩ := y
        simp only at *
        rcases hgo with ⟨rfl, hN⟩ | ⟨rfl, hN⟩
        · have HN := hide_ hN
          clear hN HR
          go_wp2_with fail
          go_quiet (fail)
          obtain ⟨V, hV⟩ : ∃ V, V = wr.drewN nq := ⟨_, rfl⟩
          have HV : Hid (Below w.heap.size w V) := by rw [hV]; exact below_drewN HB.out nq
          rw [← hV]
          clear hV HB
          go_wp2
          go_roundg (n1 - k)
          case measure => omega
          case rel => exact ⟨k + 1, by first | rfl | go_num, by omega, by omega, by omega, HN, HV⟩
        · have HN : Hid (H = k) := hide_ hN
          clear hN HR
          go_wp2_with fail
          go_quiet (fail)
          obtain ⟨V, hV⟩ : ∃ V, V = wr.drewN nq := ⟨_, rfl⟩
          have HV : Hid (Below w.heap.size w V) := by rw [hV]; exact below_drewN HB.out nq
          rw [← hV]
          clear hV HB
          clear p0 p1 p2 p3 q0 q1 q2 q3 hq
          have eH := HN.out
          subst eH
          have HS : Hid (T = 0 + headP ((l1.drop H).reverse.drop 0) ((l2.drop H).reverse.drop 0)) := by
            show T = 0 + headP (l1.drop H).reverse (l2.drop H).reverse
            rw [Nat.zero_add, ← HT.out, tailP, HH.out]
          clear HN HT HH
          have w1 : IntKind.i64.wrap ((n2 : Int) - (H : Int)) = (n2 : Int) - (H : Int) := by rw [IntKind.wrap_i64]; omega
          go_wp2
          go_loopg [8] (n1 + 1) (fun gk u wr => ∃ k : Nat, u = .int .i64 (k : Int) ∧ k + H ≤ n1 ∧ k + H ≤ n2 ∧ n1 < k + gk ∧ Hid (T = k + headP ((l1.drop H).reverse.drop k) ((l2.drop H).reverse.drop k)) ∧ Hid (Below w.heap.size w wr))
          case atStart => exact ⟨0, rfl, by omega, by omega, by omega, HS, HV⟩
          case round =>
            obtain ⟨k, rfl, hkn1, hkn2, hgk, HR, HB⟩ := hrel
            clear HS HV
            have hk0 : (0 : Int) ≤ (k : Int) := by omega
            by_cases hlt : k + H < n2
            · have hlt1 : k + H < n1 := by omega
              have hlt2 : k + H < n2 := by omega
              have hi1 : (k : Int) < (n2 : Int) - (H : Int) := by omega
              obtain ⟨p, hp⟩ : ∃ p, p = n1 - 1 - k := ⟨_, rfl⟩
              obtain ⟨q, hq'⟩ : ∃ q, q = n2 - 1 - k := ⟨_, rfl⟩
              have e1 : (n1 : Int) - 1 - (k : Int) = (p : Int) := by omega
              have e2 : (n2 : Int) - 1 - (k : Int) = (q : Int) := by omega
              have hpn : p < n1 := by omega
              have hqn : q < n2 := by omega
              have hpi : (p : Int) < (n1 : Int) := by omega
              have hqi : (q : Int) < (n2 : Int) := by omega
              have hp0 : (0 : Int) ≤ (p : Int) := by omega
              have hq0 : (0 : Int) ≤ (q : Int) := by omega
              obtain ⟨b, o, x, ha1, hbl, hx, hc⟩ := H1.out.token hpn
              obtain ⟨b', o', y, ha2, hbl', hy, hc'⟩ := H2.out.token hqn
              cases ha1
              cases ha2
              obtain ⟨p0, p1, p2, p3⟩ := hc wr HB.out
              obtain ⟨q0, q1, q2, q3⟩ := hc' wr HB.out
              have L1 := H1.out.1
              have L2 := H2.out.1
              have hgo := headP_go HR.out (x := x) (y := y) (by rw [rev_at (by omega), L1, ← hp]; exact hx) (by rw [rev_at (by omega), L2, ← hq']; exact hy)
              clear hc hc' hx hy hp hq' L1 L2
              have hq := fun W => tok_eql x y W
              generalize tokEq x y = d at *
              simp only [tokV] at hq
              obtain ⟨xk, xt, xn, xm⟩ := x
              obtain ⟨yk, yt, yn, ym⟩ := y
              simp only at *
              rcases hgo with ⟨rfl, hN⟩ | ⟨rfl, hN⟩
              · have HN := hide_ hN
                clear hN HR
                go_wp2_with fail
                go_quiet (fail)
                obtain ⟨V, hV⟩ : ∃ V, V = wr.drewN nq := ⟨_, rfl⟩
                have HV : Hid (Below w.heap.size w V) := by rw [hV]; exact below_drewN HB.out nq
                rw [← hV]
                clear hV HB
                go_wp2
                go_roundg (n1 - k)
                case measure => omega
                case rel => exact ⟨k + 1, by first | rfl | go_num, by omega, by omega, by omega, HN, HV⟩
              · have HN : Hid (T = k) := hide_ hN
                clear hN HR
                go_wp2_with fail
                go_quiet (fail)
                obtain ⟨V, hV⟩ : ∃ V, V = wr.drewN nq := ⟨_, rfl⟩
                have HV : Hid (Below w.heap.size w V) := by rw [hV]; exact below_drewN HB.out nq
                rw [← hV]
                clear hV HB
                go_wp2
                go_ret2
                exact ⟨by rw [HN.out]; rfl, HV.out⟩
            · have HN : Hid (T = k) := headP_end HR.out (by
                rw [List.length_reverse, List.length_reverse, List.length_drop, List.length_drop]
                have := H1.out.1
                have := H2.out.1
                omega)
              clear HR
              have hi1 : decide ((k : Int) < (n2 : Int) - (H : Int)) = false := decide_eq_false (by omega)
              go_wp2_with fail
              go_quiet (fail)
              obtain ⟨V, hV⟩ : ∃ V, V = wr.drewN nq := ⟨_, rfl⟩
              have HV : Hid (Below w.heap.size w V) := by rw [hV]; exact below_drewN HB.out nq
              rw [← hV]
              clear hV HB
              go_wp2
              go_ret2
              exact ⟨by rw [HN.out]; rfl, HV.out⟩
      · have HN : Hid (H = k) := headP_end HR.out (by have := H1.out.1; have := H2.out.1; omega)
        clear HR
        have hi1 : decide ((k : Int) < (n2 : Int)) = false := decide_eq_false (by omega)
        go_wp2_with fail
        go_quiet (fail)
        obtain ⟨V, hV⟩ : ∃ V, V = wr.drewN nq := ⟨_, rfl⟩
        have HV : Hid (Below w.heap.size w V) := by rw [hV]; exact below_drewN HB.out nq
        rw [← hV]
        clear hV HB
        have eH := HN.out
        subst eH
        have HS : Hid (T = 0 + headP ((l1.drop H).reverse.drop 0) ((l2.drop H).reverse.drop 0)) := by
          show T = 0 + headP (l1.drop H).reverse (l2.drop H).reverse
          rw [Nat.zero_add, ← HT.out, tailP, HH.out]
        clear HN HT HH
        have w1 : IntKind.i64.wrap ((n2 : Int) - (H : Int)) = (n2 : Int) - (H : Int) := by rw [IntKind.wrap_i64]; omega
        go_wp2
        go_loopg [8] (n1 + 1) (fun gk u wr => ∃ k : Nat, u = .int .i64 (k : Int) ∧ k + H ≤ n1 ∧ k + H ≤ n2 ∧ n1 < k + gk ∧ Hid (T = k + headP ((l1.drop H).reverse.drop k) ((l2.drop H).reverse.drop k)) ∧ Hid (Below w.heap.size w wr))
        case atStart => exact ⟨0, rfl, by omega, by omega, by omega, HS, HV⟩
        case round =>
          obtain ⟨k, rfl, hkn1, hkn2, hgk, HR, HB⟩ := hrel
          clear HS HV
          have hk0 : (0 : Int) ≤ (k : Int) := by omega
          by_cases hlt : k + H < n2
          · have hlt1 : k + H < n1 := by omega
            have hlt2 : k + H < n2 := by omega
            have hi1 : (k : Int) < (n2 : Int) - (H : Int) := by omega
            obtain ⟨p, hp⟩ : ∃ p, p = n1 - 1 - k := ⟨_, rfl⟩
            obtain ⟨q, hq'⟩ : ∃ q, q = n2 - 1 - k := ⟨_, rfl⟩
            have e1 : (n1 : Int) - 1 - (k : Int) = (p : Int) := by omega
            have e2 : (n2 : Int) - 1 - (k : Int) = (q : Int) := by omega
            have hpn : p < n1 := by omega
            have hqn : q < n2 := by omega
            have hpi : (p : Int) < (n1 : Int) := by omega
            have hqi : (q : Int) < (n2 : Int) := by omega
            have hp0 : (0 : Int) ≤ (p : Int) := by omega
            have hq0 : (0 : Int) ≤ (q : Int) := by omega
            obtain ⟨b, o, x, rfl, hbl, hx, hc⟩ := H1.out.token hpn
            obtain ⟨b', o', y, rfl, hbl', hy, hc'⟩ := H2.out.token hqn
            obtain ⟨p0, p1, p2, p3⟩ := hc wr HB.out
            obtain ⟨q0, q1, q2, q3⟩ := hc' wr HB.out
            have L1 := H1.out.1
            have L2 := H2.out.1
            have hgo := headP_go HR.out (x := x) (y := y) (by rw [rev_at (by omega), L1, ← hp]; exact hx) (by rw [rev_at (by omega), L2, ← hq']; exact hy)
            clear hc hc' hx hy hp hq' L1 L2
            have hq := fun W => tok_eql x y W
            generalize tokEq x y = d at *
            simp only [tokV] at hq
            obtain ⟨xk, xt, xn, xm⟩ := x
            obtain ⟨yk, yt, yn, ym⟩ := y
            simp only at *
            rcases hgo with ⟨rfl, hN⟩ | ⟨rfl, hN⟩
            · have HN := hide_ hN
              clear hN HR
              go_wp2_with fail
              go_quiet (fail)
              obtain ⟨V, hV⟩ : ∃ V, V = wr.drewN nq := ⟨_, rfl⟩
              have HV : Hid (Below w.heap.size w V) := by rw [hV]; exact below_drewN HB.out nq
              rw [← hV]
              clear hV HB
              go_wp2
              go_roundg (n1 - k)
              case measure => omega
              case rel => exact ⟨k + 1, by first | rfl | go_num, by omega, by omega, by omega, HN, HV⟩
            · have HN : Hid (T = k) := hide_ hN
              clear hN HR
              go_wp2_with fail
              go_quiet (fail)
              obtain ⟨V, hV⟩ : ∃ V, V = wr.drewN nq := ⟨_, rfl⟩
              have HV : Hid (Below w.heap.size w V) := by rw [hV]; exact below_drewN HB.out nq
              rw [← hV]
              clear hV HB
              go_wp2
              go_ret2
              exact ⟨by rw [HN.out]; rfl, HV.out⟩
          · have HN : Hid (T = k) := headP_end HR.out (by
              rw [List.length_reverse, List.length_reverse, List.length_drop, List.length_drop]
              have := H1.out.1
              have := H2.out.1
              omega)
            clear HR
            have hi1 : decide ((k : Int) < (n2 : Int) - (H : Int)) = false := decide_eq_false (by omega)
            go_wp2_with fail
            go_quiet (fail)
            obtain ⟨V, hV⟩ : ∃ V, V = wr.drewN nq := ⟨_, rfl⟩
            have HV : Hid (Below w.heap.size w V) := by rw [hV]; exact below_drewN HB.out nq
            rw [← hV]
            clear hV HB
            go_wp2
            go_ret2
            exact ⟨by rw [HN.out]; rfl, HV.out⟩
end Go.Proofs.Ytgpopploimeeaaa

/- DAwk: emenderlaw23.awake answers true. -/
namespace Go.Proofs.Ytgpopploimeeaaa
open Go.RowKit

theorem toks_one (W : World) (x : Tok) (b : Nat) (h : W.heap[b]? = some (.cells #[.int .i64 x.k, .int .i64 x.t, .int .i64 x.n, .int .i64 x.m] 62 (0, 0))) : Toks W (some ⟨b, 0, none⟩) 1 [x] := by
  refine ⟨rfl, .inr ⟨b, 0, rfl, (Array.getElem?_eq_some_iff.1 h).1, fun i y hy => ?_⟩⟩
  match i, hy with
  | 0, hy =>
    obtain rfl : x = y := by simpa using hy
    simp only [World.cell?]
    rw [h]
    exact ⟨rfl, rfl, rfl, rfl⟩
  | i + 1, hy => simp at hy

set_option maxRecDepth 100000 in
set_option maxHeartbeats 1000000 in
theorem awake_calls (w : World) : Calls Try.prog 7 #[] w fun e w' => e = .returned (.bool true) ∧ Below w.heap.size w w' := by
  have hB1 : Below w.heap.size w (w.alloc (.cells #[.int .i64 0, .int .i64 0, .int .i64 120, .int .i64 0] 62)) := (Below.refl _ w).alloc (Nat.le_refl _) _
  have hB2 : Below w.heap.size w ((w.alloc (.cells #[.int .i64 0, .int .i64 0, .int .i64 120, .int .i64 0] 62)).alloc (.cells #[.int .i64 0, .int .i64 0, .int .i64 120, .int .i64 0] 62)) := hB1.alloc hB1.size _
  have t1 : Toks ((w.alloc (.cells #[.int .i64 0, .int .i64 0, .int .i64 120, .int .i64 0] 62)).alloc (.cells #[.int .i64 0, .int .i64 0, .int .i64 120, .int .i64 0] 62)) (some ⟨w.heap.size, 0, none⟩) 1 [⟨0, 0, 120, 0⟩] :=
    toks_one _ ⟨0, 0, 120, 0⟩ _ ((Below.heap_alloc _ _ _ (by rw [World.size_alloc]; omega)).trans (World.alloc_heap_new _ _))
  have t2 : Toks ((w.alloc (.cells #[.int .i64 0, .int .i64 0, .int .i64 120, .int .i64 0] 62)).alloc (.cells #[.int .i64 0, .int .i64 0, .int .i64 120, .int .i64 0] 62)) (some ⟨w.heap.size + 1, 0, none⟩) 1 [⟨0, 0, 120, 0⟩] :=
    toks_one _ ⟨0, 0, 120, 0⟩ _ (by
      have := World.alloc_heap_new (w.alloc (.cells #[.int .i64 0, .int .i64 0, .int .i64 120, .int .i64 0] 62)) (.cells #[.int .i64 0, .int .i64 0, .int .i64 120, .int .i64 0] 62)
      rw [World.size_alloc] at this
      exact this)
  have HC := hide_ (pends_calls _ _ 1 1 1 1 _ _ _ t1 t2 (by omega) (by omega))
  have HB := hide_ hB2
  have hh : headP [⟨0, 0, 120, 0⟩] [⟨0, 0, 120, 0⟩] = 1 := by simp [headP, tokEq]
  rw [hh] at HC
  clear hB1 hB2 t1 t2 hh
  go_enter Try.func7, Try.ntmps7
  go_wp2_with fail
  refine HC.out.mono ?_
  rintro e W1 ⟨rfl, hB⟩
  have HB2 := hide_ (HB.out.trans (hB.mono HB.out.size))
  clear hB HC HB
  go_wp2
  go_ret
  exact ⟨rfl, HB2.out⟩
end Go.Proofs.Ytgpopploimeeaaa
