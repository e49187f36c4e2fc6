/-
  PROVED HERE: what the texts PEnds, PClone, PStep say (each has its own words below).
-/
import Derived.Test.YtgpopploimeeaaaCR20
import Derived.Test.YtgpopploimeeaaaCR1
import Derived.Laws.Cover3
import Derived.Laws.ResultCell
import Derived.Laws.CopyOwn
/- PEnds: the program's own Ends: what two lists share at both ends. -/
namespace Go.Proofs.Ytgpopploimeeaaa
open Go.RowKit

set_option maxRecDepth 100000 in
set_option maxHeartbeats 8000000 in
theorem pends_calls (a1 a2 : Option Addr) (n1 n2 c1 c2 : Nat) (l1 l2 : List Tok) (w : World) (h1 : Toks w a1 n1 l1) (h2 : Toks w a2 n2 l2) (hz1 : n1 ≤ 35184372088832) (hz2 : n2 ≤ 35184372088832) :
    Calls Try.prog 8 #[.slice a1 n1 c1, .slice a2 n2 c2] w fun e w' => e = .returned (.tuple #[.int .i64 (headP l1 l2 : Int), .int .i64 (tailP l1 l2 : Int)]) ∧ Below w.heap.size w w' := by
  have hg := fun (x y : Operand) (xs ys : Array Value) (W : World) => tok_eqGuard .eql x y xs ys W
  have H1 := hide_ h1
  have H2 := hide_ h2
  obtain ⟨H, hH⟩ : ∃ H, headP l1 l2 = H := ⟨_, rfl⟩
  obtain ⟨T, hT⟩ : ∃ T, tailP l1 l2 = T := ⟨_, rfl⟩
  rw [hH, hT]
  have HT := hide_ hT
  have HH := hide_ hH
  clear h1 h2 hT hH
  by_cases hle : n1 ≤ n2
  · have hleI : (n1 : Int) ≤ (n2 : Int) := by omega
    go_enter Try.func8, Try.ntmps8
    go_wp2
    go_loopg [7] (n1 + 1) (fun gk u wr => ∃ k : Nat, u = .int .i64 (k : Int) ∧ k ≤ n1 ∧ k ≤ n2 ∧ n1 < k + gk ∧ Hid (H = k + headP (l1.drop k) (l2.drop k)) ∧ Hid (Below w.heap.size w wr))
    case atStart => exact ⟨0, rfl, Nat.zero_le _, Nat.zero_le _, by omega, by show H = 0 + headP l1 l2; rw [HH.out, Nat.zero_add], Below.refl _ w⟩
    case round =>
      obtain ⟨k, rfl, hk1, hk2, hgk, HR, HB⟩ := hrel
      have hk0 : (0 : Int) ≤ (k : Int) := by omega
      by_cases hlt : k < n1
      · have hlt1 : k < n1 := by omega
        have hlt2 : k < n2 := by omega
        have hi1 : (k : Int) < (n1 : Int) := by omega
        have hi2 : (k : Int) < (n2 : Int) := by omega
        obtain ⟨b, o, x, rfl, hbl, hx, hc⟩ := H1.out.token hlt1
        obtain ⟨b', o', y, rfl, hbl', hy, hc'⟩ := H2.out.token hlt2
        obtain ⟨p0, p1, p2, p3⟩ := hc wr HB.out
        obtain ⟨q0, q1, q2, q3⟩ := hc' wr HB.out
        have hgo := headP_go HR.out hx hy
        clear hc hc' hx hy
        have hq := fun W => tok_eql x y W
        generalize tokEq x y = d at *
        simp only [tokV] at hq
        obtain ⟨xk, xt, xn, xm⟩ := x
        obtain ⟨yk, yt, yn, ym⟩ := y
        simp only at *
        rcases hgo with ⟨rfl, hN⟩ | ⟨rfl, hN⟩
        · have HN := hide_ hN
          clear hN HR
          go_wp2_with fail
          go_quiet (fail)
          obtain ⟨V, hV⟩ : ∃ V, V = wr.drewN nq := ⟨_, rfl⟩
          have HV : Hid (Below w.heap.size w V) := by rw [hV]; exact below_drewN HB.out nq
          rw [← hV]
          clear hV HB
          go_wp2
          go_roundg (n1 - k)
          case measure => omega
          case rel => exact ⟨k + 1, by first | rfl | go_num, by omega, by omega, by omega, HN, HV⟩
        · have HN : Hid (H = k) := hide_ hN
          clear hN HR
          go_wp2_with fail
          go_quiet (fail)
          obtain ⟨V, hV⟩ : ∃ V, V = wr.drewN nq := ⟨_, rfl⟩
          have HV : Hid (Below w.heap.size w V) := by rw [hV]; exact below_drewN HB.out nq
          rw [← hV]
          clear hV HB
          clear p0 p1 p2 p3 q0 q1 q2 q3 hq
          have eH := HN.out
          subst eH
          have HS : Hid (T = 0 + headP ((l1.drop H).reverse.drop 0) ((l2.drop H).reverse.drop 0)) := by
            show T = 0 + headP (l1.drop H).reverse (l2.drop H).reverse
            rw [Nat.zero_add, ← HT.out, tailP, HH.out]
          clear HN HT HH
          have w1 : IntKind.i64.wrap ((n1 : Int) - (H : Int)) = (n1 : Int) - (H : Int) := by rw [IntKind.wrap_i64]; omega
          go_wp2
          go_loopg [8] (n1 + 1) (fun gk u wr => ∃ k : Nat, u = .int .i64 (k : Int) ∧ k + H ≤ n1 ∧ k + H ≤ n2 ∧ n1 < k + gk ∧ Hid (T = k + headP ((l1.drop H).reverse.drop k) ((l2.drop H).reverse.drop k)) ∧ Hid (Below w.heap.size w wr))
          case atStart => exact ⟨0, rfl, by omega, by omega, by omega, HS, HV⟩
          case round =>
            obtain ⟨k, rfl, hkn1, hkn2, hgk, HR, HB⟩ := hrel
            clear HS HV
            have hk0 : (0 : Int) ≤ (k : Int) := by omega
            by_cases hlt : k + H < n1
            · have hlt1 : k + H < n1 := by omega
              have hlt2 : k + H < n2 := by omega
              have hi1 : (k : Int) < (n1 : Int) - (H : Int) := by omega
              obtain ⟨p, hp⟩ : ∃ p, p = n1 - 1 - k := ⟨_, rfl⟩
              obtain ⟨q, hq'⟩ : ∃ q, q = n2 - 1 - k := ⟨_, rfl⟩
              have e1 : (n1 : Int) - 1 - (k : Int) = (p : Int) := by omega
              have e2 : (n2 : Int) - 1 - (k : Int) = (q : Int) := by omega
              have hpn : p < n1 := by omega
              have hqn : q < n2 := by omega
              have hpi : (p : Int) < (n1 : Int) := by omega
              have hqi : (q : Int) < (n2 : Int) := by omega
              have hp0 : (0 : Int) ≤ (p : Int) := by omega
              have hq0 : (0 : Int) ≤ (q : Int) := by omega
              obtain ⟨b, o, x, ha1, hbl, hx, hc⟩ := H1.out.token hpn
              obtain ⟨b', o', y, ha2, hbl', hy, hc'⟩ := H2.out.token hqn
              cases ha1
              cases ha2
              obtain ⟨p0, p1, p2, p3⟩ := hc wr HB.out
              obtain ⟨q0, q1, q2, q3⟩ := hc' wr HB.out
              have L1 := H1.out.1
              have L2 := H2.out.1
              have hgo := headP_go HR.out (x := x) (y := y) (by rw [rev_at (by omega), L1, ← hp]; exact hx) (by rw [rev_at (by omega), L2, ← hq']; exact hy)
              clear hc hc' hx hy hp hq' L1 L2
              have hq := fun W => tok_eql x y W
              generalize tokEq x y = d at *
              simp only [tokV] at hq
              obtain ⟨xk, xt, xn, xm⟩ := x
              obtain ⟨yk, yt, yn, ym⟩ := y
              simp only at *
              rcases hgo with ⟨rfl, hN⟩ | ⟨rfl, hN⟩
              · have HN := hide_ hN
                clear hN HR
                go_wp2_with fail
                go_quiet (fail)
                obtain ⟨V, hV⟩ : ∃ V, V = wr.drewN nq := ⟨_, rfl⟩
                have HV : Hid (Below w.heap.size w V) := by rw [hV]; exact below_drewN HB.out nq
                rw [← hV]
                clear hV HB
                go_wp2
                go_roundg (n1 - k)
                case measure => omega
                case rel => exact ⟨k + 1, by first | rfl | go_num, by omega, by omega, by omega, HN, HV⟩
              · have HN : Hid (T = k) := hide_ hN
                clear hN HR
                go_wp2_with fail
                go_quiet (fail)
                obtain ⟨V, hV⟩ : ∃ V, V = wr.drewN nq := ⟨_, rfl⟩
                have HV : Hid (Below w.heap.size w V) := by rw [hV]; exact below_drewN HB.out nq
                rw [← hV]
                clear hV HB
                go_wp2
                go_ret2
                exact ⟨by rw [HN.out]; rfl, HV.out⟩
            · have HN : Hid (T = k) := headP_end HR.out (by
                rw [List.length_reverse, List.length_reverse, List.length_drop, List.length_drop]
                have := H1.out.1
                have := H2.out.1
                omega)
              clear HR
              have hi1 : decide ((k : Int) < (n1 : Int) - (H : Int)) = false := decide_eq_false (by omega)
              go_wp2_with fail
              go_quiet (fail)
              obtain ⟨V, hV⟩ : ∃ V, V = wr.drewN nq := ⟨_, rfl⟩
              have HV : Hid (Below w.heap.size w V) := by rw [hV]; exact below_drewN HB.out nq
              rw [← hV]
              clear hV HB
              go_wp2
              go_ret2
              exact ⟨by rw [HN.out]; rfl, HV.out⟩
      · have HN : Hid (H = k) := headP_end HR.out (by have := H1.out.1; have := H2.out.1; omega)
        clear HR
        have hi1 : decide ((k : Int) < (n1 : Int)) = false := decide_eq_false (by omega)
        go_wp2_with fail
        go_quiet (fail)
        obtain ⟨V, hV⟩ : ∃ V, V = wr.drewN nq := ⟨_, rfl⟩
        have HV : Hid (Below w.heap.size w V) := by rw [hV]; exact below_drewN HB.out nq
        rw [← hV]
        clear hV HB
        have eH := HN.out
        subst eH
        have HS : Hid (T = 0 + headP ((l1.drop H).reverse.drop 0) ((l2.drop H).reverse.drop 0)) := by
          show T = 0 + headP (l1.drop H).reverse (l2.drop H).reverse
          rw [Nat.zero_add, ← HT.out, tailP, HH.out]
        clear HN HT HH
        have w1 : IntKind.i64.wrap ((n1 : Int) - (H : Int)) = (n1 : Int) - (H : Int) := by rw [IntKind.wrap_i64]; omega
        go_wp2
        go_loopg [8] (n1 + 1) (fun gk u wr => ∃ k : Nat, u = .int .i64 (k : Int) ∧ k + H ≤ n1 ∧ k + H ≤ n2 ∧ n1 < k + gk ∧ Hid (T = k + headP ((l1.drop H).reverse.drop k) ((l2.drop H).reverse.drop k)) ∧ Hid (Below w.heap.size w wr))
        case atStart => exact ⟨0, rfl, by omega, by omega, by omega, HS, HV⟩
        case round =>
          obtain ⟨k, rfl, hkn1, hkn2, hgk, HR, HB⟩ := hrel
          clear HS HV
          have hk0 : (0 : Int) ≤ (k : Int) := by omega
          by_cases hlt : k + H < n1
          · have hlt1 : k + H < n1 := by omega
            have hlt2 : k + H < n2 := by omega
            have hi1 : (k : Int) < (n1 : Int) - (H : Int) := by omega
            obtain ⟨p, hp⟩ : ∃ p, p = n1 - 1 - k := ⟨_, rfl⟩
            obtain ⟨q, hq'⟩ : ∃ q, q = n2 - 1 - k := ⟨_, rfl⟩
            have e1 : (n1 : Int) - 1 - (k : Int) = (p : Int) := by omega
            have e2 : (n2 : Int) - 1 - (k : Int) = (q : Int) := by omega
            have hpn : p < n1 := by omega
            have hqn : q < n2 := by omega
            have hpi : (p : Int) < (n1 : Int) := by omega
            have hqi : (q : Int) < (n2 : Int) := by omega
            have hp0 : (0 : Int) ≤ (p : Int) := by omega
            have hq0 : (0 : Int) ≤ (q : Int) := by omega
            obtain ⟨b, o, x, rfl, hbl, hx, hc⟩ := H1.out.token hpn
            obtain ⟨b', o', y, rfl, hbl', hy, hc'⟩ := H2.out.token hqn
            obtain ⟨p0, p1, p2, p3⟩ := hc wr HB.out
            obtain ⟨q0, q1, q2, q3⟩ := hc' wr HB.out
            have L1 := H1.out.1
            have L2 := H2.out.1
            have hgo := headP_go HR.out (x := x) (y := y) (by rw [rev_at (by omega), L1, ← hp]; exact hx) (by rw [rev_at (by omega), L2, ← hq']; exact hy)
            clear hc hc' hx hy hp hq' L1 L2
            have hq := fun W => tok_eql x y W
            generalize tokEq x y = d at *
            simp only [tokV] at hq
            obtain ⟨xk, xt, xn, xm⟩ := x
            obtain ⟨yk, yt, yn, ym⟩ := y
            simp only at *
            rcases hgo with ⟨rfl, hN⟩ | ⟨rfl, hN⟩
            · have HN := hide_ hN
              clear hN HR
              go_wp2_with fail
              go_quiet (fail)
              obtain ⟨V, hV⟩ : ∃ V, V = wr.drewN nq := ⟨_, rfl⟩
              have HV : Hid (Below w.heap.size w V) := by rw [hV]; exact below_drewN HB.out nq
              rw [← hV]
              clear hV HB
              go_wp2
              go_roundg (n1 - k)
              case measure => omega
              case rel => exact ⟨k + 1, by first | rfl | go_num, by omega, by omega, by omega, HN, HV⟩
            · have HN : Hid (T = k) := hide_ hN
              clear hN HR
              go_wp2_with fail
              go_quiet (fail)
              obtain ⟨V, hV⟩ : ∃ V, V = wr.drewN nq := ⟨_, rfl⟩
              have HV : Hid (Below w.heap.size w V) := by rw [hV]; exact below_drewN HB.out nq
              rw [← hV]
              clear hV HB
              go_wp2
              go_ret2
              exact ⟨by rw [HN.out]; rfl, HV.out⟩
          · have HN : Hid (T = k) := headP_end HR.out (by
              rw [List.length_reverse, List.length_reverse, List.length_drop, List.length_drop]
              have := H1.out.1
              have := H2.out.1
              omega)
            clear HR
            have hi1 : decide ((k : Int) < (n1 : Int) - (H : Int)) = false := decide_eq_false (by omega)
            go_wp2_with fail
            go_quiet (fail)
            obtain ⟨V, hV⟩ : ∃ V, V = wr.drewN nq := ⟨_, rfl⟩
            have HV : Hid (Below w.heap.size w V) := by rw [hV]; exact below_drewN HB.out nq
            rw [← hV]
            clear hV HB
            go_wp2
            go_ret2
            exact ⟨by rw [HN.out]; rfl, HV.out⟩
  · have hleI : (n2 : Int) < (n1 : Int) := by omega
    go_enter Try.func8, Try.ntmps8
    go_wp2
    go_loopg [7] (n1 + 1) (fun gk u wr => ∃ k : Nat, u = .int .i64 (k : Int) ∧ k ≤ n1 ∧ k ≤ n2 ∧ n1 < k + gk ∧ Hid (H = k + headP (l1.drop k) (l2.drop k)) ∧ Hid (Below w.heap.size w wr))
    case atStart => exact ⟨0, rfl, Nat.zero_le _, Nat.zero_le _, by omega, by show H = 0 + headP l1 l2; rw [HH.out, Nat.zero_add], Below.refl _ w⟩
    case round =>
      obtain ⟨k, rfl, hk1, hk2, hgk, HR, HB⟩ := hrel
      have hk0 : (0 : Int) ≤ (k : Int) := by omega
      by_cases hlt : k < n2
      · have hlt1 : k < n1 := by omega
        have hlt2 : k < n2 := by omega
        have hi1 : (k : Int) < (n1 : Int) := by omega
        have hi2 : (k : Int) < (n2 : Int) := by omega
        obtain ⟨b, o, x, rfl, hbl, hx, hc⟩ := H1.out.token hlt1
        obtain ⟨b', o', y, rfl, hbl', hy, hc'⟩ := H2.out.token hlt2
        obtain ⟨p0, p1, p2, p3⟩ := hc wr HB.out
        obtain ⟨q0, q1, q2, q3⟩ := hc' wr HB.out
        have hgo := headP_go HR.out hx hy
        clear hc hc' hx hy
        have hq := fun W => tok_eql x y W
        generalize tokEq x y = d at *
        simp only [tokV] at hq
        obtain ⟨xk, xt, xn, xm⟩ := x
        obtain ⟨yk, yt, yn, ym⟩ := y
        simp only at *
        rcases hgo with ⟨rfl, hN⟩ | ⟨rfl, hN⟩
        · have HN := hide_ hN
          clear hN HR
          go_wp2_with fail
          go_quiet (fail)
          obtain ⟨V, hV⟩ : ∃ V, V = wr.drewN nq := ⟨_, rfl⟩
          have HV : Hid (Below w.heap.size w V) := by rw [hV]; exact below_drewN HB.out nq
          rw [← hV]
          clear hV HB
          go_wp2
          go_roundg (n1 - k)
          case measure => omega
          case rel => exact ⟨k + 1, by first | rfl | go_num, by omega, by omega, by omega, HN, HV⟩
        · have HN : Hid (H = k) := hide_ hN
          clear hN HR
          go_wp2_with fail
          go_quiet (fail)
          obtain ⟨V, hV⟩ : ∃ V, V = wr.drewN nq := ⟨_, rfl⟩
          have HV : Hid (Below w.heap.size w V) := by rw [hV]; exact below_drewN HB.out nq
          rw [← hV]
          clear hV HB
          clear p0 p1 p2 p3 q0 q1 q2 q3 hq
          have eH := HN.out
          subst eH
          have HS : Hid (T = 0 + headP ((l1.drop H).reverse.drop 0) ((l2.drop H).reverse.drop 0)) := by
            show T = 0 + headP (l1.drop H).reverse (l2.drop H).reverse
            rw [Nat.zero_add, ← HT.out, tailP, HH.out]
          clear HN HT HH
          have w1 : IntKind.i64.wrap ((n2 : Int) - (H : Int)) = (n2 : Int) - (H : Int) := by rw [IntKind.wrap_i64]; omega
          go_wp2
          go_loopg [8] (n1 + 1) (fun gk u wr => ∃ k : Nat, u = .int .i64 (k : Int) ∧ k + H ≤ n1 ∧ k + H ≤ n2 ∧ n1 < k + gk ∧ Hid (T = k + headP ((l1.drop H).reverse.drop k) ((l2.drop H).reverse.drop k)) ∧ Hid (Below w.heap.size w wr))
          case atStart => exact ⟨0, rfl, by omega, by omega, by omega, HS, HV⟩
          case round =>
            obtain ⟨k, rfl, hkn1, hkn2, hgk, HR, HB⟩ := hrel
            clear HS HV
            have hk0 : (0 : Int) ≤ (k : Int) := by omega
            by_cases hlt : k + H < n2
            · have hlt1 : k + H < n1 := by omega
              have hlt2 : k + H < n2 := by omega
              have hi1 : (k : Int) < (n2 : Int) - (H : Int) := by omega
              obtain ⟨p, hp⟩ : ∃ p, p = n1 - 1 - k := ⟨_, rfl⟩
              obtain ⟨q, hq'⟩ : ∃ q, q = n2 - 1 - k := ⟨_, rfl⟩
              have e1 : (n1 : Int) - 1 - (k : Int) = (p : Int) := by omega
              have e2 : (n2 : Int) - 1 - (k : Int) = (q : Int) := by omega
              have hpn : p < n1 := by omega
              have hqn : q < n2 := by omega
              have hpi : (p : Int) < (n1 : Int) := by omega
              have hqi : (q : Int) < (n2 : Int) := by omega
              have hp0 : (0 : Int) ≤ (p : Int) := by omega
              have hq0 : (0 : Int) ≤ (q : Int) := by omega
              obtain ⟨b, o, x, ha1, hbl, hx, hc⟩ := H1.out.token hpn
              obtain ⟨b', o', y, ha2, hbl', hy, hc'⟩ := H2.out.token hqn
              cases ha1
              cases ha2
              obtain ⟨p0, p1, p2, p3⟩ := hc wr HB.out
              obtain ⟨q0, q1, q2, q3⟩ := hc' wr HB.out
              have L1 := H1.out.1
              have L2 := H2.out.1
              have hgo := headP_go HR.out (x := x) (y := y) (by rw [rev_at (by omega), L1, ← hp]; exact hx) (by rw [rev_at (by omega), L2, ← hq']; exact hy)
              clear hc hc' hx hy hp hq' L1 L2
              have hq := fun W => tok_eql x y W
              generalize tokEq x y = d at *
              simp only [tokV] at hq
              obtain ⟨xk, xt, xn, xm⟩ := x
              obtain ⟨yk, yt, yn, ym⟩ := y
              simp only at *
              rcases hgo with ⟨rfl, hN⟩ | ⟨rfl, hN⟩
              · have HN := hide_ hN
                clear hN HR
                go_wp2_with fail
                go_quiet (fail)
                obtain ⟨V, hV⟩ : ∃ V, V = wr.drewN nq := ⟨_, rfl⟩
                have HV : Hid (Below w.heap.size w V) := by rw [hV]; exact below_drewN HB.out nq
                rw [← hV]
                clear hV HB
                go_wp2
                go_roundg (n1 - k)
                case measure => omega
                case rel => exact ⟨k + 1, by first | rfl | go_num, by omega, by omega, by omega, HN, HV⟩
              · have HN : Hid (T = k) := hide_ hN
                clear hN HR
                go_wp2_with fail
                go_quiet (fail)
                obtain ⟨V, hV⟩ : ∃ V, V = wr.drewN nq := ⟨_, rfl⟩
                have HV : Hid (Below w.heap.size w V) := by rw [hV]; exact below_drewN HB.out nq
                rw [← hV]
                clear hV HB
                go_wp2
                go_ret2
                exact ⟨by rw [HN.out]; rfl, HV.out⟩
            · have HN : Hid (T = k) := headP_end HR.out (by
                rw [List.length_reverse, List.length_reverse, List.length_drop, List.length_drop]
                have := H1.out.1
                have := H2.out.1
                omega)
              clear HR
              have hi1 : decide ((k : Int) < (n2 : Int) - (H : Int)) = false := decide_eq_false (by omega)
              go_wp2_with fail
              go_quiet (fail)
              obtain ⟨V, hV⟩ : ∃ V, V = wr.drewN nq := ⟨_, rfl⟩
              have HV : Hid (Below w.heap.size w V) := by rw [hV]; exact below_drewN HB.out nq
              rw [← hV]
              clear hV HB
              go_wp2
              go_ret2
              exact ⟨by rw [HN.out]; rfl, HV.out⟩
      · have HN : Hid (H = k) := headP_end HR.out (by have := H1.out.1; have := H2.out.1; omega)
        clear HR
        have hi1 : decide ((k : Int) < (n2 : Int)) = false := decide_eq_false (by omega)
        go_wp2_with fail
        go_quiet (fail)
        obtain ⟨V, hV⟩ : ∃ V, V = wr.drewN nq := ⟨_, rfl⟩
        have HV : Hid (Below w.heap.size w V) := by rw [hV]; exact below_drewN HB.out nq
        rw [← hV]
        clear hV HB
        have eH := HN.out
        subst eH
        have HS : Hid (T = 0 + headP ((l1.drop H).reverse.drop 0) ((l2.drop H).reverse.drop 0)) := by
          show T = 0 + headP (l1.drop H).reverse (l2.drop H).reverse
          rw [Nat.zero_add, ← HT.out, tailP, HH.out]
        clear HN HT HH
        have w1 : IntKind.i64.wrap ((n2 : Int) - (H : Int)) = (n2 : Int) - (H : Int) := by rw [IntKind.wrap_i64]; omega
        go_wp2
        go_loopg [8] (n1 + 1) (fun gk u wr => ∃ k : Nat, u = .int .i64 (k : Int) ∧ k + H ≤ n1 ∧ k + H ≤ n2 ∧ n1 < k + gk ∧ Hid (T = k + headP ((l1.drop H).reverse.drop k) ((l2.drop H).reverse.drop k)) ∧ Hid (Below w.heap.size w wr))
        case atStart => exact ⟨0, rfl, by omega, by omega, by omega, HS, HV⟩
        case round =>
          obtain ⟨k, rfl, hkn1, hkn2, hgk, HR, HB⟩ := hrel
          clear HS HV
          have hk0 : (0 : Int) ≤ (k : Int) := by omega
          by_cases hlt : k + H < n2
          · have hlt1 : k + H < n1 := by omega
            have hlt2 : k + H < n2 := by omega
            have hi1 : (k : Int) < (n2 : Int) - (H : Int) := by omega
            obtain ⟨p, hp⟩ : ∃ p, p = n1 - 1 - k := ⟨_, rfl⟩
            obtain ⟨q, hq'⟩ : ∃ q, q = n2 - 1 - k := ⟨_, rfl⟩
            have e1 : (n1 : Int) - 1 - (k : Int) = (p : Int) := by omega
            have e2 : (n2 : Int) - 1 - (k : Int) = (q : Int) := by omega
            have hpn : p < n1 := by omega
            have hqn : q < n2 := by omega
            have hpi : (p : Int) < (n1 : Int) := by omega
            have hqi : (q : Int) < (n2 : Int) := by omega
            have hp0 : (0 : Int) ≤ (p : Int) := by omega
            have hq0 : (0 : Int) ≤ (q : Int) := by omega
            obtain ⟨b, o, x, rfl, hbl, hx, hc⟩ := H1.out.token hpn
            obtain ⟨b', o', y, rfl, hbl', hy, hc'⟩ := H2.out.token hqn
            obtain ⟨p0, p1, p2, p3⟩ := hc wr HB.out
            obtain ⟨q0, q1, q2, q3⟩ := hc' wr HB.out
            have L1 := H1.out.1
            have L2 := H2.out.1
            have hgo := headP_go HR.out (x := x) (y := y) (by rw [rev_at (by omega), L1, ← hp]; exact hx) (by rw [rev_at (by omega), L2, ← hq']; exact hy)
            clear hc hc' hx hy hp hq' L1 L2
            have hq := fun W => tok_eql x y W
            generalize tokEq x y = d at *
            simp only [tokV] at hq
            obtain ⟨xk, xt, xn, xm⟩ := x
            obtain ⟨yk, yt, yn, ym⟩ := y
            simp only at *
            rcases hgo with ⟨rfl, hN⟩ | ⟨rfl, hN⟩
            · have HN := hide_ hN
              clear hN HR
              go_wp2_with fail
              go_quiet (fail)
              obtain ⟨V, hV⟩ : ∃ V, V = wr.drewN nq := ⟨_, rfl⟩
              have HV : Hid (Below w.heap.size w V) := by rw [hV]; exact below_drewN HB.out nq
              rw [← hV]
              clear hV HB
              go_wp2
              go_roundg (n1 - k)
              case measure => omega
              case rel => exact ⟨k + 1, by first | rfl | go_num, by omega, by omega, by omega, HN, HV⟩
            · have HN : Hid (T = k) := hide_ hN
              clear hN HR
              go_wp2_with fail
              go_quiet (fail)
              obtain ⟨V, hV⟩ : ∃ V, V = wr.drewN nq := ⟨_, rfl⟩
              have HV : Hid (Below w.heap.size w V) := by rw [hV]; exact below_drewN HB.out nq
              rw [← hV]
              clear hV HB
              go_wp2
              go_ret2
              exact ⟨by rw [HN.out]; rfl, HV.out⟩
          · have HN : Hid (T = k) := headP_end HR.out (by
              rw [List.length_reverse, List.length_reverse, List.length_drop, List.length_drop]
              have := H1.out.1
              have := H2.out.1
              omega)
            clear HR
            have hi1 : decide ((k : Int) < (n2 : Int) - (H : Int)) = false := decide_eq_false (by omega)
            go_wp2_with fail
            go_quiet (fail)
            obtain ⟨V, hV⟩ : ∃ V, V = wr.drewN nq := ⟨_, rfl⟩
            have HV : Hid (Below w.heap.size w V) := by rw [hV]; exact below_drewN HB.out nq
            rw [← hV]
            clear hV HB
            go_wp2
            go_ret2
            exact ⟨by rw [HN.out]; rfl, HV.out⟩
end Go.Proofs.Ytgpopploimeeaaa

/- PClone: slices.Clone of tokens: what it returns, in new memory; nothing that lay before is turned. -/
namespace Go.Proofs.Ytgpopploimeeaaa
open Go.RowKit

theorem eql_nil (a : Option Addr) (l c : Nat) (W : World) : (binOp .eql 22 (.slice a l c) (.slice none 0 0)).run Try.prog W = .ok (.bool a.isNone) W := by
  simp only [binOp]
  simp [run_equal_slice_nil W 22 _ a l c Try.underlying22]

set_option maxRecDepth 100000 in
set_option maxHeartbeats 1000000 in
theorem fclone2_calls (a : Option Addr) (len cap : Nat) (l : List Tok) (w : World) (hl : Toks w a len l) (hsz : len ≤ 4398046511104) (ha : a = none → cap = 0) (hc : len ≤ cap) :
    Calls Try.prog 43 #[.slice a len cap] w fun e w' => ∃ a' cap', e = .returned (.slice a' len cap') ∧ Toks w' a' len l ∧ len ≤ cap' ∧ (∀ b o, a' = some ⟨b, o, none⟩ → w.heap.size ≤ b) ∧ Below w.heap.size w w' := by
  cases a with
  | none =>
    obtain rfl := ha rfl
    obtain rfl : len = 0 := by omega
    obtain rfl : l = [] := List.length_eq_zero_iff.1 hl.1
    have hq := fun W => eql_nil none 0 0 W
    go_enter Try.func43, Try.ntmps43
    go_wp2
    go_ret
    have hx : ∀ b o, (none : Option Addr) = some ⟨b, o, none⟩ → w.heap.size ≤ b := fun b o h => by cases h
    first | exact ⟨none, 0, rfl, ⟨rfl, .inl rfl⟩, by simp, hx, Below.refl _ _⟩ | exact ⟨none, ⟨0, rfl, by simp⟩, ⟨rfl, .inl rfl⟩, hx, Below.refl _ _⟩ | exact ⟨none, ⟨0, rfl⟩, ⟨rfl, .inl rfl⟩, hx, Below.refl _ _⟩ | trace_state
  | some x =>
    obtain ⟨v, W1, hrun, r1, r2, r3⟩ := tok_clone_own (some x) len cap l w hl hsz
    obtain ⟨g, cp, rfl, hg, hg1, hg2, ht⟩ := toks_of_owns r1 r2
    clear r1 r2 hl
    have hq := fun W => eql_nil (some x) len cap W
    simp only [Option.isNone_some] at hq
    go_enter Try.func43, Try.ntmps43
    go_wp2_with (at_builtin; refine wpList_tok_run rfl _ _ 22 rfl _ _ _ _ rfl rfl hrun ?_)
    go_ret
    have hx : ∀ b o, (some ⟨g, 0, none⟩ : Option Addr) = some ⟨b, o, none⟩ → w.heap.size ≤ b := fun b o h => by cases h; exact hg
    first | exact ⟨_, cp, rfl, ht, hg1, hx, r3⟩ | exact ⟨_, ⟨cp, rfl, hg1⟩, ht, hx, r3⟩ | exact ⟨_, ⟨cp, rfl⟩, ht, hx, r3⟩ | trace_state
end Go.Proofs.Ytgpopploimeeaaa

/- PStep: a step in memory, set whole; what two lists share at both ends lies within both. -/
namespace Go.Proofs.Ytgpopploimeeaaa
open Go.RowKit

theorem results_row_tmp {P : Program} {fn : Func} {p u : Tmp} {ty : TypeId} (h : fn.results = #[.cell p ty, .tmp u]) (tmps : Array Value) (w : World) (g : Nat) (t : TypeId) (cs : Array Value) (fr : Nat × Nat) (d : TypeDesc)
    (hp : tmps.getD p undef = .pointer (some ⟨g, 0, none⟩)) (hg : w.heap[g]? = some (.cells cs t fr))
    (hu : P.underlying ty = some d) (hd : (match d with | .struct _ | .array _ _ => true | _ => false) = true) (hi : (P.info? ty).map (·.size) = some cs.size) :
    (results fn tmps).run P w = .ok (.tuple #[.agg cs, tmps.getD u undef]) w := by
  rw [results_cell_tmp h, hp]
  simp [asAddr, run_loadVar_row w g t ty cs fr d hg hu hd hi, Result.andThen]
theorem sizeStep : (Try.prog.info? 54).map (·.size) = some 8 := by kernel_rfl
/-- A step's cells. -/
def stepC (f t : Int) (a : Option Addr) (len cap : Nat) : Array Value := #[.int .i64 0, .int .i64 f, .int .i64 t, .int .i64 0, .int .i64 0, .int .i64 0, .slice a len cap, .int .i64 0]
theorem ones8 (f t : Int) (a : Option Addr) (len cap : Nat) : (stepC f t a len cap).all (·.oneCell') = true := by
  unfold stepC
  rw [Array.all_eq_true_iff_forall_mem]
  intro v hv
  simp at hv
  rcases hv with rfl | rfl | rfl | rfl | rfl | rfl <;> rfl
/-- Tokens stay where another row is set. -/
theorem toks_setRow {w : World} {a : Option Addr} {n g : Nat} {l : List Tok} {cs : Array Value} (h : Toks w a n l) (hne : ∀ b o, a = some ⟨b, o, none⟩ → n ≠ 0 → b ≠ g) : Toks (w.setRow g cs) a n l := by
  obtain ⟨h1, h2⟩ := h
  refine ⟨h1, ?_⟩
  rcases h2 with h2 | ⟨b, o, rfl, hlt, hc⟩
  · exact .inl h2
  · rcases Nat.eq_zero_or_pos n with h0 | h0
    · exact .inl h0
    · have hk := setRow_other w g b cs (hne b o rfl (by omega))
      refine .inr ⟨b, o, rfl, ?_, fun i x hx => ?_⟩
      · have := (Array.getElem?_eq_some_iff.1 (hk.trans (Array.getElem?_eq_getElem hlt))).1
        exact this
      · obtain ⟨c0, c1, c2, c3⟩ := hc i x hx
        exact ⟨(World.cell?_of_block (w := w) hk).trans c0, (World.cell?_of_block (w := w) hk).trans c1, (World.cell?_of_block (w := w) hk).trans c2, (World.cell?_of_block (w := w) hk).trans c3⟩
theorem ends_in {l1 l2 : List Tok} : headP l1 l2 + tailP l1 l2 ≤ l1.length ∧ headP l1 l2 + tailP l1 l2 ≤ l2.length := by
  have h1 := headP_le l1 l2
  have h2 := headP_le (l1.drop (headP l1 l2)).reverse (l2.drop (headP l1 l2)).reverse
  rw [List.length_reverse, List.length_reverse, List.length_drop, List.length_drop] at h2
  unfold tailP
  omega
end Go.Proofs.Ytgpopploimeeaaa
