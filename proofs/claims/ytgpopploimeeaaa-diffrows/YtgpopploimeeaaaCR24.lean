/-
  PROVED HERE: what the texts RCheck, RBoth, RSame4 say (each has its own words below).
-/
import Derived.Test.YtgpopploimeeaaaCR23
import Derived.Test.YtgpopploimeeaaaCR20
import Derived.Test.YtgpopploimeeaaaCR4
/- RCheck: the document's own Check at every slice of tokens: what it returns; nothing that lay before is turned. -/
namespace Go.Proofs.Ytgpopploimeeaaa
open Go.RowKit

set_option maxRecDepth 100000 in
set_option maxHeartbeats 1000000 in
theorem check_calls (a : Option Addr) (len cap : Nat) (l : List Tok) (w : World) (hl : Toks w a len l) (hsz : len ≤ 35184372088832) :
    Calls Try.prog 52 #[.slice a len cap] w fun e w' => e = .returned (.tuple #[.int .i64 (check l).1, .int .i64 (check l).2]) ∧ Below w.heap.size w w' := by
  by_cases hlong : 2048 < len
  · rw [show check l = (0, 2) from by unfold check; rw [if_pos (by rw [hl.1]; exact hlong)]]
    go_enter Try.func52, Try.ntmps52
    go_wp2
    go_ret2
    exact ⟨rfl, Below.refl _ _⟩
  · have HC : Hid (check l = checkL l 0 0) := by show check l = _; unfold check; rw [if_neg (by rw [hl.1]; exact hlong)]
    go_enter Try.func52, Try.ntmps52
    go_wp2
    go_loopw [4, 5] (fun u i w' => ∃ (k : Nat) (d : Int), k ≤ len ∧ i = .int .i64 (k : Int) ∧ u = .int .i64 d ∧ 0 ≤ d ∧ d ≤ 32 ∧ checkL (l.drop k) k d = check l ∧ Below w.heap.size w w') (fun _ i _ => len - (intOf i).toNat)
    case atStart => exact ⟨0, 0, Nat.zero_le _, rfl, rfl, by omega, by omega, HC.out.symm, Below.refl _ _⟩
    case round =>
      obtain ⟨k, d, hk, rfl, rfl, d0, d1, hch, hB⟩ := hrel
      have hl' := hl.below hB
      by_cases hlt : k < len
      · obtain ⟨x, hx, hdr⟩ := drop_getD (l := l) (k := k) (by rw [hl.1]; exact hlt)
        obtain ⟨b, o, rfl, hbl, hcl⟩ := (show ∃ b o, a = some ⟨b, o, none⟩ ∧ b < wr.heap.size ∧ ∀ i x, l[i]? = some x → wr.cell? ⟨b, o + i * 4, none⟩ = some (.int .i64 x.k) ∧ wr.cell? ⟨b, o + i * 4 + 1, none⟩ = some (.int .i64 x.t) ∧
          wr.cell? ⟨b, o + i * 4 + 2, none⟩ = some (.int .i64 x.n) ∧ wr.cell? ⟨b, o + i * 4 + 3, none⟩ = some (.int .i64 x.m) from by
            rcases hl'.2 with h | h
            · omega
            · exact h)
        obtain ⟨c0, c1, c2, c3⟩ := hcl k x hx
        have hr := fun W => rightT_calls x W
        have hl0 := hl.1
        clear hcl hl' hl
        rw [hdr] at hch
        clear hdr
        rw [checkL] at hch
        obtain ⟨xk, xt, xn, xm⟩ := x
        generalize rightT ⟨xk, xt, xn, xm⟩ = p at *
        simp only [tokV] at *
        cases p
        · have HD : Hid (check l = ((k : Int), 4)) := by show check l = _; rw [← hch]; simp
          clear hch
          go_wp2_with fail
          refine (hr _).mono ?_
          rintro e W1 ⟨rfl, hB1⟩
          have c4 : W1.cell? ⟨b, o + k * 4, none⟩ = some (.int .i64 xk) := (hB1.cell (p := ⟨b, _, none⟩) hbl).trans c0
          have hB2 : Below w.heap.size w W1 := hB.trans (hB1.mono hB.size)
          go_wp2
          go_ret2
          exact ⟨by rw [HD.out]; rfl, hB2⟩
        · simp only [Bool.not_true, Bool.false_or] at hch
          by_cases k1 : xk = 1
          · subst k1
            simp only [show ((1 : Int) == 2) = false from rfl, Bool.false_and, Bool.false_eq_true, if_false, if_true] at hch
            by_cases hd : d = 32
            · subst hd
              have HD : Hid (check l = ((k : Int), 8)) := by show check l = _; rw [← hch]; simp
              clear hch
              go_wp2_with fail
              refine (hr _).mono ?_
              rintro e W1 ⟨rfl, hB1⟩
              have c4 : W1.cell? ⟨b, o + k * 4, none⟩ = some (.int .i64 1) := (hB1.cell (p := ⟨b, _, none⟩) hbl).trans c0
              have hB2 : Below w.heap.size w W1 := hB.trans (hB1.mono hB.size)
              go_wp2
              go_ret2
              exact ⟨by rw [HD.out]; rfl, hB2⟩
            · have HD : Hid (check l = checkL (l.drop (k + 1)) (k + 1) (d + 1)) := by show check l = _; rw [← hch, if_neg (by omega)]
              clear hch
              go_wp2_with fail
              refine (hr _).mono ?_
              rintro e W1 ⟨rfl, hB1⟩
              have c4 : W1.cell? ⟨b, o + k * 4, none⟩ = some (.int .i64 1) := (hB1.cell (p := ⟨b, _, none⟩) hbl).trans c0
              have hB2 : Below w.heap.size w W1 := hB.trans (hB1.mono hB.size)
              go_wp2
              go_roundw
              case rel => exact ⟨k + 1, d + 1, by omega, rfl, rfl, by omega, by omega, HD.out.symm, hB2⟩
              case measure => simp [intOf]; omega
          · by_cases k2 : xk = 2
            · subst k2
              simp only [show ((2 : Int) == 2) = true from rfl, Bool.true_and, show ¬ ((2 : Int) = 1) from by decide, if_false, if_true] at hch
              by_cases hd : d = 0
              · subst hd
                have HD : Hid (check l = ((k : Int), 4)) := by show check l = _; rw [← hch]; simp
                clear hch
                go_wp2_with fail
                refine (hr _).mono ?_
                rintro e W1 ⟨rfl, hB1⟩
                have c4 : W1.cell? ⟨b, o + k * 4, none⟩ = some (.int .i64 2) := (hB1.cell (p := ⟨b, _, none⟩) hbl).trans c0
                have hB2 : Below w.heap.size w W1 := hB.trans (hB1.mono hB.size)
                go_wp2
                go_ret2
                exact ⟨by rw [HD.out]; rfl, hB2⟩
              · have HD : Hid (check l = checkL (l.drop (k + 1)) (k + 1) (d - 1)) := by show check l = _; rw [← hch, if_neg (by simpa using hd), if_neg (by omega)]
                have ed : (d == 0) = false := by simpa using hd
                clear hch
                go_wp2_with fail
                refine (hr _).mono ?_
                rintro e W1 ⟨rfl, hB1⟩
                have c4 : W1.cell? ⟨b, o + k * 4, none⟩ = some (.int .i64 2) := (hB1.cell (p := ⟨b, _, none⟩) hbl).trans c0
                have hB2 : Below w.heap.size w W1 := hB.trans (hB1.mono hB.size)
                go_wp2
                go_roundw
                case rel => exact ⟨k + 1, d - 1, by omega, rfl, rfl, by omega, by omega, HD.out.symm, hB2⟩
                case measure => simp [intOf]; omega
            · have e1 : (xk == 1) = false := by simpa using k1
              have e2 : (xk == 2) = false := by simpa using k2
              simp only [e2, Bool.false_and, Bool.false_eq_true, if_false, k1, k2] at hch
              have HD : Hid (check l = checkL (l.drop (k + 1)) (k + 1) d) := by show check l = _; rw [← hch, if_neg (by omega)]
              clear hch
              go_wp2_with fail
              refine (hr _).mono ?_
              rintro e W1 ⟨rfl, hB1⟩
              have c4 : W1.cell? ⟨b, o + k * 4, none⟩ = some (.int .i64 xk) := (hB1.cell (p := ⟨b, _, none⟩) hbl).trans c0
              have hB2 : Below w.heap.size w W1 := hB.trans (hB1.mono hB.size)
              go_wp2
              go_roundw
              case rel => exact ⟨k + 1, d, by omega, rfl, rfl, by omega, by omega, HD.out.symm, hB2⟩
              case measure => simp [intOf]; omega
      · obtain rfl : k = len := by omega
        rw [show l.drop k = [] from List.drop_eq_nil_of_le (by rw [hl.1]; exact Nat.le_refl _), checkL] at hch
        by_cases hd : 0 < d
        · have HD : Hid (check l = ((k : Int), 3)) := by show check l = _; rw [← hch, if_pos hd]
          clear hch
          go_wp2
          go_ret2
          exact ⟨by rw [HD.out]; rfl, hB⟩
        · have HD : Hid (check l = ((k : Int), 0)) := by show check l = _; rw [← hch, if_neg hd]
          clear hch
          go_wp2
          go_ret2
          exact ⟨by rw [HD.out]; rfl, hB⟩
end Go.Proofs.Ytgpopploimeeaaa

/- RBoth: the document's own both: what keeps the one, or else the other, from being a document. -/
namespace Go.Proofs.Ytgpopploimeeaaa
open Go.RowKit

set_option maxRecDepth 100000 in
theorem both_calls (a1 a2 : Option Addr) (n m c1 c2 : Nat) (l1 l2 : List Tok) (w : World) (h1 : Toks w a1 n l1) (h2 : Toks w a2 m l2) (hn : n ≤ 4398046511104) (hm : m ≤ 4398046511104) :
    Calls Try.prog 39 #[.slice a1 n c1, .slice a2 m c2] w fun e w' => e = .returned (.int .i64 (bothP l1 l2)) ∧ Below w.heap.size w w' := by
  have HC1 := check_calls a1 n c1 l1 w h1 (by omega)
  have H2 := hide_ h2
  clear h1 h2
  unfold bothP
  obtain ⟨x1, hx1⟩ : ∃ x, (check l1).1 = x := ⟨_, rfl⟩
  obtain ⟨y1, hy1⟩ : ∃ x, (check l1).2 = x := ⟨_, rfl⟩
  obtain ⟨y2, hy2⟩ : ∃ x, (check l2).2 = x := ⟨_, rfl⟩
  rw [hx1, hy1] at HC1
  rw [hy1, hy2]
  clear hx1 hy1
  by_cases h0 : y1 = 0
  · subst h0
    rw [if_pos rfl]
    go_enter Try.func39, Try.ntmps39
    go_wp2_with fail
    refine HC1.mono ?_
    rintro e W1 ⟨rfl, b1⟩
    have HC2 := check_calls a2 m c2 l2 W1 (H2.out.below b1) (by omega)
    rw [hy2] at HC2
    have B1 := hide_ b1
    clear b1 HC1 hy2
    go_wp2_with fail
    refine HC2.mono ?_
    rintro e W2 ⟨rfl, b2⟩
    have B2 := hide_ (B1.out.trans (b2.mono B1.out.size))
    clear b2 B1 HC2
    go_wp2
    go_ret
    exact ⟨rfl, B2.out⟩
  · rw [if_neg h0]
    have h0b : (y1 == 0) = false := by simpa using h0
    clear hy2
    go_enter Try.func39, Try.ntmps39
    go_wp2_with fail
    refine HC1.mono ?_
    rintro e W1 ⟨rfl, b1⟩
    have B1 := hide_ b1
    clear b1 HC1
    go_wp2
    go_ret
    exact ⟨rfl, B1.out⟩
end Go.Proofs.Ytgpopploimeeaaa

/- RSame4: the document's own Same at every two slices of tokens: what it returns; nothing that lay before is turned. -/
namespace Go.Proofs.Ytgpopploimeeaaa
open Go.RowKit

set_option maxRecDepth 100000 in
set_option maxHeartbeats 2000000 in
theorem same4_calls (a1 a2 : Option Addr) (n1 n2 c1 c2 : Nat) (l1 l2 : List Tok) (w : World) (h1 : Toks w a1 n1 l1) (h2 : Toks w a2 n2 l2) (hsz : n1 ≤ 35184372088832) (hsz2 : n2 ≤ 35184372088832) :
    Calls Try.prog 42 #[.slice a1 n1 c1, .slice a2 n2 c2] w fun e w' => e = .returned (.bool (eqL l1 l2)) ∧ Below w.heap.size w w' ∧ w'.heap = w.heap := by
  by_cases hn : n1 = n2
  · subst hn
    generalize hD : eqL l1 l2 = D at *
    go_enter Try.func42, Try.ntmps42
    go_wp2
    go_loopw [5] (fun i w' => ∃ k : Nat, k ≤ n1 ∧ i = .int .i64 (k : Int) ∧ l1.take k = l2.take k ∧ Below w.heap.size w w' ∧ w'.heap = w.heap) (fun i _ => n1 - (intOf i).toNat)
    case atStart => exact ⟨0, Nat.zero_le _, rfl, rfl, Below.refl _ _, rfl⟩
    case round =>
      obtain ⟨k, hk, rfl, ht, hB, hQ⟩ := hrel
      have HQ : Hid (wr.heap = w.heap) := hQ
      clear hQ
      have HT : Hid (l1.take k = l2.take k) := ht
      clear ht
      by_cases hlt : k < n1
      · obtain ⟨b, o, x, rfl, hbl, hx, hc⟩ := h1.token hlt
        obtain ⟨b', o', y, rfl, hbl', hy, hc'⟩ := h2.token hlt
        obtain ⟨p0, p1, p2, p3⟩ := hc wr hB
        obtain ⟨q0, q1, q2, q3⟩ := hc' wr hB
        clear hc hc'
        have hg := fun (x y : Operand) (xs ys : Array Value) (W : World) => tok_eqGuard .neq x y xs ys W
        have hq := fun W => tok_neq x y W
        have hdd : (tokEq x y = true ∧ l1.take (k + 1) = l2.take (k + 1)) ∨ (tokEq x y = false ∧ D = false) := by
          by_cases h : x = y
          · subst h
            exact .inl ⟨(tokEq_iff _ _).2 rfl, take_succ_same HT.out hx hy⟩
          · refine .inr ⟨tokEq_false h, ?_⟩
            rw [← hD]
            apply eqL_false
            intro e
            rw [e, hy] at hx
            exact h (Option.some.inj hx).symm
        generalize tokEq x y = d at *
        simp only [tokV] at hq
        obtain ⟨xk, xt, xn, xm⟩ := x
        obtain ⟨yk, yt, yn, ym⟩ := y
        simp only at *
        rcases hdd with ⟨rfl, hts⟩ | ⟨rfl, hd2⟩
        · have HS : Hid (l1.take (k + 1) = l2.take (k + 1)) := hts
          clear hts hx hy hD h1 h2
          go_wp2_with fail
          go_quiet (fail)
          go_wp2
          go_roundw
          case rel => exact ⟨k + 1, by omega, rfl, HS.out, below_drewN hB _, HQ.out⟩
          case measure => simp [intOf]; omega
        · have HD : Hid (D = false) := hd2
          clear hd2 hx hy hD h1 h2
          go_wp2_with fail
          go_quiet (fail)
          go_wp2
          go_ret
          exact ⟨by rw [HD.out]; rfl, below_drewN hB _, HQ.out⟩
      · obtain rfl : k = n1 := by omega
        have HD : Hid (D = true) := by
          show D = true
          have := HT.out
          rw [List.take_of_length_le (Nat.le_of_eq h1.1), List.take_of_length_le (Nat.le_of_eq h2.1)] at this
          rw [← hD, this]
          exact (eqL_iff _ _).2 rfl
        clear hD h1 h2
        go_wp2
        go_ret
        exact ⟨by rw [HD.out]; rfl, hB, HQ.out⟩
  · have HD : eqL l1 l2 = false := by
      apply eqL_false
      intro e
      exact hn (by rw [← h1.1, ← h2.1, e])
    rw [HD]
    go_enter Try.func42, Try.ntmps42
    go_wp2
    go_ret
    exact ⟨rfl, Below.refl _ _, rfl⟩
end Go.Proofs.Ytgpopploimeeaaa
