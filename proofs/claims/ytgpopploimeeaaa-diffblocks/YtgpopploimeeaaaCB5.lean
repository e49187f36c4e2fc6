/-
  PROVED HERE: what the texts FTok, FCheck say (each has its own words below).
-/
import Derived.Test.YtgpopploimeeaaaCB4
/- FTok: flat.isCodePoint, mark.Right and flat.Right at every token: what they return; nothing that lay before is turned. -/
namespace Go.Proofs.Ytgpopploimeeaaa
open Go.RowKit

set_option maxHeartbeats 400000 in
theorem fmark_calls (s : Int) (w : World) : Calls Try.prog 59 #[.int .i64 s] w fun e w' => e = .returned (.bool (rightM s)) ∧ w' = w := by
  unfold rightM
  cases h1 : decide (0 ≤ s)
  all_goals
    go_enter Try.func59, Try.ntmps59
    go_wp2
    go_ret
    exact ⟨rfl, rfl⟩
set_option maxHeartbeats 400000 in
theorem fpoint_calls (n : Int) (w : World) : Calls Try.prog 58 #[.int .i64 n] w fun e w' => e = .returned (.bool (point n)) ∧ w' = w := by
  by_cases a0 : 0 ≤ n
  · by_cases a1 : n < 55296
    · rw [show point n = true from by simp [point]; omega]
      go_enter Try.func58, Try.ntmps58
      go_wp2
      go_ret
      exact ⟨rfl, rfl⟩
    · by_cases a2 : 57343 < n
      · rw [show point n = decide (n ≤ 1114111) from by rw [Bool.eq_iff_iff]; simp [point]; omega]
        go_enter Try.func58, Try.ntmps58
        go_wp2
        go_ret
        exact ⟨rfl, rfl⟩
      · rw [show point n = false from by simp [point]; omega]
        go_enter Try.func58, Try.ntmps58
        go_wp2
        go_ret
        exact ⟨rfl, rfl⟩
  · rw [show point n = false from by simp [point]; omega]
    have e0 : decide (0 ≤ n) = false := by simpa using a0
    go_enter Try.func58, Try.ntmps58
    go_wp2
    go_ret
    exact ⟨rfl, rfl⟩

set_option maxHeartbeats 1000000 in
theorem fright_calls (x : Tok) (w : World) : Calls Try.prog 55 #[tokV x] w fun e w' => e = .returned (.bool (rightT x)) ∧ Below w.heap.size w w' := by
  obtain ⟨k, t, n, m⟩ := x
  have e16 : decide (t < 16) = decide (t ≤ 15) := by by_cases h : t ≤ 15 <;> simp [h] <;> omega
  have hq := fun W => tok_eql ⟨k, t, n, m⟩ ⟨2, 0, 0, 0⟩ W
  unfold tokV rightT
  simp only [tokV, e16] at *
  clear e16
  by_cases k0 : k = 0
  · subst k0
    rw [if_pos rfl]
    have c1 := fun W => fpoint_calls n W
    have c2 := fun W => fmark_calls m W
    generalize point n = p at *
    generalize rightM m = q at *
    cases h0 : t == 0
    · simp only [Bool.false_and]
      go_enter Try.func55, Try.ntmps55
      go_wp2
      go_ret
      exact ⟨rfl, (Below.refl _ _).alloc (Nat.le_refl _) _⟩
    · cases h1 : p
      · rw [h1] at c1
        simp only [Bool.and_false, Bool.false_and]
        go_enter Try.func55, Try.ntmps55
        go_wp2_with fail
        refine (c1 _).mono ?_
        rintro e w' ⟨rfl, rfl⟩
        go_wp2
        go_ret
        exact ⟨rfl, (Below.refl _ _).alloc (Nat.le_refl _) _⟩
      · rw [h1] at c1
        cases h2 : q
        · rw [h2] at c2
          simp only [Bool.and_false]
          go_enter Try.func55, Try.ntmps55
          go_wp2_with fail
          refine (c1 _).mono ?_
          rintro e w' ⟨rfl, rfl⟩
          go_wp2_with fail
          refine (c2 _).mono ?_
          rintro e w' ⟨rfl, rfl⟩
          go_wp2
          go_ret
          exact ⟨rfl, (Below.refl _ _).alloc (Nat.le_refl _) _⟩
        · rw [h2] at c2
          go_enter Try.func55, Try.ntmps55
          go_wp2_with fail
          refine (c1 _).mono ?_
          rintro e w' ⟨rfl, rfl⟩
          go_wp2_with fail
          refine (c2 _).mono ?_
          rintro e w' ⟨rfl, rfl⟩
          go_wp2
          go_ret
          exact ⟨rfl, (Below.refl _ _).alloc (Nat.le_refl _) _⟩
  rw [if_neg k0]
  have e0 : (k == 0) = false := by simpa using k0
  by_cases k1 : k = 1
  · subst k1
    rw [if_pos (.inl rfl)]
    clear hq
    cases h0 : decide (1 ≤ t)
    · simp only [Bool.false_and]
      go_enter Try.func55, Try.ntmps55
      go_wp2
      go_ret
      exact ⟨rfl, (Below.refl _ _).alloc (Nat.le_refl _) _⟩
    · cases h1 : decide (t ≤ 15)
      · simp only [Bool.and_false, Bool.false_and]
        go_enter Try.func55, Try.ntmps55
        go_wp2
        go_ret
        exact ⟨rfl, (Below.refl _ _).alloc (Nat.le_refl _) _⟩
      · cases h2 : decide (0 ≤ n)
        · simp only [Bool.and_false, Bool.false_and]
          go_enter Try.func55, Try.ntmps55
          go_wp2
          go_ret
          exact ⟨rfl, (Below.refl _ _).alloc (Nat.le_refl _) _⟩
        · cases h3 : decide (n ≤ 15)
          · simp only [Bool.and_false, Bool.false_and]
            go_enter Try.func55, Try.ntmps55
            go_wp2
            go_ret
            exact ⟨rfl, (Below.refl _ _).alloc (Nat.le_refl _) _⟩
          · cases h4 : m == 0
            · simp only [Bool.and_false]
              go_enter Try.func55, Try.ntmps55
              go_wp2
              go_ret
              exact ⟨rfl, (Below.refl _ _).alloc (Nat.le_refl _) _⟩
            · go_enter Try.func55, Try.ntmps55
              go_wp2
              go_ret
              exact ⟨rfl, (Below.refl _ _).alloc (Nat.le_refl _) _⟩
  have e1 : (k == 1) = false := by simpa using k1
  by_cases k3 : k = 3
  · subst k3
    rw [if_pos (.inr rfl)]
    clear hq
    cases h0 : decide (1 ≤ t)
    · simp only [Bool.false_and]
      go_enter Try.func55, Try.ntmps55
      go_wp2
      go_ret
      exact ⟨rfl, (Below.refl _ _).alloc (Nat.le_refl _) _⟩
    · cases h1 : decide (t ≤ 15)
      · simp only [Bool.and_false, Bool.false_and]
        go_enter Try.func55, Try.ntmps55
        go_wp2
        go_ret
        exact ⟨rfl, (Below.refl _ _).alloc (Nat.le_refl _) _⟩
      · cases h2 : decide (0 ≤ n)
        · simp only [Bool.and_false, Bool.false_and]
          go_enter Try.func55, Try.ntmps55
          go_wp2
          go_ret
          exact ⟨rfl, (Below.refl _ _).alloc (Nat.le_refl _) _⟩
        · cases h3 : decide (n ≤ 15)
          · simp only [Bool.and_false, Bool.false_and]
            go_enter Try.func55, Try.ntmps55
            go_wp2
            go_ret
            exact ⟨rfl, (Below.refl _ _).alloc (Nat.le_refl _) _⟩
          · cases h4 : m == 0
            · simp only [Bool.and_false]
              go_enter Try.func55, Try.ntmps55
              go_wp2
              go_ret
              exact ⟨rfl, (Below.refl _ _).alloc (Nat.le_refl _) _⟩
            · go_enter Try.func55, Try.ntmps55
              go_wp2
              go_ret
              exact ⟨rfl, (Below.refl _ _).alloc (Nat.le_refl _) _⟩
  have e3 : (k == 3) = false := by simpa using k3
  rw [if_neg (by omega)]
  by_cases k2 : k = 2
  · subst k2
    rw [if_pos rfl]
    have hd : tokEq ⟨2, t, n, m⟩ ⟨2, 0, 0, 0⟩ = (t == 0 && n == 0 && m == 0) := by
      rw [Bool.eq_iff_iff]
      simp [tokEq, and_assoc]
    rw [hd] at hq
    clear hd
    have hg := fun (x y : Operand) (xs ys : Array Value) (W : World) => tok_eqGuard .eql x y xs ys W
    generalize (t == 0 && n == 0 && m == 0) = z at *
    go_enter Try.func55, Try.ntmps55
    go_wp2
    go_ret
    exact ⟨rfl, (Below.refl _ _).alloc (Nat.le_refl _) _⟩
  have e2 : (k == 2) = false := by simpa using k2
  rw [if_neg k2]
  clear hq
  go_enter Try.func55, Try.ntmps55
  go_wp2
  go_ret
  exact ⟨rfl, (Below.refl _ _).alloc (Nat.le_refl _) _⟩
end Go.Proofs.Ytgpopploimeeaaa

/- FCheck: flat.Check at every slice of tokens, and awake: what they return; nothing that lay before is turned. -/
namespace Go.Proofs.Ytgpopploimeeaaa
open Go.RowKit

theorem Stk.below {w W : World} {base g : Nat} {v : Value} {R : List Int} (h : Stk w base g v R) (hB : Below w.heap.size w W) : Stk W base g v R := by
  have hlt := h.cells.2.2.2.2.2
  obtain ⟨h0, h1, cs, hg, hc⟩ := h
  exact ⟨h0, own_below h1 hB (by omega), cs, (hB.block g hlt).trans hg, hc⟩
/-- A new token's cells, kept. -/
theorem tok_kept {w W : World} {k t n m : Int} {T : TypeId} (hB : Below (w.alloc (.cells #[.int .i64 k, .int .i64 t, .int .i64 n, .int .i64 m] T)).heap.size (w.alloc (.cells #[.int .i64 k, .int .i64 t, .int .i64 n, .int .i64 m] T)) W) :
    W.cell? ⟨w.heap.size, 0, none⟩ = some (.int .i64 k) ∧ W.cell? ⟨w.heap.size, 1, none⟩ = some (.int .i64 t) ∧ W.cell? ⟨w.heap.size, 2, none⟩ = some (.int .i64 n) ∧ W.cell? ⟨w.heap.size, 3, none⟩ = some (.int .i64 m) ∧ Below w.heap.size w W := by
  have hg := heap_alloc_new w (.cells #[.int .i64 k, .int .i64 t, .int .i64 n, .int .i64 m] T)
  have hc := fun j => (hB.cell (p := ⟨w.heap.size, j, none⟩) (by simp)).trans (cell_of_row _ w.heap.size j _ _ _ hg)
  refine ⟨hc 0, hc 1, hc 2, hc 3, ?_⟩
  exact ((Below.refl _ w).alloc (Nat.le_refl _) _).trans (hB.mono (by simp))
/-- A new stack. -/
theorem stk_new (w : World) : Stk (w.alloc (.cells #[.int .i64 0, .int .i64 0, .int .i64 0, .int .i64 0, .int .i64 0, .int .i64 0, .int .i64 0, .int .i64 0, .int .i64 0, .int .i64 0, .int .i64 0, .int .i64 0, .int .i64 0, .int .i64 0, .int .i64 0, .int .i64 0, .int .i64 0, .int .i64 0, .int .i64 0, .int .i64 0, .int .i64 0, .int .i64 0, .int .i64 0, .int .i64 0, .int .i64 0, .int .i64 0, .int .i64 0, .int .i64 0, .int .i64 0, .int .i64 0, .int .i64 0, .int .i64 0, .slice none 0 0, .int .i64 0] 80)) w.heap.size w.heap.size (.slice none 0 0) [] := by
  refine ⟨Nat.le_refl _, World.ownsRow_nil _ _ _ _, _, heap_alloc_new w _, rfl, fun i _ h => absurd h (by simp), fun i hi => ⟨0, ?_⟩, rfl, rfl⟩
  match i, hi with
  | 0, _ | 1, _ | 2, _ | 3, _ | 4, _ | 5, _ | 6, _ | 7, _ | 8, _ | 9, _ | 10, _ | 11, _ | 12, _ | 13, _ | 14, _ | 15, _ | 16, _ | 17, _ | 18, _ | 19, _ | 20, _ | 21, _ | 22, _ | 23, _ | 24, _ | 25, _ | 26, _ | 27, _ | 28, _ | 29, _ | 30, _ | 31, _ => rfl
  | (n + 32), h => omega

set_option maxRecDepth 100000 in
set_option maxHeartbeats 4000000 in
theorem fcheck_calls (a : Option Addr) (len cap : Nat) (l : List Tok) (w : World) (hl : Toks w a len l) (hsz : len ≤ 4398046511104) :
    Calls Try.prog 46 #[.slice a len cap] w fun e w' => e = .returned (.tuple #[.int .i64 (check l).1, .int .i64 (check l).2]) ∧ Below w.heap.size w w' := by
  by_cases hlong : 2048 < len
  · rw [show check l = (0, 2) from by unfold check; rw [if_pos (by rw [hl.1]; exact hlong)]]
    go_enter Try.func46, Try.ntmps46
    go_wp2
    go_ret2
    exact ⟨rfl, Below.refl _ _⟩
  · have HC : Hid (check l = checkL l 0 0) := by show check l = _; unfold check; rw [if_neg (by rw [hl.1]; exact hlong)]
    have hnew := stk_new w
    have hB0 : ∀ o, Below w.heap.size w (w.alloc o) := fun o => (Below.refl _ w).alloc (Nat.le_refl _) o
    go_enter Try.func46, Try.ntmps46
    go_wp2
    go_loopw [12] (fun i w' => ∃ (k : Nat) (v : Value) (R : List Int), k ≤ len ∧ i = .int .i64 (k : Int) ∧ R.length ≤ 32 ∧ Stk w' w.heap.size w.heap.size v R ∧ checkL (l.drop k) k (R.length : Int) = check l ∧ Below w.heap.size w w') (fun i _ => len - (intOf i).toNat)
    case atStart => exact ⟨0, _, [], Nat.zero_le _, rfl, by simp, hnew, HC.out.symm, hB0 _⟩
    case round =>
      obtain ⟨k, v, R, hk, rfl, hR, hS, hch, hB⟩ := hrel
      clear hnew hB0
      have hl' := hl.below hB
      obtain ⟨-, s33, -⟩ := hS.cells
      by_cases hlt : k < len
      · obtain ⟨x, hx, hdr⟩ := drop_getD (l := l) (k := k) (by rw [hl.1]; exact hlt)
        obtain ⟨b, o, rfl, hbl, hcl⟩ := (show ∃ b o, a = some ⟨b, o, none⟩ ∧ b < wr.heap.size ∧ ∀ i x, l[i]? = some x → wr.cell? ⟨b, o + i * 4, none⟩ = some (.int .i64 x.k) ∧ wr.cell? ⟨b, o + i * 4 + 1, none⟩ = some (.int .i64 x.t) ∧
          wr.cell? ⟨b, o + i * 4 + 2, none⟩ = some (.int .i64 x.n) ∧ wr.cell? ⟨b, o + i * 4 + 3, none⟩ = some (.int .i64 x.m) from by
            rcases hl'.2 with h | h
            · omega
            · exact h)
        obtain ⟨c0, c1, c2, c3⟩ := hcl k x hx
        have hr := fun W => fright_calls x W
        have HSz : Hid (w.heap.size ≤ wr.heap.size) := hB.size
        have HP : Hid (∀ W v R, Stk W w.heap.size w.heap.size v R → w.heap.size ≤ W.heap.size → R.length ≤ 4398046511104 → Calls Try.prog 36 #[.pointer (some ⟨w.heap.size, 0, none⟩), .int .i64 (k : Int), tokV x] W fun e w' => e = .returned (.tuple #[]) ∧ ∃ v', Stk w' w.heap.size w.heap.size v' (turn x k R) ∧ Below w.heap.size W w') := by
          intro W v R h1 h2 h3
          refine (fpass_calls w.heap.size w.heap.size v R k x W h1 h2 h3).mono ?_
          rintro e w' ⟨e1, v', e2, e3, _⟩
          exact ⟨e1, v', e2, e3.below (Nat.le_refl _) (fun j hj => (own_base h1.2.1 j hj).1) h2⟩
        have hl0 := hl.1
        clear hcl hl' hl hx
        rw [hdr] at hch
        clear hdr
        rw [checkL] at hch
        have HT : Hid ((turn x k R).length = if x.k = 1 then R.length + 1 else if x.k = 2 then R.length - 1 else R.length) := by
          show _ = _
          unfold turn
          split <;> (try split) <;> simp
        obtain ⟨xk, xt, xn, xm⟩ := x
        generalize rightT ⟨xk, xt, xn, xm⟩ = p at *
        simp only [tokV] at *
        cases p
        · have HD : Hid (check l = ((k : Int), 4)) := by show check l = _; rw [← hch]; simp
          clear hch
          go_wp2_with fail
          refine (hr _).mono ?_
          rintro e W1 ⟨rfl, hB1⟩
          obtain ⟨t0, t1, t2, t3, hB2⟩ := tok_kept hB1
          have hB3 : Below w.heap.size w W1 := hB.trans (hB2.mono hB.size)
          go_wp2
          go_ret2
          exact ⟨by rw [HD.out]; rfl, hB3⟩
        · simp only [Bool.not_true, Bool.false_or] at hch
          by_cases k1 : xk = 1
          · subst k1
            simp only [show ((1 : Int) == 2) = false from rfl, Bool.false_and, Bool.false_eq_true, if_false, if_true] at hch
            by_cases hd : R.length = 32
            · have HD : Hid (check l = ((k : Int), 8)) := by show check l = _; rw [← hch, if_pos (by omega)]
              have HT2 : Hid ((turn ⟨1, xt, xn, xm⟩ k R).length = 33) := by show _ = _; rw [HT.out]; simp [hd]
              clear hch
              go_wp2_with fail
              refine (hr _).mono ?_
              rintro e W1 ⟨rfl, hB1⟩
              obtain ⟨t0, t1, t2, t3, hB2⟩ := tok_kept hB1
              have hS1 := hS.below hB2
              have hB3 : Below w.heap.size w W1 := hB.trans (hB2.mono hB.size)
              clear hB2 hB1 hS
              go_wp2_with fail
              refine (HP.out _ _ _ hS1 hB3.size (by omega)).mono ?_
              rintro e W2 ⟨rfl, v', hS2, hB4⟩
              have hB5 := hB3.trans hB4
              obtain ⟨-, s33b, -⟩ := hS2.cells
              rw [HT2.out] at s33b
              go_wp2
              go_ret2
              exact ⟨by rw [HD.out]; rfl, hB5⟩
            · have HD : Hid (check l = checkL (l.drop (k + 1)) (k + 1) (R.length + 1)) := by show check l = _; rw [← hch, if_neg (by omega)]
              have HT2 : Hid ((turn ⟨1, xt, xn, xm⟩ k R).length = R.length + 1) := by show _ = _; rw [HT.out]; simp
              clear hch
              go_wp2_with fail
              refine (hr _).mono ?_
              rintro e W1 ⟨rfl, hB1⟩
              obtain ⟨t0, t1, t2, t3, hB2⟩ := tok_kept hB1
              have hS1 := hS.below hB2
              have hB3 : Below w.heap.size w W1 := hB.trans (hB2.mono hB.size)
              clear hB2 hB1 hS
              go_wp2_with fail
              refine (HP.out _ _ _ hS1 hB3.size (by omega)).mono ?_
              rintro e W2 ⟨rfl, v', hS2, hB4⟩
              have hB5 := hB3.trans hB4
              obtain ⟨-, s33b, -⟩ := hS2.cells
              rw [HT2.out] at s33b
              go_wp2
              go_roundw
              case rel => exact ⟨k + 1, v', _, by omega, rfl, by rw [HT2.out]; omega, hS2, by rw [HT2.out]; exact HD.out.symm, hB5⟩
              case measure => simp [intOf]; omega
          · by_cases k2 : xk = 2
            · subst k2
              simp only [show ((2 : Int) == 2) = true from rfl, Bool.true_and, show ¬ ((2 : Int) = 1) from by decide, if_false, if_true] at hch
              by_cases hd : R.length = 0
              · have HD : Hid (check l = ((k : Int), 4)) := by show check l = _; rw [← hch]; simp [hd]
                rw [hd] at s33
                clear hch
                go_wp2_with fail
                refine (hr _).mono ?_
                rintro e W1 ⟨rfl, hB1⟩
                obtain ⟨t0, t1, t2, t3, hB2⟩ := tok_kept hB1
                have hS1 := hS.below hB2
                have hB3 : Below w.heap.size w W1 := hB.trans (hB2.mono hB.size)
                have s33b : W1.cell? ⟨w.heap.size, 33, none⟩ = some (.int .i64 0) := by
                  obtain ⟨-, q, -⟩ := hS1.cells
                  rw [hd] at q
                  exact q
                go_wp2
                go_ret2
                exact ⟨by rw [HD.out]; rfl, hB3⟩
              · have HD : Hid (check l = checkL (l.drop (k + 1)) (k + 1) ((R.length - 1 : Nat) : Int)) := by show check l = _; rw [← hch, if_neg (by simpa using hd), if_neg (by omega), show ((R.length - 1 : Nat) : Int) = (R.length : Int) - 1 from by omega]
                have HT2 : Hid ((turn ⟨2, xt, xn, xm⟩ k R).length = R.length - 1) := by show _ = _; rw [HT.out]; simp
                have ed : ((R.length : Int) == 0) = false := by simpa using hd
                clear hch
                go_wp2_with fail
                refine (hr _).mono ?_
                rintro e W1 ⟨rfl, hB1⟩
                obtain ⟨t0, t1, t2, t3, hB2⟩ := tok_kept hB1
                have hS1 := hS.below hB2
                have hB3 : Below w.heap.size w W1 := hB.trans (hB2.mono hB.size)
                obtain ⟨-, s33a, -⟩ := hS1.cells
                clear hB2 hB1 hS
                go_wp2_with fail
                refine (HP.out _ _ _ hS1 hB3.size (by omega)).mono ?_
                rintro e W2 ⟨rfl, v', hS2, hB4⟩
                have hB5 := hB3.trans hB4
                obtain ⟨-, s33b, -⟩ := hS2.cells
                rw [HT2.out] at s33b
                go_wp2
                go_roundw
                case rel => exact ⟨k + 1, v', _, by omega, rfl, by rw [HT2.out]; omega, hS2, by rw [HT2.out]; exact HD.out.symm, hB5⟩
                case measure => simp [intOf]; omega
            · have HD : Hid (check l = checkL (l.drop (k + 1)) (k + 1) (R.length : Int)) := by
                show check l = _
                rw [← hch, if_neg (by simp [k2]), if_neg k1, if_neg k2, if_neg (by omega)]
              have HT2 : Hid ((turn ⟨xk, xt, xn, xm⟩ k R).length = R.length) := by show _ = _; rw [HT.out]; simp [k1, k2]
              have e2 : (xk == 2) = false := by simpa using k2
              clear hch
              go_wp2_with fail
              refine (hr _).mono ?_
              rintro e W1 ⟨rfl, hB1⟩
              obtain ⟨t0, t1, t2, t3, hB2⟩ := tok_kept hB1
              have hS1 := hS.below hB2
              have hB3 : Below w.heap.size w W1 := hB.trans (hB2.mono hB.size)
              clear hB2 hB1 hS
              go_wp2_with fail
              refine (HP.out _ _ _ hS1 hB3.size (by omega)).mono ?_
              rintro e W2 ⟨rfl, v', hS2, hB4⟩
              have hB5 := hB3.trans hB4
              obtain ⟨-, s33b, -⟩ := hS2.cells
              rw [HT2.out] at s33b
              go_wp2
              go_roundw
              case rel => exact ⟨k + 1, v', _, by omega, rfl, by rw [HT2.out]; omega, hS2, by rw [HT2.out]; exact HD.out.symm, hB5⟩
              case measure => simp [intOf]; omega
      · obtain rfl : k = len := by omega
        rw [List.drop_eq_nil_of_le (Nat.le_of_eq hl.1), checkL] at hch
        by_cases hd : R.length = 0
        · rw [if_neg (by omega)] at hch
          have HD : Hid (check l = ((k : Int), 0)) := hch.symm
          rw [hd] at s33
          clear hch hl hl'
          go_wp2
          go_ret2
          exact ⟨by rw [HD.out]; rfl, hB⟩
        · rw [if_pos (by omega)] at hch
          have HD : Hid (check l = ((k : Int), 3)) := hch.symm
          have hd1 : (0 : Int) < (R.length : Int) := by omega
          clear hch hl hl'
          generalize R.length = n at *
          go_wp2
          go_ret2
          exact ⟨by rw [HD.out]; rfl, hB⟩

end Go.Proofs.Ytgpopploimeeaaa
