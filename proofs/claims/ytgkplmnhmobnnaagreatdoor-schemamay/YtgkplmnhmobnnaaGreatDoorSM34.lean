/-
  PROVED HERE: what the texts FCheck, Own say (each has its own words below).
-/
import Derived.Test.YtgkplmnhmobnnaaGreatDoorSM33
import Derived.Test.YtgkplmnhmobnnaaGreatDoorSM31
import Derived.Deep.AppendSrc
import Derived.OwnWalkIn
import Derived.Maps.AppendAt
import Derived.ProofKit
import Derived.RangeFuncRecord
/- FCheck: flat.Check at every slice of tokens, and awake: what they return; nothing that lay before is turned. -/
namespace Go.Proofs.YtgkplmnhmobnnaaGreatDoor
open Go.RowKit

theorem Stk.below {w W : World} {base g : Nat} {v : Value} {R : List Int} (h : Stk w base g v R) (hB : Below w.heap.size w W) : Stk W base g v R := by
  have hlt := h.cells.2.2.2.2.2
  obtain ⟨h0, h1, cs, hg, hc⟩ := h
  exact ⟨h0, own_below h1 hB (by omega), cs, (hB.block g hlt).trans hg, hc⟩
/-- A new token's cells, kept. -/
theorem tok_kept {w W : World} {k t n m : Int} {T : TypeId} (hB : Below (w.alloc (.cells #[.int .i64 k, .int .i64 t, .int .i64 n, .int .i64 m] T)).heap.size (w.alloc (.cells #[.int .i64 k, .int .i64 t, .int .i64 n, .int .i64 m] T)) W) :
    W.cell? ⟨w.heap.size, 0, none⟩ = some (.int .i64 k) ∧ W.cell? ⟨w.heap.size, 1, none⟩ = some (.int .i64 t) ∧ W.cell? ⟨w.heap.size, 2, none⟩ = some (.int .i64 n) ∧ W.cell? ⟨w.heap.size, 3, none⟩ = some (.int .i64 m) ∧ Below w.heap.size w W := by
  have hg := heap_alloc_new w (.cells #[.int .i64 k, .int .i64 t, .int .i64 n, .int .i64 m] T)
  have hc := fun j => (hB.cell (p := ⟨w.heap.size, j, none⟩) (by simp)).trans (cell_of_row _ w.heap.size j _ _ _ hg)
  refine ⟨hc 0, hc 1, hc 2, hc 3, ?_⟩
  exact ((Below.refl _ w).alloc (Nat.le_refl _) _).trans (hB.mono (by simp))
/-- A new stack. -/
theorem stk_new (w : World) : Stk (w.alloc (.cells #[.int .i64 0, .int .i64 0, .int .i64 0, .int .i64 0, .int .i64 0, .int .i64 0, .int .i64 0, .int .i64 0, .int .i64 0, .int .i64 0, .int .i64 0, .int .i64 0, .int .i64 0, .int .i64 0, .int .i64 0, .int .i64 0, .int .i64 0, .int .i64 0, .int .i64 0, .int .i64 0, .int .i64 0, .int .i64 0, .int .i64 0, .int .i64 0, .int .i64 0, .int .i64 0, .int .i64 0, .int .i64 0, .int .i64 0, .int .i64 0, .int .i64 0, .int .i64 0, .slice none 0 0, .int .i64 0] 97)) w.heap.size w.heap.size (.slice none 0 0) [] := by
  refine ⟨Nat.le_refl _, World.ownsRow_nil _ _ _ _, _, heap_alloc_new w _, rfl, fun i _ h => absurd h (by simp), fun i hi => ⟨0, ?_⟩, rfl, rfl⟩
  match i, hi with
  | 0, _ | 1, _ | 2, _ | 3, _ | 4, _ | 5, _ | 6, _ | 7, _ | 8, _ | 9, _ | 10, _ | 11, _ | 12, _ | 13, _ | 14, _ | 15, _ | 16, _ | 17, _ | 18, _ | 19, _ | 20, _ | 21, _ | 22, _ | 23, _ | 24, _ | 25, _ | 26, _ | 27, _ | 28, _ | 29, _ | 30, _ | 31, _ => rfl
  | (n + 32), h => omega

set_option maxRecDepth 100000 in
set_option maxHeartbeats 4000000 in
theorem fcheck_calls (a : Option Addr) (len cap : Nat) (l : List Tok) (w : World) (hl : Toks w a len l) (hsz : len ≤ 4398046511104) :
    Calls Tryz.prog 29 #[.slice a len cap] w fun e w' => e = .returned (.tuple #[.int .i64 (check l).1, .int .i64 (check l).2]) ∧ Below w.heap.size w w' := by
  by_cases hlong : 2048 < len
  · rw [show check l = (0, 2) from by unfold check; rw [if_pos (by rw [hl.1]; exact hlong)]]
    go_enter Tryz.func29, Tryz.ntmps29
    go_wp2
    go_ret2
    exact ⟨rfl, Below.refl _ _⟩
  · have HC : Hid (check l = checkL l 0 0) := by show check l = _; unfold check; rw [if_neg (by rw [hl.1]; exact hlong)]
    have hnew := stk_new w
    have hB0 : ∀ o, Below w.heap.size w (w.alloc o) := fun o => (Below.refl _ w).alloc (Nat.le_refl _) o
    go_enter Tryz.func29, Tryz.ntmps29
    go_wp2
    go_loopw [12] (fun i w' => ∃ (k : Nat) (v : Value) (R : List Int), k ≤ len ∧ i = .int .i64 (k : Int) ∧ R.length ≤ 32 ∧ Stk w' w.heap.size w.heap.size v R ∧ checkL (l.drop k) k (R.length : Int) = check l ∧ Below w.heap.size w w') (fun i _ => len - (intOf i).toNat)
    case atStart => exact ⟨0, _, [], Nat.zero_le _, rfl, by simp, hnew, HC.out.symm, hB0 _⟩
    case round =>
      obtain ⟨k, v, R, hk, rfl, hR, hS, hch, hB⟩ := hrel
      clear hnew hB0
      have hl' := hl.below hB
      obtain ⟨-, s33, -⟩ := hS.cells
      by_cases hlt : k < len
      · obtain ⟨x, hx, hdr⟩ := drop_getD (l := l) (k := k) (by rw [hl.1]; exact hlt)
        obtain ⟨b, o, rfl, hbl, hcl⟩ := (show ∃ b o, a = some ⟨b, o, none⟩ ∧ b < wr.heap.size ∧ ∀ i x, l[i]? = some x → wr.cell? ⟨b, o + i * 4, none⟩ = some (.int .i64 x.k) ∧ wr.cell? ⟨b, o + i * 4 + 1, none⟩ = some (.int .i64 x.t) ∧
          wr.cell? ⟨b, o + i * 4 + 2, none⟩ = some (.int .i64 x.n) ∧ wr.cell? ⟨b, o + i * 4 + 3, none⟩ = some (.int .i64 x.m) from by
            rcases hl'.2 with h | h
            · omega
            · exact h)
        obtain ⟨c0, c1, c2, c3⟩ := hcl k x hx
        have hr := fun W => fright_calls x W
        have HSz : Hid (w.heap.size ≤ wr.heap.size) := hB.size
        have HP : Hid (∀ W v R, Stk W w.heap.size w.heap.size v R → w.heap.size ≤ W.heap.size → R.length ≤ 4398046511104 → Calls Tryz.prog 60 #[.pointer (some ⟨w.heap.size, 0, none⟩), .int .i64 (k : Int), tokV x] W fun e w' => e = .returned (.tuple #[]) ∧ ∃ v', Stk w' w.heap.size w.heap.size v' (turn x k R) ∧ Below w.heap.size W w') := by
          intro W v R h1 h2 h3
          refine (fpass_calls w.heap.size w.heap.size v R k x W h1 h2 h3).mono ?_
          rintro e w' ⟨e1, v', e2, e3, _⟩
          exact ⟨e1, v', e2, e3.below (Nat.le_refl _) (fun j hj => (own_base h1.2.1 j hj).1) h2⟩
        have hl0 := hl.1
        clear hcl hl' hl hx
        rw [hdr] at hch
        clear hdr
        rw [checkL] at hch
        have HT : Hid ((turn x k R).length = if x.k = 1 then R.length + 1 else if x.k = 2 then R.length - 1 else R.length) := by
          show _ = _
          unfold turn
          split <;> (try split) <;> simp
        obtain ⟨xk, xt, xn, xm⟩ := x
        generalize rightT ⟨xk, xt, xn, xm⟩ = p at *
        simp only [tokV] at *
        cases p
        · have HD : Hid (check l = ((k : Int), 4)) := by show check l = _; rw [← hch]; simp
          clear hch
          go_wp2_with fail
          refine (hr _).mono ?_
          rintro e W1 ⟨rfl, hB1⟩
          obtain ⟨t0, t1, t2, t3, hB2⟩ := tok_kept hB1
          have hB3 : Below w.heap.size w W1 := hB.trans (hB2.mono hB.size)
          go_wp2
          go_ret2
          exact ⟨by rw [HD.out]; rfl, hB3⟩
        · simp only [Bool.not_true, Bool.false_or] at hch
          by_cases k1 : xk = 1
          · subst k1
            simp only [show ((1 : Int) == 2) = false from rfl, Bool.false_and, Bool.false_eq_true, if_false, if_true] at hch
            by_cases hd : R.length = 32
            · have HD : Hid (check l = ((k : Int), 8)) := by show check l = _; rw [← hch, if_pos (by omega)]
              have HT2 : Hid ((turn ⟨1, xt, xn, xm⟩ k R).length = 33) := by show _ = _; rw [HT.out]; simp [hd]
              clear hch
              go_wp2_with fail
              refine (hr _).mono ?_
              rintro e W1 ⟨rfl, hB1⟩
              obtain ⟨t0, t1, t2, t3, hB2⟩ := tok_kept hB1
              have hS1 := hS.below hB2
              have hB3 : Below w.heap.size w W1 := hB.trans (hB2.mono hB.size)
              clear hB2 hB1 hS
              go_wp2_with fail
              refine (HP.out _ _ _ hS1 hB3.size (by omega)).mono ?_
              rintro e W2 ⟨rfl, v', hS2, hB4⟩
              have hB5 := hB3.trans hB4
              obtain ⟨-, s33b, -⟩ := hS2.cells
              rw [HT2.out] at s33b
              go_wp2
              go_ret2
              exact ⟨by rw [HD.out]; rfl, hB5⟩
            · have HD : Hid (check l = checkL (l.drop (k + 1)) (k + 1) (R.length + 1)) := by show check l = _; rw [← hch, if_neg (by omega)]
              have HT2 : Hid ((turn ⟨1, xt, xn, xm⟩ k R).length = R.length + 1) := by show _ = _; rw [HT.out]; simp
              clear hch
              go_wp2_with fail
              refine (hr _).mono ?_
              rintro e W1 ⟨rfl, hB1⟩
              obtain ⟨t0, t1, t2, t3, hB2⟩ := tok_kept hB1
              have hS1 := hS.below hB2
              have hB3 : Below w.heap.size w W1 := hB.trans (hB2.mono hB.size)
              clear hB2 hB1 hS
              go_wp2_with fail
              refine (HP.out _ _ _ hS1 hB3.size (by omega)).mono ?_
              rintro e W2 ⟨rfl, v', hS2, hB4⟩
              have hB5 := hB3.trans hB4
              obtain ⟨-, s33b, -⟩ := hS2.cells
              rw [HT2.out] at s33b
              go_wp2
              go_roundw
              case rel => exact ⟨k + 1, v', _, by omega, rfl, by rw [HT2.out]; omega, hS2, by rw [HT2.out]; exact HD.out.symm, hB5⟩
              case measure => simp [intOf]; omega
          · by_cases k2 : xk = 2
            · subst k2
              simp only [show ((2 : Int) == 2) = true from rfl, Bool.true_and, show ¬ ((2 : Int) = 1) from by decide, if_false, if_true] at hch
              by_cases hd : R.length = 0
              · have HD : Hid (check l = ((k : Int), 4)) := by show check l = _; rw [← hch]; simp [hd]
                rw [hd] at s33
                clear hch
                go_wp2_with fail
                refine (hr _).mono ?_
                rintro e W1 ⟨rfl, hB1⟩
                obtain ⟨t0, t1, t2, t3, hB2⟩ := tok_kept hB1
                have hS1 := hS.below hB2
                have hB3 : Below w.heap.size w W1 := hB.trans (hB2.mono hB.size)
                have s33b : W1.cell? ⟨w.heap.size, 33, none⟩ = some (.int .i64 0) := by
                  obtain ⟨-, q, -⟩ := hS1.cells
                  rw [hd] at q
                  exact q
                go_wp2
                go_ret2
                exact ⟨by rw [HD.out]; rfl, hB3⟩
              · have HD : Hid (check l = checkL (l.drop (k + 1)) (k + 1) ((R.length - 1 : Nat) : Int)) := by show check l = _; rw [← hch, if_neg (by simpa using hd), if_neg (by omega), show ((R.length - 1 : Nat) : Int) = (R.length : Int) - 1 from by omega]
                have HT2 : Hid ((turn ⟨2, xt, xn, xm⟩ k R).length = R.length - 1) := by show _ = _; rw [HT.out]; simp
                have ed : ((R.length : Int) == 0) = false := by simpa using hd
                clear hch
                go_wp2_with fail
                refine (hr _).mono ?_
                rintro e W1 ⟨rfl, hB1⟩
                obtain ⟨t0, t1, t2, t3, hB2⟩ := tok_kept hB1
                have hS1 := hS.below hB2
                have hB3 : Below w.heap.size w W1 := hB.trans (hB2.mono hB.size)
                obtain ⟨-, s33a, -⟩ := hS1.cells
                clear hB2 hB1 hS
                go_wp2_with fail
                refine (HP.out _ _ _ hS1 hB3.size (by omega)).mono ?_
                rintro e W2 ⟨rfl, v', hS2, hB4⟩
                have hB5 := hB3.trans hB4
                obtain ⟨-, s33b, -⟩ := hS2.cells
                rw [HT2.out] at s33b
                go_wp2
                go_roundw
                case rel => exact ⟨k + 1, v', _, by omega, rfl, by rw [HT2.out]; omega, hS2, by rw [HT2.out]; exact HD.out.symm, hB5⟩
                case measure => simp [intOf]; omega
            · have HD : Hid (check l = checkL (l.drop (k + 1)) (k + 1) (R.length : Int)) := by
                show check l = _
                rw [← hch, if_neg (by simp [k2]), if_neg k1, if_neg k2, if_neg (by omega)]
              have HT2 : Hid ((turn ⟨xk, xt, xn, xm⟩ k R).length = R.length) := by show _ = _; rw [HT.out]; simp [k1, k2]
              have e2 : (xk == 2) = false := by simpa using k2
              clear hch
              go_wp2_with fail
              refine (hr _).mono ?_
              rintro e W1 ⟨rfl, hB1⟩
              obtain ⟨t0, t1, t2, t3, hB2⟩ := tok_kept hB1
              have hS1 := hS.below hB2
              have hB3 : Below w.heap.size w W1 := hB.trans (hB2.mono hB.size)
              clear hB2 hB1 hS
              go_wp2_with fail
              refine (HP.out _ _ _ hS1 hB3.size (by omega)).mono ?_
              rintro e W2 ⟨rfl, v', hS2, hB4⟩
              have hB5 := hB3.trans hB4
              obtain ⟨-, s33b, -⟩ := hS2.cells
              rw [HT2.out] at s33b
              go_wp2
              go_roundw
              case rel => exact ⟨k + 1, v', _, by omega, rfl, by rw [HT2.out]; omega, hS2, by rw [HT2.out]; exact HD.out.symm, hB5⟩
              case measure => simp [intOf]; omega
      · obtain rfl : k = len := by omega
        rw [List.drop_eq_nil_of_le (Nat.le_of_eq hl.1), checkL] at hch
        by_cases hd : R.length = 0
        · rw [if_neg (by omega)] at hch
          have HD : Hid (check l = ((k : Int), 0)) := hch.symm
          rw [hd] at s33
          clear hch hl hl'
          go_wp2
          go_ret2
          exact ⟨by rw [HD.out]; rfl, hB⟩
        · rw [if_pos (by omega)] at hch
          have HD : Hid (check l = ((k : Int), 3)) := hch.symm
          have hd1 : (0 : Int) < (R.length : Int) := by omega
          clear hch hl hl'
          generalize R.length = n at *
          go_wp2
          go_ret2
          exact ⟨by rw [HD.out]; rfl, hB⟩

end Go.Proofs.YtgkplmnhmobnnaaGreatDoor

/- Own: tokens that a call owns, appended to; parts of tokens. -/
namespace Go.Proofs.YtgkplmnhmobnnaaGreatDoor
open Go.RowKit

theorem info23 : (Tryz.prog.info? 51).map (fun i => (i.zero, i.size, i.bytes)) = some (some (.agg #[.int .i64 0, .int .i64 0, .int .i64 0, .int .i64 0]), 4, 32) := by kernel_rfl
/-- The cells of tokens. -/
def flat : List Tok → List Value
  | [] => []
  | x :: r => .int .i64 x.k :: .int .i64 x.t :: .int .i64 x.n :: .int .i64 x.m :: flat r
theorem flat_append (l m : List Tok) : flat (l ++ m) = flat l ++ flat m := by
  induction l with
  | nil => rfl
  | cons x r ih => simp [flat, ih]
theorem flat_length (l : List Tok) : (flat l).length = l.length * 4 := by
  induction l with
  | nil => rfl
  | cons x r ih => simp [flat, ih]; omega
theorem flat_one (l : List Tok) : ∀ u ∈ flat l, u.oneCell' = true := by
  induction l with
  | nil => intro u hu; cases hu
  | cons x r ih =>
    intro u hu
    simp only [flat, List.mem_cons] at hu
    rcases hu with rfl | rfl | rfl | rfl | hu
    · rfl
    · rfl
    · rfl
    · rfl
    · exact ih u hu
theorem flat_at (l : List Tok) (i : Nat) (x : Tok) (h : l[i]? = some x) : (flat l)[i * 4]? = some (.int .i64 x.k) ∧ (flat l)[i * 4 + 1]? = some (.int .i64 x.t) ∧ (flat l)[i * 4 + 2]? = some (.int .i64 x.n) ∧ (flat l)[i * 4 + 3]? = some (.int .i64 x.m) := by
  induction l generalizing i with
  | nil => simp at h
  | cons y r ih =>
    cases i with
    | zero =>
      obtain rfl : y = x := by simpa using h
      exact ⟨rfl, rfl, rfl, rfl⟩
    | succ i =>
      have := ih i (by simpa using h)
      rw [show (i + 1) * 4 = i * 4 + 4 from by omega, show i * 4 + 4 + 1 = i * 4 + 1 + 4 from by omega, show i * 4 + 4 + 2 = i * 4 + 2 + 4 from by omega, show i * 4 + 4 + 3 = i * 4 + 3 + 4 from by omega]
      exact this
theorem flat_cells {w : World} {b : Nat} (l : List Tok) (o : Nat) (h : ∀ i x, l[i]? = some x → w.cell? ⟨b, o + i * 4, none⟩ = some (.int .i64 x.k) ∧ w.cell? ⟨b, o + i * 4 + 1, none⟩ = some (.int .i64 x.t) ∧
    w.cell? ⟨b, o + i * 4 + 2, none⟩ = some (.int .i64 x.n) ∧ w.cell? ⟨b, o + i * 4 + 3, none⟩ = some (.int .i64 x.m)) : ∀ j u, (flat l)[j]? = some u → w.cell? ⟨b, o + j, none⟩ = some u := by
  intro j u hj
  have hjl : j < l.length * 4 := by
    have := (List.getElem?_eq_some_iff.1 hj).1
    rwa [flat_length] at this
  obtain ⟨x, hx⟩ : ∃ x, l[j / 4]? = some x := ⟨_, List.getElem?_eq_getElem (by omega)⟩
  obtain ⟨f0, f1, f2, f3⟩ := flat_at l (j / 4) x hx
  obtain ⟨c0, c1, c2, c3⟩ := h (j / 4) x hx
  rcases (show j = j / 4 * 4 ∨ j = j / 4 * 4 + 1 ∨ j = j / 4 * 4 + 2 ∨ j = j / 4 * 4 + 3 from by omega) with e | e | e | e
  · rw [e] at hj ⊢
    rw [f0] at hj
    exact c0.trans hj
  · rw [e] at hj ⊢
    rw [f1] at hj
    exact c1.trans hj
  · rw [e] at hj ⊢
    rw [f2] at hj
    exact c2.trans hj
  · rw [e] at hj ⊢
    rw [f3] at hj
    exact c3.trans hj
theorem add_none4 (b o i : Nat) : (⟨b, o, none⟩ : Addr).add i = ⟨b, o + i, none⟩ := by unfold Addr.add; split <;> simp_all

/-- What a slice of tokens owns, read. -/
theorem toks_of_owns {W : World} {base : Nat} {v : Value} {n : Nat} {l : List Tok} (h : W.ownsRow base 51 4 v n (flat l)) (hv : v ≠ .slice none 0 0) :
    ∃ g cap, v = .slice (some ⟨g, 0, none⟩) n cap ∧ base ≤ g ∧ n ≤ cap ∧ cap ≤ maxLen ∧ Toks W (some ⟨g, 0, none⟩) n l := by
  obtain ⟨hl, ⟨h1, _⟩ | ⟨g, cap, cur, rfl, hb, hg, hc1, hc2, hc3, hc4⟩⟩ := h
  · exact absurd h1 hv
  · have hl' : l.length = n := by rw [flat_length] at hl; omega
    refine ⟨g, cap, rfl, hb, hc1, hc2, hl', .inr ⟨g, 0, rfl, (Array.getElem?_eq_some_iff.1 hg).1, fun i x hx => ?_⟩⟩
    have hi : i < l.length := (List.getElem?_eq_some_iff.1 hx).1
    obtain ⟨f0, f1, f2, f3⟩ := flat_at l i x hx
    have key : ∀ j u, (flat l)[j]? = some u → W.cell? ⟨g, 0 + j, none⟩ = some u := by
      intro j u hj
      have hjl : j < n * 4 := by
        have := (List.getElem?_eq_some_iff.1 hj).1
        rw [flat_length] at this
        omega
      rw [← hc4, List.getElem?_take, if_pos hjl, Array.getElem?_toList] at hj
      simp [World.cell?, hg, hj]
    exact ⟨key _ _ f0, key _ _ f1, key _ _ f2, key _ _ f3⟩

/-- append of tokens to what the call owns. -/
theorem tok_append_own (base : Nat) (v : Value) (n : Nat) (xs : List Tok) (W : World) (hown : W.ownsRow base 51 4 v n (flat xs)) (hv : v ≠ .slice none 0 0) (hbase : base ≤ W.heap.size) (a : Option Addr) (len cap : Nat) (bs : List Tok) (hr : Toks W a len bs) (hsz : n + len ≤ 4398046511104) :
    ∃ v' W1, (Builtin.append_ #[22, 22] 22 #[v, .slice a len cap]).run Tryz.prog W = .ok v' W1 ∧ W1.ownsRow base 51 4 v' (n + len) (flat (xs ++ bs)) ∧ v' ≠ .slice none 0 0 ∧ Below base W W1 := by
  obtain ⟨i0, hi, hz0, hz1, hz2⟩ := info_parts info23
  have hown0 := hown
  obtain ⟨hl0, ⟨h1, _⟩ | ⟨g, c, cur, rfl, hbg, hg, hc1, hc2, hc3, hc4⟩⟩ := hown0
  · exact absurd h1 hv
  · rcases Nat.eq_zero_or_pos len with h0 | h0
    · subst h0
      obtain rfl : bs = [] := List.length_eq_zero_iff.1 hr.1
      have hs : Src Tryz.prog i0.size 22 (.slice a 0 cap) 0 [] W := by
        cases a with
        | none => exact Src.ofNil _ Tryz.underlying22 cap
        | some p => exact Src.ofSlice _ Tryz.underlying22 p 0 cap [] (by simp) (by simp) (by simp)
      have h3 := run_append_room_src (P := Tryz.prog) W 22 22 22 51 i0 Tryz.underlying22 hi g 0 n c _ 0 [] hs (by omega) (by simp) (by simp)
      exact ⟨_, _, h3, by rw [List.append_nil]; exact hown, by simp, Below.refl base W⟩
    · obtain ⟨hl, h1 | ⟨b, o, rfl, hlt, hc⟩⟩ := hr
      · omega
      · obtain ⟨v', W1, hrun, r1, r2, r3⟩ := run_append_own (P := Tryz.prog) W base 22 22 51 i0 _ 4 32 Tryz.underlying22 hi hz0 hz1 hz2 rfl (by decide) _ n _ hown ⟨b, o, none⟩ len cap (flat bs) (by rw [flat_length, hl])
          (fun j u hj => by rw [add_none4]; exact flat_cells bs o hc j u hj) (flat_one bs) (by unfold maxLen; omega) (by omega) hbase
        rw [← flat_append] at r1
        exact ⟨_, _, hrun, r1, fun e => by have := r3.1 e; simp at this, (Below.refl base W).grown r2 hbase (fun k e => by simp [Value.ownBlock] at e; omega)⟩

/-- append([]api.Token{}, l...): a copy that the call owns. -/
theorem tok_clone_own (a : Option Addr) (len cap : Nat) (bs : List Tok) (w : World) (hr : Toks w a len bs) (hsz : len ≤ 4398046511104) :
    ∃ v W1, (Builtin.append_ #[22, 22] 22 #[.slice (some ⟨w.heap.size, 0, none⟩) 0 0, .slice a len cap]).run Tryz.prog (w.alloc (.cells #[] 51)) = .ok v W1 ∧ W1.ownsRow w.heap.size 51 4 v len (flat bs) ∧ v ≠ .slice none 0 0 ∧ Below w.heap.size w W1 := by
  have hB : Below w.heap.size w (w.alloc (.cells #[] 51)) := (Below.refl _ w).alloc (Nat.le_refl _) _
  have hg : (w.alloc (.cells #[] 51)).heap[w.heap.size]? = some (.cells #[] 51 (0, 0)) := World.alloc_heap_new w _
  have hown : (w.alloc (.cells #[] 51)).ownsRow w.heap.size 51 4 (.slice (some ⟨w.heap.size, 0, none⟩) 0 0) 0 (flat []) := ⟨rfl, .inr ⟨_, _, _, rfl, Nat.le_refl _, hg, Nat.le_refl _, Nat.zero_le _, rfl, rfl⟩⟩
  obtain ⟨v', W1, h1, h2, h3, h4⟩ := tok_append_own w.heap.size _ 0 [] _ hown (by simp) (by simp) a len cap bs (hr.below hB) (by omega)
  rw [Nat.zero_add, List.nil_append] at h2
  exact ⟨v', W1, h1, h2, h3, hB.trans h4⟩

/-- A part of tokens. -/
theorem Toks.sub {w : World} {b o : Nat} {len : Nat} {l : List Tok} (h : Toks w (some ⟨b, o, none⟩) len l) (f n : Nat) (hf : f + n ≤ len) : Toks w (some ⟨b, o + f * 4, none⟩) n ((l.drop f).take n) := by
  obtain ⟨h1, h2⟩ := h
  refine ⟨by rw [List.length_take, List.length_drop]; omega, ?_⟩
  rcases Nat.eq_zero_or_pos n with h0 | h0
  · exact .inl h0
  · rcases h2 with h2 | ⟨b', o', e, hlt, hc⟩
    · omega
    · cases e
      refine .inr ⟨b, _, rfl, hlt, fun i x hx => ?_⟩
      rw [List.getElem?_take] at hx
      split at hx
      · rw [List.getElem?_drop] at hx
        have := hc (f + i) x hx
        rw [show o + f * 4 + i * 4 = o + (f + i) * 4 from by omega]
        exact this
      · cases hx

theorem Toks.part {w : World} {b o : Nat} {len : Nat} {l : List Tok} (h : Toks w (some ⟨b, o, none⟩) len l) (f n cap : Nat) (hf : f + n ≤ len) (hc : len ≤ cap) : Toks w (if cap = f then some ⟨b, o, none⟩ else some ⟨b, o + f * 4, none⟩) n ((l.drop f).take n) := by
  split
  · obtain rfl : n = 0 := by omega
    exact ⟨by simp, .inl rfl⟩
  · exact h.sub f n hf

/-- A built-in append whose run is known, in a walk. -/
theorem wp_tok_run {o : Oper} {a : Act} {w : World} {K : Act → World → Prop} {Q : Exit → Act → World → Prop} (s x : Operand) (t : TypeId) (ho : o.op = .call { callee := .builtin .append, args := #[s, x], argTypes := #[t, t] })
    (v u v' : Value) (w' : World) (hs : a.eval s = v) (hx : a.eval x = u) (hr : (Builtin.append_ #[t, t] o.type #[v, u]).run Tryz.prog w = .ok v' w') (h : K (a.put o.dst v') w') : o.wp Tryz.prog a w K Q := by
  unfold Oper.wp execOp
  simp only [ho, resolve, invoke, builtin, Sem.run_bind, Sem.run_pure, Result.andThen_ok, List.map_toArray, List.map_cons, List.map_nil, hs, hx, hr]
  exact h
theorem wpList_tok_run {ops : Array Oper} {rest : List Oper} {o : Oper} {a : Act} {w : World} {Q : Exit → Act → World → Prop} (hgd : o.guard = none) (s x : Operand) (t : TypeId) (ho : o.op = .call { callee := .builtin .append, args := #[s, x], argTypes := #[t, t] })
    (v u v' : Value) (w' : World) (hs : a.eval s = v) (hx : a.eval x = u) (hr : (Builtin.append_ #[t, t] o.type #[v, u]).run Tryz.prog w = .ok v' w') (h : wpList Tryz.prog ops Q rest (a.put o.dst v') w') : wpList Tryz.prog ops Q (o :: rest) a w :=
  wpList_plain hgd fun _ hK => wp_tok_run s x t ho v u v' w' hs hx hr (hK _ _ h)

def cut (l : List Tok) (f t : Int) : List Tok := if f < 0 ∨ t < f ∨ (l.length : Int) < t then [] else (l.drop f.toNat).take (t - f).toNat
def cutE (l : List Tok) (f t : Int) : Int := if f < 0 ∨ t < f ∨ (l.length : Int) < t then 1 else 0
end Go.Proofs.YtgkplmnhmobnnaaGreatDoor
