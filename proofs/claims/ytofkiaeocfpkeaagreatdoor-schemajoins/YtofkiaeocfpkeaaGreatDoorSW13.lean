/-
  PROVED HERE: what the texts FCheck, Own, SchF, FOpen, FDeep, Txt, Doc, Pair, End, FPartner say (each has its own words below).
-/
import Derived.Test.YtofkiaeocfpkeaaGreatDoorSW12
import Derived.Deep.AppendSrc
import Derived.OwnWalkIn
import Derived.Maps.AppendAt
import Derived.ProofKit
import Derived.RangeFuncRecord
import Derived.Deep.WholeRow
/- FCheck: flat.Check at every slice of tokens, and awake: what they return; nothing that lay before is turned. -/
namespace Go.Proofs.YtofkiaeocfpkeaaGreatDoor
open Go.RowKit

theorem Stk.below {w W : World} {base g : Nat} {v : Value} {R : List Int} (h : Stk w base g v R) (hB : Below w.heap.size w W) : Stk W base g v R := by
  have hlt := h.cells.2.2.2.2.2
  obtain ⟨h0, h1, cs, hg, hc⟩ := h
  exact ⟨h0, own_below h1 hB (by omega), cs, (hB.block g hlt).trans hg, hc⟩
/-- A new token's cells, kept. -/
theorem tok_kept {w W : World} {k t n m : Int} {T : TypeId} (hB : Below (w.alloc (.cells #[.int .i64 k, .int .i64 t, .int .i64 n, .int .i64 m] T)).heap.size (w.alloc (.cells #[.int .i64 k, .int .i64 t, .int .i64 n, .int .i64 m] T)) W) :
    W.cell? ⟨w.heap.size, 0, none⟩ = some (.int .i64 k) ∧ W.cell? ⟨w.heap.size, 1, none⟩ = some (.int .i64 t) ∧ W.cell? ⟨w.heap.size, 2, none⟩ = some (.int .i64 n) ∧ W.cell? ⟨w.heap.size, 3, none⟩ = some (.int .i64 m) ∧ Below w.heap.size w W := by
  have hg := heap_alloc_new w (.cells #[.int .i64 k, .int .i64 t, .int .i64 n, .int .i64 m] T)
  have hc := fun j => (hB.cell (p := ⟨w.heap.size, j, none⟩) (by simp)).trans (cell_of_row _ w.heap.size j _ _ _ hg)
  refine ⟨hc 0, hc 1, hc 2, hc 3, ?_⟩
  exact ((Below.refl _ w).alloc (Nat.le_refl _) _).trans (hB.mono (by simp))
/-- A new stack. -/
theorem stk_new (w : World) : Stk (w.alloc (.cells #[.int .i64 0, .int .i64 0, .int .i64 0, .int .i64 0, .int .i64 0, .int .i64 0, .int .i64 0, .int .i64 0, .int .i64 0, .int .i64 0, .int .i64 0, .int .i64 0, .int .i64 0, .int .i64 0, .int .i64 0, .int .i64 0, .int .i64 0, .int .i64 0, .int .i64 0, .int .i64 0, .int .i64 0, .int .i64 0, .int .i64 0, .int .i64 0, .int .i64 0, .int .i64 0, .int .i64 0, .int .i64 0, .int .i64 0, .int .i64 0, .int .i64 0, .int .i64 0, .slice none 0 0, .int .i64 0] 136)) w.heap.size w.heap.size (.slice none 0 0) [] := by
  refine ⟨Nat.le_refl _, World.ownsRow_nil _ _ _ _, _, heap_alloc_new w _, rfl, fun i _ h => absurd h (by simp), fun i hi => ⟨0, ?_⟩, rfl, rfl⟩
  match i, hi with
  | 0, _ | 1, _ | 2, _ | 3, _ | 4, _ | 5, _ | 6, _ | 7, _ | 8, _ | 9, _ | 10, _ | 11, _ | 12, _ | 13, _ | 14, _ | 15, _ | 16, _ | 17, _ | 18, _ | 19, _ | 20, _ | 21, _ | 22, _ | 23, _ | 24, _ | 25, _ | 26, _ | 27, _ | 28, _ | 29, _ | 30, _ | 31, _ => rfl
  | (n + 32), h => omega

set_option maxRecDepth 100000 in
set_option maxHeartbeats 4000000 in
theorem fcheck_calls (a : Option Addr) (len cap : Nat) (l : List Tok) (w : World) (hl : Toks w a len l) (hsz : len ≤ 4398046511104) :
    Calls Tryz.prog 31 #[.slice a len cap] w fun e w' => e = .returned (.tuple #[.int .i64 (check l).1, .int .i64 (check l).2]) ∧ Below w.heap.size w w' := by
  by_cases hlong : 2048 < len
  · rw [show check l = (0, 2) from by unfold check; rw [if_pos (by rw [hl.1]; exact hlong)]]
    go_enter Tryz.func31, Tryz.ntmps31
    go_wp2
    go_ret2
    exact ⟨rfl, Below.refl _ _⟩
  · have HC : Hid (check l = checkL l 0 0) := by show check l = _; unfold check; rw [if_neg (by rw [hl.1]; exact hlong)]
    have hnew := stk_new w
    have hB0 : ∀ o, Below w.heap.size w (w.alloc o) := fun o => (Below.refl _ w).alloc (Nat.le_refl _) o
    go_enter Tryz.func31, Tryz.ntmps31
    go_wp2
    go_loopw [12] (fun i w' => ∃ (k : Nat) (v : Value) (R : List Int), k ≤ len ∧ i = .int .i64 (k : Int) ∧ R.length ≤ 32 ∧ Stk w' w.heap.size w.heap.size v R ∧ checkL (l.drop k) k (R.length : Int) = check l ∧ Below w.heap.size w w') (fun i _ => len - (intOf i).toNat)
    case atStart => exact ⟨0, _, [], Nat.zero_le _, rfl, by simp, hnew, HC.out.symm, hB0 _⟩
    case round =>
      obtain ⟨k, v, R, hk, rfl, hR, hS, hch, hB⟩ := hrel
      clear hnew hB0
      have hl' := hl.below hB
      obtain ⟨-, s33, -⟩ := hS.cells
      by_cases hlt : k < len
      · obtain ⟨x, hx, hdr⟩ := drop_getD (l := l) (k := k) (by rw [hl.1]; exact hlt)
        obtain ⟨b, o, rfl, hbl, hcl⟩ := (show ∃ b o, a = some ⟨b, o, none⟩ ∧ b < wr.heap.size ∧ ∀ i x, l[i]? = some x → wr.cell? ⟨b, o + i * 4, none⟩ = some (.int .i64 x.k) ∧ wr.cell? ⟨b, o + i * 4 + 1, none⟩ = some (.int .i64 x.t) ∧
          wr.cell? ⟨b, o + i * 4 + 2, none⟩ = some (.int .i64 x.n) ∧ wr.cell? ⟨b, o + i * 4 + 3, none⟩ = some (.int .i64 x.m) from by
            rcases hl'.2 with h | h
            · omega
            · exact h)
        obtain ⟨c0, c1, c2, c3⟩ := hcl k x hx
        have hr := fun W => fright_calls x W
        have HSz : Hid (w.heap.size ≤ wr.heap.size) := hB.size
        have HP : Hid (∀ W v R, Stk W w.heap.size w.heap.size v R → w.heap.size ≤ W.heap.size → R.length ≤ 4398046511104 → Calls Tryz.prog 79 #[.pointer (some ⟨w.heap.size, 0, none⟩), .int .i64 (k : Int), tokV x] W fun e w' => e = .returned (.tuple #[]) ∧ ∃ v', Stk w' w.heap.size w.heap.size v' (turn x k R) ∧ Below w.heap.size W w') := by
          intro W v R h1 h2 h3
          refine (fpass_calls w.heap.size w.heap.size v R k x W h1 h2 h3).mono ?_
          rintro e w' ⟨e1, v', e2, e3, _⟩
          exact ⟨e1, v', e2, e3.below (Nat.le_refl _) (fun j hj => (own_base h1.2.1 j hj).1) h2⟩
        have hl0 := hl.1
        clear hcl hl' hl hx
        rw [hdr] at hch
        clear hdr
        rw [checkL] at hch
        have HT : Hid ((turn x k R).length = if x.k = 1 then R.length + 1 else if x.k = 2 then R.length - 1 else R.length) := by
          show _ = _
          unfold turn
          split <;> (try split) <;> simp
        obtain ⟨xk, xt, xn, xm⟩ := x
        generalize rightT ⟨xk, xt, xn, xm⟩ = p at *
        simp only [tokV] at *
        cases p
        · have HD : Hid (check l = ((k : Int), 4)) := by show check l = _; rw [← hch]; simp
          clear hch
          go_wp2_with fail
          refine (hr _).mono ?_
          rintro e W1 ⟨rfl, hB1⟩
          obtain ⟨t0, t1, t2, t3, hB2⟩ := tok_kept hB1
          have hB3 : Below w.heap.size w W1 := hB.trans (hB2.mono hB.size)
          go_wp2
          go_ret2
          exact ⟨by rw [HD.out]; rfl, hB3⟩
        · simp only [Bool.not_true, Bool.false_or] at hch
          by_cases k1 : xk = 1
          · subst k1
            simp only [show ((1 : Int) == 2) = false from rfl, Bool.false_and, Bool.false_eq_true, if_false, if_true] at hch
            by_cases hd : R.length = 32
            · have HD : Hid (check l = ((k : Int), 8)) := by show check l = _; rw [← hch, if_pos (by omega)]
              have HT2 : Hid ((turn ⟨1, xt, xn, xm⟩ k R).length = 33) := by show _ = _; rw [HT.out]; simp [hd]
              clear hch
              go_wp2_with fail
              refine (hr _).mono ?_
              rintro e W1 ⟨rfl, hB1⟩
              obtain ⟨t0, t1, t2, t3, hB2⟩ := tok_kept hB1
              have hS1 := hS.below hB2
              have hB3 : Below w.heap.size w W1 := hB.trans (hB2.mono hB.size)
              clear hB2 hB1 hS
              go_wp2_with fail
              refine (HP.out _ _ _ hS1 hB3.size (by omega)).mono ?_
              rintro e W2 ⟨rfl, v', hS2, hB4⟩
              have hB5 := hB3.trans hB4
              obtain ⟨-, s33b, -⟩ := hS2.cells
              rw [HT2.out] at s33b
              go_wp2
              go_ret2
              exact ⟨by rw [HD.out]; rfl, hB5⟩
            · have HD : Hid (check l = checkL (l.drop (k + 1)) (k + 1) (R.length + 1)) := by show check l = _; rw [← hch, if_neg (by omega)]
              have HT2 : Hid ((turn ⟨1, xt, xn, xm⟩ k R).length = R.length + 1) := by show _ = _; rw [HT.out]; simp
              clear hch
              go_wp2_with fail
              refine (hr _).mono ?_
              rintro e W1 ⟨rfl, hB1⟩
              obtain ⟨t0, t1, t2, t3, hB2⟩ := tok_kept hB1
              have hS1 := hS.below hB2
              have hB3 : Below w.heap.size w W1 := hB.trans (hB2.mono hB.size)
              clear hB2 hB1 hS
              go_wp2_with fail
              refine (HP.out _ _ _ hS1 hB3.size (by omega)).mono ?_
              rintro e W2 ⟨rfl, v', hS2, hB4⟩
              have hB5 := hB3.trans hB4
              obtain ⟨-, s33b, -⟩ := hS2.cells
              rw [HT2.out] at s33b
              go_wp2
              go_roundw
              case rel => exact ⟨k + 1, v', _, by omega, rfl, by rw [HT2.out]; omega, hS2, by rw [HT2.out]; exact HD.out.symm, hB5⟩
              case measure => simp [intOf]; omega
          · by_cases k2 : xk = 2
            · subst k2
              simp only [show ((2 : Int) == 2) = true from rfl, Bool.true_and, show ¬ ((2 : Int) = 1) from by decide, if_false, if_true] at hch
              by_cases hd : R.length = 0
              · have HD : Hid (check l = ((k : Int), 4)) := by show check l = _; rw [← hch]; simp [hd]
                rw [hd] at s33
                clear hch
                go_wp2_with fail
                refine (hr _).mono ?_
                rintro e W1 ⟨rfl, hB1⟩
                obtain ⟨t0, t1, t2, t3, hB2⟩ := tok_kept hB1
                have hS1 := hS.below hB2
                have hB3 : Below w.heap.size w W1 := hB.trans (hB2.mono hB.size)
                have s33b : W1.cell? ⟨w.heap.size, 33, none⟩ = some (.int .i64 0) := by
                  obtain ⟨-, q, -⟩ := hS1.cells
                  rw [hd] at q
                  exact q
                go_wp2
                go_ret2
                exact ⟨by rw [HD.out]; rfl, hB3⟩
              · have HD : Hid (check l = checkL (l.drop (k + 1)) (k + 1) ((R.length - 1 : Nat) : Int)) := by show check l = _; rw [← hch, if_neg (by simpa using hd), if_neg (by omega), show ((R.length - 1 : Nat) : Int) = (R.length : Int) - 1 from by omega]
                have HT2 : Hid ((turn ⟨2, xt, xn, xm⟩ k R).length = R.length - 1) := by show _ = _; rw [HT.out]; simp
                have ed : ((R.length : Int) == 0) = false := by simpa using hd
                clear hch
                go_wp2_with fail
                refine (hr _).mono ?_
                rintro e W1 ⟨rfl, hB1⟩
                obtain ⟨t0, t1, t2, t3, hB2⟩ := tok_kept hB1
                have hS1 := hS.below hB2
                have hB3 : Below w.heap.size w W1 := hB.trans (hB2.mono hB.size)
                obtain ⟨-, s33a, -⟩ := hS1.cells
                clear hB2 hB1 hS
                go_wp2_with fail
                refine (HP.out _ _ _ hS1 hB3.size (by omega)).mono ?_
                rintro e W2 ⟨rfl, v', hS2, hB4⟩
                have hB5 := hB3.trans hB4
                obtain ⟨-, s33b, -⟩ := hS2.cells
                rw [HT2.out] at s33b
                go_wp2
                go_roundw
                case rel => exact ⟨k + 1, v', _, by omega, rfl, by rw [HT2.out]; omega, hS2, by rw [HT2.out]; exact HD.out.symm, hB5⟩
                case measure => simp [intOf]; omega
            · have HD : Hid (check l = checkL (l.drop (k + 1)) (k + 1) (R.length : Int)) := by
                show check l = _
                rw [← hch, if_neg (by simp [k2]), if_neg k1, if_neg k2, if_neg (by omega)]
              have HT2 : Hid ((turn ⟨xk, xt, xn, xm⟩ k R).length = R.length) := by show _ = _; rw [HT.out]; simp [k1, k2]
              have e2 : (xk == 2) = false := by simpa using k2
              clear hch
              go_wp2_with fail
              refine (hr _).mono ?_
              rintro e W1 ⟨rfl, hB1⟩
              obtain ⟨t0, t1, t2, t3, hB2⟩ := tok_kept hB1
              have hS1 := hS.below hB2
              have hB3 : Below w.heap.size w W1 := hB.trans (hB2.mono hB.size)
              clear hB2 hB1 hS
              go_wp2_with fail
              refine (HP.out _ _ _ hS1 hB3.size (by omega)).mono ?_
              rintro e W2 ⟨rfl, v', hS2, hB4⟩
              have hB5 := hB3.trans hB4
              obtain ⟨-, s33b, -⟩ := hS2.cells
              rw [HT2.out] at s33b
              go_wp2
              go_roundw
              case rel => exact ⟨k + 1, v', _, by omega, rfl, by rw [HT2.out]; omega, hS2, by rw [HT2.out]; exact HD.out.symm, hB5⟩
              case measure => simp [intOf]; omega
      · obtain rfl : k = len := by omega
        rw [List.drop_eq_nil_of_le (Nat.le_of_eq hl.1), checkL] at hch
        by_cases hd : R.length = 0
        · rw [if_neg (by omega)] at hch
          have HD : Hid (check l = ((k : Int), 0)) := hch.symm
          rw [hd] at s33
          clear hch hl hl'
          go_wp2
          go_ret2
          exact ⟨by rw [HD.out]; rfl, hB⟩
        · rw [if_pos (by omega)] at hch
          have HD : Hid (check l = ((k : Int), 3)) := hch.symm
          have hd1 : (0 : Int) < (R.length : Int) := by omega
          clear hch hl hl'
          generalize R.length = n at *
          go_wp2
          go_ret2
          exact ⟨by rw [HD.out]; rfl, hB⟩

end Go.Proofs.YtofkiaeocfpkeaaGreatDoor

/- Own: tokens that a call owns, appended to; parts of tokens. -/
namespace Go.Proofs.YtofkiaeocfpkeaaGreatDoor
open Go.RowKit

theorem info23 : (Tryz.prog.info? 62).map (fun i => (i.zero, i.size, i.bytes)) = some (some (.agg #[.int .i64 0, .int .i64 0, .int .i64 0, .int .i64 0]), 4, 32) := by kernel_rfl
/-- The cells of tokens. -/
def flat : List Tok → List Value
  | [] => []
  | x :: r => .int .i64 x.k :: .int .i64 x.t :: .int .i64 x.n :: .int .i64 x.m :: flat r
theorem flat_append (l m : List Tok) : flat (l ++ m) = flat l ++ flat m := by
  induction l with
  | nil => rfl
  | cons x r ih => simp [flat, ih]
theorem flat_length (l : List Tok) : (flat l).length = l.length * 4 := by
  induction l with
  | nil => rfl
  | cons x r ih => simp [flat, ih]; omega
theorem flat_one (l : List Tok) : ∀ u ∈ flat l, u.oneCell' = true := by
  induction l with
  | nil => intro u hu; cases hu
  | cons x r ih =>
    intro u hu
    simp only [flat, List.mem_cons] at hu
    rcases hu with rfl | rfl | rfl | rfl | hu
    · rfl
    · rfl
    · rfl
    · rfl
    · exact ih u hu
theorem flat_at (l : List Tok) (i : Nat) (x : Tok) (h : l[i]? = some x) : (flat l)[i * 4]? = some (.int .i64 x.k) ∧ (flat l)[i * 4 + 1]? = some (.int .i64 x.t) ∧ (flat l)[i * 4 + 2]? = some (.int .i64 x.n) ∧ (flat l)[i * 4 + 3]? = some (.int .i64 x.m) := by
  induction l generalizing i with
  | nil => simp at h
  | cons y r ih =>
    cases i with
    | zero =>
      obtain rfl : y = x := by simpa using h
      exact ⟨rfl, rfl, rfl, rfl⟩
    | succ i =>
      have := ih i (by simpa using h)
      rw [show (i + 1) * 4 = i * 4 + 4 from by omega, show i * 4 + 4 + 1 = i * 4 + 1 + 4 from by omega, show i * 4 + 4 + 2 = i * 4 + 2 + 4 from by omega, show i * 4 + 4 + 3 = i * 4 + 3 + 4 from by omega]
      exact this
theorem flat_cells {w : World} {b : Nat} (l : List Tok) (o : Nat) (h : ∀ i x, l[i]? = some x → w.cell? ⟨b, o + i * 4, none⟩ = some (.int .i64 x.k) ∧ w.cell? ⟨b, o + i * 4 + 1, none⟩ = some (.int .i64 x.t) ∧
    w.cell? ⟨b, o + i * 4 + 2, none⟩ = some (.int .i64 x.n) ∧ w.cell? ⟨b, o + i * 4 + 3, none⟩ = some (.int .i64 x.m)) : ∀ j u, (flat l)[j]? = some u → w.cell? ⟨b, o + j, none⟩ = some u := by
  intro j u hj
  have hjl : j < l.length * 4 := by
    have := (List.getElem?_eq_some_iff.1 hj).1
    rwa [flat_length] at this
  obtain ⟨x, hx⟩ : ∃ x, l[j / 4]? = some x := ⟨_, List.getElem?_eq_getElem (by omega)⟩
  obtain ⟨f0, f1, f2, f3⟩ := flat_at l (j / 4) x hx
  obtain ⟨c0, c1, c2, c3⟩ := h (j / 4) x hx
  rcases (show j = j / 4 * 4 ∨ j = j / 4 * 4 + 1 ∨ j = j / 4 * 4 + 2 ∨ j = j / 4 * 4 + 3 from by omega) with e | e | e | e
  · rw [e] at hj ⊢
    rw [f0] at hj
    exact c0.trans hj
  · rw [e] at hj ⊢
    rw [f1] at hj
    exact c1.trans hj
  · rw [e] at hj ⊢
    rw [f2] at hj
    exact c2.trans hj
  · rw [e] at hj ⊢
    rw [f3] at hj
    exact c3.trans hj
theorem add_none4 (b o i : Nat) : (⟨b, o, none⟩ : Addr).add i = ⟨b, o + i, none⟩ := by unfold Addr.add; split <;> simp_all

/-- What a slice of tokens owns, read. -/
theorem toks_of_owns {W : World} {base : Nat} {v : Value} {n : Nat} {l : List Tok} (h : W.ownsRow base 62 4 v n (flat l)) (hv : v ≠ .slice none 0 0) :
    ∃ g cap, v = .slice (some ⟨g, 0, none⟩) n cap ∧ base ≤ g ∧ n ≤ cap ∧ cap ≤ maxLen ∧ Toks W (some ⟨g, 0, none⟩) n l := by
  obtain ⟨hl, ⟨h1, _⟩ | ⟨g, cap, cur, rfl, hb, hg, hc1, hc2, hc3, hc4⟩⟩ := h
  · exact absurd h1 hv
  · have hl' : l.length = n := by rw [flat_length] at hl; omega
    refine ⟨g, cap, rfl, hb, hc1, hc2, hl', .inr ⟨g, 0, rfl, (Array.getElem?_eq_some_iff.1 hg).1, fun i x hx => ?_⟩⟩
    have hi : i < l.length := (List.getElem?_eq_some_iff.1 hx).1
    obtain ⟨f0, f1, f2, f3⟩ := flat_at l i x hx
    have key : ∀ j u, (flat l)[j]? = some u → W.cell? ⟨g, 0 + j, none⟩ = some u := by
      intro j u hj
      have hjl : j < n * 4 := by
        have := (List.getElem?_eq_some_iff.1 hj).1
        rw [flat_length] at this
        omega
      rw [← hc4, List.getElem?_take, if_pos hjl, Array.getElem?_toList] at hj
      simp [World.cell?, hg, hj]
    exact ⟨key _ _ f0, key _ _ f1, key _ _ f2, key _ _ f3⟩

/-- append of tokens to what the call owns. -/
theorem tok_append_own (base : Nat) (v : Value) (n : Nat) (xs : List Tok) (W : World) (hown : W.ownsRow base 62 4 v n (flat xs)) (hv : v ≠ .slice none 0 0) (hbase : base ≤ W.heap.size) (a : Option Addr) (len cap : Nat) (bs : List Tok) (hr : Toks W a len bs) (hsz : n + len ≤ 4398046511104) :
    ∃ v' W1, (Builtin.append_ #[36, 36] 36 #[v, .slice a len cap]).run Tryz.prog W = .ok v' W1 ∧ W1.ownsRow base 62 4 v' (n + len) (flat (xs ++ bs)) ∧ v' ≠ .slice none 0 0 ∧ Below base W W1 := by
  obtain ⟨i0, hi, hz0, hz1, hz2⟩ := info_parts info23
  have hown0 := hown
  obtain ⟨hl0, ⟨h1, _⟩ | ⟨g, c, cur, rfl, hbg, hg, hc1, hc2, hc3, hc4⟩⟩ := hown0
  · exact absurd h1 hv
  · rcases Nat.eq_zero_or_pos len with h0 | h0
    · subst h0
      obtain rfl : bs = [] := List.length_eq_zero_iff.1 hr.1
      have hs : Src Tryz.prog i0.size 36 (.slice a 0 cap) 0 [] W := by
        cases a with
        | none => exact Src.ofNil _ Tryz.underlying36 cap
        | some p => exact Src.ofSlice _ Tryz.underlying36 p 0 cap [] (by simp) (by simp) (by simp)
      have h3 := run_append_room_src (P := Tryz.prog) W 36 36 36 62 i0 Tryz.underlying36 hi g 0 n c _ 0 [] hs (by omega) (by simp) (by simp)
      exact ⟨_, _, h3, by rw [List.append_nil]; exact hown, by simp, Below.refl base W⟩
    · obtain ⟨hl, h1 | ⟨b, o, rfl, hlt, hc⟩⟩ := hr
      · omega
      · obtain ⟨v', W1, hrun, r1, r2, r3⟩ := run_append_own (P := Tryz.prog) W base 36 36 62 i0 _ 4 32 Tryz.underlying36 hi hz0 hz1 hz2 rfl (by decide) _ n _ hown ⟨b, o, none⟩ len cap (flat bs) (by rw [flat_length, hl])
          (fun j u hj => by rw [add_none4]; exact flat_cells bs o hc j u hj) (flat_one bs) (by unfold maxLen; omega) (by omega) hbase
        rw [← flat_append] at r1
        exact ⟨_, _, hrun, r1, fun e => by have := r3.1 e; simp at this, (Below.refl base W).grown r2 hbase (fun k e => by simp [Value.ownBlock] at e; omega)⟩

/-- append([]api.Token{}, l...): a copy that the call owns. -/
theorem tok_clone_own (a : Option Addr) (len cap : Nat) (bs : List Tok) (w : World) (hr : Toks w a len bs) (hsz : len ≤ 4398046511104) :
    ∃ v W1, (Builtin.append_ #[36, 36] 36 #[.slice (some ⟨w.heap.size, 0, none⟩) 0 0, .slice a len cap]).run Tryz.prog (w.alloc (.cells #[] 62)) = .ok v W1 ∧ W1.ownsRow w.heap.size 62 4 v len (flat bs) ∧ v ≠ .slice none 0 0 ∧ Below w.heap.size w W1 := by
  have hB : Below w.heap.size w (w.alloc (.cells #[] 62)) := (Below.refl _ w).alloc (Nat.le_refl _) _
  have hg : (w.alloc (.cells #[] 62)).heap[w.heap.size]? = some (.cells #[] 62 (0, 0)) := World.alloc_heap_new w _
  have hown : (w.alloc (.cells #[] 62)).ownsRow w.heap.size 62 4 (.slice (some ⟨w.heap.size, 0, none⟩) 0 0) 0 (flat []) := ⟨rfl, .inr ⟨_, _, _, rfl, Nat.le_refl _, hg, Nat.le_refl _, Nat.zero_le _, rfl, rfl⟩⟩
  obtain ⟨v', W1, h1, h2, h3, h4⟩ := tok_append_own w.heap.size _ 0 [] _ hown (by simp) (by simp) a len cap bs (hr.below hB) (by omega)
  rw [Nat.zero_add, List.nil_append] at h2
  exact ⟨v', W1, h1, h2, h3, hB.trans h4⟩

/-- A part of tokens. -/
theorem Toks.sub {w : World} {b o : Nat} {len : Nat} {l : List Tok} (h : Toks w (some ⟨b, o, none⟩) len l) (f n : Nat) (hf : f + n ≤ len) : Toks w (some ⟨b, o + f * 4, none⟩) n ((l.drop f).take n) := by
  obtain ⟨h1, h2⟩ := h
  refine ⟨by rw [List.length_take, List.length_drop]; omega, ?_⟩
  rcases Nat.eq_zero_or_pos n with h0 | h0
  · exact .inl h0
  · rcases h2 with h2 | ⟨b', o', e, hlt, hc⟩
    · omega
    · cases e
      refine .inr ⟨b, _, rfl, hlt, fun i x hx => ?_⟩
      rw [List.getElem?_take] at hx
      split at hx
      · rw [List.getElem?_drop] at hx
        have := hc (f + i) x hx
        rw [show o + f * 4 + i * 4 = o + (f + i) * 4 from by omega]
        exact this
      · cases hx

theorem Toks.part {w : World} {b o : Nat} {len : Nat} {l : List Tok} (h : Toks w (some ⟨b, o, none⟩) len l) (f n cap : Nat) (hf : f + n ≤ len) (hc : len ≤ cap) : Toks w (if cap = f then some ⟨b, o, none⟩ else some ⟨b, o + f * 4, none⟩) n ((l.drop f).take n) := by
  split
  · obtain rfl : n = 0 := by omega
    exact ⟨by simp, .inl rfl⟩
  · exact h.sub f n hf

/-- A built-in append whose run is known, in a walk. -/
theorem wp_tok_run {o : Oper} {a : Act} {w : World} {K : Act → World → Prop} {Q : Exit → Act → World → Prop} (s x : Operand) (t : TypeId) (ho : o.op = .call { callee := .builtin .append, args := #[s, x], argTypes := #[t, t] })
    (v u v' : Value) (w' : World) (hs : a.eval s = v) (hx : a.eval x = u) (hr : (Builtin.append_ #[t, t] o.type #[v, u]).run Tryz.prog w = .ok v' w') (h : K (a.put o.dst v') w') : o.wp Tryz.prog a w K Q := by
  unfold Oper.wp execOp
  simp only [ho, resolve, invoke, builtin, Sem.run_bind, Sem.run_pure, Result.andThen_ok, List.map_toArray, List.map_cons, List.map_nil, hs, hx, hr]
  exact h
theorem wpList_tok_run {ops : Array Oper} {rest : List Oper} {o : Oper} {a : Act} {w : World} {Q : Exit → Act → World → Prop} (hgd : o.guard = none) (s x : Operand) (t : TypeId) (ho : o.op = .call { callee := .builtin .append, args := #[s, x], argTypes := #[t, t] })
    (v u v' : Value) (w' : World) (hs : a.eval s = v) (hx : a.eval x = u) (hr : (Builtin.append_ #[t, t] o.type #[v, u]).run Tryz.prog w = .ok v' w') (h : wpList Tryz.prog ops Q rest (a.put o.dst v') w') : wpList Tryz.prog ops Q (o :: rest) a w :=
  wpList_plain hgd fun _ hK => wp_tok_run s x t ho v u v' w' hs hx hr (hK _ _ h)

def cut (l : List Tok) (f t : Int) : List Tok := if f < 0 ∨ t < f ∨ (l.length : Int) < t then [] else (l.drop f.toNat).take (t - f).toNat
def cutE (l : List Tok) (f t : Int) : Int := if f < 0 ∨ t < f ∨ (l.length : Int) < t then 1 else 0
end Go.Proofs.YtofkiaeocfpkeaaGreatDoor

/- SchF: the small functions of a schema that was made: whether it was, its types, which type a place has, whether a token may be one. -/
namespace Go.Proofs.YtofkiaeocfpkeaaGreatDoor
open Go.RowKit

def both (s t : Int) : Int := ((s.toNat &&& (t % 8).toNat : Nat) : Int)
def withM (s t : Int) : Int := if rightM s = true then both s t else 0
theorem wrap_small (x : Int) (h0 : 0 ≤ x) (h1 : x < 1000) : IntKind.i64.wrap x = x := by
  simp [IntKind.wrap, IntKind.bits, IntKind.signed]
  omega
theorem ofInt_u64 (n : Nat) (h : n < 1000) : (BitVec.ofInt 64 (n : Int)).toNat = n := by
  rw [BitVec.toNat_ofInt]
  have : ((2 ^ 64 : Nat) : Int) = 18446744073709551616 := rfl
  rw [this]
  omega
theorem ofInt_low (s : Nat) (hs : s < 8) (t : Int) : s &&& (BitVec.ofInt 64 t).toNat = s &&& (t % 8).toNat := by
  have h1 : s = s &&& 7 := by
    rw [Nat.and_two_pow_sub_one_eq_mod s 3]
    omega
  rw [h1, Nat.and_assoc, Nat.and_assoc]
  have h2 : ∀ n, 7 &&& n = n % 8 := fun n => by rw [Nat.and_comm]; exact Nat.and_two_pow_sub_one_eq_mod n 3
  rw [h2, h2, BitVec.toNat_ofInt]
  have h3 : ((t % ((2 ^ 64 : Nat) : Int)).toNat) % 8 = (t % 8).toNat % 8 := by
    have : ((2 ^ 64 : Nat) : Int) = 18446744073709551616 := rfl
    rw [this]
    omega
  rw [h3]
theorem and_both (s t : Int) (h0 : 0 ≤ s) (h1 : s ≤ 4) : bits BinOp.and IntKind.i64 s t = both s t := by
  obtain ⟨n, rfl⟩ := Int.eq_ofNat_of_zero_le h0
  show IntKind.i64.wrap ((BitVec.ofInt 64 (n : Int) &&& BitVec.ofInt 64 t).toNat : Int) = _
  have hn : n ≤ 4 := by omega
  rw [BitVec.toNat_and, ofInt_u64 n (by omega), ofInt_low n (by omega) t]
  have hle : n &&& (t % 8).toNat ≤ n := Nat.and_le_left
  rw [wrap_small _ (by omega) (by omega)]
  rfl
set_option maxRecDepth 100000 in
theorem withM_calls (s t : Int) (w : World) : Calls Tryz.prog 176 #[.int .i64 s, .int .i64 t] w fun e w' => e = .returned (.int .i64 (withM s t)) ∧ w' = w := by
  have h1 := fun W => fmark_calls s W
  unfold withM
  by_cases hs : rightM s = true
  · have hs' : 0 ≤ s ∧ s ≤ 4 := by unfold rightM at hs; simpa using hs
    have hb := and_both s t hs'.1 hs'.2
    rw [if_pos hs]
    rw [hs] at h1
    generalize both s t = x at *
    go_enter Tryz.func176, Tryz.ntmps176
    go_wp2_with fail
    refine (h1 _).mono ?_
    rintro e w' ⟨rfl, rfl⟩
    go_wp2
    go_ret
    exact ⟨rfl, rfl⟩
  · have hs' : rightM s = false := by simpa using hs
    rw [if_neg hs]
    rw [hs'] at h1
    go_enter Tryz.func176, Tryz.ntmps176
    go_wp2_with fail
    refine (h1 _).mono ?_
    rintro e w' ⟨rfl, rfl⟩
    go_wp2
    go_ret
    exact ⟨rfl, rfl⟩
theorem SchAt.cells {w : World} {B g c ng nc : Nat} {ks : List KindD} {gs : List Grp} {ts : List (DataW Unit)} (h : SchAt w B g c ng nc ks gs ts) : ∀ X, Below w.heap.size w X → X.cell? ⟨B, 0, none⟩ = some (.slice (some ⟨g, 0, none⟩) ks.length c) ∧ X.cell? ⟨B, 1, none⟩ = some (.slice (some ⟨ng, 0, none⟩) gs.length nc) := fun X hX => by
  have hc := fun j => cell_of_row X B j _ _ _ ((hX.block _ (Array.getElem?_eq_some_iff.1 h.sch).1).trans h.sch)
  exact ⟨hc 0, hc 1⟩
set_option maxRecDepth 100000 in
theorem ismade_calls {B g c ng nc : Nat} {ks : List KindD} {gs : List Grp} {ts : List (DataW Unit)} (w : World) (h : SchAt w B g c ng nc ks gs ts) (h0 : 0 < ks.length) : Calls Tryz.prog 50 #[.pointer (some ⟨B, 0, none⟩)] w fun e w' => e = .returned (.bool true) ∧ w' = w := by
  obtain ⟨c0, _⟩ := h.cells w (Below.refl _ _)
  have hd : decide ((0 : Int) < (ks.length : Int)) = true := by simp; omega
  have hl : (ks.length : Int) ≤ 16 := by have := h.cap.2.2; omega
  clear h
  go_enter Tryz.func50, Tryz.ntmps50
  go_wp2
  go_ret
  exact ⟨rfl, rfl⟩
set_option maxRecDepth 100000 in
theorem typeof_calls {B g c ng nc : Nat} {ks : List KindD} {gs : List Grp} {ts : List (DataW Unit)} (w : World) (h : SchAt w B g c ng nc ks gs ts) (h0 : 0 < ks.length) (t : Int) : Calls Tryz.prog 75 #[.pointer (some ⟨B, 0, none⟩), .int .i64 t] w fun e w' => e = .returned (.pointer (if 1 ≤ t ∧ t < ks.length then some ⟨g, t.toNat * 10, none⟩ else none)) ∧ w' = w := by
  have HM := ismade_calls w h h0
  obtain ⟨c0, _⟩ := h.cells w (Below.refl _ _)
  have hl : (ks.length : Int) ≤ 16 := by have := h.cap.2.2; omega
  clear h
  by_cases d1 : t ≤ 0
  · rw [if_neg (by omega)]
    have hd : decide (t ≤ 0) = true := by simpa using d1
    go_enter Tryz.func75, Tryz.ntmps75
    go_wp2_with fail
    refine HM.mono ?_
    rintro e w' ⟨rfl, rfl⟩
    go_wp2
    go_ret
    exact ⟨rfl, rfl⟩
  · have hd : decide (t ≤ 0) = false := by simpa using d1
    by_cases d2 : (ks.length : Int) ≤ t
    · rw [if_neg (by omega)]
      have hd2 : decide ((ks.length : Int) ≤ t) = true := by simpa using d2
      go_enter Tryz.func75, Tryz.ntmps75
      go_wp2_with fail
      refine HM.mono ?_
      rintro e w' ⟨rfl, rfl⟩
      go_wp2
      go_ret
      exact ⟨rfl, rfl⟩
    · rw [if_pos (by omega)]
      have hd2 : decide ((ks.length : Int) ≤ t) = false := by simpa using d2
      obtain ⟨n, rfl⟩ : ∃ n : Nat, t = (n : Int) := ⟨t.toNat, by omega⟩
      rw [Int.toNat_natCast]
      have hlt : (n : Int) < (ks.length : Int) := by omega
      have hn0 : (0 : Int) ≤ (n : Int) := by omega
      go_enter Tryz.func75, Tryz.ntmps75
      go_wp2_with fail
      refine HM.mono ?_
      rintro e w' ⟨rfl, rfl⟩
      go_wp2
      go_ret
      exact ⟨rfl, rfl⟩
set_option maxRecDepth 100000 in
set_option maxHeartbeats 400000 in
theorem kindat_out {B g c ng nc : Nat} {ks : List KindD} {gs : List Grp} {ts : List (DataW Unit)} (w : World) (h : SchAt w B g c ng nc ks gs ts) (h0 : 0 < ks.length) (lv : Value) : Calls Tryz.prog 62 #[.pointer (some ⟨B, 0, none⟩), lv, .int .i64 (-1)] w fun e w' => e = .returned (.pointer (some ⟨g, 0, none⟩)) ∧ Below w.heap.size w w' := by
  obtain ⟨c0, _⟩ := h.cells w (Below.refl _ _)
  have hl : (ks.length : Int) ≤ 16 := by have := h.cap.2.2; omega
  have hpos : (0 : Int) < (ks.length : Int) := by omega
  have HR : Hid (Below w.heap.size w w) := Below.refl _ _
  clear h
  go_enter Tryz.func62, Tryz.ntmps62
  go_wp2
  go_ret
  exact ⟨rfl, HR.out⟩
set_option maxRecDepth 100000 in
set_option maxHeartbeats 400000 in
theorem kindat_in {B g c ng nc : Nat} {ks : List KindD} {gs : List Grp} {ts : List (DataW Unit)} (w : World) (h : SchAt w B g c ng nc ks gs ts) (a : Option Addr) (len cap : Nat) (l : List Tok) (hl : Toks w a len l) (hsz : len ≤ 2048) (i : Nat) (x : Tok) (hx : l[i]? = some x) (hx0 : 0 ≤ x.t) (hx1 : x.t < ks.length) : Calls Tryz.prog 62 #[.pointer (some ⟨B, 0, none⟩), .slice a len cap, .int .i64 (i : Int)] w fun e w' => e = .returned (.pointer (some ⟨g, x.t.toNat * 10, none⟩)) ∧ Below w.heap.size w w' := by
  obtain ⟨c0, _⟩ := h.cells w (Below.refl _ _)
  have hlk : (ks.length : Int) ≤ 16 := by have := h.cap.2.2; omega
  have hil : i < len := by have := (List.getElem?_eq_some_iff.1 hx).1; have := hl.1; omega
  obtain ⟨b, o, y, rfl, _, hy, hW⟩ := hl.token hil
  rw [hx] at hy
  cases hy
  obtain ⟨c1, c2, c3, c4⟩ := hW w (Below.refl _ _)
  have hii : (i : Int) < (len : Int) := by omega
  have hi0 : (0 : Int) ≤ (i : Int) := by omega
  have hli : (len : Int) ≤ 2048 := by omega
  have hne : ((i : Int) == -1) = false := by rw [beq_eq_false_iff_ne]; omega
  obtain ⟨n, hn⟩ : ∃ n : Nat, x.t = (n : Int) := ⟨x.t.toNat, by omega⟩
  rw [hn] at c2 hx0 hx1 ⊢
  rw [Int.toNat_natCast]
  clear h hl hW hx
  go_enter Tryz.func62, Tryz.ntmps62
  go_wp2
  go_quiet (fail)
  go_wp2
  go_ret
  exact ⟨rfl, ⟨rfl, rfl, rfl, Nat.le_refl _, fun _ _ => rfl⟩⟩
/-- Whether a letter may stand in a type. -/
def takesR (s : SpecD) (x : Tok) : Bool := (withM x.m s.marks == x.m) && (x.n != 10 || s.lines)
set_option maxRecDepth 100000 in
set_option maxHeartbeats 800000 in
theorem takesrune_calls (g o : Nat) (s : SpecD) (x : Tok) (w : World) (h : SpecAt w g o s) (hg : g < w.heap.size) : Calls Tryz.prog 165 #[.pointer (some ⟨g, o, none⟩), tokV x] w fun e w' => e = .returned (.bool (takesR s x)) ∧ Below w.heap.size w w' := by
  obtain ⟨V, hV⟩ : ∃ V, V = w.alloc (.cells #[.int .i64 x.k, .int .i64 x.t, .int .i64 x.n, .int .i64 x.m] 62) := ⟨_, rfl⟩
  have hBV : Below w.heap.size w V := by rw [hV]; exact (Below.refl _ w).alloc (Nat.le_refl _) _
  have m0 : V.heap[w.heap.size]? = some (.cells #[.int .i64 x.k, .int .i64 x.t, .int .i64 x.n, .int .i64 x.m] 62 (0, 0)) := by rw [hV]; exact World.alloc_heap_new w _
  have hc := fun j => cell_of_row V w.heap.size j _ _ _ m0
  obtain ⟨_, _, _, s3, _, _, s6⟩ := h.same (hBV.block g hg)
  have HWI : Hid (∀ W : World, Calls Tryz.prog 176 #[.int .i64 x.m, .int .i64 s.marks] W fun e w' => e = .returned (.int .i64 (withM x.m s.marks)) ∧ w' = W) := fun W => withM_calls _ _ W
  have k2 : V.cell? ⟨w.heap.size, 2, none⟩ = some (.int .i64 x.n) := hc 2
  have k3 : V.cell? ⟨w.heap.size, 3, none⟩ = some (.int .i64 x.m) := hc 3
  have HB : Hid (Below w.heap.size w V.drew) := hBV.drew
  have HV : Hid (w.alloc (.cells #[.int .i64 x.k, .int .i64 x.t, .int .i64 x.n, .int .i64 x.m] 62) = V) := hV.symm
  obtain ⟨R, hR⟩ : ∃ R, takesR s x = R := ⟨_, rfl⟩
  have hR' := hR
  unfold takesR at hR'
  unfold tokV
  rw [hR]
  generalize withM x.m s.marks = wi at *
  generalize s.marks = mk at *
  generalize s.lines = ln at *
  clear hR h hg hBV m0 hc hV
  obtain ⟨xk, xt, xn, xm⟩ := x
  dsimp only at *
  by_cases d1 : wi = xm
  · have hd1 : (wi == xm) = true := by simpa using d1
    by_cases d2 : xn = 10
    · have hd2 : (xn == 10) = true := by simpa using d2
      have HT : Hid (R = ln) := by show R = ln; rw [← hR', hd1]; simp [d2]
      subst d2
      clear hR' d1
      go_enter Tryz.func165, Tryz.ntmps165
      go_wp2_with fail
      rw [HV.out]
      refine wp_region_held_drew (S := fun X => X.cell? ⟨w.heap.size, 2, none⟩ = some (.int .i64 10) ∧ X.cell? ⟨w.heap.size, 3, none⟩ = some (.int .i64 xm) ∧ X.cell? ⟨g, o + 3, none⟩ = some (.int .i64 mk) ∧ X.cell? ⟨g, o + 6, none⟩ = some (.bool ln)) hmx ⟨k2, k3, s3, s6⟩ (fun hS => ?_)
      refine takeD 0 (some 5) (v := ?_) rfl rfl (by kernel_rfl) (by kernel_rfl) (by kernel_rfl) (fun _ _ _ h => h) (Or.inl ⟨by rfl, ?_⟩) hS ?_
      rotate_left
      · intro w hSw
        go_simp
        with_reducible rfl
      try simp only [Act.put, List.setIfInBounds_toArray, List.set_cons_zero, List.set_cons_succ]
      refine takeD 1 (some 6) (v := ?_) rfl rfl (by kernel_rfl) (by kernel_rfl) (by kernel_rfl) (fun _ _ _ h => h) (Or.inl ⟨by rfl, ?_⟩) hS ?_
      rotate_left
      · intro w hSw
        obtain ⟨k2, k3, k4, k5⟩ := hSw
        go_simp
        with_reducible rfl
      try simp only [Act.put, List.setIfInBounds_toArray, List.set_cons_zero, List.set_cons_succ]
      refine takeD 2 (some 7) (v := ?_) rfl rfl (by kernel_rfl) (by kernel_rfl) (by kernel_rfl) (fun _ _ _ h => h) (Or.inl ⟨by rfl, ?_⟩) hS ?_
      rotate_left
      · intro w hSw
        try go_simp
        with_reducible rfl
      try simp only [Act.put, List.setIfInBounds_toArray, List.set_cons_zero, List.set_cons_succ]
      refine takeD 3 (some 8) (v := ?_) rfl rfl (by kernel_rfl) (by kernel_rfl) (by kernel_rfl) (fun _ _ _ h => h) (Or.inl ⟨by rfl, ?_⟩) hS ?_
      rotate_left
      · intro w hSw
        go_simp
        with_reducible rfl
      try simp only [Act.put, List.setIfInBounds_toArray, List.set_cons_zero, List.set_cons_succ]
      refine takeD 4 (some 9) (v := ?_) rfl rfl (by kernel_rfl) (by kernel_rfl) (by kernel_rfl) (fun _ _ _ h => h) (Or.inl ⟨by rfl, ?_⟩) hS ?_
      rotate_left
      · intro w hSw
        go_simp
        with_reducible rfl
      try simp only [Act.put, List.setIfInBounds_toArray, List.set_cons_zero, List.set_cons_succ]
      refine takeD 5 (some 10) (v := ?_) rfl rfl (by kernel_rfl) (by kernel_rfl) (by kernel_rfl) (fun _ _ _ h => h) (Or.inl ⟨by rfl, ?_⟩) hS ?_
      rotate_left
      · intro w hSw
        go_simp
        with_reducible rfl
      try simp only [Act.put, List.setIfInBounds_toArray, List.set_cons_zero, List.set_cons_succ]
      refine takeD 6 (some 11) (v := ?_) rfl rfl (by kernel_rfl) (by kernel_rfl) (by kernel_rfl) (fun _ _ _ h => h) (Or.inl ⟨by rfl, ?_⟩) hS ?_
      rotate_left
      · intro w hSw
        obtain ⟨k2, k3, k4, k5⟩ := hSw
        go_simp
        with_reducible rfl
      try simp only [Act.put, List.setIfInBounds_toArray, List.set_cons_zero, List.set_cons_succ]
      refine takeD 8 (some 13) (v := ?_) rfl rfl (by kernel_rfl) (by kernel_rfl) (by kernel_rfl) (fun _ _ _ h => h) (Or.inl ⟨by rfl, ?_⟩) hS ?_
      rotate_left
      · intro w hSw
        go_simp
        with_reducible rfl
      try simp only [Act.put, List.setIfInBounds_toArray, List.set_cons_zero, List.set_cons_succ]
      refine takeD 9 (some 14) (v := ?_) rfl rfl (by kernel_rfl) (by kernel_rfl) (by kernel_rfl) (fun _ _ _ h => h) (Or.inl ⟨by rfl, ?_⟩) hS ?_
      rotate_left
      · intro w hSw
        obtain ⟨k2, k3, k4, k5⟩ := hSw
        go_simp
        with_reducible rfl
      try simp only [Act.put, List.setIfInBounds_toArray, List.set_cons_zero, List.set_cons_succ]
      refine callD 7 (by kernel_rfl) rfl (fun K hK => ?_)
      rw [if_pos (by rfl)]
      go_simp
      refine (HWI.out _).mono ?_
      rintro e Y ⟨rfl, rfl⟩
      refine hK.out _ _ hS (fun _ => ?_)
      clear hK K
      try simp only [Act.put, List.setIfInBounds_toArray, List.set_cons_zero, List.set_cons_succ]
      refine takeD 10 (some 15) (v := ?_) rfl rfl (by kernel_rfl) (by kernel_rfl) (by kernel_rfl) (fun _ _ _ h => h) (Or.inl ⟨by rfl, ?_⟩) hS ?_
      rotate_left
      · intro w hSw
        go_simp
        try simp only [hd1, hd2]
        with_reducible rfl
      try simp only [Act.put, List.setIfInBounds_toArray, List.set_cons_zero, List.set_cons_succ]
      refine takeD 11 (some 16) (v := ?_) rfl rfl (by kernel_rfl) (by kernel_rfl) (by kernel_rfl) (fun _ _ _ h => h) (Or.inl ⟨by rfl, ?_⟩) hS ?_
      rotate_left
      · intro w hSw
        try go_simp
        with_reducible rfl
      try simp only [Act.put, List.setIfInBounds_toArray, List.set_cons_zero, List.set_cons_succ]
      refine takeD 12 (some 17) (v := ?_) rfl rfl (by kernel_rfl) (by kernel_rfl) (by kernel_rfl) (fun _ _ _ h => h) (Or.inl ⟨by rfl, ?_⟩) hS ?_
      rotate_left
      · intro w hSw
        go_simp
        with_reducible rfl
      try simp only [Act.put, List.setIfInBounds_toArray, List.set_cons_zero, List.set_cons_succ]
      refine takeD 13 (some 18) (v := ?_) rfl rfl (by kernel_rfl) (by kernel_rfl) (by kernel_rfl) (fun _ _ _ h => h) (Or.inl ⟨by rfl, ?_⟩) hS ?_
      rotate_left
      · intro w hSw
        obtain ⟨k2, k3, k4, k5⟩ := hSw
        go_simp
        with_reducible rfl
      try simp only [Act.put, List.setIfInBounds_toArray, List.set_cons_zero, List.set_cons_succ]
      refine takeD 14 (some 19) (v := ?_) rfl rfl (by kernel_rfl) (by kernel_rfl) (by kernel_rfl) (fun _ _ _ h => h) (Or.inl ⟨by rfl, ?_⟩) hS ?_
      rotate_left
      · intro w hSw
        go_simp
        try simp only [hd1, hd2]
        with_reducible rfl
      try simp only [Act.put, List.setIfInBounds_toArray, List.set_cons_zero, List.set_cons_succ]
      refine takeD 15 (some 20) (v := ?_) rfl rfl (by kernel_rfl) (by kernel_rfl) (by kernel_rfl) (fun _ _ _ h => h) (Or.inl ⟨by rfl, ?_⟩) hS ?_
      rotate_left
      · intro w hSw
        try go_simp
        with_reducible rfl
      try simp only [Act.put, List.setIfInBounds_toArray, List.set_cons_zero, List.set_cons_succ]
      refine takeD 16 (some 21) (v := ?_) rfl rfl (by kernel_rfl) (by kernel_rfl) (by kernel_rfl) (fun _ _ _ h => h) (Or.inl ⟨by rfl, ?_⟩) hS ?_
      rotate_left
      · intro w hSw
        try go_simp
        with_reducible rfl
      try simp only [Act.put, List.setIfInBounds_toArray, List.set_cons_zero, List.set_cons_succ]
      refine takeD 17 (some 22) (v := ?_) rfl rfl (by kernel_rfl) (by kernel_rfl) (by kernel_rfl) (fun _ _ _ h => h) (Or.inl ⟨by rfl, ?_⟩) hS ?_
      rotate_left
      · intro w hSw
        go_simp
        with_reducible rfl
      try simp only [Act.put, List.setIfInBounds_toArray, List.set_cons_zero, List.set_cons_succ]
      refine takeD 18 (some 23) (v := ?_) rfl rfl (by kernel_rfl) (by kernel_rfl) (by kernel_rfl) (fun _ _ _ h => h) (Or.inl ⟨by rfl, ?_⟩) hS ?_
      rotate_left
      · intro w hSw
        go_simp
        with_reducible rfl
      try simp only [Act.put, List.setIfInBounds_toArray, List.set_cons_zero, List.set_cons_succ]
      refine takeD 19 (some 24) (v := ?_) rfl rfl (by kernel_rfl) (by kernel_rfl) (by kernel_rfl) (fun _ _ _ h => h) (Or.inl ⟨by rfl, ?_⟩) hS ?_
      rotate_left
      · intro w hSw
        go_simp
        with_reducible rfl
      try simp only [Act.put, List.setIfInBounds_toArray, List.set_cons_zero, List.set_cons_succ]
      refine takeD 20 (some 25) (v := ?_) rfl rfl (by kernel_rfl) (by kernel_rfl) (by kernel_rfl) (fun _ _ _ h => h) (Or.inl ⟨by rfl, ?_⟩) hS ?_
      rotate_left
      · intro w hSw
        obtain ⟨k2, k3, k4, k5⟩ := hSw
        go_simp
        with_reducible rfl
      try simp only [Act.put, List.setIfInBounds_toArray, List.set_cons_zero, List.set_cons_succ]
      refine takeD 21 (some 26) (v := ?_) rfl rfl (by kernel_rfl) (by kernel_rfl) (by kernel_rfl) (fun _ _ _ h => h) (Or.inl ⟨by rfl, ?_⟩) hS ?_
      rotate_left
      · intro w hSw
        go_simp
        with_reducible rfl
      try simp only [Act.put, List.setIfInBounds_toArray, List.set_cons_zero, List.set_cons_succ]
      refine takeD 22 (some 27) (v := ?_) rfl rfl (by kernel_rfl) (by kernel_rfl) (by kernel_rfl) (fun _ _ _ h => h) (Or.inl ⟨by rfl, ?_⟩) hS ?_
      rotate_left
      · intro w hSw
        go_simp
        with_reducible rfl
      try simp only [Act.put, List.setIfInBounds_toArray, List.set_cons_zero, List.set_cons_succ]
      refine takeD 23 (some 4) (v := ?_) rfl rfl (by kernel_rfl) (by kernel_rfl) (by kernel_rfl) (fun _ _ _ h => h) (Or.inl ⟨by rfl, ?_⟩) hS ?_
      rotate_left
      · intro w hSw
        try go_simp
        with_reducible rfl
      try simp only [Act.put, List.setIfInBounds_toArray, List.set_cons_zero, List.set_cons_succ]
      refine wpAnyH_done (by kernel_rfl) ?_ _
      go_wp2
      go_ret
      exact ⟨by rw [HT.out]; rfl, HB.out⟩
    · have hd2 : (xn == 10) = false := by simpa using d2
      have hd3 : (xn != 10) = true := by simp [bne, hd2]
      have HT : Hid (R = true) := by show R = true; rw [← hR', hd1]; simp [bne, hd2]
      clear hR' d1 d2
      go_enter Tryz.func165, Tryz.ntmps165
      go_wp2_with fail
      rw [HV.out]
      refine wp_region_held_drew (S := fun X => X.cell? ⟨w.heap.size, 2, none⟩ = some (.int .i64 xn) ∧ X.cell? ⟨w.heap.size, 3, none⟩ = some (.int .i64 xm) ∧ X.cell? ⟨g, o + 3, none⟩ = some (.int .i64 mk) ∧ X.cell? ⟨g, o + 6, none⟩ = some (.bool ln)) hmx ⟨k2, k3, s3, s6⟩ (fun hS => ?_)
      refine takeD 0 (some 5) (v := ?_) rfl rfl (by kernel_rfl) (by kernel_rfl) (by kernel_rfl) (fun _ _ _ h => h) (Or.inl ⟨by rfl, ?_⟩) hS ?_
      rotate_left
      · intro w hSw
        go_simp
        with_reducible rfl
      try simp only [Act.put, List.setIfInBounds_toArray, List.set_cons_zero, List.set_cons_succ]
      refine takeD 1 (some 6) (v := ?_) rfl rfl (by kernel_rfl) (by kernel_rfl) (by kernel_rfl) (fun _ _ _ h => h) (Or.inl ⟨by rfl, ?_⟩) hS ?_
      rotate_left
      · intro w hSw
        obtain ⟨k2, k3, k4, k5⟩ := hSw
        go_simp
        with_reducible rfl
      try simp only [Act.put, List.setIfInBounds_toArray, List.set_cons_zero, List.set_cons_succ]
      refine takeD 2 (some 7) (v := ?_) rfl rfl (by kernel_rfl) (by kernel_rfl) (by kernel_rfl) (fun _ _ _ h => h) (Or.inl ⟨by rfl, ?_⟩) hS ?_
      rotate_left
      · intro w hSw
        try go_simp
        with_reducible rfl
      try simp only [Act.put, List.setIfInBounds_toArray, List.set_cons_zero, List.set_cons_succ]
      refine takeD 3 (some 8) (v := ?_) rfl rfl (by kernel_rfl) (by kernel_rfl) (by kernel_rfl) (fun _ _ _ h => h) (Or.inl ⟨by rfl, ?_⟩) hS ?_
      rotate_left
      · intro w hSw
        go_simp
        with_reducible rfl
      try simp only [Act.put, List.setIfInBounds_toArray, List.set_cons_zero, List.set_cons_succ]
      refine takeD 4 (some 9) (v := ?_) rfl rfl (by kernel_rfl) (by kernel_rfl) (by kernel_rfl) (fun _ _ _ h => h) (Or.inl ⟨by rfl, ?_⟩) hS ?_
      rotate_left
      · intro w hSw
        go_simp
        with_reducible rfl
      try simp only [Act.put, List.setIfInBounds_toArray, List.set_cons_zero, List.set_cons_succ]
      refine takeD 5 (some 10) (v := ?_) rfl rfl (by kernel_rfl) (by kernel_rfl) (by kernel_rfl) (fun _ _ _ h => h) (Or.inl ⟨by rfl, ?_⟩) hS ?_
      rotate_left
      · intro w hSw
        go_simp
        with_reducible rfl
      try simp only [Act.put, List.setIfInBounds_toArray, List.set_cons_zero, List.set_cons_succ]
      refine takeD 6 (some 11) (v := ?_) rfl rfl (by kernel_rfl) (by kernel_rfl) (by kernel_rfl) (fun _ _ _ h => h) (Or.inl ⟨by rfl, ?_⟩) hS ?_
      rotate_left
      · intro w hSw
        obtain ⟨k2, k3, k4, k5⟩ := hSw
        go_simp
        with_reducible rfl
      try simp only [Act.put, List.setIfInBounds_toArray, List.set_cons_zero, List.set_cons_succ]
      refine takeD 8 (some 13) (v := ?_) rfl rfl (by kernel_rfl) (by kernel_rfl) (by kernel_rfl) (fun _ _ _ h => h) (Or.inl ⟨by rfl, ?_⟩) hS ?_
      rotate_left
      · intro w hSw
        go_simp
        with_reducible rfl
      try simp only [Act.put, List.setIfInBounds_toArray, List.set_cons_zero, List.set_cons_succ]
      refine takeD 9 (some 14) (v := ?_) rfl rfl (by kernel_rfl) (by kernel_rfl) (by kernel_rfl) (fun _ _ _ h => h) (Or.inl ⟨by rfl, ?_⟩) hS ?_
      rotate_left
      · intro w hSw
        obtain ⟨k2, k3, k4, k5⟩ := hSw
        go_simp
        with_reducible rfl
      try simp only [Act.put, List.setIfInBounds_toArray, List.set_cons_zero, List.set_cons_succ]
      refine callD 7 (by kernel_rfl) rfl (fun K hK => ?_)
      rw [if_pos (by rfl)]
      go_simp
      refine (HWI.out _).mono ?_
      rintro e Y ⟨rfl, rfl⟩
      refine hK.out _ _ hS (fun _ => ?_)
      clear hK K
      try simp only [Act.put, List.setIfInBounds_toArray, List.set_cons_zero, List.set_cons_succ]
      refine takeD 10 (some 15) (v := ?_) rfl rfl (by kernel_rfl) (by kernel_rfl) (by kernel_rfl) (fun _ _ _ h => h) (Or.inl ⟨by rfl, ?_⟩) hS ?_
      rotate_left
      · intro w hSw
        go_simp
        try simp only [hd1, hd2, hd3, Bool.not_false]
        with_reducible rfl
      try simp only [Act.put, List.setIfInBounds_toArray, List.set_cons_zero, List.set_cons_succ]
      refine takeD 11 (some 16) (v := ?_) rfl rfl (by kernel_rfl) (by kernel_rfl) (by kernel_rfl) (fun _ _ _ h => h) (Or.inl ⟨by rfl, ?_⟩) hS ?_
      rotate_left
      · intro w hSw
        try go_simp
        with_reducible rfl
      try simp only [Act.put, List.setIfInBounds_toArray, List.set_cons_zero, List.set_cons_succ]
      refine takeD 12 (some 17) (v := ?_) rfl rfl (by kernel_rfl) (by kernel_rfl) (by kernel_rfl) (fun _ _ _ h => h) (Or.inl ⟨by rfl, ?_⟩) hS ?_
      rotate_left
      · intro w hSw
        go_simp
        with_reducible rfl
      try simp only [Act.put, List.setIfInBounds_toArray, List.set_cons_zero, List.set_cons_succ]
      refine takeD 13 (some 18) (v := ?_) rfl rfl (by kernel_rfl) (by kernel_rfl) (by kernel_rfl) (fun _ _ _ h => h) (Or.inl ⟨by rfl, ?_⟩) hS ?_
      rotate_left
      · intro w hSw
        obtain ⟨k2, k3, k4, k5⟩ := hSw
        go_simp
        with_reducible rfl
      try simp only [Act.put, List.setIfInBounds_toArray, List.set_cons_zero, List.set_cons_succ]
      refine takeD 14 (some 19) (v := ?_) rfl rfl (by kernel_rfl) (by kernel_rfl) (by kernel_rfl) (fun _ _ _ h => h) (Or.inl ⟨by rfl, ?_⟩) hS ?_
      rotate_left
      · intro w hSw
        go_simp
        try simp only [hd1, hd2, hd3, Bool.not_false]
        with_reducible rfl
      try simp only [Act.put, List.setIfInBounds_toArray, List.set_cons_zero, List.set_cons_succ]
      refine takeD 15 (some 20) (v := ?_) rfl rfl (by kernel_rfl) (by kernel_rfl) (by kernel_rfl) (fun _ _ _ h => h) (Or.inl ⟨by rfl, ?_⟩) hS ?_
      rotate_left
      · intro w hSw
        try go_simp
        with_reducible rfl
      try simp only [Act.put, List.setIfInBounds_toArray, List.set_cons_zero, List.set_cons_succ]
      refine takeD 16 (some 21) (v := undef) rfl rfl (by kernel_rfl) (by kernel_rfl) (by kernel_rfl) (fun _ _ _ h => h) (Or.inr ⟨by rfl, rfl⟩) hS ?_
      try simp only [Act.put, List.setIfInBounds_toArray, List.set_cons_zero, List.set_cons_succ]
      refine takeD 17 (some 22) (v := undef) rfl rfl (by kernel_rfl) (by kernel_rfl) (by kernel_rfl) (fun _ _ _ h => h) (Or.inr ⟨by rfl, rfl⟩) hS ?_
      try simp only [Act.put, List.setIfInBounds_toArray, List.set_cons_zero, List.set_cons_succ]
      refine takeD 18 (some 23) (v := undef) rfl rfl (by kernel_rfl) (by kernel_rfl) (by kernel_rfl) (fun _ _ _ h => h) (Or.inr ⟨by rfl, rfl⟩) hS ?_
      try simp only [Act.put, List.setIfInBounds_toArray, List.set_cons_zero, List.set_cons_succ]
      refine takeD 19 (some 24) (v := undef) rfl rfl (by kernel_rfl) (by kernel_rfl) (by kernel_rfl) (fun _ _ _ h => h) (Or.inr ⟨by rfl, rfl⟩) hS ?_
      try simp only [Act.put, List.setIfInBounds_toArray, List.set_cons_zero, List.set_cons_succ]
      refine takeD 20 (some 25) (v := undef) rfl rfl (by kernel_rfl) (by kernel_rfl) (by kernel_rfl) (fun _ _ _ h => h) (Or.inr ⟨by rfl, rfl⟩) hS ?_
      try simp only [Act.put, List.setIfInBounds_toArray, List.set_cons_zero, List.set_cons_succ]
      refine takeD 21 (some 26) (v := ?_) rfl rfl (by kernel_rfl) (by kernel_rfl) (by kernel_rfl) (fun _ _ _ h => h) (Or.inl ⟨by rfl, ?_⟩) hS ?_
      rotate_left
      · intro w hSw
        go_simp
        with_reducible rfl
      try simp only [Act.put, List.setIfInBounds_toArray, List.set_cons_zero, List.set_cons_succ]
      refine takeD 22 (some 27) (v := ?_) rfl rfl (by kernel_rfl) (by kernel_rfl) (by kernel_rfl) (fun _ _ _ h => h) (Or.inl ⟨by rfl, ?_⟩) hS ?_
      rotate_left
      · intro w hSw
        go_simp
        with_reducible rfl
      try simp only [Act.put, List.setIfInBounds_toArray, List.set_cons_zero, List.set_cons_succ]
      refine takeD 23 (some 4) (v := ?_) rfl rfl (by kernel_rfl) (by kernel_rfl) (by kernel_rfl) (fun _ _ _ h => h) (Or.inl ⟨by rfl, ?_⟩) hS ?_
      rotate_left
      · intro w hSw
        try go_simp
        with_reducible rfl
      try simp only [Act.put, List.setIfInBounds_toArray, List.set_cons_zero, List.set_cons_succ]
      refine wpAnyH_done (by kernel_rfl) ?_ _
      go_wp2
      go_ret
      exact ⟨by rw [HT.out]; rfl, HB.out⟩
  · have hd1 : (wi == xm) = false := by simpa using d1
    have HT : Hid (R = false) := by show R = false; rw [← hR', hd1]; rfl
    clear hR' d1
    go_enter Tryz.func165, Tryz.ntmps165
    go_wp2_with fail
    rw [HV.out]
    refine wp_region_held_drew (S := fun X => X.cell? ⟨w.heap.size, 2, none⟩ = some (.int .i64 xn) ∧ X.cell? ⟨w.heap.size, 3, none⟩ = some (.int .i64 xm) ∧ X.cell? ⟨g, o + 3, none⟩ = some (.int .i64 mk) ∧ X.cell? ⟨g, o + 6, none⟩ = some (.bool ln)) hmx ⟨k2, k3, s3, s6⟩ (fun hS => ?_)
    refine takeD 0 (some 5) (v := ?_) rfl rfl (by kernel_rfl) (by kernel_rfl) (by kernel_rfl) (fun _ _ _ h => h) (Or.inl ⟨by rfl, ?_⟩) hS ?_
    rotate_left
    · intro w hSw
      go_simp
      with_reducible rfl
    try simp only [Act.put, List.setIfInBounds_toArray, List.set_cons_zero, List.set_cons_succ]
    refine takeD 1 (some 6) (v := ?_) rfl rfl (by kernel_rfl) (by kernel_rfl) (by kernel_rfl) (fun _ _ _ h => h) (Or.inl ⟨by rfl, ?_⟩) hS ?_
    rotate_left
    · intro w hSw
      obtain ⟨k2, k3, k4, k5⟩ := hSw
      go_simp
      with_reducible rfl
    try simp only [Act.put, List.setIfInBounds_toArray, List.set_cons_zero, List.set_cons_succ]
    refine takeD 2 (some 7) (v := ?_) rfl rfl (by kernel_rfl) (by kernel_rfl) (by kernel_rfl) (fun _ _ _ h => h) (Or.inl ⟨by rfl, ?_⟩) hS ?_
    rotate_left
    · intro w hSw
      try go_simp
      with_reducible rfl
    try simp only [Act.put, List.setIfInBounds_toArray, List.set_cons_zero, List.set_cons_succ]
    refine takeD 3 (some 8) (v := ?_) rfl rfl (by kernel_rfl) (by kernel_rfl) (by kernel_rfl) (fun _ _ _ h => h) (Or.inl ⟨by rfl, ?_⟩) hS ?_
    rotate_left
    · intro w hSw
      go_simp
      with_reducible rfl
    try simp only [Act.put, List.setIfInBounds_toArray, List.set_cons_zero, List.set_cons_succ]
    refine takeD 4 (some 9) (v := ?_) rfl rfl (by kernel_rfl) (by kernel_rfl) (by kernel_rfl) (fun _ _ _ h => h) (Or.inl ⟨by rfl, ?_⟩) hS ?_
    rotate_left
    · intro w hSw
      go_simp
      with_reducible rfl
    try simp only [Act.put, List.setIfInBounds_toArray, List.set_cons_zero, List.set_cons_succ]
    refine takeD 5 (some 10) (v := ?_) rfl rfl (by kernel_rfl) (by kernel_rfl) (by kernel_rfl) (fun _ _ _ h => h) (Or.inl ⟨by rfl, ?_⟩) hS ?_
    rotate_left
    · intro w hSw
      go_simp
      with_reducible rfl
    try simp only [Act.put, List.setIfInBounds_toArray, List.set_cons_zero, List.set_cons_succ]
    refine takeD 6 (some 11) (v := ?_) rfl rfl (by kernel_rfl) (by kernel_rfl) (by kernel_rfl) (fun _ _ _ h => h) (Or.inl ⟨by rfl, ?_⟩) hS ?_
    rotate_left
    · intro w hSw
      obtain ⟨k2, k3, k4, k5⟩ := hSw
      go_simp
      with_reducible rfl
    try simp only [Act.put, List.setIfInBounds_toArray, List.set_cons_zero, List.set_cons_succ]
    refine takeD 8 (some 13) (v := ?_) rfl rfl (by kernel_rfl) (by kernel_rfl) (by kernel_rfl) (fun _ _ _ h => h) (Or.inl ⟨by rfl, ?_⟩) hS ?_
    rotate_left
    · intro w hSw
      go_simp
      with_reducible rfl
    try simp only [Act.put, List.setIfInBounds_toArray, List.set_cons_zero, List.set_cons_succ]
    refine takeD 9 (some 14) (v := ?_) rfl rfl (by kernel_rfl) (by kernel_rfl) (by kernel_rfl) (fun _ _ _ h => h) (Or.inl ⟨by rfl, ?_⟩) hS ?_
    rotate_left
    · intro w hSw
      obtain ⟨k2, k3, k4, k5⟩ := hSw
      go_simp
      with_reducible rfl
    try simp only [Act.put, List.setIfInBounds_toArray, List.set_cons_zero, List.set_cons_succ]
    refine callD 7 (by kernel_rfl) rfl (fun K hK => ?_)
    rw [if_pos (by rfl)]
    go_simp
    refine (HWI.out _).mono ?_
    rintro e Y ⟨rfl, rfl⟩
    refine hK.out _ _ hS (fun _ => ?_)
    clear hK K
    try simp only [Act.put, List.setIfInBounds_toArray, List.set_cons_zero, List.set_cons_succ]
    refine takeD 10 (some 15) (v := ?_) rfl rfl (by kernel_rfl) (by kernel_rfl) (by kernel_rfl) (fun _ _ _ h => h) (Or.inl ⟨by rfl, ?_⟩) hS ?_
    rotate_left
    · intro w hSw
      go_simp
      try simp only [hd1]
      with_reducible rfl
    try simp only [Act.put, List.setIfInBounds_toArray, List.set_cons_zero, List.set_cons_succ]
    refine takeD 11 (some 16) (v := ?_) rfl rfl (by kernel_rfl) (by kernel_rfl) (by kernel_rfl) (fun _ _ _ h => h) (Or.inl ⟨by rfl, ?_⟩) hS ?_
    rotate_left
    · intro w hSw
      try go_simp
      with_reducible rfl
    try simp only [Act.put, List.setIfInBounds_toArray, List.set_cons_zero, List.set_cons_succ]
    refine takeD 12 (some 17) (v := undef) rfl rfl (by kernel_rfl) (by kernel_rfl) (by kernel_rfl) (fun _ _ _ h => h) (Or.inr ⟨by rfl, rfl⟩) hS ?_
    try simp only [Act.put, List.setIfInBounds_toArray, List.set_cons_zero, List.set_cons_succ]
    refine takeD 13 (some 18) (v := undef) rfl rfl (by kernel_rfl) (by kernel_rfl) (by kernel_rfl) (fun _ _ _ h => h) (Or.inr ⟨by rfl, rfl⟩) hS ?_
    try simp only [Act.put, List.setIfInBounds_toArray, List.set_cons_zero, List.set_cons_succ]
    refine takeD 14 (some 19) (v := undef) rfl rfl (by kernel_rfl) (by kernel_rfl) (by kernel_rfl) (fun _ _ _ h => h) (Or.inr ⟨by rfl, rfl⟩) hS ?_
    try simp only [Act.put, List.setIfInBounds_toArray, List.set_cons_zero, List.set_cons_succ]
    refine takeD 15 (some 20) (v := undef) rfl rfl (by kernel_rfl) (by kernel_rfl) (by kernel_rfl) (fun _ _ _ h => h) (Or.inr ⟨by rfl, rfl⟩) hS ?_
    try simp only [Act.put, List.setIfInBounds_toArray, List.set_cons_zero, List.set_cons_succ]
    refine takeD 16 (some 21) (v := undef) rfl rfl (by kernel_rfl) (by kernel_rfl) (by kernel_rfl) (fun _ _ _ h => h) (Or.inr ⟨by rfl, rfl⟩) hS ?_
    try simp only [Act.put, List.setIfInBounds_toArray, List.set_cons_zero, List.set_cons_succ]
    refine takeD 17 (some 22) (v := undef) rfl rfl (by kernel_rfl) (by kernel_rfl) (by kernel_rfl) (fun _ _ _ h => h) (Or.inr ⟨by rfl, rfl⟩) hS ?_
    try simp only [Act.put, List.setIfInBounds_toArray, List.set_cons_zero, List.set_cons_succ]
    refine takeD 18 (some 23) (v := undef) rfl rfl (by kernel_rfl) (by kernel_rfl) (by kernel_rfl) (fun _ _ _ h => h) (Or.inr ⟨by rfl, rfl⟩) hS ?_
    try simp only [Act.put, List.setIfInBounds_toArray, List.set_cons_zero, List.set_cons_succ]
    refine takeD 19 (some 24) (v := undef) rfl rfl (by kernel_rfl) (by kernel_rfl) (by kernel_rfl) (fun _ _ _ h => h) (Or.inr ⟨by rfl, rfl⟩) hS ?_
    try simp only [Act.put, List.setIfInBounds_toArray, List.set_cons_zero, List.set_cons_succ]
    refine takeD 20 (some 25) (v := undef) rfl rfl (by kernel_rfl) (by kernel_rfl) (by kernel_rfl) (fun _ _ _ h => h) (Or.inr ⟨by rfl, rfl⟩) hS ?_
    try simp only [Act.put, List.setIfInBounds_toArray, List.set_cons_zero, List.set_cons_succ]
    refine takeD 21 (some 26) (v := undef) rfl rfl (by kernel_rfl) (by kernel_rfl) (by kernel_rfl) (fun _ _ _ h => h) (Or.inr ⟨by rfl, rfl⟩) hS ?_
    try simp only [Act.put, List.setIfInBounds_toArray, List.set_cons_zero, List.set_cons_succ]
    refine takeD 22 (some 27) (v := ?_) rfl rfl (by kernel_rfl) (by kernel_rfl) (by kernel_rfl) (fun _ _ _ h => h) (Or.inl ⟨by rfl, ?_⟩) hS ?_
    rotate_left
    · intro w hSw
      go_simp
      with_reducible rfl
    try simp only [Act.put, List.setIfInBounds_toArray, List.set_cons_zero, List.set_cons_succ]
    refine takeD 23 (some 4) (v := ?_) rfl rfl (by kernel_rfl) (by kernel_rfl) (by kernel_rfl) (fun _ _ _ h => h) (Or.inl ⟨by rfl, ?_⟩) hS ?_
    rotate_left
    · intro w hSw
      try go_simp
      with_reducible rfl
    try simp only [Act.put, List.setIfInBounds_toArray, List.set_cons_zero, List.set_cons_succ]
    refine wpAnyH_done (by kernel_rfl) ?_ _
    go_wp2
    go_ret
    exact ⟨by rw [HT.out]; rfl, HB.out⟩
/-- Whether a token may be one of a type. -/
def mayBeB (s : SpecD) (x : Tok) : Bool := (s.leaf == (x.k == 3)) && decide (s.least ≤ x.n) && decide (x.n ≤ s.most)
set_option maxRecDepth 100000 in
set_option maxHeartbeats 400000 in
theorem maybe_calls (g o : Nat) (s : SpecD) (x : Tok) (w : World) (h : SpecAt w g o s) (hg : g < w.heap.size) : Calls Tryz.prog 166 #[.pointer (some ⟨g, o, none⟩), tokV x] w fun e w' => e = .returned (.bool (mayBeB s x)) ∧ Below w.heap.size w w' := by
  have hBV : Below w.heap.size w (w.alloc (.cells #[.int .i64 x.k, .int .i64 x.t, .int .i64 x.n, .int .i64 x.m] 62)) := (Below.refl _ w).alloc (Nat.le_refl _) _
  obtain ⟨_, _, s2, _, s4, s5, _⟩ := h.same (hBV.block g hg)
  have HB : Hid (Below w.heap.size w (w.alloc (.cells #[.int .i64 x.k, .int .i64 x.t, .int .i64 x.n, .int .i64 x.m] 62))) := hBV
  unfold mayBeB tokV
  clear hBV h hg
  generalize s.leaf = lf at *
  generalize s.least = le at *
  generalize s.most = mo at *
  obtain ⟨xk, xt, xn, xm⟩ := x
  dsimp only at *
  obtain ⟨q, hq⟩ : ∃ q, (lf == (xk == 3)) = q := ⟨_, rfl⟩
  rw [hq]
  cases q with
  | false =>
    go_enter Tryz.func166, Tryz.ntmps166
    go_wp2
    go_quiet (fail)
    go_wp2
    go_ret
    exact ⟨rfl, HB.out.trans ⟨rfl, rfl, rfl, Nat.le_refl _, fun _ _ => rfl⟩⟩
  | true =>
    by_cases d1 : le ≤ xn
    · have e1 : decide (le ≤ xn) = true := by simpa using d1
      by_cases d2 : xn ≤ mo
      · have e2 : decide (xn ≤ mo) = true := by simpa using d2
        rw [e1, e2]
        go_enter Tryz.func166, Tryz.ntmps166
        go_wp2
        go_quiet (fail)
        go_wp2
        go_ret
        exact ⟨rfl, HB.out.trans ⟨rfl, rfl, rfl, Nat.le_refl _, fun _ _ => rfl⟩⟩
      · have e2 : decide (xn ≤ mo) = false := by simpa using d2
        rw [e1, e2]
        go_enter Tryz.func166, Tryz.ntmps166
        go_wp2
        go_quiet (fail)
        go_wp2
        go_ret
        exact ⟨rfl, HB.out.trans ⟨rfl, rfl, rfl, Nat.le_refl _, fun _ _ => rfl⟩⟩
    · have e1 : decide (le ≤ xn) = false := by simpa using d1
      rw [e1]
      go_enter Tryz.func166, Tryz.ntmps166
      go_wp2
      go_quiet (fail)
      go_wp2
      go_ret
      exact ⟨rfl, HB.out.trans ⟨rfl, rfl, rfl, Nat.le_refl _, fun _ _ => rfl⟩⟩
end Go.Proofs.YtofkiaeocfpkeaaGreatDoor

/- FOpen: flat.openAt at every slice of tokens and every number: what it returns; nothing that lay before is turned. -/
namespace Go.Proofs.YtofkiaeocfpkeaaGreatDoor
open Go.RowKit

/-- How a slice lies. -/
def Lies (a : Option Addr) (len cap : Nat) : Prop := len ≤ cap ∧ cap ≤ 9223372036854775807 ∧ (a = none → cap = 0) ∧ (∀ x, a = some x → 0 < cap → x.spot = none)
/-- The cells of an empty stack. -/
def zeros : Array Value := #[.int .i64 0, .int .i64 0, .int .i64 0, .int .i64 0, .int .i64 0, .int .i64 0, .int .i64 0, .int .i64 0, .int .i64 0, .int .i64 0, .int .i64 0, .int .i64 0, .int .i64 0, .int .i64 0, .int .i64 0, .int .i64 0, .int .i64 0, .int .i64 0, .int .i64 0, .int .i64 0, .int .i64 0, .int .i64 0, .int .i64 0, .int .i64 0, .int .i64 0, .int .i64 0, .int .i64 0, .int .i64 0, .int .i64 0, .int .i64 0, .int .i64 0, .int .i64 0, .slice none 0 0, .int .i64 0]
theorem zeros_cells : StkCells (.slice none 0 0) [] zeros := by
  obtain ⟨_, _, cs, hg, hc⟩ := stk_new default
  have := heap_alloc_new (default : World) (.cells zeros 136)
  rw [show (default : World).alloc (.cells zeros 136) = (default : World).alloc (.cells #[.int .i64 0, .int .i64 0, .int .i64 0, .int .i64 0, .int .i64 0, .int .i64 0, .int .i64 0, .int .i64 0, .int .i64 0, .int .i64 0, .int .i64 0, .int .i64 0, .int .i64 0, .int .i64 0, .int .i64 0, .int .i64 0, .int .i64 0, .int .i64 0, .int .i64 0, .int .i64 0, .int .i64 0, .int .i64 0, .int .i64 0, .int .i64 0, .int .i64 0, .int .i64 0, .int .i64 0, .int .i64 0, .int .i64 0, .int .i64 0, .int .i64 0, .int .i64 0, .slice none 0 0, .int .i64 0] 136) from rfl, hg] at this
  rw [← (Obj.cells.inj (Option.some.inj this)).1]
  exact hc
theorem StkCells.one {v : Value} {R : List Int} {cs : Array Value} (h : StkCells v R cs) {a : Option Addr} {n c : Nat} (hv : v = .slice a n c) : cs.all (·.oneCell') = true := by
  obtain ⟨h0, h1, h2, h3, h4⟩ := h
  rw [Array.all_eq_true]
  intro i hi
  by_cases e : i < 32
  · obtain ⟨z, hz⟩ := h2 i e
    rw [Array.getElem?_eq_getElem hi] at hz
    rw [Option.some.inj hz]
    rfl
  · by_cases e2 : i = 32
    · subst e2
      rw [Array.getElem?_eq_getElem hi] at h3
      rw [Option.some.inj h3, hv]
      rfl
    · obtain rfl : i = 33 := by omega
      rw [Array.getElem?_eq_getElem hi] at h4
      rw [Option.some.inj h4]
      rfl
theorem info47 : (Tryz.prog.info? 136).map (·.size) = some 34 := by kernel_rfl
theorem wpList_put_row {P : Program} {ops : Array Oper} {rest : List Oper} {o : Oper} {a : Act} {w : World} {Q : Exit → Act → World → Prop} (hgd : o.guard = none) (ty : TypeId) (x y : Operand) (ho : o.op = .store ty x y)
    (g : Nat) (cells : Array Value) (hx : a.eval x = .pointer (some ⟨g, 0, none⟩)) (hy : a.eval y = .agg cells) (t : TypeId) (old : Array Value) (hg : w.heap[g]? = some (.cells old t (0, 0))) (hi : (P.info? ty).map (·.size) = some cells.size)
    (hold : old.size = cells.size) (h1 : cells.all (·.oneCell') = true) (h : wpList P ops Q rest (a.put o.dst undef) (w.setRow g cells)) : wpList P ops Q (o :: rest) a w :=
  wpList_plain hgd fun _ hK => wp_store_row ty x y ho g cells hx hy t old hg hi hold h1 (hK _ _ h)

theorem own_mono {w : World} {b b' : Nat} {e : TypeId} {v : Value} {n : Nat} {xs : List Value} (h : w.ownsRow b e 1 v n xs) (hb : b' ≤ b) : w.ownsRow b' e 1 v n xs := by
  obtain ⟨h1, h2 | ⟨g, cap, cur, h3, h4, h5⟩⟩ := h
  · exact ⟨h1, .inl h2⟩
  · exact ⟨h1, .inr ⟨g, cap, cur, h3, by omega, h5⟩⟩
/-- What openAt leaves. -/
theorem open_leaves {w wr : World} {v : Value} {R : List Int} (hS : Stk wr (w.heap.size + 1) (w.heap.size + 1) v R) (hB : Below (w.heap.size + 1) (w.alloc (.cells zeros 136)) wr) :
    ∃ cs, wr.heap[w.heap.size + 1]? = some (.cells cs 136 (0, 0)) ∧ wr.heap[w.heap.size]? = some (.cells zeros 136 (0, 0)) ∧ cs.size = 34 ∧ StkCells v R cs ∧ cs.all (·.oneCell') = true ∧
      (wr.setRow w.heap.size cs).ownsRow w.heap.size 3 1 v (R.length - 32) ((R.drop 32).map (Value.int .i64)) ∧ Below w.heap.size w (wr.setRow w.heap.size cs) ∧ (wr.setRow w.heap.size cs).heap[w.heap.size]? = some (.cells cs 136 (0, 0)) ∧ (wr.setRow w.heap.size cs).heap[w.heap.size + 1]? = some (.cells cs 136 (0, 0)) := by
  obtain ⟨_, h1, cs, h2, h3⟩ := hS
  have hz : wr.heap[w.heap.size]? = some (.cells zeros 136 (0, 0)) := (hB.block w.heap.size (by omega)).trans (heap_alloc_new w _)
  obtain ⟨a, c, hv⟩ := own_slice h1
  refine ⟨cs, h2, hz, h3.1, h3, h3.one hv, ?_, ?_, ?_, ?_⟩
  · have h4 := own_mono h1 (show w.heap.size ≤ w.heap.size + 1 by omega)
    obtain ⟨k1, k2 | ⟨g, cap, cur, rfl, hb, hg, k3⟩⟩ := h1
    · exact ⟨k1, .inl k2⟩
    · refine ⟨k1, .inr ⟨g, cap, cur, rfl, by omega, ?_, k3⟩⟩
      rw [setRow_other _ _ _ _ (by omega)]
      exact hg
  · have h5 : Below w.heap.size w wr := ((Below.refl _ w).alloc (Nat.le_refl _) _).trans (hB.mono (by omega))
    exact ⟨h5.os, h5.tape, h5.output, by simpa using h5.size, fun k hk => by rw [setRow_other _ _ _ _ (by omega)]; exact h5.block k hk⟩
  · exact setRow_heap _ _ _ _ _ _ hz
  · rw [setRow_other _ _ _ _ (by omega)]
    exact h2

/-- What openAt returns. -/
def Opened (w : World) (R : List Int) (e : Ending) (w' : World) : Prop := ∃ cs v, e = .returned (.agg cs) ∧ StkCells v R cs ∧ w'.ownsRow w.heap.size 3 1 v (R.length - 32) ((R.drop 32).map (Value.int .i64)) ∧ Below w.heap.size w w'

set_option maxRecDepth 100000 in
set_option maxHeartbeats 2000000 in
theorem fopen_none (a : Option Addr) (len cap : Nat) (p : Int) (w : World) (hp : p < 0 ∨ (len : Int) < p) : Calls Tryz.prog 103 #[.slice a len cap, .int .i64 p] w (Opened w []) := by
  have hS : Stk ((w.alloc (.cells zeros 136)).alloc (.cells zeros 136)) (w.heap.size + 1) (w.heap.size + 1) (.slice none 0 0) [] := by
    have := stk_new (w.alloc (.cells zeros 136))
    simp only [World.size_alloc] at this
    exact this
  have hB : Below (w.heap.size + 1) (w.alloc (.cells zeros 136)) ((w.alloc (.cells zeros 136)).alloc (.cells zeros 136)) := (Below.refl _ _).alloc (by simp) _
  obtain ⟨cs, g1, g2, hz, hc, h1, ho, hbel, g3, g4⟩ := open_leaves hS hB
  clear hS hB
  have hd : p < 0 ∨ (decide (p < 0) = false ∧ (len : Int) < p) := by
    by_cases h : p < 0
    · exact .inl h
    · exact .inr ⟨by simpa using h, by omega⟩
  unfold zeros at *
  rcases hd with hd | ⟨hd, hd2⟩
  all_goals
    go_enter Tryz.func103, Tryz.ntmps103
    go_wp2_with (first | refine wpList_load_row rfl 136 _ rfl (w.heap.size + 1) rfl 136 cs (0, 0) _ g1 Tryz.underlying136 rfl (by rw [hz]; exact info47) ?_ | refine wpList_put_row rfl 136 _ _ rfl w.heap.size cs rfl rfl 136 _ g2 (by rw [hz]; exact info47) (by rw [hz]; rfl) h1 ?_)
    refine bodyPost_ret (results_cell_row rfl _ _ w.heap.size 136 cs (0, 0) _ rfl g3 Tryz.underlying136 rfl (by rw [hz]; exact info47)) rfl ?_
    exact ⟨cs, _, rfl, hc, ho, hbel⟩

set_option maxRecDepth 100000 in
set_option maxHeartbeats 4000000 in
theorem fopen_some (a : Option Addr) (len cap : Nat) (l : List Tok) (n : Nat) (w : World) (hl : Toks w a len l) (hsz : len ≤ 4398046511104) (hlie : Lies a len cap) (hn : n ≤ len) : Calls Tryz.prog 103 #[.slice a len cap, .int .i64 (n : Int)] w (Opened w (opened l n)) := by
  obtain ⟨hc1, hc2, ha, hspot⟩ := hlie
  have hS0 : Hid (Stk ((w.alloc (.cells zeros 136)).alloc (.cells zeros 136)) (w.heap.size + 1) (w.heap.size + 1) (.slice none 0 0) []) := by
    have := stk_new (w.alloc (.cells zeros 136))
    simp only [World.size_alloc] at this
    exact this
  have hB0 : Hid (Below (w.heap.size + 1) (w.alloc (.cells zeros 136)) ((w.alloc (.cells zeros 136)).alloc (.cells zeros 136))) := (Below.refl _ _).alloc (by simp) _
  have HO : Hid (openL ((l.take n).drop 0) 0 [] = opened l n) := by
    show _ = _
    unfold opened
    rw [if_pos (by rw [hl.1]; omega), Int.toNat_natCast, List.drop_zero]
  have e0 : decide ((n : Int) < 0) = false := by simp
  have e1 : decide (len < n) = false := by simpa using hn
  generalize hTT : opened l n = T at *
  clear hTT
  rcases Nat.eq_zero_or_pos cap with h0 | h0
  · subst h0
    obtain rfl : len = 0 := by omega
    obtain rfl : n = 0 := by omega
    cases a with
    | none =>
      go_enter Tryz.func103, Tryz.ntmps103
      go_wp2
      go_loopw [21] (fun i w' => ∃ (k : Nat) (v : Value) (R : List Int), k ≤ 0 ∧ i = .int .i64 (k : Int) ∧ R.length ≤ k ∧ Stk w' (w.heap.size + 1) (w.heap.size + 1) v R ∧ openL ((l.take 0).drop k) k R = T ∧ Below (w.heap.size + 1) (w.alloc (.cells zeros 136)) w') (fun i _ => 0 - (intOf i).toNat)
      case atStart => exact ⟨0, _, [], Nat.zero_le _, rfl, by simp, hS0.out, HO.out, hB0.out⟩
      case round =>
        obtain ⟨k, v, R, hk, rfl, hR, hS, hT, hB⟩ := hrel
        have HZ := hB.size
        rw [World.size_alloc] at HZ
        by_cases hlt : k < 0
        · omega
        · obtain rfl : k = 0 := by omega
          rw [List.drop_eq_nil_of_le (by rw [List.length_take]; omega), openL] at hT
          obtain ⟨cs, g1, g2, hz, hc, h1, ho, hbel, g3, g4⟩ := open_leaves hS hB
          rw [hT] at hc ho
          clear hS hB hT HO
          unfold zeros at *
          go_wp2_with (first | refine wpList_load_row rfl 136 _ rfl (w.heap.size + 1) rfl 136 cs (0, 0) _ g1 Tryz.underlying136 rfl (by rw [hz]; exact info47) ?_ | refine wpList_put_row rfl 136 _ _ rfl w.heap.size cs rfl rfl 136 _ g2 (by rw [hz]; exact info47) (by rw [hz]; rfl) h1 ?_)
          refine bodyPost_ret (results_cell_row rfl _ _ w.heap.size 136 cs (0, 0) _ rfl g3 Tryz.underlying136 rfl (by rw [hz]; exact info47)) rfl ?_
          exact ⟨cs, _, rfl, hc, ho, hbel⟩
    | some x =>
      go_enter Tryz.func103, Tryz.ntmps103
      go_wp2
      go_loopw [21] (fun i w' => ∃ (k : Nat) (v : Value) (R : List Int), k ≤ 0 ∧ i = .int .i64 (k : Int) ∧ R.length ≤ k ∧ Stk w' (w.heap.size + 1) (w.heap.size + 1) v R ∧ openL ((l.take 0).drop k) k R = T ∧ Below (w.heap.size + 1) (w.alloc (.cells zeros 136)) w') (fun i _ => 0 - (intOf i).toNat)
      case atStart => exact ⟨0, _, [], Nat.zero_le _, rfl, by simp, hS0.out, HO.out, hB0.out⟩
      case round =>
        obtain ⟨k, v, R, hk, rfl, hR, hS, hT, hB⟩ := hrel
        have HZ := hB.size
        rw [World.size_alloc] at HZ
        by_cases hlt : k < 0
        · omega
        · obtain rfl : k = 0 := by omega
          rw [List.drop_eq_nil_of_le (by rw [List.length_take]; omega), openL] at hT
          obtain ⟨cs, g1, g2, hz, hc, h1, ho, hbel, g3, g4⟩ := open_leaves hS hB
          rw [hT] at hc ho
          clear hS hB hT HO
          unfold zeros at *
          go_wp2_with (first | refine wpList_load_row rfl 136 _ rfl (w.heap.size + 1) rfl 136 cs (0, 0) _ g1 Tryz.underlying136 rfl (by rw [hz]; exact info47) ?_ | refine wpList_put_row rfl 136 _ _ rfl w.heap.size cs rfl rfl 136 _ g2 (by rw [hz]; exact info47) (by rw [hz]; rfl) h1 ?_)
          refine bodyPost_ret (results_cell_row rfl _ _ w.heap.size 136 cs (0, 0) _ rfl g3 Tryz.underlying136 rfl (by rw [hz]; exact info47)) rfl ?_
          exact ⟨cs, _, rfl, hc, ho, hbel⟩
  · cases a with
    | none => exact absurd (ha rfl) (by omega)
    | some x =>
      obtain ⟨b, o, sp⟩ := x
      obtain rfl : sp = none := hspot _ rfl h0
      go_enter Tryz.func103, Tryz.ntmps103
      go_wp2
      go_loopw [21] (fun i w' => ∃ (k : Nat) (v : Value) (R : List Int), k ≤ n ∧ i = .int .i64 (k : Int) ∧ R.length ≤ k ∧ Stk w' (w.heap.size + 1) (w.heap.size + 1) v R ∧ openL ((l.take n).drop k) k R = T ∧ Below (w.heap.size + 1) (w.alloc (.cells zeros 136)) w') (fun i _ => n - (intOf i).toNat)
      case atStart => exact ⟨0, _, [], Nat.zero_le _, rfl, by simp, hS0.out, HO.out, hB0.out⟩
      case round =>
        obtain ⟨k, v, R, hk, rfl, hR, hS, hT, hB⟩ := hrel
        have HZ := hB.size
        rw [World.size_alloc] at HZ
        by_cases hlt : k < n
        · obtain ⟨x, hx, hst⟩ := openL_step (l := l) (N := n) hlt (by rw [hl.1]; exact hn) R
          obtain ⟨b', o', x', eb, hbl, hx', hc⟩ := hl.token (k := k) (by omega)
          cases eb
          rw [hx] at hx'
          obtain rfl := Option.some.inj hx'
          have hBw : Below w.heap.size w wr := ((Below.refl _ w).alloc (Nat.le_refl _) _).trans (hB.mono (by omega))
          obtain ⟨c0, c1, c2, c3⟩ := hc wr hBw
          rw [hst] at hT
          have HT : Hid (openL ((l.take n).drop (k + 1)) (k + 1) (turn x k R) = T) := hT
          have HP : Hid (∀ o, Calls Tryz.prog 79 #[.pointer (some ⟨w.heap.size + 1, 0, none⟩), .int .i64 (k : Int), tokV x] (wr.alloc o) fun e w' => e = .returned (.tuple #[]) ∧ ∃ v', Stk w' (w.heap.size + 1) (w.heap.size + 1) v' (turn x k R) ∧ Below (w.heap.size + 1) (wr.alloc o) w') := by
            intro o
            have hSo := hS.alloc o
            refine (fpass_calls (w.heap.size + 1) (w.heap.size + 1) v R k x _ hSo (by simp; omega) (by omega)).mono ?_
            rintro e w' ⟨e1, v', e2, e3, _⟩
            exact ⟨e1, v', e2, e3.below (Nat.le_refl _) (fun j hj => (own_base hSo.2.1 j hj).1) (by simp; omega)⟩
          have HTL : Hid ((turn x k R).length ≤ k + 1) := by
            show (turn x k R).length ≤ k + 1
            unfold turn
            split <;> (try split) <;> first | omega | (simp; omega)
          clear hT hst hx hc hl hS HO hBw
          generalize turn x k R = R' at *
          obtain ⟨xk, xt, xn, xm⟩ := x
          simp only [tokV] at *
          go_wp2_with fail
          refine (HP.out _).mono ?_
          rintro e W2 ⟨rfl, v', hS2, hB4⟩
          have hB5 := (hB.alloc (by omega) _).trans hB4
          go_wp2
          go_roundw
          case rel => exact ⟨k + 1, v', R', by omega, rfl, HTL.out, hS2, HT.out, hB5⟩
          case measure => simp [intOf]; omega
        · obtain rfl : k = n := by omega
          rw [List.drop_eq_nil_of_le (by rw [List.length_take]; omega), openL] at hT
          obtain ⟨cs, g1, g2, hz, hc, h1, ho, hbel, g3, g4⟩ := open_leaves hS hB
          rw [hT] at hc ho
          clear hS hB hT HO
          unfold zeros at *
          go_wp2_with (first | refine wpList_load_row rfl 136 _ rfl (w.heap.size + 1) rfl 136 cs (0, 0) _ g1 Tryz.underlying136 rfl (by rw [hz]; exact info47) ?_ | refine wpList_put_row rfl 136 _ _ rfl w.heap.size cs rfl rfl 136 _ g2 (by rw [hz]; exact info47) (by rw [hz]; rfl) h1 ?_)
          refine bodyPost_ret (results_cell_row rfl _ _ w.heap.size 136 cs (0, 0) _ rfl g3 Tryz.underlying136 rfl (by rw [hz]; exact info47)) rfl ?_
          exact ⟨cs, _, rfl, hc, ho, hbel⟩
end Go.Proofs.YtofkiaeocfpkeaaGreatDoor

/- FDeep: flat.openAt, flat.Deep and flat.Around at every slice of tokens and every number: what they return; nothing that lay before is turned. -/
namespace Go.Proofs.YtofkiaeocfpkeaaGreatDoor
open Go.RowKit

theorem fopen_calls (a : Option Addr) (len cap : Nat) (l : List Tok) (p : Int) (w : World) (hl : Toks w a len l) (hsz : len ≤ 4398046511104) (hlie : Lies a len cap) : Calls Tryz.prog 103 #[.slice a len cap, .int .i64 p] w (Opened w (opened l p)) := by
  by_cases hp : p < 0 ∨ (len : Int) < p
  · rw [show opened l p = [] from by
      unfold opened
      rw [hl.1]
      split
      · rw [show p.toNat = 0 from by omega]
        rfl
      · rfl]
    exact fopen_none a len cap p w hp
  · obtain ⟨n, rfl⟩ := Int.eq_ofNat_of_zero_le (show 0 ≤ p by omega)
    exact fopen_some a len cap l n w hl hsz hlie (by omega)
/-- A stack that was handed back, laid into a new block. -/
theorem stk_laid {w W : World} {cs : Array Value} {v : Value} {R : List Int} (hc : StkCells v R cs) (ho : W.ownsRow w.heap.size 3 1 v (R.length - 32) ((R.drop 32).map (Value.int .i64))) (hB : Below w.heap.size w W) : Stk (W.alloc (.cells cs 136)) w.heap.size W.heap.size v R :=
  ⟨hB.size, ho.alloc _, cs, heap_alloc_new W _, hc⟩

set_option maxRecDepth 100000 in
set_option maxHeartbeats 1000000 in
theorem faround_calls (a : Option Addr) (len cap : Nat) (l : List Tok) (p : Int) (w : World) (hl : Toks w a len l) (hsz : len ≤ 4398046511104) (hlie : Lies a len cap) :
    Calls Tryz.prog 57 #[.slice a len cap, .int .i64 p] w fun e w' => e = .returned (.int .i64 (around l p)) ∧ Below w.heap.size w w' := by
  have h1 := fopen_calls a len cap l p w hl hsz hlie
  have hq := opened_length l p
  rw [hl.1] at hq
  unfold around
  generalize opened l p = R at *
  obtain ⟨y, hy⟩ : ∃ y, R.getLast?.getD (-1) = y := ⟨_, rfl⟩
  rw [hy]
  go_enter Tryz.func57, Tryz.ntmps57
  go_wp2_with fail
  refine h1.mono ?_
  rintro e W ⟨cs, v, rfl, hc, ho, hB⟩
  have ht := ftop_calls _ _ _ _ _ (stk_laid hc ho hB) (by omega)
  obtain ⟨a', c', hv⟩ := own_slice ho
  have h1c := hc.one hv
  have hz := hc.1
  have hB2 := hB.alloc hB.size (.cells cs 136)
  rw [hy] at ht
  clear hc ho h1 hy
  go_wp2_with (first | (refine wpList_put_row rfl 136 _ _ rfl W.heap.size cs rfl rfl 136 _ (heap_alloc_new W _) (by rw [hz]; exact info47) (by rw [hz]; rfl) h1c ?_; rw [World.setRow_alloc_new]) | (go_at_call 81; refine ht.mono ?_; rintro e W2 ⟨rfl, q, rfl⟩))
  go_ret
  exact ⟨rfl, below_drewN hB2 _⟩
end Go.Proofs.YtofkiaeocfpkeaaGreatDoor

/- Txt: the bytes of code points and of tokens, as plain data. -/
namespace Go.Proofs.YtofkiaeocfpkeaaGreatDoor
open Go.RowKit

/-- The bytes of a code point. -/
def enc (n : Int) : List Int :=
  if n < 128 then [n]
  else if n < 2048 then [192 + n / 64, 128 + n % 64]
  else if n < 65536 then [224 + n / 4096, 128 + n / 64 % 64, 128 + n % 64]
  else [240 + n / 262144, 128 + n / 4096 % 64, 128 + n / 64 % 64, 128 + n % 64]
/-- The bytes of all right TRunes. -/
def text (l : List Tok) : List Int := l.flatMap fun x => if (x.k == 0 && rightT x) = true then enc x.n else []

theorem enc_length (n : Int) : 1 ≤ (enc n).length ∧ (enc n).length ≤ 4 := by unfold enc; split <;> (try split) <;> (try split) <;> simp
theorem text_take (l : List Tok) (k : Nat) (x : Tok) (h : l[k]? = some x) : text (l.take (k + 1)) = text (l.take k) ++ (if (x.k == 0 && rightT x) = true then enc x.n else []) := by
  rw [List.take_add_one, h]
  simp [text, List.flatMap_append]
theorem rightT_point {x : Tok} (h : rightT x = true) (h0 : x.k = 0) : 0 ≤ x.n ∧ x.n ≤ 1114111 := by
  unfold rightT at h
  rw [if_pos h0] at h
  simp only [Bool.and_eq_true, point, decide_eq_true_eq] at h
  omega
end Go.Proofs.YtofkiaeocfpkeaaGreatDoor

/- Doc: plain facts on tokens: what is open, step by step; the text of parts; two documents, one behind the other, and one within a TOpen and a TClose; no program in it. -/
namespace Go.Proofs.YtofkiaeocfpkeaaGreatDoor


theorem openL_append (l m : List Tok) (i : Nat) (s : List Int) : openL (l ++ m) i s = openL m (i + l.length) (openL l i s) := by
  induction l generalizing i s with
  | nil => simp [openL]
  | cons x r ih =>
    rw [List.cons_append, openL, openL, ih, List.length_cons, show i + 1 + r.length = i + (r.length + 1) from by omega]
theorem opened_nat (l : List Tok) (k : Nat) (h : k ≤ l.length) : opened l k = openL (l.take k) 0 [] := by
  unfold opened
  rw [if_pos (by omega), Int.toNat_natCast]
theorem opened_zero (l : List Tok) : opened l 0 = [] := by
  have := opened_nat l 0 (Nat.zero_le _)
  simpa [openL] using this
theorem opened_succ (l : List Tok) (k : Nat) (x : Tok) (h : l[k]? = some x) : opened l ((k + 1 : Nat) : Int) = turn x k (opened l k) := by
  have hk : k < l.length := (List.getElem?_eq_some_iff.1 h).1
  rw [opened_nat l (k + 1) hk, opened_nat l k (by omega), List.take_add_one, h, openL_append]
  rw [List.length_take, show 0 + min k l.length = k from by omega]
  rfl
theorem around_neg (l : List Tok) (p : Int) : decide (around l p < 0) = decide ((opened l p).length = 0) := by
  unfold around
  cases h : (opened l p).getLast? with
  | none => simp [List.getLast?_eq_none_iff.1 h]
  | some x =>
    have h1 := opened_fits l p x (List.mem_of_getLast? h)
    have h2 : opened l p ≠ [] := by intro e; rw [e] at h; cases h
    simp only [Option.getD_some, List.length_eq_zero_iff, h2, decide_false, decide_eq_false_iff_not]
    omega

theorem text_append (a b : List Tok) : text (a ++ b) = text a ++ text b := by simp [text, List.flatMap_append]
theorem cut_low (l : List Tok) (k : Nat) (h : k ≤ l.length) : cut l 0 k = l.take k ∧ cutE l 0 k = 0 := by
  unfold cut cutE
  rw [if_neg (by omega), if_neg (by omega)]
  simp
theorem cut_high (l : List Tok) (k : Nat) (h : k ≤ l.length) : cut l k l.length = l.drop k ∧ cutE l k l.length = 0 := by
  unfold cut cutE
  rw [if_neg (by omega), if_neg (by omega)]
  refine ⟨?_, rfl⟩
  rw [Int.toNat_natCast, List.take_of_length_le]
  rw [List.length_drop]
  omega

/-- How deep it is behind the tokens, d open ahead of them; none, where Check tells an error. -/
def deeper (x : Tok) (d : Int) : Int := if x.k = 1 then d + 1 else if x.k = 2 then d - 1 else d
def wrong (x : Tok) (d : Int) : Bool := !rightT x || (x.k == 2 && d == 0)
def goes : List Tok → Int → Option Int
  | [], d => some d
  | x :: r, d => if wrong x d = true then none else if 32 < deeper x d then none else goes r (deeper x d)
theorem checkL_cons (x : Tok) (r : List Tok) (i : Nat) (d : Int) : checkL (x :: r) i d = if wrong x d = true then ((i : Int), 4) else if 32 < deeper x d then ((i : Int), 8) else checkL r (i + 1) (deeper x d) := rfl
theorem deeper_nonneg {x : Tok} {d : Int} (h : 0 ≤ d) (hw : wrong x d = false) : 0 ≤ deeper x d := by
  unfold deeper
  unfold wrong at hw
  split
  · omega
  · split
    · rename_i h2
      simp [h2] at hw
      omega
    · exact h
theorem goes_append (a b : List Tok) (d : Int) : goes (a ++ b) d = (goes a d).bind (goes b) := by
  induction a generalizing d with
  | nil => rfl
  | cons x r ih =>
    rw [List.cons_append, goes, goes]
    split
    · rfl
    · split
      · rfl
      · exact ih _
theorem checkL_goes (l : List Tok) (i : Nat) (d : Int) (h : 0 ≤ d) : ((checkL l i d).2 = 0 ↔ goes l d = some 0) ∧ (goes l d = some 0 → checkL l i d = (((i + l.length : Nat) : Int), 0)) := by
  induction l generalizing i d with
  | nil =>
    rw [checkL, goes]
    split
    · exact ⟨⟨fun h => by simp at h, fun h => by simp at h; omega⟩, fun h => by simp at h; omega⟩
    · exact ⟨⟨fun _ => by simp; omega, fun _ => rfl⟩, fun _ => by simp⟩
  | cons x r ih =>
    rw [checkL_cons, goes]
    cases hw : wrong x d with
    | true => simp
    | false =>
      simp only [Bool.false_eq_true, if_false]
      split
      · simp
      · have := ih (i + 1) (deeper x d) (deeper_nonneg h hw)
        refine ⟨this.1, fun e => ?_⟩
        rw [this.2 e, List.length_cons, show i + 1 + r.length = i + (r.length + 1) from by omega]
theorem check_ok (l : List Tok) : (check l).2 = 0 ↔ l.length ≤ 2048 ∧ goes l 0 = some 0 := by
  unfold check
  split
  · constructor
    · intro h; exact absurd h (by decide)
    · intro h; omega
  · rw [(checkL_goes l 0 0 (by omega)).1]
    constructor
    · intro h; exact ⟨by omega, h⟩
    · intro h; exact h.2
theorem check_done (l : List Tok) (h : (check l).2 = 0) : check l = ((l.length : Int), 0) := by
  obtain ⟨h1, h2⟩ := (check_ok l).1 h
  unfold check
  rw [if_neg (by omega), (checkL_goes l 0 0 (by omega)).2 h2]
  simp
/-- Two documents, one behind the other. -/
theorem check_joins (a b : List Tok) (ha : (check a).2 = 0) (hb : (check b).2 = 0) (hl : (a ++ b).length ≤ 2048) : (check (a ++ b)).2 = 0 := by
  rw [check_ok] at *
  refine ⟨hl, ?_⟩
  rw [goes_append, ha.2]
  exact hb.2

/-- The greatest depth at any place, d open at the first. -/
def deepest : List Tok → Int → Int
  | [], d => d
  | x :: r, d => max d (deepest r (deeper x d))
theorem deepest_ge (l : List Tok) (d : Int) : d ≤ deepest l d := by
  cases l with
  | nil => exact Int.le_refl _
  | cons x r => rw [deepest]; omega
theorem deeper_succ (x : Tok) (d : Int) : deeper x (d + 1) = deeper x d + 1 := by unfold deeper; split <;> (try split) <;> omega
theorem goes_cons {x : Tok} {r : List Tok} {d e : Int} (h : goes (x :: r) d = some e) : wrong x d = false ∧ deeper x d ≤ 32 ∧ goes r (deeper x d) = some e := by
  rw [goes] at h
  cases hw : wrong x d with
  | true => rw [hw] at h; simp at h
  | false =>
    rw [hw] at h
    simp only [Bool.false_eq_true, if_false] at h
    split at h
    · cases h
    · exact ⟨rfl, by omega, h⟩
theorem wrong_succ {x : Tok} {d : Int} (h : 0 ≤ d) (hw : wrong x d = false) : wrong x (d + 1) = false := by
  unfold wrong at *
  have : (d + 1 == 0) = false := by
    simp only [beq_eq_false_iff_ne]
    omega
  simp only [this, Bool.and_false, Bool.or_false]
  cases hr : rightT x with
  | true => rfl
  | false => rw [hr] at hw; simp at hw
/-- One deeper: as well, or too deep. -/
theorem goes_within (l : List Tok) (d e : Int) (h0 : 0 ≤ d) (h1 : d < 32) (h : goes l d = some e) : (deepest l d < 32 → goes l (d + 1) = some (e + 1)) ∧ (32 ≤ deepest l d → ∀ (t : List Tok) (i : Nat), (checkL (l ++ t) i (d + 1)).2 = 8) := by
  induction l generalizing d with
  | nil =>
    rw [goes] at h
    obtain rfl := Option.some.inj h
    exact ⟨fun _ => rfl, fun h => by rw [deepest] at h; omega⟩
  | cons x r ih =>
    obtain ⟨hw, hd, hg⟩ := goes_cons h
    have hn := deeper_nonneg h0 hw
    have hw' := wrong_succ h0 hw
    rw [deepest]
    by_cases h32 : deeper x d = 32
    · have := deepest_ge r (deeper x d)
      refine ⟨fun h => by omega, fun _ t i => ?_⟩
      rw [List.cons_append, checkL_cons, hw', deeper_succ]
      simp only [Bool.false_eq_true, if_false]
      rw [if_pos (by omega)]
    · obtain ⟨i1, i2⟩ := ih (deeper x d) hn (by omega) hg
      refine ⟨fun h => ?_, fun h t i => ?_⟩
      · rw [goes, hw', deeper_succ]
        simp only [Bool.false_eq_true, if_false]
        rw [if_neg (by omega)]
        exact i1 (by omega)
      · rw [List.cons_append, checkL_cons, hw', deeper_succ]
        simp only [Bool.false_eq_true, if_false]
        rw [if_neg (by omega)]
        exact i2 (by omega) t (i + 1)

/-- The greatest depth at the first k places. -/
def mx (l : List Tok) : Nat → Int
  | 0 => 0
  | k + 1 => max (mx l k) ((opened l k).length : Int)
theorem mx_nonneg (l : List Tok) (k : Nat) : 0 ≤ mx l k := by
  induction k with
  | zero => exact Int.le_refl _
  | succ k ih => rw [mx]; omega
theorem turn_length {x : Tok} {i : Nat} {s : List Int} (hw : wrong x s.length = false) : ((turn x i s).length : Int) = deeper x s.length := by
  unfold turn deeper
  split
  · simp
  · split
    · rename_i h2
      unfold wrong at hw
      simp [h2] at hw
      have : s.length ≠ 0 := by
        intro e
        exact hw.2 (List.length_eq_zero_iff.1 e)
      rw [List.length_dropLast]
      omega
    · rfl
theorem mx_step (l : List Tok) (k : Nat) (hk : k ≤ l.length) (h : goes l 0 = some 0) : max (mx l k) (deepest (l.drop k) (opened l k).length) = deepest l 0 ∧ goes (l.drop k) (opened l k).length = some 0 := by
  induction k with
  | zero =>
    have h0 := opened_zero l
    rw [show ((0 : Nat) : Int) = 0 from rfl, h0, mx]
    have := deepest_ge l 0
    simp only [List.drop_zero, List.length_nil]
    exact ⟨by rw [show ((0 : Nat) : Int) = 0 from rfl]; omega, h⟩
  | succ k ih =>
    obtain ⟨i1, i2⟩ := ih (by omega)
    obtain ⟨x, hx, hd⟩ := drop_getD (l := l) (k := k) (by omega)
    rw [hd] at i1 i2
    obtain ⟨hw, _, hg⟩ := goes_cons i2
    rw [opened_succ l k x hx, turn_length hw, mx]
    rw [deepest] at i1
    exact ⟨by omega, hg⟩
theorem mx_all (l : List Tok) (h : goes l 0 = some 0) : mx l l.length = deepest l 0 := by
  obtain ⟨i1, i2⟩ := mx_step l l.length (Nat.le_refl _) h
  rw [List.drop_length] at i1 i2
  rw [goes] at i2
  rw [deepest, Option.some.inj i2] at i1
  have := mx_nonneg l l.length
  omega
/-- A document within a TOpen and a TClose. -/
theorem check_within (l : List Tok) (t : Int) (ht : 1 ≤ t ∧ t ≤ 15) (h : (check l).2 = 0) (hl : l.length ≤ 2046) :
    (check ((⟨1, t, 0, 0⟩ :: l) ++ [⟨2, 0, 0, 0⟩])).2 = if mx l l.length < 32 then 0 else 8 := by
  obtain ⟨_, hg⟩ := (check_ok l).1 h
  rw [mx_all l hg]
  have hr : rightT ⟨1, t, 0, 0⟩ = true := by
    unfold rightT
    simp
    omega
  have hw : wrong ⟨1, t, 0, 0⟩ 0 = false := by unfold wrong; rw [hr]; rfl
  have hd : deeper ⟨1, t, 0, 0⟩ 0 = 1 := rfl
  obtain ⟨g1, g2⟩ := goes_within l 0 0 (by omega) (by omega) hg
  split
  · rename_i h32
    rw [check_ok]
    refine ⟨by simp; omega, ?_⟩
    rw [goes_append, goes, hw, hd]
    simp only [Bool.false_eq_true, if_false]
    rw [if_neg (by omega), show (1 : Int) = 0 + 1 from rfl, g1 h32]
    decide
  · rename_i h32
    have := g2 (by omega) [⟨2, 0, 0, 0⟩] 1
    unfold check
    rw [if_neg (by simp; omega), List.cons_append, checkL_cons, hw, hd]
    simp only [Bool.false_eq_true, if_false]
    rw [if_neg (by omega)]
    exact this
end Go.Proofs.YtofkiaeocfpkeaaGreatDoor

/- Pair: in a document each TOpen has a TClose behind it, of which it is the partner, and between them a document; nothing else has a partner; no program in it. -/
namespace Go.Proofs.YtofkiaeocfpkeaaGreatDoor



theorem opened_cons (l : List Tok) (k : Nat) (hk : k < l.length) : ∃ x, l[k]? = some x ∧ kindAt l k = x.k ∧ opened l ((k + 1 : Nat) : Int) = turn x k (opened l k) := by
  have hx : l[k]? = some l[k] := List.getElem?_eq_getElem hk
  exact ⟨_, hx, kindAt_some hx, opened_succ l k _ hx⟩
/-- What is open came there by a TOpen, and has been open since. -/
theorem opened_since (l : List Tok) (k : Nat) (hk : k ≤ l.length) (Q : List Int) (e : Int) (h : (Q ++ [e]) <+: opened l k) :
    ∃ n : Nat, e = n ∧ n < k ∧ kindAt l n = 1 ∧ opened l n = Q ∧ ∀ m : Nat, n < m → m ≤ k → (Q ++ [e]) <+: opened l m := by
  induction k with
  | zero =>
    rw [show ((0 : Nat) : Int) = 0 from rfl, opened_zero] at h
    have := h.length_le
    simp at this
  | succ k ih =>
    obtain ⟨x, hx, hkx, hs⟩ := opened_cons l k (by omega)
    have keep : (Q ++ [e]) <+: opened l k → ∃ n : Nat, e = n ∧ n < k + 1 ∧ kindAt l n = 1 ∧ opened l n = Q ∧ ∀ m : Nat, n < m → m ≤ k + 1 → (Q ++ [e]) <+: opened l m := by
      intro h'
      obtain ⟨n, h1, h2, h3, h4, h5⟩ := ih (by omega) h'
      refine ⟨n, h1, by omega, h3, h4, fun m hm hm' => ?_⟩
      by_cases hmk : m = k + 1
      · subst hmk
        exact h
      · exact h5 m hm (by omega)
    rw [hs] at h
    unfold turn at h
    split at h
    · rename_i h1
      rcases List.prefix_concat_iff.1 h with h2 | h2
      · obtain ⟨h3, h4⟩ := List.append_inj' h2 rfl
        obtain rfl : e = (k : Int) := by simpa using h4
        refine ⟨k, rfl, by omega, by rw [hkx, h1], h3.symm, fun m hm hm' => ?_⟩
        obtain rfl : m = k + 1 := by omega
        rw [hs]
        unfold turn
        rw [if_pos h1]
        exact h
      · exact keep h2
    · split at h
      · exact keep (h.trans (List.dropLast_prefix _))
      · exact keep h
theorem around_last (l : List Tok) (k : Nat) (hk : k ≤ l.length) (n : Nat) (h : around l k = n) : opened l k = opened l n ++ [(n : Int)] := by
  unfold around at h
  cases hg : (opened l k).getLast? with
  | none => rw [hg] at h; simp at h
  | some x =>
    rw [hg] at h
    obtain rfl : x = (n : Int) := by simpa using h
    obtain ⟨Q, hQ⟩ := List.getLast?_eq_some_iff.1 hg
    obtain ⟨n', e, _, _, h4, _⟩ := opened_since l k hk Q n (by rw [hQ]; exact List.prefix_refl _)
    obtain rfl : n = n' := by omega
    rw [hQ, h4]
theorem around_of (l : List Tok) (k : Nat) (Q : List Int) (e : Int) (h : opened l k = Q ++ [e]) : around l k = e := by
  unfold around
  rw [h]
  simp
/-- Where i is ended: as long as it is open no TClose ahead ends it. -/
theorem seek_at (l : List Tok) (i p : Nat) (hp : p < l.length) (hi : i < p) (hk : kindAt l p = 2) (ha : around l p = i) (hpre : ∀ m : Nat, i < m → m ≤ p → (opened l i ++ [(i : Int)]) <+: opened l m) :
    ∀ (m f : Nat), i < m → m ≤ p → m + f = l.length → seek l i m f = p := by
  intro m f
  induction f generalizing m with
  | zero => intro _ h2 h3; omega
  | succ f ih =>
    intro h1 h2 h3
    rw [seek]
    by_cases hmp : m = p
    · subst hmp
      rw [if_pos ⟨hk, ha⟩]
    · rw [if_neg, ih (m + 1) (by omega) (by omega) (by omega)]
      rintro ⟨h4, h5⟩
      have h6 := around_last l m (by omega) i h5
      obtain ⟨x, hx, hkx, hs⟩ := opened_cons l m (by omega)
      have h7 := (hpre (m + 1) (by omega) (by omega)).length_le
      rw [hs, h6] at h7
      unfold turn at h7
      rw [if_neg (by omega), if_pos (by omega), List.dropLast_concat, List.length_append, List.length_singleton] at h7
      omega
theorem partner_open (l : List Tok) (i : Nat) (hi : i < l.length) (hk : kindAt l i = 1) : partner l i = seek l i (i + 1) (l.length - (i + 1)) := by
  unfold partner
  rw [if_neg (by omega), Int.toNat_natCast, if_neg (by omega), if_pos hk]
theorem partner_close (l : List Tok) (i : Nat) (hi : i < l.length) (hk : kindAt l i = 2) : partner l i = around l i := by
  unfold partner
  rw [if_neg (by omega), Int.toNat_natCast, if_pos hk]
theorem partner_else (l : List Tok) (i : Nat) (h1 : kindAt l i ≠ 1) (h2 : kindAt l i ≠ 2) : partner l i = -1 := by
  unfold partner
  split
  · rfl
  · rw [Int.toNat_natCast, if_neg h2, if_neg h1]

/-- Each TClose of a document. -/
theorem pair_close (l : List Tok) (h : goes l 0 = some 0) (i : Nat) (hi : i < l.length) (hk : kindAt l i = 2) : ∃ n : Nat, n < i ∧ partner l i = n ∧ kindAt l n = 1 ∧ partner l n = i := by
  obtain ⟨x, hx, hd⟩ := drop_getD (l := l) (k := i) hi
  obtain ⟨_, hg⟩ := mx_step l i (by omega) h
  rw [hd] at hg
  obtain ⟨hw, _, _⟩ := goes_cons hg
  have hne : opened l i ≠ [] := by
    intro e
    rw [e] at hw
    unfold wrong at hw
    rw [kindAt_some hx] at hk
    simp [hk] at hw
  obtain ⟨Q, e, hQ⟩ : ∃ Q e, opened l i = Q ++ [e] := ⟨_, _, (List.dropLast_concat_getLast hne).symm⟩
  obtain ⟨n, rfl, h2, h3, h4, h5⟩ := opened_since l i (by omega) Q e (by rw [hQ]; exact List.prefix_refl _)
  have ha := around_of l i Q n hQ
  refine ⟨n, h2, by rw [partner_close l i hi hk, ha], h3, ?_⟩
  rw [partner_open l n (by omega) h3]
  exact seek_at l n i hi h2 hk ha (by rw [h4]; exact h5) (n + 1) _ (by omega) (by omega) (by omega)

theorem ends (l : List Tok) (h : goes l 0 = some 0) : opened l l.length = [] := by
  obtain ⟨_, i2⟩ := mx_step l l.length (Nat.le_refl _) h
  rw [List.drop_length, goes] at i2
  have := Option.some.inj i2
  exact List.length_eq_zero_iff.1 (by omega)
theorem first_end (l : List Tok) (h : goes l 0 = some 0) (i : Nat) (f : Nat) : ∀ m, i < m → m + f = l.length → (∀ m' : Nat, i < m' → m' ≤ m → (opened l i ++ [(i : Int)]) <+: opened l m') →
    ∃ p : Nat, i < p ∧ p < l.length ∧ kindAt l p = 2 ∧ opened l p = opened l i ++ [(i : Int)] ∧ ∀ m' : Nat, i < m' → m' ≤ p → (opened l i ++ [(i : Int)]) <+: opened l m' := by
  induction f with
  | zero =>
    intro m h1 h2 h3
    have h4 := (h3 m h1 (Nat.le_refl _)).length_le
    rw [show m = l.length from by omega, ends l h] at h4
    simp at h4
  | succ f ih =>
    intro m h1 h2 h3
    by_cases hp : (opened l i ++ [(i : Int)]) <+: opened l ((m + 1 : Nat) : Int)
    · refine ih (m + 1) (by omega) (by omega) (fun m' h4 h5 => ?_)
      by_cases hm : m' = m + 1
      · subst hm
        exact hp
      · exact h3 m' h4 (by omega)
    · obtain ⟨x, hx, hkx, hs⟩ := opened_cons l m (by omega)
      have h4 := h3 m h1 (Nat.le_refl _)
      rw [hs] at hp
      unfold turn at hp
      split at hp
      · exact absurd (h4.trans (List.prefix_append _ _)) hp
      · split at hp
        · rename_i _ h6
          refine ⟨m, h1, by omega, by rw [hkx, h6], ?_, h3⟩
          obtain ⟨R, hR⟩ := h4
          cases R with
          | nil => rw [← hR, List.append_nil]
          | cons y R =>
            exfalso
            apply hp
            rw [← hR, List.dropLast_append_of_ne_nil (by simp)]
            exact List.prefix_append _ _
        · exact absurd h4 hp

/-- Each TOpen of a document. -/
theorem pair_open (l : List Tok) (h : goes l 0 = some 0) (i : Nat) (hi : i < l.length) (hk : kindAt l i = 1) :
    ∃ p : Nat, i < p ∧ p < l.length ∧ partner l i = p ∧ partner l p = i ∧ around l p = i ∧ goes ((l.drop (i + 1)).take (p - (i + 1))) 0 = some 0 := by
  obtain ⟨x, hx, hkx, hs⟩ := opened_cons l i hi
  have hs1 : opened l ((i + 1 : Nat) : Int) = opened l i ++ [(i : Int)] := by rw [hs]; unfold turn; rw [if_pos (by omega)]
  obtain ⟨p, p1, p2, p3, p4, p5⟩ := first_end l h i (l.length - (i + 1)) (i + 1) (by omega) (by omega) (fun m h1 h2 => by
    obtain rfl : m = i + 1 := by omega
    rw [hs1]
    exact List.prefix_refl _)
  have ha := around_of l p _ _ p4
  refine ⟨p, p1, p2, ?_, by rw [partner_close l p p2 p3, ha], ha, ?_⟩
  · rw [partner_open l i hi hk]
    exact seek_at l i p p2 p1 p3 ha p5 (i + 1) _ (by omega) (by omega) (by omega)
  · have key : ∀ (f k : Nat), i < k → k + f = p → goes ((l.drop k).take f) ((opened l k).length - ((opened l i).length + 1)) = some 0 := by
      intro f
      induction f with
      | zero =>
        intro k _ h2
        obtain rfl : k = p := by omega
        rw [List.take_zero, goes, p4]
        simp
      | succ f ih =>
        intro k h1 h2
        obtain ⟨y, hy, hd⟩ := drop_getD (l := l) (k := k) (by omega)
        obtain ⟨_, hg⟩ := mx_step l k (by omega) h
        rw [hd] at hg
        obtain ⟨hw, hdp, _⟩ := goes_cons hg
        have hl1 := (p5 (k + 1) (by omega) (by omega)).length_le
        have hl0 := (p5 k (by omega) (by omega)).length_le
        have hlen : ((opened l ((k + 1 : Nat) : Int)).length : Int) = deeper y (opened l k).length := by rw [opened_succ l k y hy, turn_length hw]
        simp only [List.length_append, List.length_singleton] at hl1 hl0
        have hdd : deeper y ((opened l k).length - ((opened l i).length + 1)) = deeper y (opened l k).length - ((opened l i).length + 1) := by unfold deeper; split <;> (try split) <;> omega
        have hw2 : wrong y ((opened l k).length - ((opened l i).length + 1)) = false := by
          unfold wrong at *
          cases hr : rightT y with
          | false => rw [hr] at hw; simp at hw
          | true =>
            simp only [Bool.not_true, Bool.false_or, Bool.and_eq_false_iff, beq_eq_false_iff_ne]
            by_cases h2' : y.k = 2
            · right
              intro e
              unfold deeper at hlen
              rw [if_neg (by omega), if_pos h2'] at hlen
              omega
            · exact .inl h2'
        rw [hd, List.take_succ_cons, goes, hw2, hdd]
        simp only [Bool.false_eq_true, if_false]
        rw [if_neg (by omega), ← hlen]
        exact ih (k + 1) (by omega) (by omega)
    have := key (p - (i + 1)) (i + 1) (by omega) (by omega)
    rw [hs1] at this
    simpa using this
end Go.Proofs.YtofkiaeocfpkeaaGreatDoor

/- End: plain facts on tokens: what is open from a TOpen on, step by step, till it is ended; no program in it. -/
namespace Go.Proofs.YtofkiaeocfpkeaaGreatDoor

/-- What is open from the TOpen at i on. -/
def Since (l : List Tok) (i k : Nat) (S : List Int) : Prop :=
  (k = i ∧ S = []) ∨ (i < k ∧ ∃ S', S = (i : Int) :: S' ∧ (∀ x ∈ S', (i : Int) < x) ∧ opened l k = opened l i ++ S)
theorem since_around {l : List Tok} {i k : Nat} {S : List Int} (h : Since l i k S) (hk : i < k) : around l k = S.getLast?.getD (-1) ∧ (around l k = i ↔ S = [(i : Int)]) := by
  rcases h with ⟨rfl, _⟩ | ⟨_, S', rfl, h1, h2⟩
  · omega
  · have h3 : around l k = ((i : Int) :: S').getLast?.getD (-1) := by
      unfold around
      rw [h2, List.getLast?_append]
      cases h4 : ((i : Int) :: S').getLast? with
      | none => simp at h4
      | some y => simp
    refine ⟨h3, ?_⟩
    rw [h3]
    constructor
    · intro h4
      cases S' with
      | nil => rfl
      | cons y r =>
        have h5 : ((i : Int) :: y :: r).getLast? = (y :: r).getLast? := by simp [List.getLast?_cons]
        rw [h5] at h4
        cases h6 : (y :: r).getLast? with
        | none => simp at h6
        | some z =>
          rw [h6] at h4
          have := h1 z (List.mem_of_getLast? h6)
          simp at h4
          omega
    · intro h4
      rw [h4]
      rfl
theorem turn_one {x : Tok} {k : Nat} {S : List Int} (h : x.k = 1) : turn x k S = S ++ [(k : Int)] := by unfold turn; rw [if_pos h]
theorem turn_two {x : Tok} {k : Nat} {S : List Int} (h : x.k = 2) : turn x k S = S.dropLast := by unfold turn; rw [if_neg (by omega), if_pos h]
theorem turn_else {x : Tok} {k : Nat} {S : List Int} (h1 : x.k ≠ 1) (h2 : x.k ≠ 2) : turn x k S = S := by unfold turn; rw [if_neg h1, if_neg h2]
/-- One token on. -/
theorem since_step {l : List Tok} {i k : Nat} {S : List Int} {x : Tok} (h : Since l i k S) (hik : i ≤ k) (hx : l[k]? = some x) (hi : kindAt l i = 1) :
    (turn x k S = [] ∧ i < k ∧ x.k = 2 ∧ S = [(i : Int)]) ∨ (turn x k S ≠ [] ∧ Since l i (k + 1) (turn x k S) ∧ (i < k → ¬ (x.k = 2 ∧ S = [(i : Int)]))) := by
  have hs := opened_succ l k x hx
  rcases h with ⟨rfl, rfl⟩ | ⟨h0, S', rfl, h1, h2⟩
  · rw [kindAt_some hx] at hi
    rw [turn_one hi] at hs ⊢
    refine .inr ⟨by simp, .inr ⟨by omega, [], rfl, by simp, hs⟩, fun h => by omega⟩
  · by_cases k1 : x.k = 1
    · rw [turn_one k1] at hs ⊢
      refine .inr ⟨by simp, .inr ⟨by omega, S' ++ [(k : Int)], rfl, fun y hy => ?_, ?_⟩, fun _ h => by omega⟩
      · rcases List.mem_append.1 hy with hy | hy
        · exact h1 y hy
        · obtain rfl : y = (k : Int) := by simpa using hy
          omega
      · rw [hs, h2]
        simp
    · by_cases k2 : x.k = 2
      · rw [turn_two k2] at hs ⊢
        cases S' with
        | nil => exact .inl ⟨rfl, h0, k2, rfl⟩
        | cons y r =>
          refine .inr ⟨by simp, .inr ⟨by omega, (y :: r).dropLast, rfl, fun z hz => h1 z (List.dropLast_subset _ hz), ?_⟩, fun _ h => by simp at h⟩
          rw [hs, h2, List.dropLast_append_of_ne_nil (by simp)]
      · rw [turn_else k1 k2] at hs ⊢
        exact .inr ⟨by simp, .inr ⟨by omega, S', rfl, h1, by rw [hs, h2]⟩, fun _ h => k2 h.1⟩

/-- How the partner of a TOpen is looked for. -/
def Seeks (l : List Tok) (i k : Nat) (P : Int) : Prop := (k = i ∧ P = seek l i (i + 1) (l.length - (i + 1))) ∨ (i < k ∧ P = seek l i k (l.length - k))
theorem end_step {l : List Tok} {i k : Nat} {S : List Int} {x : Tok} {P : Int} (h : Since l i k S) (hik : i ≤ k) (hk : k < l.length) (hx : l[k]? = some x) (hi : kindAt l i = 1) (hP : Seeks l i k P) :
    (turn x k S = [] ∧ P = k) ∨ (turn x k S ≠ [] ∧ Since l i (k + 1) (turn x k S) ∧ Seeks l i (k + 1) P) := by
  have hst := since_step h hik hx hi
  rcases hP with ⟨rfl, hP⟩ | ⟨hlt, hP⟩
  · rcases hst with ⟨_, h2, _⟩ | ⟨h1, h2, _⟩
    · omega
    · exact .inr ⟨h1, h2, .inr ⟨by omega, hP⟩⟩
  · have ha := (since_around h hlt).2
    rw [show l.length - k = (l.length - (k + 1)) + 1 from by omega, seek, kindAt_some hx] at hP
    rcases hst with ⟨h1, _, h3, h4⟩ | ⟨h1, h2, h3⟩
    · rw [if_pos ⟨h3, ha.2 h4⟩] at hP
      exact .inl ⟨h1, hP⟩
    · rw [if_neg (fun h => h3 hlt ⟨h.1, ha.1 h.2⟩)] at hP
      exact .inr ⟨h1, h2, .inr ⟨by omega, hP⟩⟩
theorem end_none {l : List Tok} {i : Nat} {P : Int} (hi : i < l.length) (hP : Seeks l i l.length P) : P = -1 := by
  rcases hP with ⟨h, _⟩ | ⟨_, h⟩
  · omega
  · rw [Nat.sub_self, seek] at h
    exact h

/-- How what stands just in a place is gathered. -/
def Gathers (l : List Tok) (i : Int) (k : Nat) (out K : List Int) : Prop := (i = k ∧ out = [] ∧ K = kidsL l i (k + 1) (l.length - (k + 1)) []) ∨ (i < k ∧ K = kidsL l i k (l.length - k) out)
/-- What is kept of what stands at k. -/
def kept (i : Int) (x : Tok) (k : Nat) (S out : List Int) : List Int := if S.getLast?.getD (-1) = i ∧ (x.k = 0 ∨ x.k = 1 ∨ x.k = 3) then out ++ [(k : Int)] else out
theorem kids_step {l : List Tok} {i k : Nat} {S out K : List Int} {x : Tok} (h : Since l i k S) (hik : i ≤ k) (hk : k < l.length) (hx : l[k]? = some x) (hi : kindAt l i = 1) (hP : Gathers l i k out K) :
    (turn x k S = [] ∧ K = kept i x k S out) ∨ (turn x k S ≠ [] ∧ Since l i (k + 1) (turn x k S) ∧ Gathers l i (k + 1) (kept i x k S out) K) := by
  have hst := since_step h hik hx hi
  rcases hP with ⟨e, rfl, hP⟩ | ⟨hlt, hP⟩
  · obtain rfl : i = k := by omega
    rcases hst with ⟨_, h2, _⟩ | ⟨h1, h2, _⟩
    · omega
    · refine .inr ⟨h1, h2, .inr ⟨by omega, ?_⟩⟩
      rcases h with ⟨_, rfl⟩ | ⟨h, _⟩
      · unfold kept
        rw [if_neg (by simp), hP]
      · omega
  · have hlt' : i < k := by omega
    obtain ⟨ha1, ha⟩ := since_around h hlt'
    have hkp : kept i x k S out = if x.k ≠ 2 ∧ 0 ≤ x.k ∧ x.k ≤ 3 ∧ around l k = i then out ++ [(k : Int)] else out := by
      unfold kept
      rw [← ha1]
      by_cases c : around l k = i ∧ (x.k = 0 ∨ x.k = 1 ∨ x.k = 3)
      · rw [if_pos c, if_pos (by omega)]
      · rw [if_neg c, if_neg (by omega)]
    rw [show l.length - k = (l.length - (k + 1)) + 1 from by omega, kidsL, kindAt_some hx, ← hkp] at hP
    rcases hst with ⟨h1, _, h3, h4⟩ | ⟨h1, h2, h3⟩
    · rw [if_pos ⟨h3, ha.2 h4, by omega⟩] at hP
      refine .inl ⟨h1, ?_⟩
      rw [hP, hkp, if_neg (by omega)]
    · rw [if_neg (fun h => h3 hlt' ⟨h.1, ha.1 h.2.1⟩)] at hP
      exact .inr ⟨h1, h2, .inr ⟨by omega, hP⟩⟩
theorem kids_none {l : List Tok} {i : Int} {out K : List Int} (hi : i < l.length) (hP : Gathers l i l.length out K) : K = out := by
  rcases hP with ⟨h, _⟩ | ⟨_, h⟩
  · omega
  · rw [Nat.sub_self, kidsL] at h
    exact h
/-- In nothing. -/
theorem kids_out {l : List Tok} {k : Nat} {out K : List Int} {x : Tok} (hk : k < l.length) (hx : l[k]? = some x) (hP : Gathers l (-1) k out K) : Gathers l (-1) (k + 1) (kept (-1) x k (opened l k) out) K := by
  rcases hP with ⟨e, _⟩ | ⟨_, hP⟩
  · omega
  · refine .inr ⟨by omega, ?_⟩
    have hkp : kept (-1) x k (opened l k) out = if x.k ≠ 2 ∧ 0 ≤ x.k ∧ x.k ≤ 3 ∧ around l k = -1 then out ++ [(k : Int)] else out := by
      unfold kept
      rw [show (opened l k).getLast?.getD (-1) = around l k from rfl]
      by_cases c : around l k = -1 ∧ (x.k = 0 ∨ x.k = 1 ∨ x.k = 3)
      · rw [if_pos c, if_pos (by omega)]
      · rw [if_neg c, if_neg (by omega)]
    rw [show l.length - k = (l.length - (k + 1)) + 1 from by omega, kidsL, kindAt_some hx, ← hkp, if_neg (by omega)] at hP
    exact hP
end Go.Proofs.YtofkiaeocfpkeaaGreatDoor

/- FPartner: flat.endOf and flat.Partner at every slice of tokens and every number: what they return; nothing that lay before is turned. -/
namespace Go.Proofs.YtofkiaeocfpkeaaGreatDoor
open Go.RowKit

theorem turn_length_le (x : Tok) (k : Nat) (R : List Int) : (turn x k R).length ≤ R.length + 1 := by
  unfold turn
  split <;> (try split) <;> first | omega | (simp; done) | (simp; omega)

set_option maxRecDepth 100000 in
set_option maxHeartbeats 4000000 in
theorem fend_calls (a : Option Addr) (len cap : Nat) (l : List Tok) (i : Nat) (w : World) (hl : Toks w a len l) (hsz : len ≤ 4398046511104) (hi : i < len) (hk1 : kindAt l i = 1) :
    Calls Tryz.prog 83 #[.slice a len cap, .int .i64 (i : Int)] w fun e w' => e = .returned (.int .i64 (partner l i)) ∧ Below w.heap.size w w' := by
  have hL := hl.1
  have HP0 : Hid (Seeks l i i (partner l i)) := .inl ⟨rfl, partner_open l i (by omega) hk1⟩
  have HS0 : Hid (Since l i i []) := .inl ⟨rfl, rfl⟩
  have HN : Hid (Stk (w.alloc (.cells zeros 136)) w.heap.size w.heap.size (.slice none 0 0) []) := stk_new w
  have HB0 : Hid (∀ o, Below w.heap.size w (w.alloc o)) := fun o => (Below.refl _ w).alloc (Nat.le_refl _) o
  have HK1 : Hid (kindAt l i = 1) := hk1
  clear hk1
  generalize partner l i = P at *
  go_enter Tryz.func83, Tryz.ntmps83
  go_wp2
  go_loopw [6] (fun u w' => ∃ (k : Nat) (v : Value) (R : List Int), k ≤ len ∧ i ≤ k ∧ u = .int .i64 (k : Int) ∧ R.length ≤ k ∧ Stk w' w.heap.size w.heap.size v R ∧ Since l i k R ∧ Seeks l i k P ∧ Below w.heap.size w w') (fun u _ => len - (intOf u).toNat)
  case atStart => exact ⟨i, _, [], by omega, by omega, rfl, by simp, HN.out, HS0.out, HP0.out, HB0.out _⟩
  case round =>
    obtain ⟨k, v, R, hk, hik, rfl, hR, hS, hSi, hSe, hB⟩ := hrel
    clear HP0 HS0 HN HB0
    by_cases hlt : k < len
    · obtain ⟨b, o, x, rfl, hbl, hx, hc⟩ := hl.token hlt
      obtain ⟨c0, c1, c2, c3⟩ := hc wr hB
      have HP : Hid (Calls Tryz.prog 79 #[.pointer (some ⟨w.heap.size, 0, none⟩), .int .i64 (k : Int), tokV x] wr fun e w' => e = .returned (.tuple #[]) ∧ ∃ v', Stk w' w.heap.size w.heap.size v' (turn x k R) ∧ Below w.heap.size wr w') := by
        refine (fpass_calls w.heap.size w.heap.size v R k x wr hS hB.size (by omega)).mono ?_
        rintro e w' ⟨e1, v', e2, e3, _⟩
        exact ⟨e1, v', e2, e3.below (Nat.le_refl _) (fun j hj => (own_base hS.2.1 j hj).1) hB.size⟩
      have HL := turn_length_le x k R
      have hst := end_step hSi hik (by omega) hx HK1.out hSe
      clear hc hl hSi hSe hS hx
      generalize turn x k R = R' at *
      obtain ⟨xk, xt, xn, xm⟩ := x
      simp only [tokV] at *
      rcases hst with ⟨rfl, hP⟩ | ⟨h1, h2, h3⟩
      · have HE : Hid (P = k) := hP
        clear hP
        go_wp2_with fail
        refine HP.out.mono ?_
        rintro e W2 ⟨rfl, v', hS2, hB4⟩
        have hB5 := hB.trans hB4
        obtain ⟨-, s33, -⟩ := hS2.cells
        simp only [List.length_nil] at s33
        clear hS2
        go_wp2
        go_ret
        exact ⟨by rw [HE.out]; rfl, hB5⟩
      · have HE1 : Hid (Since l i (k + 1) R') := h2
        have HE2 : Hid (Seeks l i (k + 1) P) := h3
        have ne : ((R'.length : Int) == 0) = false := by simpa using h1
        clear h1 h2 h3
        go_wp2_with fail
        refine HP.out.mono ?_
        rintro e W2 ⟨rfl, v', hS2, hB4⟩
        have hB5 := hB.trans hB4
        obtain ⟨-, s33, -⟩ := hS2.cells
        have HS2 : Hid (Stk W2 w.heap.size w.heap.size v' R') := hS2
        clear hS2
        go_wp2
        go_roundw
        case rel => exact ⟨k + 1, v', R', by omega, by omega, rfl, by omega, HS2.out, HE1.out, HE2.out, hB5⟩
        case measure => simp [intOf]; omega
    · obtain rfl : k = len := by omega
      have HE : Hid (P = -1) := end_none (l := l) (i := i) (by omega) (by rw [hL]; exact hSe)
      clear hSi hSe hS hl
      go_wp2
      go_ret
      exact ⟨by rw [HE.out]; rfl, hB⟩

set_option maxRecDepth 100000 in
set_option maxHeartbeats 2000000 in
theorem fpartner_calls (a : Option Addr) (len cap : Nat) (l : List Tok) (i : Int) (w : World) (hl : Toks w a len l) (hsz : len ≤ 4398046511104) (hlie : Lies a len cap) :
    Calls Tryz.prog 33 #[.slice a len cap, .int .i64 i] w fun e w' => e = .returned (.int .i64 (partner l i)) ∧ Below w.heap.size w w' := by
  have hp : partner l i = if i < 0 ∨ (len : Int) ≤ i then -1 else if kindAt l i.toNat = 2 then around l i else if kindAt l i.toNat = 1 then seek l i (i.toNat + 1) (len - (i.toNat + 1)) else -1 := by unfold partner; rw [hl.1]
  by_cases h0 : i < 0
  · rw [hp, if_pos (.inl h0)]
    go_enter Tryz.func33, Tryz.ntmps33
    go_wp2
    go_ret
    exact ⟨rfl, Below.refl _ _⟩
  have e0 : decide (i < 0) = false := by simpa using h0
  by_cases h1 : (len : Int) ≤ i
  · rw [hp, if_pos (.inr h1)]
    go_enter Tryz.func33, Tryz.ntmps33
    go_wp2
    go_ret
    exact ⟨rfl, Below.refl _ _⟩
  obtain ⟨n, rfl⟩ := Int.eq_ofNat_of_zero_le (show 0 ≤ i by omega)
  have hn : n < len := by omega
  have hE := fun h1 W (hW : Below w.heap.size w W) => fend_calls a len cap l n W (hl.below hW) hsz hn h1
  have hA := fun W (hW : Below w.heap.size w W) => faround_calls a len cap l (n : Int) W (hl.below hW) hsz hlie
  obtain ⟨b, o, rfl, hbl, hc⟩ := hl.kindAt hn
  have hc0 := hc w (Below.refl _ _)
  rw [if_neg (by omega), Int.toNat_natCast] at hp
  have e1 : decide ((len : Int) ≤ (n : Int)) = false := by simp; omega
  by_cases k2 : kindAt l n = 2
  · rw [if_pos k2] at hp
    rw [k2] at hc0
    rw [hp]
    clear hE
    generalize around l (n : Int) = y at *
    go_enter Tryz.func33, Tryz.ntmps33
    go_wp2_with fail
    refine (hA _ (Below.refl _ _)).mono ?_
    rintro e W1 ⟨rfl, hB⟩
    go_wp2
    go_ret
    exact ⟨rfl, hB⟩
  by_cases k1 : kindAt l n = 1
  · rw [k1] at hc0
    have hE' := hE k1
    clear hE hp hA
    generalize partner l (n : Int) = y at *
    go_enter Tryz.func33, Tryz.ntmps33
    go_wp2_with fail
    refine (hE' _ (Below.refl _ _)).mono ?_
    rintro e W1 ⟨rfl, hB⟩
    go_wp2
    go_ret
    exact ⟨rfl, hB⟩
  · rw [if_neg k2, if_neg k1] at hp
    rw [hp]
    clear hE hA
    generalize kindAt l n = z at *
    have e1 : (z == 1) = false := by simpa using k1
    have e2 : (z == 2) = false := by simpa using k2
    go_enter Tryz.func33, Tryz.ntmps33
    go_wp2
    go_ret
    exact ⟨rfl, Below.refl _ _⟩
end Go.Proofs.YtofkiaeocfpkeaaGreatDoor
