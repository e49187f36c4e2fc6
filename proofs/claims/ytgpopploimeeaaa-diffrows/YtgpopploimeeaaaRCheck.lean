/-
  PROVED HERE: the document's own Check at every slice of tokens: what it returns; nothing that lay before is turned.
-/
import Derived.Test.YtgpopploimeeaaaRTok
namespace Go.Proofs.Ytgpopploimeeaaa
open Go.RowKit

set_option maxRecDepth 100000 in
set_option maxHeartbeats 1000000 in
theorem check_calls (a : Option Addr) (len cap : Nat) (l : List Tok) (w : World) (hl : Toks w a len l) (hsz : len ≤ 35184372088832) :
    Calls Try.prog 52 #[.slice a len cap] w fun e w' => e = .returned (.tuple #[.int .i64 (check l).1, .int .i64 (check l).2]) ∧ Below w.heap.size w w' := by
  by_cases hlong : 2048 < len
  · rw [show check l = (0, 2) from by unfold check; rw [if_pos (by rw [hl.1]; exact hlong)]]
    go_enter Try.func52, Try.ntmps52
    go_wp2
    go_ret2
    exact ⟨rfl, Below.refl _ _⟩
  · have HC : Hid (check l = checkL l 0 0) := by show check l = _; unfold check; rw [if_neg (by rw [hl.1]; exact hlong)]
    go_enter Try.func52, Try.ntmps52
    go_wp2
    go_loopw [4, 5] (fun u i w' => ∃ (k : Nat) (d : Int), k ≤ len ∧ i = .int .i64 (k : Int) ∧ u = .int .i64 d ∧ 0 ≤ d ∧ d ≤ 32 ∧ checkL (l.drop k) k d = check l ∧ Below w.heap.size w w') (fun _ i _ => len - (intOf i).toNat)
    case atStart => exact ⟨0, 0, Nat.zero_le _, rfl, rfl, by omega, by omega, HC.out.symm, Below.refl _ _⟩
    case round =>
      obtain ⟨k, d, hk, rfl, rfl, d0, d1, hch, hB⟩ := hrel
      have hl' := hl.below hB
      by_cases hlt : k < len
      · obtain ⟨x, hx, hdr⟩ := drop_getD (l := l) (k := k) (by rw [hl.1]; exact hlt)
        obtain ⟨b, o, rfl, hbl, hcl⟩ := (show ∃ b o, a = some ⟨b, o, none⟩ ∧ b < wr.heap.size ∧ ∀ i x, l[i]? = some x → wr.cell? ⟨b, o + i * 4, none⟩ = some (.int .i64 x.k) ∧ wr.cell? ⟨b, o + i * 4 + 1, none⟩ = some (.int .i64 x.t) ∧
          wr.cell? ⟨b, o + i * 4 + 2, none⟩ = some (.int .i64 x.n) ∧ wr.cell? ⟨b, o + i * 4 + 3, none⟩ = some (.int .i64 x.m) from by
            rcases hl'.2 with h | h
            · omega
            · exact h)
        obtain ⟨c0, c1, c2, c3⟩ := hcl k x hx
        have hr := fun W => rightT_calls x W
        have hl0 := hl.1
        clear hcl hl' hl
        rw [hdr] at hch
        clear hdr
        rw [checkL] at hch
        obtain ⟨xk, xt, xn, xm⟩ := x
        generalize rightT ⟨xk, xt, xn, xm⟩ = p at *
        simp only [tokV] at *
        cases p
        · have HD : Hid (check l = ((k : Int), 4)) := by show check l = _; rw [← hch]; simp
          clear hch
          go_wp2_with fail
          refine (hr _).mono ?_
          rintro e W1 ⟨rfl, hB1⟩
          have c4 : W1.cell? ⟨b, o + k * 4, none⟩ = some (.int .i64 xk) := (hB1.cell (p := ⟨b, _, none⟩) hbl).trans c0
          have hB2 : Below w.heap.size w W1 := hB.trans (hB1.mono hB.size)
          go_wp2
          go_ret2
          exact ⟨by rw [HD.out]; rfl, hB2⟩
        · simp only [Bool.not_true, Bool.false_or] at hch
          by_cases k1 : xk = 1
          · subst k1
            simp only [show ((1 : Int) == 2) = false from rfl, Bool.false_and, Bool.false_eq_true, if_false, if_true] at hch
            by_cases hd : d = 32
            · subst hd
              have HD : Hid (check l = ((k : Int), 8)) := by show check l = _; rw [← hch]; simp
              clear hch
              go_wp2_with fail
              refine (hr _).mono ?_
              rintro e W1 ⟨rfl, hB1⟩
              have c4 : W1.cell? ⟨b, o + k * 4, none⟩ = some (.int .i64 1) := (hB1.cell (p := ⟨b, _, none⟩) hbl).trans c0
              have hB2 : Below w.heap.size w W1 := hB.trans (hB1.mono hB.size)
              go_wp2
              go_ret2
              exact ⟨by rw [HD.out]; rfl, hB2⟩
            · have HD : Hid (check l = checkL (l.drop (k + 1)) (k + 1) (d + 1)) := by show check l = _; rw [← hch, if_neg (by omega)]
              clear hch
              go_wp2_with fail
              refine (hr _).mono ?_
              rintro e W1 ⟨rfl, hB1⟩
              have c4 : W1.cell? ⟨b, o + k * 4, none⟩ = some (.int .i64 1) := (hB1.cell (p := ⟨b, _, none⟩) hbl).trans c0
              have hB2 : Below w.heap.size w W1 := hB.trans (hB1.mono hB.size)
              go_wp2
              go_roundw
              case rel => exact ⟨k + 1, d + 1, by omega, rfl, rfl, by omega, by omega, HD.out.symm, hB2⟩
              case measure => simp [intOf]; omega
          · by_cases k2 : xk = 2
            · subst k2
              simp only [show ((2 : Int) == 2) = true from rfl, Bool.true_and, show ¬ ((2 : Int) = 1) from by decide, if_false, if_true] at hch
              by_cases hd : d = 0
              · subst hd
                have HD : Hid (check l = ((k : Int), 4)) := by show check l = _; rw [← hch]; simp
                clear hch
                go_wp2_with fail
                refine (hr _).mono ?_
                rintro e W1 ⟨rfl, hB1⟩
                have c4 : W1.cell? ⟨b, o + k * 4, none⟩ = some (.int .i64 2) := (hB1.cell (p := ⟨b, _, none⟩) hbl).trans c0
                have hB2 : Below w.heap.size w W1 := hB.trans (hB1.mono hB.size)
                go_wp2
                go_ret2
                exact ⟨by rw [HD.out]; rfl, hB2⟩
              · have HD : Hid (check l = checkL (l.drop (k + 1)) (k + 1) (d - 1)) := by show check l = _; rw [← hch, if_neg (by simpa using hd), if_neg (by omega)]
                have ed : (d == 0) = false := by simpa using hd
                clear hch
                go_wp2_with fail
                refine (hr _).mono ?_
                rintro e W1 ⟨rfl, hB1⟩
                have c4 : W1.cell? ⟨b, o + k * 4, none⟩ = some (.int .i64 2) := (hB1.cell (p := ⟨b, _, none⟩) hbl).trans c0
                have hB2 : Below w.heap.size w W1 := hB.trans (hB1.mono hB.size)
                go_wp2
                go_roundw
                case rel => exact ⟨k + 1, d - 1, by omega, rfl, rfl, by omega, by omega, HD.out.symm, hB2⟩
                case measure => simp [intOf]; omega
            · have e1 : (xk == 1) = false := by simpa using k1
              have e2 : (xk == 2) = false := by simpa using k2
              simp only [e2, Bool.false_and, Bool.false_eq_true, if_false, k1, k2] at hch
              have HD : Hid (check l = checkL (l.drop (k + 1)) (k + 1) d) := by show check l = _; rw [← hch, if_neg (by omega)]
              clear hch
              go_wp2_with fail
              refine (hr _).mono ?_
              rintro e W1 ⟨rfl, hB1⟩
              have c4 : W1.cell? ⟨b, o + k * 4, none⟩ = some (.int .i64 xk) := (hB1.cell (p := ⟨b, _, none⟩) hbl).trans c0
              have hB2 : Below w.heap.size w W1 := hB.trans (hB1.mono hB.size)
              go_wp2
              go_roundw
              case rel => exact ⟨k + 1, d, by omega, rfl, rfl, by omega, by omega, HD.out.symm, hB2⟩
              case measure => simp [intOf]; omega
      · obtain rfl : k = len := by omega
        rw [show l.drop k = [] from List.drop_eq_nil_of_le (by rw [hl.1]; exact Nat.le_refl _), checkL] at hch
        by_cases hd : 0 < d
        · have HD : Hid (check l = ((k : Int), 3)) := by show check l = _; rw [← hch, if_pos hd]
          clear hch
          go_wp2
          go_ret2
          exact ⟨by rw [HD.out]; rfl, hB⟩
        · have HD : Hid (check l = ((k : Int), 0)) := by show check l = _; rw [← hch, if_neg hd]
          clear hch
          go_wp2
          go_ret2
          exact ⟨by rw [HD.out]; rfl, hB⟩
end Go.Proofs.Ytgpopploimeeaaa
