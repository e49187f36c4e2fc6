/-
  PROVED HERE: the body of FitClosed: it answers true at every slice of tokens.
-/
import Derived.Test.YtpcgedcklmdmkaaFText
import Derived.Test.YtpcgedcklmdmkaaRSame
import Derived.Test.YtpcgedcklmdmkaaAwk
import Derived.Test.YtpcgedcklmdmkaaSliW
namespace Go.Proofs.Ytpcgedcklmdmkaa
open Go.RowKit

theorem all_take {l : List Tok} {k : Nat} {x : Tok} (h : l[k]? = some x) : (l.take (k + 1)).all rightT = ((l.take k).all rightT && rightT x) := by
  have hk : k < l.length := (List.getElem?_eq_some_iff.1 h).1
  rw [List.take_succ_eq_append_getElem hk, List.all_append, (List.getElem?_eq_some_iff.1 h).2]
  simp

set_option maxRecDepth 100000 in
set_option maxHeartbeats 2000000 in
theorem closed_walk (a : Option Addr) (len cap : Nat) (l : List Tok) (w : World) (hl : Toks w a len l) (hsz : len ≤ 1048576) :
    Calls Try.prog 4 #[.slice a len cap] w fun e w' => e = .returned (.bool true) ∧ Below w.heap.size w w' := by
  have hL := hl.1
  have hN : (closed l).length ≤ 2097152 := by
    have := closA_length l 0
    unfold closed
    omega
  have H1 := fclosed_calls a len cap l w hl (by omega)
  have G2 : Hid (∀ W a1 c1, Toks W a1 (closed l).length (closed l) → Calls Try.prog 12 #[.slice a1 (closed l).length c1] W fun e w' => e = .returned (.tuple #[.int .i64 (check (closed l)).1, .int .i64 (check (closed l)).2]) ∧ Below W.heap.size W w') :=
    fun W a1 c1 h => fcheck_calls a1 _ c1 _ W h (by omega)
  have G3 : Hid (∀ W, Below w.heap.size w W → Calls Try.prog 12 #[.slice a len cap] W fun e w' => e = .returned (.tuple #[.int .i64 (check l).1, .int .i64 (check l).2]) ∧ Below W.heap.size W w') :=
    fun W h => fcheck_calls a _ cap _ W (hl.below h) (by omega)
  have G4 : Hid (∀ W a1 c1, Toks W a1 (closed l).length (closed l) → Calls Try.prog 14 #[.slice a1 (closed l).length c1] W fun e w' => e = .returned (.string (strOfNums (text l))) ∧ Below W.heap.size W w') :=
    fun W a1 c1 h => by
      have := ftext_calls a1 _ c1 _ W h (by omega)
      rw [text_closed] at this
      exact this
  have G5 : Hid (∀ W, Below w.heap.size w W → Calls Try.prog 14 #[.slice a len cap] W fun e w' => e = .returned (.string (strOfNums (text l))) ∧ Below W.heap.size W w') :=
    fun W h => ftext_calls a _ cap _ W (hl.below h) (by omega)
  have G6 : Hid (∀ W a1 c1, Toks W a1 (closed l).length (closed l) → Calls Try.prog 7 #[.slice a1 (closed l).length c1] W fun e w' => ∃ a' cap', e = .returned (.slice a' (closed l).length cap') ∧ Toks w' a' (closed l).length (closed l) ∧ Below W.heap.size W w') :=
    fun W a1 c1 h => by
      have := fclosed_calls a1 _ c1 _ W h (by omega)
      rw [closed_twice] at this
      exact this
  have G7 : Hid ((check l).2 = 0 → ∀ W a1 c1, Toks W a1 (closed l).length (closed l) → Below w.heap.size w W → Calls Try.prog 6 #[.slice a1 (closed l).length c1, .slice a len cap] W fun e w' => e = .returned (.bool true) ∧ Below W.heap.size W w') :=
    fun e W a1 c1 h hB => by
      have := alike_calls a1 a _ len c1 cap _ l W h (hl.below hB) (by omega) (by omega)
      rw [(eqL_iff _ _).2 (closed_same l e)] at this
      exact this
  have hE : l.all rightT = true → (check (closed l)).2 = 0 ∨ (check (closed l)).2 = 8 ∨ (check (closed l)).2 = 2 := fun h => check_closed l (fun x hx => List.all_eq_true.1 h x hx)
  have HE : Hid _ := hE
  clear hE
  generalize hx2 : (check (closed l)).2 = x2 at *
  generalize (check (closed l)).1 = x1 at *
  generalize hy2 : (check l).2 = y2 at *
  generalize (check l).1 = y1 at *
  generalize strOfNums (text l) = S at *
  generalize (closed l).length = N at *
  generalize closed l = C at *
  clear hx2 hy2
  go_enter Try.func4, Try.ntmps4
  go_wp2_with fail
  refine H1.mono ?_
  rintro e W1 ⟨a1, c1, rfl, t1, b1⟩
  have T1 : Hid (Toks W1 a1 N C) := t1
  clear t1 H1
  go_wp2_with fail
  refine (G2.out _ a1 c1 T1.out).mono ?_
  rintro e W2 ⟨rfl, b2⟩
  have d2 := b1.trans (b2.mono b1.size)
  have T2 : Hid (Toks W2 a1 N C) := T1.out.below b2
  clear T1 b2
  go_wp2_with fail
  refine (G3.out _ d2).mono ?_
  rintro e W3 ⟨rfl, b3⟩
  have d3 := d2.trans (b3.mono d2.size)
  have T3 : Hid (Toks W3 a1 N C) := T2.out.below b3
  clear T2 b3 b1 d2 G2 G3
  go_wp2
  go_loopw [8, 9] (fun r i w' => ∃ (k : Nat) (rr : Bool), k ≤ len ∧ i = .int .i64 (k : Int) ∧ r = .bool rr ∧ rr = (l.take k).all rightT ∧ Below W3.heap.size W3 w') (fun _ i _ => len - (intOf i).toNat)
  case atStart => exact ⟨0, true, Nat.zero_le _, rfl, rfl, rfl, Below.refl _ _⟩
  case round =>
    obtain ⟨k, rr, hk, rfl, rfl, hr, hB⟩ := hrel
    by_cases hlt : k < len
    · clear G4 G5 G6 G7 HE T3
      obtain ⟨b, o, x, rfl, hbl, hx, hc⟩ := hl.token hlt
      obtain ⟨p0, p1, p2, p3⟩ := hc wr (d3.trans (hB.mono d3.size))
      have hst := all_take hx
      rw [← hr] at hst
      have hf := fun W => fright_calls x W
      clear hc hx hl hr
      obtain ⟨xk, xt, xn, xm⟩ := x
      simp only [tokV] at *
      generalize rightT ⟨xk, xt, xn, xm⟩ = p at *
      cases rr
      · have HS : Hid (false = (l.take (k + 1)).all rightT) := by show _ = _; rw [hst]; rfl
        clear hst hf
        go_wp2
        go_roundw
        case rel => exact ⟨k + 1, false, by omega, by go_num, rfl, HS.out, hB⟩
        case measure => simp [intOf]; omega
      · have HS : Hid (p = (l.take (k + 1)).all rightT) := by show _ = _; rw [hst]; rfl
        clear hst
        go_wp2_with fail
        refine (hf _).mono ?_
        rintro e W4 ⟨rfl, b4⟩
        have d4 := hB.trans (b4.mono hB.size)
        clear b4
        go_wp2
        go_roundw
        case rel => exact ⟨k + 1, p, by omega, by go_num, rfl, HS.out, d4⟩
        case measure => simp [intOf]; omega
    · obtain rfl : k = len := by omega
      rw [List.take_of_length_le (by omega)] at hr
      have hq : rr = false ∨ rr = true ∧ (x2 = 0 ∨ x2 = 8 ∨ x2 = 2) := by
        cases rr
        · exact .inl rfl
        · exact .inr ⟨rfl, HE.out hr.symm⟩
      have T4 : Hid (Toks wr a1 N C) := T3.out.below hB
      have d4 := d3.trans (hB.mono d3.size)
      clear HE T3 hr hl
      by_cases hy : y2 = 0
      · subst hy
        go_wp2_with fail
        refine (G7.out trivial _ a1 c1 T4.out d4).mono ?_
        rintro e W5 ⟨rfl, b5⟩
        have d5 := d4.trans (b5.mono d4.size)
        have T5 : Hid (Toks W5 a1 N C) := T4.out.below b5
        clear T4 b5
        go_wp2_with fail
        refine (G4.out _ a1 c1 T5.out).mono ?_
        rintro e W6 ⟨rfl, b6⟩
        have d6 := d5.trans (b6.mono d5.size)
        have T6 : Hid (Toks W6 a1 N C) := T5.out.below b6
        clear T5 b6
        go_wp2_with fail
        refine (G5.out _ d6).mono ?_
        rintro e W7 ⟨rfl, b7⟩
        have d7 := d6.trans (b7.mono d6.size)
        have T7 : Hid (Toks W7 a1 N C) := T6.out.below b7
        clear T6 b7
        go_wp2_with fail
        refine (G6.out _ a1 c1 T7.out).mono ?_
        rintro e W8 ⟨a8, c8, rfl, t8, b8⟩
        have d8 := d7.trans (b8.mono d7.size)
        have T8 : Hid (Toks W8 a1 N C) := T7.out.below b8
        have U8 : Hid (Toks W8 a8 N C) := t8
        clear T7 b8 t8
        go_wp2_with fail
        refine (alike_same a8 a1 N c8 c1 C _ U8.out T8.out (by omega)).mono ?_
        rintro e W9 ⟨rfl, b9⟩
        have d9 := d8.trans (b9.mono d8.size)
        clear T8 U8 b9 G4 G5 G6 G7
        rcases hq with rfl | ⟨rfl, rfl | rfl | rfl⟩
        all_goals
          go_wp2_with fail
          refine (awake_calls _).mono ?_
          rintro e W10 ⟨rfl, b10⟩
          go_wp2
          go_ret
          exact ⟨rfl, d9.trans (b10.mono d9.size)⟩
      · have ey : (y2 == 0) = false := by simpa using hy
        go_wp2_with fail
        refine (G4.out _ a1 c1 T4.out).mono ?_
        rintro e W5 ⟨rfl, b5⟩
        have d5 := d4.trans (b5.mono d4.size)
        have T5 : Hid (Toks W5 a1 N C) := T4.out.below b5
        clear T4 b5
        go_wp2_with fail
        refine (G5.out _ d5).mono ?_
        rintro e W6 ⟨rfl, b6⟩
        have d6 := d5.trans (b6.mono d5.size)
        have T6 : Hid (Toks W6 a1 N C) := T5.out.below b6
        clear T5 b6
        go_wp2_with fail
        refine (G6.out _ a1 c1 T6.out).mono ?_
        rintro e W7 ⟨a8, c8, rfl, t8, b7⟩
        have d7 := d6.trans (b7.mono d6.size)
        have T7 : Hid (Toks W7 a1 N C) := T6.out.below b7
        have U7 : Hid (Toks W7 a8 N C) := t8
        clear T6 b7 t8
        go_wp2_with fail
        refine (alike_same a8 a1 N c8 c1 C _ U7.out T7.out (by omega)).mono ?_
        rintro e W8 ⟨rfl, b8⟩
        have d8 := d7.trans (b8.mono d7.size)
        clear T7 U7 b8 G4 G5 G6 G7
        rcases hq with rfl | ⟨rfl, rfl | rfl | rfl⟩
        all_goals
          go_wp2_with fail
          refine (awake_calls _).mono ?_
          rintro e W9 ⟨rfl, b9⟩
          go_wp2
          go_ret
          exact ⟨rfl, d8.trans (b9.mono d8.size)⟩
end Go.Proofs.Ytpcgedcklmdmkaa
