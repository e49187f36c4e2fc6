/-
  PROVED HERE: the body of DiffPairs: it answers true at every two slices of tokens.
-/
import Derived.Test.YtgpopploimeeaaaPEdits2
import Derived.Test.YtgpopploimeeaaaLOwns
import Derived.Test.YtgpopploimeeaaaDAwk
namespace Go.Proofs.Ytgpopploimeeaaa
open Go.RowKit

theorem editsP_length : ∀ (l : List (Nat × Nat)) (i j : Nat), (editsP l i j).length ≤ l.length
  | [], _, _ => Nat.le_refl _
  | x :: r, i, j => by
    have := editsP_length r (x.1 + 1) (x.2 + 1)
    unfold editsP
    split <;> simp only [List.length_cons] <;> omega

set_option maxRecDepth 100000 in
set_option maxHeartbeats 8000000 in
theorem dpairs_walk (a1 a2 : Option Addr) (n m c1 c2 : Nat) (l1 l2 : List Tok) (w : World) (h1 : Toks w a1 n l1) (h2 : Toks w a2 m l2) (hn : n ≤ 4398046511104) (hm : m ≤ 4398046511104) :
    Calls Try.prog 3 #[.slice a1 n c1, .slice a2 m c2] w fun e w' => e = .returned (.bool true) ∧ Below w.heap.size w w' := by
  have hn45 : n ≤ 35184372088832 := by omega
  have hm45 : m ≤ 35184372088832 := by omega
  have H1 := hide_ h1
  have H2 := hide_ h2
  clear h1 h2
  have HA : ∀ W : World, Below w.heap.size w W → Calls Try.prog 7 #[] W fun e w' => e = .returned (.bool true) ∧ Below w.heap.size w w' := fun W hW => (awake_calls W).mono fun e w' h => ⟨h.1, hW.trans (h.2.mono hW.size)⟩
  have HE1 : ∀ W : World, Below w.heap.size w W → Calls Try.prog 8 #[.slice a1 n c1, .slice a2 m c2] W fun e w' => e = .returned (.tuple #[.int .i64 (headP l1 l2 : Int), .int .i64 (tailP l1 l2 : Int)]) ∧ Below W.heap.size W w' := fun W hW => pends_calls a1 a2 n m c1 c2 l1 l2 W (H1.out.below hW) (H2.out.below hW) hn45 hm45
  have HE2 : ∀ W : World, Below w.heap.size w W → Calls Try.prog 9 #[.slice a1 n c1, .slice a2 m c2] W fun e w' => e = .returned (.tuple #[.int .i64 (headP l1 l2 : Int), .int .i64 (tailP l1 l2 : Int)]) ∧ Below W.heap.size W w' := fun W hW => ends_calls a1 a2 n m c1 c2 l1 l2 W (H1.out.below hW) (H2.out.below hW) hn45 hm45
  generalize headP l1 l2 = hd at HE1 HE2
  generalize tailP l1 l2 = tl at HE1 HE2
  by_cases x1 : 60 < n
  · have y1 : (60 : Int) < (n : Int) := by omega
    by_cases x2 : n ≤ 400
    · have y2 : (n : Int) ≤ 400 := by omega
      by_cases x3 : m ≤ 400
      · have y3 : (m : Int) ≤ 400 := by omega
        go_enter Try.func3, Try.ntmps3
        go_wp2_with fail
        refine (HA _ (Below.refl _ w)).mono ?_
        rintro e W1 ⟨rfl, hB⟩
        have HB := hide_ hB
        clear hB
        go_wp2
        go_ret
        exact ⟨rfl, HB.out⟩
      · have y3 : ¬ ((m : Int) ≤ 400) := by omega
        have hlong : 400 < n ∨ 400 < m := by omega
        go_enter Try.func3, Try.ntmps3
        go_wp2_with fail
        refine (HE1 _ (Below.refl _ w)).mono ?_
        rintro e W1 ⟨rfl, b1⟩
        have B1 := hide_ b1
        clear b1
        go_wp2_with fail
        refine (HE2 _ B1.out).mono ?_
        rintro e W2 ⟨rfl, b2⟩
        have B2 := hide_ (B1.out.trans (b2.mono B1.out.size))
        clear b2 B1
        go_wp2_with fail
        refine (ppairs_long a1 a2 n m c1 c2 hlong hn45 hm45 W2).mono ?_
        rintro e X1 ⟨rfl, rfl⟩
        go_wp2_with fail
        refine (pairs2_long a1 a2 n m c1 c2 hlong hn45 hm45 X1).mono ?_
        rintro e X2 ⟨rfl, rfl⟩
        go_wp2_with fail
        refine (pedits_long a1 a2 n m c1 c2 hlong hn45 hm45 X2).mono ?_
        rintro e X3 ⟨rfl, rfl⟩
        go_wp2_with fail
        refine (edits_long a1 a2 n m c1 c2 hlong hn45 hm45 X3).mono ?_
        rintro e X4 ⟨rfl, rfl⟩
        go_wp2_with fail
        refine (lpairs_calls none none 0 0 0 0 [] [] _ ⟨rfl, .inl rfl⟩ ⟨rfl, .inl rfl⟩ (by omega) (by omega)).mono ?_
        rintro e W3 ⟨rfl, b3⟩
        have B3 := hide_ (B2.out.trans (b3.mono B2.out.size))
        clear b3 B2
        go_wp2_with fail
        refine (lranges_calls none none 0 0 0 0 [] [] _ ⟨rfl, .inl rfl⟩ ⟨rfl, .inl rfl⟩ (by omega) (by omega)).mono ?_
        rintro e W4 ⟨rfl, b4⟩
        have B4 := hide_ (B3.out.trans (b4.mono B3.out.size))
        clear b4 B3
        go_wp2_with fail
        refine (HA _ B4.out).mono ?_
        rintro e W5 ⟨rfl, b5⟩
        have B5 := hide_ b5
        clear b5
        go_wp2
        go_ret
        exact ⟨rfl, B5.out⟩
    · have y2 : ¬ ((n : Int) ≤ 400) := by omega
      have hlong : 400 < n ∨ 400 < m := by omega
      go_enter Try.func3, Try.ntmps3
      go_wp2_with fail
      refine (HE1 _ (Below.refl _ w)).mono ?_
      rintro e W1 ⟨rfl, b1⟩
      have B1 := hide_ b1
      clear b1
      go_wp2_with fail
      refine (HE2 _ B1.out).mono ?_
      rintro e W2 ⟨rfl, b2⟩
      have B2 := hide_ (B1.out.trans (b2.mono B1.out.size))
      clear b2 B1
      go_wp2_with fail
      refine (ppairs_long a1 a2 n m c1 c2 hlong hn45 hm45 W2).mono ?_
      rintro e X1 ⟨rfl, rfl⟩
      go_wp2_with fail
      refine (pairs2_long a1 a2 n m c1 c2 hlong hn45 hm45 X1).mono ?_
      rintro e X2 ⟨rfl, rfl⟩
      go_wp2_with fail
      refine (pedits_long a1 a2 n m c1 c2 hlong hn45 hm45 X2).mono ?_
      rintro e X3 ⟨rfl, rfl⟩
      go_wp2_with fail
      refine (edits_long a1 a2 n m c1 c2 hlong hn45 hm45 X3).mono ?_
      rintro e X4 ⟨rfl, rfl⟩
      go_wp2_with fail
      refine (lpairs_calls none none 0 0 0 0 [] [] _ ⟨rfl, .inl rfl⟩ ⟨rfl, .inl rfl⟩ (by omega) (by omega)).mono ?_
      rintro e W3 ⟨rfl, b3⟩
      have B3 := hide_ (B2.out.trans (b3.mono B2.out.size))
      clear b3 B2
      go_wp2_with fail
      refine (lranges_calls none none 0 0 0 0 [] [] _ ⟨rfl, .inl rfl⟩ ⟨rfl, .inl rfl⟩ (by omega) (by omega)).mono ?_
      rintro e W4 ⟨rfl, b4⟩
      have B4 := hide_ (B3.out.trans (b4.mono B3.out.size))
      clear b4 B3
      go_wp2_with fail
      refine (HA _ B4.out).mono ?_
      rintro e W5 ⟨rfl, b5⟩
      have B5 := hide_ b5
      clear b5
      go_wp2
      go_ret
      exact ⟨rfl, B5.out⟩
  · have y1 : ¬ ((60 : Int) < (n : Int)) := by omega
    have y2 : (n : Int) ≤ 400 := by omega
    by_cases x3 : 60 < m
    · have y3 : (60 : Int) < (m : Int) := by omega
      by_cases x4 : m ≤ 400
      · have y4 : (m : Int) ≤ 400 := by omega
        go_enter Try.func3, Try.ntmps3
        go_wp2_with fail
        refine (HA _ (Below.refl _ w)).mono ?_
        rintro e W1 ⟨rfl, hB⟩
        have HB := hide_ hB
        clear hB
        go_wp2
        go_ret
        exact ⟨rfl, HB.out⟩
      · have y4 : ¬ ((m : Int) ≤ 400) := by omega
        have hlong : 400 < n ∨ 400 < m := by omega
        go_enter Try.func3, Try.ntmps3
        go_wp2_with fail
        refine (HE1 _ (Below.refl _ w)).mono ?_
        rintro e W1 ⟨rfl, b1⟩
        have B1 := hide_ b1
        clear b1
        go_wp2_with fail
        refine (HE2 _ B1.out).mono ?_
        rintro e W2 ⟨rfl, b2⟩
        have B2 := hide_ (B1.out.trans (b2.mono B1.out.size))
        clear b2 B1
        go_wp2_with fail
        refine (ppairs_long a1 a2 n m c1 c2 hlong hn45 hm45 W2).mono ?_
        rintro e X1 ⟨rfl, rfl⟩
        go_wp2_with fail
        refine (pairs2_long a1 a2 n m c1 c2 hlong hn45 hm45 X1).mono ?_
        rintro e X2 ⟨rfl, rfl⟩
        go_wp2_with fail
        refine (pedits_long a1 a2 n m c1 c2 hlong hn45 hm45 X2).mono ?_
        rintro e X3 ⟨rfl, rfl⟩
        go_wp2_with fail
        refine (edits_long a1 a2 n m c1 c2 hlong hn45 hm45 X3).mono ?_
        rintro e X4 ⟨rfl, rfl⟩
        go_wp2_with fail
        refine (lpairs_calls none none 0 0 0 0 [] [] _ ⟨rfl, .inl rfl⟩ ⟨rfl, .inl rfl⟩ (by omega) (by omega)).mono ?_
        rintro e W3 ⟨rfl, b3⟩
        have B3 := hide_ (B2.out.trans (b3.mono B2.out.size))
        clear b3 B2
        go_wp2_with fail
        refine (lranges_calls none none 0 0 0 0 [] [] _ ⟨rfl, .inl rfl⟩ ⟨rfl, .inl rfl⟩ (by omega) (by omega)).mono ?_
        rintro e W4 ⟨rfl, b4⟩
        have B4 := hide_ (B3.out.trans (b4.mono B3.out.size))
        clear b4 B3
        go_wp2_with fail
        refine (HA _ B4.out).mono ?_
        rintro e W5 ⟨rfl, b5⟩
        have B5 := hide_ b5
        clear b5
        go_wp2
        go_ret
        exact ⟨rfl, B5.out⟩
    · have y3 : ¬ ((60 : Int) < (m : Int)) := by omega
      have hn4 : n ≤ 400 := by omega
      have hm4 : m ≤ 400 := by omega
      go_enter Try.func3, Try.ntmps3
      go_wp2_with fail
      refine (HE1 _ (Below.refl _ w)).mono ?_
      rintro e W1 ⟨rfl, b1⟩
      have B1 := hide_ b1
      clear b1
      go_wp2_with fail
      refine (HE2 _ B1.out).mono ?_
      rintro e W2 ⟨rfl, b2⟩
      have B2 := hide_ (B1.out.trans (b2.mono B1.out.size))
      clear b2 B1
      go_wp2_with fail
      refine (ppairs_calls a1 a2 n m c1 c2 l1 l2 hn4 hm4 W2 (H1.out.below B2.out) (H2.out.below B2.out)).mono ?_
      rintro e W3 ⟨l, v, rfl, i3, k3, o3, b3⟩
      obtain ⟨ax, cx, rfl, px⟩ := Prs_of_owns o3
      have B3 := hide_ (B2.out.trans (b3.mono B2.out.size))
      have IP := hide_ i3
      have PX := hide_ px
      clear b3 B2 o3 px i3
      go_wp2_with fail
      refine (pairs2_calls a1 a2 n m c1 c2 l1 l2 hn4 hm4 W3 (H1.out.below B3.out) (H2.out.below B3.out)).mono ?_
      rintro e W4 ⟨l', v, rfl, i4, k4, o4, b4⟩
      obtain rfl : l = l' := IP.out.same i4
      obtain ⟨ay, cy, rfl, py⟩ := Prs_of_owns o4
      have B4 := hide_ (B3.out.trans (b4.mono B3.out.size))
      have PX4 := hide_ (PX.out.below b4)
      have PY := hide_ py
      clear b4 B3 o4 py PX i4 k4
      go_wp2_with fail
      refine (pedits_calls a1 a2 n m c1 c2 l1 l2 hn4 hm4 W4 (H1.out.below B4.out) (H2.out.below B4.out)).mono ?_
      rintro e W5 ⟨l', v, rfl, i5, k5, o5, b5⟩
      obtain rfl : l = l' := IP.out.same i5
      obtain ⟨au, cu, rfl, pu⟩ := Rgs_of_owns o5
      have B5 := hide_ (B4.out.trans (b5.mono B4.out.size))
      have PX5 := hide_ (PX4.out.below b5)
      have PY5 := hide_ (PY.out.below b5)
      have PU := hide_ pu
      clear b5 B4 o5 pu PX4 PY i5 k5
      go_wp2_with fail
      refine (edits_calls a1 a2 n m c1 c2 l1 l2 hn4 hm4 W5 (H1.out.below B5.out) (H2.out.below B5.out)).mono ?_
      rintro e W6 ⟨l', v, rfl, i6, k6, o6, b6⟩
      obtain rfl : l = l' := IP.out.same i6
      obtain ⟨av, cv, rfl, pv⟩ := Rgs_of_owns o6
      have B6 := hide_ (B5.out.trans (b6.mono B5.out.size))
      have PX6 := hide_ (PX5.out.below b6)
      have PY6 := hide_ (PY5.out.below b6)
      have PU6 := hide_ (PU.out.below b6)
      have PV := hide_ pv
      clear b6 B5 o6 pv PX5 PY5 PU i6 k6
      have hlE : (editsP (l ++ [(n, m)]) 0 0).length ≤ 35184372088832 := by
        have := editsP_length (l ++ [(n, m)]) 0 0
        rw [List.length_append, List.length_singleton] at this
        omega
      generalize editsP (l ++ [(n, m)]) 0 0 = E at *
      go_wp2_with fail
      refine (lpairs_calls ax ay l.length l.length cx cy l l W6 PX6.out PY6.out (by omega) (by omega)).mono ?_
      rw [decide_eq_true (rfl : l = l)]
      rintro e W7 ⟨rfl, b7⟩
      have B7 := hide_ (B6.out.trans (b7.mono B6.out.size))
      have PU7 := hide_ (PU6.out.below b7)
      have PV7 := hide_ (PV.out.below b7)
      clear b7 B6 PU6 PV PX6 PY6
      go_wp2_with fail
      refine (lranges_calls au av E.length E.length cu cv E E W7 PU7.out PV7.out hlE hlE).mono ?_
      rw [decide_eq_true (rfl : E = E)]
      rintro e W8 ⟨rfl, b8⟩
      have B8 := hide_ (B7.out.trans (b8.mono B7.out.size))
      clear b8 B7
      go_wp2_with fail
      refine (HA _ B8.out).mono ?_
      rintro e W9 ⟨rfl, b9⟩
      have B9 := hide_ b9
      clear b9
      go_wp2
      go_ret
      exact ⟨rfl, B9.out⟩
end Go.Proofs.Ytgpopploimeeaaa
