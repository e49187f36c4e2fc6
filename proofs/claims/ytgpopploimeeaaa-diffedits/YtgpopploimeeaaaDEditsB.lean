/-
  PROVED HERE: the body of DiffEdits: it answers true at every two slices of tokens.
-/
import Derived.Test.YtgpopploimeeaaaDPairsW
import Derived.Test.YtgpopploimeeaaaDPartS
import Derived.Test.YtgpopploimeeaaaPEdits
import Derived.Test.YtgpopploimeeaaaLAlike
namespace Go.Proofs.Ytgpopploimeeaaa
open Go.RowKit
theorem toks_of_any {W : World} {base : Nat} {v : Value} {l : List Tok} (h : W.ownsRow base 62 4 v l.length (flat l)) : ∃ a cap, v = .slice a l.length cap ∧ Toks W a l.length l := by
  by_cases hv : v = .slice none 0 0
  · subst hv
    obtain ⟨hl, ⟨_, e⟩ | ⟨g, cap, cur, e, _⟩⟩ := h
    · have hz : l.length = 0 := by
        have := flat_length l
        rw [e] at this
        simp at this
        omega
      rw [hz]
      exact ⟨none, 0, rfl, hz, .inl rfl⟩
    · simp at e
  · obtain ⟨g, cap, rfl, _, _, _, h3⟩ := toks_of_owns h hv
    exact ⟨_, cap, rfl, h3⟩

set_option maxRecDepth 100000 in
set_option maxHeartbeats 8000000 in
theorem dedits_core (a1 a2 : Option Addr) (n m c1 c2 : Nat) (l1 l2 : List Tok) (w : World) (h1 : Toks w a1 n l1) (h2 : Toks w a2 m l2) (hc1 : n ≤ c1) (hc2 : m ≤ c2) (z1 : a1 = none → c1 = 0) (z2 : a2 = none → c2 = 0) (hn : n ≤ 60) (hm : m ≤ 60) :
    Calls Try.prog 4 #[.slice a1 n c1, .slice a2 m c2] w fun e w' => e = .returned (.bool true) ∧ Below w.heap.size w w' := by
  have y1 : ¬ ((60 : Int) < (n : Int)) := by omega
  have y2 : ¬ ((60 : Int) < (m : Int)) := by omega
  have hn4 : n ≤ 400 := by omega
  have hm4 : m ≤ 400 := by omega
  have hcI1 : (n : Int) ≤ (c1 : Int) := by omega
  have hcI2 : (m : Int) ≤ (c2 : Int) := by omega
  have H1 := hide_ h1
  have H2 := hide_ h2
  clear h1 h2
  have HA : ∀ W : World, Below w.heap.size w W → Calls Try.prog 7 #[] W fun e w' => e = .returned (.bool true) ∧ Below w.heap.size w w' := fun W hW => (awake_calls W).mono fun e w' h => ⟨h.1, hW.trans (h.2.mono hW.size)⟩
  go_enter Try.func4, Try.ntmps4
  go_wp2_with fail
  refine (pedits_calls a1 a2 n m c1 c2 l1 l2 hn4 hm4 w H1.out H2.out).mono ?_
  rintro e W1 ⟨l, v, rfl, i1, k1, o1, b1⟩
  obtain ⟨au, cu, rfl, pu⟩ := Rgs_of_owns o1
  have IP := hide_ i1
  have PU := hide_ pu
  have B1 := hide_ b1
  clear i1 o1 pu b1
  go_wp2_with fail
  refine (ppairs_calls a1 a2 n m c1 c2 l1 l2 hn4 hm4 W1 (H1.out.below B1.out) (H2.out.below B1.out)).mono ?_
  rintro e W2 ⟨l', v, rfl, i2, k2, o2, b2⟩
  obtain rfl : l = l' := IP.out.same i2
  obtain ⟨ap, cp, rfl, pp⟩ := Prs_of_owns o2
  have B2 := hide_ (B1.out.trans (b2.mono B1.out.size))
  have PU2 := hide_ (PU.out.below b2)
  have HF : Hid (foldE l1 l2 (editsP (l ++ [(n, m)]) 0 0) 0 0 = some (l2, l.length)) := by
    have h := i2
    rw [← H1.out.1, ← H2.out.1] at h
    have := foldE_all l1 l2 l h
    rw [H1.out.1, H2.out.1] at this
    exact this
  have hlE : (editsP (l ++ [(n, m)]) 0 0).length ≤ 61 := by
    have := editsP_length (l ++ [(n, m)]) 0 0
    rw [List.length_append, List.length_singleton] at this
    omega
  clear b2 o2 pp i2 k2 PU B1
  generalize editsP (l ++ [(n, m)]) 0 0 = E at *
  go_wp2
  go_loopg [9, 10, 11, 12, 13] (E.length + 1) (fun gk v u1 u2 u3 u4 WT => ∃ (xs : List Tok) (k f t kp : Nat), u1 = .int .i64 (f : Int) ∧ u2 = .int .i64 ((t : Int) - (f : Int)) ∧ u3 = .int .i64 (kp : Int) ∧ u4 = .int .i64 (k : Int) ∧ k ≤ E.length ∧ E.length < k + gk ∧ f ≤ n ∧ t ≤ m ∧ kp ≤ n ∧ Hid (∃ y, foldE l1 l2 (E.drop k) f t = some y ∧ xs ++ y.1 = l2 ∧ kp + y.2 = l.length) ∧
    Hid (WT.ownsRow W2.heap.size 62 4 v xs.length (flat xs) ∧ Below W2.heap.size W2 WT))
  case atStart => exact ⟨[], 0, 0, 0, 0, rfl, rfl, rfl, rfl, Nat.zero_le _, by omega, Nat.zero_le _, Nat.zero_le _, Nat.zero_le _, ⟨_, HF.out, rfl, Nat.zero_add _⟩, ⟨rfl, .inl ⟨rfl, rfl⟩⟩, Below.refl _ _⟩
  case round =>
    obtain ⟨xs, k, f, t, kp, rfl, rfl, rfl, rfl, hk, hgk, hf, ht, hkp, HY, HO⟩ := hrel
    clear HF
    have hk0 : (0 : Int) ≤ (k : Int) := by omega
    have hf0 : (0 : Int) ≤ (f : Int) := by omega
    have ht0 : (0 : Int) ≤ (t : Int) := by omega
    rcases Nat.lt_or_ge k E.length with hlt | hge
    · have hlti : (k : Int) < (E.length : Int) := by omega
      obtain ⟨bE, oE, x, rfl, hbE, hx, hcE⟩ := PU2.out.at hlt
      obtain ⟨q0, q1, q2⟩ := hcE wr HO.out.2
      have hd : E.drop k = x :: E.drop (k + 1) := by
        rw [List.drop_eq_getElem_cons hlt]
        rw [List.getElem?_eq_getElem hlt] at hx
        rw [Option.some.inj hx]
      obtain ⟨y, hy1, hy2, hy3⟩ := HY.out
      rw [hd, foldE] at hy1
      obtain ⟨p, o, q⟩ := x
      simp only at hy1 q0 q1 q2
      by_cases hcnd : f ≤ p ∧ p + o ≤ l1.length ∧ (p - f + t) + q ≤ l2.length ∧ 0 < o + q
      · rw [if_pos hcnd] at hy1
        obtain ⟨d1, d2, d3, d4⟩ := hcnd
        rw [H1.out.1] at d2
        rw [H2.out.1] at d3
        obtain ⟨y', hy4, hy5⟩ := Option.map_eq_some_iff.1 hy1
        obtain ⟨s, hs⟩ : ∃ s, p - f + t = s := ⟨_, rfl⟩
        rw [hs] at d3 hy4 hy5
        obtain ⟨s2, hs2⟩ : ∃ s2, s + q = s2 := ⟨_, rfl⟩
        rw [hs2] at d3 hy4
        have hsum : xs ++ ((l1.drop f).take (p - f)) ++ ((l2.drop s).take q) ++ y'.1 = l2 ∧ kp + (p - f) + y'.2 = l.length := by
          rw [← hy5] at hy2 hy3
          refine ⟨?_, ?_⟩
          · rw [List.append_assoc, List.append_assoc]
            exact hy2
          · rw [← hy3, Nat.add_assoc]
        have hxl : xs.length ≤ 60 := by
          have := congrArg List.length hy2
          rw [List.length_append, H2.out.1] at this
          omega
        have hkl : kp + (p - f) ≤ n := by omega
        have HSUM := hide_ hsum
        have e1 : ¬ ((p : Int) < (f : Int)) := by omega
        have e2 : ¬ ((n : Int) < (p : Int) + (o : Int)) := by omega
        have e5 : ((p : Int) + ((t : Int) - (f : Int))) = (s : Int) := by omega
        have e3 : ¬ ((s : Int) < 0) := by omega
        have e7 : (s : Int) + (q : Int) = (s2 : Int) := by omega
        have e4 : ¬ ((m : Int) < (s2 : Int)) := by omega
        have e6 : (((o : Int) + (q : Int)) == 0) = false := by rw [beq_eq_false_iff_ne]; omega
        have w1 : IntKind.i64.wrap ((p : Int) + (o : Int)) = (p : Int) + (o : Int) := by rw [IntKind.wrap_i64]; omega
        have w2 : IntKind.i64.wrap ((p : Int) + ((t : Int) - (f : Int))) = (s : Int) := by rw [IntKind.wrap_i64]; omega
        have w3 : IntKind.i64.wrap ((o : Int) + (q : Int)) = (o : Int) + (q : Int) := by rw [IntKind.wrap_i64]; omega
        have w4 : IntKind.i64.wrap ((s : Int) + (q : Int)) = (s2 : Int) := by rw [IntKind.wrap_i64]; omega
        have w5 : IntKind.i64.wrap ((kp : Int) + (p : Int)) = (kp : Int) + (p : Int) := by rw [IntKind.wrap_i64]; omega
        have w6 : IntKind.i64.wrap ((kp : Int) + (p : Int) - (f : Int)) = (kp : Int) + (p : Int) - (f : Int) := by rw [IntKind.wrap_i64]; omega
        have w7 : IntKind.i64.wrap ((t : Int) - (f : Int) + (q : Int)) = (t : Int) - (f : Int) + (q : Int) := by rw [IntKind.wrap_i64]; omega
        have w8 : IntKind.i64.wrap ((t : Int) - (f : Int) + (q : Int) - (o : Int)) = (t : Int) - (f : Int) + (q : Int) - (o : Int) := by rw [IntKind.wrap_i64]; omega
        have hfpN : f ≤ p := d1
        have hpcN : p ≤ c1 := by omega
        have hssN : s ≤ s2 := by omega
        have hscN : s2 ≤ c2 := by omega
        have hB0 : Below W2.heap.size W2 (wr.alloc (.cells #[.int .i64 (p : Int), .int .i64 (o : Int), .int .i64 (q : Int)] 41)) := HO.out.2.alloc HO.out.2.size _
        have hR : (wr.alloc (.cells #[.int .i64 (p : Int), .int .i64 (o : Int), .int .i64 (q : Int)] 41)).heap[wr.heap.size]? = some (.cells #[.int .i64 (p : Int), .int .i64 (o : Int), .int .i64 (q : Int)] 41 (0, 0)) := World.alloc_heap_new wr _
        have hown0 := HO.out.1.alloc (.cells #[.int .i64 (p : Int), .int .i64 (o : Int), .int .i64 (q : Int)] 41)
        have hV0 := World.size_alloc wr (.cells #[.int .i64 (p : Int), .int .i64 (o : Int), .int .i64 (q : Int)] 41)
        have hne0 := (fun e => by have := (World.ownsRow.lt HO.out.1 _ e).2; omega : u9.ownBlock ≠ some wr.heap.size)
        obtain ⟨v1, X1, r1, o1, g1, m1, s1⟩ := tok_append_any W2.heap.size u9 xs _ hown0 hB0.size (partA a1 c1 f) (p - f) (c1 - f) ((l1.drop f).take (p - f)) ((H1.out.below (B2.out.trans (hB0.mono B2.out.size))).partA hc1 f (p - f) (by omega)) (partA_none z1) (by omega)
        have hR1 := (m1 _ (by omega) hne0).trans hR
        have hB1 := g1 W2 hB0
        have hne1 : v1.ownBlock ≠ some wr.heap.size := fun e => by
          obtain ⟨_, ⟨rfl, _⟩ | ⟨g', cap', cur', rfl, _, hg', _⟩⟩ := o1
          · cases e
          · obtain rfl : g' = wr.heap.size := by simpa [Value.ownBlock] using e
            rw [hR1] at hg'
            simp at hg'
        have hl1 : (xs ++ (l1.drop f).take (p - f)).length ≤ 120 := by
          rw [List.length_append, List.length_take]
          omega
        obtain ⟨v2, X2, r2, o2, g2, m2, s2'⟩ := tok_append_any W2.heap.size v1 _ X1 o1 hB1.size (partA a2 c2 s) (s2 - s) (c2 - s) ((l2.drop s).take (s2 - s)) ((H2.out.below (B2.out.trans (hB1.mono B2.out.size))).partA hc2 s (s2 - s) (by omega)) (partA_none z2) (by omega)
        have hR2 := (m2 _ (by omega) hne1).trans hR1
        have hB2 := g2 W2 hB1
        rw [show s2 - s = q by omega] at o2
        have HR1 := hide_ r1
        have HR2 := hide_ r2
        have HC1 : Hid (X1.cell? ⟨wr.heap.size, 0, none⟩ = some (.int .i64 (p : Int)) ∧ X1.cell? ⟨wr.heap.size, 1, none⟩ = some (.int .i64 (o : Int)) ∧ X1.cell? ⟨wr.heap.size, 2, none⟩ = some (.int .i64 (q : Int))) := by
          refine ⟨?_, ?_, ?_⟩ <;> (simp only [World.cell?]; rw [hR1]; rfl)
        have HC2 : Hid (X2.cell? ⟨wr.heap.size, 0, none⟩ = some (.int .i64 (p : Int)) ∧ X2.cell? ⟨wr.heap.size, 1, none⟩ = some (.int .i64 (o : Int)) ∧ X2.cell? ⟨wr.heap.size, 2, none⟩ = some (.int .i64 (q : Int))) := by
          refine ⟨?_, ?_, ?_⟩ <;> (simp only [World.cell?]; rw [hR2]; rfl)
        have HN : Hid (X2.ownsRow W2.heap.size 62 4 v2 _ _ ∧ Below W2.heap.size W2 X2) := ⟨o2, hB2⟩
        have HY2 := hide_ hy4
        clear HY hd hx hy1 hcE hy2 hy3 hy4 hy5 hsum r1 o1 g1 m1 s1 r2 o2 g2 m2 s2' hR hR1 hR2 hB0 hB1 hB2 hown0 hne0 hne1 HO hV0
        have hf0' : (f : Int) ≤ (p : Int) := by omega
        have hpn : (p : Int) ≤ (n : Int) := by omega
        have hp0 : (0 : Int) ≤ (p : Int) := by omega
        have ho0 : (0 : Int) ≤ (o : Int) := by omega
        have hq0 : (0 : Int) ≤ (q : Int) := by omega
        go_wp2_with (first
          | (at_builtin; refine wpList_run_append rfl (.tmp 93) (.tmp 98) 22 rfl _ _ _ _ rfl rfl HR1.out ?_; obtain ⟨ca0, ca1, ca2⟩ := HC1.out)
          | (at_builtin; refine wpList_run_append rfl (.tmp 106) (.tmp 119) 22 rfl _ _ _ _ rfl rfl HR2.out ?_; obtain ⟨cb0, cb1, cb2⟩ := HC2.out)
          | (guard_target =~ wpList _ _ _ (Oper.mk _ (Op.slice _ _ _ _ _) _ _ _ _ :: _) _ _; refine wpList_run_slice rfl (.tmp 94) (some (.tmp 95)) (some (.tmp 97)) 22 rfl _ _ rfl (slice_lh a1 n c1 f p hfpN hpcN _) ?_)
          | (guard_target =~ wpList _ _ _ (Oper.mk _ (Op.slice _ _ _ _ _) _ _ _ _ :: _) _ _; refine wpList_run_slice rfl (.tmp 107) (some (.tmp 111)) (some (.tmp 118)) 22 rfl _ _ rfl (slice_lh a2 m c2 s s2 hssN hscN _) ?_))
        go_roundg (E.length - k)
        case measure => omega
        case rel => exact ⟨_, k + 1, p + o, s2, kp + (p - f), by first | rfl | go_num, by first | rfl | go_num, by first | rfl | go_num, by first | rfl | go_num, by omega, by omega, by omega, by omega, hkl, ⟨y', HY2.out, HSUM.out⟩, HN.out⟩
      · exfalso
        rw [if_neg hcnd] at hy1
        cases hy1
    · obtain rfl : k = E.length := by omega
      obtain ⟨y, hy1, hy2, hy3⟩ := HY.out
      rw [List.drop_length, foldE] at hy1
      obtain rfl := (Option.some.inj hy1).symm
      simp only at hy2 hy3
      rw [H1.out.1] at hy3
      have hxl : xs.length ≤ 60 := by
        have := congrArg List.length hy2
        rw [List.length_append, H2.out.1] at this
        omega
      have hfnN : f ≤ n := hf
      have htl : (l1.drop f).take (n - f) = l1.drop f := List.take_of_length_le (by rw [List.length_drop, H1.out.1]; exact Nat.le_refl _)
      obtain ⟨v1, X1, r1, o1, g1, _, _⟩ := tok_append_any W2.heap.size u9 xs wr HO.out.1 HO.out.2.size (partA a1 c1 f) (n - f) (c1 - f) ((l1.drop f).take (n - f)) ((H1.out.below (B2.out.trans (HO.out.2.mono B2.out.size))).partA hc1 f (n - f) (by omega)) (partA_none z1) (by omega)
      rw [htl, hy2] at o1
      have hB1 := g1 W2 HO.out.2
      obtain ⟨av, cv, rfl, hv⟩ := toks_of_any o1
      have HR1 := hide_ r1
      have w5 : IntKind.i64.wrap ((kp : Int) + (n : Int)) = (kp : Int) + (n : Int) := by rw [IntKind.wrap_i64]; omega
      have w6 : IntKind.i64.wrap ((kp : Int) + (n : Int) - (f : Int)) = (l.length : Int) := by rw [IntKind.wrap_i64]; omega
      have e6 : (kp : Int) + (n : Int) - (f : Int) = (l.length : Int) := by omega
      have hBw := B2.out.trans (hB1.mono B2.out.size)
      have HAL := hide_ (alike_calls av a2 l2.length m cv c2 l2 l2 X1 hv (H2.out.below hBw) (by rw [H2.out.1]; omega) (by omega))
      rw [(eqL_iff l2 l2).2 rfl] at HAL
      have HBW := hide_ hBw
      clear HY hy1 hy2 hy3 r1 o1 g1 hB1 HO hv hBw htl
      go_wp2_with (first
          | (at_builtin; refine wpList_run_append rfl (.tmp 133) (.tmp 136) 22 rfl _ _ _ _ rfl rfl HR1.out ?_)
          | (guard_target =~ wpList _ _ _ (Oper.mk _ (Op.slice _ _ _ _ _) _ _ _ _ :: _) _ _; refine wpList_run_slice rfl (.tmp 134) (some (.tmp 135)) none 22 rfl _ _ rfl (slice_l a1 n c1 f hfnN _) ?_))
      refine HAL.out.mono ?_
      rintro e X2 ⟨rfl, b3⟩
      have B3 := hide_ (HBW.out.trans (b3.mono HBW.out.size))
      clear b3 HAL HBW HR1
      go_wp2_with fail
      refine (HA _ B3.out).mono ?_
      rintro e X3 ⟨rfl, b4⟩
      have B4 := hide_ b4
      clear b4
      go_wp2
      go_ret
      exact ⟨rfl, B4.out⟩
end Go.Proofs.Ytgpopploimeeaaa
