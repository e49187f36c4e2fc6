/-
  PROVED HERE: the statement FlatJoins: two documents, one behind the other, are one, if they are not too long; one within a TOpen and a TClose, if it is not too deep; no condition.
-/
import Derived.Test.YtcakpdehphpibaaFText
import Derived.Test.YtcakpdehphpibaaFDeep
import Derived.Test.YtcakpdehphpibaaDoc
import Derived.Test.YtcakpdehphpibaaFit
namespace Go.Proofs.Ytcakpdehphpibaa.flatJoins
open Go.ChangeShapes Go.WideShapes Go.ChangeAt Go.RowKit

theorem str_append (xs ys : List Int) : strOfNums xs ++ strOfNums ys = strOfNums (xs ++ ys) := by
  apply ByteArray.ext
  simp [strOfNums, ByteArray.data_append]
/-- One token in a new block, owned. -/
theorem one_owned (W : World) (x : Tok) : (W.alloc (.cells #[.int .i64 x.k, .int .i64 x.t, .int .i64 x.n, .int .i64 x.m] 41)).ownsRow W.heap.size 41 4 (.slice (some ⟨W.heap.size, 0, none⟩) 1 1) 1 (flat [x]) :=
  ⟨rfl, .inr ⟨W.heap.size, 1, _, rfl, Nat.le_refl _, heap_alloc_new W _, Nat.le_refl _, by unfold maxLen; omega, rfl, rfl⟩⟩
theorem tok_alloc {w : World} {base : Nat} {v : Value} {n : Nat} {xs : List Value} (h : w.ownsRow base 41 4 v n xs) (o : Obj) : (w.alloc o).ownsRow base 41 4 v n xs := World.ownsRow.alloc h o
theorem one_toks (W : World) (x : Tok) : Toks (W.alloc (.cells #[.int .i64 x.k, .int .i64 x.t, .int .i64 x.n, .int .i64 x.m] 41)) (some ⟨W.heap.size, 0, none⟩) 1 [x] := by
  obtain ⟨g, cap, e, _, _, _, h⟩ := toks_of_owns (one_owned W x) (by simp)
  cases e
  exact h

set_option maxRecDepth 100000 in
set_option maxHeartbeats 4000000 in
theorem no_walk (a : Option Addr) (len cap : Nat) (l : List Tok) (a' : Option Addr) (len' cap' : Nat) (l' : List Tok) (t : Int) (w : World) (hl : Toks w a len l) (hsz : len ≤ 4398046511104) (hl' : Toks w a' len' l') (hsz' : len' ≤ 4398046511104)
    (hno : ¬ ((check l).2 = 0 ∧ (check l').2 = 0 ∧ len + len' ≤ 2046)) :
    Calls Try.prog 8 #[.slice a len cap, .slice a' len' cap', .int .u8 t] w fun e w' => e = .returned (.bool true) ∧ Below w.heap.size w w' := by
  have H1 := fcheck_calls a len cap l w hl hsz
  have H2 := fun W (hW : Below w.heap.size w W) => fcheck_calls a' len' cap' l' W (hl'.below hW) hsz'
  generalize (check l).1 = x1 at *
  generalize (check l).2 = x2 at *
  generalize (check l').1 = y1 at *
  generalize (check l').2 = y2 at *
  have hd : ((x2 == 0) = false ∧ (x2 != 0) = true) ∨ (x2 = 0 ∧ (y2 == 0) = false ∧ (y2 != 0) = true) ∨ (x2 = 0 ∧ y2 = 0 ∧ (2046 : Int) < (len : Int) + (len' : Int)) := by
    by_cases h1 : x2 = 0
    · by_cases h2 : y2 = 0
      · exact .inr (.inr ⟨h1, h2, by omega⟩)
      · exact .inr (.inl ⟨h1, by simpa using h2, by simpa using h2⟩)
    · exact .inl ⟨by simpa using h1, by simpa using h1⟩
  clear hl hl' hno
  rcases hd with ⟨hd, hd1⟩ | ⟨rfl, hd, hd1⟩ | ⟨rfl, rfl, hd⟩
  all_goals
    go_enter Try.func8, Try.ntmps8
    go_wp2_with fail
    refine H1.mono ?_
    rintro e W1 ⟨rfl, b1⟩
    go_wp2_with fail
    refine (H2 W1 b1).mono ?_
    rintro e W2 ⟨rfl, b2⟩
    have g2 := b1.trans (b2.mono b1.size)
    go_wp2_with fail
    refine (awake_calls _).mono ?_
    rintro e W9 ⟨rfl, hB9⟩
    go_wp2
    go_ret
    exact ⟨rfl, g2.trans (hB9.mono g2.size)⟩

set_option maxRecDepth 100000 in
set_option maxHeartbeats 4000000 in
theorem walk (a : Option Addr) (len cap : Nat) (l : List Tok) (a' : Option Addr) (len' cap' : Nat) (l' : List Tok) (t : Int) (w : World) (hl : Toks w a len l) (hsz : len ≤ 4398046511104) (hl' : Toks w a' len' l') (hsz' : len' ≤ 4398046511104) (ht0 : 0 ≤ t) (ht1 : t ≤ 255) :
    Calls Try.prog 8 #[.slice a len cap, .slice a' len' cap', .int .u8 t] w fun e w' => e = .returned (.bool true) ∧ Below w.heap.size w w' := by
  by_cases hno : ¬ ((check l).2 = 0 ∧ (check l').2 = 0 ∧ len + len' ≤ 2046)
  · exact no_walk a len cap l a' len' cap' l' t w hl hsz hl' hsz' hno
  obtain ⟨ok1, ok2, hlen⟩ := Decidable.not_not.1 hno
  clear hno
  have H1 := fcheck_calls a len cap l w hl hsz
  have H2 := fun W (hW : Below w.heap.size w W) => fcheck_calls a' len' cap' l' W (hl'.below hW) hsz'
  rw [ok1] at H1
  rw [ok2] at H2
  have hLL : (l ++ l').length = len + len' := by rw [List.length_append, hl.1, hl'.1]
  have ok3 := check_joins l l' ok1 ok2 (by omega)
  have hdone := check_done _ ok3
  rw [hLL] at hdone
  have hcat : strOfNums (text l) ++ strOfNums (text l') = strOfNums (text (l ++ l')) := by rw [str_append, ← text_append]
  have hss : ¬ (9223372036854775807 < (strOfNums (text l)).size + (strOfNums (text l')).size) := by
    rw [strOfNums_size, strOfNums_size]
    have h1 := text_length_le l
    have h2 := text_length_le l'
    rw [hl.1] at h1
    rw [hl'.1] at h2
    omega
  have hss2 : (strOfNums (text l)).size + (strOfNums (text l')).size ≤ 9223372036854775807 := by omega
  have H5 := fun W (hW : Below w.heap.size w W) => ftext_calls a len cap l W (hl.below hW) hsz
  have H6 := fun W (hW : Below w.heap.size w W) => ftext_calls a' len' cap' l' W (hl'.below hW) hsz'
  generalize (check l).1 = x1 at *
  generalize (check l').1 = y1 at *
  generalize strOfNums (text l) = SA at *
  generalize strOfNums (text l') = SB at *
  obtain ⟨n, hn⟩ : ∃ n, len + len' = n := ⟨_, rfl⟩
  go_enter Try.func8, Try.ntmps8
  go_wp2_with fail
  refine H1.mono ?_
  rintro e W1 ⟨rfl, b1⟩
  go_wp2_with fail
  refine (H2 W1 b1).mono ?_
  rintro e W2 ⟨rfl, b2⟩
  have g2 := b1.trans (b2.mono b1.size)
  obtain ⟨v1, W3, run1, o1, ne1, b3⟩ := tok_clone_own a len cap l W2 (hl.below g2) (by omega)
  obtain ⟨v2, W4, run2, o2, ne2, b4⟩ := tok_append_own W2.heap.size v1 len l W3 o1 ne1 b3.size a' len' cap' l' ((hl'.below g2).below b3) (by omega)
  rw [hn] at o2 hLL hdone
  obtain ⟨g, cp, rfl, _, hcp1, hcp2, tL⟩ := toks_of_owns o2 ne2
  have g4 := g2.trans ((b3.trans b4).mono g2.size)
  unfold maxLen at hcp2
  have hn' : n ≤ 2046 := by omega
  have elen : ((len : Int) + (len' : Int)) = (n : Int) := by omega
  clear H1 H2 o1 o2 ne1 ne2 b1 b2 b3 b4
  generalize hLd : l ++ l' = L at *
  have H3 := fcheck_calls (some ⟨g, 0, none⟩) n cp L W4 tL (by omega)
  rw [hdone] at H3
  simp only at H3
  have H4 := fun (k : Int) W (hW : Below W4.heap.size W4 W) => fdeep_calls (some ⟨g, 0, none⟩) n cp L k W (tL.below hW) (by omega) ⟨hcp1, hcp2, (fun h => by cases h), (fun x h _ => by cases h; rfl)⟩
  have H7 := fun W (hW : Below W4.heap.size W4 W) => ftext_calls (some ⟨g, 0, none⟩) n cp L W (tL.below hW) (by omega)
  generalize hSL : strOfNums (text L) = SL at *
  have HR : Hid (∀ W : World, Below W4.heap.size W4 W → Toks W (some ⟨g, 0, none⟩) n L) := fun W hW => tL.below hW
  have HIN : Hid (∀ z : Int, 1 ≤ z ∧ z ≤ 15 → (check ((⟨1, z, 0, 0⟩ :: L) ++ [⟨2, 0, 0, 0⟩])).2 = if mx L n < 32 then 0 else 8) := fun z hz => by
    have := check_within L z hz ok3 (by omega)
    rw [hLL] at this
    exact this
  have HM0 : Hid (mx L 0 = 0) := rfl
  clear hl hl' tL hdone ok1 ok2 ok3 hLd hSL hn
  go_wp2_with (at_builtin; first | refine wpList_tok_run rfl _ _ 22 rfl _ _ _ _ rfl rfl run1 ?_ | refine wpList_tok_run rfl _ _ 22 rfl _ _ _ _ rfl rfl run2 ?_)
  refine H3.mono ?_
  rintro e W5 ⟨rfl, b5⟩
  clear H3 run1 run2
  go_wp2
  go_loopw [14, 15] (fun u i w' => ∃ k : Nat, k ≤ n ∧ i = .int .i64 (k : Int) ∧ u = .int .i64 (mx L k) ∧ Below W4.heap.size W4 w') (fun _ i _ => n - (intOf i).toNat)
  case atStart => exact ⟨0, by omega, rfl, by rw [HM0.out], b5⟩
  case round =>
    obtain ⟨k, hk, rfl, rfl, hB⟩ := hrel
    by_cases hlt : k < n
    · have hmx : mx L (k + 1) = max (mx L k) ((opened L k).length : Int) := rfl
      have H4' := H4 k
      have HMs : Hid (mx L (k + 1) = max (mx L k) ((opened L k).length : Int)) := hmx
      clear hmx H4
      generalize ((opened L k).length : Int) = d at *
      generalize mx L k = m at *
      go_wp2_with fail
      refine (H4' _ hB).mono ?_
      rintro e W6 ⟨rfl, b6⟩
      have g6 := hB.trans (b6.mono hB.size)
      clear H4' b6
      go_wp2
      go_roundw
      case rel => exact ⟨k + 1, by omega, rfl, by rw [HMs.out], g6⟩
      case measure => simp [intOf]; omega
    · obtain rfl : k = n := by omega
      clear H4 HM0 hlt
      have hz : 1 ≤ 1 + t % 15 ∧ 1 + t % 15 ≤ 15 := by omega
      have hchk := HIN.out _ hz
      generalize hzz : 1 + t % 15 = z at *
      obtain ⟨v3, W7, run3, o3, ne3, b7⟩ := tok_append_own wr.heap.size _ 1 [⟨1, z, 0, 0⟩] _ (one_owned wr ⟨1, z, 0, 0⟩) (by simp) (by simp) (some ⟨g, 0, none⟩) k cp L (HR.out _ (hB.alloc hB.size _)) (by omega)
      have c7 : Below wr.heap.size wr W7 := ((Below.refl _ wr).alloc (Nat.le_refl _) _).trans b7
      obtain ⟨v4, W8, run4, o4, ne4, b8⟩ := tok_append_own wr.heap.size v3 (1 + k) _ _ (tok_alloc o3 _) ne3 (by have := c7.size; simp; omega) (some ⟨W7.heap.size, 0, none⟩) 1 1 _ (one_toks W7 ⟨2, 0, 0, 0⟩) (by omega)
      have c8 : Below wr.heap.size wr W8 := (c7.alloc c7.size _).trans b8
      obtain ⟨g', cp', rfl, _, _, _, tI⟩ := toks_of_owns o4 ne4
      have H8 := fcheck_calls (some ⟨g', 0, none⟩) (1 + k + 1) cp' _ W8 tI (by omega)
      rw [show [⟨1, z, 0, 0⟩] ++ L ++ [⟨2, 0, 0, 0⟩] = (⟨1, z, 0, 0⟩ :: L) ++ [⟨2, 0, 0, 0⟩] from rfl, hchk] at H8
      generalize (check ((⟨1, z, 0, 0⟩ :: L) ++ [⟨2, 0, 0, 0⟩])).1 = x9 at *
      have d8 := hB.trans (c8.mono hB.size)
      have g8 := g4.trans (d8.mono g4.size)
      clear hchk HIN HR o3 ne3 o4 ne4 tI b7 b8 c7 c8
      generalize mx L k = m at *
      have hmc : (m < 32 ∧ (if m < 32 then (0 : Int) else 8) = 0) ∨ (decide (m < 32) = false ∧ (if m < 32 then (0 : Int) else 8) = 8) := by
        by_cases h : m < 32
        · exact .inl ⟨h, if_pos h⟩
        · exact .inr ⟨by simpa using h, if_neg h⟩
      rcases hmc with ⟨hm, he⟩ | ⟨hm, he⟩
      all_goals
        rw [he] at H8
        clear he
        go_wp2_with (at_builtin; first | refine wpList_tok_run rfl _ _ 22 rfl _ _ _ _ rfl rfl run3 ?_ | refine wpList_tok_run rfl _ _ 22 rfl _ _ _ _ rfl rfl run4 ?_)
        refine H8.mono ?_
        rintro e W9 ⟨rfl, b9⟩
        have d9 := d8.trans (b9.mono d8.size)
        have g9 := g8.trans (b9.mono g8.size)
        go_wp2_with fail
        refine (H7 _ d9).mono ?_
        rintro e W10 ⟨rfl, b10⟩
        have g10 := g9.trans (b10.mono g9.size)
        go_wp2_with fail
        refine (H5 _ g10).mono ?_
        rintro e W11 ⟨rfl, b11⟩
        have g11 := g10.trans (b11.mono g10.size)
        go_wp2_with fail
        refine (H6 _ g11).mono ?_
        rintro e W12 ⟨rfl, b12⟩
        have g12 := g11.trans (b12.mono g11.size)
        go_wp2_with fail
        refine (awake_calls _).mono ?_
        rintro e W13 ⟨rfl, b13⟩
        go_wp2
        go_ret
        exact ⟨rfl, g12.trans (b13.mono g12.size)⟩

theorem own : ownKnob Try.prog.godebug = none := by kernel_rfl
theorem laidOut : laidOutB Try.prog = true := by kernel_rfl

theorem contract (H : Type) (enc : TypeId × Value → H) (W : World) (base : Nat) (args : Array Value) (ds gs : List (DataW H)) (before : List MemPlace)
    (hval : ∀ (j : Nat) t v, Try.f8.params[j]? = some t → args[j]? = some v → Value.okWide Try.prog W .any base t v)
    (hW : DataW.Whole enc Try.prog Try.f8.params.toList Rows.flatJoinsSpec.vars false W args.toList ds gs before) (hsz0 : (DataW.weightsEach Try.prog (Try.f8.params.toList ++ Rows.flatJoinsSpec.plain.varTypes Try.prog) (ds ++ gs)).all (· ≤ reachBytes) = true) :
    Calls Try.prog 8 args W fun e W' => ∃ v, e = .returned v ∧ Rows.flatJoinsSpec.post enc Try.prog Try.f8 false true false false W args v W' := by
  have hW' := hW
  obtain ⟨p, q, hA0, hV, rfl, hfz, hnd⟩ := hW'
  have hA : DataW.TrodAll enc Try.prog W 0 (fun _ => true) true Try.f8.params.toList args.toList ds p := hA0
  have hsz : (DataW.weightsEach Try.prog (Try.f8.params.toList ++ Rows.flatJoinsSpec.plain.varTypes Try.prog) (ds ++ gs)).all (· ≤ reachBytes) = true := hsz0
  rw [Try.params8] at hA hval hsz
  obtain ⟨v0, vs0, d0, ds0, p0, q0, hargs, rfl, rfl, h0, r0⟩ := trodAll_cons hA
  obtain ⟨v1, vs1, d1, ds1, p1, q1, rfl, rfl, rfl, h1, r1⟩ := trodAll_cons r0
  obtain ⟨v2, vs2, d2, ds2, p2, q2, rfl, rfl, rfl, h2, r2⟩ := trodAll_cons r1
  obtain ⟨rfl, rfl, rfl⟩ := trodAll_nil r2
  obtain rfl : args = #[v0, v1, v2] := by cases args; simp_all
  obtain ⟨rfl, rfl⟩ := trodVars_none hV
  obtain ⟨a0, len0, cap0, rfl⟩ := okWide_slice Try.underlying22 (hval 0 22 v0 rfl rfl)
  have lt0 : ∀ x ∈ p0, x.block < W.heap.size := by obtain ⟨m, hm⟩ := h0; exact DataW.trod_lt m _ _ _ hm
  obtain ⟨l0, w0, f0, c0, m0, n0, x0, g0⟩ := open_toks h0
  have s0 := toks_sized hsz (j := 0) rfl rfl g0
  obtain ⟨a1, len1, cap1, rfl⟩ := okWide_slice Try.underlying22 (hval 1 22 v1 rfl rfl)
  have lt1 : ∀ x ∈ p1, x.block < W.heap.size := by obtain ⟨m, hm⟩ := h1; exact DataW.trod_lt m _ _ _ hm
  obtain ⟨l1, w1, f1, c1, m1, n1, x1, g1⟩ := open_toks h1
  have s1 := toks_sized hsz (j := 1) rfl rfl g1
  obtain ⟨a2, rfl, rfl, rfl, w2⟩ := open_int Try.underlying5 (hval 2 5 v2 rfl rfl) h2
  clear hA0 hsz0 hsz
  refine (walk a0 len0 cap0 l0 a1 len1 cap1 l1 a2 W w0 s0 w1 s1 (of_wf_u8 w2).1 (of_wf_u8 w2).2).mono fun e W' ⟨he, bel⟩ => ?_
  subst he
  exact ⟨_, rfl, _, _, _, [], _, [], hW, trodAll_mk1 (shut_bool Try.underlying4 _), (trodAll_cons_mk (Below.trod laidOut (by kernel_rfl) (of_decide_eq_true (by kernel_rfl)) h0 bel lt0) (trodAll_cons_mk (Below.trod laidOut (by kernel_rfl) (of_decide_eq_true (by kernel_rfl)) h1 bel lt1) (trodAll_cons_mk (shut_int Try.underlying5 w2) trodAll_mk0))), rfl, bel.frame _, fun h => by cases h⟩

set_option maxRecDepth 100000 in
theorem lifted (os : Os) (started : os.Started) (H : Type) (enc : TypeId × Value → H) :
    ReturnsInHanded {} Try.checked os 8 .any (Rows.flatJoinsSpec.pre6 enc Try.prog Try.f8 Rows.flatJoinsRow.domain false) (Rows.flatJoinsSpec.post enc Try.prog Try.f8 false true false false) := by
  refine returnsInHanded_of_change_sized (C := Try.checked) own started (by kernel_rfl) Try.func8
    (ChangeSpec.witness6 (enc := enc) (C := Try.checked) false ⟨#[], #[.slice none 0 0, .slice none 0 0, .int .u8 0], []⟩ 8 (by kernel_rfl) (by kernel_rfl) (by kernel_rfl) (by kernel_rfl)) ?_
  intro W base args ds gs before hval hW _ hsz _
  exact contract H enc W base args ds gs before hval hW hsz

theorem proved : Rows.FlatJoinsSaid :=
  OpenClaim.holds_of_wide 8 Try.f8 rfl rfl rfl rfl rfl rfl rfl ⟨rfl, rfl, rfl, rfl, rfl⟩ rfl rfl rfl rfl rfl (by kernel_rfl) Try.func8 (by kernel_rfl)
    (of_decide_eq_true (by kernel_rfl)) (by unfold Func.isWrapper; first | (rw [if_pos (by decide +kernel)]; kernel_rfl) | (rw [if_neg (by decide +kernel)]; exact ⟨rfl, rfl⟩))
    (fun os started H enc _ => lifted os started H enc)
end Go.Proofs.Ytcakpdehphpibaa.flatJoins
namespace Go.Proofs.Ytcakpdehphpibaa
theorem FlatJoins_holds : Rows.FlatJoinsSaid := flatJoins.proved
end Go.Proofs.Ytcakpdehphpibaa
