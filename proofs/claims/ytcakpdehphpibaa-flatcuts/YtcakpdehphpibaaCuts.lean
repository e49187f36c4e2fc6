/-
  PROVED HERE: the statement FlatCuts: any part of any tokens, their text, and whether two are the same, are as the document says; no condition.
-/
import Derived.Test.YtcakpdehphpibaaFText
import Derived.Test.YtcakpdehphpibaaFCut
import Derived.Test.YtcakpdehphpibaaFSame
import Derived.Test.YtcakpdehphpibaaRCut
import Derived.Test.YtcakpdehphpibaaRSame
import Derived.Test.YtcakpdehphpibaaRText
import Derived.Test.YtcakpdehphpibaaFit
namespace Go.Proofs.Ytcakpdehphpibaa.flatCuts
open Go.ChangeShapes Go.WideShapes Go.ChangeAt Go.RowKit

theorem cut_length (l : List Tok) (f t : Int) : (cut l f t).length ≤ l.length := by
  unfold cut
  split
  · simp
  · rw [List.length_take, List.length_drop]
    omega

set_option maxRecDepth 100000 in
set_option maxHeartbeats 4000000 in
theorem walk (a : Option Addr) (len cap : Nat) (l : List Tok) (a' : Option Addr) (len' cap' : Nat) (l' : List Tok) (f t : Int) (w : World) (hl : Toks w a len l) (hsz : len ≤ 4398046511104) (hc1 : len ≤ cap) (hc2 : cap ≤ 9223372036854775807) (hc3 : a = none → cap = 0) (hc4 : ∀ x, a = some x → 0 < cap → x.spot = none) (hl' : Toks w a' len' l') (hsz' : len' ≤ 4398046511104) :
    Calls Try.prog 5 #[.slice a len cap, .slice a' len' cap', .int .i64 f, .int .i64 t] w fun e w' => e = .returned (.bool true) ∧ Below w.heap.size w w' := by
  have hL := hl.1
  obtain ⟨v1, W0, run1, o1, ne1, b0⟩ := tok_clone_own a len cap l w hl hsz
  obtain ⟨g, cp, rfl, hg0, hg1, hg2, t1⟩ := toks_of_owns o1 ne1
  unfold maxLen at hg2
  have H1 := fcut_calls (some ⟨g, 0, none⟩) len cp l f t W0 t1 hsz hg1 hg2 (fun h => by cases h) (fun x h _ => by cases h; rfl)
  have H2 := fun W (hW : Below w.heap.size w W) => cut_calls a len cap l f t W (hl.below hW) hsz hc1 hc2 hc3 hc4
  have H4 := fun W (hW : Below w.heap.size w W) => ftext_calls a len cap l W (hl.below hW) hsz
  have H5 := fun W (hW : Below w.heap.size w W) => text_calls a len cap l W (hl.below hW) hsz
  have H6 := fun W (hW : Below w.heap.size w W) => fsame_calls a a' len len' cap cap' l l' W (hl.below hW) (hl'.below hW) (by omega) (by omega)
  have H7 := fun W (hW : Below w.heap.size w W) => alike_calls a a' len len' cap cap' l l' W (hl.below hW) (hl'.below hW) (by omega) (by omega)
  have H8 := fun W (hW : Below w.heap.size w W) => fsame_calls a a len len cap cap l l W (hl.below hW) (hl.below hW) (by omega) (by omega)
  rw [(eqL_iff l l).2 rfl] at H8
  have hcl := cut_length l f t
  rw [hL] at hcl
  generalize cut l f t = C at *
  generalize cutE l f t = E at *
  generalize strOfNums (text l) = S at *
  generalize eqL l l' = q at *
  obtain ⟨n, hn⟩ : ∃ n, C.length = n := ⟨_, rfl⟩
  rw [hn] at H1 H2 hcl
  clear o1 ne1 t1 hl hl' hn
  go_enter Try.func5, Try.ntmps5
  go_wp2_with (at_builtin; refine wpList_tok_run rfl _ _ 22 rfl _ _ _ _ rfl rfl run1 ?_)
  refine H1.mono ?_
  rintro e W1 ⟨aA, capA, rfl, tA, cA, b1⟩
  have g1 := b0.trans (b1.mono b0.size)
  go_wp2_with fail
  refine (H2 W1 g1).mono ?_
  rintro e W2 ⟨aD, capD, rfl, tD, cD, b2⟩
  have g2 := g1.trans (b2.mono g1.size)
  have H3 := alike_calls aA aD n n capA capD C C W2 (tA.below b2) tD (by omega) (by omega)
  rw [(eqL_iff C C).2 rfl] at H3
  clear H1 H2 run1 tA tD b0 b1 b2 g1
  go_wp2_with fail
  refine H3.mono ?_
  rintro e W3 ⟨rfl, b3⟩
  have g3 := g2.trans (b3.mono g2.size)
  go_wp2_with fail
  refine (H4 _ g3).mono ?_
  rintro e W4 ⟨rfl, b4⟩
  have g4 := g3.trans (b4.mono g3.size)
  go_wp2_with fail
  refine (H5 _ g4).mono ?_
  rintro e W5 ⟨rfl, b5⟩
  have g5 := g4.trans (b5.mono g4.size)
  go_wp2_with fail
  refine (H6 _ g5).mono ?_
  rintro e W6 ⟨rfl, b6⟩
  have g6 := g5.trans (b6.mono g5.size)
  go_wp2_with fail
  refine (H7 _ g6).mono ?_
  rintro e W7 ⟨rfl, b7⟩
  have g7 := g6.trans (b7.mono g6.size)
  go_wp2_with fail
  refine (H8 _ g7).mono ?_
  rintro e W8 ⟨rfl, b8⟩
  have g8 := g7.trans (b8.mono g7.size)
  go_wp2_with fail
  refine (awake_calls _).mono ?_
  rintro e W9 ⟨rfl, hB9⟩
  go_wp2
  go_ret
  exact ⟨rfl, g8.trans (hB9.mono g8.size)⟩

theorem own : ownKnob Try.prog.godebug = none := by kernel_rfl
theorem laidOut : laidOutB Try.prog = true := by kernel_rfl

theorem contract (H : Type) (enc : TypeId × Value → H) (W : World) (base : Nat) (args : Array Value) (ds gs : List (DataW H)) (before : List MemPlace)
    (hval : ∀ (j : Nat) t v, Try.f5.params[j]? = some t → args[j]? = some v → Value.okWide Try.prog W .any base t v)
    (hW : DataW.Whole enc Try.prog Try.f5.params.toList Rows.flatCutsSpec.vars false W args.toList ds gs before) (hsz0 : (DataW.weightsEach Try.prog (Try.f5.params.toList ++ Rows.flatCutsSpec.plain.varTypes Try.prog) (ds ++ gs)).all (· ≤ reachBytes) = true) :
    Calls Try.prog 5 args W fun e W' => ∃ v, e = .returned v ∧ Rows.flatCutsSpec.post enc Try.prog Try.f5 false true false false W args v W' := by
  have hW' := hW
  obtain ⟨p, q, hA0, hV, rfl, hfz, hnd⟩ := hW'
  have hA : DataW.TrodAll enc Try.prog W 0 (fun _ => true) true Try.f5.params.toList args.toList ds p := hA0
  have hsz : (DataW.weightsEach Try.prog (Try.f5.params.toList ++ Rows.flatCutsSpec.plain.varTypes Try.prog) (ds ++ gs)).all (· ≤ reachBytes) = true := hsz0
  rw [Try.params5] at hA hval hsz
  obtain ⟨v0, vs0, d0, ds0, p0, q0, hargs, rfl, rfl, h0, r0⟩ := trodAll_cons hA
  obtain ⟨v1, vs1, d1, ds1, p1, q1, rfl, rfl, rfl, h1, r1⟩ := trodAll_cons r0
  obtain ⟨v2, vs2, d2, ds2, p2, q2, rfl, rfl, rfl, h2, r2⟩ := trodAll_cons r1
  obtain ⟨v3, vs3, d3, ds3, p3, q3, rfl, rfl, rfl, h3, r3⟩ := trodAll_cons r2
  obtain ⟨rfl, rfl, rfl⟩ := trodAll_nil r3
  obtain rfl : args = #[v0, v1, v2, v3] := by cases args; simp_all
  obtain ⟨rfl, rfl⟩ := trodVars_none hV
  obtain ⟨a0, len0, cap0, rfl⟩ := okWide_slice Try.underlying22 (hval 0 22 v0 rfl rfl)
  have lt0 : ∀ x ∈ p0, x.block < W.heap.size := by obtain ⟨m, hm⟩ := h0; exact DataW.trod_lt m _ _ _ hm
  obtain ⟨l0, w0, f0, c0, m0, n0, x0, g0⟩ := open_toks h0
  have s0 := toks_sized hsz (j := 0) rfl rfl g0
  obtain ⟨a1, len1, cap1, rfl⟩ := okWide_slice Try.underlying22 (hval 1 22 v1 rfl rfl)
  have lt1 : ∀ x ∈ p1, x.block < W.heap.size := by obtain ⟨m, hm⟩ := h1; exact DataW.trod_lt m _ _ _ hm
  obtain ⟨l1, w1, f1, c1, m1, n1, x1, g1⟩ := open_toks h1
  have s1 := toks_sized hsz (j := 1) rfl rfl g1
  obtain ⟨a2, rfl, rfl, rfl, w2⟩ := open_int Try.underlying3 (hval 2 3 v2 rfl rfl) h2
  obtain ⟨a3, rfl, rfl, rfl, w3⟩ := open_int Try.underlying3 (hval 3 3 v3 rfl rfl) h3
  clear hA0 hsz0 hsz
  refine (walk a0 len0 cap0 l0 a1 len1 cap1 l1 a2 a3 W w0 s0 c0 m0 n0 x0 w1 s1).mono fun e W' ⟨he, bel⟩ => ?_
  subst he
  exact ⟨_, rfl, _, _, _, [], _, [], hW, trodAll_mk1 (shut_bool Try.underlying4 _), (trodAll_cons_mk (Below.trod laidOut (by kernel_rfl) (of_decide_eq_true (by kernel_rfl)) h0 bel lt0) (trodAll_cons_mk (Below.trod laidOut (by kernel_rfl) (of_decide_eq_true (by kernel_rfl)) h1 bel lt1) (trodAll_cons_mk (shut_int Try.underlying3 w2) (trodAll_cons_mk (shut_int Try.underlying3 w3) trodAll_mk0)))), rfl, bel.frame _, fun h => by cases h⟩

set_option maxRecDepth 100000 in
theorem lifted (os : Os) (started : os.Started) (H : Type) (enc : TypeId × Value → H) :
    ReturnsInHanded {} Try.checked os 5 .any (Rows.flatCutsSpec.pre6 enc Try.prog Try.f5 Rows.flatCutsRow.domain false) (Rows.flatCutsSpec.post enc Try.prog Try.f5 false true false false) := by
  refine returnsInHanded_of_change_sized (C := Try.checked) own started (by kernel_rfl) Try.func5
    (ChangeSpec.witness6 (enc := enc) (C := Try.checked) false ⟨#[], #[.slice none 0 0, .slice none 0 0, .int .i64 0, .int .i64 0], []⟩ 8 (by kernel_rfl) (by kernel_rfl) (by kernel_rfl) (by kernel_rfl)) ?_
  intro W base args ds gs before hval hW _ hsz _
  exact contract H enc W base args ds gs before hval hW hsz

theorem proved : Rows.FlatCutsSaid :=
  OpenClaim.holds_of_wide 5 Try.f5 rfl rfl rfl rfl rfl rfl rfl ⟨rfl, rfl, rfl, rfl, rfl⟩ rfl rfl rfl rfl rfl (by kernel_rfl) Try.func5 (by kernel_rfl)
    (of_decide_eq_true (by kernel_rfl)) (by unfold Func.isWrapper; first | (rw [if_pos (by decide +kernel)]; kernel_rfl) | (rw [if_neg (by decide +kernel)]; exact ⟨rfl, rfl⟩))
    (fun os started H enc _ => lifted os started H enc)
end Go.Proofs.Ytcakpdehphpibaa.flatCuts
namespace Go.Proofs.Ytcakpdehphpibaa
theorem FlatCuts_holds : Rows.FlatCutsSaid := flatCuts.proved
end Go.Proofs.Ytcakpdehphpibaa
