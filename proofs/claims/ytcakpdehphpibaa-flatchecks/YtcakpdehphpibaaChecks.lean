/-
  PROVED HERE: the statement FlatChecks: Check, Deep, Around and Partner of any tokens at any place are as the document says; no condition.
-/
import Derived.Test.YtcakpdehphpibaaFPartner
import Derived.Test.YtcakpdehphpibaaRCheck
import Derived.Test.YtcakpdehphpibaaRAround
import Derived.Test.YtcakpdehphpibaaFit
namespace Go.Proofs.Ytcakpdehphpibaa.flatChecks
open Go.ChangeShapes Go.WideShapes Go.ChangeAt Go.RowKit

set_option maxRecDepth 100000 in
set_option maxHeartbeats 2000000 in
theorem walk (a : Option Addr) (len cap : Nat) (l : List Tok) (p : Int) (w : World) (hl : Toks w a len l) (hsz : len ≤ 4398046511104) (hlie : Lies a len cap) :
    Calls Try.prog 3 #[.slice a len cap, .int .i64 p] w fun e w' => e = .returned (.bool true) ∧ Below w.heap.size w w' := by
  have H1 := fun W (hW : Below w.heap.size w W) => fcheck_calls a len cap l W (hl.below hW) hsz
  have H2 := fun W (hW : Below w.heap.size w W) => check_calls a len cap l W (hl.below hW) (by omega)
  have H3 := fun W (hW : Below w.heap.size w W) => fdeep_calls a len cap l p W (hl.below hW) hsz hlie
  have H4 := fun W (hW : Below w.heap.size w W) => deep_calls a len cap l p W (hl.below hW) hsz
  have H5 := fun W (hW : Below w.heap.size w W) => faround_calls a len cap l p W (hl.below hW) hsz hlie
  have H6 := fun W (hW : Below w.heap.size w W) => around_calls a len cap l p W (hl.below hW) hsz
  have H7 := fun W (hW : Below w.heap.size w W) => fpartner_calls a len cap l p W (hl.below hW) hsz hlie
  have H8 := fun W (hW : Below w.heap.size w W) => partner_calls a len cap l p W (hl.below hW) hsz
  generalize (check l).1 = x1 at *
  generalize (check l).2 = x2 at *
  generalize ((opened l p).length : Int) = x3 at *
  generalize around l p = x4 at *
  generalize partner l p = x5 at *
  clear hl hlie
  go_enter Try.func3, Try.ntmps3
  go_wp2_with fail
  refine (H1 _ (Below.refl _ w)).mono ?_
  rintro e W1 ⟨rfl, hB1⟩
  have hC1 := hB1
  go_wp2_with fail
  refine (H2 _ hC1).mono ?_
  rintro e W2 ⟨rfl, hB2⟩
  have hC2 := hC1.trans (hB2.mono hC1.size)
  go_wp2_with fail
  refine (H3 _ hC2).mono ?_
  rintro e W3 ⟨rfl, hB3⟩
  have hC3 := hC2.trans (hB3.mono hC2.size)
  go_wp2_with fail
  refine (H4 _ hC3).mono ?_
  rintro e W4 ⟨rfl, hB4⟩
  have hC4 := hC3.trans (hB4.mono hC3.size)
  go_wp2_with fail
  refine (H5 _ hC4).mono ?_
  rintro e W5 ⟨rfl, hB5⟩
  have hC5 := hC4.trans (hB5.mono hC4.size)
  go_wp2_with fail
  refine (H6 _ hC5).mono ?_
  rintro e W6 ⟨rfl, hB6⟩
  have hC6 := hC5.trans (hB6.mono hC5.size)
  go_wp2_with fail
  refine (H7 _ hC6).mono ?_
  rintro e W7 ⟨rfl, hB7⟩
  have hC7 := hC6.trans (hB7.mono hC6.size)
  go_wp2_with fail
  refine (H8 _ hC7).mono ?_
  rintro e W8 ⟨rfl, hB8⟩
  have hC8 := hC7.trans (hB8.mono hC7.size)
  go_wp2_with fail
  refine (awake_calls _).mono ?_
  rintro e W9 ⟨rfl, hB9⟩
  go_wp2
  go_ret
  exact ⟨rfl, hC8.trans (hB9.mono hC8.size)⟩

theorem own : ownKnob Try.prog.godebug = none := by kernel_rfl
theorem laidOut : laidOutB Try.prog = true := by kernel_rfl

theorem contract (H : Type) (enc : TypeId × Value → H) (W : World) (base : Nat) (args : Array Value) (ds gs : List (DataW H)) (before : List MemPlace)
    (hval : ∀ (j : Nat) t v, Try.f3.params[j]? = some t → args[j]? = some v → Value.okWide Try.prog W .any base t v)
    (hW : DataW.Whole enc Try.prog Try.f3.params.toList Rows.flatChecksSpec.vars false W args.toList ds gs before) (hsz0 : (DataW.weightsEach Try.prog (Try.f3.params.toList ++ Rows.flatChecksSpec.plain.varTypes Try.prog) (ds ++ gs)).all (· ≤ reachBytes) = true) :
    Calls Try.prog 3 args W fun e W' => ∃ v, e = .returned v ∧ Rows.flatChecksSpec.post enc Try.prog Try.f3 false true false false W args v W' := by
  have hW' := hW
  obtain ⟨p, q, hA0, hV, rfl, hfz, hnd⟩ := hW'
  have hA : DataW.TrodAll enc Try.prog W 0 (fun _ => true) true Try.f3.params.toList args.toList ds p := hA0
  have hsz : (DataW.weightsEach Try.prog (Try.f3.params.toList ++ Rows.flatChecksSpec.plain.varTypes Try.prog) (ds ++ gs)).all (· ≤ reachBytes) = true := hsz0
  rw [Try.params3] at hA hval hsz
  obtain ⟨v0, vs0, d0, ds0, p0, q0, hargs, rfl, rfl, h0, r0⟩ := trodAll_cons hA
  obtain ⟨v1, vs1, d1, ds1, p1, q1, rfl, rfl, rfl, h1, r1⟩ := trodAll_cons r0
  obtain ⟨rfl, rfl, rfl⟩ := trodAll_nil r1
  obtain rfl : args = #[v0, v1] := by cases args; simp_all
  obtain ⟨rfl, rfl⟩ := trodVars_none hV
  obtain ⟨a0, len0, cap0, rfl⟩ := okWide_slice Try.underlying22 (hval 0 22 v0 rfl rfl)
  have lt0 : ∀ x ∈ p0, x.block < W.heap.size := by obtain ⟨m, hm⟩ := h0; exact DataW.trod_lt m _ _ _ hm
  obtain ⟨l0, w0, f0, c0, m0, n0, x0, g0⟩ := open_toks h0
  have s0 := toks_sized hsz (j := 0) rfl rfl g0
  obtain ⟨a1, rfl, rfl, rfl, w1⟩ := open_int Try.underlying3 (hval 1 3 v1 rfl rfl) h1
  clear hA0 hsz0 hsz
  refine (walk a0 len0 cap0 l0 a1 W w0 s0 ⟨c0, by unfold maxLen at m0; omega, n0, x0⟩).mono fun e W' ⟨he, bel⟩ => ?_
  subst he
  exact ⟨_, rfl, _, _, _, [], _, [], hW, trodAll_mk1 (shut_bool Try.underlying4 _), (trodAll_cons_mk (Below.trod laidOut (by kernel_rfl) (of_decide_eq_true (by kernel_rfl)) h0 bel lt0) (trodAll_cons_mk (shut_int Try.underlying3 w1) trodAll_mk0)), rfl, bel.frame _, fun h => by cases h⟩

set_option maxRecDepth 100000 in
theorem lifted (os : Os) (started : os.Started) (H : Type) (enc : TypeId × Value → H) :
    ReturnsInHanded {} Try.checked os 3 .any (Rows.flatChecksSpec.pre6 enc Try.prog Try.f3 Rows.flatChecksRow.domain false) (Rows.flatChecksSpec.post enc Try.prog Try.f3 false true false false) := by
  refine returnsInHanded_of_change_sized (C := Try.checked) own started (by kernel_rfl) Try.func3
    (ChangeSpec.witness6 (enc := enc) (C := Try.checked) false ⟨#[], #[.slice none 0 0, .int .i64 0], []⟩ 8 (by kernel_rfl) (by kernel_rfl) (by kernel_rfl) (by kernel_rfl)) ?_
  intro W base args ds gs before hval hW _ hsz _
  exact contract H enc W base args ds gs before hval hW hsz

theorem proved : Rows.FlatChecksSaid :=
  OpenClaim.holds_of_wide 3 Try.f3 rfl rfl rfl rfl rfl rfl rfl ⟨rfl, rfl, rfl, rfl, rfl⟩ rfl rfl rfl rfl rfl (by kernel_rfl) Try.func3 (by kernel_rfl)
    (of_decide_eq_true (by kernel_rfl)) (by unfold Func.isWrapper; first | (rw [if_pos (by decide +kernel)]; kernel_rfl) | (rw [if_neg (by decide +kernel)]; exact ⟨rfl, rfl⟩))
    (fun os started H enc _ => lifted os started H enc)
end Go.Proofs.Ytcakpdehphpibaa.flatChecks
namespace Go.Proofs.Ytcakpdehphpibaa
theorem FlatChecks_holds : Rows.FlatChecksSaid := flatChecks.proved
end Go.Proofs.Ytcakpdehphpibaa
