/-
  PROVED HERE: the statement SumSums: at any bytes and any sum sum.Of and sum.More answer as the document says; no condition.
-/
import Derived.Test.YtomfmakljffgmaaArgs
namespace Go.Proofs.Ytomfmakljffgmaa.sumSums
open Go.ChangeShapes Go.WideShapes Go.ChangeAt Go.RowKit

set_option maxRecDepth 100000 in
set_option maxHeartbeats 1000000 in
theorem walk (a0 : Option Addr) (len0 cap0 : Nat) (z0 : List Int) (a1 : Int) (w : World) (w0 : Row .u8 w a0 len0 z0) (u0 : Bytes z0) (s0 : len0 ≤ 140737488351232) (w1 : (Lit.int .u32 a1).wf = true) :
    Calls Try.prog 3 #[.slice a0 len0 cap0, .int .u32 a1] w fun e w' => e = .returned (.bool true) ∧ Below w.heap.size w w' := by
  obtain ⟨p1, q1⟩ := of_wf_u32 w1
  obtain ⟨v0, W1, hrun, hown, hv0, hB1⟩ := clone_own a0 len0 cap0 z0 w w0 (by omega)
  obtain ⟨g, cap, _, rfl, _, _, _, _, hr⟩ := row_of_owns hown hv0
  clear hown hv0
  go_enter Try.func3, Try.ntmps3
  go_wp2_with (at_builtin; refine wpList_append_run rfl _ _ 22 rfl _ _ _ _ rfl rfl hrun ?_)
  refine (of_calls _ len0 cap z0 W1 hr u0 (by omega)).mono ?_
  rintro e W2 ⟨rfl, hB2⟩
  have b2 : Below w.heap.size w W2 := hB1.trans (hB2.mono hB1.size)
  go_wp2_with fail
  refine (refOf_calls a0 len0 cap0 z0 W2 (w0.below b2) u0 (by omega)).mono ?_
  rintro e W3 ⟨rfl, hB3⟩
  have b3 : Below w.heap.size w W3 := b2.trans (hB3.mono b2.size)
  generalize more 1 z0 = x1
  go_wp2_with fail
  refine (more_calls a1 a0 len0 cap0 z0 W3 p1 q1 (w0.below b3) u0 (by omega)).mono ?_
  rintro e W4 ⟨rfl, hB4⟩
  have b4 : Below w.heap.size w W4 := b3.trans (hB4.mono b3.size)
  go_wp2_with fail
  refine (refMore_calls a1 a0 len0 cap0 z0 W4 p1 q1 (w0.below b4) u0 (by omega)).mono ?_
  rintro e W5 ⟨rfl, hB5⟩
  have b5 : Below w.heap.size w W5 := b4.trans (hB5.mono b4.size)
  generalize more a1 z0 = x2
  go_wp2_with fail
  refine (awake_calls _).mono ?_
  rintro e W6 ⟨rfl, hB6⟩
  go_wp2
  go_ret
  exact ⟨rfl, b5.trans (hB6.mono b5.size)⟩

theorem own : ownKnob Try.prog.godebug = none := by kernel_rfl
theorem laidOut : laidOutB Try.prog = true := by kernel_rfl

theorem contract (H : Type) (enc : TypeId × Value → H) (W : World) (base : Nat) (args : Array Value) (ds gs : List (DataW H)) (before : List MemPlace)
    (hval : ∀ (j : Nat) t v, Try.f3.params[j]? = some t → args[j]? = some v → Value.okWide Try.prog W .any base t v)
    (hW : DataW.Whole enc Try.prog Try.f3.params.toList Rows.sumSumsSpec.vars false W args.toList ds gs before) (hsz0 : (DataW.weightsEach Try.prog (Try.f3.params.toList ++ Rows.sumSumsSpec.plain.varTypes Try.prog) (ds ++ gs)).all (· ≤ reachBytes) = true) :
    Calls Try.prog 3 args W fun e W' => ∃ v, e = .returned v ∧ Rows.sumSumsSpec.post enc Try.prog Try.f3 false true false false W args v W' := by
  have hW' := hW
  obtain ⟨p, q, hA0, hV, rfl, hfz, hnd⟩ := hW
  have hA : DataW.TrodAll enc Try.prog W 0 (fun _ => true) true Try.f3.params.toList args.toList ds p := hA0
  have hsz : (DataW.weightsEach Try.prog (Try.f3.params.toList ++ Rows.sumSumsSpec.plain.varTypes Try.prog) (ds ++ gs)).all (· ≤ reachBytes) = true := hsz0
  rw [Try.params3] at hA hval hsz
  obtain ⟨v0, vs0, d0, ds0, p0, q0, hargs, rfl, rfl, h0, r0⟩ := trodAll_cons hA
  obtain ⟨v1, vs1, d1, ds1, p1, q1, rfl, rfl, rfl, h1, r1⟩ := trodAll_cons r0
  obtain ⟨rfl, rfl, rfl⟩ := trodAll_nil r1
  obtain rfl : args = #[v0, v1] := by cases args; simp_all
  obtain ⟨rfl, rfl⟩ := trodVars_none hV
  obtain ⟨a0, len0, cap0, rfl⟩ := okWide_slice Try.underlying22 (hval 0 22 v0 rfl rfl)
  have k0 := h0
  have lt0 : ∀ x ∈ p0, x.block < W.heap.size := by obtain ⟨m, hm⟩ := k0; exact DataW.trod_lt m _ _ _ hm
  obtain ⟨z0, w0, f0, _, g0⟩ := open_arg Try.underlying22 Try.underlying5 (by kernel_rfl) h0
  have s0 := holds_sized hsz (j := 0) (t := 22) (e := 5) rfl rfl Try.underlying22 (by kernel_rfl) g0
  obtain ⟨a1, rfl, rfl, rfl, w1⟩ := open_int Try.underlying23 (hval 1 23 v1 rfl rfl) h1
  clear hA0 hsz0 hsz
  refine (walk a0 len0 cap0 z0 a1 W w0 (bytes_of_wf f0) s0 w1).mono fun e W' ⟨he, bel⟩ => ?_
  subst he
  exact ⟨_, rfl, _, _, _, [], _, [], hW', trodAll_mk1 (shut_bool Try.underlying4 _), (trodAll_cons_mk (Below.trod laidOut (by kernel_rfl) (of_decide_eq_true (by kernel_rfl)) k0 bel lt0) (trodAll_cons_mk (shut_int Try.underlying23 w1) trodAll_mk0)), rfl, bel.frame _, fun h => by cases h⟩

set_option maxRecDepth 100000 in
theorem lifted (os : Os) (started : os.Started) (H : Type) (enc : TypeId × Value → H) :
    ReturnsInHanded {} Try.checked os 3 .any (Rows.sumSumsSpec.pre6 enc Try.prog Try.f3 Rows.sumSumsRow.domain false) (Rows.sumSumsSpec.post enc Try.prog Try.f3 false true false false) := by
  refine returnsInHanded_of_change_sized (C := Try.checked) own started (by kernel_rfl) Try.func3
    (ChangeSpec.witness6 (enc := enc) (C := Try.checked) false ⟨#[], #[.slice none 0 0, .int .u32 0], []⟩ 8 (by kernel_rfl) (by kernel_rfl) (by kernel_rfl) (by kernel_rfl)) ?_
  intro W base args ds gs before hval hW _ hsz _
  exact contract H enc W base args ds gs before hval hW hsz

theorem proved : Rows.SumSumsSaid :=
  OpenClaim.holds_of_wide 3 Try.f3 rfl rfl rfl rfl rfl rfl rfl ⟨rfl, rfl, rfl, rfl, rfl⟩ rfl rfl rfl rfl rfl (by kernel_rfl) Try.func3 (by kernel_rfl)
    (of_decide_eq_true (by kernel_rfl)) (by unfold Func.isWrapper; first | (rw [if_pos (by decide +kernel)]; kernel_rfl) | (rw [if_neg (by decide +kernel)]; exact ⟨rfl, rfl⟩))
    (fun os started H enc _ => lifted os started H enc)
end Go.Proofs.Ytomfmakljffgmaa.sumSums
namespace Go.Proofs.Ytomfmakljffgmaa
theorem SumSums_holds : Rows.SumSumsSaid := sumSums.proved
end Go.Proofs.Ytomfmakljffgmaa
