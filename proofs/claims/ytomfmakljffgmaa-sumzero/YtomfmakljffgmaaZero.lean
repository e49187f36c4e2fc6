/-
  PROVED HERE: the statement SumZero: the sum of any bytes stays where nothing is added, and a count below 0 is refused; no condition.
-/
import Derived.Test.YtomfmakljffgmaaArgs
namespace Go.Proofs.Ytomfmakljffgmaa.sumZero
open Go.ChangeShapes Go.WideShapes Go.ChangeAt Go.RowKit

set_option maxRecDepth 100000 in
set_option maxHeartbeats 1000000 in
theorem walk (a0 : Option Addr) (len0 cap0 : Nat) (z0 : List Int) (w : World) (w0 : Row .u8 w a0 len0 z0) (u0 : Bytes z0) (s0 : len0 ≤ 140737488351232) :
    Calls Try.prog 7 #[.slice a0 len0 cap0] w fun e w' => e = .returned (.bool true) ∧ Below w.heap.size w w' := by
  obtain ⟨p, q⟩ := more_fits 1 z0
  have hl : z0.length = len0 := w0.1
  have h1 := fun W => join_calls (more 1 z0) 1 0 W p q (by omega) (by omega) (by omega) (by omega)
  have h2 := fun W => join_calls 1 (more 1 z0) (len0 : Int) W (by omega) (by omega) p q (by omega) (by omega)
  have h3 := fun W => join_calls (more 1 z0) (more 1 z0) (-1 - (len0 : Int)) W p q p q (by omega) (by omega)
  have h4 := fun W => more_calls (more 1 z0) none 0 0 [] W p q (row_nil _ _) (by intro c hc; cases hc) (by omega)
  have e1 : joinA (more 1 z0) 1 0 = (more 1 z0, 0) := by unfold joinA; rw [if_neg (by omega), join_one]
  have e2 : joinA 1 (more 1 z0) (len0 : Int) = (more 1 z0, 0) := by unfold joinA; rw [if_neg (by omega), ← hl, one_join]
  have e3 : joinA (more 1 z0) (more 1 z0) (-1 - (len0 : Int)) = (0, 1) := by unfold joinA; rw [if_pos (by omega)]
  have h0 := of_calls a0 len0 cap0 z0 w w0 u0 (by omega)
  rw [e1] at h1
  rw [e2] at h2
  rw [e3] at h3
  rw [more_none] at h4
  clear e1 e2 e3
  generalize more 1 z0 = x at *
  have H0 : Hid (Calls Try.prog 8 #[.slice a0 len0 cap0] w fun e w' => e = .returned (.int .u32 x) ∧ Below w.heap.size w w') := h0
  have H1 : Hid (∀ W : World, Calls Try.prog 13 #[.int .u32 x, .int .u32 1, .int .i64 0] W fun e w' => e = .returned (.tuple #[.int .u32 x, .int .i64 0]) ∧ w' = W) := h1
  have H2 : Hid (∀ W : World, Calls Try.prog 13 #[.int .u32 1, .int .u32 x, .int .i64 (len0 : Int)] W fun e w' => e = .returned (.tuple #[.int .u32 x, .int .i64 0]) ∧ w' = W) := h2
  have H3 : Hid (∀ W : World, Calls Try.prog 13 #[.int .u32 x, .int .u32 x, .int .i64 (-1 - (len0 : Int))] W fun e w' => e = .returned (.tuple #[.int .u32 0, .int .i64 1]) ∧ w' = W) := h3
  have H4 : Hid (∀ W : World, Calls Try.prog 10 #[.int .u32 x, .slice none 0 0] W fun e w' => e = .returned (.int .u32 x) ∧ Below W.heap.size W w') := h4
  clear h0 h1 h2 h3 h4
  go_enter Try.func7, Try.ntmps7
  go_wp2_with fail
  refine H0.out.mono ?_
  rintro e W1 ⟨rfl, hB1⟩
  go_wp2_with fail
  refine (H1.out W1).mono ?_
  rintro e w' ⟨rfl, rfl⟩
  go_wp2_with fail
  refine (H2.out _).mono ?_
  rintro e w' ⟨rfl, rfl⟩
  go_wp2_with fail
  refine (H3.out _).mono ?_
  rintro e w' ⟨rfl, rfl⟩
  go_wp2_with fail
  refine (H4.out _).mono ?_
  rintro e W2 ⟨rfl, hB2⟩
  have b2 : Below w.heap.size w W2 := hB1.trans (hB2.mono hB1.size)
  go_wp2_with fail
  refine (awake_calls _).mono ?_
  rintro e W6 ⟨rfl, hB6⟩
  go_wp2
  go_ret
  exact ⟨rfl, b2.trans (hB6.mono b2.size)⟩

theorem own : ownKnob Try.prog.godebug = none := by kernel_rfl
theorem laidOut : laidOutB Try.prog = true := by kernel_rfl

theorem contract (H : Type) (enc : TypeId × Value → H) (W : World) (base : Nat) (args : Array Value) (ds gs : List (DataW H)) (before : List MemPlace)
    (hval : ∀ (j : Nat) t v, Try.f7.params[j]? = some t → args[j]? = some v → Value.okWide Try.prog W .any base t v)
    (hW : DataW.Whole enc Try.prog Try.f7.params.toList Rows.sumZeroSpec.vars false W args.toList ds gs before) (hsz0 : (DataW.weightsEach Try.prog (Try.f7.params.toList ++ Rows.sumZeroSpec.plain.varTypes Try.prog) (ds ++ gs)).all (· ≤ reachBytes) = true) :
    Calls Try.prog 7 args W fun e W' => ∃ v, e = .returned v ∧ Rows.sumZeroSpec.post enc Try.prog Try.f7 false true false false W args v W' := by
  have hW' := hW
  obtain ⟨p, q, hA0, hV, rfl, hfz, hnd⟩ := hW
  have hA : DataW.TrodAll enc Try.prog W 0 (fun _ => true) true Try.f7.params.toList args.toList ds p := hA0
  have hsz : (DataW.weightsEach Try.prog (Try.f7.params.toList ++ Rows.sumZeroSpec.plain.varTypes Try.prog) (ds ++ gs)).all (· ≤ reachBytes) = true := hsz0
  rw [Try.params7] at hA hval hsz
  obtain ⟨v0, vs0, d0, ds0, p0, q0, hargs, rfl, rfl, h0, r0⟩ := trodAll_cons hA
  obtain ⟨rfl, rfl, rfl⟩ := trodAll_nil r0
  obtain rfl : args = #[v0] := by cases args; simp_all
  obtain ⟨rfl, rfl⟩ := trodVars_none hV
  obtain ⟨a0, len0, cap0, rfl⟩ := okWide_slice Try.underlying22 (hval 0 22 v0 rfl rfl)
  have k0 := h0
  have lt0 : ∀ x ∈ p0, x.block < W.heap.size := by obtain ⟨m, hm⟩ := k0; exact DataW.trod_lt m _ _ _ hm
  obtain ⟨z0, w0, f0, _, g0⟩ := open_arg Try.underlying22 Try.underlying5 (by kernel_rfl) h0
  have s0 := holds_sized hsz (j := 0) (t := 22) (e := 5) rfl rfl Try.underlying22 (by kernel_rfl) g0
  clear hA0 hsz0 hsz
  refine (walk a0 len0 cap0 z0 W w0 (bytes_of_wf f0) s0).mono fun e W' ⟨he, bel⟩ => ?_
  subst he
  exact ⟨_, rfl, _, _, _, [], _, [], hW', trodAll_mk1 (shut_bool Try.underlying4 _), (trodAll_cons_mk (Below.trod laidOut (by kernel_rfl) (of_decide_eq_true (by kernel_rfl)) k0 bel lt0) trodAll_mk0), rfl, bel.frame _, fun h => by cases h⟩

set_option maxRecDepth 100000 in
theorem lifted (os : Os) (started : os.Started) (H : Type) (enc : TypeId × Value → H) :
    ReturnsInHanded {} Try.checked os 7 .any (Rows.sumZeroSpec.pre6 enc Try.prog Try.f7 Rows.sumZeroRow.domain false) (Rows.sumZeroSpec.post enc Try.prog Try.f7 false true false false) := by
  refine returnsInHanded_of_change_sized (C := Try.checked) own started (by kernel_rfl) Try.func7
    (ChangeSpec.witness6 (enc := enc) (C := Try.checked) false ⟨#[], #[.slice none 0 0], []⟩ 8 (by kernel_rfl) (by kernel_rfl) (by kernel_rfl) (by kernel_rfl)) ?_
  intro W base args ds gs before hval hW _ hsz _
  exact contract H enc W base args ds gs before hval hW hsz

theorem proved : Rows.SumZeroSaid :=
  OpenClaim.holds_of_wide 7 Try.f7 rfl rfl rfl rfl rfl rfl rfl ⟨rfl, rfl, rfl, rfl, rfl⟩ rfl rfl rfl rfl rfl (by kernel_rfl) Try.func7 (by kernel_rfl)
    (of_decide_eq_true (by kernel_rfl)) (by unfold Func.isWrapper; first | (rw [if_pos (by decide +kernel)]; kernel_rfl) | (rw [if_neg (by decide +kernel)]; exact ⟨rfl, rfl⟩))
    (fun os started H enc _ => lifted os started H enc)
end Go.Proofs.Ytomfmakljffgmaa.sumZero
namespace Go.Proofs.Ytomfmakljffgmaa
theorem SumZero_holds : Rows.SumZeroSaid := sumZero.proved
end Go.Proofs.Ytomfmakljffgmaa
