/-
  PROVED HERE: the statement PosTurns: any map turned round, and any place recovered, are as the document says; no condition.
-/
import Derived.Test.YtiadcpbaopafgaaInvC
import Derived.Test.YtiadcpbaopafgaaRefInv
import Derived.Test.YtiadcpbaopafgaaRefRec
import Derived.Test.YtiadcpbaopafgaaRanges
namespace Go.Proofs.Ytiadcpbaopafgaa.posTurns
open Go.ChangeShapes Go.WideShapes Go.ChangeAt Go.RowKit

theorem refinv_call (a : Option Addr) (len cap : Nat) (l : List Rng) (w : World) (hl : Rngs w a len l) (hz : len ≤ 140737488355328) :
    Calls Try.prog 15 #[.slice a len cap] w fun e w' => ∃ a1 c1, e = .returned (.tuple #[.slice a1 (inv l).length c1, .int .i64 (invE l)]) ∧ Rngs w' a1 (inv l).length (inv l) ∧ Below w.heap.size w w' := by
  refine (refinvert_calls a len cap l w hl hz).mono ?_
  rintro e w' ⟨v, rfl, h1, h2⟩
  obtain ⟨a1, c1, rfl, h3, _⟩ := rngs_of_owns h1
  exact ⟨a1, c1, rfl, h3, h2⟩

set_option maxRecDepth 100000 in
set_option maxHeartbeats 2000000 in
theorem walk (a : Option Addr) (len cap : Nat) (l : List Rng) (inn off : Int) (w : World) (hl : Rngs w a len l) (hsz : len ≤ 6000000000000) :
    Calls Try.prog 4 #[.slice a len cap, .int .i64 inn, .int .i64 off] w fun e w' => e = .returned (.bool true) ∧ Below w.heap.size w w' := by
  have H1 : Hid (∀ W, Below w.heap.size w W → _) := fun W (hW : Below w.heap.size w W) => inv_call a len cap l W (hl.below hW) (by omega)
  have H2 : Hid (∀ W, Below w.heap.size w W → _) := fun W (hW : Below w.heap.size w W) => refinv_call a len cap l W (hl.below hW) (by omega)
  have H3 : Hid (∀ W, Below w.heap.size w W → _) := fun W (hW : Below w.heap.size w W) => recover_calls a len cap l inn off W (hl.below hW) (by omega)
  have H4 : Hid (∀ W, Below w.heap.size w W → _) := fun W (hW : Below w.heap.size w W) => refrecover_calls a len cap l inn off W (hl.below hW) (by omega)
  have hn := inv_short l
  generalize invE l = E at *
  generalize recV l inn off = RV at *
  generalize recE l inn off = RE at *
  generalize inv l = L at *
  have HR : Hid (∀ (W : World) (a1 a2 : Option Addr) (c1 c2 : Nat), Rngs W a1 L.length L → Rngs W a2 L.length L → Calls Try.prog 18 #[.slice a1 L.length c1, .slice a2 L.length c2] W fun e w' => e = .returned (.bool true) ∧ Below W.heap.size W w') := fun W a1 a2 c1 c2 h1 h2 => by
    have := ranges_calls a1 a2 L.length L.length c1 c2 L L W h1 h2 (by omega) (by omega)
    rw [(eqRs_iff L L).2 rfl] at this
    exact this
  generalize hN : L.length = N at *
  have e1 : (E == E) = true := by simp
  have e2 : (RV == RV) = true := by simp
  have e3 : (RE == RE) = true := by simp
  clear hl hN
  go_enter Try.func4, Try.ntmps4
  go_wp2_with fail
  refine (H1.out _ (Below.refl _ _)).mono ?_
  rintro e W1 ⟨a1, c1, rfl, r1, hB1⟩
  go_wp2_with fail
  refine (H2.out _ hB1).mono ?_
  rintro e W2 ⟨a2, c2, rfl, r2, hB2⟩
  have hC2 := hB1.trans (hB2.mono hB1.size)
  replace r1 := r1.below hB2
  go_wp2_with fail
  refine (H3.out _ hC2).mono ?_
  rintro e W3 ⟨rfl, hB3⟩
  have hC3 := hC2.trans (hB3.mono hC2.size)
  replace r1 := r1.below hB3
  replace r2 := r2.below hB3
  go_wp2_with fail
  refine (H4.out _ hC3).mono ?_
  rintro e W4 ⟨rfl, hB4⟩
  have hC4 := hC3.trans (hB4.mono hC3.size)
  replace r1 := r1.below hB4
  replace r2 := r2.below hB4
  have R1 : Hid _ := r1
  have R2 : Hid _ := r2
  clear r1 r2
  go_wp2_with fail
  refine (HR.out _ _ _ _ _ R1.out R2.out).mono ?_
  rintro e W5 ⟨rfl, hB5⟩
  have hC5 := hC4.trans (hB5.mono hC4.size)
  go_wp2_with fail
  refine (awake_calls _).mono ?_
  rintro e W6 ⟨rfl, hB6⟩
  go_wp2
  go_ret
  exact ⟨rfl, hC5.trans (hB6.mono hC5.size)⟩

theorem own : ownKnob Try.prog.godebug = none := by kernel_rfl
theorem laidOut : laidOutB Try.prog = true := by kernel_rfl

theorem contract (H : Type) (enc : TypeId × Value → H) (W : World) (base : Nat) (args : Array Value) (ds gs : List (DataW H)) (before : List MemPlace)
    (hval : ∀ (j : Nat) t v, Try.f4.params[j]? = some t → args[j]? = some v → Value.okWide Try.prog W .any base t v)
    (hW : DataW.Whole enc Try.prog Try.f4.params.toList Rows.posTurnsSpec.vars false W args.toList ds gs before) (hsz0 : (DataW.weightsEach Try.prog (Try.f4.params.toList ++ Rows.posTurnsSpec.plain.varTypes Try.prog) (ds ++ gs)).all (· ≤ reachBytes) = true) :
    Calls Try.prog 4 args W fun e W' => ∃ v, e = .returned v ∧ Rows.posTurnsSpec.post enc Try.prog Try.f4 false true false false W args v W' := by
  have hW' := hW
  obtain ⟨p, q, hA0, hV, rfl, hfz, hnd⟩ := hW'
  have hA : DataW.TrodAll enc Try.prog W 0 (fun _ => true) true Try.f4.params.toList args.toList ds p := hA0
  have hsz : (DataW.weightsEach Try.prog (Try.f4.params.toList ++ Rows.posTurnsSpec.plain.varTypes Try.prog) (ds ++ gs)).all (· ≤ reachBytes) = true := hsz0
  rw [Try.params4] at hA hval hsz
  obtain ⟨v0, vs0, d0, ds0, p0, q0, hargs, rfl, rfl, h0, r0⟩ := trodAll_cons hA
  obtain ⟨v1, vs1, d1, ds1, p1, q1, rfl, rfl, rfl, h1, r1⟩ := trodAll_cons r0
  obtain ⟨v2, vs2, d2, ds2, p2, q2, rfl, rfl, rfl, h2, r2⟩ := trodAll_cons r1
  obtain ⟨rfl, rfl, rfl⟩ := trodAll_nil r2
  obtain rfl : args = #[v0, v1, v2] := by cases args; simp_all
  obtain ⟨rfl, rfl⟩ := trodVars_none hV
  obtain ⟨a0, len0, cap0, rfl⟩ := okWide_slice Try.underlying22 (hval 0 22 v0 rfl rfl)
  have lt0 : ∀ x ∈ p0, x.block < W.heap.size := by obtain ⟨m, hm⟩ := h0; exact DataW.trod_lt m _ _ _ hm
  obtain ⟨l0, w0, f0, c0, m0, n0, x0, g0⟩ := open_rngs h0
  have s0 := rngs_sized hsz (j := 0) rfl rfl g0
  obtain ⟨a1, rfl, rfl, rfl, w1⟩ := open_int Try.underlying3 (hval 1 3 v1 rfl rfl) h1
  obtain ⟨a2, rfl, rfl, rfl, w2⟩ := open_int Try.underlying3 (hval 2 3 v2 rfl rfl) h2
  clear hA0 hsz0 hsz
  refine (walk a0 len0 cap0 l0 a1 a2 W w0 s0).mono fun e W' ⟨he, bel⟩ => ?_
  subst he
  exact ⟨_, rfl, _, _, _, [], _, [], hW, trodAll_mk1 (shut_bool Try.underlying4 _), (trodAll_cons_mk (Below.trod laidOut (by kernel_rfl) (of_decide_eq_true (by kernel_rfl)) h0 bel lt0) (trodAll_cons_mk (shut_int Try.underlying3 w1) (trodAll_cons_mk (shut_int Try.underlying3 w2) trodAll_mk0))), rfl, bel.frame _, fun h => by cases h⟩

set_option maxRecDepth 100000 in
theorem lifted (os : Os) (started : os.Started) (H : Type) (enc : TypeId × Value → H) :
    ReturnsInHanded {} Try.checked os 4 .any (Rows.posTurnsSpec.pre6 enc Try.prog Try.f4 Rows.posTurnsRow.domain false) (Rows.posTurnsSpec.post enc Try.prog Try.f4 false true false false) := by
  refine returnsInHanded_of_change_sized (C := Try.checked) own started (by kernel_rfl) Try.func4
    (ChangeSpec.witness6 (enc := enc) (C := Try.checked) false ⟨#[], #[.slice none 0 0, .int .i64 0, .int .i64 0], []⟩ 8 (by kernel_rfl) (by kernel_rfl) (by kernel_rfl) (by kernel_rfl)) ?_
  intro W base args ds gs before hval hW _ hsz _
  exact contract H enc W base args ds gs before hval hW hsz

theorem proved : Rows.PosTurnsSaid :=
  OpenClaim.holds_of_wide 4 Try.f4 rfl rfl rfl rfl rfl rfl rfl ⟨rfl, rfl, rfl, rfl, rfl⟩ rfl rfl rfl rfl rfl (by kernel_rfl) Try.func4 (by kernel_rfl)
    (of_decide_eq_true (by kernel_rfl)) (by unfold Func.isWrapper; first | (rw [if_pos (by decide +kernel)]; kernel_rfl) | (rw [if_neg (by decide +kernel)]; exact ⟨rfl, rfl⟩))
    (fun os started H enc _ => lifted os started H enc)
end Go.Proofs.Ytiadcpbaopafgaa.posTurns
namespace Go.Proofs.Ytiadcpbaopafgaa
theorem PosTurns_holds : Rows.PosTurnsSaid := posTurns.proved
end Go.Proofs.Ytiadcpbaopafgaa
