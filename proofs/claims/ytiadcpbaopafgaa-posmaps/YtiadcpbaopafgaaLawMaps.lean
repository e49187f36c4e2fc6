/-
  PROVED HERE: the statement PosMaps: Map of any place through any map, and Right, are as the document says; no condition.
-/
import Derived.Test.YtiadcpbaopafgaaRefMap
import Derived.Test.YtiadcpbaopafgaaFitR
namespace Go.Proofs.Ytiadcpbaopafgaa.posMaps
open Go.ChangeShapes Go.WideShapes Go.ChangeAt Go.RowKit

set_option maxRecDepth 100000 in
set_option maxHeartbeats 2000000 in
theorem walk (a : Option Addr) (len cap : Nat) (l : List Rng) (p side : Int) (w : World) (hl : Rngs w a len l) (hsz : len ≤ 6000000000000) :
    Calls Try.prog 3 #[.slice a len cap, .int .i64 p, .int .i64 side] w fun e w' => e = .returned (.bool true) ∧ Below w.heap.size w w' := by
  have H1 : Hid (∀ W, Below w.heap.size w W → _) := fun W (hW : Below w.heap.size w W) => map_calls a len cap l p side W (hl.below hW) (by omega)
  have H2 : Hid (∀ W, Below w.heap.size w W → _) := fun W (hW : Below w.heap.size w W) => refmap_calls a len cap l p side W (hl.below hW) (by omega)
  have H3 : Hid (∀ W, Below w.heap.size w W → _) := fun W (hW : Below w.heap.size w W) => right_calls a len cap l W (hl.below hW) (by omega)
  have H4 : Hid (∀ W, Below w.heap.size w W → _) := fun W (hW : Below w.heap.size w W) => refright_calls a len cap l W (hl.below hW) (by omega)
  unfold spotV at *
  generalize mapA l p side = s at *
  generalize mapE l p = e1 at *
  generalize right l = r at *
  obtain ⟨s0, s1, s2, s3⟩ := s
  simp only at *
  have hg := fun (x y : Operand) (xs ys : Array Value) (W : World) => spot_eqGuard .eql x y xs ys W
  have hq := fun W => spot_self s0 s1 s2 s3 W
  have hr : (r == r) = true := by simp
  have he : (e1 == e1) = true := by simp
  clear hl
  go_enter Try.func3, Try.ntmps3
  go_wp2_with fail
  refine (H1.out _ (Below.refl _ _)).mono ?_
  rintro e W1 ⟨rfl, hB1⟩
  obtain ⟨V1, hV1⟩ : ∃ V1, W1.alloc (.cells #[.int .i64 s0, .bool s1, .int .i64 s2, .int .i64 s3] 24) = V1 := ⟨_, rfl⟩
  have hC1 : Below w.heap.size w V1 := by rw [← hV1]; exact hB1.alloc hB1.size _
  have m1 : V1.heap[W1.heap.size]? = some (.cells #[.int .i64 s0, .bool s1, .int .i64 s2, .int .i64 s3] 24 (0, 0)) := by rw [← hV1]; exact World.alloc_heap_new W1 _
  have l1 : W1.heap.size < V1.heap.size := (Array.getElem?_eq_some_iff.1 m1).1
  have HV1 : Hid (W1.alloc (.cells #[.int .i64 s0, .bool s1, .int .i64 s2, .int .i64 s3] 24) = V1) := hV1
  clear hV1
  go_wp2_with fail
  rw [HV1.out]
  refine (H2.out _ hC1).mono ?_
  rintro e W2 ⟨rfl, hB2⟩
  have m2 := (hB2.block _ l1).trans m1
  obtain ⟨j0, j1, j2, j3⟩ := cells4 m2
  have l2 : W1.heap.size < W2.heap.size := Nat.lt_of_lt_of_le l1 hB2.size
  have hC2 := hC1.trans (hB2.mono hC1.size)
  have hC2a : ∀ ob, Below w.heap.size w (W2.alloc ob) := fun ob => hC2.alloc hC2.size _
  clear m1
  go_wp2_with fail
  refine (H3.out _ (hC2a _)).mono ?_
  rintro e W3 ⟨rfl, hB3⟩
  have hC3 := (hC2a _).trans (hB3.mono (hC2a _).size)
  go_wp2_with fail
  refine (H4.out _ hC3).mono ?_
  rintro e W4 ⟨rfl, hB4⟩
  have hC4 := hC3.trans (hB4.mono hC3.size)
  go_wp2_with fail
  refine (awake_calls _).mono ?_
  rintro e W5 ⟨rfl, hB5⟩
  go_wp2
  go_ret
  exact ⟨rfl, hC4.trans (hB5.mono hC4.size)⟩

theorem own : ownKnob Try.prog.godebug = none := by kernel_rfl
theorem laidOut : laidOutB Try.prog = true := by kernel_rfl

theorem contract (H : Type) (enc : TypeId × Value → H) (W : World) (base : Nat) (args : Array Value) (ds gs : List (DataW H)) (before : List MemPlace)
    (hval : ∀ (j : Nat) t v, Try.f3.params[j]? = some t → args[j]? = some v → Value.okWide Try.prog W .any base t v)
    (hW : DataW.Whole enc Try.prog Try.f3.params.toList Rows.posMapsSpec.vars false W args.toList ds gs before) (hsz0 : (DataW.weightsEach Try.prog (Try.f3.params.toList ++ Rows.posMapsSpec.plain.varTypes Try.prog) (ds ++ gs)).all (· ≤ reachBytes) = true) :
    Calls Try.prog 3 args W fun e W' => ∃ v, e = .returned v ∧ Rows.posMapsSpec.post enc Try.prog Try.f3 false true false false W args v W' := by
  have hW' := hW
  obtain ⟨p, q, hA0, hV, rfl, hfz, hnd⟩ := hW'
  have hA : DataW.TrodAll enc Try.prog W 0 (fun _ => true) true Try.f3.params.toList args.toList ds p := hA0
  have hsz : (DataW.weightsEach Try.prog (Try.f3.params.toList ++ Rows.posMapsSpec.plain.varTypes Try.prog) (ds ++ gs)).all (· ≤ reachBytes) = true := hsz0
  rw [Try.params3] at hA hval hsz
  obtain ⟨v0, vs0, d0, ds0, p0, q0, hargs, rfl, rfl, h0, r0⟩ := trodAll_cons hA
  obtain ⟨v1, vs1, d1, ds1, p1, q1, rfl, rfl, rfl, h1, r1⟩ := trodAll_cons r0
  obtain ⟨v2, vs2, d2, ds2, p2, q2, rfl, rfl, rfl, h2, r2⟩ := trodAll_cons r1
  obtain ⟨rfl, rfl, rfl⟩ := trodAll_nil r2
  obtain rfl : args = #[v0, v1, v2] := by cases args; simp_all
  obtain ⟨rfl, rfl⟩ := trodVars_none hV
  obtain ⟨a0, len0, cap0, rfl⟩ := okWide_slice Try.underlying22 (hval 0 22 v0 rfl rfl)
  have lt0 : ∀ x ∈ p0, x.block < W.heap.size := by obtain ⟨m, hm⟩ := h0; exact DataW.trod_lt m _ _ _ hm
  obtain ⟨l0, w0, f0, c0, m0, n0, x0, g0⟩ := open_rngs h0
  have s0 := rngs_sized hsz (j := 0) rfl rfl g0
  obtain ⟨a1, rfl, rfl, rfl, w1⟩ := open_int Try.underlying3 (hval 1 3 v1 rfl rfl) h1
  obtain ⟨a2, rfl, rfl, rfl, w2⟩ := open_int Try.underlying3 (hval 2 3 v2 rfl rfl) h2
  clear hA0 hsz0 hsz
  refine (walk a0 len0 cap0 l0 a1 a2 W w0 s0).mono fun e W' ⟨he, bel⟩ => ?_
  subst he
  exact ⟨_, rfl, _, _, _, [], _, [], hW, trodAll_mk1 (shut_bool Try.underlying4 _), (trodAll_cons_mk (Below.trod laidOut (by kernel_rfl) (of_decide_eq_true (by kernel_rfl)) h0 bel lt0) (trodAll_cons_mk (shut_int Try.underlying3 w1) (trodAll_cons_mk (shut_int Try.underlying3 w2) trodAll_mk0))), rfl, bel.frame _, fun h => by cases h⟩

set_option maxRecDepth 100000 in
theorem lifted (os : Os) (started : os.Started) (H : Type) (enc : TypeId × Value → H) :
    ReturnsInHanded {} Try.checked os 3 .any (Rows.posMapsSpec.pre6 enc Try.prog Try.f3 Rows.posMapsRow.domain false) (Rows.posMapsSpec.post enc Try.prog Try.f3 false true false false) := by
  refine returnsInHanded_of_change_sized (C := Try.checked) own started (by kernel_rfl) Try.func3
    (ChangeSpec.witness6 (enc := enc) (C := Try.checked) false ⟨#[], #[.slice none 0 0, .int .i64 0, .int .i64 0], []⟩ 8 (by kernel_rfl) (by kernel_rfl) (by kernel_rfl) (by kernel_rfl)) ?_
  intro W base args ds gs before hval hW _ hsz _
  exact contract H enc W base args ds gs before hval hW hsz

theorem proved : Rows.PosMapsSaid :=
  OpenClaim.holds_of_wide 3 Try.f3 rfl rfl rfl rfl rfl rfl rfl ⟨rfl, rfl, rfl, rfl, rfl⟩ rfl rfl rfl rfl rfl (by kernel_rfl) Try.func3 (by kernel_rfl)
    (of_decide_eq_true (by kernel_rfl)) (by unfold Func.isWrapper; first | (rw [if_pos (by decide +kernel)]; kernel_rfl) | (rw [if_neg (by decide +kernel)]; exact ⟨rfl, rfl⟩))
    (fun os started H enc _ => lifted os started H enc)
end Go.Proofs.Ytiadcpbaopafgaa.posMaps
namespace Go.Proofs.Ytiadcpbaopafgaa
theorem PosMaps_holds : Rows.PosMapsSaid := posMaps.proved
end Go.Proofs.Ytiadcpbaopafgaa
