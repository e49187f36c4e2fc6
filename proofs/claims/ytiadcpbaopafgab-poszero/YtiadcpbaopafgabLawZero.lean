/-
  PROVED HERE: the statement PosZero: a mapping that nobody made, and a nil one, answer ErrZero and 0; no condition.
-/
import Derived.Test.YtiadcpbaopafgabZero
import Derived.Test.YtiadcpbaopafgabFitR
namespace Go.Proofs.Ytiadcpbaopafgab.posZero
open Go.ChangeShapes Go.WideShapes Go.ChangeAt Go.RowKit

set_option maxRecDepth 100000 in
set_option maxHeartbeats 2000000 in
theorem walk (a : Option Addr) (len cap : Nat) (p : Int) (w : World) :
    Calls Try.prog 3 #[.slice a len cap, .int .i64 p] w fun e w' => e = .returned (.bool true) ∧ Below w.heap.size w w' := by
  obtain ⟨W1, hW1⟩ : ∃ W1, w.alloc (.cells #[.slice none 0 0, .bool false] 26) = W1 := ⟨_, rfl⟩
  have hB0 : Below w.heap.size w W1 := by rw [← hW1]; exact (Below.refl _ _).alloc (Nat.le_refl _) _
  have m0 : W1.heap[w.heap.size]? = some (.cells #[.slice none 0 0, .bool false] 26 (0, 0)) := by rw [← hW1]; exact World.alloc_heap_new w _
  have hmB : ∀ X, Below W1.heap.size W1 X → MadeAt X (some ⟨w.heap.size, 0, none⟩) false := fun X hX => .inr ⟨w.heap.size, rfl, Nat.lt_of_lt_of_le (Array.getElem?_eq_some_iff.1 m0).1 hX.size, cell_of_row X _ 1 _ _ _ ((hX.block _ (Array.getElem?_eq_some_iff.1 m0).1).trans m0)⟩
  have hmN : ∀ X : World, MadeAt X none false := fun X => .inl ⟨rfl, rfl⟩
  have HW1 : Hid (w.alloc (.cells #[.slice none 0 0, .bool false] 26) = W1) := hW1
  have C1 : Hid (∀ X : World, _) := fun X => zmap_calls none 0 p 1 X (hmN X)
  have C2 : Hid (∀ X, Below W1.heap.size W1 X → _) := fun X (hX : Below W1.heap.size W1 X) => zmap_calls (some ⟨w.heap.size, 0, none⟩) 0 p 1 X (hmB X hX)
  have C3 : Hid (∀ X : World, _) := fun X => zadd_calls none (.slice a len cap) X (hmN X)
  have C4 : Hid (∀ X, Below W1.heap.size W1 X → _) := fun X (hX : Below W1.heap.size W1 X) => zadd_calls (some ⟨w.heap.size, 0, none⟩) (.slice a len cap) X (hmB X hX)
  have C5 : Hid (∀ X : World, _) := fun X => zmirror_calls none 0 1 X (hmN X)
  have C6 : Hid (∀ X, Below W1.heap.size W1 X → _) := fun X (hX : Below W1.heap.size W1 X) => zmirror_calls (some ⟨w.heap.size, 0, none⟩) 0 1 X (hmB X hX)
  have C7 : Hid (∀ X : World, _) := fun X => zlen_calls none X (hmN X)
  have C8 : Hid (∀ X, Below W1.heap.size W1 X → _) := fun X (hX : Below W1.heap.size W1 X) => zlen_calls (some ⟨w.heap.size, 0, none⟩) X (hmB X hX)
  clear hW1 m0 hmB hmN
  go_enter Try.func3, Try.ntmps3
  go_wp2_with fail
  rw [HW1.out]
  refine (C1.out W1).mono ?_
  rintro e X1 ⟨rfl, hX1⟩
  have hA1 : ∀ ob, Below W1.heap.size W1 (X1.alloc ob) := fun ob => hX1.alloc hX1.size _
  go_wp2_with fail
  refine (C2.out _ (hA1 _)).mono ?_
  rintro e X2 ⟨rfl, hX2⟩
  have hC2 := (hA1 _).trans (hX2.mono (hA1 _).size)
  have hA2 : ∀ ob, Below W1.heap.size W1 (X2.alloc ob) := fun ob => hC2.alloc hC2.size _
  have hEND : ∀ ob, Below w.heap.size w (X2.alloc ob) := fun ob => hB0.trans ((hA2 ob).mono hB0.size)
  go_wp2_with fail
  refine (C3.out _).mono ?_
  rintro e w' ⟨rfl, rfl⟩
  go_wp2_with fail
  refine (C4.out _ (hA2 _)).mono ?_
  rintro e w' ⟨rfl, rfl⟩
  go_wp2_with fail
  refine (C5.out _).mono ?_
  rintro e w' ⟨rfl, rfl⟩
  go_wp2_with fail
  refine (C6.out _ (hA2 _)).mono ?_
  rintro e w' ⟨rfl, rfl⟩
  go_wp2_with fail
  refine (C7.out _).mono ?_
  rintro e w' ⟨rfl, rfl⟩
  go_wp2_with fail
  refine (C8.out _ (hA2 _)).mono ?_
  rintro e w' ⟨rfl, rfl⟩
  go_wp2
  go_ret
  exact ⟨rfl, hEND _⟩

theorem own : ownKnob Try.prog.godebug = none := by kernel_rfl
theorem laidOut : laidOutB Try.prog = true := by kernel_rfl

theorem contract (H : Type) (enc : TypeId × Value → H) (W : World) (base : Nat) (args : Array Value) (ds gs : List (DataW H)) (before : List MemPlace)
    (hval : ∀ (j : Nat) t v, Try.f3.params[j]? = some t → args[j]? = some v → Value.okWide Try.prog W .any base t v)
    (hW : DataW.Whole enc Try.prog Try.f3.params.toList Rows.posZeroSpec.vars false W args.toList ds gs before) (hsz0 : (DataW.weightsEach Try.prog (Try.f3.params.toList ++ Rows.posZeroSpec.plain.varTypes Try.prog) (ds ++ gs)).all (· ≤ reachBytes) = true) :
    Calls Try.prog 3 args W fun e W' => ∃ v, e = .returned v ∧ Rows.posZeroSpec.post enc Try.prog Try.f3 false true false false W args v W' := by
  have hW' := hW
  obtain ⟨p, q, hA0, hV, rfl, hfz, hnd⟩ := hW'
  have hA : DataW.TrodAll enc Try.prog W 0 (fun _ => true) true Try.f3.params.toList args.toList ds p := hA0
  have hsz : (DataW.weightsEach Try.prog (Try.f3.params.toList ++ Rows.posZeroSpec.plain.varTypes Try.prog) (ds ++ gs)).all (· ≤ reachBytes) = true := hsz0
  rw [Try.params3] at hA hval hsz
  obtain ⟨v0, vs0, d0, ds0, p0, q0, hargs, rfl, rfl, h0, r0⟩ := trodAll_cons hA
  obtain ⟨v1, vs1, d1, ds1, p1, q1, rfl, rfl, rfl, h1, r1⟩ := trodAll_cons r0
  obtain ⟨rfl, rfl, rfl⟩ := trodAll_nil r1
  obtain rfl : args = #[v0, v1] := by cases args; simp_all
  obtain ⟨rfl, rfl⟩ := trodVars_none hV
  obtain ⟨a0, len0, cap0, rfl⟩ := okWide_slice Try.underlying22 (hval 0 22 v0 rfl rfl)
  have lt0 : ∀ x ∈ p0, x.block < W.heap.size := by obtain ⟨m, hm⟩ := h0; exact DataW.trod_lt m _ _ _ hm
  obtain ⟨l0, w0, f0, c0, m0, n0, x0, g0⟩ := open_rngs h0
  have s0 := rngs_sized hsz (j := 0) rfl rfl g0
  obtain ⟨a1, rfl, rfl, rfl, w1⟩ := open_int Try.underlying3 (hval 1 3 v1 rfl rfl) h1
  clear hA0 hsz0 hsz
  refine (walk a0 len0 cap0 a1 W).mono fun e W' ⟨he, bel⟩ => ?_
  subst he
  exact ⟨_, rfl, _, _, _, [], _, [], hW, trodAll_mk1 (shut_bool Try.underlying4 _), (trodAll_cons_mk (Below.trod laidOut (by kernel_rfl) (of_decide_eq_true (by kernel_rfl)) h0 bel lt0) (trodAll_cons_mk (shut_int Try.underlying3 w1) trodAll_mk0)), rfl, bel.frame _, fun h => by cases h⟩

set_option maxRecDepth 100000 in
theorem lifted (os : Os) (started : os.Started) (H : Type) (enc : TypeId × Value → H) :
    ReturnsInHanded {} Try.checked os 3 .any (Rows.posZeroSpec.pre6 enc Try.prog Try.f3 Rows.posZeroRow.domain false) (Rows.posZeroSpec.post enc Try.prog Try.f3 false true false false) := by
  refine returnsInHanded_of_change_sized (C := Try.checked) own started (by kernel_rfl) Try.func3
    (ChangeSpec.witness6 (enc := enc) (C := Try.checked) false ⟨#[], #[.slice none 0 0, .int .i64 0], []⟩ 8 (by kernel_rfl) (by kernel_rfl) (by kernel_rfl) (by kernel_rfl)) ?_
  intro W base args ds gs before hval hW _ hsz _
  exact contract H enc W base args ds gs before hval hW hsz

theorem proved : Rows.PosZeroSaid :=
  OpenClaim.holds_of_wide 3 Try.f3 rfl rfl rfl rfl rfl rfl rfl ⟨rfl, rfl, rfl, rfl, rfl⟩ rfl rfl rfl rfl rfl (by kernel_rfl) Try.func3 (by kernel_rfl)
    (of_decide_eq_true (by kernel_rfl)) (by unfold Func.isWrapper; first | (rw [if_pos (by decide +kernel)]; kernel_rfl) | (rw [if_neg (by decide +kernel)]; exact ⟨rfl, rfl⟩))
    (fun os started H enc _ => lifted os started H enc)
end Go.Proofs.Ytiadcpbaopafgab.posZero
namespace Go.Proofs.Ytiadcpbaopafgab
theorem PosZero_holds : Rows.PosZeroSaid := posZero.proved
end Go.Proofs.Ytiadcpbaopafgab
