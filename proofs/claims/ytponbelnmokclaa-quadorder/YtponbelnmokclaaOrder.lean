/-
  PROVED HERE: the statement QuadOrder: for every two uint64 the greater has no fewer bytes than the less, the bytes tell the number, and there are one to ten of them; no condition.
-/
import Derived.Test.YtponbelnmokclaaRows
import Derived.WalkKit
import Derived.ProofKit
import Derived.OpenShut
import Derived.Below
import Derived.Test.YtponbelnmokclaaStr
namespace Go.Proofs.Ytponbelnmokclaa.quadOrder
open Go.ChangeShapes Go.WideShapes Go.ChangeAt Go.RowKit
set_option linter.unusedVariables false      -- a walk need not use every 'w<i>' (that an integer argument fits its kind)

theorem own : ownKnob Try.prog.godebug = none := by kernel_rfl

set_option maxRecDepth 100000 in
set_option maxHeartbeats 1000000 in
theorem walk (a0 : Int) (a1 : Int) (w0 : (Lit.int .u64 a0).wf = true) (w1 : (Lit.int .u64 a1).wf = true) (w : World) :
    Calls Try.prog 8 #[.int .u64 a0, .int .u64 a1] w fun e w' => e = .returned (.bool true) ∧ Below w.heap.size w w' := by
  obtain ⟨p0, q0⟩ := of_wf_u64 w0
  obtain ⟨p1, q1⟩ := of_wf_u64 w1
  go_enter Try.func8, Try.ntmps8
  go_wp2_with fail
  refine (put_one a0 w p0 q0).mono ?_
  rintro e W1 ⟨g1, c1, rfl, hg1, hc1, _, hr1, hb1⟩
  go_wp2_with fail
  refine (put_one a1 W1 p1 q1).mono ?_
  rintro e W2 ⟨g2, c2, rfl, hg2, hc2, _, hr2, hb2⟩
  have k1 := conv_row (cap := c1) (hr1.below hb2)
  have k2 := conv_row (cap := c2) hr2
  have l1 := leb_length a0.toNat (by omega)
  have m1 := qlen_le a0 p0 q0
  have hs : ((strOfNums (leb a0.toNat)).toList == (strOfNums (leb a1.toNat)).toList) = (a0 == a1) := by
    rw [str_beq (bytes_leb _) (bytes_leb _)]
    by_cases h : a0 = a1
    · simp [h]
    · have : leb a0.toNat ≠ leb a1.toNat := fun e => h (by have := leb_inj _ _ e; omega)
      simp [h, this]
  have hm : a0 ≤ a1 → (leb a0.toNat).length ≤ (leb a1.toNat).length := fun h => qlen_mono _ _ (by omega) (by omega)
  have n1 : 1 ≤ (leb a0.toNat).length := by omega
  have n2 : (leb a0.toNat).length ≤ 10 := by omega
  clear l1 m1
  generalize (leb a0.toNat).length = x at *
  generalize (leb a1.toNat).length = y at *
  have hB : Below w.heap.size w W2 := hb1.trans (hb2.mono hb1.size)
  by_cases hlt : a1 < a0
  · clear hm
    have hd : decide (a1 < a0) = true := by simpa using hlt
    go_wp2_with (go_at_call 13; refine (awake_calls _).mono ?_; rintro e w' ⟨rfl, rfl⟩)
    go_ret
    exact ⟨rfl, hB⟩
  · have hm' := hm (by omega)
    clear hm
    have hd : decide (a1 < a0) = false := by simpa using hlt
    go_wp2_with (go_at_call 13; refine (awake_calls _).mono ?_; rintro e w' ⟨rfl, rfl⟩)
    go_ret
    exact ⟨rfl, hB⟩

set_option maxRecDepth 100000 in
theorem lifted (os : Os) (started : os.Started) (H : Type) (enc : TypeId × Value → H) :
    ReturnsInHanded {} Try.checked os 8 .any (Rows.quadOrderSpec.pre6 enc Try.prog Try.f8 Rows.quadOrderRow.domain false) (Rows.quadOrderSpec.post enc Try.prog Try.f8 false true false false) := by
  refine returnsInHanded_of_change (C := Try.checked) own started (by kernel_rfl) Try.func8
    (ChangeSpec.witness6 (enc := enc) (C := Try.checked) false ⟨#[], #[.int .u64 0, .int .u64 0], []⟩ 8 (by kernel_rfl) (by kernel_rfl) (by kernel_rfl) (by kernel_rfl)) ?_
  intro W base args ds gs before hval0 hW hcnd _
  have hval : ∀ (j : Nat) t v, Try.f8.params[j]? = some t → args[j]? = some v → Value.okWide Try.prog W .any base t v := hval0
  have hW' := hW
  obtain ⟨p, q, hA0, hV, rfl, hfz, hnd⟩ := hW
  have hA : DataW.TrodAll enc Try.prog W 0 (fun _ => true) true Try.f8.params.toList args.toList ds p := hA0
  rw [Try.params8] at hA hval
  obtain ⟨v0, vs0, d0, ds0, p0, q0, hargs, rfl, rfl, h0, r0⟩ := trodAll_cons hA
  obtain ⟨v1, vs1, d1, ds1, p1, q1, rfl, rfl, rfl, h1, r1⟩ := trodAll_cons r0
  obtain ⟨rfl, rfl, rfl⟩ := trodAll_nil r1
  obtain rfl : args = #[v0, v1] := by cases args; simp_all
  obtain ⟨rfl, rfl⟩ := trodVars_none hV
  obtain ⟨a0, rfl, rfl, rfl, w0⟩ := open_int Try.underlying25 (hval 0 25 v0 rfl rfl) h0
  obtain ⟨a1, rfl, rfl, rfl, w1⟩ := open_int Try.underlying25 (hval 1 25 v1 rfl rfl) h1
  clear hA0 hval0
  refine (walk a0 a1 w0 w1 W).mono fun e W' ⟨he, bel⟩ => ?_
  subst he
  exact ⟨_, rfl, _, _, _, [], _, [], hW', trodAll_mk1 (shut_bool Try.underlying4 _), (trodAll_cons_mk (shut_int Try.underlying25 w0) (trodAll_cons_mk (shut_int Try.underlying25 w1) trodAll_mk0)), rfl, bel.frame _, fun h => by cases h⟩

theorem over : Rows.quadOrderRow.holds Try.pinned (OpenSpec.ofChange Rows.quadOrderSpec) :=
  OpenClaim.holds_of_wide 8 Try.f8 rfl rfl rfl rfl rfl rfl rfl ⟨rfl, rfl, rfl, rfl, rfl⟩ rfl rfl rfl rfl rfl (by kernel_rfl) Try.func8 (by kernel_rfl)
    (of_decide_eq_true (by kernel_rfl)) (by unfold Func.isWrapper; first | (rw [if_pos (by decide +kernel)]; kernel_rfl) | (rw [if_neg (by decide +kernel)]; exact ⟨rfl, rfl⟩))
    (fun os started H enc _ => lifted os started H enc)

theorem proved : Rows.QuadOrderSaid :=
  over
#print axioms proved
end Go.Proofs.Ytponbelnmokclaa.quadOrder
namespace Go.Proofs.Ytponbelnmokclaa
theorem QuadOrder_holds : Rows.QuadOrderSaid := quadOrder.proved
end Go.Proofs.Ytponbelnmokclaa
