/-
  PROVED HERE: the statement MarkWithin: what is within others is right, of both, and all of it within itself; no condition.
-/
import Derived.Test.YteplmpafebeklaaRows
import Derived.Test.YteplmpafebeklaaFun
import Derived.WalkKit
import Derived.ProofKit
import Derived.OpenShut
namespace Go.Proofs.Yteplmpafebeklaa.markWithin
open Go.ChangeShapes Go.WideShapes Go.ChangeAt Go.RowKit

theorem own : ownKnob Try.prog.godebug = none := by kernel_rfl

set_option maxRecDepth 100000 in
set_option maxHeartbeats 1000000 in
theorem walk (a0 : Int) (a1 : Int) (a2 : Int) (w : World) :
    Calls Try.prog 5 #[.int .i64 a0, .int .i64 a1, .int .i64 a2] w fun e w' => e = .returned (.bool true) ∧ Grown w w' := by
  have h1 := fun W => within_calls a0 a1 W
  have h2 := fun W => right_calls (within a0 a1) W
  have h3 := fun W => within_calls (within a0 a1) a1 W
  have h4 := fun W => within_calls (within a0 a1) a0 W
  have h5 := fun W => has_calls (within a0 a1) a2 W
  have h6 := fun W => has_calls a0 a2 W
  have h7 := fun W => within_calls a0 7 W
  have hp := has_within a0 a1 a2
  have hv := within_seven a0 a1
  rw [within_right] at h2
  rw [within_again] at h3
  rw [within_set] at h4
  generalize has (within a0 a1) a2 = p at *
  generalize has a0 a2 = q at *
  generalize within a0 a1 = x at *
  generalize within a0 7 = v at *
  have H1 : Hid (∀ W : World, Calls Try.prog 8 #[.int .i64 a0, .int .i64 a1] W fun e w' => e = .returned (.int .i64 x) ∧ w' = W) := h1
  have H2 : Hid (∀ W : World, Calls Try.prog 12 #[.int .i64 x] W fun e w' => e = .returned (.bool true) ∧ w' = W) := h2
  have H3 : Hid (∀ W : World, Calls Try.prog 8 #[.int .i64 x, .int .i64 a1] W fun e w' => e = .returned (.int .i64 x) ∧ w' = W) := h3
  have H4 : Hid (∀ W : World, Calls Try.prog 8 #[.int .i64 x, .int .i64 a0] W fun e w' => e = .returned (.int .i64 x) ∧ w' = W) := h4
  have H5 : Hid (∀ W : World, Calls Try.prog 11 #[.int .i64 x, .int .i64 a2] W fun e w' => e = .returned (.bool p) ∧ w' = W) := h5
  have H6 : Hid (∀ W : World, Calls Try.prog 11 #[.int .i64 a0, .int .i64 a2] W fun e w' => e = .returned (.bool q) ∧ w' = W) := h6
  have H7 : Hid (∀ W : World, Calls Try.prog 8 #[.int .i64 a0, .int .i64 7] W fun e w' => e = .returned (.int .i64 v) ∧ w' = W) := h7
  clear h1 h2 h3 h4 h5 h6 h7
  go_enter Try.func5, Try.ntmps5
  go_wp2_with fail
  refine (H1.out _).mono ?_
  rintro e w' ⟨rfl, rfl⟩
  go_wp2_with fail
  refine (H2.out _).mono ?_
  rintro e w' ⟨rfl, rfl⟩
  go_wp2_with fail
  refine (H3.out _).mono ?_
  rintro e w' ⟨rfl, rfl⟩
  go_wp2_with fail
  refine (H4.out _).mono ?_
  rintro e w' ⟨rfl, rfl⟩
  go_wp2_with fail
  refine (H5.out _).mono ?_
  rintro e w' ⟨rfl, rfl⟩
  cases p
  · go_wp2_with fail
    refine (H7.out _).mono ?_
    rintro e w' ⟨rfl, rfl⟩
    go_wp2_with fail
    refine (H7.out _).mono ?_
    rintro e w' ⟨rfl, rfl⟩
    go_wp2_with fail
    refine (awake_calls _).mono ?_
    rintro e w' ⟨rfl, rfl⟩
    go_wp2
    all_goals go_ret
    all_goals exact ⟨rfl, Grown.refl _⟩
  · obtain rfl : q = true := hp rfl
    go_wp2_with fail
    refine (H6.out _).mono ?_
    rintro e w' ⟨rfl, rfl⟩
    go_wp2_with fail
    refine (H7.out _).mono ?_
    rintro e w' ⟨rfl, rfl⟩
    go_wp2_with fail
    refine (H7.out _).mono ?_
    rintro e w' ⟨rfl, rfl⟩
    go_wp2_with fail
    refine (awake_calls _).mono ?_
    rintro e w' ⟨rfl, rfl⟩
    go_wp2
    all_goals go_ret
    all_goals exact ⟨rfl, Grown.refl _⟩

set_option maxRecDepth 100000 in
theorem lifted (os : Os) (started : os.Started) (H : Type) (enc : TypeId × Value → H) :
    ReturnsInHanded {} Try.checked os 5 .any (Rows.markWithinSpec.pre6 enc Try.prog Try.f5 Rows.markWithinRow.domain false) (Rows.markWithinSpec.post enc Try.prog Try.f5 false true false false) := by
  refine returnsInHanded_of_change (C := Try.checked) own started (by kernel_rfl) Try.func5
    (ChangeSpec.witness6 (enc := enc) (C := Try.checked) false ⟨#[], #[.int .i64 0, .int .i64 0, .int .i64 0], []⟩ 8 (by kernel_rfl) (by kernel_rfl) (by kernel_rfl) (by kernel_rfl)) ?_
  intro W base args ds gs before hval0 hW hcnd _
  have hval : ∀ (j : Nat) t v, Try.f5.params[j]? = some t → args[j]? = some v → Value.okWide Try.prog W .any base t v := hval0
  have hW' := hW
  obtain ⟨p, q, hA0, hV, rfl, hfz, hnd⟩ := hW
  have hA : DataW.TrodAll enc Try.prog W 0 (fun _ => true) true Try.f5.params.toList args.toList ds p := hA0
  rw [Try.params5] at hA hval
  obtain ⟨v0, vs0, d0, ds0, p0, q0, hargs, rfl, rfl, h0, r0⟩ := trodAll_cons hA
  obtain ⟨v1, vs1, d1, ds1, p1, q1, rfl, rfl, rfl, h1, r1⟩ := trodAll_cons r0
  obtain ⟨v2, vs2, d2, ds2, p2, q2, rfl, rfl, rfl, h2, r2⟩ := trodAll_cons r1
  obtain ⟨rfl, rfl, rfl⟩ := trodAll_nil r2
  obtain rfl : args = #[v0, v1, v2] := by cases args; simp_all
  obtain ⟨rfl, rfl⟩ := trodVars_none hV
  obtain ⟨a0, rfl, rfl, rfl, w0⟩ := open_int Try.underlying3 (hval 0 3 v0 rfl rfl) h0
  obtain ⟨a1, rfl, rfl, rfl, w1⟩ := open_int Try.underlying3 (hval 1 3 v1 rfl rfl) h1
  obtain ⟨a2, rfl, rfl, rfl, w2⟩ := open_int Try.underlying3 (hval 2 3 v2 rfl rfl) h2
  clear hA0 hval0
  simp only [List.append_nil] at hW'
  refine (walk a0 a1 a2 W).mono fun e W' ⟨he, hg⟩ => ?_
  subst he
  exact ⟨_, rfl, post_of_same (pa := []) (pv := []) hW' (fun _ _ _ => (trodAll_cons_mk (shut_bool Try.underlying4 _) trodAll_mk0)) (fun sp _ => (trodAll_cons_mk (shut_int Try.underlying3 w0) (trodAll_cons_mk (shut_int Try.underlying3 w1) (trodAll_cons_mk (shut_int Try.underlying3 w2) trodAll_mk0)))) (fun _ _ => rfl) rfl
    (hg.frame _) hg.2.1 (ok_one (by kernel_rfl) rfl (okWide_bool_mk Try.underlying4 _))⟩

theorem over : Rows.markWithinRow.holds Try.pinned (OpenSpec.ofChange Rows.markWithinSpec) :=
  OpenClaim.holds_of_wide 5 Try.f5 rfl rfl rfl rfl rfl rfl rfl ⟨rfl, rfl, rfl, rfl, rfl⟩ rfl rfl rfl rfl rfl (by kernel_rfl) Try.func5 (by kernel_rfl)
    (of_decide_eq_true (by kernel_rfl)) (by unfold Func.isWrapper; first | (rw [if_pos (by decide +kernel)]; kernel_rfl) | (rw [if_neg (by decide +kernel)]; exact ⟨rfl, rfl⟩))
    (fun os started H enc _ => lifted os started H enc)

/-- The statement. -/
theorem proved : Rows.MarkWithinSaid :=
  over

end Go.Proofs.Yteplmpafebeklaa.markWithin
namespace Go.Proofs.Yteplmpafebeklaa
theorem MarkWithin_holds : Rows.MarkWithinSaid := markWithin.proved
end Go.Proofs.Yteplmpafebeklaa
