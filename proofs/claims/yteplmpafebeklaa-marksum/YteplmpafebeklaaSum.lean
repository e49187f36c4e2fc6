/-
  PROVED HERE: the statement MarkSum: a right set is the sum of the marks that mark.List answers, each of which it has; no condition.
-/
import Derived.Test.YteplmpafebeklaaRows
import Derived.Test.YteplmpafebeklaaList
import Derived.OpenShut
import Derived.DataShut
namespace Go.Proofs.Yteplmpafebeklaa.markSum
open Go.ChangeShapes Go.WideShapes Go.ChangeAt Go.RowKit

theorem sum_take (l : List Int) (k : Nat) (hk : k < l.length) : (l.take (k + 1)).sum = (l.take k).sum + l.getD k 0 := by
  rw [List.take_add_one, List.getElem?_eq_getElem hk, List.getD_eq_getElem?_getD, List.getElem?_eq_getElem hk, Option.toList_some, List.sum_append]
  simp

set_option maxRecDepth 100000 in
set_option maxHeartbeats 1000000 in
theorem walk (a0 : Int) (w : World) :
    Calls Try.prog 4 #[.int .i64 a0] w fun e w' => e = .returned (.bool true) ∧ Below w.heap.size w w' := by
  have hL := marks_length a0 3
  have hH := marks_has a0 3
  have hl := fun W => list_calls a0 W
  have hsum : (right a0 = true ∧ (marks a0 3).sum = a0) ∨ (right a0 = false ∧ (marks a0 3).sum = 0 ∧ a0 ≠ 0) := by
    cases hr : right a0 with
    | true => exact .inl ⟨rfl, marks_sum a0 hr⟩
    | false =>
      refine .inr ⟨rfl, by rw [marks_not a0 3 hr]; rfl, fun h => ?_⟩
      rw [h] at hr
      exact absurd hr (by decide)
  generalize marks a0 3 = L at *
  generalize hn : L.length = n at *
  go_enter Try.func4, Try.ntmps4
  go_wp2_with fail
  refine (hl _).mono ?_
  rintro e W1 ⟨a, cap, rfl, hrow, hB⟩
  clear hl
  go_wp2
  go_loopw [4, 5] (fun u i w' => ∃ k : Nat, k ≤ n ∧ i = .int .i64 (k : Int) ∧ u = .int .i64 (L.take k).sum ∧ 0 ≤ (L.take k).sum ∧ (L.take k).sum ≤ 4 * k ∧ w' = W1) (fun _ i _ => n - (intOf i).toNat)
  case atStart => exact ⟨0, Nat.zero_le _, rfl, rfl, by simp, by simp, rfl⟩
  case round =>
    obtain ⟨k, hk, rfl, rfl, h0, h1, rfl⟩ := hrel
    by_cases hlt : k < n
    · have HS : Hid ((L.take (k + 1)).sum = (L.take k).sum + L.getD k 0) := sum_take L k (by omega)
      have hc : has a0 (L.getD k 0) = true := by
        rw [List.getD_eq_getElem?_getD, List.getElem?_eq_getElem (by omega)]
        exact hH _ (List.getElem_mem (by omega))
      have hcb := has_mark hc
      obtain ⟨b, o, rfl, hbl, hcl⟩ : ∃ b o, a = some ⟨b, o, none⟩ ∧ b < wr.heap.size ∧ ∀ i, i < n → wr.cell? ⟨b, o + i, none⟩ = some (.int .i64 (L.getD i 0)) := by
        rcases hrow.2 with h | h
        · omega
        · exact h
      have hck := hcl k hlt
      have hcc := fun W => has_calls a0 (L.getD k 0) W
      rw [hc] at hcc
      clear hc hcl hrow hH hsum
      generalize L.getD k 0 = c at *
      generalize (L.take k).sum = x at *
      have HC : Hid (∀ W : World, Calls Try.prog 11 #[.int .i64 a0, .int .i64 c] W fun e w' => e = .returned (.bool true) ∧ w' = W) := hcc
      clear hcc
      go_wp2_with fail
      refine (HC.out _).mono ?_
      rintro e w' ⟨rfl, rfl⟩
      go_wp2
      go_roundw
      case rel => exact ⟨k + 1, by omega, rfl, by rw [HS.out], by rw [HS.out]; omega, by rw [HS.out]; omega, trivial⟩
      case measure => simp [intOf]; omega
    · obtain rfl : k = n := by omega
      rw [← hn, List.take_length] at *
      generalize hx : L.sum = x at *
      rcases hsum with ⟨hr, rfl⟩ | ⟨hr, rfl, hne⟩
      · go_wp2_with fail
        refine (awake_calls _).mono ?_
        rintro e w' ⟨rfl, rfl⟩
        go_wp2
        go_ret
        exact ⟨rfl, hB⟩
      · have hz : (0 == a0) = false := by simpa using Ne.symm hne
        have hcc := fun W => right_calls a0 W
        rw [hr] at hcc
        go_wp2_with fail
        refine (hcc _).mono ?_
        rintro e w' ⟨rfl, rfl⟩
        go_wp2_with fail
        refine (awake_calls _).mono ?_
        rintro e w' ⟨rfl, rfl⟩
        go_wp2
        go_ret
        exact ⟨rfl, hB⟩

theorem own : ownKnob Try.prog.godebug = none := by kernel_rfl
theorem laidOut : laidOutB Try.prog = true := by kernel_rfl

theorem contract (H : Type) (enc : TypeId × Value → H) (W : World) (base : Nat) (args : Array Value) (ds gs : List (DataW H)) (before : List MemPlace)
    (hval : ∀ (j : Nat) t v, Try.f4.params[j]? = some t → args[j]? = some v → Value.okWide Try.prog W .any base t v)
    (hW : DataW.Whole enc Try.prog Try.f4.params.toList Rows.markSumSpec.vars false W args.toList ds gs before) :
    Calls Try.prog 4 args W fun e W' => ∃ v, e = .returned v ∧ Rows.markSumSpec.post enc Try.prog Try.f4 false true false false W args v W' := by
  have hW' := hW
  obtain ⟨p, q, hA0, hV, rfl, hfz, hnd⟩ := hW
  have hA : DataW.TrodAll enc Try.prog W 0 (fun _ => true) true Try.f4.params.toList args.toList ds p := hA0
  rw [Try.params4] at hA hval
  obtain ⟨v0, vs0, d0, ds0, p0, q0, hargs, rfl, rfl, h0, r0⟩ := trodAll_cons hA
  obtain ⟨rfl, rfl, rfl⟩ := trodAll_nil r0
  obtain rfl : args = #[v0] := by cases args; simp_all
  obtain ⟨rfl, rfl⟩ := trodVars_none hV
  obtain ⟨a0, rfl, rfl, rfl, w0⟩ := open_int Try.underlying3 (hval 0 3 v0 rfl rfl) h0
  clear hA0
  refine (walk a0 W).mono fun e W' ⟨he, bel⟩ => ?_
  subst he
  exact ⟨_, rfl, _, _, _, [], _, [], hW', trodAll_mk1 (shut_bool Try.underlying4 _), (trodAll_cons_mk (shut_int Try.underlying3 w0) trodAll_mk0), rfl, bel.frame _, fun h => by cases h⟩

set_option maxRecDepth 100000 in
theorem lifted (os : Os) (started : os.Started) (H : Type) (enc : TypeId × Value → H) :
    ReturnsInHanded {} Try.checked os 4 .any (Rows.markSumSpec.pre6 enc Try.prog Try.f4 Rows.markSumRow.domain false) (Rows.markSumSpec.post enc Try.prog Try.f4 false true false false) := by
  refine returnsInHanded_of_change (C := Try.checked) own started (by kernel_rfl) Try.func4
    (ChangeSpec.witness6 (enc := enc) (C := Try.checked) false ⟨#[], #[.int .i64 0], []⟩ 8 (by kernel_rfl) (by kernel_rfl) (by kernel_rfl) (by kernel_rfl)) ?_
  intro W base args ds gs before hval hW _ _
  exact contract H enc W base args ds gs before hval hW

theorem proved : Rows.MarkSumSaid :=
  OpenClaim.holds_of_wide 4 Try.f4 rfl rfl rfl rfl rfl rfl rfl ⟨rfl, rfl, rfl, rfl, rfl⟩ rfl rfl rfl rfl rfl (by kernel_rfl) Try.func4 (by kernel_rfl)
    (of_decide_eq_true (by kernel_rfl)) (by unfold Func.isWrapper; first | (rw [if_pos (by decide +kernel)]; kernel_rfl) | (rw [if_neg (by decide +kernel)]; exact ⟨rfl, rfl⟩))
    (fun os started H enc _ => lifted os started H enc)
end Go.Proofs.Yteplmpafebeklaa.markSum
namespace Go.Proofs.Yteplmpafebeklaa
theorem MarkSum_holds : Rows.MarkSumSaid := markSum.proved
end Go.Proofs.Yteplmpafebeklaa
