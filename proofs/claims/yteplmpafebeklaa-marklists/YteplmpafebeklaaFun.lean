/-
  PROVED HERE: mark.Right, isMark, refusal, Has, Within and the document's own at every number, and awake: what they return; they leave the world as it was.
-/
import Derived.Test.YteplmpafebeklaaNum
import Derived.Test.YteplmpafebeklaaChecked
import Derived.WalkKit
import Derived.Deep.Light
namespace Go.Proofs.Yteplmpafebeklaa
open Go.RowKit

set_option maxHeartbeats 400000 in
theorem right_calls (s : Int) (w : World) : Calls Try.prog 12 #[.int .i64 s] w fun e w' => e = .returned (.bool (right s)) ∧ w' = w := by
  unfold right
  by_cases h : 0 ≤ s
  · have h1 : decide (0 ≤ s) = true := by simpa using h
    rw [h1, Bool.true_and]
    go_enter Try.func12, Try.ntmps12
    go_wp2
    go_ret
    exact ⟨rfl, rfl⟩
  · have h1 : decide (0 ≤ s) = false := by simpa using h
    rw [h1, Bool.false_and]
    go_enter Try.func12, Try.ntmps12
    go_wp2
    go_ret
    exact ⟨rfl, rfl⟩
set_option maxHeartbeats 400000 in
theorem refRight_calls (s : Int) (w : World) : Calls Try.prog 14 #[.int .i64 s] w fun e w' => e = .returned (.bool (right s)) ∧ w' = w := by
  unfold right
  by_cases h : 0 ≤ s
  · have h1 : decide (0 ≤ s) = true := by simpa using h
    rw [h1, Bool.true_and]
    go_enter Try.func14, Try.ntmps14
    go_wp2
    go_ret
    exact ⟨rfl, rfl⟩
  · have h1 : decide (0 ≤ s) = false := by simpa using h
    rw [h1, Bool.false_and]
    go_enter Try.func14, Try.ntmps14
    go_wp2
    go_ret
    exact ⟨rfl, rfl⟩
set_option maxHeartbeats 400000 in
theorem isMark_calls (m : Int) (w : World) : Calls Try.prog 17 #[.int .i64 m] w fun e w' => e = .returned (.bool (isMark m)) ∧ w' = w := by
  unfold isMark
  by_cases h1 : m = 1
  · subst h1
    go_enter Try.func17, Try.ntmps17
    go_wp2
    go_ret
    exact ⟨rfl, rfl⟩
  · by_cases h2 : m = 2
    · subst h2
      go_enter Try.func17, Try.ntmps17
      go_wp2
      go_ret
      exact ⟨rfl, rfl⟩
    · by_cases h4 : m = 4
      · subst h4
        go_enter Try.func17, Try.ntmps17
        go_wp2
        go_ret
        exact ⟨rfl, rfl⟩
      · have e1 : (m == 1) = false := by simpa using h1
        have e2 : (m == 2) = false := by simpa using h2
        have e4 : (m == 4) = false := by simpa using h4
        rw [e1, e2, e4]
        go_enter Try.func17, Try.ntmps17
        go_wp2
        go_ret
        exact ⟨rfl, rfl⟩
set_option maxHeartbeats 400000 in
theorem is_calls (m : Int) (w : World) : Calls Try.prog 16 #[.int .i64 m] w fun e w' => e = .returned (.bool (isMark m)) ∧ w' = w := by
  unfold isMark
  by_cases h1 : m = 1
  · subst h1
    go_enter Try.func16, Try.ntmps16
    go_wp2
    go_ret
    exact ⟨rfl, rfl⟩
  · by_cases h2 : m = 2
    · subst h2
      go_enter Try.func16, Try.ntmps16
      go_wp2
      go_ret
      exact ⟨rfl, rfl⟩
    · by_cases h4 : m = 4
      · subst h4
        go_enter Try.func16, Try.ntmps16
        go_wp2
        go_ret
        exact ⟨rfl, rfl⟩
      · have e1 : (m == 1) = false := by simpa using h1
        have e2 : (m == 2) = false := by simpa using h2
        have e4 : (m == 4) = false := by simpa using h4
        rw [e1, e2, e4]
        go_enter Try.func16, Try.ntmps16
        go_wp2
        go_ret
        exact ⟨rfl, rfl⟩

/-- Why a set and a mark are refused. -/
def refusal (s m : Int) : Int := if isMark m = true then (if right s = true then 0 else 4) else 1
set_option maxHeartbeats 400000 in
theorem refusal_calls (s m : Int) (w : World) : Calls Try.prog 15 #[.int .i64 s, .int .i64 m] w fun e w' => e = .returned (.int .i64 (refusal s m)) ∧ w' = w := by
  have h1 := fun W => isMark_calls m W
  have h2 := fun W => right_calls s W
  unfold refusal
  generalize isMark m = p at *
  generalize right s = q at *
  cases p <;> cases q
  all_goals
    go_enter Try.func15, Try.ntmps15
    go_wp2_with fail
    refine (h1 _).mono ?_
    rintro e w' ⟨rfl, rfl⟩
  · go_wp2
    go_ret
    exact ⟨rfl, rfl⟩
  · go_wp2
    go_ret
    exact ⟨rfl, rfl⟩
  · go_wp2_with fail
    refine (h2 _).mono ?_
    rintro e w' ⟨rfl, rfl⟩
    go_wp2
    go_ret
    exact ⟨rfl, rfl⟩
  · go_wp2_with fail
    refine (h2 _).mono ?_
    rintro e w' ⟨rfl, rfl⟩
    go_wp2
    go_ret
    exact ⟨rfl, rfl⟩

set_option maxHeartbeats 400000 in
theorem has_calls (s m : Int) (w : World) : Calls Try.prog 11 #[.int .i64 s, .int .i64 m] w fun e w' => e = .returned (.bool (has s m)) ∧ w' = w := by
  have h1 := fun W => refusal_calls s m W
  unfold has
  by_cases hm : isMark m = true
  · by_cases hs : right s = true
    · have e0 : refusal s m = 0 := by unfold refusal; rw [if_pos hm, if_pos hs]
      have hs' := (right_iff s).1 hs
      have hb := and_both s m hs'.1 hs'.2
      rw [e0] at h1
      rw [hm, hs]
      generalize both s m = x at *
      by_cases hx : x = 0
      · subst hx
        go_enter Try.func11, Try.ntmps11
        go_wp2_with fail
        refine (h1 _).mono ?_
        rintro e w' ⟨rfl, rfl⟩
        go_wp2
        go_ret
        exact ⟨rfl, rfl⟩
      · have e1 : (x != 0) = true := by simpa using hx
        rw [e1]
        go_enter Try.func11, Try.ntmps11
        go_wp2_with fail
        refine (h1 _).mono ?_
        rintro e w' ⟨rfl, rfl⟩
        go_wp2
        go_ret
        exact ⟨rfl, rfl⟩
    · have e0 : refusal s m = 4 := by unfold refusal; rw [if_pos hm, if_neg hs]
      have hs' : right s = false := by simpa using hs
      rw [e0] at h1
      rw [hm, hs']
      go_enter Try.func11, Try.ntmps11
      go_wp2_with fail
      refine (h1 _).mono ?_
      rintro e w' ⟨rfl, rfl⟩
      go_wp2
      go_ret
      exact ⟨rfl, rfl⟩
  · have e0 : refusal s m = 1 := by unfold refusal; rw [if_neg hm]
    have hm' : isMark m = false := by simpa using hm
    rw [e0] at h1
    rw [hm']
    go_enter Try.func11, Try.ntmps11
    go_wp2_with fail
    refine (h1 _).mono ?_
    rintro e w' ⟨rfl, rfl⟩
    go_wp2
    go_ret
    exact ⟨rfl, rfl⟩
set_option maxHeartbeats 400000 in
theorem refHas_calls (s m : Int) (w : World) : Calls Try.prog 13 #[.int .i64 s, .int .i64 m] w fun e w' => e = .returned (.bool (has s m)) ∧ w' = w := by
  have h1 := fun W => refRight_calls s W
  have h2 := fun W => is_calls m W
  unfold has
  by_cases hs : right s = true
  · have hs' := (right_iff s).1 hs
    have hb := and_both s m hs'.1 hs'.2
    rw [hs] at h1 ⊢
    by_cases hm : isMark m = true
    · rw [hm] at h2 ⊢
      generalize both s m = x at *
      by_cases hx : x = 0
      · subst hx
        go_enter Try.func13, Try.ntmps13
        go_wp2_with fail
        refine (h1 _).mono ?_
        rintro e w' ⟨rfl, rfl⟩
        go_wp2_with fail
        refine (h2 _).mono ?_
        rintro e w' ⟨rfl, rfl⟩
        go_wp2
        go_ret
        exact ⟨rfl, rfl⟩
      · have e1 : (x != 0) = true := by simpa using hx
        rw [e1]
        go_enter Try.func13, Try.ntmps13
        go_wp2_with fail
        refine (h1 _).mono ?_
        rintro e w' ⟨rfl, rfl⟩
        go_wp2_with fail
        refine (h2 _).mono ?_
        rintro e w' ⟨rfl, rfl⟩
        go_wp2
        go_ret
        exact ⟨rfl, rfl⟩
    · have hm' : isMark m = false := by simpa using hm
      rw [hm'] at h2 ⊢
      go_enter Try.func13, Try.ntmps13
      go_wp2_with fail
      refine (h1 _).mono ?_
      rintro e w' ⟨rfl, rfl⟩
      go_wp2_with fail
      refine (h2 _).mono ?_
      rintro e w' ⟨rfl, rfl⟩
      go_wp2
      go_ret
      exact ⟨rfl, rfl⟩
  · have hs' : right s = false := by simpa using hs
    rw [hs'] at h1 ⊢
    rw [Bool.and_false, Bool.false_and]
    go_enter Try.func13, Try.ntmps13
    go_wp2_with fail
    refine (h1 _).mono ?_
    rintro e w' ⟨rfl, rfl⟩
    go_wp2
    go_ret
    exact ⟨rfl, rfl⟩

set_option maxHeartbeats 400000 in
theorem within_calls (s t : Int) (w : World) : Calls Try.prog 8 #[.int .i64 s, .int .i64 t] w fun e w' => e = .returned (.int .i64 (within s t)) ∧ w' = w := by
  have h1 := fun W => right_calls s W
  unfold within
  by_cases hs : right s = true
  · have hs' := (right_iff s).1 hs
    have hb := and_both s t hs'.1 hs'.2
    rw [if_pos hs]
    rw [hs] at h1
    generalize both s t = x at *
    go_enter Try.func8, Try.ntmps8
    go_wp2_with fail
    refine (h1 _).mono ?_
    rintro e w' ⟨rfl, rfl⟩
    go_wp2
    go_ret
    exact ⟨rfl, rfl⟩
  · have hs' : right s = false := by simpa using hs
    rw [hs'] at h1
    rw [if_neg hs]
    go_enter Try.func8, Try.ntmps8
    go_wp2_with fail
    refine (h1 _).mono ?_
    rintro e w' ⟨rfl, rfl⟩
    go_wp2
    go_ret
    exact ⟨rfl, rfl⟩
set_option maxHeartbeats 400000 in
theorem refWithin_calls (s t : Int) (w : World) : Calls Try.prog 9 #[.int .i64 s, .int .i64 t] w fun e w' => e = .returned (.int .i64 (within s t)) ∧ w' = w := by
  have h1 := fun W => refRight_calls s W
  unfold within
  by_cases hs : right s = true
  · have hs' := (right_iff s).1 hs
    have hb := and_both s t hs'.1 hs'.2
    rw [if_pos hs]
    rw [hs] at h1
    generalize both s t = x at *
    go_enter Try.func9, Try.ntmps9
    go_wp2_with fail
    refine (h1 _).mono ?_
    rintro e w' ⟨rfl, rfl⟩
    go_wp2
    go_ret
    exact ⟨rfl, rfl⟩
  · have hs' : right s = false := by simpa using hs
    rw [hs'] at h1
    rw [if_neg hs]
    go_enter Try.func9, Try.ntmps9
    go_wp2_with fail
    refine (h1 _).mono ?_
    rintro e w' ⟨rfl, rfl⟩
    go_wp2
    go_ret
    exact ⟨rfl, rfl⟩

set_option maxHeartbeats 400000 in
theorem awake_calls (w : World) : Calls Try.prog 10 #[] w fun e w' => e = .returned (.bool true) ∧ w' = w := by
  have h1 := fun W => right_calls 3 W
  have h2 := fun W => right_calls 5 W
  rw [show right 3 = true from by decide] at h1
  rw [show right 5 = false from by decide] at h2
  go_enter Try.func10, Try.ntmps10
  go_wp2_with fail
  refine (h1 _).mono ?_
  rintro e w' ⟨rfl, rfl⟩
  go_wp2_with fail
  refine (h2 _).mono ?_
  rintro e w' ⟨rfl, rfl⟩
  go_wp2
  go_ret
  exact ⟨rfl, rfl⟩
end Go.Proofs.Yteplmpafebeklaa
