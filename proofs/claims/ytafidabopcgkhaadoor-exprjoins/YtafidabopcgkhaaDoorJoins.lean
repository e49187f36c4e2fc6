/-
  PROVED HERE: ExprJoins answers true at every two texts, and leaves what lay before.
-/
import Derived.Test.YtafidabopcgkhaaDoorJoins0
namespace Go.Proofs.YtafidabopcgkhaaDoor
open Go.RowKit

set_option maxRecDepth 100000 in
set_option maxHeartbeats 8000000 in
theorem joins_walk (s t : ByteArray) (hs : s.size ≤ 9223372036854775807) (ht : t.size ≤ 9223372036854775807) (w : World) (hg : ETy w) :
    Calls Tryd.prog 8 #[.string s, .string t] w fun e w' => e = .returned (.bool true) ∧ Below w.heap.size w w' := by
  have HA : Hid (∀ W, Below w.heap.size w W → Calls Tryd.prog 12 #[] W fun e w' => e = .returned (.bool true) ∧ Below W.heap.size W w') := fun W hW => awake_calls W (hg.below hW)
  have HP : Hid (∀ (s : ByteArray) W, s.size ≤ 9223372036854775807 → Below w.heap.size w W → Calls Tryd.prog 9 #[.string s] W fun e w' => Below W.heap.size W w' ∧ ∃ r, Ex w' 200 (outTree s) (rawV r) ∧ e = .returned (.tuple #[rawV r, .int .i64 (outN s : Int), .int .i64 (outE s)])) := fun s W h hW => parse_calls s h W (hg.below hW)
  have HO : Hid (outE s = 0 → outE t = 0 → kindT (outTree s) ≠ 0 → kindT (outTree t) ≠ 0 → s.size + t.size ≤ 50 → (outTree (partsB s t) = node 2 ⟨#[]⟩ [node 4 ⟨#[]⟩ [outTree s], node 4 ⟨#[]⟩ [outTree t]] ∧ outE (partsB s t) = 0) ∧ (outTree (choicesB s t) = node 3 ⟨#[]⟩ [node 4 ⟨#[]⟩ [outTree s], node 4 ⟨#[]⟩ [outTree t]] ∧ outE (choicesB s t) = 0)) := fun h1 h2 h3 h4 h5 => out_two h1 h2 h3 h4 h5
  have HK : Hid ((outE s = 0 → s.size ≤ 200) ∧ (outE t = 0 → t.size ≤ 200)) := ⟨fun h => (out_ok h).1, fun h => (out_ok h).1⟩
  clear hg
  go_enter Tryd.func8, Tryd.ntmps8
  go_wp2_with fail
  refine (HP.out _ _ hs (Below.refl _ _)).mono ?_
  rintro e1 W1 ⟨hB1, r1, hX1, rfl⟩
  obtain ⟨k1, nm1, a1, ln1, cp1⟩ := r1
  unfold rawV at hX1 ⊢
  simp only at hX1 ⊢
  generalize (outN s : Int) = N1
  have HX1 : Hid (Ex W1 200 (outTree s) (.agg #[.int .i64 k1, .string nm1, .slice a1 ln1 cp1])) := hX1
  have hk1 := hX1.shows.1
  have HW1 : Hid (∀ o, Below w.heap.size w (W1.alloc o)) := fun o => hB1.alloc hB1.size o
  clear hX1
  have hV1 : ∀ W : World, Below (W1.alloc (.cells #[.int .i64 k1, .string nm1, .slice a1 ln1 cp1] 24)).heap.size (W1.alloc (.cells #[.int .i64 k1, .string nm1, .slice a1 ln1 cp1] 24)) W → W.heap[W1.heap.size]? = some (.cells #[.int .i64 k1, .string nm1, .slice a1 ln1 cp1] 24 (0, 0)) := fun W hW => (hW.block _ (by simp)).trans (heap_alloc_new W1 _)
  have HV1 : Hid (∀ W : World, Below (W1.alloc (.cells #[.int .i64 k1, .string nm1, .slice a1 ln1 cp1] 24)).heap.size (W1.alloc (.cells #[.int .i64 k1, .string nm1, .slice a1 ln1 cp1] 24)) W → W.heap[W1.heap.size]? = some (.cells #[.int .i64 k1, .string nm1, .slice a1 ln1 cp1] 24 (0, 0))) := hV1
  clear hV1
  go_wp2_with fail
  refine (HP.out _ _ ht (HW1.out _)).mono ?_
  rintro e2 W2 ⟨hB2, r2, hX2, rfl⟩
  obtain ⟨k2, nm2, a2, ln2, cp2⟩ := r2
  unfold rawV at hX2 ⊢
  simp only at hX2 ⊢
  generalize (outN t : Int) = N2
  have HX2 : Hid (Ex W2 200 (outTree t) (.agg #[.int .i64 k2, .string nm2, .slice a2 ln2 cp2])) := hX2
  have hk2 := hX2.shows.1
  have HB2a : Hid (∀ o, Below (W1.alloc (.cells #[.int .i64 k1, .string nm1, .slice a1 ln1 cp1] 24)).heap.size (W1.alloc (.cells #[.int .i64 k1, .string nm1, .slice a1 ln1 cp1] 24)) (W2.alloc o)) := fun o => hB2.alloc hB2.size o
  have HW2 : Hid (∀ o, Below w.heap.size w (W2.alloc o)) := fun o => ((HW1.out _).trans (hB2.mono (HW1.out _).size)).alloc ((HW1.out _).trans (hB2.mono (HW1.out _).size)).size o
  clear hX2 hB2
  have hV2 : ∀ W : World, Below (W2.alloc (.cells #[.int .i64 k2, .string nm2, .slice a2 ln2 cp2] 24)).heap.size (W2.alloc (.cells #[.int .i64 k2, .string nm2, .slice a2 ln2 cp2] 24)) W → W.heap[W2.heap.size]? = some (.cells #[.int .i64 k2, .string nm2, .slice a2 ln2 cp2] 24 (0, 0)) := fun W hW => (hW.block _ (by simp)).trans (heap_alloc_new W2 _)
  have HV2 : Hid (∀ W : World, Below (W2.alloc (.cells #[.int .i64 k2, .string nm2, .slice a2 ln2 cp2] 24)).heap.size (W2.alloc (.cells #[.int .i64 k2, .string nm2, .slice a2 ln2 cp2] 24)) W → W.heap[W2.heap.size]? = some (.cells #[.int .i64 k2, .string nm2, .slice a2 ln2 cp2] 24 (0, 0))) := hV2
  clear hV2
  have hv1 := HV1.out (W2.alloc (.cells #[.int .i64 k2, .string nm2, .slice a2 ln2 cp2] 24)) (HB2a.out _)
  have c01 : ((W2.alloc (.cells #[.int .i64 k2, .string nm2, .slice a2 ln2 cp2] 24)) : World).cell? ⟨W1.heap.size, 0, none⟩ = some (.int .i64 k1) := cell_of_row _ _ 0 _ _ _ hv1
  have c11 : ((W2.alloc (.cells #[.int .i64 k2, .string nm2, .slice a2 ln2 cp2] 24)) : World).cell? ⟨W1.heap.size, 1, none⟩ = some (.string nm1) := cell_of_row _ _ 1 _ _ _ hv1
  have c21 : ((W2.alloc (.cells #[.int .i64 k2, .string nm2, .slice a2 ln2 cp2] 24)) : World).cell? ⟨W1.heap.size, 2, none⟩ = some (.slice a1 ln1 cp1) := cell_of_row _ _ 2 _ _ _ hv1
  clear hv1
  by_cases he1 : outE s = 0
  · by_cases he2 : outE t = 0
    · have hsz := HK.out.1 he1
      have htz := HK.out.2 he2
      rw [he1, he2]
      by_cases hz1 : k1 = 0
      · subst hz1
        clear HP HO HK HX1 HX2 hk1 hk2
        go_wp2_with fail
        refine (HA.out _ (HW2.out _)).mono ?_
        rintro e W ⟨rfl, hW⟩
        go_wp2
        go_ret
        exact ⟨rfl, (HW2.out _).trans (hW.mono (HW2.out _).size)⟩
      · have z1 : (k1 == 0) = false := by rw [beq_eq_false_iff_ne]; exact hz1
        by_cases hz2 : k2 = 0
        · subst hz2
          clear HP HO HK HX1 HX2 hk1 hk2
          go_wp2_with fail
          refine (HA.out _ (HW2.out _)).mono ?_
          rintro e W ⟨rfl, hW⟩
          go_wp2
          go_ret
          exact ⟨rfl, (HW2.out _).trans (hW.mono (HW2.out _).size)⟩
        · have z2 : (k2 == 0) = false := by rw [beq_eq_false_iff_ne]; exact hz2
          have hwr : IntKind.i64.wrap ((s.size : Int) + (t.size : Int)) = ((s.size : Int) + (t.size : Int)) := by rw [IntKind.wrap_i64]; omega
          by_cases hz3 : 50 < s.size + t.size
          · have z3 : (50 : Int) < (s.size : Int) + (t.size : Int) := by omega
            clear HP HO HK HX1 HX2 hk1 hk2
            go_wp2_with fail
            refine (HA.out _ (HW2.out _)).mono ?_
            rintro e W ⟨rfl, hW⟩
            go_wp2
            go_ret
            exact ⟨rfl, (HW2.out _).trans (hW.mono (HW2.out _).size)⟩
          · have z3 : ¬ (50 : Int) < (s.size : Int) + (t.size : Int) := by omega
            obtain ⟨⟨o1, o2⟩, ⟨o3, o4⟩⟩ := HO.out he1 he2 (by rw [hk1]; exact hz1) (by rw [hk2]; exact hz2) (by omega)
            have HO1 : Hid (outTree (partsB s t) = node 2 ⟨#[]⟩ [node 4 ⟨#[]⟩ [outTree s], node 4 ⟨#[]⟩ [outTree t]] ∧ outE (partsB s t) = 0) := ⟨o1, o2⟩
            have HO2 : Hid (outTree (choicesB s t) = node 3 ⟨#[]⟩ [node 4 ⟨#[]⟩ [outTree s], node 4 ⟨#[]⟩ [outTree t]] ∧ outE (choicesB s t) = 0) := ⟨o3, o4⟩
            have q1 : (⟨#[40]⟩ : ByteArray).size + s.size ≤ 9223372036854775807 := by show 1 + s.size ≤ _; omega
            have q2 : (⟨#[40]⟩ ++ s : ByteArray).size + (⟨#[41, 42, 32, 40]⟩ : ByteArray).size ≤ 9223372036854775807 := by rw [size_append]; show 1 + s.size + 4 ≤ _; omega
            have q3 : (⟨#[40]⟩ ++ s ++ ⟨#[41, 42, 32, 40]⟩ : ByteArray).size + t.size ≤ 9223372036854775807 := by rw [size_append, size_append]; show 1 + s.size + 4 + t.size ≤ _; omega
            have q4 : (⟨#[40]⟩ ++ s ++ ⟨#[41, 42, 32, 40]⟩ ++ t : ByteArray).size + (⟨#[41, 42]⟩ : ByteArray).size ≤ 9223372036854775807 := by rw [size_append, size_append, size_append]; show 1 + s.size + 4 + t.size + 2 ≤ _; omega
            have q5 : (⟨#[40]⟩ ++ s : ByteArray).size + (⟨#[41, 42, 124, 40]⟩ : ByteArray).size ≤ 9223372036854775807 := by rw [size_append]; show 1 + s.size + 4 ≤ _; omega
            have q6 : (⟨#[40]⟩ ++ s ++ ⟨#[41, 42, 124, 40]⟩ : ByteArray).size + t.size ≤ 9223372036854775807 := by rw [size_append, size_append]; show 1 + s.size + 4 + t.size ≤ _; omega
            have q7 : (⟨#[40]⟩ ++ s ++ ⟨#[41, 42, 124, 40]⟩ ++ t : ByteArray).size + (⟨#[41, 42]⟩ : ByteArray).size ≤ 9223372036854775807 := by rw [size_append, size_append, size_append]; show 1 + s.size + 4 + t.size + 2 ≤ _; omega
            have HZ : Hid ((partsB s t).size ≤ 9223372036854775807 ∧ (choicesB s t).size ≤ 9223372036854775807) := by
              unfold partsB choicesB
              simp only [size_append]
              exact ⟨by show 1 + s.size + 4 + t.size + 2 ≤ _; omega, by show 1 + s.size + 4 + t.size + 2 ≤ _; omega⟩
            obtain ⟨W3, hW3⟩ : ∃ W3, W3 = ((((W2.alloc (.cells #[.int .i64 k2, .string nm2, .slice a2 ln2 cp2] 24)).alloc (.cells #[.int .i64 k1, .string nm1, .slice a1 ln1 cp1] 24)).alloc (.cells #[.int .i64 k2, .string nm2, .slice a2 ln2 cp2] 24)).alloc (.cells #[.int .i64 4, .string ⟨#[]⟩, .slice (some ⟨W2.heap.size + 1, 0, none⟩) 1 1, .int .i64 4, .string ⟨#[]⟩, .slice (some ⟨W2.heap.size + 1 + 1, 0, none⟩) 1 1] 24)) := ⟨_, rfl⟩
            have hA2 : Below (W2.alloc (.cells #[.int .i64 k2, .string nm2, .slice a2 ln2 cp2] 24)).heap.size (W2.alloc (.cells #[.int .i64 k2, .string nm2, .slice a2 ln2 cp2] 24)) W3 := by rw [hW3]; exact (((Below.refl _ _).alloc (Nat.le_refl _) _).alloc (by simp) _).alloc (by simp only [World.size_alloc]; omega) _
            have hs3 : W3.heap.size = W2.heap.size + 1 + 1 + 1 + 1 := by rw [hW3]; simp
            have hu1 : W3.heap[W2.heap.size + 1]? = some (.cells #[.int .i64 k1, .string nm1, .slice a1 ln1 cp1] 24 (0, 0)) := by
              rw [hW3, Below.heap_alloc _ _ _ (by simp only [World.size_alloc]; omega), Below.heap_alloc _ _ _ (by simp only [World.size_alloc]; omega)]
              have := heap_alloc_new (W2.alloc (.cells #[.int .i64 k2, .string nm2, .slice a2 ln2 cp2] 24)) (.cells #[.int .i64 k1, .string nm1, .slice a1 ln1 cp1] 24)
              simpa using this
            have hu2 : W3.heap[W2.heap.size + 1 + 1]? = some (.cells #[.int .i64 k2, .string nm2, .slice a2 ln2 cp2] 24 (0, 0)) := by
              rw [hW3, Below.heap_alloc _ _ _ (by simp only [World.size_alloc]; omega)]
              have := heap_alloc_new ((W2.alloc (.cells #[.int .i64 k2, .string nm2, .slice a2 ln2 cp2] 24)).alloc (.cells #[.int .i64 k1, .string nm1, .slice a1 ln1 cp1] 24)) (.cells #[.int .i64 k2, .string nm2, .slice a2 ln2 cp2] 24)
              simpa using this
            have hu3 : W3.heap[W2.heap.size + 1 + 1 + 1]? = some (.cells #[.int .i64 4, .string ⟨#[]⟩, .slice (some ⟨W2.heap.size + 1, 0, none⟩) 1 1, .int .i64 4, .string ⟨#[]⟩, .slice (some ⟨W2.heap.size + 1 + 1, 0, none⟩) 1 1] 24 (0, 0)) := by
              rw [hW3]
              have := heap_alloc_new (((W2.alloc (.cells #[.int .i64 k2, .string nm2, .slice a2 ln2 cp2] 24)).alloc (.cells #[.int .i64 k1, .string nm1, .slice a1 ln1 cp1] 24)).alloc (.cells #[.int .i64 k2, .string nm2, .slice a2 ln2 cp2] 24)) (.cells #[.int .i64 4, .string ⟨#[]⟩, .slice (some ⟨W2.heap.size + 1, 0, none⟩) 1 1, .int .i64 4, .string ⟨#[]⟩, .slice (some ⟨W2.heap.size + 1 + 1, 0, none⟩) 1 1] 24)
              simpa using this
            have hx1 : Ex W3 200 (outTree s) (.agg #[.int .i64 k1, .string nm1, .slice a1 ln1 cp1]) := Ex.below hA2 _ _ _ (Ex.below (HB2a.out _) _ _ _ (Ex.below ((Below.refl _ _).alloc (Nat.le_refl _) _) _ _ _ HX1.out))
            have hx2 : Ex W3 200 (outTree t) (.agg #[.int .i64 k2, .string nm2, .slice a2 ln2 cp2]) := Ex.below hA2 _ _ _ (Ex.below ((Below.refl _ _).alloc (Nat.le_refl _) _) _ _ _ HX2.out)
            have HL : Hid (∀ k, Ex W3 202 (node k ⟨#[]⟩ [node 4 ⟨#[]⟩ [outTree s], node 4 ⟨#[]⟩ [outTree t]]) (.agg #[.int .i64 k, .string ⟨#[]⟩, .slice (some ⟨W2.heap.size + 1 + 1 + 1, 0, none⟩) 2 2])) := fun k => Ex.mk2 hu3 (Ex.mk1 hu1 hx1 4 ⟨#[]⟩) (Ex.mk1 hu2 hx2 4 ⟨#[]⟩) k ⟨#[]⟩
            have HW3 : Hid (Below w.heap.size w W3) := (HW2.out _).trans (hA2.mono (HW2.out _).size)
            clear hA2 hs3 hu1 hu2 hu3 hx1 hx2 o1 o2 o3 o4 HO HK HX1 HX2 hk1 hk2 he1 he2 hz1 hz2 hz3 hsz htz
            go_wp2_with fail
            rw [← hW3]
            clear hW3
            rw [show (⟨#[40]⟩ ++ s ++ ⟨#[41, 42, 32, 40]⟩ ++ t ++ ⟨#[41, 42]⟩ : ByteArray) = partsB s t from rfl]
            refine (HP.out _ _ HZ.out.1 HW3.out).mono ?_
            rintro e4 W4 ⟨hB4, r4, hX4, rfl⟩
            obtain ⟨k4, nm4, a4, ln4, cp4⟩ := r4
            unfold rawV at hX4 ⊢
            simp only at hX4 ⊢
            generalize (outN (partsB s t) : Int) = N4
            rw [HO1.out.2]
            rw [HO1.out.1] at hX4
            have HX4 : Hid (Ex W4 200 (node 2 ⟨#[]⟩ [node 4 ⟨#[]⟩ [outTree s], node 4 ⟨#[]⟩ [outTree t]]) (.agg #[.int .i64 k4, .string nm4, .slice a4 ln4 cp4])) := hX4
            have HB4a : Hid (∀ o, Below W3.heap.size W3 (W4.alloc o)) := fun o => hB4.alloc hB4.size o
            have HW4 : Hid (∀ o, Below w.heap.size w (W4.alloc o)) := fun o => HW3.out.trans ((HB4a.out o).mono HW3.out.size)
            clear hX4 hB4 c01 c11 c21
            have hV4 : ∀ W : World, Below (W4.alloc (.cells #[.int .i64 k4, .string nm4, .slice a4 ln4 cp4] 24)).heap.size (W4.alloc (.cells #[.int .i64 k4, .string nm4, .slice a4 ln4 cp4] 24)) W → W.heap[W4.heap.size]? = some (.cells #[.int .i64 k4, .string nm4, .slice a4 ln4 cp4] 24 (0, 0)) := fun W hW => (hW.block _ (by simp)).trans (heap_alloc_new W4 _)
            have HV4 : Hid (∀ W : World, Below (W4.alloc (.cells #[.int .i64 k4, .string nm4, .slice a4 ln4 cp4] 24)).heap.size (W4.alloc (.cells #[.int .i64 k4, .string nm4, .slice a4 ln4 cp4] 24)) W → W.heap[W4.heap.size]? = some (.cells #[.int .i64 k4, .string nm4, .slice a4 ln4 cp4] 24 (0, 0))) := hV4
            clear hV4
            go_wp2_with fail
            rw [show (⟨#[40]⟩ ++ s ++ ⟨#[41, 42, 124, 40]⟩ ++ t ++ ⟨#[41, 42]⟩ : ByteArray) = choicesB s t from rfl]
            refine (HP.out _ _ HZ.out.2 (HW4.out _)).mono ?_
            rintro e5 W5 ⟨hB5, r5, hX5, rfl⟩
            obtain ⟨k5, nm5, a5, ln5, cp5⟩ := r5
            unfold rawV at hX5 ⊢
            simp only at hX5 ⊢
            generalize (outN (choicesB s t) : Int) = N5
            rw [HO2.out.2]
            rw [HO2.out.1] at hX5
            have HX5 : Hid (Ex W5 200 (node 3 ⟨#[]⟩ [node 4 ⟨#[]⟩ [outTree s], node 4 ⟨#[]⟩ [outTree t]]) (.agg #[.int .i64 k5, .string nm5, .slice a5 ln5 cp5])) := hX5
            have HB45 : Hid (∀ o, Below (W4.alloc (.cells #[.int .i64 k4, .string nm4, .slice a4 ln4 cp4] 24)).heap.size (W4.alloc (.cells #[.int .i64 k4, .string nm4, .slice a4 ln4 cp4] 24)) (W5.alloc o)) := fun o => hB5.alloc hB5.size o
            have HW5 : Hid (∀ o, Below w.heap.size w (W5.alloc o)) := fun o => (HW4.out _).trans ((HB45.out o).mono (HW4.out _).size)
            clear hX5 hB5
            have hV5 : ∀ W : World, Below (W5.alloc (.cells #[.int .i64 k5, .string nm5, .slice a5 ln5 cp5] 24)).heap.size (W5.alloc (.cells #[.int .i64 k5, .string nm5, .slice a5 ln5 cp5] 24)) W → W.heap[W5.heap.size]? = some (.cells #[.int .i64 k5, .string nm5, .slice a5 ln5 cp5] 24 (0, 0)) := fun W hW => (hW.block _ (by simp)).trans (heap_alloc_new W5 _)
            have HV5 : Hid (∀ W : World, Below (W5.alloc (.cells #[.int .i64 k5, .string nm5, .slice a5 ln5 cp5] 24)).heap.size (W5.alloc (.cells #[.int .i64 k5, .string nm5, .slice a5 ln5 cp5] 24)) W → W.heap[W5.heap.size]? = some (.cells #[.int .i64 k5, .string nm5, .slice a5 ln5 cp5] 24 (0, 0))) := hV5
            clear hV5
            have HS4 : Hid (∀ W, Below (W5.alloc (.cells #[.int .i64 k5, .string nm5, .slice a5 ln5 cp5] 24)).heap.size (W5.alloc (.cells #[.int .i64 k5, .string nm5, .slice a5 ln5 cp5] 24)) W → Calls Tryd.prog 17 #[.agg #[.int .i64 k4, .string nm4, .slice a4 ln4 cp4], .agg #[.int .i64 2, .string ⟨#[]⟩, .slice (some ⟨W2.heap.size + 1 + 1 + 1, 0, none⟩) 2 2]] W fun e w' => e = .returned (.bool true) ∧ Below W.heap.size W w') := fun W hW => by
              have h1 : Ex W 200 (node 2 ⟨#[]⟩ [node 4 ⟨#[]⟩ [outTree s], node 4 ⟨#[]⟩ [outTree t]]) (.agg #[.int .i64 k4, .string nm4, .slice a4 ln4 cp4]) := Ex.below hW _ _ _ (Ex.below (HB45.out _) _ _ _ (Ex.below ((Below.refl _ _).alloc (Nat.le_refl _) _) _ _ _ HX4.out))
              have h2 := Ex.below hW _ _ _ (Ex.below (HB45.out _) _ _ _ (Ex.below (HB4a.out _) _ _ _ (HL.out 2)))
              exact fsame_calls 200 202 _ _ _ _ W true (by decide) h1 h2 (by simp)
            have HS5 : Hid (∀ W, Below (W5.alloc (.cells #[.int .i64 k5, .string nm5, .slice a5 ln5 cp5] 24)).heap.size (W5.alloc (.cells #[.int .i64 k5, .string nm5, .slice a5 ln5 cp5] 24)) W → Calls Tryd.prog 17 #[.agg #[.int .i64 k5, .string nm5, .slice a5 ln5 cp5], .agg #[.int .i64 3, .string ⟨#[]⟩, .slice (some ⟨W2.heap.size + 1 + 1 + 1, 0, none⟩) 2 2]] W fun e w' => e = .returned (.bool true) ∧ Below W.heap.size W w') := fun W hW => by
              have h1 : Ex W 200 (node 3 ⟨#[]⟩ [node 4 ⟨#[]⟩ [outTree s], node 4 ⟨#[]⟩ [outTree t]]) (.agg #[.int .i64 k5, .string nm5, .slice a5 ln5 cp5]) := Ex.below hW _ _ _ (Ex.below ((Below.refl _ _).alloc (Nat.le_refl _) _) _ _ _ HX5.out)
              have h2 := Ex.below hW _ _ _ (Ex.below (HB45.out _) _ _ _ (Ex.below (HB4a.out _) _ _ _ (HL.out 3)))
              exact fsame_calls 200 202 _ _ _ _ W true (by decide) h1 h2 (by simp)
            have hv4 := HV4.out (W5.alloc (.cells #[.int .i64 k5, .string nm5, .slice a5 ln5 cp5] 24)) (HB45.out _)
            have c04 : ((W5.alloc (.cells #[.int .i64 k5, .string nm5, .slice a5 ln5 cp5] 24)) : World).cell? ⟨W4.heap.size, 0, none⟩ = some (.int .i64 k4) := cell_of_row _ _ 0 _ _ _ hv4
            have c14 : ((W5.alloc (.cells #[.int .i64 k5, .string nm5, .slice a5 ln5 cp5] 24)) : World).cell? ⟨W4.heap.size, 1, none⟩ = some (.string nm4) := cell_of_row _ _ 1 _ _ _ hv4
            have c24 : ((W5.alloc (.cells #[.int .i64 k5, .string nm5, .slice a5 ln5 cp5] 24)) : World).cell? ⟨W4.heap.size, 2, none⟩ = some (.slice a4 ln4 cp4) := cell_of_row _ _ 2 _ _ _ hv4
            clear hv4
            go_wp2_with fail
            refine (HS4.out _ (Below.refl _ _)).mono ?_
            rintro e6 W6 ⟨rfl, hB6⟩
            have HB6 : Hid (Below (W5.alloc (.cells #[.int .i64 k5, .string nm5, .slice a5 ln5 cp5] 24)).heap.size (W5.alloc (.cells #[.int .i64 k5, .string nm5, .slice a5 ln5 cp5] 24)) W6) := hB6
            have HW6 : Hid (Below w.heap.size w W6) := (HW5.out _).trans (hB6.mono (HW5.out _).size)
            clear hB6 c04 c14 c24
            have hv5 := HV5.out W6 HB6.out
            have c05 : (W6 : World).cell? ⟨W5.heap.size, 0, none⟩ = some (.int .i64 k5) := cell_of_row _ _ 0 _ _ _ hv5
            have c15 : (W6 : World).cell? ⟨W5.heap.size, 1, none⟩ = some (.string nm5) := cell_of_row _ _ 1 _ _ _ hv5
            have c25 : (W6 : World).cell? ⟨W5.heap.size, 2, none⟩ = some (.slice a5 ln5 cp5) := cell_of_row _ _ 2 _ _ _ hv5
            clear hv5
            go_wp2_with fail
            refine (HS5.out _ HB6.out).mono ?_
            rintro e7 W7 ⟨rfl, hB7⟩
            have HW7 : Hid (Below w.heap.size w W7) := HW6.out.trans (hB7.mono HW6.out.size)
            clear hB7 c05 c15 c25
            go_wp2_with fail
            refine (HA.out _ (HW7.out)).mono ?_
            rintro e W ⟨rfl, hW⟩
            go_wp2
            go_ret
            exact ⟨rfl, (HW7.out).trans (hW.mono (HW7.out).size)⟩
    · rw [he1]
      generalize outE t = E at *
      have e1 : (E == 0) = false := by rw [beq_eq_false_iff_ne]; exact he2
      have e2 : (E != 0) = true := by rw [bne_iff_ne]; exact he2
      clear HP HO HK HX1 HX2 hk1 hk2
      go_wp2_with fail
      refine (HA.out _ (HW2.out _)).mono ?_
      rintro e W ⟨rfl, hW⟩
      go_wp2
      go_ret
      exact ⟨rfl, (HW2.out _).trans (hW.mono (HW2.out _).size)⟩
  · generalize outE s = E at *
    generalize outE t = E' at *
    have e1 : (E == 0) = false := by rw [beq_eq_false_iff_ne]; exact he1
    have e2 : (E != 0) = true := by rw [bne_iff_ne]; exact he1
    clear HP HO HK HX1 HX2 hk1 hk2
    go_wp2_with fail
    refine (HA.out _ (HW2.out _)).mono ?_
    rintro e W ⟨rfl, hW⟩
    go_wp2
    go_ret
    exact ⟨rfl, (HW2.out _).trans (hW.mono (HW2.out _).size)⟩
end Go.Proofs.YtafidabopcgkhaaDoor
