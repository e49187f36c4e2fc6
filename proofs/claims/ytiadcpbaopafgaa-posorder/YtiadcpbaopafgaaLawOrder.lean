/-
  PROVED HERE: the statement PosOrder: of two places the one that is not behind the other is not behind it then; to the left is never behind to the right; no condition.
-/
import Derived.Test.YtiadcpbaopafgaaOrder
import Derived.Test.YtiadcpbaopafgaaMapF
import Derived.Test.YtiadcpbaopafgaaFitR
namespace Go.Proofs.Ytiadcpbaopafgaa.posOrder
open Go.ChangeShapes Go.WideShapes Go.ChangeAt Go.RowKit

set_option maxRecDepth 100000 in
set_option maxHeartbeats 4000000 in
theorem walk (a : Option Addr) (len cap : Nat) (l : List Rng) (p q side : Int) (w : World) (hl : Rngs w a len l) (hsz : len ≤ 6000000000000) :
    Calls Try.prog 7 #[.slice a len cap, .int .i64 p, .int .i64 q, .int .i64 side] w fun e w' => e = .returned (.bool true) ∧ Below w.heap.size w w' := by
  by_cases hpq : p ≤ q
  · have H1 : Hid (∀ W, Below w.heap.size w W → _) := fun W (hW : Below w.heap.size w W) => map_calls a len cap l p side W (hl.below hW) (by omega)
    have H2 : Hid (∀ W, Below w.heap.size w W → _) := fun W (hW : Below w.heap.size w W) => map_calls a len cap l q side W (hl.below hW) (by omega)
    have H3 : Hid (∀ W, Below w.heap.size w W → _) := fun W (hW : Below w.heap.size w W) => map_calls a len cap l p (-1) W (hl.below hW) (by omega)
    have H4 : Hid (∀ W, Below w.heap.size w W → _) := fun W (hW : Below w.heap.size w W) => map_calls a len cap l p 1 W (hl.below hW) (by omega)
    have HO : Hid (mapE l p = 0 → mapE l q = 0 → (mapA l p side).at' ≤ (mapA l q side).at') := fun h1 h2 => order_all side h1 h2 (by omega)
    have HP : Hid (mapE l p = 0 → (mapA l p (-1)).at' ≤ (mapA l p 1).at' ∧ (mapA l p (-1)).gone = (mapA l p 1).gone) := fun h1 => order_side h1
    have HZ : Hid (mapE l p = 0 → mapE l q = 0 → mapE l p = 0) := fun h1 h2 => h1
    unfold spotV at *
    generalize mapA l p side = s at *
    generalize mapA l q side = t at *
    generalize mapA l p (-1) = u at *
    generalize mapA l p 1 = v at *
    generalize hE1 : mapE l p = E1 at *
    generalize hE2 : mapE l q = E2 at *
    clear hE1 hE2
    obtain ⟨s0, s1, s2, s3⟩ := s
    obtain ⟨t0, t1, t2, t3⟩ := t
    obtain ⟨u0, u1, u2, u3⟩ := u
    obtain ⟨v0, v1, v2, v3⟩ := v
    simp only at *
    clear hl
    have emn : min p q = p := by omega
    have emx : max p q = q := by omega
    go_enter Try.func7, Try.ntmps7
    go_wp2_with fail
    refine (H1.out _ (Below.refl _ w)).mono ?_
    rintro e W1 ⟨rfl, hB1⟩
    have hC1 : Below w.heap.size w W1 := ((Below.refl _ w) : Below w.heap.size w _).trans (hB1.mono ((Below.refl _ w) : Below w.heap.size w _).size)
    obtain ⟨V1, hV1⟩ : ∃ V, W1.alloc (.cells #[.int .i64 s0, .bool s1, .int .i64 s2, .int .i64 s3] 24) = V := ⟨_, rfl⟩
    have hD1 : Below w.heap.size w V1 := by rw [← hV1]; exact hC1.alloc hC1.size _
    have m1 : V1.heap[W1.heap.size]? = some (.cells #[.int .i64 s0, .bool s1, .int .i64 s2, .int .i64 s3] 24 (0, 0)) := by rw [← hV1]; exact World.alloc_heap_new W1 _
    have g1 : Below W1.heap.size W1 V1 := by rw [← hV1]; exact (Below.refl _ _).alloc (Nat.le_refl _) _
    have HV1 : Hid (W1.alloc (.cells #[.int .i64 s0, .bool s1, .int .i64 s2, .int .i64 s3] 24) = V1) := hV1
    clear hV1
    go_wp2_with fail
    · rw [HV1.out]
      refine (H2.out _ hD1).mono ?_
      rintro e W2 ⟨rfl, hB2⟩
      have hC2 : Below w.heap.size w W2 := (hD1 : Below w.heap.size w _).trans (hB2.mono (hD1 : Below w.heap.size w _).size)
      obtain ⟨V2, hV2⟩ : ∃ V, W2.alloc (.cells #[.int .i64 t0, .bool t1, .int .i64 t2, .int .i64 t3] 24) = V := ⟨_, rfl⟩
      have hD2 : Below w.heap.size w V2 := by rw [← hV2]; exact hC2.alloc hC2.size _
      have m2 : V2.heap[W2.heap.size]? = some (.cells #[.int .i64 t0, .bool t1, .int .i64 t2, .int .i64 t3] 24 (0, 0)) := by rw [← hV2]; exact World.alloc_heap_new W2 _
      have g2 : Below W2.heap.size W2 V2 := by rw [← hV2]; exact (Below.refl _ _).alloc (Nat.le_refl _) _
      have HV2 : Hid (W2.alloc (.cells #[.int .i64 t0, .bool t1, .int .i64 t2, .int .i64 t3] 24) = V2) := hV2
      clear hV2
      replace m1 := (g2.block _ (Nat.lt_of_lt_of_le (Array.getElem?_eq_some_iff.1 m1).1 hB2.size)).trans ((hB2.block _ (Array.getElem?_eq_some_iff.1 m1).1).trans m1)
      have hA2 : ∀ ob, Below w.heap.size w (W2.alloc ob) := fun ob => hC2.alloc hC2.size _
      by_cases z1 : E1 = 0
      · by_cases z2 : E2 = 0
        · have HZ0 := HP.out (HZ.out z1 z2)
          obtain ⟨o2, o3⟩ := HZ0
          have o1 := HO.out z1 z2
          subst z1 z2
          clear HZ HP HO
          subst o3
          go_wp2_with fail
          rw [HV2.out]
          refine (H3.out _ hD2).mono ?_
          rintro e W3 ⟨rfl, hB3⟩
          have hC3 : Below w.heap.size w W3 := (hD2 : Below w.heap.size w _).trans (hB3.mono (hD2 : Below w.heap.size w _).size)
          obtain ⟨V3, hV3⟩ : ∃ V, W3.alloc (.cells #[.int .i64 u0, .bool u1, .int .i64 u2, .int .i64 u3] 24) = V := ⟨_, rfl⟩
          have hD3 : Below w.heap.size w V3 := by rw [← hV3]; exact hC3.alloc hC3.size _
          have m3 : V3.heap[W3.heap.size]? = some (.cells #[.int .i64 u0, .bool u1, .int .i64 u2, .int .i64 u3] 24 (0, 0)) := by rw [← hV3]; exact World.alloc_heap_new W3 _
          have g3 : Below W3.heap.size W3 V3 := by rw [← hV3]; exact (Below.refl _ _).alloc (Nat.le_refl _) _
          have HV3 : Hid (W3.alloc (.cells #[.int .i64 u0, .bool u1, .int .i64 u2, .int .i64 u3] 24) = V3) := hV3
          clear hV3
          replace m1 := (g3.block _ (Nat.lt_of_lt_of_le (Array.getElem?_eq_some_iff.1 m1).1 hB3.size)).trans ((hB3.block _ (Array.getElem?_eq_some_iff.1 m1).1).trans m1)
          replace m2 := (g3.block _ (Nat.lt_of_lt_of_le (Array.getElem?_eq_some_iff.1 m2).1 hB3.size)).trans ((hB3.block _ (Array.getElem?_eq_some_iff.1 m2).1).trans m2)
          go_wp2_with fail
          rw [HV3.out]
          refine (H4.out _ hD3).mono ?_
          rintro e W4 ⟨rfl, hB4⟩
          have hC4 : Below w.heap.size w W4 := (hD3 : Below w.heap.size w _).trans (hB4.mono (hD3 : Below w.heap.size w _).size)
          have hA4 : ∀ ob, Below w.heap.size w (W4.alloc ob) := fun ob => hC4.alloc hC4.size _
          replace m1 := (hB4.block _ (Array.getElem?_eq_some_iff.1 m1).1).trans m1
          have l1 : W1.heap.size < W4.heap.size := (Array.getElem?_eq_some_iff.1 m1).1
          replace m2 := (hB4.block _ (Array.getElem?_eq_some_iff.1 m2).1).trans m2
          have l2 : W2.heap.size < W4.heap.size := (Array.getElem?_eq_some_iff.1 m2).1
          replace m3 := (hB4.block _ (Array.getElem?_eq_some_iff.1 m3).1).trans m3
          have l3 : W3.heap.size < W4.heap.size := (Array.getElem?_eq_some_iff.1 m3).1
          obtain ⟨a0, a1, a2, a3⟩ := cells4 m1
          obtain ⟨b0, b1, b2, b3⟩ := cells4 m2
          obtain ⟨c0, c1, c2, c3⟩ := cells4 m3
          have eu : (u1 == u1) = true := by simp
          go_wp2_with fail
          refine (awake_calls _).mono ?_
          rintro e W9 ⟨rfl, hB9⟩
          go_wp2
          go_ret
          exact ⟨rfl, (hA4 _).trans (hB9.mono (hA4 _).size)⟩
        · have zb : (E2 == 0) = false := by simpa using z2
          have zc : (E2 != 0) = true := by simpa using z2
          subst z1
          go_wp2_with fail
          refine (awake_calls _).mono ?_
          rintro e W9 ⟨rfl, hB9⟩
          go_wp2
          go_ret
          exact ⟨rfl, (hA2 _).trans (hB9.mono (hA2 _).size)⟩
      · have zb : (E1 == 0) = false := by simpa using z1
        have zc : (E1 != 0) = true := by simpa using z1
        go_wp2_with fail
        refine (awake_calls _).mono ?_
        rintro e W9 ⟨rfl, hB9⟩
        go_wp2
        go_ret
        exact ⟨rfl, (hA2 _).trans (hB9.mono (hA2 _).size)⟩
    · obtain rfl : p = q := by omega
      rw [HV1.out]
      refine (H2.out _ hD1).mono ?_
      rintro e W2 ⟨rfl, hB2⟩
      have hC2 : Below w.heap.size w W2 := (hD1 : Below w.heap.size w _).trans (hB2.mono (hD1 : Below w.heap.size w _).size)
      obtain ⟨V2, hV2⟩ : ∃ V, W2.alloc (.cells #[.int .i64 t0, .bool t1, .int .i64 t2, .int .i64 t3] 24) = V := ⟨_, rfl⟩
      have hD2 : Below w.heap.size w V2 := by rw [← hV2]; exact hC2.alloc hC2.size _
      have m2 : V2.heap[W2.heap.size]? = some (.cells #[.int .i64 t0, .bool t1, .int .i64 t2, .int .i64 t3] 24 (0, 0)) := by rw [← hV2]; exact World.alloc_heap_new W2 _
      have g2 : Below W2.heap.size W2 V2 := by rw [← hV2]; exact (Below.refl _ _).alloc (Nat.le_refl _) _
      have HV2 : Hid (W2.alloc (.cells #[.int .i64 t0, .bool t1, .int .i64 t2, .int .i64 t3] 24) = V2) := hV2
      clear hV2
      replace m1 := (g2.block _ (Nat.lt_of_lt_of_le (Array.getElem?_eq_some_iff.1 m1).1 hB2.size)).trans ((hB2.block _ (Array.getElem?_eq_some_iff.1 m1).1).trans m1)
      have hA2 : ∀ ob, Below w.heap.size w (W2.alloc ob) := fun ob => hC2.alloc hC2.size _
      by_cases z1 : E1 = 0
      · by_cases z2 : E2 = 0
        · have HZ0 := HP.out (HZ.out z1 z2)
          obtain ⟨o2, o3⟩ := HZ0
          have o1 := HO.out z1 z2
          subst z1 z2
          clear HZ HP HO
          subst o3
          go_wp2_with fail
          rw [HV2.out]
          refine (H3.out _ hD2).mono ?_
          rintro e W3 ⟨rfl, hB3⟩
          have hC3 : Below w.heap.size w W3 := (hD2 : Below w.heap.size w _).trans (hB3.mono (hD2 : Below w.heap.size w _).size)
          obtain ⟨V3, hV3⟩ : ∃ V, W3.alloc (.cells #[.int .i64 u0, .bool u1, .int .i64 u2, .int .i64 u3] 24) = V := ⟨_, rfl⟩
          have hD3 : Below w.heap.size w V3 := by rw [← hV3]; exact hC3.alloc hC3.size _
          have m3 : V3.heap[W3.heap.size]? = some (.cells #[.int .i64 u0, .bool u1, .int .i64 u2, .int .i64 u3] 24 (0, 0)) := by rw [← hV3]; exact World.alloc_heap_new W3 _
          have g3 : Below W3.heap.size W3 V3 := by rw [← hV3]; exact (Below.refl _ _).alloc (Nat.le_refl _) _
          have HV3 : Hid (W3.alloc (.cells #[.int .i64 u0, .bool u1, .int .i64 u2, .int .i64 u3] 24) = V3) := hV3
          clear hV3
          replace m1 := (g3.block _ (Nat.lt_of_lt_of_le (Array.getElem?_eq_some_iff.1 m1).1 hB3.size)).trans ((hB3.block _ (Array.getElem?_eq_some_iff.1 m1).1).trans m1)
          replace m2 := (g3.block _ (Nat.lt_of_lt_of_le (Array.getElem?_eq_some_iff.1 m2).1 hB3.size)).trans ((hB3.block _ (Array.getElem?_eq_some_iff.1 m2).1).trans m2)
          go_wp2_with fail
          rw [HV3.out]
          refine (H4.out _ hD3).mono ?_
          rintro e W4 ⟨rfl, hB4⟩
          have hC4 : Below w.heap.size w W4 := (hD3 : Below w.heap.size w _).trans (hB4.mono (hD3 : Below w.heap.size w _).size)
          have hA4 : ∀ ob, Below w.heap.size w (W4.alloc ob) := fun ob => hC4.alloc hC4.size _
          replace m1 := (hB4.block _ (Array.getElem?_eq_some_iff.1 m1).1).trans m1
          have l1 : W1.heap.size < W4.heap.size := (Array.getElem?_eq_some_iff.1 m1).1
          replace m2 := (hB4.block _ (Array.getElem?_eq_some_iff.1 m2).1).trans m2
          have l2 : W2.heap.size < W4.heap.size := (Array.getElem?_eq_some_iff.1 m2).1
          replace m3 := (hB4.block _ (Array.getElem?_eq_some_iff.1 m3).1).trans m3
          have l3 : W3.heap.size < W4.heap.size := (Array.getElem?_eq_some_iff.1 m3).1
          obtain ⟨a0, a1, a2, a3⟩ := cells4 m1
          obtain ⟨b0, b1, b2, b3⟩ := cells4 m2
          obtain ⟨c0, c1, c2, c3⟩ := cells4 m3
          have eu : (u1 == u1) = true := by simp
          go_wp2_with fail
          refine (awake_calls _).mono ?_
          rintro e W9 ⟨rfl, hB9⟩
          go_wp2
          go_ret
          exact ⟨rfl, (hA4 _).trans (hB9.mono (hA4 _).size)⟩
        · have zb : (E2 == 0) = false := by simpa using z2
          have zc : (E2 != 0) = true := by simpa using z2
          subst z1
          go_wp2_with fail
          refine (awake_calls _).mono ?_
          rintro e W9 ⟨rfl, hB9⟩
          go_wp2
          go_ret
          exact ⟨rfl, (hA2 _).trans (hB9.mono (hA2 _).size)⟩
      · have zb : (E1 == 0) = false := by simpa using z1
        have zc : (E1 != 0) = true := by simpa using z1
        go_wp2_with fail
        refine (awake_calls _).mono ?_
        rintro e W9 ⟨rfl, hB9⟩
        go_wp2
        go_ret
        exact ⟨rfl, (hA2 _).trans (hB9.mono (hA2 _).size)⟩
  · have H1 : Hid (∀ W, Below w.heap.size w W → _) := fun W (hW : Below w.heap.size w W) => map_calls a len cap l q side W (hl.below hW) (by omega)
    have H2 : Hid (∀ W, Below w.heap.size w W → _) := fun W (hW : Below w.heap.size w W) => map_calls a len cap l p side W (hl.below hW) (by omega)
    have H3 : Hid (∀ W, Below w.heap.size w W → _) := fun W (hW : Below w.heap.size w W) => map_calls a len cap l p (-1) W (hl.below hW) (by omega)
    have H4 : Hid (∀ W, Below w.heap.size w W → _) := fun W (hW : Below w.heap.size w W) => map_calls a len cap l p 1 W (hl.below hW) (by omega)
    have HO : Hid (mapE l q = 0 → mapE l p = 0 → (mapA l q side).at' ≤ (mapA l p side).at') := fun h1 h2 => order_all side h1 h2 (by omega)
    have HP : Hid (mapE l p = 0 → (mapA l p (-1)).at' ≤ (mapA l p 1).at' ∧ (mapA l p (-1)).gone = (mapA l p 1).gone) := fun h1 => order_side h1
    have HZ : Hid (mapE l q = 0 → mapE l p = 0 → mapE l p = 0) := fun h1 h2 => h2
    unfold spotV at *
    generalize mapA l q side = s at *
    generalize mapA l p side = t at *
    generalize mapA l p (-1) = u at *
    generalize mapA l p 1 = v at *
    generalize hE1 : mapE l q = E1 at *
    generalize hE2 : mapE l p = E2 at *
    clear hE1 hE2
    obtain ⟨s0, s1, s2, s3⟩ := s
    obtain ⟨t0, t1, t2, t3⟩ := t
    obtain ⟨u0, u1, u2, u3⟩ := u
    obtain ⟨v0, v1, v2, v3⟩ := v
    simp only at *
    clear hl
    have emn : min p q = q := by omega
    have emx : max p q = p := by omega
    go_enter Try.func7, Try.ntmps7
    go_wp2_with fail
    refine (H1.out _ (Below.refl _ w)).mono ?_
    rintro e W1 ⟨rfl, hB1⟩
    have hC1 : Below w.heap.size w W1 := ((Below.refl _ w) : Below w.heap.size w _).trans (hB1.mono ((Below.refl _ w) : Below w.heap.size w _).size)
    obtain ⟨V1, hV1⟩ : ∃ V, W1.alloc (.cells #[.int .i64 s0, .bool s1, .int .i64 s2, .int .i64 s3] 24) = V := ⟨_, rfl⟩
    have hD1 : Below w.heap.size w V1 := by rw [← hV1]; exact hC1.alloc hC1.size _
    have m1 : V1.heap[W1.heap.size]? = some (.cells #[.int .i64 s0, .bool s1, .int .i64 s2, .int .i64 s3] 24 (0, 0)) := by rw [← hV1]; exact World.alloc_heap_new W1 _
    have g1 : Below W1.heap.size W1 V1 := by rw [← hV1]; exact (Below.refl _ _).alloc (Nat.le_refl _) _
    have HV1 : Hid (W1.alloc (.cells #[.int .i64 s0, .bool s1, .int .i64 s2, .int .i64 s3] 24) = V1) := hV1
    clear hV1
    go_wp2_with fail
    rw [HV1.out]
    refine (H2.out _ hD1).mono ?_
    rintro e W2 ⟨rfl, hB2⟩
    have hC2 : Below w.heap.size w W2 := (hD1 : Below w.heap.size w _).trans (hB2.mono (hD1 : Below w.heap.size w _).size)
    obtain ⟨V2, hV2⟩ : ∃ V, W2.alloc (.cells #[.int .i64 t0, .bool t1, .int .i64 t2, .int .i64 t3] 24) = V := ⟨_, rfl⟩
    have hD2 : Below w.heap.size w V2 := by rw [← hV2]; exact hC2.alloc hC2.size _
    have m2 : V2.heap[W2.heap.size]? = some (.cells #[.int .i64 t0, .bool t1, .int .i64 t2, .int .i64 t3] 24 (0, 0)) := by rw [← hV2]; exact World.alloc_heap_new W2 _
    have g2 : Below W2.heap.size W2 V2 := by rw [← hV2]; exact (Below.refl _ _).alloc (Nat.le_refl _) _
    have HV2 : Hid (W2.alloc (.cells #[.int .i64 t0, .bool t1, .int .i64 t2, .int .i64 t3] 24) = V2) := hV2
    clear hV2
    replace m1 := (g2.block _ (Nat.lt_of_lt_of_le (Array.getElem?_eq_some_iff.1 m1).1 hB2.size)).trans ((hB2.block _ (Array.getElem?_eq_some_iff.1 m1).1).trans m1)
    have hA2 : ∀ ob, Below w.heap.size w (W2.alloc ob) := fun ob => hC2.alloc hC2.size _
    by_cases z1 : E1 = 0
    · by_cases z2 : E2 = 0
      · have HZ0 := HP.out (HZ.out z1 z2)
        obtain ⟨o2, o3⟩ := HZ0
        have o1 := HO.out z1 z2
        subst z1 z2
        clear HZ HP HO
        subst o3
        go_wp2_with fail
        rw [HV2.out]
        refine (H3.out _ hD2).mono ?_
        rintro e W3 ⟨rfl, hB3⟩
        have hC3 : Below w.heap.size w W3 := (hD2 : Below w.heap.size w _).trans (hB3.mono (hD2 : Below w.heap.size w _).size)
        obtain ⟨V3, hV3⟩ : ∃ V, W3.alloc (.cells #[.int .i64 u0, .bool u1, .int .i64 u2, .int .i64 u3] 24) = V := ⟨_, rfl⟩
        have hD3 : Below w.heap.size w V3 := by rw [← hV3]; exact hC3.alloc hC3.size _
        have m3 : V3.heap[W3.heap.size]? = some (.cells #[.int .i64 u0, .bool u1, .int .i64 u2, .int .i64 u3] 24 (0, 0)) := by rw [← hV3]; exact World.alloc_heap_new W3 _
        have g3 : Below W3.heap.size W3 V3 := by rw [← hV3]; exact (Below.refl _ _).alloc (Nat.le_refl _) _
        have HV3 : Hid (W3.alloc (.cells #[.int .i64 u0, .bool u1, .int .i64 u2, .int .i64 u3] 24) = V3) := hV3
        clear hV3
        replace m1 := (g3.block _ (Nat.lt_of_lt_of_le (Array.getElem?_eq_some_iff.1 m1).1 hB3.size)).trans ((hB3.block _ (Array.getElem?_eq_some_iff.1 m1).1).trans m1)
        replace m2 := (g3.block _ (Nat.lt_of_lt_of_le (Array.getElem?_eq_some_iff.1 m2).1 hB3.size)).trans ((hB3.block _ (Array.getElem?_eq_some_iff.1 m2).1).trans m2)
        go_wp2_with fail
        rw [HV3.out]
        refine (H4.out _ hD3).mono ?_
        rintro e W4 ⟨rfl, hB4⟩
        have hC4 : Below w.heap.size w W4 := (hD3 : Below w.heap.size w _).trans (hB4.mono (hD3 : Below w.heap.size w _).size)
        have hA4 : ∀ ob, Below w.heap.size w (W4.alloc ob) := fun ob => hC4.alloc hC4.size _
        replace m1 := (hB4.block _ (Array.getElem?_eq_some_iff.1 m1).1).trans m1
        have l1 : W1.heap.size < W4.heap.size := (Array.getElem?_eq_some_iff.1 m1).1
        replace m2 := (hB4.block _ (Array.getElem?_eq_some_iff.1 m2).1).trans m2
        have l2 : W2.heap.size < W4.heap.size := (Array.getElem?_eq_some_iff.1 m2).1
        replace m3 := (hB4.block _ (Array.getElem?_eq_some_iff.1 m3).1).trans m3
        have l3 : W3.heap.size < W4.heap.size := (Array.getElem?_eq_some_iff.1 m3).1
        obtain ⟨a0, a1, a2, a3⟩ := cells4 m1
        obtain ⟨b0, b1, b2, b3⟩ := cells4 m2
        obtain ⟨c0, c1, c2, c3⟩ := cells4 m3
        have eu : (u1 == u1) = true := by simp
        go_wp2_with fail
        refine (awake_calls _).mono ?_
        rintro e W9 ⟨rfl, hB9⟩
        go_wp2
        go_ret
        exact ⟨rfl, (hA4 _).trans (hB9.mono (hA4 _).size)⟩
      · have zb : (E2 == 0) = false := by simpa using z2
        have zc : (E2 != 0) = true := by simpa using z2
        subst z1
        go_wp2_with fail
        refine (awake_calls _).mono ?_
        rintro e W9 ⟨rfl, hB9⟩
        go_wp2
        go_ret
        exact ⟨rfl, (hA2 _).trans (hB9.mono (hA2 _).size)⟩
    · have zb : (E1 == 0) = false := by simpa using z1
      have zc : (E1 != 0) = true := by simpa using z1
      go_wp2_with fail
      refine (awake_calls _).mono ?_
      rintro e W9 ⟨rfl, hB9⟩
      go_wp2
      go_ret
      exact ⟨rfl, (hA2 _).trans (hB9.mono (hA2 _).size)⟩

theorem own : ownKnob Try.prog.godebug = none := by kernel_rfl
theorem laidOut : laidOutB Try.prog = true := by kernel_rfl

theorem contract (H : Type) (enc : TypeId × Value → H) (W : World) (base : Nat) (args : Array Value) (ds gs : List (DataW H)) (before : List MemPlace)
    (hval : ∀ (j : Nat) t v, Try.f7.params[j]? = some t → args[j]? = some v → Value.okWide Try.prog W .any base t v)
    (hW : DataW.Whole enc Try.prog Try.f7.params.toList Rows.posOrderSpec.vars false W args.toList ds gs before) (hsz0 : (DataW.weightsEach Try.prog (Try.f7.params.toList ++ Rows.posOrderSpec.plain.varTypes Try.prog) (ds ++ gs)).all (· ≤ reachBytes) = true) :
    Calls Try.prog 7 args W fun e W' => ∃ v, e = .returned v ∧ Rows.posOrderSpec.post enc Try.prog Try.f7 false true false false W args v W' := by
  have hW' := hW
  obtain ⟨p, q, hA0, hV, rfl, hfz, hnd⟩ := hW'
  have hA : DataW.TrodAll enc Try.prog W 0 (fun _ => true) true Try.f7.params.toList args.toList ds p := hA0
  have hsz : (DataW.weightsEach Try.prog (Try.f7.params.toList ++ Rows.posOrderSpec.plain.varTypes Try.prog) (ds ++ gs)).all (· ≤ reachBytes) = true := hsz0
  rw [Try.params7] at hA hval hsz
  obtain ⟨v0, vs0, d0, ds0, p0, q0, hargs, rfl, rfl, h0, r0⟩ := trodAll_cons hA
  obtain ⟨v1, vs1, d1, ds1, p1, q1, rfl, rfl, rfl, h1, r1⟩ := trodAll_cons r0
  obtain ⟨v2, vs2, d2, ds2, p2, q2, rfl, rfl, rfl, h2, r2⟩ := trodAll_cons r1
  obtain ⟨v3, vs3, d3, ds3, p3, q3, rfl, rfl, rfl, h3, r3⟩ := trodAll_cons r2
  obtain ⟨rfl, rfl, rfl⟩ := trodAll_nil r3
  obtain rfl : args = #[v0, v1, v2, v3] := by cases args; simp_all
  obtain ⟨rfl, rfl⟩ := trodVars_none hV
  obtain ⟨a0, len0, cap0, rfl⟩ := okWide_slice Try.underlying22 (hval 0 22 v0 rfl rfl)
  have lt0 : ∀ x ∈ p0, x.block < W.heap.size := by obtain ⟨m, hm⟩ := h0; exact DataW.trod_lt m _ _ _ hm
  obtain ⟨l0, w0, f0, c0, m0, n0, x0, g0⟩ := open_rngs h0
  have s0 := rngs_sized hsz (j := 0) rfl rfl g0
  obtain ⟨a1, rfl, rfl, rfl, w1⟩ := open_int Try.underlying3 (hval 1 3 v1 rfl rfl) h1
  obtain ⟨a2, rfl, rfl, rfl, w2⟩ := open_int Try.underlying3 (hval 2 3 v2 rfl rfl) h2
  obtain ⟨a3, rfl, rfl, rfl, w3⟩ := open_int Try.underlying3 (hval 3 3 v3 rfl rfl) h3
  clear hA0 hsz0 hsz
  refine (walk a0 len0 cap0 l0 a1 a2 a3 W w0 s0).mono fun e W' ⟨he, bel⟩ => ?_
  subst he
  exact ⟨_, rfl, _, _, _, [], _, [], hW, trodAll_mk1 (shut_bool Try.underlying4 _), (trodAll_cons_mk (Below.trod laidOut (by kernel_rfl) (of_decide_eq_true (by kernel_rfl)) h0 bel lt0) (trodAll_cons_mk (shut_int Try.underlying3 w1) (trodAll_cons_mk (shut_int Try.underlying3 w2) (trodAll_cons_mk (shut_int Try.underlying3 w3) trodAll_mk0)))), rfl, bel.frame _, fun h => by cases h⟩

set_option maxRecDepth 100000 in
theorem lifted (os : Os) (started : os.Started) (H : Type) (enc : TypeId × Value → H) :
    ReturnsInHanded {} Try.checked os 7 .any (Rows.posOrderSpec.pre6 enc Try.prog Try.f7 Rows.posOrderRow.domain false) (Rows.posOrderSpec.post enc Try.prog Try.f7 false true false false) := by
  refine returnsInHanded_of_change_sized (C := Try.checked) own started (by kernel_rfl) Try.func7
    (ChangeSpec.witness6 (enc := enc) (C := Try.checked) false ⟨#[], #[.slice none 0 0, .int .i64 0, .int .i64 0, .int .i64 0], []⟩ 8 (by kernel_rfl) (by kernel_rfl) (by kernel_rfl) (by kernel_rfl)) ?_
  intro W base args ds gs before hval hW _ hsz _
  exact contract H enc W base args ds gs before hval hW hsz

theorem proved : Rows.PosOrderSaid :=
  OpenClaim.holds_of_wide 7 Try.f7 rfl rfl rfl rfl rfl rfl rfl ⟨rfl, rfl, rfl, rfl, rfl⟩ rfl rfl rfl rfl rfl (by kernel_rfl) Try.func7 (by kernel_rfl)
    (of_decide_eq_true (by kernel_rfl)) (by unfold Func.isWrapper; first | (rw [if_pos (by decide +kernel)]; kernel_rfl) | (rw [if_neg (by decide +kernel)]; exact ⟨rfl, rfl⟩))
    (fun os started H enc _ => lifted os started H enc)
end Go.Proofs.Ytiadcpbaopafgaa.posOrder
namespace Go.Proofs.Ytiadcpbaopafgaa
theorem PosOrder_holds : Rows.PosOrderSaid := posOrder.proved
end Go.Proofs.Ytiadcpbaopafgaa
