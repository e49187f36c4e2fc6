/-
  PROVED HERE: the document's Send, and the walk of CaretSends.
-/
import Derived.Test.YtbkpehfaofhmaaaGreatDoorCB11
import Derived.Test.YtbkpehfaofhmaaaGreatDoorCB35
import Derived.Test.YtbkpehfaofhmaaaGreatDoorCBDBP8RefMap
import Derived.Test.YtbkpehfaofhmaaaGreatDoorCB3
namespace Go.Proofs.YtbkpehfaofhmaaaGreatDoor
open Go.RowKit

set_option maxRecDepth 100000 in
set_option maxHeartbeats 2000000 in
theorem rsend_calls (a : Option Addr) (len cap : Nat) (l : List Rng) (an hd : Int) (w : World) (hl : Rngs w a len l) (hz : len ≤ 9223372036854775807) :
    Calls Tryz.prog 18 #[.slice a len cap, .int .i64 an, .int .i64 hd] w fun e w' => e = .returned (.tuple #[.int .i64 (sendC l an hd).1, .int .i64 (sendC l an hd).2.1, .int .i64 (sendC l an hd).2.2]) ∧ Below w.heap.size w w' := by
  have HM : Hid (∀ (p s : Int) (X : World), Below w.heap.size w X → Calls Tryz.prog 31 #[.slice a len cap, .int .i64 p, .int .i64 s] X fun e w' => e = .returned (.tuple #[spotV (mapA l p s), .int .i64 (mapE l p)]) ∧ Below X.heap.size X w') := fun p s X hX => refmap_calls a len cap l p s X (hl.below hX) hz
  have hw1 : sendW an hd = 1 ∧ decide (hd < an) = true ∨ sendW an hd = -1 ∧ decide (hd < an) = false := by
    unfold sendW
    by_cases h : hd < an
    · exact .inl ⟨if_pos h, by simpa using h⟩
    · exact .inr ⟨if_neg h, by simpa using h⟩
  unfold sendC
  have HBR := hidC (Below.refl w.heap.size w)
  generalize hwy : sendW an hd = y at *
  clear hwy
  unfold spotV at HM
  rcases hw1 with ⟨rfl, hd1⟩ | ⟨rfl, hd1⟩
  · by_cases h1 : mapE l an = 0
    · have HM1 := hidC (HM.out an (1) w HBR.out)
      have HM2 := hidC (HM.out hd (-1))
      clear HM
      rw [h1] at HM1
      rw [if_pos h1]
      by_cases h2 : mapE l hd = 0
      · rw [if_pos h2]
        rw [h2] at HM2
        try rw [show -(-1 : Int) = 1 from rfl]
        generalize mapA l hd (-1) = S2 at *
        obtain ⟨t0, t1, t2, t3⟩ := S2
        generalize mapA l an (1) = S1 at *
        obtain ⟨s0, s1, s2, s3⟩ := S1
        go_enter Tryz.func18, Tryz.ntmps18
        go_wp2_with fail
        refine HM1.out.mono ?_
        rintro e X ⟨rfl, hX⟩
        have hXa : Below w.heap.size w (X.alloc (.cells #[.int .i64 s0, .bool s1, .int .i64 s2, .int .i64 s3] 72)) := hX.alloc hX.size _
        have HM3 := hidC (HM2.out _ hXa)
        have HXA := hidC hXa
        have HX0 := hidC (World.alloc_heap_new X (.cells #[.int .i64 s0, .bool s1, .int .i64 s2, .int .i64 s3] 72))
        clear HM1 HM2 hX hXa
        generalize hWW : X.alloc (.cells #[.int .i64 s0, .bool s1, .int .i64 s2, .int .i64 s3] 72) = WW at *
        have HWW := hidC hWW
        clear hWW
        go_wp2_with fail
        rw [HWW.out]
        refine HM3.out.mono ?_
        rintro e Y ⟨rfl, hY⟩
        have HBY := hidC (HXA.out.trans (hY.mono HXA.out.size))
        have hXl : X.heap.size < WW.heap.size := (Array.getElem?_eq_some_iff.1 HX0.out).1
        have b0 := (hY.block _ hXl).trans HX0.out
        have hYl : X.heap.size < Y.heap.size := (Array.getElem?_eq_some_iff.1 b0).1
        obtain ⟨V, hV⟩ : ∃ V, Y.alloc (.cells #[.int .i64 t0, .bool t1, .int .i64 t2, .int .i64 t3] 72) = V := ⟨_, rfl⟩
        have bV0 : V.heap[X.heap.size]? = some (.cells #[.int .i64 s0, .bool s1, .int .i64 s2, .int .i64 s3] 72 (0, 0)) := by rw [← hV]; exact (Below.heap_alloc Y _ _ hYl).trans b0
        have bV1 : V.heap[Y.heap.size]? = some (.cells #[.int .i64 t0, .bool t1, .int .i64 t2, .int .i64 t3] 72 (0, 0)) := by rw [← hV]; exact World.alloc_heap_new Y _
        have HVC : Hid (∀ Z, Below V.heap.size V Z → Z.cell? ⟨X.heap.size, 0, none⟩ = some (.int .i64 s0) ∧ Z.cell? ⟨Y.heap.size, 0, none⟩ = some (.int .i64 t0)) := fun Z hZ =>
          ⟨(cells4 ((hZ.block _ (Array.getElem?_eq_some_iff.1 bV0).1).trans bV0)).1, (cells4 ((hZ.block _ (Array.getElem?_eq_some_iff.1 bV1).1).trans bV1)).1⟩
        have HBV := hidC (show Below w.heap.size w V from by rw [← hV]; exact HBY.out.alloc HBY.out.size _)
        have HV := hidC hV
        clear hY b0 hV HX0 HXA bV0 bV1
        go_wp2_with fail
        rw [HV.out]
        refine wp_region_held_drew (S := fun Z => Below V.heap.size V Z) mixed (Below.refl _ _).drew (fun hS => ?_)
        refine takeF 0 (some 37) (v := ?_) hS ?_ ?_
        rotate_left
        · intro w hSw
          try go_simp
          with_reducible rfl
        try simp only [lay4]
        refine takeF 1 (some 38) (v := ?_) hS ?_ ?_
        rotate_left
        · intro w hSw
          obtain ⟨z0, z1⟩ := HVC.out _ hSw
          try go_simp
          with_reducible rfl
        try simp only [lay4]
        refine takeF 2 (some 39) (v := ?_) hS ?_ ?_
        rotate_left
        · intro w hSw
          try go_simp
          with_reducible rfl
        try simp only [lay4]
        refine takeF 3 (some 40) (v := ?_) hS ?_ ?_
        rotate_left
        · intro w hSw
          obtain ⟨z0, z1⟩ := HVC.out _ hSw
          try go_simp
          with_reducible rfl
        try simp only [lay4]
        refine takeF 4 (some 6) (v := ?_) hS ?_ ?_
        rotate_left
        · intro w hSw
          try go_simp
          with_reducible rfl
        try simp only [lay4]
        refine takeF 5 (some 7) (v := ?_) hS ?_ ?_
        rotate_left
        · intro w hSw
          try go_simp
          with_reducible rfl
        try simp only [lay4]
        refine takeF 6 (some 8) (v := ?_) hS ?_ ?_
        rotate_left
        · intro w hSw
          try go_simp
          with_reducible rfl
        try simp only [lay4]
        refine wpAnyH_done (by kernel_rfl) ?_ _
        go_wp2
        refine bodyPost_ret (results_tmp3 rfl _ _ _) rfl ?_
        exact ⟨rfl, HBV.out.drew⟩
      · rw [if_neg h2]
        have hne : (mapE l hd != 0) = true := by simpa using h2
        generalize mapE l hd = E2 at *
        generalize mapA l hd (-1) = S2 at *
        obtain ⟨t0, t1, t2, t3⟩ := S2
        generalize mapA l an (1) = S1 at *
        obtain ⟨s0, s1, s2, s3⟩ := S1
        go_enter Tryz.func18, Tryz.ntmps18
        go_wp2_with fail
        refine HM1.out.mono ?_
        rintro e X ⟨rfl, hX⟩
        have hXa : Below w.heap.size w (X.alloc (.cells #[.int .i64 s0, .bool s1, .int .i64 s2, .int .i64 s3] 72)) := hX.alloc hX.size _
        have HM3 := hidC (HM2.out _ hXa)
        have HXA := hidC hXa
        have HX0 := hidC (World.alloc_heap_new X (.cells #[.int .i64 s0, .bool s1, .int .i64 s2, .int .i64 s3] 72))
        clear HM1 HM2 hX hXa
        generalize hWW : X.alloc (.cells #[.int .i64 s0, .bool s1, .int .i64 s2, .int .i64 s3] 72) = WW at *
        have HWW := hidC hWW
        clear hWW
        go_wp2_with fail
        rw [HWW.out]
        refine HM3.out.mono ?_
        rintro e Y ⟨rfl, hY⟩
        have HBY := hidC (HXA.out.trans (hY.mono HXA.out.size))
        clear hY
        go_wp2
        refine bodyPost_ret (results_tmp3 rfl _ _ _) rfl ?_
        exact ⟨rfl, HBY.out.alloc HBY.out.size _⟩
    · rw [if_neg h1]
      have hne : (mapE l an != 0) = true := by simpa using h1
      have HM1 := hidC (HM.out an (1) w HBR.out)
      clear HM
      generalize mapE l an = E1 at *
      generalize mapA l an (1) = S1 at *
      obtain ⟨s0, s1, s2, s3⟩ := S1
      go_enter Tryz.func18, Tryz.ntmps18
      go_wp2_with fail
      refine HM1.out.mono ?_
      rintro e X ⟨rfl, hX⟩
      have HX := hidC hX
      clear hX HM1
      go_wp2
      refine bodyPost_ret (results_tmp3 rfl _ _ _) rfl ?_
      exact ⟨rfl, HX.out.alloc HX.out.size _⟩
  · by_cases h1 : mapE l an = 0
    · have HM1 := hidC (HM.out an (-1) w HBR.out)
      have HM2 := hidC (HM.out hd (1))
      clear HM
      rw [h1] at HM1
      rw [if_pos h1]
      by_cases h2 : mapE l hd = 0
      · rw [if_pos h2]
        rw [h2] at HM2
        try rw [show -(-1 : Int) = 1 from rfl]
        generalize mapA l hd (1) = S2 at *
        obtain ⟨t0, t1, t2, t3⟩ := S2
        generalize mapA l an (-1) = S1 at *
        obtain ⟨s0, s1, s2, s3⟩ := S1
        go_enter Tryz.func18, Tryz.ntmps18
        go_wp2_with fail
        refine HM1.out.mono ?_
        rintro e X ⟨rfl, hX⟩
        have hXa : Below w.heap.size w (X.alloc (.cells #[.int .i64 s0, .bool s1, .int .i64 s2, .int .i64 s3] 72)) := hX.alloc hX.size _
        have HM3 := hidC (HM2.out _ hXa)
        have HXA := hidC hXa
        have HX0 := hidC (World.alloc_heap_new X (.cells #[.int .i64 s0, .bool s1, .int .i64 s2, .int .i64 s3] 72))
        clear HM1 HM2 hX hXa
        generalize hWW : X.alloc (.cells #[.int .i64 s0, .bool s1, .int .i64 s2, .int .i64 s3] 72) = WW at *
        have HWW := hidC hWW
        clear hWW
        go_wp2_with fail
        rw [HWW.out]
        refine HM3.out.mono ?_
        rintro e Y ⟨rfl, hY⟩
        have HBY := hidC (HXA.out.trans (hY.mono HXA.out.size))
        have hXl : X.heap.size < WW.heap.size := (Array.getElem?_eq_some_iff.1 HX0.out).1
        have b0 := (hY.block _ hXl).trans HX0.out
        have hYl : X.heap.size < Y.heap.size := (Array.getElem?_eq_some_iff.1 b0).1
        obtain ⟨V, hV⟩ : ∃ V, Y.alloc (.cells #[.int .i64 t0, .bool t1, .int .i64 t2, .int .i64 t3] 72) = V := ⟨_, rfl⟩
        have bV0 : V.heap[X.heap.size]? = some (.cells #[.int .i64 s0, .bool s1, .int .i64 s2, .int .i64 s3] 72 (0, 0)) := by rw [← hV]; exact (Below.heap_alloc Y _ _ hYl).trans b0
        have bV1 : V.heap[Y.heap.size]? = some (.cells #[.int .i64 t0, .bool t1, .int .i64 t2, .int .i64 t3] 72 (0, 0)) := by rw [← hV]; exact World.alloc_heap_new Y _
        have HVC : Hid (∀ Z, Below V.heap.size V Z → Z.cell? ⟨X.heap.size, 0, none⟩ = some (.int .i64 s0) ∧ Z.cell? ⟨Y.heap.size, 0, none⟩ = some (.int .i64 t0)) := fun Z hZ =>
          ⟨(cells4 ((hZ.block _ (Array.getElem?_eq_some_iff.1 bV0).1).trans bV0)).1, (cells4 ((hZ.block _ (Array.getElem?_eq_some_iff.1 bV1).1).trans bV1)).1⟩
        have HBV := hidC (show Below w.heap.size w V from by rw [← hV]; exact HBY.out.alloc HBY.out.size _)
        have HV := hidC hV
        clear hY b0 hV HX0 HXA bV0 bV1
        go_wp2_with fail
        rw [HV.out]
        refine wp_region_held_drew (S := fun Z => Below V.heap.size V Z) mixed (Below.refl _ _).drew (fun hS => ?_)
        refine takeF 0 (some 37) (v := ?_) hS ?_ ?_
        rotate_left
        · intro w hSw
          try go_simp
          with_reducible rfl
        try simp only [lay4]
        refine takeF 1 (some 38) (v := ?_) hS ?_ ?_
        rotate_left
        · intro w hSw
          obtain ⟨z0, z1⟩ := HVC.out _ hSw
          try go_simp
          with_reducible rfl
        try simp only [lay4]
        refine takeF 2 (some 39) (v := ?_) hS ?_ ?_
        rotate_left
        · intro w hSw
          try go_simp
          with_reducible rfl
        try simp only [lay4]
        refine takeF 3 (some 40) (v := ?_) hS ?_ ?_
        rotate_left
        · intro w hSw
          obtain ⟨z0, z1⟩ := HVC.out _ hSw
          try go_simp
          with_reducible rfl
        try simp only [lay4]
        refine takeF 4 (some 6) (v := ?_) hS ?_ ?_
        rotate_left
        · intro w hSw
          try go_simp
          with_reducible rfl
        try simp only [lay4]
        refine takeF 5 (some 7) (v := ?_) hS ?_ ?_
        rotate_left
        · intro w hSw
          try go_simp
          with_reducible rfl
        try simp only [lay4]
        refine takeF 6 (some 8) (v := ?_) hS ?_ ?_
        rotate_left
        · intro w hSw
          try go_simp
          with_reducible rfl
        try simp only [lay4]
        refine wpAnyH_done (by kernel_rfl) ?_ _
        go_wp2
        refine bodyPost_ret (results_tmp3 rfl _ _ _) rfl ?_
        exact ⟨rfl, HBV.out.drew⟩
      · rw [if_neg h2]
        have hne : (mapE l hd != 0) = true := by simpa using h2
        generalize mapE l hd = E2 at *
        generalize mapA l hd (1) = S2 at *
        obtain ⟨t0, t1, t2, t3⟩ := S2
        generalize mapA l an (-1) = S1 at *
        obtain ⟨s0, s1, s2, s3⟩ := S1
        go_enter Tryz.func18, Tryz.ntmps18
        go_wp2_with fail
        refine HM1.out.mono ?_
        rintro e X ⟨rfl, hX⟩
        have hXa : Below w.heap.size w (X.alloc (.cells #[.int .i64 s0, .bool s1, .int .i64 s2, .int .i64 s3] 72)) := hX.alloc hX.size _
        have HM3 := hidC (HM2.out _ hXa)
        have HXA := hidC hXa
        have HX0 := hidC (World.alloc_heap_new X (.cells #[.int .i64 s0, .bool s1, .int .i64 s2, .int .i64 s3] 72))
        clear HM1 HM2 hX hXa
        generalize hWW : X.alloc (.cells #[.int .i64 s0, .bool s1, .int .i64 s2, .int .i64 s3] 72) = WW at *
        have HWW := hidC hWW
        clear hWW
        go_wp2_with fail
        rw [HWW.out]
        refine HM3.out.mono ?_
        rintro e Y ⟨rfl, hY⟩
        have HBY := hidC (HXA.out.trans (hY.mono HXA.out.size))
        clear hY
        go_wp2
        refine bodyPost_ret (results_tmp3 rfl _ _ _) rfl ?_
        exact ⟨rfl, HBY.out.alloc HBY.out.size _⟩
    · rw [if_neg h1]
      have hne : (mapE l an != 0) = true := by simpa using h1
      have HM1 := hidC (HM.out an (-1) w HBR.out)
      clear HM
      generalize mapE l an = E1 at *
      generalize mapA l an (-1) = S1 at *
      obtain ⟨s0, s1, s2, s3⟩ := S1
      go_enter Tryz.func18, Tryz.ntmps18
      go_wp2_with fail
      refine HM1.out.mono ?_
      rintro e X ⟨rfl, hX⟩
      have HX := hidC hX
      clear hX HM1
      go_wp2
      refine bodyPost_ret (results_tmp3 rfl _ _ _) rfl ?_
      exact ⟨rfl, HX.out.alloc HX.out.size _⟩
set_option maxRecDepth 100000 in
set_option maxHeartbeats 1000000 in
theorem sends_walk (a : Option Addr) (len cap : Nat) (l : List Rng) (x y : Int) (w : World) (hl : Rngs w a len l) (hz : len ≤ 9223372036854775807) (hE : ETy w) :
    Calls Tryz.prog 4 #[.slice a len cap, .int .i64 x, .int .i64 y] w fun e w' => e = .returned (.bool true) ∧ Below w.heap.size w w' := by
  have H1 := hidC (csend_calls a len cap l x y w hl hz)
  have H2 : Hid (∀ X, Below w.heap.size w X → _) := fun X (hX : Below w.heap.size w X) => rsend_calls a len cap l x y X (hl.below hX) hz
  have HA : Hid (∀ X, Below w.heap.size w X → _) := fun X (hX : Below w.heap.size w X) => awakec_calls X (hE.below hX)
  generalize sendC l x y = S1 at *
  obtain ⟨p1, p2, p3⟩ := S1
  simp only at *
  clear hl hE
  go_enter Tryz.func4, Tryz.ntmps4
  go_wp2_with fail
  refine H1.out.mono ?_
  rintro e X1 ⟨rfl, hB1⟩
  have HB1 := hidC hB1
  clear hB1
  go_wp2_with fail
  refine (H2.out X1 HB1.out).mono ?_
  rintro e X2 ⟨rfl, hB2⟩
  have HB2 := hidC (HB1.out.trans (hB2.mono HB1.out.size))
  clear hB2
  go_wp2_with fail
  refine (HA.out X2 HB2.out).mono ?_
  rintro e X3 ⟨rfl, hB3⟩
  have HB3 := hidC (HB2.out.trans (hB3.mono HB2.out.size))
  clear hB3
  go_wp2
  go_ret
  exact ⟨rfl, HB3.out⟩
end Go.Proofs.YtbkpehfaofhmaaaGreatDoor
