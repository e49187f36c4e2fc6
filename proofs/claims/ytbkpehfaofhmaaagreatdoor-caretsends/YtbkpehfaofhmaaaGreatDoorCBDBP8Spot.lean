/-
  PROVED HERE: a part's spot: what it returns; nothing that lay before is turned.
-/
import Derived.Test.YtbkpehfaofhmaaaGreatDoorCB3
import Derived.Test.YtbkpehfaofhmaaaGreatDoorCB8
import Derived.Laws.Tables
import Derived.Laws.CopyOwn
namespace Go.Proofs.YtbkpehfaofhmaaaGreatDoor
open Go.RowKit
theorem sizeSpot : (Tryz.prog.info? 72).map (·.size) = some 4 := by kernel_rfl
theorem ones4 (x : Int) (b : Bool) (y z : Int) : (#[Value.int .i64 x, .bool b, .int .i64 y, .int .i64 z] : Array Value).all (·.oneCell') = true := by simp [Value.oneCell']
theorem frozen_block {w : World} {B j : Nat} {cs : Array Value} {t : TypeId} (h : w.heap[B]? = some (.cells cs t (0, 0))) : w.frozen? ⟨B, j, none⟩ = false := by simp [World.frozen?, h]
set_option maxRecDepth 100000 in
set_option maxHeartbeats 2000000 in
theorem spot_calls (x : Rng) (i d p side : Int) (w : World) (hx : Small x.a) (ho : Small x.o) (hn : Small x.n) (hd : Small d) (hp : Small p) : Calls Tryz.prog 94 #[partV x i d, .int .i64 p, .int .i64 side] w fun e w' => e = .returned (spotV (spotR x i d p side)) /\ Below w.heap.size w w' := by
 have HG : Hid (∀ W, Calls Tryz.prog 121 #[partV x i d, .int .i64 p, .int .i64 side] W fun e w' => e = .returned (.int .i64 (goal x d p side)) /\ Below W.heap.size W w') := fun W => goal_calls x i d p side W hx ho hn hd
 have HI : Hid (∀ W, Calls Tryz.prog 122 #[partV x i d, .int .i64 p] W fun e w' => e = .returned (.bool (inner x p)) /\ Below W.heap.size W w') := fun W => inner_calls x i d p W hx ho
 have HO : Hid (∀ W, Calls Tryz.prog 123 #[partV x i d, .int .i64 p, .int .i64 side] W fun e w' => e = .returned (.bool (outer x p side)) /\ Below W.heap.size W w') := fun W => outer_calls x i d p side W hx ho
 unfold spotR spotV
 generalize goal x d p side = G at *
 generalize inner x p = q at *
 generalize outer x p side = u at *
 obtain ⟨a, o, n⟩ := x
 unfold Small at *
 simp only [partV] at *
 obtain ⟨W2, hW2⟩ : ∃ W2, (w.alloc (.cells #[.int .i64 a, .int .i64 o, .int .i64 n, .int .i64 i, .int .i64 d] 153)).alloc (.cells #[.int .i64 0, .bool false, .int .i64 0, .int .i64 0] 72) = W2 := ⟨_, rfl⟩
 have hB0 : Below w.heap.size w W2 := by rw [<- hW2]; exact ((Below.refl _ _).alloc (Nat.le_refl _) _).alloc (by simp) _
 have hs2 : W2.heap.size = w.heap.size + 2 := by rw [<- hW2]; simp
 have m0 : W2.heap[w.heap.size]? = some (.cells #[.int .i64 a, .int .i64 o, .int .i64 n, .int .i64 i, .int .i64 d] 153 (0, 0)) := by rw [<- hW2, Below.heap_alloc _ _ _ (by simp)]; exact World.alloc_heap_new w _
 have m1 : W2.heap[w.heap.size + 1]? = some (.cells #[.int .i64 0, .bool false, .int .i64 0, .int .i64 0] 72 (0, 0)) := by
  rw [<- hW2]
  have := World.alloc_heap_new (w.alloc (.cells #[.int .i64 a, .int .i64 o, .int .i64 n, .int .i64 i, .int .i64 d] 153)) (.cells #[.int .i64 0, .bool false, .int .i64 0, .int .i64 0] 72)
  rwa [World.size_alloc] at this
 have HK : Hid (∀ W, Below W2.heap.size W2 W -> W.cell? ⟨w.heap.size, 0, none⟩ = some (.int .i64 a) /\ W.cell? ⟨w.heap.size, 1, none⟩ = some (.int .i64 o) /\ W.cell? ⟨w.heap.size, 2, none⟩ = some (.int .i64 n) /\ W.cell? ⟨w.heap.size, 3, none⟩ = some (.int .i64 i) /\ W.cell? ⟨w.heap.size, 4, none⟩ = some (.int .i64 d)) := fun W hW => cells5 ((hW.block _ (by omega)).trans m0)
 have HR : Hid (∀ W, Below W2.heap.size W2 W -> W.heap[w.heap.size + 1]? = some (.cells #[.int .i64 0, .bool false, .int .i64 0, .int .i64 0] 72 (0, 0))) := fun W hW => (hW.block _ (by omega)).trans m1
 have HW2 : Hid ((w.alloc (.cells #[.int .i64 a, .int .i64 o, .int .i64 n, .int .i64 i, .int .i64 d] 153)).alloc (.cells #[.int .i64 0, .bool false, .int .i64 0, .int .i64 0] 72) = W2) := hW2
 have HEND : Hid (∀ (u : Bool) (V : World) (N : Nat), Below W2.heap.size W2 V -> W2.heap.size <= N -> V.heap[N]? = some (.cells #[.int .i64 G, .bool q, .int .i64 i, .int .i64 (p - a)] 72 (0, 0)) -> N < V.heap.size /\ N ≠ w.heap.size /\ N ≠ w.heap.size + 1) := fun u V N hV hN hm => ⟨(Array.getElem?_eq_some_iff.1 hm).1, by omega, by omega⟩
 have HS : Hid (W2.heap.size = w.heap.size + 2) := hs2
 have hpa : IntKind.i64.wrap (p - a) = p - a := by rw [IntKind.wrap_i64]; omega
 clear m0 m1 hW2 hx ho hn hs2
 go_enter Tryz.func94, Tryz.ntmps94
 go_wp2_with fail
 rw [HW2.out]
 refine wp_region_held_drew (S := fun X => Below W2.heap.size W2 X) mixed (Below.refl _ _).drew (fun hS => ?_)
 generalize W2.drew = X0 at hS ⊢
 refine takeF 0 (some 8) (v := ?_) hS ?_ ?_
 rotate_left
 ·intro w hSw
  obtain ⟨k0, k1, k2, k3, k4⟩ := HK.out _ hSw
  go_simp
  with_reducible rfl
 try simp only [lay4]
 refine takeF 1 (some 9) (v := ?_) hS ?_ ?_
 rotate_left
 ·intro w hSw
  try go_simp
  with_reducible rfl
 try simp only [lay4]
 refine takeF 2 (some 10) (v := ?_) hS ?_ ?_
 rotate_left
 ·intro w hSw
  try go_simp
  with_reducible rfl
 try simp only [lay4]
 refine takeF 4 (some 12) (v := ?_) hS ?_ ?_
 rotate_left
 ·intro w hSw
  obtain ⟨k0, k1, k2, k3, k4⟩ := HK.out _ hSw
  go_simp
  with_reducible rfl
 try simp only [lay4]
 refine takeF 5 (some 13) (v := ?_) hS ?_ ?_
 rotate_left
 ·intro w hSw
  try go_simp
  with_reducible rfl
 try simp only [lay4]
 refine takeF 7 (some 15) (v := ?_) hS ?_ ?_
 rotate_left
 ·intro w hSw
  go_simp
  with_reducible rfl
 try simp only [lay4]
 refine takeF 8 (some 16) (v := ?_) hS ?_ ?_
 rotate_left
 ·intro w hSw
  obtain ⟨k0, k1, k2, k3, k4⟩ := HK.out _ hSw
  go_simp
  with_reducible rfl
 try simp only [lay4]
 refine takeF 9 (some 17) (v := ?_) hS ?_ ?_
 rotate_left
 ·intro w hSw
  try go_simp
  with_reducible rfl
 try simp only [lay4]
 refine takeF 10 (some 18) (v := ?_) hS ?_ ?_
 rotate_left
 ·intro w hSw
  go_simp
  with_reducible rfl
 try simp only [lay4]
 refine takeF 11 (some 19) (v := ?_) hS ?_ ?_
 rotate_left
 ·intro w hSw
  go_simp
  with_reducible rfl
 try simp only [lay4]
 refine takeF 12 (some 20) (v := ?_) hS ?_ ?_
 rotate_left
 ·intro w hSw
  obtain ⟨k0, k1, k2, k3, k4⟩ := HK.out _ hSw
  go_simp
  with_reducible rfl
 try simp only [lay4]
 refine takeF 13 (some 21) (v := ?_) hS ?_ ?_
 rotate_left
 ·intro w hSw
  go_simp
  with_reducible rfl
 try simp only [lay4]
 refine wpAnyH_ready (rs := [3, 15]) (by kernel_rfl) (by simp) (AllReadyH.cons rfl (fun K hK => ?_) ( AllReadyH.cons rfl (fun K hK => ?_) (AllReadyH.nil)))
 ·rw [if_pos (by rfl)]
  go_simp
  refine (HG.out _).mono ?_
  rintro e X1 ⟨rfl, b1⟩
  have hS1 := hS.trans (b1.mono hS.size)
  refine hK.out _ _ hS1 (fun _ => ?_)
  clear hK K
  try simp only [lay4]
  refine wpAnyH_ready (rs := [6, 15]) (by kernel_rfl) (by simp) (AllReadyH.cons rfl (fun K hK => ?_) ( AllReadyH.cons rfl (fun K hK => ?_) (AllReadyH.nil)))
  ·rw [if_pos (by rfl)]
   go_simp
   refine (HI.out _).mono ?_
   rintro e X2 ⟨rfl, b2⟩
   have hS2 := hS1.trans (b2.mono hS1.size)
   refine hK.out _ _ hS2 (fun _ => ?_)
   clear hK K
   try simp only [lay4]
   refine takeF 14 (some 22) (v := ?_) hS2 ?_ ?_
   rotate_left
   ·intro w hSw
    go_simp
    with_reducible rfl
   try simp only [lay4]
   refine callD 15 (by kernel_rfl) rfl (fun K hK => ?_)
   rw [if_pos (by rfl)]
   go_simp
   have hS3 := hS2.alloc hS2.size (.cells #[.int .i64 0, .bool false, .int .i64 0, .int .i64 0] 72)
   have m7 := World.alloc_heap_new X2 (.cells #[.int .i64 0, .bool false, .int .i64 0, .int .i64 0] 72)
   have hN : W2.heap.size <= (X2).heap.size := hS2.size
   refine hK.out _ _ hS3 (fun _ => ?_)
   generalize (X2).alloc (.cells #[.int .i64 0, .bool false, .int .i64 0, .int .i64 0] 72) = X3 at *
   clear hK K
   try simp only [lay4]
   refine callD 16 (by kernel_rfl) rfl (fun K hK => ?_)
   rw [if_pos (by rfl)]
   refine wp_store_row 72 _ _ rfl (X2).heap.size #[.int .i64 G, .bool q, .int .i64 i, .int .i64 (p - a)] rfl rfl 72 _ m7 sizeSpot rfl (ones4 ..) ?_
   have hV := below_setRow hS3 hN #[.int .i64 G, .bool q, .int .i64 i, .int .i64 (p - a)]
   have mV := setRow_heap _ _ _ #[.int .i64 G, .bool q, .int .i64 i, .int .i64 (p - a)] _ _ m7
   refine hK.out _ _ hV (fun _ => ?_)
   generalize World.setRow X3 (X2).heap.size #[.int .i64 G, .bool q, .int .i64 i, .int .i64 (p - a)] = V at *
   obtain ⟨l1, l2, l3⟩ := HEND.out u V _ hV hN mV
   generalize (X2).heap.size = N at *
   clear hK K
   try simp only [Act.put, List.setIfInBounds_toArray]
   refine wpAnyH_done (by kernel_rfl) ?_ _
   obtain ⟨k0, k1, k2, k3, k4⟩ := HK.out V hV
   go_wp2_with fail
   refine (HO.out _).mono ?_
   rintro e V2 ⟨rfl, b9⟩
   have hV2 := hV.trans (b9.mono hV.size)
   replace mV := (b9.block _ l1).trans mV
   have r0 := HR.out V2 hV2
   have s2 := HS.out
   have hBV := hB0.trans (hV2.mono hB0.size)
   obtain ⟨j0, j1, j2, j3⟩ := cells4 r0
   obtain ⟨g0, g1, g2, g3⟩ := cells4 mV
   have f0 : ∀ j, V2.frozen? ⟨w.heap.size + 1, j, none⟩ = false := fun j => frozen_block r0
   have f1 : ∀ j, V2.frozen? ⟨N, j, none⟩ = false := fun j => frozen_block mV
   clear k0 k1 k2 k3 k4
   cases u with
   | false =>
    go_wp2
    refine bodyPost_ret (results_cell_row rfl _ _ (w.heap.size + 1) 72 _ (0, 0) _ rfl (put4 r0 _ _ _ _) Tryz.underlying72 rfl sizeSpot) rfl ?_
    exact ⟨rfl, below4 hBV (by omega) ..⟩
   | true =>
    go_wp2
    refine bodyPost_ret (results_cell_row rfl _ _ (w.heap.size + 1) 72 _ (0, 0) _ rfl (put4 (((Below.heap_setCell _ _ _ _ (fun e => l3 e.symm)).trans (Below.heap_setCell _ _ _ _ (fun e => l3 e.symm))).trans r0) _ _ _ _) Tryz.underlying72 rfl sizeSpot) rfl ?_
    exact ⟨rfl, below4 ((hBV.setCell (p := ⟨N, 2, none⟩) (by show w.heap.size <= N; omega) _).setCell (p := ⟨N, 3, none⟩) (by show w.heap.size <= N; omega) _) (by omega) ..⟩
  ·rw [if_pos (by rfl)]
   go_simp
   have hS2 := hS1.alloc hS1.size (.cells #[.int .i64 0, .bool false, .int .i64 0, .int .i64 0] 72)
   have m7 := World.alloc_heap_new X1 (.cells #[.int .i64 0, .bool false, .int .i64 0, .int .i64 0] 72)
   have hN : W2.heap.size <= (X1).heap.size := hS1.size
   refine hK.out _ _ hS2 (fun _ => ?_)
   generalize (X1).alloc (.cells #[.int .i64 0, .bool false, .int .i64 0, .int .i64 0] 72) = X2 at *
   clear hK K
   try simp only [lay4]
   refine callD 6 (by kernel_rfl) rfl (fun K hK => ?_)
   rw [if_pos (by rfl)]
   go_simp
   refine (HI.out _).mono ?_
   rintro e X3 ⟨rfl, b3⟩
   have hS3 := hS2.trans (b3.mono hS2.size)
   replace m7 := (b3.block _ (Array.getElem?_eq_some_iff.1 m7).1).trans m7
   refine hK.out _ _ hS3 (fun _ => ?_)
   clear hK K
   try simp only [lay4]
   refine takeF 14 (some 22) (v := ?_) hS3 ?_ ?_
   rotate_left
   ·intro w hSw
    go_simp
    with_reducible rfl
   try simp only [lay4]
   refine callD 16 (by kernel_rfl) rfl (fun K hK => ?_)
   rw [if_pos (by rfl)]
   refine wp_store_row 72 _ _ rfl (X1).heap.size #[.int .i64 G, .bool q, .int .i64 i, .int .i64 (p - a)] rfl rfl 72 _ m7 sizeSpot rfl (ones4 ..) ?_
   have hV := below_setRow hS3 hN #[.int .i64 G, .bool q, .int .i64 i, .int .i64 (p - a)]
   have mV := setRow_heap _ _ _ #[.int .i64 G, .bool q, .int .i64 i, .int .i64 (p - a)] _ _ m7
   refine hK.out _ _ hV (fun _ => ?_)
   generalize World.setRow X3 (X1).heap.size #[.int .i64 G, .bool q, .int .i64 i, .int .i64 (p - a)] = V at *
   obtain ⟨l1, l2, l3⟩ := HEND.out u V _ hV hN mV
   generalize (X1).heap.size = N at *
   clear hK K
   try simp only [Act.put, List.setIfInBounds_toArray]
   refine wpAnyH_done (by kernel_rfl) ?_ _
   obtain ⟨k0, k1, k2, k3, k4⟩ := HK.out V hV
   go_wp2_with fail
   refine (HO.out _).mono ?_
   rintro e V2 ⟨rfl, b9⟩
   have hV2 := hV.trans (b9.mono hV.size)
   replace mV := (b9.block _ l1).trans mV
   have r0 := HR.out V2 hV2
   have s2 := HS.out
   have hBV := hB0.trans (hV2.mono hB0.size)
   obtain ⟨j0, j1, j2, j3⟩ := cells4 r0
   obtain ⟨g0, g1, g2, g3⟩ := cells4 mV
   have f0 : ∀ j, V2.frozen? ⟨w.heap.size + 1, j, none⟩ = false := fun j => frozen_block r0
   have f1 : ∀ j, V2.frozen? ⟨N, j, none⟩ = false := fun j => frozen_block mV
   clear k0 k1 k2 k3 k4
   cases u with
   | false =>
    go_wp2
    refine bodyPost_ret (results_cell_row rfl _ _ (w.heap.size + 1) 72 _ (0, 0) _ rfl (put4 r0 _ _ _ _) Tryz.underlying72 rfl sizeSpot) rfl ?_
    exact ⟨rfl, below4 hBV (by omega) ..⟩
   | true =>
    go_wp2
    refine bodyPost_ret (results_cell_row rfl _ _ (w.heap.size + 1) 72 _ (0, 0) _ rfl (put4 (((Below.heap_setCell _ _ _ _ (fun e => l3 e.symm)).trans (Below.heap_setCell _ _ _ _ (fun e => l3 e.symm))).trans r0) _ _ _ _) Tryz.underlying72 rfl sizeSpot) rfl ?_
    exact ⟨rfl, below4 ((hBV.setCell (p := ⟨N, 2, none⟩) (by show w.heap.size <= N; omega) _).setCell (p := ⟨N, 3, none⟩) (by show w.heap.size <= N; omega) _) (by omega) ..⟩
 ·rw [if_pos (by rfl)]
  go_simp
  have hS1 := hS.alloc hS.size (.cells #[.int .i64 0, .bool false, .int .i64 0, .int .i64 0] 72)
  have m7 := World.alloc_heap_new X0 (.cells #[.int .i64 0, .bool false, .int .i64 0, .int .i64 0] 72)
  have hN : W2.heap.size <= (X0).heap.size := hS.size
  refine hK.out _ _ hS1 (fun _ => ?_)
  generalize (X0).alloc (.cells #[.int .i64 0, .bool false, .int .i64 0, .int .i64 0] 72) = X1 at *
  clear hK K
  try simp only [lay4]
  refine callD 3 (by kernel_rfl) rfl (fun K hK => ?_)
  rw [if_pos (by rfl)]
  go_simp
  refine (HG.out _).mono ?_
  rintro e X2 ⟨rfl, b2⟩
  have hS2 := hS1.trans (b2.mono hS1.size)
  replace m7 := (b2.block _ (Array.getElem?_eq_some_iff.1 m7).1).trans m7
  refine hK.out _ _ hS2 (fun _ => ?_)
  clear hK K
  try simp only [lay4]
  refine callD 6 (by kernel_rfl) rfl (fun K hK => ?_)
  rw [if_pos (by rfl)]
  go_simp
  refine (HI.out _).mono ?_
  rintro e X3 ⟨rfl, b3⟩
  have hS3 := hS2.trans (b3.mono hS2.size)
  replace m7 := (b3.block _ (Array.getElem?_eq_some_iff.1 m7).1).trans m7
  refine hK.out _ _ hS3 (fun _ => ?_)
  clear hK K
  try simp only [lay4]
  refine takeF 14 (some 22) (v := ?_) hS3 ?_ ?_
  rotate_left
  ·intro w hSw
   go_simp
   with_reducible rfl
  try simp only [lay4]
  refine callD 16 (by kernel_rfl) rfl (fun K hK => ?_)
  rw [if_pos (by rfl)]
  refine wp_store_row 72 _ _ rfl (X0).heap.size #[.int .i64 G, .bool q, .int .i64 i, .int .i64 (p - a)] rfl rfl 72 _ m7 sizeSpot rfl (ones4 ..) ?_
  have hV := below_setRow hS3 hN #[.int .i64 G, .bool q, .int .i64 i, .int .i64 (p - a)]
  have mV := setRow_heap _ _ _ #[.int .i64 G, .bool q, .int .i64 i, .int .i64 (p - a)] _ _ m7
  refine hK.out _ _ hV (fun _ => ?_)
  generalize World.setRow X3 (X0).heap.size #[.int .i64 G, .bool q, .int .i64 i, .int .i64 (p - a)] = V at *
  obtain ⟨l1, l2, l3⟩ := HEND.out u V _ hV hN mV
  generalize (X0).heap.size = N at *
  clear hK K
  try simp only [Act.put, List.setIfInBounds_toArray]
  refine wpAnyH_done (by kernel_rfl) ?_ _
  obtain ⟨k0, k1, k2, k3, k4⟩ := HK.out V hV
  go_wp2_with fail
  refine (HO.out _).mono ?_
  rintro e V2 ⟨rfl, b9⟩
  have hV2 := hV.trans (b9.mono hV.size)
  replace mV := (b9.block _ l1).trans mV
  have r0 := HR.out V2 hV2
  have s2 := HS.out
  have hBV := hB0.trans (hV2.mono hB0.size)
  obtain ⟨j0, j1, j2, j3⟩ := cells4 r0
  obtain ⟨g0, g1, g2, g3⟩ := cells4 mV
  have f0 : ∀ j, V2.frozen? ⟨w.heap.size + 1, j, none⟩ = false := fun j => frozen_block r0
  have f1 : ∀ j, V2.frozen? ⟨N, j, none⟩ = false := fun j => frozen_block mV
  clear k0 k1 k2 k3 k4
  cases u with
  | false =>
   go_wp2
   refine bodyPost_ret (results_cell_row rfl _ _ (w.heap.size + 1) 72 _ (0, 0) _ rfl (put4 r0 _ _ _ _) Tryz.underlying72 rfl sizeSpot) rfl ?_
   exact ⟨rfl, below4 hBV (by omega) ..⟩
  | true =>
   go_wp2
   refine bodyPost_ret (results_cell_row rfl _ _ (w.heap.size + 1) 72 _ (0, 0) _ rfl (put4 (((Below.heap_setCell _ _ _ _ (fun e => l3 e.symm)).trans (Below.heap_setCell _ _ _ _ (fun e => l3 e.symm))).trans r0) _ _ _ _) Tryz.underlying72 rfl sizeSpot) rfl ?_
   exact ⟨rfl, below4 ((hBV.setCell (p := ⟨N, 2, none⟩) (by show w.heap.size <= N; omega) _).setCell (p := ⟨N, 3, none⟩) (by show w.heap.size <= N; omega) _) (by omega) ..⟩
end Go.Proofs.YtbkpehfaofhmaaaGreatDoor
