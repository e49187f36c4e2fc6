/-
  PROVED HERE: (*pos.Mapping).recovered: what it returns; nothing that lay before is turned.
-/
import Derived.Test.YtiadcpbaopafgaaMir
import Derived.Test.YtiadcpbaopafgaaRec
namespace Go.Proofs.Ytiadcpbaopafgaa
open Go.RowKit

/-- Where what the i-th map told as s comes back, if it does. -/
def recP (M : List Lk) (i : Nat) (s : Spt) : Option Int :=
  if mirAt M i < i ∨ s.inn = -1 then none
  else match M[(mirAt M i).toNat]? with
    | none => none
    | some x => if (x.l.length : Int) ≤ s.inn then none else some ((nth x.l s.inn.toNat).a + shiftL (x.l.take s.inn.toNat) + min s.off (nth x.l s.inn.toNat).n)
theorem recVE {l : List Rng} {k : Nat} (hr : right l = true) (hk : k < l.length) {off : Int} (h0 : 0 ≤ off) : recV l (k : Int) (min off (nth l k).n) = (nth l k).a + shiftL (l.take k) + min off (nth l k).n ∧ recE l (k : Int) (min off (nth l k).n) = 0 := by
  have hx := rightL_all (right_len hr).2 _ (List.mem_of_getElem? (nth_at hk))
  have hi : recIs l (k : Int) (min off (nth l k).n) := by
    refine ⟨by omega, by omega, by omega, ?_⟩
    rw [Int.toNat_natCast]
    omega
  constructor
  · unfold recV
    rw [if_pos ⟨hr, hi⟩, Int.toNat_natCast]
  · unfold recE
    rw [if_pos hr, if_pos hi]

set_option maxRecDepth 100000 in
set_option maxHeartbeats 1000000 in
theorem recovered_calls (base B : Nat) (M : List Lk) (i : Nat) (s : Spt) (w : World) (hM : MapP w base B M) (hi : i < M.length) (_hn : M.length ≤ 100000) (hj : mirAt M i < M.length) (hs1 : -1 ≤ s.inn) (hs2 : 0 ≤ s.off) (hb : base ≤ w.heap.size) :
    Calls Try.prog 35 #[.pointer (some ⟨B, 0, none⟩), .int .i64 (i : Int), spotV s] w fun e w' => ((recP M i s = none ∧ e = .returned (.tuple #[.int .i64 0, .bool false])) ∨ (∃ b, recP M i s = some b ∧ e = .returned (.tuple #[.int .i64 b, .bool true]))) ∧ Below w.heap.size w w' := by
  obtain ⟨s0, s1, s2, s3⟩ := s
  simp only at hs1 hs2
  obtain ⟨W1, hW1⟩ : ∃ W1, w.alloc (.cells #[.int .i64 s0, .bool s1, .int .i64 s2, .int .i64 s3] 24) = W1 := ⟨_, rfl⟩
  have hB0 : Below w.heap.size w W1 := by rw [← hW1]; exact (Below.refl _ _).alloc (Nat.le_refl _) _
  have m0 : W1.heap[w.heap.size]? = some (.cells #[.int .i64 s0, .bool s1, .int .i64 s2, .int .i64 s3] 24 (0, 0)) := by rw [← hW1]; exact World.alloc_heap_new w _
  have hM1 := hM.below hB0 hb
  obtain ⟨xi, hxi⟩ : ∃ x, M[i]? = some x := ⟨_, List.getElem?_eq_getElem hi⟩
  have hmi : mirAt M i = xi.m := by unfold mirAt; rw [hxi]; rfl
  obtain ⟨g, cap, g1, g2, g3, g4⟩ := hM1.at_ hxi
  have g0 : W1.cell? ⟨B, 0, none⟩ = some (.slice (some ⟨g, 0, none⟩) M.length cap) := cell_of_row W1 B 0 _ _ _ g1
  have gi : W1.cell? ⟨g, i * 2 + 1, none⟩ = some (.int .i64 xi.m) := g3
  obtain ⟨j0, j1, j2, j3⟩ := cells4 m0
  rw [hmi] at hj
  unfold spotV
  simp only
  by_cases d1 : xi.m < i
  · have HP : Hid (recP M i ⟨s0, s1, s2, s3⟩ = none) := by show recP M i _ = none; unfold recP; rw [hmi, if_pos (.inl d1)]
    generalize recP M i ⟨s0, s1, s2, s3⟩ = R at *
    generalize xi.m = q at *
    clear hM hM1 hxi g1 g2 g3 g4 m0 hmi
    generalize M.length = n at *
    go_enter Try.func35, Try.ntmps35
    go_wp2
    go_ret2
    first | exact ⟨.inl ⟨HP.out, rfl⟩, hB0⟩ | exact ⟨.inl HP.out, hB0⟩
  · by_cases d2 : s2 = -1
    · have HP : Hid (recP M i ⟨s0, s1, s2, s3⟩ = none) := by show recP M i _ = none; unfold recP; rw [if_pos (.inr d2)]
      generalize recP M i ⟨s0, s1, s2, s3⟩ = R at *
      generalize xi.m = q at *
      subst d2
      clear hM hM1 hxi g1 g2 g3 g4 m0 hmi
      generalize M.length = n at *
      go_enter Try.func35, Try.ntmps35
      go_wp2
      go_ret2
      first | exact ⟨.inl ⟨HP.out, rfl⟩, hB0⟩ | exact ⟨.inl HP.out, hB0⟩
    · have d2' : (s2 == -1) = false := by simpa using d2
      obtain ⟨j, hjj⟩ : ∃ j : Nat, xi.m = (j : Int) := ⟨xi.m.toNat, by omega⟩
      rw [hjj] at gi hmi hj d1
      have hjn : j < M.length := by omega
      obtain ⟨xj, hxj⟩ : ∃ x, M[j]? = some x := ⟨_, List.getElem?_eq_getElem hjn⟩
      obtain ⟨g', cap', g1', g2', g3', ⟨gr, gright, _⟩⟩ := hM1.at_ hxj
      obtain ⟨rfl, rfl⟩ : g = g' ∧ cap = cap' := by
        rw [g1] at g1'
        simp [csP] at g1'
        exact g1'
      have gj : W1.cell? ⟨g, j * 2, none⟩ = some (.slice xj.a xj.len xj.cap) := g2'
      have hlx := gr.1
      obtain ⟨k, rfl⟩ : ∃ k : Nat, s2 = (k : Int) := ⟨s2.toNat, by omega⟩
      have hrec : recP M i ⟨s0, s1, (k : Int), s3⟩ = if (xj.l.length : Int) ≤ (k : Int) then none else some ((nth xj.l k).a + shiftL (xj.l.take k) + min s3 (nth xj.l k).n) := by
        unfold recP
        rw [hmi, if_neg (by simp only; omega), Int.toNat_natCast, hxj]
        simp only
        rw [Int.toNat_natCast]
      have hl4 : xj.len ≤ 4 := by have := (right_len gright).1; omega
      by_cases d3 : xj.len ≤ k
      · have HP : Hid (recP M i ⟨s0, s1, (k : Int), s3⟩ = none) := by show recP M i _ = none; rw [hrec, if_pos (by omega)]
        generalize recP M i ⟨s0, s1, (k : Int), s3⟩ = R at *
        obtain ⟨xa, xl, xc, xll, xm⟩ := xj
        simp only at *
        clear hM hM1 hxi g1 g2 g3 g4 m0 hmi g1' g2' g3' hxj hrec gr gright hjj
        generalize M.length = n at *
        have hin : i < n := hi
        go_enter Try.func35, Try.ntmps35
        go_wp2
        go_ret2
        first | exact ⟨.inl ⟨HP.out, rfl⟩, hB0⟩ | exact ⟨.inl HP.out, hB0⟩
      · have hkl : k < xj.len := by omega
        have HP : Hid (recP M i ⟨s0, s1, (k : Int), s3⟩ = some ((nth xj.l k).a + shiftL (xj.l.take k) + min s3 (nth xj.l k).n)) := by show recP M i _ = _; rw [hrec, if_neg (by omega)]
        obtain ⟨hv1, hv2⟩ := recVE gright (show k < xj.l.length by omega) hs2
        obtain ⟨b, o, x, hxa, hbl, hx, _, hc⟩ := gr.range hkl
        have hnx := nth_some hx
        rw [hnx] at HP hv1 hv2
        have HRC : Hid (∀ X, Below W1.heap.size W1 X → Calls Try.prog 16 #[.slice xj.a xj.len xj.cap, .int .i64 (k : Int), .int .i64 (min s3 x.n)] X fun e w' => e = .returned (.tuple #[.int .i64 (x.a + shiftL (xj.l.take k) + min s3 x.n), .int .i64 0]) ∧ Below X.heap.size X w') := fun X hX => by
          have := recover_calls xj.a xj.len xj.cap xj.l (k : Int) (min s3 x.n) X (gr.below hX) (by omega)
          rw [hv1, hv2] at this
          exact this
        have HKS : Hid (∀ X, Below W1.heap.size W1 X → (X.cell? ⟨w.heap.size, 0, none⟩ = some (.int .i64 s0) ∧ X.cell? ⟨w.heap.size, 1, none⟩ = some (.bool s1) ∧ X.cell? ⟨w.heap.size, 2, none⟩ = some (.int .i64 (k : Int)) ∧ X.cell? ⟨w.heap.size, 3, none⟩ = some (.int .i64 s3)) ∧ X.cell? ⟨b, o + k * 3 + 2, none⟩ = some (.int .i64 x.n)) := fun X hX => ⟨cells4 ((hX.block _ (Array.getElem?_eq_some_iff.1 m0).1).trans m0), (hc X hX).2.2⟩
        obtain ⟨xa, xl, xc, xll, xm⟩ := xj
        simp only at *
        subst hxa
        generalize recP M i ⟨s0, s1, (k : Int), s3⟩ = R at *
        generalize x.a + shiftL (xll.take k) + min s3 x.n = RV at *
        obtain ⟨ra, ro, rn⟩ := x
        simp only at *
        clear hM hM1 hxi g1 g2 g3 g4 m0 hmi g1' g2' g3' hxj hrec gr gright hjj hv1 hv2 hx hnx hc
        generalize M.length = n at *
        have hin : i < n := hi
        go_enter Try.func35, Try.ntmps35
        go_wp2_with fail
        refine wp_region_held_drew (S := fun X => Below W1.heap.size W1 X) mixed (Below.refl _ _).drew (fun hS => ?_)
        refine takeD 0 (some 42) (v := ?_) rfl rfl (by kernel_rfl) (by kernel_rfl) (by kernel_rfl) (fun _ _ _ h => h) (Or.inl ⟨by rfl, ?_⟩) hS ?_
        rotate_left
        · intro w hSw
          try go_simp
          with_reducible rfl
        try simp only [Act.put, List.setIfInBounds_toArray, List.set_cons_zero, List.set_cons_succ]
        refine takeD 1 (some 43) (v := ?_) rfl rfl (by kernel_rfl) (by kernel_rfl) (by kernel_rfl) (fun _ _ _ h => h) (Or.inl ⟨by rfl, ?_⟩) hS ?_
        rotate_left
        · intro w hSw
          go_simp
          with_reducible rfl
        try simp only [Act.put, List.setIfInBounds_toArray, List.set_cons_zero, List.set_cons_succ]
        refine takeD 2 (some 44) (v := ?_) rfl rfl (by kernel_rfl) (by kernel_rfl) (by kernel_rfl) (fun _ _ _ h => h) (Or.inl ⟨by rfl, ?_⟩) hS ?_
        rotate_left
        · intro w hSw
          obtain ⟨⟨k0, k1, k2, k3⟩, k4⟩ := HKS.out _ hSw
          go_simp
          with_reducible rfl
        try simp only [Act.put, List.setIfInBounds_toArray, List.set_cons_zero, List.set_cons_succ]
        refine takeD 3 (some 45) (v := ?_) rfl rfl (by kernel_rfl) (by kernel_rfl) (by kernel_rfl) (fun _ _ _ h => h) (Or.inl ⟨by rfl, ?_⟩) hS ?_
        rotate_left
        · intro w hSw
          go_simp
          with_reducible rfl
        try simp only [Act.put, List.setIfInBounds_toArray, List.set_cons_zero, List.set_cons_succ]
        refine takeD 4 (some 46) (v := ?_) rfl rfl (by kernel_rfl) (by kernel_rfl) (by kernel_rfl) (fun _ _ _ h => h) (Or.inl ⟨by rfl, ?_⟩) hS ?_
        rotate_left
        · intro w hSw
          obtain ⟨⟨k0, k1, k2, k3⟩, k4⟩ := HKS.out _ hSw
          go_simp
          with_reducible rfl
        try simp only [Act.put, List.setIfInBounds_toArray, List.set_cons_zero, List.set_cons_succ]
        refine takeD 5 (some 47) (v := ?_) rfl rfl (by kernel_rfl) (by kernel_rfl) (by kernel_rfl) (fun _ _ _ h => h) (Or.inl ⟨by rfl, ?_⟩) hS ?_
        rotate_left
        · intro w hSw
          try go_simp
          with_reducible rfl
        try simp only [Act.put, List.setIfInBounds_toArray, List.set_cons_zero, List.set_cons_succ]
        refine takeD 6 (some 48) (v := ?_) rfl rfl (by kernel_rfl) (by kernel_rfl) (by kernel_rfl) (fun _ _ _ h => h) (Or.inl ⟨by rfl, ?_⟩) hS ?_
        rotate_left
        · intro w hSw
          go_simp
          with_reducible rfl
        try simp only [Act.put, List.setIfInBounds_toArray, List.set_cons_zero, List.set_cons_succ]
        refine takeD 7 (some 49) (v := ?_) rfl rfl (by kernel_rfl) (by kernel_rfl) (by kernel_rfl) (fun _ _ _ h => h) (Or.inl ⟨by rfl, ?_⟩) hS ?_
        rotate_left
        · intro w hSw
          obtain ⟨⟨k0, k1, k2, k3⟩, k4⟩ := HKS.out _ hSw
          go_simp
          with_reducible rfl
        try simp only [Act.put, List.setIfInBounds_toArray, List.set_cons_zero, List.set_cons_succ]
        refine takeD 8 (some 50) (v := ?_) rfl rfl (by kernel_rfl) (by kernel_rfl) (by kernel_rfl) (fun _ _ _ h => h) (Or.inl ⟨by rfl, ?_⟩) hS ?_
        rotate_left
        · intro w hSw
          go_simp
          with_reducible rfl
        try simp only [Act.put, List.setIfInBounds_toArray, List.set_cons_zero, List.set_cons_succ]
        refine takeD 9 (some 51) (v := ?_) rfl rfl (by kernel_rfl) (by kernel_rfl) (by kernel_rfl) (fun _ _ _ h => h) (Or.inl ⟨by rfl, ?_⟩) hS ?_
        rotate_left
        · intro w hSw
          go_simp
          with_reducible rfl
        try simp only [Act.put, List.setIfInBounds_toArray, List.set_cons_zero, List.set_cons_succ]
        refine takeD 10 (some 52) (v := ?_) rfl rfl (by kernel_rfl) (by kernel_rfl) (by kernel_rfl) (fun _ _ _ h => h) (Or.inl ⟨by rfl, ?_⟩) hS ?_
        rotate_left
        · intro w hSw
          obtain ⟨⟨k0, k1, k2, k3⟩, k4⟩ := HKS.out _ hSw
          go_simp
          with_reducible rfl
        try simp only [Act.put, List.setIfInBounds_toArray, List.set_cons_zero, List.set_cons_succ]
        refine takeD 11 (some 53) (v := ?_) rfl rfl (by kernel_rfl) (by kernel_rfl) (by kernel_rfl) (fun _ _ _ h => h) (Or.inl ⟨by rfl, ?_⟩) hS ?_
        rotate_left
        · intro w hSw
          go_simp
          with_reducible rfl
        try simp only [Act.put, List.setIfInBounds_toArray, List.set_cons_zero, List.set_cons_succ]
        refine callD 12 (by kernel_rfl) rfl (fun K hK => ?_)
        rw [if_pos (by rfl)]
        go_simp
        rw [show (if rn < s3 then rn else s3) = min s3 rn from by split <;> omega]
        refine (HRC.out _ hS).mono ?_
        rintro e Y ⟨rfl, bY⟩
        have hY := hS.trans (bY.mono hS.size)
        refine hK.out _ _ hY (fun _ => ?_)
        clear hK K
        try simp only [Act.put, List.setIfInBounds_toArray, List.set_cons_zero, List.set_cons_succ]
        refine takeD 13 (some 41) (v := ?_) rfl rfl (by kernel_rfl) (by kernel_rfl) (by kernel_rfl) (fun _ _ _ h => h) (Or.inl ⟨by rfl, ?_⟩) hY ?_
        rotate_left
        · intro w hSw
          try go_simp
          with_reducible rfl
        try simp only [Act.put, List.setIfInBounds_toArray, List.set_cons_zero, List.set_cons_succ]
        refine takeD 14 (some 55) (v := ?_) rfl rfl (by kernel_rfl) (by kernel_rfl) (by kernel_rfl) (fun _ _ _ h => h) (Or.inl ⟨by rfl, ?_⟩) hY ?_
        rotate_left
        · intro w hSw
          go_simp
          with_reducible rfl
        try simp only [Act.put, List.setIfInBounds_toArray, List.set_cons_zero, List.set_cons_succ]
        refine takeD 15 (some 56) (v := ?_) rfl rfl (by kernel_rfl) (by kernel_rfl) (by kernel_rfl) (fun _ _ _ h => h) (Or.inl ⟨by rfl, ?_⟩) hY ?_
        rotate_left
        · intro w hSw
          go_simp
          with_reducible rfl
        try simp only [Act.put, List.setIfInBounds_toArray, List.set_cons_zero, List.set_cons_succ]
        refine takeD 16 (some 10) (v := ?_) rfl rfl (by kernel_rfl) (by kernel_rfl) (by kernel_rfl) (fun _ _ _ h => h) (Or.inl ⟨by rfl, ?_⟩) hY ?_
        rotate_left
        · intro w hSw
          try go_simp
          with_reducible rfl
        try simp only [Act.put, List.setIfInBounds_toArray, List.set_cons_zero, List.set_cons_succ]
        refine takeD 17 (some 11) (v := ?_) rfl rfl (by kernel_rfl) (by kernel_rfl) (by kernel_rfl) (fun _ _ _ h => h) (Or.inl ⟨by rfl, ?_⟩) hY ?_
        rotate_left
        · intro w hSw
          try go_simp
          with_reducible rfl
        try simp only [Act.put, List.setIfInBounds_toArray, List.set_cons_zero, List.set_cons_succ]
        refine wpAnyH_done (by kernel_rfl) ?_ _
        go_wp2
        go_ret2
        first | exact ⟨.inr ⟨RV, HP.out, rfl⟩, hB0.trans (hY.mono hB0.size)⟩ | exact ⟨.inr HP.out, hB0.trans (hY.mono hB0.size)⟩
end Go.Proofs.Ytiadcpbaopafgaa
