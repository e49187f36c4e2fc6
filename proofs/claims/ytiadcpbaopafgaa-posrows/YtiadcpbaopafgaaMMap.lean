/-
  PROVED HERE: (*pos.Mapping).Map: what it returns; nothing that lay before is turned.
-/
import Derived.Test.YtiadcpbaopafgaaRcv
namespace Go.Proofs.Ytiadcpbaopafgaa
open Go.RowKit

/-- The ranges of the i-th map. -/
def lAt (M : List Lk) (i : Nat) : List Rng := (M[i]?.map (·.l)).getD []
/-- p goes through the maps from the i-th on. -/
def goM (M : List Lk) (side : Int) : Nat → Nat → Int → Bool → Option (Int × Bool)
  | 0, _, p, g => some (p, g)
  | f + 1, i, p, g => if i < M.length then
      (match recP M i (sendL (lAt M i) 0 0 p side) with
        | some b => if within b = true then goM M side f ((mirAt M i).toNat + 1) b g else none
        | none => if within (sendL (lAt M i) 0 0 p side).at' = true then goM M side f (i + 1) (sendL (lAt M i) 0 0 p side).at' (g || (sendL (lAt M i) 0 0 p side).gone) else none)
    else some (p, g)
def mmR (M : List Lk) (from' p side : Int) : Option (Int × Bool) := if from' < 0 ∨ (M.length : Int) < from' ∨ within p = false then none else goM M side M.length from'.toNat p false
def mmV (r : Option (Int × Bool)) : Value := match r with
  | none => .tuple #[.agg #[.int .i64 0, .bool false, .int .i64 0, .int .i64 0], .int .i64 1]
  | some (q, g) => .tuple #[.agg #[.int .i64 q, .bool g, .int .i64 (-1), .int .i64 0], .int .i64 0]
theorem send_in : ∀ (l : List Rng) (i : Nat) (d p side : Int), -1 ≤ (sendL l i d p side).inn ∧ 0 ≤ (sendL l i d p side).off ∧ ((sendL l i d p side).inn ≠ -1 → (i : Int) ≤ (sendL l i d p side).inn ∧ (sendL l i d p side).inn < i + l.length) := by
  intro l
  induction l with
  | nil => intro i d p side; simp [sendL]
  | cons x r ih =>
    intro i d p side
    rw [sendL]
    split
    · simp
    · split
      · unfold spotR
        simp only [List.length_cons]
        refine ⟨?_, ?_, ?_⟩
        · split <;> omega
        · split <;> omega
        · split
          · intro h; exact absurd rfl h
          · intro _; omega
      · have := ih (i + 1) (d + x.n - x.o) p side
        simp only [List.length_cons]
        refine ⟨this.1, this.2.1, fun h => ?_⟩
        have := this.2.2 h
        omega

set_option maxRecDepth 100000 in
set_option maxHeartbeats 2000000 in
theorem mmap_calls (base B : Nat) (M : List Lk) (from' p side : Int) (w : World) (hM : MapP w base B M) (hn : M.length ≤ 1000) (hmir : ∀ i, i < M.length → mirAt M i < M.length) (hb : base ≤ w.heap.size) :
    Calls Try.prog 24 #[.pointer (some ⟨B, 0, none⟩), .int .i64 from', .int .i64 p, .int .i64 side] w fun e w' => e = .returned (mmV (mmR M from' p side)) ∧ Below w.heap.size w w' := by
  obtain ⟨W1, hW1⟩ : ∃ W1, w.alloc (.cells #[.int .i64 0, .bool false, .int .i64 0, .int .i64 0] 24) = W1 := ⟨_, rfl⟩
  have hB0 : Below w.heap.size w W1 := by rw [← hW1]; exact (Below.refl _ _).alloc (Nat.le_refl _) _
  have m0 : W1.heap[w.heap.size]? = some (.cells #[.int .i64 0, .bool false, .int .i64 0, .int .i64 0] 24 (0, 0)) := by rw [← hW1]; exact World.alloc_heap_new w _
  have HW1 : Hid (w.alloc (.cells #[.int .i64 0, .bool false, .int .i64 0, .int .i64 0] 24) = W1) := hW1
  have hM1 : MapP W1 base B M := hM.below hB0 hb
  have HX : Hid (∀ X, Below W1.heap.size W1 X → X.heap[w.heap.size]? = some (.cells #[.int .i64 0, .bool false, .int .i64 0, .int .i64 0] 24 (0, 0)) ∧ MapP X base B M ∧ Below w.heap.size w X) := fun X hX => ⟨(hX.block _ (Array.getElem?_eq_some_iff.1 m0).1).trans m0, hM1.below hX (Nat.le_trans hb hB0.size), hB0.trans (hX.mono hB0.size)⟩
  have cm := made_calls _ true W1 hM1.made
  obtain ⟨aB, cB, hBB⟩ := hM1.len_
  have g0 : W1.cell? ⟨B, 0, none⟩ = some (.slice aB M.length cB) := cell_of_row W1 B 0 _ _ _ hBB
  have HB0 : Hid (∀ X, Below W1.heap.size W1 X → X.cell? ⟨B, 0, none⟩ = some (.slice aB M.length cB)) := fun X hX => cell_of_row X B 0 _ _ _ ((hX.block B (Array.getElem?_eq_some_iff.1 hBB).1).trans hBB)
  have HBX : Hid (base ≤ W1.heap.size) := Nat.le_trans hb hB0.size
  by_cases d1 : from' < 0
  · have HF : Hid (mmR M from' p side = none) := by show mmR M _ _ _ = none; unfold mmR; rw [if_pos (.inl d1)]
    generalize mmR M from' p side = R at *
    clear hM hM1 hW1 m0 hBB hmir
    generalize M.length = n at *
    go_enter Try.func24, Try.ntmps24
    go_wp2_with fail
    rw [HW1.out]
    refine cm.mono ?_
    rintro e w' ⟨rfl, hw'⟩
    rw [hw']
    clear hw'
    obtain ⟨r0, _, hBX⟩ := HX.out W1 (Below.refl _ _)
    obtain ⟨z0, z1, z2, z3⟩ := cells4 r0
    have f0 : ∀ j, World.frozen? W1 ⟨w.heap.size, j, none⟩ = false := fun j => frozen_block r0
    go_wp2
    refine bodyPost_ret (results_row_tmp rfl _ _ w.heap.size 24 _ (0, 0) _ rfl (put4 r0 _ _ _ _) Try.underlying24 rfl sizeSpot) rfl ?_
    exact ⟨by rw [HF.out]; rfl, below4 hBX (Nat.le_refl _) ..⟩
  · by_cases d2 : (M.length : Int) < from'
    · have HF : Hid (mmR M from' p side = none) := by show mmR M _ _ _ = none; unfold mmR; rw [if_pos (.inr (.inl d2))]
      generalize mmR M from' p side = R at *
      clear hM hM1 hW1 m0 hBB hmir
      generalize M.length = n at *
      go_enter Try.func24, Try.ntmps24
      go_wp2_with fail
      rw [HW1.out]
      refine cm.mono ?_
      rintro e w' ⟨rfl, hw'⟩
      rw [hw']
      clear hw'
      obtain ⟨r0, _, hBX⟩ := HX.out W1 (Below.refl _ _)
      obtain ⟨z0, z1, z2, z3⟩ := cells4 r0
      have f0 : ∀ j, World.frozen? W1 ⟨w.heap.size, j, none⟩ = false := fun j => frozen_block r0
      go_wp2
      refine bodyPost_ret (results_row_tmp rfl _ _ w.heap.size 24 _ (0, 0) _ rfl (put4 r0 _ _ _ _) Try.underlying24 rfl sizeSpot) rfl ?_
      exact ⟨by rw [HF.out]; rfl, below4 hBX (Nat.le_refl _) ..⟩
    · obtain ⟨fr, rfl⟩ : ∃ k : Nat, from' = (k : Int) := ⟨from'.toNat, by omega⟩
      have hfr : fr ≤ M.length := by omega
      have cw := fun X => within_calls p X
      by_cases d3 : within p = true
      · have HR0 : Hid (mmR M (fr : Int) p side = goM M side M.length fr p false) := by show mmR M _ _ _ = _; unfold mmR; rw [if_neg (by rw [d3]; simp; omega), Int.toNat_natCast]
        rw [d3] at cw
        generalize hRR : mmR M (fr : Int) p side = R at *
        have HMIR : Hid (∀ i, i < M.length → mirAt M i < M.length) := hmir
        clear hRR hM hW1 m0 hBB hmir
        have ne1 : decide ((fr : Int) < 0) = false := by simp
        have ne2 : decide (M.length < fr) = false := by simp; omega
        have ne3 : ¬ M.length < fr := by omega
        have ne4 : decide ((M.length : Int) < (fr : Int)) = false := by simp; omega
        go_enter Try.func24, Try.ntmps24
        go_wp2_with fail
        rw [HW1.out]
        refine cm.mono ?_
        rintro e w' ⟨rfl, hw'⟩
        rw [hw']
        clear hw'
        go_wp2_with fail
        refine (cw _).mono ?_
        rintro e w' ⟨rfl, hw'⟩
        rw [hw']
        clear hw' cw cm
        go_wp2_with fail
        go_loopw [2, 10, 11] (fun y u i w' => ∃ (f k : Nat) (q : Int) (g : Bool), y = .int .i64 q ∧ u = .bool g ∧ i = .int .i64 (k : Int) ∧ within q = true ∧ k ≤ M.length ∧ M.length ≤ k + f ∧ goM M side f k q g = R ∧ Below W1.heap.size W1 w') (fun _ _ i _ => M.length - (intOf i).toNat)
        case atStart => exact ⟨M.length, fr, p, false, rfl, rfl, rfl, d3, hfr, by omega, HR0.out.symm, Below.refl _ _⟩
        case round =>
          obtain ⟨f, k, q, g, rfl, rfl, rfl, hq, hk, hf, hgo, hB⟩ := hrel
          have hq' := (within_iff q).1 hq
          by_cases hlt : k < M.length
          · obtain ⟨f, rfl⟩ : ∃ f', f = f' + 1 := ⟨f - 1, by omega⟩
            rw [goM, if_pos hlt] at hgo
            obtain ⟨x, hx⟩ : ∃ x, M[k]? = some x := ⟨_, List.getElem?_eq_getElem hlt⟩
            have hla : lAt M k = x.l := by unfold lAt; rw [hx]; rfl
            have hma : mirAt M k = x.m := by unfold mirAt; rw [hx]; rfl
            have hmk := HMIR.out k hlt
            obtain ⟨_, hMw, hBw⟩ := HX.out wr hB
            obtain ⟨gg, cap, g1, g2, g3, ⟨gr, gright, _⟩⟩ := hMw.at_ hx
            have gB : wr.cell? ⟨B, 0, none⟩ = some (.slice (some ⟨gg, 0, none⟩) M.length cap) := cell_of_row wr B 0 _ _ _ g1
            obtain ⟨n1, n2, _⟩ := send_in (lAt M k) 0 0 q side
            have HK12 : Hid (∀ X, Below wr.heap.size wr X → X.cell? ⟨B, 0, none⟩ = some (.slice (some ⟨gg, 0, none⟩) M.length cap) ∧ X.cell? ⟨gg, k * 2 + 1, none⟩ = some (.int .i64 (mirAt M k))) := fun X hX => by
              rw [hma]
              have hgl : gg < wr.heap.size := by
                rcases Nat.lt_or_ge gg wr.heap.size with h | h
                · exact h
                · simp [World.cell?, Array.getElem?_eq_none h] at g3
              exact ⟨cell_of_row X B 0 _ _ _ ((hX.block B (Array.getElem?_eq_some_iff.1 g1).1).trans g1), (hX.cell (p := ⟨gg, k * 2 + 1, none⟩) hgl).trans g3⟩
            have cs := send_calls x.a x.len x.cap x.l q side wr gr gright hq
            rw [← hla] at cs
            have HRV : Hid (∀ X, Below wr.heap.size wr X → _) := fun X (hX : Below wr.heap.size wr X) => recovered_calls base B M k (sendL (lAt M k) 0 0 q side) X (HX.out X (hB.trans (hX.mono hB.size))).2.1 hlt (by omega) hmk n1 n2 (Nat.le_trans HBX.out (Nat.le_trans hB.size hX.size))
            unfold spotV at cs HRV
            generalize hss : sendL (lAt M k) 0 0 q side = s at *
            obtain ⟨s0, s1, s2, s3⟩ := s
            simp only at *
            have HGO : Hid ((match recP M k ⟨s0, s1, s2, s3⟩ with
              | some b => if within b = true then goM M side f ((mirAt M k).toNat + 1) b g else none
              | none => if within s0 = true then goM M side f (k + 1) s0 (g || s1) else none) = R) := hgo
            generalize hrp : recP M k ⟨s0, s1, s2, s3⟩ = rp at *
            obtain ⟨xa, xl, xc, xll, xm⟩ := x
            simp only at *
            have HRP : Hid (rp ≠ none → (k : Int) ≤ mirAt M k) := fun h => by
              rw [← hrp] at h
              unfold recP at h
              split at h
              · exact absurd rfl h
              · rename_i hh
                omega
            clear hgo hla hma gr gright g1 g3 hss hrp hx hMw n1 n2
            go_wp2_with fail
            refine cs.mono ?_
            rintro e V ⟨rfl, hV⟩
            obtain ⟨V1, hV1⟩ : ∃ V1, V.alloc (.cells #[.int .i64 s0, .bool s1, .int .i64 s2, .int .i64 s3] 24) = V1 := ⟨_, rfl⟩
            have hVB : Below wr.heap.size wr V1 := by rw [← hV1]; exact hV.alloc hV.size _
            have mS : V1.heap[V.heap.size]? = some (.cells #[.int .i64 s0, .bool s1, .int .i64 s2, .int .i64 s3] 24 (0, 0)) := by rw [← hV1]; exact World.alloc_heap_new V _
            have HV1 : Hid (V.alloc (.cells #[.int .i64 s0, .bool s1, .int .i64 s2, .int .i64 s3] 24) = V1) := hV1
            clear hV1 cs
            go_wp2_with fail
            rw [HV1.out]
            refine (HRV.out _ hVB).mono ?_
            rintro e X ⟨he, hXB⟩
            have hXr := hVB.trans (hXB.mono hVB.size)
            have hX1 := hB.trans (hXr.mono hB.size)
            have HK13 : Hid (∀ Y, Below X.heap.size X Y → Y.cell? ⟨V.heap.size, 0, none⟩ = some (.int .i64 s0) ∧ Y.cell? ⟨V.heap.size, 1, none⟩ = some (.bool s1) ∧ Y.cell? ⟨V.heap.size, 2, none⟩ = some (.int .i64 s2) ∧ Y.cell? ⟨V.heap.size, 3, none⟩ = some (.int .i64 s3)) := fun Y hY => cells4 ((hY.block _ (Nat.lt_of_lt_of_le (Array.getElem?_eq_some_iff.1 mS).1 hXB.size)).trans ((hXB.block _ (Array.getElem?_eq_some_iff.1 mS).1).trans mS))
            have hXd : Below W1.heap.size W1 X.drew := hX1.drew
            rcases he with ⟨rfl, rfl⟩ | ⟨b, rfl, rfl⟩
            · have HNEXT : Hid (within s0 = true → goM M side f (k + 1) s0 (g || s1) = R) := fun h => by have := HGO.out; simp only [h, if_true] at this; exact this
              have HSTOP : Hid (within s0 = false → R = none) := fun h => by have := HGO.out; simp only [h] at this; exact this.symm
              clear HGO HRV mS HRP
              cases g with
              | false =>
                go_wp2_with fail
                refine wp_region_held_drew (S := fun Y => Below X.heap.size X Y) mixed (Below.refl _ _).drew (fun hS => ?_)
                generalize X.drew = Xd at *
                refine takeD 0 (some 74) (v := ?_) rfl rfl (by kernel_rfl) (by kernel_rfl) (by kernel_rfl) (fun _ _ _ h => h) (Or.inl ⟨by rfl, ?_⟩) hS ?_
                rotate_left
                · intro w hSw
                  go_simp
                  with_reducible rfl
                try simp only [Act.put, List.setIfInBounds_toArray, List.set_cons_zero, List.set_cons_succ]
                refine takeD 1 (some 75) (v := ?_) rfl rfl (by kernel_rfl) (by kernel_rfl) (by kernel_rfl) (fun _ _ _ h => h) (Or.inl ⟨by rfl, ?_⟩) hS ?_
                rotate_left
                · intro w hSw
                  obtain ⟨k0, k1, k2, k3⟩ := HK13.out _ hSw
                  go_simp
                  with_reducible rfl
                try simp only [Act.put, List.setIfInBounds_toArray, List.set_cons_zero, List.set_cons_succ]
                refine takeD 2 (some 76) (v := ?_) rfl rfl (by kernel_rfl) (by kernel_rfl) (by kernel_rfl) (fun _ _ _ h => h) (Or.inl ⟨by rfl, ?_⟩) hS ?_
                rotate_left
                · intro w hSw
                  try go_simp
                  with_reducible rfl
                try simp only [Act.put, List.setIfInBounds_toArray, List.set_cons_zero, List.set_cons_succ]
                refine takeD 3 (some 77) (v := ?_) rfl rfl (by kernel_rfl) (by kernel_rfl) (by kernel_rfl) (fun _ _ _ h => h) (Or.inl ⟨by rfl, ?_⟩) hS ?_
                rotate_left
                · intro w hSw
                  try go_simp
                  with_reducible rfl
                try simp only [Act.put, List.setIfInBounds_toArray, List.set_cons_zero, List.set_cons_succ]
                refine takeD 4 (some 78) (v := ?_) rfl rfl (by kernel_rfl) (by kernel_rfl) (by kernel_rfl) (fun _ _ _ h => h) (Or.inl ⟨by rfl, ?_⟩) hS ?_
                rotate_left
                · intro w hSw
                  go_simp
                  with_reducible rfl
                try simp only [Act.put, List.setIfInBounds_toArray, List.set_cons_zero, List.set_cons_succ]
                refine takeD 5 (some 79) (v := ?_) rfl rfl (by kernel_rfl) (by kernel_rfl) (by kernel_rfl) (fun _ _ _ h => h) (Or.inl ⟨by rfl, ?_⟩) hS ?_
                rotate_left
                · intro w hSw
                  obtain ⟨k0, k1, k2, k3⟩ := HK13.out _ hSw
                  go_simp
                  with_reducible rfl
                try simp only [Act.put, List.setIfInBounds_toArray, List.set_cons_zero, List.set_cons_succ]
                refine takeD 6 (some 80) (v := ?_) rfl rfl (by kernel_rfl) (by kernel_rfl) (by kernel_rfl) (fun _ _ _ h => h) (Or.inl ⟨by rfl, ?_⟩) hS ?_
                rotate_left
                · intro w hSw
                  go_simp
                  with_reducible rfl
                try simp only [Act.put, List.setIfInBounds_toArray, List.set_cons_zero, List.set_cons_succ]
                refine takeD 7 (some 2) (v := ?_) rfl rfl (by kernel_rfl) (by kernel_rfl) (by kernel_rfl) (fun _ _ _ h => h) (Or.inl ⟨by rfl, ?_⟩) hS ?_
                rotate_left
                · intro w hSw
                  try go_simp
                  with_reducible rfl
                try simp only [Act.put, List.setIfInBounds_toArray, List.set_cons_zero, List.set_cons_succ]
                refine takeD 8 (some 10) (v := ?_) rfl rfl (by kernel_rfl) (by kernel_rfl) (by kernel_rfl) (fun _ _ _ h => h) (Or.inl ⟨by rfl, ?_⟩) hS ?_
                rotate_left
                · intro w hSw
                  try go_simp
                  with_reducible rfl
                try simp only [Act.put, List.setIfInBounds_toArray, List.set_cons_zero, List.set_cons_succ]
                refine wpAnyH_done (by kernel_rfl) ?_ _
                go_wp2_with fail
                refine (within_calls s0 _).mono ?_
                rintro e w' ⟨rfl, hw'⟩
                rw [hw']
                clear hw'
                by_cases hwi : within s0 = true
                · have HG := HNEXT.out hwi
                  rw [hwi]
                  go_wp2
                  go_roundw
                  case rel => exact ⟨f, k + 1, s0, s1, rfl, by simp, by go_num, hwi, by omega, by omega, by simpa using HG, hXd⟩
                  case measure => simp [intOf]; omega
                · have hwf : within s0 = false := by simpa using hwi
                  have HF : Hid (R = none) := HSTOP.out hwf
                  rw [hwf]
                  obtain ⟨r0, _, hBX⟩ := HX.out Xd hXd
                  obtain ⟨z0, z1, z2, z3⟩ := cells4 r0
                  have f0 : ∀ j, World.frozen? Xd ⟨w.heap.size, j, none⟩ = false := fun j => frozen_block r0
                  go_wp2
                  refine bodyPost_ret (results_row_tmp rfl _ _ w.heap.size 24 _ (0, 0) _ rfl (put4 r0 _ _ _ _) Try.underlying24 rfl sizeSpot) rfl ?_
                  exact ⟨by rw [HF.out]; rfl, below4 hBX (Nat.le_refl _) ..⟩
              | true =>
                go_wp2_with fail
                refine wp_region_held_drew (S := fun Y => Below X.heap.size X Y) mixed (Below.refl _ _).drew (fun hS => ?_)
                generalize X.drew = Xd at *
                refine takeD 0 (some 74) (v := ?_) rfl rfl (by kernel_rfl) (by kernel_rfl) (by kernel_rfl) (fun _ _ _ h => h) (Or.inl ⟨by rfl, ?_⟩) hS ?_
                rotate_left
                · intro w hSw
                  go_simp
                  with_reducible rfl
                try simp only [Act.put, List.setIfInBounds_toArray, List.set_cons_zero, List.set_cons_succ]
                refine takeD 1 (some 75) (v := ?_) rfl rfl (by kernel_rfl) (by kernel_rfl) (by kernel_rfl) (fun _ _ _ h => h) (Or.inl ⟨by rfl, ?_⟩) hS ?_
                rotate_left
                · intro w hSw
                  obtain ⟨k0, k1, k2, k3⟩ := HK13.out _ hSw
                  go_simp
                  with_reducible rfl
                try simp only [Act.put, List.setIfInBounds_toArray, List.set_cons_zero, List.set_cons_succ]
                refine takeD 2 (some 76) (v := ?_) rfl rfl (by kernel_rfl) (by kernel_rfl) (by kernel_rfl) (fun _ _ _ h => h) (Or.inl ⟨by rfl, ?_⟩) hS ?_
                rotate_left
                · intro w hSw
                  try go_simp
                  with_reducible rfl
                try simp only [Act.put, List.setIfInBounds_toArray, List.set_cons_zero, List.set_cons_succ]
                refine takeD 3 (some 77) (v := ?_) rfl rfl (by kernel_rfl) (by kernel_rfl) (by kernel_rfl) (fun _ _ _ h => h) (Or.inl ⟨by rfl, ?_⟩) hS ?_
                rotate_left
                · intro w hSw
                  try go_simp
                  with_reducible rfl
                try simp only [Act.put, List.setIfInBounds_toArray, List.set_cons_zero, List.set_cons_succ]
                refine takeD 4 (some 78) (v := undef) rfl rfl (by kernel_rfl) (by kernel_rfl) (by kernel_rfl) (fun _ _ _ h => h) (Or.inr ⟨by rfl, rfl⟩) hS ?_
                try simp only [Act.put, List.setIfInBounds_toArray, List.set_cons_zero, List.set_cons_succ]
                refine takeD 5 (some 79) (v := undef) rfl rfl (by kernel_rfl) (by kernel_rfl) (by kernel_rfl) (fun _ _ _ h => h) (Or.inr ⟨by rfl, rfl⟩) hS ?_
                try simp only [Act.put, List.setIfInBounds_toArray, List.set_cons_zero, List.set_cons_succ]
                refine takeD 6 (some 80) (v := ?_) rfl rfl (by kernel_rfl) (by kernel_rfl) (by kernel_rfl) (fun _ _ _ h => h) (Or.inl ⟨by rfl, ?_⟩) hS ?_
                rotate_left
                · intro w hSw
                  go_simp
                  with_reducible rfl
                try simp only [Act.put, List.setIfInBounds_toArray, List.set_cons_zero, List.set_cons_succ]
                refine takeD 7 (some 2) (v := ?_) rfl rfl (by kernel_rfl) (by kernel_rfl) (by kernel_rfl) (fun _ _ _ h => h) (Or.inl ⟨by rfl, ?_⟩) hS ?_
                rotate_left
                · intro w hSw
                  try go_simp
                  with_reducible rfl
                try simp only [Act.put, List.setIfInBounds_toArray, List.set_cons_zero, List.set_cons_succ]
                refine takeD 8 (some 10) (v := ?_) rfl rfl (by kernel_rfl) (by kernel_rfl) (by kernel_rfl) (fun _ _ _ h => h) (Or.inl ⟨by rfl, ?_⟩) hS ?_
                rotate_left
                · intro w hSw
                  try go_simp
                  with_reducible rfl
                try simp only [Act.put, List.setIfInBounds_toArray, List.set_cons_zero, List.set_cons_succ]
                refine wpAnyH_done (by kernel_rfl) ?_ _
                go_wp2_with fail
                refine (within_calls s0 _).mono ?_
                rintro e w' ⟨rfl, hw'⟩
                rw [hw']
                clear hw'
                by_cases hwi : within s0 = true
                · have HG := HNEXT.out hwi
                  rw [hwi]
                  go_wp2
                  go_roundw
                  case rel => exact ⟨f, k + 1, s0, true, rfl, by simp, by go_num, hwi, by omega, by omega, by simpa using HG, hXd⟩
                  case measure => simp [intOf]; omega
                · have hwf : within s0 = false := by simpa using hwi
                  have HF : Hid (R = none) := HSTOP.out hwf
                  rw [hwf]
                  obtain ⟨r0, _, hBX⟩ := HX.out Xd hXd
                  obtain ⟨z0, z1, z2, z3⟩ := cells4 r0
                  have f0 : ∀ j, World.frozen? Xd ⟨w.heap.size, j, none⟩ = false := fun j => frozen_block r0
                  go_wp2
                  refine bodyPost_ret (results_row_tmp rfl _ _ w.heap.size 24 _ (0, 0) _ rfl (put4 r0 _ _ _ _) Try.underlying24 rfl sizeSpot) rfl ?_
                  exact ⟨by rw [HF.out]; rfl, below4 hBX (Nat.le_refl _) ..⟩
            · have hkj := HRP.out (by simp)
              obtain ⟨j, hj⟩ : ∃ j : Nat, mirAt M k = (j : Int) := ⟨(mirAt M k).toNat, by omega⟩
              rw [hj] at hmk
              have HJ : Hid (within b = true → goM M side f (j + 1) b g = R) := fun h => by have := HGO.out; simp only [h, if_true, hj, Int.toNat_natCast] at this; exact this
              have HNEXT := HJ
              have HSTOP : Hid (within b = false → R = none) := fun h => by have := HGO.out; simp only [h] at this; exact this.symm
              have HK12' : Hid (∀ Y, Below X.heap.size X Y → Y.cell? ⟨B, 0, none⟩ = some (.slice (some ⟨gg, 0, none⟩) M.length cap) ∧ Y.cell? ⟨gg, k * 2 + 1, none⟩ = some (.int .i64 (j : Int))) := fun Y hY => by
                have := HK12.out Y (hXr.trans (hY.mono hXr.size))
                rw [hj] at this
                exact this
              clear HK12
              have HK12 := HK12'
              have hjn : j < M.length := by omega
              have hkj' : k ≤ j := by omega
              clear HGO HRV mS HRP HJ HK12' hj
              go_wp2_with fail
              refine wp_region_held_drew (S := fun Y => Below X.heap.size X Y) mixed (Below.refl _ _).drew (fun hS => ?_)
              generalize X.drew = Xd at *
              refine takeD 0 (some 65) (v := ?_) rfl rfl (by kernel_rfl) (by kernel_rfl) (by kernel_rfl) (fun _ _ _ h => h) (Or.inl ⟨by rfl, ?_⟩) hS ?_
              rotate_left
              · intro w hSw
                try go_simp
                with_reducible rfl
              try simp only [Act.put, List.setIfInBounds_toArray, List.set_cons_zero, List.set_cons_succ]
              refine takeD 1 (some 66) (v := ?_) rfl rfl (by kernel_rfl) (by kernel_rfl) (by kernel_rfl) (fun _ _ _ h => h) (Or.inl ⟨by rfl, ?_⟩) hS ?_
              rotate_left
              · intro w hSw
                try go_simp
                with_reducible rfl
              try simp only [Act.put, List.setIfInBounds_toArray, List.set_cons_zero, List.set_cons_succ]
              refine takeD 2 (some 67) (v := ?_) rfl rfl (by kernel_rfl) (by kernel_rfl) (by kernel_rfl) (fun _ _ _ h => h) (Or.inl ⟨by rfl, ?_⟩) hS ?_
              rotate_left
              · intro w hSw
                go_simp
                with_reducible rfl
              try simp only [Act.put, List.setIfInBounds_toArray, List.set_cons_zero, List.set_cons_succ]
              refine takeD 3 (some 68) (v := ?_) rfl rfl (by kernel_rfl) (by kernel_rfl) (by kernel_rfl) (fun _ _ _ h => h) (Or.inl ⟨by rfl, ?_⟩) hS ?_
              rotate_left
              · intro w hSw
                go_simp
                with_reducible rfl
              try simp only [Act.put, List.setIfInBounds_toArray, List.set_cons_zero, List.set_cons_succ]
              refine takeD 4 (some 69) (v := ?_) rfl rfl (by kernel_rfl) (by kernel_rfl) (by kernel_rfl) (fun _ _ _ h => h) (Or.inl ⟨by rfl, ?_⟩) hS ?_
              rotate_left
              · intro w hSw
                have k0 := HK12.out _ hSw
                obtain ⟨k0, k1⟩ := k0
                go_simp
                with_reducible rfl
              try simp only [Act.put, List.setIfInBounds_toArray, List.set_cons_zero, List.set_cons_succ]
              refine takeD 5 (some 70) (v := ?_) rfl rfl (by kernel_rfl) (by kernel_rfl) (by kernel_rfl) (fun _ _ _ h => h) (Or.inl ⟨by rfl, ?_⟩) hS ?_
              rotate_left
              · intro w hSw
                try go_simp
                with_reducible rfl
              try simp only [Act.put, List.setIfInBounds_toArray, List.set_cons_zero, List.set_cons_succ]
              refine takeD 6 (some 71) (v := ?_) rfl rfl (by kernel_rfl) (by kernel_rfl) (by kernel_rfl) (fun _ _ _ h => h) (Or.inl ⟨by rfl, ?_⟩) hS ?_
              rotate_left
              · intro w hSw
                go_simp
                with_reducible rfl
              try simp only [Act.put, List.setIfInBounds_toArray, List.set_cons_zero, List.set_cons_succ]
              refine takeD 7 (some 72) (v := ?_) rfl rfl (by kernel_rfl) (by kernel_rfl) (by kernel_rfl) (fun _ _ _ h => h) (Or.inl ⟨by rfl, ?_⟩) hS ?_
              rotate_left
              · intro w hSw
                go_simp
                with_reducible rfl
              try simp only [Act.put, List.setIfInBounds_toArray, List.set_cons_zero, List.set_cons_succ]
              refine takeD 8 (some 73) (v := ?_) rfl rfl (by kernel_rfl) (by kernel_rfl) (by kernel_rfl) (fun _ _ _ h => h) (Or.inl ⟨by rfl, ?_⟩) hS ?_
              rotate_left
              · intro w hSw
                have k0 := HK12.out _ hSw
                obtain ⟨k0, k1⟩ := k0
                go_simp
                with_reducible rfl
              try simp only [Act.put, List.setIfInBounds_toArray, List.set_cons_zero, List.set_cons_succ]
              refine takeD 9 (some 2) (v := ?_) rfl rfl (by kernel_rfl) (by kernel_rfl) (by kernel_rfl) (fun _ _ _ h => h) (Or.inl ⟨by rfl, ?_⟩) hS ?_
              rotate_left
              · intro w hSw
                try go_simp
                with_reducible rfl
              try simp only [Act.put, List.setIfInBounds_toArray, List.set_cons_zero, List.set_cons_succ]
              refine takeD 10 (some 11) (v := ?_) rfl rfl (by kernel_rfl) (by kernel_rfl) (by kernel_rfl) (fun _ _ _ h => h) (Or.inl ⟨by rfl, ?_⟩) hS ?_
              rotate_left
              · intro w hSw
                try go_simp
                with_reducible rfl
              try simp only [Act.put, List.setIfInBounds_toArray, List.set_cons_zero, List.set_cons_succ]
              refine wpAnyH_done (by kernel_rfl) ?_ _
              go_wp2_with fail
              refine (within_calls b _).mono ?_
              rintro e w' ⟨rfl, hw'⟩
              rw [hw']
              clear hw'
              by_cases hwi : within b = true
              · have HG := HNEXT.out hwi
                rw [hwi]
                go_wp2
                go_roundw
                case rel => exact ⟨f, j + 1, b, g, rfl, rfl, by go_num, hwi, by omega, by omega, HG, hXd⟩
                case measure => simp [intOf]; omega
              · have hwf : within b = false := by simpa using hwi
                have HF : Hid (R = none) := HSTOP.out hwf
                rw [hwf]
                obtain ⟨r0, _, hBX⟩ := HX.out Xd hXd
                obtain ⟨z0, z1, z2, z3⟩ := cells4 r0
                have f0 : ∀ j, World.frozen? Xd ⟨w.heap.size, j, none⟩ = false := fun j => frozen_block r0
                go_wp2
                refine bodyPost_ret (results_row_tmp rfl _ _ w.heap.size 24 _ (0, 0) _ rfl (put4 r0 _ _ _ _) Try.underlying24 rfl sizeSpot) rfl ?_
                exact ⟨by rw [HF.out]; rfl, below4 hBX (Nat.le_refl _) ..⟩
          · obtain rfl : k = M.length := by omega
            have HF : Hid (R = some (q, g)) := by
              show R = _
              rw [← hgo]
              cases f with
              | zero => rfl
              | succ f => rw [goM, if_neg (by omega)]
            have gB := HB0.out wr hB
            obtain ⟨r0, _, hBX⟩ := HX.out wr hB
            obtain ⟨z0, z1, z2, z3⟩ := cells4 r0
            have f0 : ∀ j, wr.frozen? ⟨w.heap.size, j, none⟩ = false := fun j => frozen_block r0
            clear hgo
            go_wp2
            refine bodyPost_ret (results_row_tmp rfl _ _ w.heap.size 24 _ (0, 0) _ rfl (put4 r0 _ _ _ _) Try.underlying24 rfl sizeSpot) rfl ?_
            exact ⟨by rw [HF.out]; rfl, below4 hBX (Nat.le_refl _) ..⟩
      · have d3' : within p = false := by simpa using d3
        have HF : Hid (mmR M (fr : Int) p side = none) := by show mmR M _ _ _ = none; unfold mmR; rw [if_pos (.inr (.inr d3'))]
        rw [d3'] at cw
        generalize mmR M (fr : Int) p side = R at *
        clear hM hM1 hW1 m0 hBB hmir
        generalize M.length = n at *
        go_enter Try.func24, Try.ntmps24
        go_wp2_with fail
        rw [HW1.out]
        refine cm.mono ?_
        rintro e w' ⟨rfl, hw'⟩
        rw [hw']
        clear hw'
        go_wp2_with fail
        refine (cw _).mono ?_
        rintro e w' ⟨rfl, hw'⟩
        rw [hw']
        clear hw'
        obtain ⟨r0, _, hBX⟩ := HX.out W1 (Below.refl _ _)
        obtain ⟨z0, z1, z2, z3⟩ := cells4 r0
        have f0 : ∀ j, World.frozen? W1 ⟨w.heap.size, j, none⟩ = false := fun j => frozen_block r0
        go_wp2
        refine bodyPost_ret (results_row_tmp rfl _ _ w.heap.size 24 _ (0, 0) _ rfl (put4 r0 _ _ _ _) Try.underlying24 rfl sizeSpot) rfl ?_
        exact ⟨by rw [HF.out]; rfl, below4 hBX (Nat.le_refl _) ..⟩
end Go.Proofs.Ytiadcpbaopafgaa
