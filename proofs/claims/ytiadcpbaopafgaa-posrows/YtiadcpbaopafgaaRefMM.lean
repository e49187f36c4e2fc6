/-
  PROVED HERE: the document's own mapping's Map: what it returns; nothing that lay before is turned.
-/
import Derived.Test.YtiadcpbaopafgaaRefAdd
import Derived.Test.YtiadcpbaopafgaaMMap
import Derived.Test.YtiadcpbaopafgaaRefMap
import Derived.Test.YtiadcpbaopafgaaRefRec
import Derived.Test.YtiadcpbaopafgaaOrder
namespace Go.Proofs.Ytiadcpbaopafgaa
open Go.RowKit

theorem begin_low : ∀ (l : List Rng) (e d : Int) (k : Nat), rightL l e = true → k < l.length → e + d ≤ (nth l k).a + (d + shiftL (l.take k)) := by
  intro l
  induction l with
  | nil => intro e d k _ h; simp at h
  | cons x r ih =>
    intro e d k h hk
    obtain ⟨h1, h2⟩ := rightL_cons h
    have hx := (rightR_iff x e).1 h1
    cases k with
    | zero => simp only [List.take_zero, shiftL, nth, List.getElem?_cons_zero, Option.getD_some]; omega
    | succ k =>
      have := ih (x.a + x.o) (d + x.n - x.o) k h2 (by simpa using hk)
      have hn : nth (x :: r) (k + 1) = nth r k := by simp [nth]
      rw [hn]
      simp only [List.take_succ_cons, shiftL]
      omega

set_option maxRecDepth 100000 in
set_option maxHeartbeats 2000000 in
theorem refmm_calls (base B : Nat) (M : List Lk) (from' p side : Int) (w : World) (hM : MapR w base B M) (hn : M.length ≤ 1000) (hmir : ∀ i, i < M.length → mirAt M i < M.length ∧ mirAt M i ≠ i) (hb : base ≤ w.heap.size) :
    Calls Try.prog 25 #[.pointer (some ⟨B, 0, none⟩), .int .i64 from', .int .i64 p, .int .i64 side] w fun e w' => e = .returned (mmV (mmR M from' p side)) ∧ Below w.heap.size w w' := by
  obtain ⟨W1, hW1⟩ : ∃ W1, w.alloc (.cells #[.int .i64 0, .bool false, .int .i64 0, .int .i64 0] 24) = W1 := ⟨_, rfl⟩
  have hB0 : Below w.heap.size w W1 := by rw [← hW1]; exact (Below.refl _ _).alloc (Nat.le_refl _) _
  have m0 : W1.heap[w.heap.size]? = some (.cells #[.int .i64 0, .bool false, .int .i64 0, .int .i64 0] 24 (0, 0)) := by rw [← hW1]; exact World.alloc_heap_new w _
  have hM1 : MapR W1 base B M := hM.below hB0 hb
  have HX : Hid (∀ X, Below W1.heap.size W1 X → X.heap[w.heap.size]? = some (.cells #[.int .i64 0, .bool false, .int .i64 0, .int .i64 0] 24 (0, 0)) ∧ MapR X base B M ∧ Below w.heap.size w X) := fun X hX => ⟨(hX.block _ (Array.getElem?_eq_some_iff.1 m0).1).trans m0, hM1.below hX (Nat.le_trans hb hB0.size), hB0.trans (hX.mono hB0.size)⟩
  obtain ⟨aB, cB, hBB⟩ := hM1.len_
  have g0 : W1.cell? ⟨B, 0, none⟩ = some (.slice aB M.length cB) := cell_of_row W1 B 0 _ _ _ hBB
  have HB0 : Hid (∀ X, Below W1.heap.size W1 X → X.cell? ⟨B, 0, none⟩ = some (.slice aB M.length cB)) := fun X hX => cell_of_row X B 0 _ _ _ ((hX.block B (Array.getElem?_eq_some_iff.1 hBB).1).trans hBB)
  have HBX : Hid (base ≤ W1.heap.size) := Nat.le_trans hb hB0.size
  have HBAD : Hid (mmR M from' p side = none → Calls Try.prog 25 #[.pointer (some ⟨B, 0, none⟩), .int .i64 from', .int .i64 p, .int .i64 side] w (fun e w' => e = .returned (mmV none) ∧ Below w.heap.size w w') → Calls Try.prog 25 #[.pointer (some ⟨B, 0, none⟩), .int .i64 from', .int .i64 p, .int .i64 side] w fun e w' => e = .returned (mmV (mmR M from' p side)) ∧ Below w.heap.size w w') := fun h k => by rw [h]; exact k
  obtain ⟨r0, -, hBX⟩ := HX.out W1 (Below.refl _ _)
  obtain ⟨z0, z1, z2, z3⟩ := cells4 r0
  have f0 : ∀ j, W1.frozen? ⟨w.heap.size, j, none⟩ = false := fun j => frozen_block r0
  have R0 : Hid (W1.heap[w.heap.size]? = some (.cells #[.int .i64 0, .bool false, .int .i64 0, .int .i64 0] 24 (0, 0))) := r0
  clear r0
  by_cases d1 : from' < 0
  · refine HBAD.out (by unfold mmR; rw [if_pos (.inl d1)]) ?_
    clear hM hM1 m0 hBB hmir
    generalize M.length = n at *
    go_enter Try.func25, Try.ntmps25
    go_wp2
    refine bodyPost_ret (results_row_tmp rfl _ _ w.heap.size 24 _ (0, 0) _ rfl (put4 R0.out _ _ _ _) Try.underlying24 rfl sizeSpot) rfl ?_
    exact ⟨rfl, below4 hBX (Nat.le_refl _) ..⟩
  · by_cases d2 : (M.length : Int) < from'
    · refine HBAD.out (by unfold mmR; rw [if_pos (.inr (.inl d2))]) ?_
      clear hM hM1 m0 hBB hmir
      generalize M.length = n at *
      go_enter Try.func25, Try.ntmps25
      go_wp2
      refine bodyPost_ret (results_row_tmp rfl _ _ w.heap.size 24 _ (0, 0) _ rfl (put4 R0.out _ _ _ _) Try.underlying24 rfl sizeSpot) rfl ?_
      exact ⟨rfl, below4 hBX (Nat.le_refl _) ..⟩
    · obtain ⟨fr, rfl⟩ : ∃ k : Nat, from' = (k : Int) := ⟨from'.toNat, by omega⟩
      have hfr : fr ≤ M.length := by omega
      by_cases d4 : p < 0
      · refine HBAD.out (by unfold mmR; rw [if_pos (.inr (.inr (by simp [within]; omega)))]) ?_
        clear hM hM1 m0 hBB hmir
        generalize M.length = n at *
        go_enter Try.func25, Try.ntmps25
        go_wp2
        refine bodyPost_ret (results_row_tmp rfl _ _ w.heap.size 24 _ (0, 0) _ rfl (put4 R0.out _ _ _ _) Try.underlying24 rfl sizeSpot) rfl ?_
        exact ⟨rfl, below4 hBX (Nat.le_refl _) ..⟩
      · by_cases d5 : 65536 < p
        · refine HBAD.out (by unfold mmR; rw [if_pos (.inr (.inr (by simp [within]; omega)))]) ?_
          clear hM hM1 m0 hBB hmir
          generalize M.length = n at *
          go_enter Try.func25, Try.ntmps25
          go_wp2
          refine bodyPost_ret (results_row_tmp rfl _ _ w.heap.size 24 _ (0, 0) _ rfl (put4 R0.out _ _ _ _) Try.underlying24 rfl sizeSpot) rfl ?_
          exact ⟨rfl, below4 hBX (Nat.le_refl _) ..⟩
        · have d3 : within p = true := (within_iff p).2 ⟨by omega, by omega⟩
          have HR0 : Hid (mmR M (fr : Int) p side = goM M side M.length fr p false) := by show mmR M _ _ _ = _; unfold mmR; rw [if_neg (by rw [d3]; simp; omega), Int.toNat_natCast]
          clear HBAD
          generalize hRR : mmR M (fr : Int) p side = R at *
          have HMIR : Hid (∀ i, i < M.length → mirAt M i < M.length ∧ mirAt M i ≠ i) := hmir
          clear hRR hM m0 hBB hmir
          have ne1 : decide ((fr : Int) < 0) = false := by simp
          have ne2 : decide (M.length < fr) = false := by simp; omega
          have ne3 : ¬ M.length < fr := by omega
          have ne4 : decide ((M.length : Int) < (fr : Int)) = false := by simp; omega
          have ne5 : decide (p < 0) = false := by simpa using d4
          have ne6 : decide (65536 < p) = false := by simpa using d5
          go_enter Try.func25, Try.ntmps25
          go_wp2_with fail
          clear z0 z1 z2 z3 f0 hW1
          go_loopw [10, 11, 12] (fun u y i w' => ∃ (f k : Nat) (q : Int) (g : Bool), y = .int .i64 q ∧ u = .bool g ∧ i = .int .i64 (k : Int) ∧ within q = true ∧ k ≤ M.length ∧ M.length ≤ k + f ∧ goM M side f k q g = R ∧ Below W1.heap.size W1 w') (fun _ _ i _ => M.length - (intOf i).toNat)
          case atStart => exact ⟨M.length, fr, p, false, rfl, rfl, rfl, d3, hfr, by omega, HR0.out.symm, Below.refl _ _⟩
          case round =>
            obtain ⟨f, k, q, g, rfl, rfl, rfl, hq, hk, hf, hgo, hB⟩ := hrel
            have hq' := (within_iff q).1 hq
            by_cases hlt : k < M.length
            · obtain ⟨f, rfl⟩ : ∃ f', f = f' + 1 := ⟨f - 1, by omega⟩
              rw [goM, if_pos hlt] at hgo
              obtain ⟨x, hx⟩ : ∃ x, M[k]? = some x := ⟨_, List.getElem?_eq_getElem hlt⟩
              have hla : lAt M k = x.l := by unfold lAt; rw [hx]; rfl
              have hma : mirAt M k = x.m := by unfold mirAt; rw [hx]; rfl
              obtain ⟨hmk, hmne⟩ := HMIR.out k hlt
              obtain ⟨_, hMw, hBw⟩ := HX.out wr hB
              obtain ⟨gg, cap, g1, g2, g3, ⟨gr, gright, _⟩⟩ := hMw.at_ hx
              have gB : wr.cell? ⟨B, 0, none⟩ = some (.slice (some ⟨gg, 0, none⟩) M.length cap) := cell_of_row wr B 0 _ _ _ g1
              obtain ⟨n1, n2, n3⟩ := send_in (lAt M k) 0 0 q side
              have hs0 : 0 ≤ (sendL (lAt M k) 0 0 q side).at' := by
                have := send_low (lAt M k) 0 0 0 q side (by rw [hla]; exact (right_len gright).2) hq'.1
                omega
              have hgl : gg < wr.heap.size := by
                rcases Nat.lt_or_ge gg wr.heap.size with h | h
                · exact h
                · simp [World.cell?, Array.getElem?_eq_none h] at g3
              have hl4 : x.len ≤ 4 := by have := (right_len gright).1; rw [gr.1] at this; exact this
              have cs := refmap_calls x.a x.len x.cap x.l q side wr gr (by omega)
              rw [map_send gright hq side, map_zero gright hq, ← hla] at cs
              unfold spotV at cs
              have HWI : Hid (∀ X, Below wr.heap.size wr X → (X.cell? ⟨B, 0, none⟩ = some (.slice (some ⟨gg, 0, none⟩) M.length cap) ∧ X.cell? ⟨gg, k * 2, none⟩ = some (.slice x.a x.len x.cap) ∧ X.cell? ⟨gg, k * 2 + 1, none⟩ = some (.int .i64 (mirAt M k)))) := fun X hX => by
                rw [hma]
                exact ⟨cell_of_row X B 0 _ _ _ ((hX.block B (Array.getElem?_eq_some_iff.1 g1).1).trans g1), (hX.cell (p := ⟨gg, k * 2, none⟩) hgl).trans g2, (hX.cell (p := ⟨gg, k * 2 + 1, none⟩) hgl).trans g3⟩
              have HGO : Hid ((match recP M k (sendL (lAt M k) 0 0 q side) with
                | some b => if within b = true then goM M side f ((mirAt M k).toNat + 1) b g else none
                | none => if within (sendL (lAt M k) 0 0 q side).at' = true then goM M side f (k + 1) (sendL (lAt M k) 0 0 q side).at' (g || (sendL (lAt M k) 0 0 q side).gone) else none) = R) := hgo
              have HREC : Hid (∀ s : Spt, sendL (lAt M k) 0 0 q side = s → (recP M k s = if mirAt M k < k ∨ s.inn = -1 then none else match M[(mirAt M k).toNat]? with
                | none => none
                | some x => if (x.l.length : Int) ≤ s.inn then none else some ((nth x.l s.inn.toNat).a + shiftL (x.l.take s.inn.toNat) + min s.off (nth x.l s.inn.toNat).n))) := fun s _ => rfl
              generalize hss : sendL (lAt M k) 0 0 q side = s at *
              have hrec := HREC.out s rfl
              clear HREC hgo
              obtain ⟨s0, s1, s2, s3⟩ := s
              simp only at *
              generalize hrp : recP M k ⟨s0, s1, s2, s3⟩ = rp at *
              generalize hmm : mirAt M k = mk at *
              clear hla hma gr gright g1 g2 g3 hss hrp hx hMw
              obtain ⟨xa, xl, xc, xll, xm⟩ := x
              simp only at *
              obtain ⟨kB, kR, kM⟩ := HWI.out wr (Below.refl _ _)
              go_wp2_with fail
              refine cs.mono ?_
              rintro e V ⟨rfl, hV⟩
              obtain ⟨V1, hV1⟩ : ∃ V1, V.alloc (.cells #[.int .i64 s0, .bool s1, .int .i64 s2, .int .i64 s3] 24) = V1 := ⟨_, rfl⟩
              have hVB : Below wr.heap.size wr V1 := by rw [← hV1]; exact hV.alloc hV.size _
              have hVW : Below W1.heap.size W1 V1 := hB.trans (hVB.mono hB.size)
              have hXd : Below W1.heap.size W1 V1.drew := hVW.drew
              have mS : V1.heap[V.heap.size]? = some (.cells #[.int .i64 s0, .bool s1, .int .i64 s2, .int .i64 s3] 24 (0, 0)) := by rw [← hV1]; exact World.alloc_heap_new V _
              have HKV : Hid (∀ Y, Below V1.heap.size V1 Y → (Y.cell? ⟨V.heap.size, 0, none⟩ = some (.int .i64 s0) ∧ Y.cell? ⟨V.heap.size, 1, none⟩ = some (.bool s1) ∧ Y.cell? ⟨V.heap.size, 2, none⟩ = some (.int .i64 s2) ∧ Y.cell? ⟨V.heap.size, 3, none⟩ = some (.int .i64 s3)) ∧ (Y.cell? ⟨B, 0, none⟩ = some (.slice (some ⟨gg, 0, none⟩) M.length cap) ∧ Y.cell? ⟨gg, k * 2, none⟩ = some (.slice xa xl xc) ∧ Y.cell? ⟨gg, k * 2 + 1, none⟩ = some (.int .i64 mk))) := fun Y hY => ⟨cells4 ((hY.block _ (Array.getElem?_eq_some_iff.1 mS).1).trans mS), HWI.out Y (hVB.trans (hY.mono hVB.size))⟩
              obtain ⟨⟨v0, v1, v2, v3⟩, v4, v5, v6⟩ := HKV.out V1 (Below.refl _ _)
              clear cs mS kB kR kM gB
              by_cases c1 : s2 = -1
              · have hrn : rp = none := by rw [hrec, if_pos (.inr c1)]
                have HNEXT : Hid (within s0 = true → goM M side f (k + 1) s0 (g || s1) = R) := fun h => by have := HGO.out; rw [hrn] at this; simp only [h, if_true] at this; exact this
                have HSTOP : Hid (within s0 = false → R = none) := fun h => by have := HGO.out; rw [hrn] at this; simp only [h] at this; exact this.symm
                clear HGO
                have hd1 : decide (0 ≤ s2) = false := by simp; omega
                have hd2 : (0 : Int) = 0 := rfl
                have hd3 : (0 : Int) = 0 := rfl
                clear hrec c1 hrn HWI HMIR
                go_wp2_with fail
                refine wp_region_held_drew (S := fun Y => Below V1.heap.size V1 Y) mixed (Below.refl _ _).drew (fun hS => ?_)
                generalize V1.drew = Xd at *
                refine takeD 0 (some 74) (v := ?_) rfl rfl (by kernel_rfl) (by kernel_rfl) (by kernel_rfl) (fun _ _ _ h => h) (Or.inl ⟨by rfl, ?_⟩) hS ?_
                rotate_left
                · intro w hSw
                  go_simp
                  with_reducible rfl
                try simp only [Act.put, List.setIfInBounds_toArray, List.set_cons_zero, List.set_cons_succ]
                refine takeD 1 (some 75) (v := ?_) rfl rfl (by kernel_rfl) (by kernel_rfl) (by kernel_rfl) (fun _ _ _ h => h) (Or.inl ⟨by rfl, ?_⟩) hS ?_
                rotate_left
                · intro w hSw
                  obtain ⟨⟨k0, k1, k2, k3⟩, k4, k5, k6⟩ := HKV.out _ hSw
                  go_simp
                  with_reducible rfl
                try simp only [Act.put, List.setIfInBounds_toArray, List.set_cons_zero, List.set_cons_succ]
                refine takeD 2 (some 76) (v := ?_) rfl rfl (by kernel_rfl) (by kernel_rfl) (by kernel_rfl) (fun _ _ _ h => h) (Or.inl ⟨by rfl, ?_⟩) hS ?_
                rotate_left
                · intro w hSw
                  go_simp
                  try simp only [hd1]
                  with_reducible rfl
                try simp only [Act.put, List.setIfInBounds_toArray, List.set_cons_zero, List.set_cons_succ]
                refine takeD 3 (some 77) (v := ?_) rfl rfl (by kernel_rfl) (by kernel_rfl) (by kernel_rfl) (fun _ _ _ h => h) (Or.inl ⟨by rfl, ?_⟩) hS ?_
                rotate_left
                · intro w hSw
                  try go_simp
                  with_reducible rfl
                try simp only [Act.put, List.setIfInBounds_toArray, List.set_cons_zero, List.set_cons_succ]
                refine takeD 4 (some 78) (v := undef) rfl rfl (by kernel_rfl) (by kernel_rfl) (by kernel_rfl) (fun _ _ _ h => h) (Or.inr ⟨by rfl, rfl⟩) hS ?_
                try simp only [Act.put, List.setIfInBounds_toArray, List.set_cons_zero, List.set_cons_succ]
                refine takeD 5 (some 79) (v := undef) rfl rfl (by kernel_rfl) (by kernel_rfl) (by kernel_rfl) (fun _ _ _ h => h) (Or.inr ⟨by rfl, rfl⟩) hS ?_
                try simp only [Act.put, List.setIfInBounds_toArray, List.set_cons_zero, List.set_cons_succ]
                refine takeD 6 (some 80) (v := undef) rfl rfl (by kernel_rfl) (by kernel_rfl) (by kernel_rfl) (fun _ _ _ h => h) (Or.inr ⟨by rfl, rfl⟩) hS ?_
                try simp only [Act.put, List.setIfInBounds_toArray, List.set_cons_zero, List.set_cons_succ]
                refine takeD 7 (some 81) (v := ?_) rfl rfl (by kernel_rfl) (by kernel_rfl) (by kernel_rfl) (fun _ _ _ h => h) (Or.inl ⟨by rfl, ?_⟩) hS ?_
                rotate_left
                · intro w hSw
                  go_simp
                  with_reducible rfl
                try simp only [Act.put, List.setIfInBounds_toArray, List.set_cons_zero, List.set_cons_succ]
                refine takeD 8 (some 82) (v := ?_) rfl rfl (by kernel_rfl) (by kernel_rfl) (by kernel_rfl) (fun _ _ _ h => h) (Or.inl ⟨by rfl, ?_⟩) hS ?_
                rotate_left
                · intro w hSw
                  try go_simp
                  with_reducible rfl
                try simp only [Act.put, List.setIfInBounds_toArray, List.set_cons_zero, List.set_cons_succ]
                refine takeD 9 (some 83) (v := undef) rfl rfl (by kernel_rfl) (by kernel_rfl) (by kernel_rfl) (fun _ _ _ h => h) (Or.inr ⟨by rfl, rfl⟩) hS ?_
                try simp only [Act.put, List.setIfInBounds_toArray, List.set_cons_zero, List.set_cons_succ]
                refine takeD 10 (some 84) (v := undef) rfl rfl (by kernel_rfl) (by kernel_rfl) (by kernel_rfl) (fun _ _ _ h => h) (Or.inr ⟨by rfl, rfl⟩) hS ?_
                try simp only [Act.put, List.setIfInBounds_toArray, List.set_cons_zero, List.set_cons_succ]
                refine takeD 11 (some 85) (v := undef) rfl rfl (by kernel_rfl) (by kernel_rfl) (by kernel_rfl) (fun _ _ _ h => h) (Or.inr ⟨by rfl, rfl⟩) hS ?_
                try simp only [Act.put, List.setIfInBounds_toArray, List.set_cons_zero, List.set_cons_succ]
                refine takeD 12 (some 86) (v := undef) rfl rfl (by kernel_rfl) (by kernel_rfl) (by kernel_rfl) (fun _ _ _ h => h) (Or.inr ⟨by rfl, rfl⟩) hS ?_
                try simp only [Act.put, List.setIfInBounds_toArray, List.set_cons_zero, List.set_cons_succ]
                refine takeD 13 (some 87) (v := undef) rfl rfl (by kernel_rfl) (by kernel_rfl) (by kernel_rfl) (fun _ _ _ h => h) (Or.inr ⟨by rfl, rfl⟩) hS ?_
                try simp only [Act.put, List.setIfInBounds_toArray, List.set_cons_zero, List.set_cons_succ]
                refine takeD 14 (some 88) (v := undef) rfl rfl (by kernel_rfl) (by kernel_rfl) (by kernel_rfl) (fun _ _ _ h => h) (Or.inr ⟨by rfl, rfl⟩) hS ?_
                try simp only [Act.put, List.setIfInBounds_toArray, List.set_cons_zero, List.set_cons_succ]
                refine takeD 15 (some 89) (v := undef) rfl rfl (by kernel_rfl) (by kernel_rfl) (by kernel_rfl) (fun _ _ _ h => h) (Or.inr ⟨by rfl, rfl⟩) hS ?_
                try simp only [Act.put, List.setIfInBounds_toArray, List.set_cons_zero, List.set_cons_succ]
                refine takeD 16 (some 90) (v := undef) rfl rfl (by kernel_rfl) (by kernel_rfl) (by kernel_rfl) (fun _ _ _ h => h) (Or.inr ⟨by rfl, rfl⟩) hS ?_
                try simp only [Act.put, List.setIfInBounds_toArray, List.set_cons_zero, List.set_cons_succ]
                refine takeD 17 (some 91) (v := undef) rfl rfl (by kernel_rfl) (by kernel_rfl) (by kernel_rfl) (fun _ _ _ h => h) (Or.inr ⟨by rfl, rfl⟩) hS ?_
                try simp only [Act.put, List.setIfInBounds_toArray, List.set_cons_zero, List.set_cons_succ]
                refine takeD 18 (some 92) (v := undef) rfl rfl (by kernel_rfl) (by kernel_rfl) (by kernel_rfl) (fun _ _ _ h => h) (Or.inr ⟨by rfl, rfl⟩) hS ?_
                try simp only [Act.put, List.setIfInBounds_toArray, List.set_cons_zero, List.set_cons_succ]
                refine takeD 19 (some 93) (v := undef) rfl rfl (by kernel_rfl) (by kernel_rfl) (by kernel_rfl) (fun _ _ _ h => h) (Or.inr ⟨by rfl, rfl⟩) hS ?_
                try simp only [Act.put, List.setIfInBounds_toArray, List.set_cons_zero, List.set_cons_succ]
                refine takeD 20 (some 94) (v := undef) rfl rfl (by kernel_rfl) (by kernel_rfl) (by kernel_rfl) (fun _ _ _ h => h) (Or.inr ⟨by rfl, rfl⟩) hS ?_
                try simp only [Act.put, List.setIfInBounds_toArray, List.set_cons_zero, List.set_cons_succ]
                refine takeD 21 (some 95) (v := ?_) rfl rfl (by kernel_rfl) (by kernel_rfl) (by kernel_rfl) (fun _ _ _ h => h) (Or.inl ⟨by rfl, ?_⟩) hS ?_
                rotate_left
                · intro w hSw
                  go_simp
                  with_reducible rfl
                try simp only [Act.put, List.setIfInBounds_toArray, List.set_cons_zero, List.set_cons_succ]
                refine wpAnyH_done (by kernel_rfl) ?_ _
                cases g with
                | false =>
                  obtain ⟨⟨k0, k1, k2, k3⟩, k4, k5, k6⟩ := HKV.out _ hS
                  by_cases hbig : 65536 < s0
                  · have HF : Hid (R = none) := HSTOP.out (by simp [within]; omega)
                    obtain ⟨r0, _, hBX⟩ := HX.out Xd hXd
                    obtain ⟨z0, z1, z2, z3⟩ := cells4 r0
                    have f0 : ∀ j, World.frozen? Xd ⟨w.heap.size, j, none⟩ = false := fun j => frozen_block r0
                    go_wp2
                    refine bodyPost_ret (results_row_tmp rfl _ _ w.heap.size 24 _ (0, 0) _ rfl (put4 r0 _ _ _ _) Try.underlying24 rfl sizeSpot) rfl ?_
                    exact ⟨by rw [HF.out]; rfl, below4 hBX (Nat.le_refl _) ..⟩
                  · have hwi : within s0 = true := (within_iff s0).2 ⟨hs0, by omega⟩
                    have HG := HNEXT.out hwi
                    go_wp2
                    go_roundw
                    case rel => exact ⟨f, k + 1, s0, s1, rfl, by simp, by go_num, hwi, by omega, by omega, by simpa using HG, hXd⟩
                    case measure => simp [intOf]; omega
                | true =>
                  obtain ⟨⟨k0, k1, k2, k3⟩, k4, k5, k6⟩ := HKV.out _ hS
                  by_cases hbig : 65536 < s0
                  · have HF : Hid (R = none) := HSTOP.out (by simp [within]; omega)
                    obtain ⟨r0, _, hBX⟩ := HX.out Xd hXd
                    obtain ⟨z0, z1, z2, z3⟩ := cells4 r0
                    have f0 : ∀ j, World.frozen? Xd ⟨w.heap.size, j, none⟩ = false := fun j => frozen_block r0
                    go_wp2
                    refine bodyPost_ret (results_row_tmp rfl _ _ w.heap.size 24 _ (0, 0) _ rfl (put4 r0 _ _ _ _) Try.underlying24 rfl sizeSpot) rfl ?_
                    exact ⟨by rw [HF.out]; rfl, below4 hBX (Nat.le_refl _) ..⟩
                  · have hwi : within s0 = true := (within_iff s0).2 ⟨hs0, by omega⟩
                    have HG := HNEXT.out hwi
                    go_wp2
                    go_roundw
                    case rel => exact ⟨f, k + 1, s0, true, rfl, by simp, by go_num, hwi, by omega, by omega, by simpa using HG, hXd⟩
                    case measure => simp [intOf]; omega
              · have hi0 : 0 ≤ s2 := by omega
                have hd1 : decide (0 ≤ s2) = true := by simpa using hi0
                by_cases c2 : mk < (k : Int)
                · have hrn : rp = none := by rw [hrec, if_pos (.inl c2)]
                  have HNEXT : Hid (within s0 = true → goM M side f (k + 1) s0 (g || s1) = R) := fun h => by have := HGO.out; rw [hrn] at this; simp only [h, if_true] at this; exact this
                  have HSTOP : Hid (within s0 = false → R = none) := fun h => by have := HGO.out; rw [hrn] at this; simp only [h] at this; exact this.symm
                  clear HGO
                  have hd2 : decide ((k : Int) < mk) = false := by simp; omega
                  have hd3 : (0 : Int) = 0 := rfl
                  clear hrec hrn HWI HMIR
                  go_wp2_with fail
                  refine wp_region_held_drew (S := fun Y => Below V1.heap.size V1 Y) mixed (Below.refl _ _).drew (fun hS => ?_)
                  generalize V1.drew = Xd at *
                  refine takeD 0 (some 74) (v := ?_) rfl rfl (by kernel_rfl) (by kernel_rfl) (by kernel_rfl) (fun _ _ _ h => h) (Or.inl ⟨by rfl, ?_⟩) hS ?_
                  rotate_left
                  · intro w hSw
                    go_simp
                    with_reducible rfl
                  try simp only [Act.put, List.setIfInBounds_toArray, List.set_cons_zero, List.set_cons_succ]
                  refine takeD 1 (some 75) (v := ?_) rfl rfl (by kernel_rfl) (by kernel_rfl) (by kernel_rfl) (fun _ _ _ h => h) (Or.inl ⟨by rfl, ?_⟩) hS ?_
                  rotate_left
                  · intro w hSw
                    obtain ⟨⟨k0, k1, k2, k3⟩, k4, k5, k6⟩ := HKV.out _ hSw
                    go_simp
                    with_reducible rfl
                  try simp only [Act.put, List.setIfInBounds_toArray, List.set_cons_zero, List.set_cons_succ]
                  refine takeD 2 (some 76) (v := ?_) rfl rfl (by kernel_rfl) (by kernel_rfl) (by kernel_rfl) (fun _ _ _ h => h) (Or.inl ⟨by rfl, ?_⟩) hS ?_
                  rotate_left
                  · intro w hSw
                    go_simp
                    try simp only [hd1, hd2]
                    with_reducible rfl
                  try simp only [Act.put, List.setIfInBounds_toArray, List.set_cons_zero, List.set_cons_succ]
                  refine takeD 3 (some 77) (v := ?_) rfl rfl (by kernel_rfl) (by kernel_rfl) (by kernel_rfl) (fun _ _ _ h => h) (Or.inl ⟨by rfl, ?_⟩) hS ?_
                  rotate_left
                  · intro w hSw
                    try go_simp
                    with_reducible rfl
                  try simp only [Act.put, List.setIfInBounds_toArray, List.set_cons_zero, List.set_cons_succ]
                  refine takeD 4 (some 78) (v := ?_) rfl rfl (by kernel_rfl) (by kernel_rfl) (by kernel_rfl) (fun _ _ _ h => h) (Or.inl ⟨by rfl, ?_⟩) hS ?_
                  rotate_left
                  · intro w hSw
                    try go_simp
                    with_reducible rfl
                  try simp only [Act.put, List.setIfInBounds_toArray, List.set_cons_zero, List.set_cons_succ]
                  refine takeD 5 (some 79) (v := ?_) rfl rfl (by kernel_rfl) (by kernel_rfl) (by kernel_rfl) (fun _ _ _ h => h) (Or.inl ⟨by rfl, ?_⟩) hS ?_
                  rotate_left
                  · intro w hSw
                    try go_simp
                    with_reducible rfl
                  try simp only [Act.put, List.setIfInBounds_toArray, List.set_cons_zero, List.set_cons_succ]
                  refine takeD 6 (some 80) (v := ?_) rfl rfl (by kernel_rfl) (by kernel_rfl) (by kernel_rfl) (fun _ _ _ h => h) (Or.inl ⟨by rfl, ?_⟩) hS ?_
                  rotate_left
                  · intro w hSw
                    go_simp
                    try simp only [hd1, hd2]
                    with_reducible rfl
                  try simp only [Act.put, List.setIfInBounds_toArray, List.set_cons_zero, List.set_cons_succ]
                  refine takeD 7 (some 81) (v := ?_) rfl rfl (by kernel_rfl) (by kernel_rfl) (by kernel_rfl) (fun _ _ _ h => h) (Or.inl ⟨by rfl, ?_⟩) hS ?_
                  rotate_left
                  · intro w hSw
                    go_simp
                    with_reducible rfl
                  try simp only [Act.put, List.setIfInBounds_toArray, List.set_cons_zero, List.set_cons_succ]
                  refine takeD 8 (some 82) (v := ?_) rfl rfl (by kernel_rfl) (by kernel_rfl) (by kernel_rfl) (fun _ _ _ h => h) (Or.inl ⟨by rfl, ?_⟩) hS ?_
                  rotate_left
                  · intro w hSw
                    try go_simp
                    with_reducible rfl
                  try simp only [Act.put, List.setIfInBounds_toArray, List.set_cons_zero, List.set_cons_succ]
                  refine takeD 9 (some 83) (v := undef) rfl rfl (by kernel_rfl) (by kernel_rfl) (by kernel_rfl) (fun _ _ _ h => h) (Or.inr ⟨by rfl, rfl⟩) hS ?_
                  try simp only [Act.put, List.setIfInBounds_toArray, List.set_cons_zero, List.set_cons_succ]
                  refine takeD 10 (some 84) (v := undef) rfl rfl (by kernel_rfl) (by kernel_rfl) (by kernel_rfl) (fun _ _ _ h => h) (Or.inr ⟨by rfl, rfl⟩) hS ?_
                  try simp only [Act.put, List.setIfInBounds_toArray, List.set_cons_zero, List.set_cons_succ]
                  refine takeD 11 (some 85) (v := undef) rfl rfl (by kernel_rfl) (by kernel_rfl) (by kernel_rfl) (fun _ _ _ h => h) (Or.inr ⟨by rfl, rfl⟩) hS ?_
                  try simp only [Act.put, List.setIfInBounds_toArray, List.set_cons_zero, List.set_cons_succ]
                  refine takeD 12 (some 86) (v := undef) rfl rfl (by kernel_rfl) (by kernel_rfl) (by kernel_rfl) (fun _ _ _ h => h) (Or.inr ⟨by rfl, rfl⟩) hS ?_
                  try simp only [Act.put, List.setIfInBounds_toArray, List.set_cons_zero, List.set_cons_succ]
                  refine takeD 13 (some 87) (v := undef) rfl rfl (by kernel_rfl) (by kernel_rfl) (by kernel_rfl) (fun _ _ _ h => h) (Or.inr ⟨by rfl, rfl⟩) hS ?_
                  try simp only [Act.put, List.setIfInBounds_toArray, List.set_cons_zero, List.set_cons_succ]
                  refine takeD 14 (some 88) (v := undef) rfl rfl (by kernel_rfl) (by kernel_rfl) (by kernel_rfl) (fun _ _ _ h => h) (Or.inr ⟨by rfl, rfl⟩) hS ?_
                  try simp only [Act.put, List.setIfInBounds_toArray, List.set_cons_zero, List.set_cons_succ]
                  refine takeD 15 (some 89) (v := undef) rfl rfl (by kernel_rfl) (by kernel_rfl) (by kernel_rfl) (fun _ _ _ h => h) (Or.inr ⟨by rfl, rfl⟩) hS ?_
                  try simp only [Act.put, List.setIfInBounds_toArray, List.set_cons_zero, List.set_cons_succ]
                  refine takeD 16 (some 90) (v := undef) rfl rfl (by kernel_rfl) (by kernel_rfl) (by kernel_rfl) (fun _ _ _ h => h) (Or.inr ⟨by rfl, rfl⟩) hS ?_
                  try simp only [Act.put, List.setIfInBounds_toArray, List.set_cons_zero, List.set_cons_succ]
                  refine takeD 17 (some 91) (v := undef) rfl rfl (by kernel_rfl) (by kernel_rfl) (by kernel_rfl) (fun _ _ _ h => h) (Or.inr ⟨by rfl, rfl⟩) hS ?_
                  try simp only [Act.put, List.setIfInBounds_toArray, List.set_cons_zero, List.set_cons_succ]
                  refine takeD 18 (some 92) (v := undef) rfl rfl (by kernel_rfl) (by kernel_rfl) (by kernel_rfl) (fun _ _ _ h => h) (Or.inr ⟨by rfl, rfl⟩) hS ?_
                  try simp only [Act.put, List.setIfInBounds_toArray, List.set_cons_zero, List.set_cons_succ]
                  refine takeD 19 (some 93) (v := undef) rfl rfl (by kernel_rfl) (by kernel_rfl) (by kernel_rfl) (fun _ _ _ h => h) (Or.inr ⟨by rfl, rfl⟩) hS ?_
                  try simp only [Act.put, List.setIfInBounds_toArray, List.set_cons_zero, List.set_cons_succ]
                  refine takeD 20 (some 94) (v := undef) rfl rfl (by kernel_rfl) (by kernel_rfl) (by kernel_rfl) (fun _ _ _ h => h) (Or.inr ⟨by rfl, rfl⟩) hS ?_
                  try simp only [Act.put, List.setIfInBounds_toArray, List.set_cons_zero, List.set_cons_succ]
                  refine takeD 21 (some 95) (v := ?_) rfl rfl (by kernel_rfl) (by kernel_rfl) (by kernel_rfl) (fun _ _ _ h => h) (Or.inl ⟨by rfl, ?_⟩) hS ?_
                  rotate_left
                  · intro w hSw
                    go_simp
                    with_reducible rfl
                  try simp only [Act.put, List.setIfInBounds_toArray, List.set_cons_zero, List.set_cons_succ]
                  refine wpAnyH_done (by kernel_rfl) ?_ _
                  cases g with
                  | false =>
                    obtain ⟨⟨k0, k1, k2, k3⟩, k4, k5, k6⟩ := HKV.out _ hS
                    by_cases hbig : 65536 < s0
                    · have HF : Hid (R = none) := HSTOP.out (by simp [within]; omega)
                      obtain ⟨r0, _, hBX⟩ := HX.out Xd hXd
                      obtain ⟨z0, z1, z2, z3⟩ := cells4 r0
                      have f0 : ∀ j, World.frozen? Xd ⟨w.heap.size, j, none⟩ = false := fun j => frozen_block r0
                      go_wp2
                      refine bodyPost_ret (results_row_tmp rfl _ _ w.heap.size 24 _ (0, 0) _ rfl (put4 r0 _ _ _ _) Try.underlying24 rfl sizeSpot) rfl ?_
                      exact ⟨by rw [HF.out]; rfl, below4 hBX (Nat.le_refl _) ..⟩
                    · have hwi : within s0 = true := (within_iff s0).2 ⟨hs0, by omega⟩
                      have HG := HNEXT.out hwi
                      go_wp2
                      go_roundw
                      case rel => exact ⟨f, k + 1, s0, s1, rfl, by simp, by go_num, hwi, by omega, by omega, by simpa using HG, hXd⟩
                      case measure => simp [intOf]; omega
                  | true =>
                    obtain ⟨⟨k0, k1, k2, k3⟩, k4, k5, k6⟩ := HKV.out _ hS
                    by_cases hbig : 65536 < s0
                    · have HF : Hid (R = none) := HSTOP.out (by simp [within]; omega)
                      obtain ⟨r0, _, hBX⟩ := HX.out Xd hXd
                      obtain ⟨z0, z1, z2, z3⟩ := cells4 r0
                      have f0 : ∀ j, World.frozen? Xd ⟨w.heap.size, j, none⟩ = false := fun j => frozen_block r0
                      go_wp2
                      refine bodyPost_ret (results_row_tmp rfl _ _ w.heap.size 24 _ (0, 0) _ rfl (put4 r0 _ _ _ _) Try.underlying24 rfl sizeSpot) rfl ?_
                      exact ⟨by rw [HF.out]; rfl, below4 hBX (Nat.le_refl _) ..⟩
                    · have hwi : within s0 = true := (within_iff s0).2 ⟨hs0, by omega⟩
                      have HG := HNEXT.out hwi
                      go_wp2
                      go_roundw
                      case rel => exact ⟨f, k + 1, s0, true, rfl, by simp, by go_num, hwi, by omega, by omega, by simpa using HG, hXd⟩
                      case measure => simp [intOf]; omega
                · obtain ⟨j, rfl⟩ : ∃ j : Nat, mk = (j : Int) := ⟨mk.toNat, by omega⟩
                  have hkj : k < j := by omega
                  have hjn : j < M.length := by omega
                  have hd2 : decide ((k : Int) < (j : Int)) = true := by simp; omega
                  rw [if_neg (by omega), Int.toNat_natCast] at hrec
                  obtain ⟨y, hy⟩ : ∃ y, M[j]? = some y := ⟨_, List.getElem?_eq_getElem hjn⟩
                  rw [hy] at hrec
                  simp only at hrec
                  obtain ⟨_, hMv, _⟩ := HX.out V1 hVW
                  obtain ⟨gg', cap', p1, p2, p3, ⟨pr, pright, _⟩⟩ := hMv.at_ hy
                  obtain ⟨rfl, rfl⟩ : gg = gg' ∧ cap = cap' := by
                    have p0 : V1.cell? ⟨B, 0, none⟩ = some (.slice (some ⟨gg', 0, none⟩) M.length cap') := cell_of_row V1 B 0 _ _ _ p1
                    rw [v4] at p0
                    simpa using p0
                  have hgl2 : gg < V1.heap.size := Nat.lt_of_lt_of_le hgl hVB.size
                  have HKJ0 : Hid (∀ Y, Below V1.heap.size V1 Y → Y.cell? ⟨gg, j * 2, none⟩ = some (.slice y.a y.len y.cap)) := fun Y hY => (hY.cell (p := ⟨gg, j * 2, none⟩) hgl2).trans p2
                  have hyl := pr.1
                  rw [hyl] at hrec
                  by_cases c3 : (y.len : Int) ≤ s2
                  · have hrn : rp = none := by rw [hrec, if_pos c3]
                    have HNEXT : Hid (within s0 = true → goM M side f (k + 1) s0 (g || s1) = R) := fun h => by have := HGO.out; rw [hrn] at this; simp only [h, if_true] at this; exact this
                    have HSTOP : Hid (within s0 = false → R = none) := fun h => by have := HGO.out; rw [hrn] at this; simp only [h] at this; exact this.symm
                    clear HGO
                    have hd3 : decide (s2 < (y.len : Int)) = false := by simpa using c3
                    obtain ⟨ya, yl, yc, yll, ym⟩ := y
                    simp only at *
                    clear hrec hrn HWI HMIR p1 p2 p3 pr pright hMv hy
                    go_wp2_with fail
                    refine wp_region_held_drew (S := fun Y => Below V1.heap.size V1 Y) mixed (Below.refl _ _).drew (fun hS => ?_)
                    generalize V1.drew = Xd at *
                    refine takeD 0 (some 74) (v := ?_) rfl rfl (by kernel_rfl) (by kernel_rfl) (by kernel_rfl) (fun _ _ _ h => h) (Or.inl ⟨by rfl, ?_⟩) hS ?_
                    rotate_left
                    · intro w hSw
                      go_simp
                      with_reducible rfl
                    try simp only [Act.put, List.setIfInBounds_toArray, List.set_cons_zero, List.set_cons_succ]
                    refine takeD 1 (some 75) (v := ?_) rfl rfl (by kernel_rfl) (by kernel_rfl) (by kernel_rfl) (fun _ _ _ h => h) (Or.inl ⟨by rfl, ?_⟩) hS ?_
                    rotate_left
                    · intro w hSw
                      obtain ⟨⟨k0, k1, k2, k3⟩, k4, k5, k6⟩ := HKV.out _ hSw
                      have k7 := HKJ0.out _ hSw
                      go_simp
                      with_reducible rfl
                    try simp only [Act.put, List.setIfInBounds_toArray, List.set_cons_zero, List.set_cons_succ]
                    refine takeD 2 (some 76) (v := ?_) rfl rfl (by kernel_rfl) (by kernel_rfl) (by kernel_rfl) (fun _ _ _ h => h) (Or.inl ⟨by rfl, ?_⟩) hS ?_
                    rotate_left
                    · intro w hSw
                      go_simp
                      try simp only [hd1, hd2, hd3]
                      with_reducible rfl
                    try simp only [Act.put, List.setIfInBounds_toArray, List.set_cons_zero, List.set_cons_succ]
                    refine takeD 3 (some 77) (v := ?_) rfl rfl (by kernel_rfl) (by kernel_rfl) (by kernel_rfl) (fun _ _ _ h => h) (Or.inl ⟨by rfl, ?_⟩) hS ?_
                    rotate_left
                    · intro w hSw
                      try go_simp
                      with_reducible rfl
                    try simp only [Act.put, List.setIfInBounds_toArray, List.set_cons_zero, List.set_cons_succ]
                    refine takeD 4 (some 78) (v := ?_) rfl rfl (by kernel_rfl) (by kernel_rfl) (by kernel_rfl) (fun _ _ _ h => h) (Or.inl ⟨by rfl, ?_⟩) hS ?_
                    rotate_left
                    · intro w hSw
                      try go_simp
                      with_reducible rfl
                    try simp only [Act.put, List.setIfInBounds_toArray, List.set_cons_zero, List.set_cons_succ]
                    refine takeD 5 (some 79) (v := ?_) rfl rfl (by kernel_rfl) (by kernel_rfl) (by kernel_rfl) (fun _ _ _ h => h) (Or.inl ⟨by rfl, ?_⟩) hS ?_
                    rotate_left
                    · intro w hSw
                      try go_simp
                      with_reducible rfl
                    try simp only [Act.put, List.setIfInBounds_toArray, List.set_cons_zero, List.set_cons_succ]
                    refine takeD 6 (some 80) (v := ?_) rfl rfl (by kernel_rfl) (by kernel_rfl) (by kernel_rfl) (fun _ _ _ h => h) (Or.inl ⟨by rfl, ?_⟩) hS ?_
                    rotate_left
                    · intro w hSw
                      go_simp
                      try simp only [hd1, hd2, hd3]
                      with_reducible rfl
                    try simp only [Act.put, List.setIfInBounds_toArray, List.set_cons_zero, List.set_cons_succ]
                    refine takeD 7 (some 81) (v := ?_) rfl rfl (by kernel_rfl) (by kernel_rfl) (by kernel_rfl) (fun _ _ _ h => h) (Or.inl ⟨by rfl, ?_⟩) hS ?_
                    rotate_left
                    · intro w hSw
                      go_simp
                      with_reducible rfl
                    try simp only [Act.put, List.setIfInBounds_toArray, List.set_cons_zero, List.set_cons_succ]
                    refine takeD 8 (some 82) (v := ?_) rfl rfl (by kernel_rfl) (by kernel_rfl) (by kernel_rfl) (fun _ _ _ h => h) (Or.inl ⟨by rfl, ?_⟩) hS ?_
                    rotate_left
                    · intro w hSw
                      try go_simp
                      with_reducible rfl
                    try simp only [Act.put, List.setIfInBounds_toArray, List.set_cons_zero, List.set_cons_succ]
                    refine takeD 9 (some 83) (v := ?_) rfl rfl (by kernel_rfl) (by kernel_rfl) (by kernel_rfl) (fun _ _ _ h => h) (Or.inl ⟨by rfl, ?_⟩) hS ?_
                    rotate_left
                    · intro w hSw
                      go_simp
                      with_reducible rfl
                    try simp only [Act.put, List.setIfInBounds_toArray, List.set_cons_zero, List.set_cons_succ]
                    refine takeD 10 (some 84) (v := ?_) rfl rfl (by kernel_rfl) (by kernel_rfl) (by kernel_rfl) (fun _ _ _ h => h) (Or.inl ⟨by rfl, ?_⟩) hS ?_
                    rotate_left
                    · intro w hSw
                      obtain ⟨⟨k0, k1, k2, k3⟩, k4, k5, k6⟩ := HKV.out _ hSw
                      have k7 := HKJ0.out _ hSw
                      go_simp
                      with_reducible rfl
                    try simp only [Act.put, List.setIfInBounds_toArray, List.set_cons_zero, List.set_cons_succ]
                    refine takeD 11 (some 85) (v := ?_) rfl rfl (by kernel_rfl) (by kernel_rfl) (by kernel_rfl) (fun _ _ _ h => h) (Or.inl ⟨by rfl, ?_⟩) hS ?_
                    rotate_left
                    · intro w hSw
                      try go_simp
                      with_reducible rfl
                    try simp only [Act.put, List.setIfInBounds_toArray, List.set_cons_zero, List.set_cons_succ]
                    refine takeD 12 (some 86) (v := ?_) rfl rfl (by kernel_rfl) (by kernel_rfl) (by kernel_rfl) (fun _ _ _ h => h) (Or.inl ⟨by rfl, ?_⟩) hS ?_
                    rotate_left
                    · intro w hSw
                      go_simp
                      with_reducible rfl
                    try simp only [Act.put, List.setIfInBounds_toArray, List.set_cons_zero, List.set_cons_succ]
                    refine takeD 13 (some 87) (v := ?_) rfl rfl (by kernel_rfl) (by kernel_rfl) (by kernel_rfl) (fun _ _ _ h => h) (Or.inl ⟨by rfl, ?_⟩) hS ?_
                    rotate_left
                    · intro w hSw
                      go_simp
                      with_reducible rfl
                    try simp only [Act.put, List.setIfInBounds_toArray, List.set_cons_zero, List.set_cons_succ]
                    refine takeD 14 (some 88) (v := ?_) rfl rfl (by kernel_rfl) (by kernel_rfl) (by kernel_rfl) (fun _ _ _ h => h) (Or.inl ⟨by rfl, ?_⟩) hS ?_
                    rotate_left
                    · intro w hSw
                      obtain ⟨⟨k0, k1, k2, k3⟩, k4, k5, k6⟩ := HKV.out _ hSw
                      have k7 := HKJ0.out _ hSw
                      go_simp
                      with_reducible rfl
                    try simp only [Act.put, List.setIfInBounds_toArray, List.set_cons_zero, List.set_cons_succ]
                    refine takeD 15 (some 89) (v := ?_) rfl rfl (by kernel_rfl) (by kernel_rfl) (by kernel_rfl) (fun _ _ _ h => h) (Or.inl ⟨by rfl, ?_⟩) hS ?_
                    rotate_left
                    · intro w hSw
                      try go_simp
                      with_reducible rfl
                    try simp only [Act.put, List.setIfInBounds_toArray, List.set_cons_zero, List.set_cons_succ]
                    refine takeD 16 (some 90) (v := ?_) rfl rfl (by kernel_rfl) (by kernel_rfl) (by kernel_rfl) (fun _ _ _ h => h) (Or.inl ⟨by rfl, ?_⟩) hS ?_
                    rotate_left
                    · intro w hSw
                      go_simp
                      with_reducible rfl
                    try simp only [Act.put, List.setIfInBounds_toArray, List.set_cons_zero, List.set_cons_succ]
                    refine takeD 17 (some 91) (v := ?_) rfl rfl (by kernel_rfl) (by kernel_rfl) (by kernel_rfl) (fun _ _ _ h => h) (Or.inl ⟨by rfl, ?_⟩) hS ?_
                    rotate_left
                    · intro w hSw
                      go_simp
                      with_reducible rfl
                    try simp only [Act.put, List.setIfInBounds_toArray, List.set_cons_zero, List.set_cons_succ]
                    refine takeD 18 (some 92) (v := ?_) rfl rfl (by kernel_rfl) (by kernel_rfl) (by kernel_rfl) (fun _ _ _ h => h) (Or.inl ⟨by rfl, ?_⟩) hS ?_
                    rotate_left
                    · intro w hSw
                      obtain ⟨⟨k0, k1, k2, k3⟩, k4, k5, k6⟩ := HKV.out _ hSw
                      have k7 := HKJ0.out _ hSw
                      go_simp
                      with_reducible rfl
                    try simp only [Act.put, List.setIfInBounds_toArray, List.set_cons_zero, List.set_cons_succ]
                    refine takeD 19 (some 93) (v := ?_) rfl rfl (by kernel_rfl) (by kernel_rfl) (by kernel_rfl) (fun _ _ _ h => h) (Or.inl ⟨by rfl, ?_⟩) hS ?_
                    rotate_left
                    · intro w hSw
                      go_simp
                      with_reducible rfl
                    try simp only [Act.put, List.setIfInBounds_toArray, List.set_cons_zero, List.set_cons_succ]
                    refine takeD 20 (some 94) (v := ?_) rfl rfl (by kernel_rfl) (by kernel_rfl) (by kernel_rfl) (fun _ _ _ h => h) (Or.inl ⟨by rfl, ?_⟩) hS ?_
                    rotate_left
                    · intro w hSw
                      go_simp
                      try simp only [hd1, hd2, hd3]
                      with_reducible rfl
                    try simp only [Act.put, List.setIfInBounds_toArray, List.set_cons_zero, List.set_cons_succ]
                    refine takeD 21 (some 95) (v := ?_) rfl rfl (by kernel_rfl) (by kernel_rfl) (by kernel_rfl) (fun _ _ _ h => h) (Or.inl ⟨by rfl, ?_⟩) hS ?_
                    rotate_left
                    · intro w hSw
                      go_simp
                      with_reducible rfl
                    try simp only [Act.put, List.setIfInBounds_toArray, List.set_cons_zero, List.set_cons_succ]
                    refine wpAnyH_done (by kernel_rfl) ?_ _
                    cases g with
                    | false =>
                      obtain ⟨⟨k0, k1, k2, k3⟩, k4, k5, k6⟩ := HKV.out _ hS
                      by_cases hbig : 65536 < s0
                      · have HF : Hid (R = none) := HSTOP.out (by simp [within]; omega)
                        obtain ⟨r0, _, hBX⟩ := HX.out Xd hXd
                        obtain ⟨z0, z1, z2, z3⟩ := cells4 r0
                        have f0 : ∀ j, World.frozen? Xd ⟨w.heap.size, j, none⟩ = false := fun j => frozen_block r0
                        go_wp2
                        refine bodyPost_ret (results_row_tmp rfl _ _ w.heap.size 24 _ (0, 0) _ rfl (put4 r0 _ _ _ _) Try.underlying24 rfl sizeSpot) rfl ?_
                        exact ⟨by rw [HF.out]; rfl, below4 hBX (Nat.le_refl _) ..⟩
                      · have hwi : within s0 = true := (within_iff s0).2 ⟨hs0, by omega⟩
                        have HG := HNEXT.out hwi
                        go_wp2
                        go_roundw
                        case rel => exact ⟨f, k + 1, s0, s1, rfl, by simp, by go_num, hwi, by omega, by omega, by simpa using HG, hXd⟩
                        case measure => simp [intOf]; omega
                    | true =>
                      obtain ⟨⟨k0, k1, k2, k3⟩, k4, k5, k6⟩ := HKV.out _ hS
                      by_cases hbig : 65536 < s0
                      · have HF : Hid (R = none) := HSTOP.out (by simp [within]; omega)
                        obtain ⟨r0, _, hBX⟩ := HX.out Xd hXd
                        obtain ⟨z0, z1, z2, z3⟩ := cells4 r0
                        have f0 : ∀ j, World.frozen? Xd ⟨w.heap.size, j, none⟩ = false := fun j => frozen_block r0
                        go_wp2
                        refine bodyPost_ret (results_row_tmp rfl _ _ w.heap.size 24 _ (0, 0) _ rfl (put4 r0 _ _ _ _) Try.underlying24 rfl sizeSpot) rfl ?_
                        exact ⟨by rw [HF.out]; rfl, below4 hBX (Nat.le_refl _) ..⟩
                      · have hwi : within s0 = true := (within_iff s0).2 ⟨hs0, by omega⟩
                        have HG := HNEXT.out hwi
                        go_wp2
                        go_roundw
                        case rel => exact ⟨f, k + 1, s0, true, rfl, by simp, by go_num, hwi, by omega, by omega, by simpa using HG, hXd⟩
                        case measure => simp [intOf]; omega
                  · obtain ⟨t, rfl⟩ : ∃ t : Nat, s2 = (t : Int) := ⟨s2.toNat, by omega⟩
                    have htl : t < y.len := by omega
                    have hrs : rp = some ((nth y.l t).a + shiftL (y.l.take t) + min s3 (nth y.l t).n) := by rw [hrec, if_neg c3, Int.toNat_natCast]
                    have hd3 : decide ((t : Int) < (y.len : Int)) = true := by simp; omega
                    have hd4 : decide (t < y.len) = true := by simpa using htl
                    obtain ⟨hv1, hv2⟩ := recVE pright (show t < y.l.length by omega) n2
                    have hlow := begin_low y.l 0 0 t (right_len pright).2 (by omega)
                    have hl4y : y.len ≤ 4 := by have := (right_len pright).1; omega
                    obtain ⟨b, o, r, hya, hbl, hrx, _, hrc⟩ := pr.range htl
                    have hnr := nth_some hrx
                    have hbr := rightL_all (right_len pright).2 r (List.mem_of_getElem? hrx)
                    rw [hnr] at hrs hv1 hv2 hlow
                    have HRC : Hid (∀ X, Below V1.heap.size V1 X → Calls Try.prog 17 #[.slice y.a y.len y.cap, .int .i64 (t : Int), .int .i64 (min s3 r.n)] X fun e w' => e = .returned (.tuple #[.int .i64 (r.a + shiftL (y.l.take t) + min s3 r.n), .int .i64 0]) ∧ Below X.heap.size X w') := fun X hX => by
                      have := refrecover_calls y.a y.len y.cap y.l (t : Int) (min s3 r.n) X (pr.below hX) (by omega)
                      rw [hv1, hv2] at this
                      exact this
                    have hRV0 : 0 ≤ r.a + shiftL (y.l.take t) + min s3 r.n := by omega
                    have HNEXT : Hid (within (r.a + shiftL (y.l.take t) + min s3 r.n) = true → goM M side f (j + 1) (r.a + shiftL (y.l.take t) + min s3 r.n) g = R) := fun h => by have := HGO.out; rw [hrs] at this; simp only [h, if_true, Int.toNat_natCast] at this; exact this
                    have HSTOP : Hid (within (r.a + shiftL (y.l.take t) + min s3 r.n) = false → R = none) := fun h => by have := HGO.out; rw [hrs] at this; simp only [h] at this; exact this.symm
                    have HKJ : Hid (∀ Y, Below V1.heap.size V1 Y → (Y.cell? ⟨V.heap.size, 0, none⟩ = some (.int .i64 s0) ∧ Y.cell? ⟨V.heap.size, 1, none⟩ = some (.bool s1) ∧ Y.cell? ⟨V.heap.size, 2, none⟩ = some (.int .i64 (t : Int)) ∧ Y.cell? ⟨V.heap.size, 3, none⟩ = some (.int .i64 s3)) ∧ Y.cell? ⟨B, 0, none⟩ = some (.slice (some ⟨gg, 0, none⟩) M.length cap) ∧ Y.cell? ⟨gg, k * 2, none⟩ = some (.slice xa xl xc) ∧ Y.cell? ⟨gg, k * 2 + 1, none⟩ = some (.int .i64 (j : Int)) ∧ Y.cell? ⟨gg, j * 2, none⟩ = some (.slice y.a y.len y.cap) ∧ Y.cell? ⟨b, o + t * 3 + 2, none⟩ = some (.int .i64 r.n)) := fun Y hY => by
                      obtain ⟨h1, h2, h3, h4⟩ := HKV.out Y hY
                      exact ⟨h1, h2, h3, h4, HKJ0.out Y hY, (hrc Y hY).2.2⟩
                    generalize r.a + shiftL (y.l.take t) + min s3 r.n = RV at *
                    obtain ⟨ya, yl, yc, yll, ym⟩ := y
                    simp only at *
                    subst hya
                    obtain ⟨ra, ro, rn⟩ := r
                    simp only at *
                    clear hrec hrs HWI HMIR p1 p2 p3 pr pright hMv hy HGO hv1 hv2 hrc hrx hnr hlow
                    go_wp2_with fail
                    refine wp_region_held_drew (S := fun Y => Below V1.heap.size V1 Y) mixed (Below.refl _ _).drew (fun hS => ?_)
                    generalize V1.drew = Xd at *
                    refine takeD 0 (some 74) (v := ?_) rfl rfl (by kernel_rfl) (by kernel_rfl) (by kernel_rfl) (fun _ _ _ h => h) (Or.inl ⟨by rfl, ?_⟩) hS ?_
                    rotate_left
                    · intro w hSw
                      go_simp
                      with_reducible rfl
                    try simp only [Act.put, List.setIfInBounds_toArray, List.set_cons_zero, List.set_cons_succ]
                    refine takeD 1 (some 75) (v := ?_) rfl rfl (by kernel_rfl) (by kernel_rfl) (by kernel_rfl) (fun _ _ _ h => h) (Or.inl ⟨by rfl, ?_⟩) hS ?_
                    rotate_left
                    · intro w hSw
                      obtain ⟨⟨k0, k1, k2, k3⟩, k4, k5, k6⟩ := HKV.out _ hSw
                      have k7 := HKJ0.out _ hSw
                      go_simp
                      with_reducible rfl
                    try simp only [Act.put, List.setIfInBounds_toArray, List.set_cons_zero, List.set_cons_succ]
                    refine takeD 2 (some 76) (v := ?_) rfl rfl (by kernel_rfl) (by kernel_rfl) (by kernel_rfl) (fun _ _ _ h => h) (Or.inl ⟨by rfl, ?_⟩) hS ?_
                    rotate_left
                    · intro w hSw
                      go_simp
                      try simp only [hd1, hd2, hd3, hd4]
                      with_reducible rfl
                    try simp only [Act.put, List.setIfInBounds_toArray, List.set_cons_zero, List.set_cons_succ]
                    refine takeD 3 (some 77) (v := ?_) rfl rfl (by kernel_rfl) (by kernel_rfl) (by kernel_rfl) (fun _ _ _ h => h) (Or.inl ⟨by rfl, ?_⟩) hS ?_
                    rotate_left
                    · intro w hSw
                      try go_simp
                      with_reducible rfl
                    try simp only [Act.put, List.setIfInBounds_toArray, List.set_cons_zero, List.set_cons_succ]
                    refine takeD 4 (some 78) (v := ?_) rfl rfl (by kernel_rfl) (by kernel_rfl) (by kernel_rfl) (fun _ _ _ h => h) (Or.inl ⟨by rfl, ?_⟩) hS ?_
                    rotate_left
                    · intro w hSw
                      try go_simp
                      with_reducible rfl
                    try simp only [Act.put, List.setIfInBounds_toArray, List.set_cons_zero, List.set_cons_succ]
                    refine takeD 5 (some 79) (v := ?_) rfl rfl (by kernel_rfl) (by kernel_rfl) (by kernel_rfl) (fun _ _ _ h => h) (Or.inl ⟨by rfl, ?_⟩) hS ?_
                    rotate_left
                    · intro w hSw
                      try go_simp
                      with_reducible rfl
                    try simp only [Act.put, List.setIfInBounds_toArray, List.set_cons_zero, List.set_cons_succ]
                    refine takeD 6 (some 80) (v := ?_) rfl rfl (by kernel_rfl) (by kernel_rfl) (by kernel_rfl) (fun _ _ _ h => h) (Or.inl ⟨by rfl, ?_⟩) hS ?_
                    rotate_left
                    · intro w hSw
                      go_simp
                      try simp only [hd1, hd2, hd3, hd4]
                      with_reducible rfl
                    try simp only [Act.put, List.setIfInBounds_toArray, List.set_cons_zero, List.set_cons_succ]
                    refine takeD 7 (some 81) (v := ?_) rfl rfl (by kernel_rfl) (by kernel_rfl) (by kernel_rfl) (fun _ _ _ h => h) (Or.inl ⟨by rfl, ?_⟩) hS ?_
                    rotate_left
                    · intro w hSw
                      go_simp
                      with_reducible rfl
                    try simp only [Act.put, List.setIfInBounds_toArray, List.set_cons_zero, List.set_cons_succ]
                    refine takeD 8 (some 82) (v := ?_) rfl rfl (by kernel_rfl) (by kernel_rfl) (by kernel_rfl) (fun _ _ _ h => h) (Or.inl ⟨by rfl, ?_⟩) hS ?_
                    rotate_left
                    · intro w hSw
                      try go_simp
                      with_reducible rfl
                    try simp only [Act.put, List.setIfInBounds_toArray, List.set_cons_zero, List.set_cons_succ]
                    refine takeD 9 (some 83) (v := ?_) rfl rfl (by kernel_rfl) (by kernel_rfl) (by kernel_rfl) (fun _ _ _ h => h) (Or.inl ⟨by rfl, ?_⟩) hS ?_
                    rotate_left
                    · intro w hSw
                      go_simp
                      with_reducible rfl
                    try simp only [Act.put, List.setIfInBounds_toArray, List.set_cons_zero, List.set_cons_succ]
                    refine takeD 10 (some 84) (v := ?_) rfl rfl (by kernel_rfl) (by kernel_rfl) (by kernel_rfl) (fun _ _ _ h => h) (Or.inl ⟨by rfl, ?_⟩) hS ?_
                    rotate_left
                    · intro w hSw
                      obtain ⟨⟨k0, k1, k2, k3⟩, k4, k5, k6⟩ := HKV.out _ hSw
                      have k7 := HKJ0.out _ hSw
                      go_simp
                      with_reducible rfl
                    try simp only [Act.put, List.setIfInBounds_toArray, List.set_cons_zero, List.set_cons_succ]
                    refine takeD 11 (some 85) (v := ?_) rfl rfl (by kernel_rfl) (by kernel_rfl) (by kernel_rfl) (fun _ _ _ h => h) (Or.inl ⟨by rfl, ?_⟩) hS ?_
                    rotate_left
                    · intro w hSw
                      try go_simp
                      with_reducible rfl
                    try simp only [Act.put, List.setIfInBounds_toArray, List.set_cons_zero, List.set_cons_succ]
                    refine takeD 12 (some 86) (v := ?_) rfl rfl (by kernel_rfl) (by kernel_rfl) (by kernel_rfl) (fun _ _ _ h => h) (Or.inl ⟨by rfl, ?_⟩) hS ?_
                    rotate_left
                    · intro w hSw
                      go_simp
                      with_reducible rfl
                    try simp only [Act.put, List.setIfInBounds_toArray, List.set_cons_zero, List.set_cons_succ]
                    refine takeD 13 (some 87) (v := ?_) rfl rfl (by kernel_rfl) (by kernel_rfl) (by kernel_rfl) (fun _ _ _ h => h) (Or.inl ⟨by rfl, ?_⟩) hS ?_
                    rotate_left
                    · intro w hSw
                      go_simp
                      with_reducible rfl
                    try simp only [Act.put, List.setIfInBounds_toArray, List.set_cons_zero, List.set_cons_succ]
                    refine takeD 14 (some 88) (v := ?_) rfl rfl (by kernel_rfl) (by kernel_rfl) (by kernel_rfl) (fun _ _ _ h => h) (Or.inl ⟨by rfl, ?_⟩) hS ?_
                    rotate_left
                    · intro w hSw
                      obtain ⟨⟨k0, k1, k2, k3⟩, k4, k5, k6⟩ := HKV.out _ hSw
                      have k7 := HKJ0.out _ hSw
                      go_simp
                      with_reducible rfl
                    try simp only [Act.put, List.setIfInBounds_toArray, List.set_cons_zero, List.set_cons_succ]
                    refine takeD 15 (some 89) (v := ?_) rfl rfl (by kernel_rfl) (by kernel_rfl) (by kernel_rfl) (fun _ _ _ h => h) (Or.inl ⟨by rfl, ?_⟩) hS ?_
                    rotate_left
                    · intro w hSw
                      try go_simp
                      with_reducible rfl
                    try simp only [Act.put, List.setIfInBounds_toArray, List.set_cons_zero, List.set_cons_succ]
                    refine takeD 16 (some 90) (v := ?_) rfl rfl (by kernel_rfl) (by kernel_rfl) (by kernel_rfl) (fun _ _ _ h => h) (Or.inl ⟨by rfl, ?_⟩) hS ?_
                    rotate_left
                    · intro w hSw
                      go_simp
                      with_reducible rfl
                    try simp only [Act.put, List.setIfInBounds_toArray, List.set_cons_zero, List.set_cons_succ]
                    refine takeD 17 (some 91) (v := ?_) rfl rfl (by kernel_rfl) (by kernel_rfl) (by kernel_rfl) (fun _ _ _ h => h) (Or.inl ⟨by rfl, ?_⟩) hS ?_
                    rotate_left
                    · intro w hSw
                      go_simp
                      with_reducible rfl
                    try simp only [Act.put, List.setIfInBounds_toArray, List.set_cons_zero, List.set_cons_succ]
                    refine takeD 18 (some 92) (v := ?_) rfl rfl (by kernel_rfl) (by kernel_rfl) (by kernel_rfl) (fun _ _ _ h => h) (Or.inl ⟨by rfl, ?_⟩) hS ?_
                    rotate_left
                    · intro w hSw
                      obtain ⟨⟨k0, k1, k2, k3⟩, k4, k5, k6⟩ := HKV.out _ hSw
                      have k7 := HKJ0.out _ hSw
                      go_simp
                      with_reducible rfl
                    try simp only [Act.put, List.setIfInBounds_toArray, List.set_cons_zero, List.set_cons_succ]
                    refine takeD 19 (some 93) (v := ?_) rfl rfl (by kernel_rfl) (by kernel_rfl) (by kernel_rfl) (fun _ _ _ h => h) (Or.inl ⟨by rfl, ?_⟩) hS ?_
                    rotate_left
                    · intro w hSw
                      go_simp
                      with_reducible rfl
                    try simp only [Act.put, List.setIfInBounds_toArray, List.set_cons_zero, List.set_cons_succ]
                    refine takeD 20 (some 94) (v := ?_) rfl rfl (by kernel_rfl) (by kernel_rfl) (by kernel_rfl) (fun _ _ _ h => h) (Or.inl ⟨by rfl, ?_⟩) hS ?_
                    rotate_left
                    · intro w hSw
                      go_simp
                      try simp only [hd1, hd2, hd3, hd4]
                      with_reducible rfl
                    try simp only [Act.put, List.setIfInBounds_toArray, List.set_cons_zero, List.set_cons_succ]
                    refine takeD 21 (some 95) (v := ?_) rfl rfl (by kernel_rfl) (by kernel_rfl) (by kernel_rfl) (fun _ _ _ h => h) (Or.inl ⟨by rfl, ?_⟩) hS ?_
                    rotate_left
                    · intro w hSw
                      go_simp
                      with_reducible rfl
                    try simp only [Act.put, List.setIfInBounds_toArray, List.set_cons_zero, List.set_cons_succ]
                    refine wpAnyH_done (by kernel_rfl) ?_ _
                    go_wp2_with fail
                    refine wp_region_held_drew (S := fun Y => Below V1.heap.size V1 Y) mixed hS.drew (fun hS => ?_)
                    generalize Xd.drew = Xe at *
                    refine takeD 0 (some 97) (v := ?_) rfl rfl (by kernel_rfl) (by kernel_rfl) (by kernel_rfl) (fun _ _ _ h => h) (Or.inl ⟨by rfl, ?_⟩) hS ?_
                    rotate_left
                    · intro w hSw
                      try go_simp
                      with_reducible rfl
                    try simp only [Act.put, List.setIfInBounds_toArray, List.set_cons_zero, List.set_cons_succ]
                    refine takeD 1 (some 98) (v := ?_) rfl rfl (by kernel_rfl) (by kernel_rfl) (by kernel_rfl) (fun _ _ _ h => h) (Or.inl ⟨by rfl, ?_⟩) hS ?_
                    rotate_left
                    · intro w hSw
                      go_simp
                      with_reducible rfl
                    try simp only [Act.put, List.setIfInBounds_toArray, List.set_cons_zero, List.set_cons_succ]
                    refine takeD 2 (some 99) (v := ?_) rfl rfl (by kernel_rfl) (by kernel_rfl) (by kernel_rfl) (fun _ _ _ h => h) (Or.inl ⟨by rfl, ?_⟩) hS ?_
                    rotate_left
                    · intro w hSw
                      go_simp
                      with_reducible rfl
                    try simp only [Act.put, List.setIfInBounds_toArray, List.set_cons_zero, List.set_cons_succ]
                    refine takeD 3 (some 100) (v := ?_) rfl rfl (by kernel_rfl) (by kernel_rfl) (by kernel_rfl) (fun _ _ _ h => h) (Or.inl ⟨by rfl, ?_⟩) hS ?_
                    rotate_left
                    · intro w hSw
                      obtain ⟨⟨k0, k1, k2, k3⟩, k4, k5, k6, k7, k8⟩ := HKJ.out _ hSw
                      go_simp
                      with_reducible rfl
                    try simp only [Act.put, List.setIfInBounds_toArray, List.set_cons_zero, List.set_cons_succ]
                    refine takeD 4 (some 101) (v := ?_) rfl rfl (by kernel_rfl) (by kernel_rfl) (by kernel_rfl) (fun _ _ _ h => h) (Or.inl ⟨by rfl, ?_⟩) hS ?_
                    rotate_left
                    · intro w hSw
                      try go_simp
                      with_reducible rfl
                    try simp only [Act.put, List.setIfInBounds_toArray, List.set_cons_zero, List.set_cons_succ]
                    refine takeD 5 (some 102) (v := ?_) rfl rfl (by kernel_rfl) (by kernel_rfl) (by kernel_rfl) (fun _ _ _ h => h) (Or.inl ⟨by rfl, ?_⟩) hS ?_
                    rotate_left
                    · intro w hSw
                      go_simp
                      with_reducible rfl
                    try simp only [Act.put, List.setIfInBounds_toArray, List.set_cons_zero, List.set_cons_succ]
                    refine takeD 6 (some 103) (v := ?_) rfl rfl (by kernel_rfl) (by kernel_rfl) (by kernel_rfl) (fun _ _ _ h => h) (Or.inl ⟨by rfl, ?_⟩) hS ?_
                    rotate_left
                    · intro w hSw
                      go_simp
                      with_reducible rfl
                    try simp only [Act.put, List.setIfInBounds_toArray, List.set_cons_zero, List.set_cons_succ]
                    refine takeD 7 (some 104) (v := ?_) rfl rfl (by kernel_rfl) (by kernel_rfl) (by kernel_rfl) (fun _ _ _ h => h) (Or.inl ⟨by rfl, ?_⟩) hS ?_
                    rotate_left
                    · intro w hSw
                      obtain ⟨⟨k0, k1, k2, k3⟩, k4, k5, k6, k7, k8⟩ := HKJ.out _ hSw
                      go_simp
                      with_reducible rfl
                    try simp only [Act.put, List.setIfInBounds_toArray, List.set_cons_zero, List.set_cons_succ]
                    refine takeD 8 (some 105) (v := ?_) rfl rfl (by kernel_rfl) (by kernel_rfl) (by kernel_rfl) (fun _ _ _ h => h) (Or.inl ⟨by rfl, ?_⟩) hS ?_
                    rotate_left
                    · intro w hSw
                      go_simp
                      with_reducible rfl
                    try simp only [Act.put, List.setIfInBounds_toArray, List.set_cons_zero, List.set_cons_succ]
                    refine takeD 9 (some 106) (v := ?_) rfl rfl (by kernel_rfl) (by kernel_rfl) (by kernel_rfl) (fun _ _ _ h => h) (Or.inl ⟨by rfl, ?_⟩) hS ?_
                    rotate_left
                    · intro w hSw
                      obtain ⟨⟨k0, k1, k2, k3⟩, k4, k5, k6, k7, k8⟩ := HKJ.out _ hSw
                      go_simp
                      with_reducible rfl
                    try simp only [Act.put, List.setIfInBounds_toArray, List.set_cons_zero, List.set_cons_succ]
                    refine takeD 10 (some 107) (v := ?_) rfl rfl (by kernel_rfl) (by kernel_rfl) (by kernel_rfl) (fun _ _ _ h => h) (Or.inl ⟨by rfl, ?_⟩) hS ?_
                    rotate_left
                    · intro w hSw
                      go_simp
                      with_reducible rfl
                    try simp only [Act.put, List.setIfInBounds_toArray, List.set_cons_zero, List.set_cons_succ]
                    refine takeD 11 (some 108) (v := ?_) rfl rfl (by kernel_rfl) (by kernel_rfl) (by kernel_rfl) (fun _ _ _ h => h) (Or.inl ⟨by rfl, ?_⟩) hS ?_
                    rotate_left
                    · intro w hSw
                      obtain ⟨⟨k0, k1, k2, k3⟩, k4, k5, k6, k7, k8⟩ := HKJ.out _ hSw
                      go_simp
                      with_reducible rfl
                    try simp only [Act.put, List.setIfInBounds_toArray, List.set_cons_zero, List.set_cons_succ]
                    refine takeD 12 (some 109) (v := ?_) rfl rfl (by kernel_rfl) (by kernel_rfl) (by kernel_rfl) (fun _ _ _ h => h) (Or.inl ⟨by rfl, ?_⟩) hS ?_
                    rotate_left
                    · intro w hSw
                      try go_simp
                      with_reducible rfl
                    try simp only [Act.put, List.setIfInBounds_toArray, List.set_cons_zero, List.set_cons_succ]
                    refine takeD 13 (some 110) (v := ?_) rfl rfl (by kernel_rfl) (by kernel_rfl) (by kernel_rfl) (fun _ _ _ h => h) (Or.inl ⟨by rfl, ?_⟩) hS ?_
                    rotate_left
                    · intro w hSw
                      go_simp
                      with_reducible rfl
                    try simp only [Act.put, List.setIfInBounds_toArray, List.set_cons_zero, List.set_cons_succ]
                    refine takeD 14 (some 111) (v := ?_) rfl rfl (by kernel_rfl) (by kernel_rfl) (by kernel_rfl) (fun _ _ _ h => h) (Or.inl ⟨by rfl, ?_⟩) hS ?_
                    rotate_left
                    · intro w hSw
                      go_simp
                      with_reducible rfl
                    try simp only [Act.put, List.setIfInBounds_toArray, List.set_cons_zero, List.set_cons_succ]
                    refine takeD 15 (some 112) (v := ?_) rfl rfl (by kernel_rfl) (by kernel_rfl) (by kernel_rfl) (fun _ _ _ h => h) (Or.inl ⟨by rfl, ?_⟩) hS ?_
                    rotate_left
                    · intro w hSw
                      obtain ⟨⟨k0, k1, k2, k3⟩, k4, k5, k6, k7, k8⟩ := HKJ.out _ hSw
                      go_simp
                      with_reducible rfl
                    try simp only [Act.put, List.setIfInBounds_toArray, List.set_cons_zero, List.set_cons_succ]
                    refine takeD 16 (some 113) (v := ?_) rfl rfl (by kernel_rfl) (by kernel_rfl) (by kernel_rfl) (fun _ _ _ h => h) (Or.inl ⟨by rfl, ?_⟩) hS ?_
                    rotate_left
                    · intro w hSw
                      try go_simp
                      with_reducible rfl
                    try simp only [Act.put, List.setIfInBounds_toArray, List.set_cons_zero, List.set_cons_succ]
                    refine takeD 17 (some 114) (v := ?_) rfl rfl (by kernel_rfl) (by kernel_rfl) (by kernel_rfl) (fun _ _ _ h => h) (Or.inl ⟨by rfl, ?_⟩) hS ?_
                    rotate_left
                    · intro w hSw
                      go_simp
                      with_reducible rfl
                    try simp only [Act.put, List.setIfInBounds_toArray, List.set_cons_zero, List.set_cons_succ]
                    refine takeD 18 (some 115) (v := ?_) rfl rfl (by kernel_rfl) (by kernel_rfl) (by kernel_rfl) (fun _ _ _ h => h) (Or.inl ⟨by rfl, ?_⟩) hS ?_
                    rotate_left
                    · intro w hSw
                      go_simp
                      with_reducible rfl
                    try simp only [Act.put, List.setIfInBounds_toArray, List.set_cons_zero, List.set_cons_succ]
                    refine takeD 19 (some 116) (v := ?_) rfl rfl (by kernel_rfl) (by kernel_rfl) (by kernel_rfl) (fun _ _ _ h => h) (Or.inl ⟨by rfl, ?_⟩) hS ?_
                    rotate_left
                    · intro w hSw
                      obtain ⟨⟨k0, k1, k2, k3⟩, k4, k5, k6, k7, k8⟩ := HKJ.out _ hSw
                      go_simp
                      with_reducible rfl
                    try simp only [Act.put, List.setIfInBounds_toArray, List.set_cons_zero, List.set_cons_succ]
                    refine takeD 20 (some 117) (v := ?_) rfl rfl (by kernel_rfl) (by kernel_rfl) (by kernel_rfl) (fun _ _ _ h => h) (Or.inl ⟨by rfl, ?_⟩) hS ?_
                    rotate_left
                    · intro w hSw
                      go_simp
                      with_reducible rfl
                    try simp only [Act.put, List.setIfInBounds_toArray, List.set_cons_zero, List.set_cons_succ]
                    refine takeD 21 (some 118) (v := ?_) rfl rfl (by kernel_rfl) (by kernel_rfl) (by kernel_rfl) (fun _ _ _ h => h) (Or.inl ⟨by rfl, ?_⟩) hS ?_
                    rotate_left
                    · intro w hSw
                      obtain ⟨⟨k0, k1, k2, k3⟩, k4, k5, k6, k7, k8⟩ := HKJ.out _ hSw
                      go_simp
                      with_reducible rfl
                    try simp only [Act.put, List.setIfInBounds_toArray, List.set_cons_zero, List.set_cons_succ]
                    refine takeD 22 (some 119) (v := ?_) rfl rfl (by kernel_rfl) (by kernel_rfl) (by kernel_rfl) (fun _ _ _ h => h) (Or.inl ⟨by rfl, ?_⟩) hS ?_
                    rotate_left
                    · intro w hSw
                      go_simp
                      with_reducible rfl
                    try simp only [Act.put, List.setIfInBounds_toArray, List.set_cons_zero, List.set_cons_succ]
                    refine takeD 23 (some 120) (v := ?_) rfl rfl (by kernel_rfl) (by kernel_rfl) (by kernel_rfl) (fun _ _ _ h => h) (Or.inl ⟨by rfl, ?_⟩) hS ?_
                    rotate_left
                    · intro w hSw
                      go_simp
                      with_reducible rfl
                    try simp only [Act.put, List.setIfInBounds_toArray, List.set_cons_zero, List.set_cons_succ]
                    refine takeD 24 (some 121) (v := ?_) rfl rfl (by kernel_rfl) (by kernel_rfl) (by kernel_rfl) (fun _ _ _ h => h) (Or.inl ⟨by rfl, ?_⟩) hS ?_
                    rotate_left
                    · intro w hSw
                      obtain ⟨⟨k0, k1, k2, k3⟩, k4, k5, k6, k7, k8⟩ := HKJ.out _ hSw
                      go_simp
                      with_reducible rfl
                    try simp only [Act.put, List.setIfInBounds_toArray, List.set_cons_zero, List.set_cons_succ]
                    refine takeD 25 (some 122) (v := ?_) rfl rfl (by kernel_rfl) (by kernel_rfl) (by kernel_rfl) (fun _ _ _ h => h) (Or.inl ⟨by rfl, ?_⟩) hS ?_
                    rotate_left
                    · intro w hSw
                      go_simp
                      with_reducible rfl
                    try simp only [Act.put, List.setIfInBounds_toArray, List.set_cons_zero, List.set_cons_succ]
                    refine callD 26 (by kernel_rfl) rfl (fun K hK => ?_)
                    rw [if_pos (by rfl)]
                    go_simp
                    rw [show (if rn < s3 then rn else s3) = min s3 rn from by split <;> omega]
                    refine (HRC.out _ hS).mono ?_
                    rintro e Y ⟨rfl, bY⟩
                    have hY := hS.trans (bY.mono hS.size)
                    refine hK.out _ _ hY (fun _ => ?_)
                    clear hK K
                    try simp only [Act.put, List.setIfInBounds_toArray, List.set_cons_zero, List.set_cons_succ]
                    refine takeD 27 (some 96) (v := ?_) rfl rfl (by kernel_rfl) (by kernel_rfl) (by kernel_rfl) (fun _ _ _ h => h) (Or.inl ⟨by rfl, ?_⟩) hY ?_
                    rotate_left
                    · intro w hSw
                      try go_simp
                      with_reducible rfl
                    try simp only [Act.put, List.setIfInBounds_toArray, List.set_cons_zero, List.set_cons_succ]
                    refine takeD 28 (some 124) (v := ?_) rfl rfl (by kernel_rfl) (by kernel_rfl) (by kernel_rfl) (fun _ _ _ h => h) (Or.inl ⟨by rfl, ?_⟩) hY ?_
                    rotate_left
                    · intro w hSw
                      go_simp
                      with_reducible rfl
                    try simp only [Act.put, List.setIfInBounds_toArray, List.set_cons_zero, List.set_cons_succ]
                    refine takeD 29 (some 125) (v := ?_) rfl rfl (by kernel_rfl) (by kernel_rfl) (by kernel_rfl) (fun _ _ _ h => h) (Or.inl ⟨by rfl, ?_⟩) hY ?_
                    rotate_left
                    · intro w hSw
                      go_simp
                      with_reducible rfl
                    try simp only [Act.put, List.setIfInBounds_toArray, List.set_cons_zero, List.set_cons_succ]
                    refine takeD 30 (some 16) (v := ?_) rfl rfl (by kernel_rfl) (by kernel_rfl) (by kernel_rfl) (fun _ _ _ h => h) (Or.inl ⟨by rfl, ?_⟩) hY ?_
                    rotate_left
                    · intro w hSw
                      try go_simp
                      with_reducible rfl
                    try simp only [Act.put, List.setIfInBounds_toArray, List.set_cons_zero, List.set_cons_succ]
                    refine takeD 31 (some 17) (v := ?_) rfl rfl (by kernel_rfl) (by kernel_rfl) (by kernel_rfl) (fun _ _ _ h => h) (Or.inl ⟨by rfl, ?_⟩) hY ?_
                    rotate_left
                    · intro w hSw
                      try go_simp
                      with_reducible rfl
                    try simp only [Act.put, List.setIfInBounds_toArray, List.set_cons_zero, List.set_cons_succ]
                    refine wpAnyH_done (by kernel_rfl) ?_ _
                    have hYW : Below W1.heap.size W1 Y := hVW.trans (hY.mono hVW.size)
                    by_cases hbig : 65536 < RV
                    · have HF : Hid (R = none) := HSTOP.out (by simp [within]; omega)
                      obtain ⟨r0, _, hBX⟩ := HX.out Y hYW
                      obtain ⟨z0, z1, z2, z3⟩ := cells4 r0
                      have f0 : ∀ j, World.frozen? Y ⟨w.heap.size, j, none⟩ = false := fun j => frozen_block r0
                      go_wp2
                      refine bodyPost_ret (results_row_tmp rfl _ _ w.heap.size 24 _ (0, 0) _ rfl (put4 r0 _ _ _ _) Try.underlying24 rfl sizeSpot) rfl ?_
                      exact ⟨by rw [HF.out]; rfl, below4 hBX (Nat.le_refl _) ..⟩
                    · have hwi : within RV = true := (within_iff RV).2 ⟨hRV0, by omega⟩
                      have HG := HNEXT.out hwi
                      go_wp2
                      go_roundw
                      case rel => exact ⟨f, j + 1, RV, g, rfl, rfl, by go_num, hwi, by omega, by omega, HG, hYW⟩
                      case measure => simp [intOf]; omega
            · obtain rfl : k = M.length := by omega
              have HF : Hid (R = some (q, g)) := by
                show R = _
                rw [← hgo]
                cases f with
                | zero => rfl
                | succ f => rw [goM, if_neg (by omega)]
              have gB := HB0.out wr hB
              obtain ⟨r0, _, hBX⟩ := HX.out wr hB
              obtain ⟨z0, z1, z2, z3⟩ := cells4 r0
              have f0 : ∀ j, wr.frozen? ⟨w.heap.size, j, none⟩ = false := fun j => frozen_block r0
              clear hgo
              go_wp2
              refine bodyPost_ret (results_row_tmp rfl _ _ w.heap.size 24 _ (0, 0) _ rfl (put4 r0 _ _ _ _) Try.underlying24 rfl sizeSpot) rfl ?_
              exact ⟨by rw [HF.out]; rfl, below4 hBX (Nat.le_refl _) ..⟩
end Go.Proofs.Ytiadcpbaopafgaa
