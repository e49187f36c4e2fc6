/-
  PROVED HERE: the document's own Invert and Recover: what they return; nothing that lay before is turned.
-/
import Derived.Test.YtiadcpbaopafgaaInv
import Derived.Test.YtiadcpbaopafgaaRefR
namespace Go.Proofs.Ytiadcpbaopafgaa
open Go.RowKit

theorem invL_range (l : List Rng) : invL l = (List.range l.length).map (invR l) := by
  unfold invL
  rw [show (fun i : Fin l.length => invR l i.val) = (invR l) ∘ (fun i : Fin l.length => i.val) from rfl, ← List.map_map]
  congr 1
  apply List.ext_getElem
  · simp
  · intro i h1 h2
    simp

set_option maxRecDepth 100000 in
set_option maxHeartbeats 4000000 in
theorem refinvert_calls (a : Option Addr) (len cap : Nat) (l : List Rng) (w : World) (hl : Rngs w a len l) (hz : len ≤ 140737488355328) :
    Calls Try.prog 15 #[.slice a len cap] w fun e w' => ∃ v, e = .returned (.tuple #[v, .int .i64 (invE l)]) ∧ w'.ownsRow w.heap.size 60 3 v (inv l).length (flatR (inv l)) ∧ Below w.heap.size w w' := by
  have c1 := refright_calls a len cap l w hl hz
  cases hr : right l with
  | false =>
    rw [show inv l = [] from by unfold inv; rw [if_neg (by rw [hr]; simp)], show invE l = 4 from by unfold invE; rw [if_neg (by rw [hr]; simp)]]
    rw [hr] at c1
    go_enter Try.func15, Try.ntmps15
    go_wp2_with fail
    refine c1.mono ?_
    rintro e X ⟨rfl, hX⟩
    go_wp2
    go_ret2
    exact ⟨_, rfl, ⟨rfl, .inl ⟨rfl, rfl⟩⟩, hX⟩
  | true =>
    rw [hr] at c1
    have hlen : len ≤ 4 := by have := (right_len hr).1; rw [hl.1] at this; exact this
    obtain ⟨L2, hL2⟩ : ∃ L2, inv l = L2 := ⟨_, rfl⟩
    obtain ⟨E2, hE2⟩ : ∃ E2, invE l = E2 := ⟨_, rfl⟩
    have HL2 : Hid (L2 = if right (invL l) = true then invL l else []) := by
      show L2 = _
      rw [← hL2]
      unfold inv
      rw [hr]
      simp only [true_and]
    have HE2 : Hid (E2 = if right (invL l) = true then 0 else 4) := by
      show E2 = _
      rw [← hE2]
      unfold invE
      rw [hr]
      simp only [true_and]
    rw [hL2, hE2]
    clear hL2 hE2
    have HINV : Hid ((List.range len).map (invR l) = invL l ∧ (invL l).length = len) := by
      obtain rfl := hl.1
      exact ⟨(invL_range l).symm, by unfold invL; simp⟩
    have HR2 : Hid (∀ (X : World) (v : Value), X.ownsRow w.heap.size 60 3 v len (flatR (invL l)) → ∃ a2 cap2, v = .slice a2 len cap2 ∧ Calls Try.prog 12 #[.slice a2 len cap2] X fun e w' => e = .returned (.bool (right (invL l))) ∧ Below X.heap.size X w') := fun X v hv => by
      obtain ⟨a2, cap2, rfl, h2, _⟩ := rngs_of_owns hv
      exact ⟨a2, cap2, rfl, refright_calls a2 len cap2 (invL l) X h2 (by omega)⟩
    go_enter Try.func15, Try.ntmps15
    go_wp2_with fail
    refine c1.mono ?_
    rintro e X ⟨rfl, hX⟩
    clear c1
    go_wp2_with fail
    go_loopw [4, 5] (fun u i w' => ∃ (k : Nat) (v : Value), k ≤ len ∧ i = .int .i64 (k : Int) ∧ v = u ∧ w'.ownsRow w.heap.size 60 3 v k (flatR ((List.range k).map (invR l))) ∧ Below w.heap.size w w') (fun _ i _ => len - (intOf i).toNat)
    case atStart => exact ⟨0, .slice none 0 0, Nat.zero_le _, rfl, rfl, ⟨rfl, .inl ⟨rfl, rfl⟩⟩, hX⟩
    case round =>
      obtain ⟨k, v, hk, rfl, rfl, hrow, hB⟩ := hrel
      by_cases hlt : k < len
      · obtain ⟨b, o, x, rfl, hbl, hx, _, hc⟩ := hl.range hlt
        have hx' := rightL_all (right_len hr).2 x (List.mem_of_getElem? hx)
        have hdk := shift_take hr k
        have HRG : Hid (∀ W, Below w.heap.size w W → W.cell? ⟨b, o + k * 3, none⟩ = some (.int .i64 x.a) ∧ W.cell? ⟨b, o + k * 3 + 1, none⟩ = some (.int .i64 x.o) ∧ W.cell? ⟨b, o + k * 3 + 2, none⟩ = some (.int .i64 x.n)) := hc
        have HSH : Hid (∀ W, Below w.heap.size w W → Calls Try.prog 29 #[.slice (some ⟨b, o, none⟩) len cap, .int .i64 (k : Int)] W fun e w' => e = .returned (.int .i64 (shiftL (l.take k))) ∧ Below W.heap.size W w') := fun W hW => shift_calls _ len cap l k W (hl.below hW) hr hk
        have HN : Hid ((List.range (k + 1)).map (invR l) = (List.range k).map (invR l) ++ [⟨x.a + shiftL (l.take k), x.n, x.o⟩]) := by
          show _ = _
          rw [List.range_succ, List.map_append]
          congr 1
          simp [invR, nth_some hx]
        generalize shiftL (l.take k) = d at *
        obtain ⟨xa, xo, xn⟩ := x
        simp only at *
        have hsum : IntKind.i64.wrap (xa + d) = xa + d := by rw [IntKind.wrap_i64]; omega
        clear hx hc hl HINV HR2
        have hbD : Below w.heap.size w wr.drew := hB.drew
        have hrow' : wr.drew.ownsRow w.heap.size 60 3 v k (flatR ((List.range k).map (invR l))) := hrow
        go_wp2_with fail
        refine wp_region_held_drew (S := fun X => Below w.heap.size w X) mixed hbD (fun hS => ?_)
        refine takeD 0 (some 15) (v := ?_) rfl rfl (by kernel_rfl) (by kernel_rfl) (by kernel_rfl) (fun _ _ _ h => h) (Or.inl ⟨by rfl, ?_⟩) hS ?_
        rotate_left
        · intro w hSw
          try go_simp
          with_reducible rfl
        try simp only [Act.put, List.setIfInBounds_toArray, List.set_cons_zero, List.set_cons_succ]
        refine takeD 1 (some 16) (v := ?_) rfl rfl (by kernel_rfl) (by kernel_rfl) (by kernel_rfl) (fun _ _ _ h => h) (Or.inl ⟨by rfl, ?_⟩) hS ?_
        rotate_left
        · intro w hSw
          try go_simp
          with_reducible rfl
        try simp only [Act.put, List.setIfInBounds_toArray, List.set_cons_zero, List.set_cons_succ]
        refine takeD 2 (some 17) (v := ?_) rfl rfl (by kernel_rfl) (by kernel_rfl) (by kernel_rfl) (fun _ _ _ h => h) (Or.inl ⟨by rfl, ?_⟩) hS ?_
        rotate_left
        · intro w hSw
          try go_simp
          with_reducible rfl
        try simp only [Act.put, List.setIfInBounds_toArray, List.set_cons_zero, List.set_cons_succ]
        refine takeD 3 (some 18) (v := ?_) rfl rfl (by kernel_rfl) (by kernel_rfl) (by kernel_rfl) (fun _ _ _ h => h) (Or.inl ⟨by rfl, ?_⟩) hS ?_
        rotate_left
        · intro w hSw
          go_simp
          with_reducible rfl
        try simp only [Act.put, List.setIfInBounds_toArray, List.set_cons_zero, List.set_cons_succ]
        refine takeD 4 (some 19) (v := ?_) rfl rfl (by kernel_rfl) (by kernel_rfl) (by kernel_rfl) (fun _ _ _ h => h) (Or.inl ⟨by rfl, ?_⟩) hS ?_
        rotate_left
        · intro w hSw
          go_simp
          with_reducible rfl
        try simp only [Act.put, List.setIfInBounds_toArray, List.set_cons_zero, List.set_cons_succ]
        refine takeD 5 (some 20) (v := ?_) rfl rfl (by kernel_rfl) (by kernel_rfl) (by kernel_rfl) (fun _ _ _ h => h) (Or.inl ⟨by rfl, ?_⟩) hS ?_
        rotate_left
        · intro w hSw
          obtain ⟨k0, k1, k2⟩ := HRG.out _ hSw
          go_simp
          with_reducible rfl
        try simp only [Act.put, List.setIfInBounds_toArray, List.set_cons_zero, List.set_cons_succ]
        refine takeD 6 (some 21) (v := ?_) rfl rfl (by kernel_rfl) (by kernel_rfl) (by kernel_rfl) (fun _ _ _ h => h) (Or.inl ⟨by rfl, ?_⟩) hS ?_
        rotate_left
        · intro w hSw
          try go_simp
          with_reducible rfl
        try simp only [Act.put, List.setIfInBounds_toArray, List.set_cons_zero, List.set_cons_succ]
        refine takeD 7 (some 22) (v := ?_) rfl rfl (by kernel_rfl) (by kernel_rfl) (by kernel_rfl) (fun _ _ _ h => h) (Or.inl ⟨by rfl, ?_⟩) hS ?_
        rotate_left
        · intro w hSw
          try go_simp
          with_reducible rfl
        try simp only [Act.put, List.setIfInBounds_toArray, List.set_cons_zero, List.set_cons_succ]
        refine takeD 10 (some 25) (v := ?_) rfl rfl (by kernel_rfl) (by kernel_rfl) (by kernel_rfl) (fun _ _ _ h => h) (Or.inl ⟨by rfl, ?_⟩) hS ?_
        rotate_left
        · intro w hSw
          try go_simp
          with_reducible rfl
        try simp only [Act.put, List.setIfInBounds_toArray, List.set_cons_zero, List.set_cons_succ]
        refine takeD 11 (some 26) (v := ?_) rfl rfl (by kernel_rfl) (by kernel_rfl) (by kernel_rfl) (fun _ _ _ h => h) (Or.inl ⟨by rfl, ?_⟩) hS ?_
        rotate_left
        · intro w hSw
          try go_simp
          with_reducible rfl
        try simp only [Act.put, List.setIfInBounds_toArray, List.set_cons_zero, List.set_cons_succ]
        refine takeD 12 (some 27) (v := ?_) rfl rfl (by kernel_rfl) (by kernel_rfl) (by kernel_rfl) (fun _ _ _ h => h) (Or.inl ⟨by rfl, ?_⟩) hS ?_
        rotate_left
        · intro w hSw
          go_simp
          with_reducible rfl
        try simp only [Act.put, List.setIfInBounds_toArray, List.set_cons_zero, List.set_cons_succ]
        refine takeD 13 (some 28) (v := ?_) rfl rfl (by kernel_rfl) (by kernel_rfl) (by kernel_rfl) (fun _ _ _ h => h) (Or.inl ⟨by rfl, ?_⟩) hS ?_
        rotate_left
        · intro w hSw
          go_simp
          with_reducible rfl
        try simp only [Act.put, List.setIfInBounds_toArray, List.set_cons_zero, List.set_cons_succ]
        refine takeD 14 (some 29) (v := ?_) rfl rfl (by kernel_rfl) (by kernel_rfl) (by kernel_rfl) (fun _ _ _ h => h) (Or.inl ⟨by rfl, ?_⟩) hS ?_
        rotate_left
        · intro w hSw
          obtain ⟨k0, k1, k2⟩ := HRG.out _ hSw
          go_simp
          with_reducible rfl
        try simp only [Act.put, List.setIfInBounds_toArray, List.set_cons_zero, List.set_cons_succ]
        refine takeD 15 (some 30) (v := ?_) rfl rfl (by kernel_rfl) (by kernel_rfl) (by kernel_rfl) (fun _ _ _ h => h) (Or.inl ⟨by rfl, ?_⟩) hS ?_
        rotate_left
        · intro w hSw
          try go_simp
          with_reducible rfl
        try simp only [Act.put, List.setIfInBounds_toArray, List.set_cons_zero, List.set_cons_succ]
        refine takeD 16 (some 31) (v := ?_) rfl rfl (by kernel_rfl) (by kernel_rfl) (by kernel_rfl) (fun _ _ _ h => h) (Or.inl ⟨by rfl, ?_⟩) hS ?_
        rotate_left
        · intro w hSw
          try go_simp
          with_reducible rfl
        try simp only [Act.put, List.setIfInBounds_toArray, List.set_cons_zero, List.set_cons_succ]
        refine takeD 17 (some 32) (v := ?_) rfl rfl (by kernel_rfl) (by kernel_rfl) (by kernel_rfl) (fun _ _ _ h => h) (Or.inl ⟨by rfl, ?_⟩) hS ?_
        rotate_left
        · intro w hSw
          go_simp
          with_reducible rfl
        try simp only [Act.put, List.setIfInBounds_toArray, List.set_cons_zero, List.set_cons_succ]
        refine takeD 18 (some 33) (v := ?_) rfl rfl (by kernel_rfl) (by kernel_rfl) (by kernel_rfl) (fun _ _ _ h => h) (Or.inl ⟨by rfl, ?_⟩) hS ?_
        rotate_left
        · intro w hSw
          go_simp
          with_reducible rfl
        try simp only [Act.put, List.setIfInBounds_toArray, List.set_cons_zero, List.set_cons_succ]
        refine takeD 19 (some 34) (v := ?_) rfl rfl (by kernel_rfl) (by kernel_rfl) (by kernel_rfl) (fun _ _ _ h => h) (Or.inl ⟨by rfl, ?_⟩) hS ?_
        rotate_left
        · intro w hSw
          obtain ⟨k0, k1, k2⟩ := HRG.out _ hSw
          go_simp
          with_reducible rfl
        try simp only [Act.put, List.setIfInBounds_toArray, List.set_cons_zero, List.set_cons_succ]
        refine callD 8 (by kernel_rfl) rfl (fun K hK => ?_)
        rw [if_pos (by rfl)]
        go_simp
        refine (HSH.out _ hS).mono ?_
        rintro e Y1 ⟨rfl, b1⟩
        have hS1 := hS.trans (b1.mono hS.size)
        have hO1 := owns_keep hrow' (fun g hg => b1.block _ (owns_block hrow' hg).2.1)
        refine hK.out _ _ hS1 (fun _ => ?_)
        clear hK K
        try simp only [Act.put, List.setIfInBounds_toArray, List.set_cons_zero, List.set_cons_succ]
        refine takeD 9 (some 24) (v := ?_) rfl rfl (by kernel_rfl) (by kernel_rfl) (by kernel_rfl) (fun _ _ _ h => h) (Or.inl ⟨by rfl, ?_⟩) hS1 ?_
        rotate_left
        · intro w hSw
          go_simp
          with_reducible rfl
        try simp only [Act.put, List.setIfInBounds_toArray, List.set_cons_zero, List.set_cons_succ]
        refine takeD 20 (some 35) (v := ?_) rfl rfl (by kernel_rfl) (by kernel_rfl) (by kernel_rfl) (fun _ _ _ h => h) (Or.inl ⟨by rfl, ?_⟩) hS1 ?_
        rotate_left
        · intro w hSw
          go_simp
          with_reducible rfl
        try simp only [Act.put, List.setIfInBounds_toArray, List.set_cons_zero, List.set_cons_succ]
        refine callD 21 (by kernel_rfl) rfl (fun K hK => ?_)
        rw [if_pos (by rfl)]
        go_simp
        obtain ⟨Y2, hY2⟩ : ∃ Y, Y1.alloc (.cells #[.int .i64 (xa + d), .int .i64 xn, .int .i64 xo] 60) = Y := ⟨_, rfl⟩
        rw [hY2]
        have hS2 : Below w.heap.size w Y2 := by rw [← hY2]; exact hS1.alloc hS1.size _
        have mE : Y2.heap[Y1.heap.size]? = some (.cells #[.int .i64 (xa + d), .int .i64 xn, .int .i64 xo] 60 (0, 0)) := by rw [← hY2]; exact World.alloc_heap_new Y1 _
        have hO2 := owns_keep (W' := Y2) hO1 (fun g hg => by rw [← hY2]; exact Below.heap_alloc _ _ _ (owns_block hO1 hg).2.1)
        clear hY2
        refine hK.out _ _ hS2 (fun _ => ?_)
        clear hK K
        try simp only [Act.put, List.setIfInBounds_toArray, List.set_cons_zero, List.set_cons_succ]
        refine callD 22 (by kernel_rfl) rfl (fun K hK => ?_)
        rw [if_pos (by rfl)]
        obtain ⟨v2, Y3, hrun, hrow2, hgr, _⟩ := rng_append1 _ v _ _ Y2 hO2 hS2.size ⟨xa + d, xn, xo⟩ Y1.heap.size 1 mE (by omega)
        refine wp_app_run _ _ 22 rfl _ _ _ _ rfl rfl hrun ?_
        have hS3 : Below w.heap.size w Y3 := hS2.grown hgr hS2.size (fun k e => (owns_block hO2 e).1)
        refine hK.out _ _ hS3 (fun _ => ?_)
        clear hK K
        try simp only [Act.put, List.setIfInBounds_toArray]
        refine takeD 23 (some 4) (v := ?_) rfl rfl (by kernel_rfl) (by kernel_rfl) (by kernel_rfl) (fun _ _ _ h => h) (Or.inl ⟨by rfl, ?_⟩) hS3 ?_
        rotate_left
        · intro w hSw
          try go_simp
          with_reducible rfl
        try simp only [Act.put]
        refine wpAnyH_done (by kernel_rfl) ?_ _
        obtain ⟨g2, cap2, rfl⟩ := ownsRow_succ hrow2
        have HROW : Hid _ := hrow2
        clear hrow2
        go_wp2
        go_roundw
        case rel => exact ⟨k + 1, _, by omega, by go_num, rfl, by rw [HN.out]; exact HROW.out, hS3⟩
        case measure => simp [intOf]; omega
      · obtain rfl : k = len := by omega
        obtain ⟨hi1, hi2⟩ := HINV.out
        rw [hi1] at hrow
        obtain ⟨a2, cap2, rfl, c2⟩ := HR2.out wr _ hrow
        have HLI : Hid ((invL l).length = k) := hi2
        have HROW : Hid (∀ Y, Below wr.heap.size wr Y → Y.ownsRow w.heap.size 60 3 (.slice a2 k cap2) k (flatR (invL l)) ∧ Below w.heap.size w Y) := fun Y hY => ⟨owns_keep hrow (fun g hg => hY.block _ (owns_block hrow hg).2.1), hB.trans (hY.mono hB.size)⟩
        clear hrow HINV HR2 hi1 hi2
        generalize right (invL l) = q at *
        cases q with
        | false =>
          go_wp2_with fail
          refine c2.mono ?_
          rintro e Y ⟨rfl, hY⟩
          obtain ⟨y1, y2⟩ := HROW.out Y hY
          go_wp2
          go_ret2
          rw [HL2.out, HE2.out]
          exact ⟨_, rfl, ⟨rfl, .inl ⟨rfl, rfl⟩⟩, y2⟩
        | true =>
          go_wp2_with fail
          refine c2.mono ?_
          rintro e Y ⟨rfl, hY⟩
          obtain ⟨y1, y2⟩ := HROW.out Y hY
          have Y1 : Hid _ := y1
          clear y1
          go_wp2
          go_ret2
          rw [HL2.out, HE2.out, if_pos trivial, if_pos trivial, HLI.out]
          exact ⟨_, rfl, Y1.out, y2⟩
end Go.Proofs.Ytiadcpbaopafgaa
