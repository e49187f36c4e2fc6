/-
  PROVED HERE: the document's own Parse at every text: the tree, the place, the error; nothing that lay before is turned.
-/
import Derived.Test.YtafidabopcgkhaaDoorRAlt
import Derived.Test.YtafidabopcgkhaaDoorParse
namespace Go.Proofs.YtafidabopcgkhaaDoor
open Go.RowKit

theorem tree_none {s : ByteArray} (h : outT s = none) : outTree s = emptyT := by
  unfold outTree
  rw [h]
  rfl
theorem tree_some {s : ByteArray} {t : DataW Unit} (h : outT s = some t) : outTree s = t := by
  unfold outTree
  rw [h]
  rfl
/-- What the document's alt leaves for Parse, of the whole text. -/
def RWh (g : Nat) (s : ByteArray) (lo : Nat) (e : Ending) (w' : World) : Prop :=
  ∃ k nm a ln cp j f, PAt w' g s j f ∧ Pl s j ∧ e = .returned (.agg #[.int .i64 k, .string nm, .slice a ln cp]) ∧
    (((f = true ∨ j < s.size) ∧ outT s = none ∧ outE s = 4 ∧ outN s = j) ∨
     (f = false ∧ j = s.size ∧ ∃ t, readT (bts s) = some t ∧ ExA (fun b => lo ≤ b) w' 200 t (.agg #[.int .i64 k, .string nm, .slice a ln cp]) ∧ named 200 t ∧ cnt 200 t ≤ 1152921504606846976))
theorem RSaid.whole {g : Nat} {s : ByteArray} {lo i : Nat} {e : Ending} {w' : World} (hs : ¬ 200 < s.size) (h0 : skipL (bts s) ≠ []) (h : RSaid g s lo i (altN (s.size + 1) (bts s)) e w') : RWh g s lo e w' := by
  obtain ⟨j, t, m, ⟨k, nm, a, ln, cp⟩, f, hP, hPl, hij, hG, h99, hX, rfl, hcase⟩ := h
  refine ⟨k, nm, a, ln, cp, j, f, hP, hPl, rfl, ?_⟩
  have hl := bts_length s
  have none_of : ∀ o q, altN (s.size + 1) (bts s) = (o, q) → q = left s j → (o = none ∨ q ≠ []) → outT s = none ∧ outE s = 4 ∧ outN s = j := fun o q h1 h2 h3 => by
    obtain ⟨o1, o2, o3⟩ := out_none hs (read_none h0 (by rw [hl]; exact h1) h3)
    rw [h1] at o3
    exact ⟨o1, o2, o3.trans (left_inj hPl.1 h2)⟩
  rcases hcase with ⟨h1, h2, h3, _⟩ | ⟨h1, h2, _⟩
  · by_cases hj : j < s.size
    · refine .inl ⟨.inr hj, none_of _ _ h2 rfl (.inr fun e => ?_)⟩
      have := left_length s j
      rw [e, List.length_nil] at this
      omega
    · have hj2 : j = s.size := by have := hPl.1; omega
      rw [hj2, left_end] at h2
      have hb := altN_bound (s.size + 1) (bts s) t [] h2 m
      have hb2 := altN_bound (s.size + 1) (bts s) t [] h2 200
      rw [hl] at hb hb2
      refine .inr ⟨h1, hj2, t, read_of h0 (n := s.size + 1) (by omega) h2, ExA.down m t _ 200 hX (by simp at hb; omega), (altN_named _ _ _ _ h2 (by omega)).1 200, by simp at hb2; omega⟩
  · exact .inl ⟨.inl h1, none_of _ _ h2 rfl (.inl rfl)⟩
set_option maxRecDepth 100000 in
set_option maxHeartbeats 4000000 in
theorem rparse_calls (s : ByteArray) (hs : s.size ≤ 9223372036854775807) (w : World) :
    Calls Tryd.prog 10 #[.string s] w fun e w' => Below w.heap.size w w' ∧ ∃ r, Ex w' 200 (outTree s) (rawV r) ∧ e = .returned (.tuple #[rawV r, .int .i64 (outN s : Int), .int .i64 (outE s)]) := by
  have hmx : Tryd.prog.follows .mixedOrders = true := by kernel_rfl
  by_cases hbig : 200 < s.size
  · obtain ⟨o1, o2, o3⟩ := out_long hbig
    have HO : Hid (outTree s = emptyT ∧ outE s = 2 ∧ outN s = 0) := ⟨tree_none o1, o2, o3⟩
    have HF : Hid (∀ cs, Below w.heap.size w ((w.alloc (.cells #[.int .i64 0, .string ⟨#[]⟩, .slice none 0 0] 24)).setRow w.heap.size cs)) := fun cs => below_setRow ((Below.refl _ w).alloc (Nat.le_refl _) _) (Nat.le_refl _) cs
    have hb : (200 : Int) < (s.size : Int) := by omega
    clear o1 o2 o3
    go_enter Tryd.func10, Tryd.ntmps10
    go_wp2_with (refine wpList_store_row rfl 24 _ _ rfl w.heap.size #[.int .i64 0, .string ⟨#[]⟩, .slice none 0 0] rfl rfl 24 _ (heap_alloc_new w _) sizeExpr rfl (ones3 _ _ _ _ _) ?_)
    refine bodyPost_ret (results_row_tmp2 rfl _ _ w.heap.size 24 #[.int .i64 0, .string ⟨#[]⟩, .slice none 0 0] (0, 0) _ rfl (setRow_heap _ _ _ _ _ _ (heap_alloc_new w _)) Tryd.underlying24 rfl sizeExpr) rfl ?_
    refine ⟨HF.out _, (0, ⟨#[]⟩, none, 0, 0), ?_, by rw [HO.out.2.1, HO.out.2.2]; rfl⟩
    rw [HO.out.1]
    exact emptyT_ex _ 199
  · have hb : ¬ (200 : Int) < (s.size : Int) := by omega
    obtain ⟨w1, hw1⟩ : ∃ w1, w1 = (w.alloc (.cells #[.int .i64 0, .string ⟨#[]⟩, .slice none 0 0] 24)).alloc (.cells #[.string s, .int .i64 0, .bool false] 52) := ⟨_, rfl⟩
    have hB1 : Below w.heap.size w w1 := by rw [hw1]; exact ((Below.refl _ w).alloc (Nat.le_refl _) _).alloc (by simp) _
    have hs1 : w1.heap.size = w.heap.size + 1 + 1 := by rw [hw1]; simp
    have hP1 : PAt w1 (w.heap.size + 1) s 0 false := by
      unfold PAt
      have := heap_alloc_new (w.alloc (.cells #[.int .i64 0, .string ⟨#[]⟩, .slice none 0 0] 24)) (.cells #[.string s, .int .i64 0, .bool false] 52)
      rw [World.size_alloc] at this
      rw [hw1]
      exact this
    have hz1 : w1.heap[w.heap.size]? = some (.cells #[.int .i64 0, .string ⟨#[]⟩, .slice none 0 0] 24 (0, 0)) := by rw [hw1, Below.heap_alloc _ _ _ (by simp)]; exact heap_alloc_new w _
    obtain ⟨P2, q2, q3⟩ := Pl.skip (s := s) (i := 0) (Nat.zero_le _)
    rw [left_zero] at q3
    have hA : altN (s.size + 1) (left s (skip s 0)) = altN (s.size + 1) (bts s) := altN_skip _ (by rw [q3, skip_twice])
    have HPK := peek_calls (w.heap.size + 1) s 0 false w1 hP1 (Nat.zero_le _) (by omega)
    have HPK2 : Hid (∀ W j, PAt W (w.heap.size + 1) s j false → Pl s j → Calls Tryd.prog 20 #[.pointer (some ⟨w.heap.size + 1, 0, none⟩)] W fun r w' => r = .returned (.int .u8 (peekC s j false)) ∧ PAt w' (w.heap.size + 1) s j false ∧ Only (w.heap.size + 1) W w') := fun W j h hj => by
      have := peek_calls (w.heap.size + 1) s j false W h hj.1 (by have := hj.1; omega)
      rwa [hj.stay] at this
    have hk0 := peek_nil (s := s) (i := skip s 0) P2.1
    have HW1 : Hid (Below w.heap.size w w1 ∧ w1.heap.size = w.heap.size + 1 + 1 ∧ w1.heap[w.heap.size]? = some (.cells #[.int .i64 0, .string ⟨#[]⟩, .slice none 0 0] 24 (0, 0)) ∧ ¬ 200 < s.size) := ⟨hB1, hs1, hz1, hbig⟩
    have HAL : Hid (∀ W, PAt W (w.heap.size + 1) s (skip s 0) false → Calls Tryd.prog 21 #[.pointer (some ⟨w.heap.size + 1, 0, none⟩)] W fun e W' => Kept (w.heap.size + 1) W W' ∧ RSaid (w.heap.size + 1) s W.heap.size (skip s 0) (altN (s.size + 1) (bts s)) e W') := fun W h => by
      have := RCH.all (w.heap.size + 1) s (by omega) (s.size + 1) W (skip s 0) h P2.1 (by omega)
      rwa [hA] at this
    obtain ⟨i0, hi0⟩ : ∃ i0, skip s 0 = i0 := ⟨_, rfl⟩
    rw [hi0] at HAL HPK hk0 q3
    clear hB1 hs1 hP1 hz1 P2 q2 hA hi0
    by_cases hnil : skipL (bts s) = []
    · have hpk : peekC s i0 false = 0 := hk0.2 (q3.trans hnil)
      rw [hpk] at HPK
      obtain ⟨o1, o2, o3⟩ := out_some (t := emptyT) hbig (by unfold readT; rw [if_pos hnil]; rfl) emptyT_check
      have HO : Hid (outTree s = emptyT ∧ outE s = 0 ∧ outN s = s.size) := ⟨tree_some o1, o2, o3⟩
      clear o1 o2 o3 hnil hpk hk0 q3 HAL HPK2 hbig
      go_enter Tryd.func10, Tryd.ntmps10
      go_wp2_with fail
      rw [← hw1]
      clear hw1
      refine HPK.mono ?_
      clear HPK
      rintro e2 W2 ⟨rfl, hP2, hO2⟩
      obtain ⟨hB1, hs1, hz1, hbig⟩ := HW1.out
      have HZ : Hid (W2.heap[w.heap.size]? = some (.cells #[.int .i64 0, .string ⟨#[]⟩, .slice none 0 0] 24 (0, 0))) := (hO2.block _ (by omega)).trans hz1
      have HF : Hid (∀ cs, Below w.heap.size w (W2.setRow w.heap.size cs)) := fun cs => below_setRow (Below.of_kept hB1 hO2.kept (by omega) (by omega)) (Nat.le_refl _) cs
      clear hB1 hs1 hz1 hP2 hO2 HW1
      go_wp2_with (refine wpList_store_row rfl 24 _ _ rfl w.heap.size #[.int .i64 0, .string ⟨#[]⟩, .slice none 0 0] rfl rfl 24 _ HZ.out sizeExpr rfl (ones3 _ _ _ _ _) ?_)
      refine bodyPost_ret (results_row_tmp2 rfl _ _ w.heap.size 24 #[.int .i64 0, .string ⟨#[]⟩, .slice none 0 0] (0, 0) _ rfl (setRow_heap _ _ _ _ _ _ HZ.out) Tryd.underlying24 rfl sizeExpr) rfl ?_
      refine ⟨HF.out _, (0, ⟨#[]⟩, none, 0, 0), ?_, by rw [HO.out.2.1, HO.out.2.2]; rfl⟩
      rw [HO.out.1]
      exact emptyT_ex _ 199
    · have hpk : peekC s i0 false ≠ 0 := fun e => hnil (q3.symm.trans (hk0.1 e))
      have HN : Hid (skipL (bts s) ≠ []) := hnil
      generalize peekC s i0 false = C at *
      have b0 : (C == 0) = false := by rw [beq_eq_false_iff_ne]; exact hpk
      clear hnil hpk hk0 q3 hbig
      go_enter Tryd.func10, Tryd.ntmps10
      go_wp2_with fail
      rw [← hw1]
      clear hw1
      refine HPK.mono ?_
      clear HPK
      rintro e2 W2 ⟨rfl, hP2, hO2⟩
      obtain ⟨hB1, hs1, hz1, hbig⟩ := HW1.out
      have HAL2 := HAL.out W2 hP2
      have hs2 : W2.heap.size = w.heap.size + 1 + 1 := by rw [hO2.size, hs1]
      have HW2 : Hid (Below w.heap.size w W2 ∧ W2.heap.size = w.heap.size + 1 + 1 ∧ W2.heap[w.heap.size]? = some (.cells #[.int .i64 0, .string ⟨#[]⟩, .slice none 0 0] 24 (0, 0)) ∧ ¬ 200 < s.size) := ⟨Below.of_kept hB1 hO2.kept (by omega) (by omega), hs2, (hO2.block _ (by omega)).trans hz1, hbig⟩
      clear hB1 hs1 hz1 hbig hP2 hO2 HW1 HAL hs2
      go_wp2_with fail
      refine HAL2.mono ?_
      clear HAL2 b0
      rintro e3 W3 ⟨hK3, hE⟩
      obtain ⟨hB2, hs2, hz2, hbig⟩ := HW2.out
      obtain ⟨k, nm, a, ln, cp, j, f, hP3, hPl, rfl, hcase⟩ := hE.whole hbig HN.out
      obtain ⟨W4, hW4⟩ : ∃ W4, W4 = W3.alloc (.cells #[.int .i64 k, .string nm, .slice a ln cp] 24) := ⟨_, rfl⟩
      have hs3 := hK3.size
      have hP4 : PAt W4 (w.heap.size + 1) s j f := by rw [hW4]; exact hP3.alloc _
      have hB4 : Below w.heap.size w W4 := by rw [hW4]; exact (Below.of_kept hB2 hK3 (by omega) (by omega)).alloc (by omega) _
      have hz4 : W4.heap[w.heap.size]? = some (.cells #[.int .i64 0, .string ⟨#[]⟩, .slice none 0 0] 24 (0, 0)) := by rw [hW4, Below.heap_alloc W3 _ _ (by omega), hK3.block _ (by omega) (by omega)]; exact hz2
      have hev : W4.heap[W3.heap.size]? = some (.cells #[.int .i64 k, .string nm, .slice a ln cp] 24 (0, 0)) := by rw [hW4]; exact heap_alloc_new W3 _
      have hs4 : W4.heap.size = W3.heap.size + 1 := by rw [hW4]; simp
      obtain ⟨g0, g1, g2, g3, g4⟩ := hP4.cells
      have HW4 : Hid (Below w.heap.size w W4 ∧ W4.heap[w.heap.size]? = some (.cells #[.int .i64 0, .string ⟨#[]⟩, .slice none 0 0] 24 (0, 0)) ∧ W4.heap[W3.heap.size]? = some (.cells #[.int .i64 k, .string nm, .slice a ln cp] 24 (0, 0)) ∧ w.heap.size + 1 < W3.heap.size ∧ W4.heap.size = W3.heap.size + 1 ∧ ¬ 200 < s.size) := ⟨hB4, hz4, hev, by omega, hs4, hbig⟩
      have HP4 : Hid (PAt W4 (w.heap.size + 1) s j f ∧ Pl s j) := ⟨hP4, hPl⟩
      rcases hcase with ⟨hfj, o1, o2, o3⟩ | ⟨rfl, hjs, t, hrd, hX, hnm, hct⟩
      · have HO : Hid (outTree s = emptyT ∧ outE s = 4 ∧ outN s = j) := ⟨tree_none o1, o2, o3⟩
        cases f with
        | true =>
          have HZ : Hid (W4.drew.heap[w.heap.size]? = some (.cells #[.int .i64 0, .string ⟨#[]⟩, .slice none 0 0] 24 (0, 0))) := hz4
          have hBd : Below w.heap.size w W4.drew := ⟨hB4.os, hB4.tape, hB4.output, hB4.size, hB4.block⟩
          have HF : Hid (∀ cs, Below w.heap.size w (W4.drew.setRow w.heap.size cs)) := fun cs => below_setRow hBd (Nat.le_refl _) cs
          have HPW : Hid (PAt W4 (w.heap.size + 1) s j true) := hP4
          rw [hW4] at g0 g1 g2 g3 g4
          have HWE : Hid (W4 = W3.alloc (.cells #[.int .i64 k, .string nm, .slice a ln cp] 24)) := hW4
          clear hBd hW4 hP4 hB4 hz4 hev hs4 HW4 HP4 HW2 HPK2 hfj o1 o2 o3 hK3 hE hB2 hs2 hz2 hbig hP3 hPl hs3 HN
          go_wp2_with fail
          rw [← HWE.out]
          refine wp_region_held_drew (S := fun w' => PAt w' (w.heap.size + 1) s j true) hmx (show PAt W4.drew (w.heap.size + 1) s j true from HPW.out) (fun hS => ?_)
          refine takeD 0 (some 31) (v := ?_) rfl rfl (by kernel_rfl) (by kernel_rfl) (by kernel_rfl) (fun _ _ _ h => h) (Or.inl ⟨by rfl, ?_⟩) hS ?_
          rotate_left
          · intro w hSw
            obtain ⟨s0, s1, s2, s3, s4⟩ := PAt.cells hSw
            go_simp
            with_reducible rfl
          try simp only [Act.put, List.setIfInBounds_toArray, List.set_cons_zero, List.set_cons_succ]
          refine takeD 1 (some 32) (v := ?_) rfl rfl (by kernel_rfl) (by kernel_rfl) (by kernel_rfl) (fun _ _ _ h => h) (Or.inl ⟨by rfl, ?_⟩) hS ?_
          rotate_left
          · intro w hSw
            obtain ⟨s0, s1, s2, s3, s4⟩ := PAt.cells hSw
            go_simp
            with_reducible rfl
          try simp only [Act.put, List.setIfInBounds_toArray, List.set_cons_zero, List.set_cons_succ]
          refine takeD 2 (some 33) (v := ?_) rfl rfl (by kernel_rfl) (by kernel_rfl) (by kernel_rfl) (fun _ _ _ h => h) (Or.inl ⟨by rfl, ?_⟩) hS ?_
          rotate_left
          · intro w hSw
            obtain ⟨s0, s1, s2, s3, s4⟩ := PAt.cells hSw
            go_simp
            with_reducible rfl
          try simp only [Act.put, List.setIfInBounds_toArray, List.set_cons_zero, List.set_cons_succ]
          refine takeD 3 (some 34) (v := ?_) rfl rfl (by kernel_rfl) (by kernel_rfl) (by kernel_rfl) (fun _ _ _ h => h) (Or.inl ⟨by rfl, ?_⟩) hS ?_
          rotate_left
          · intro w hSw
            obtain ⟨s0, s1, s2, s3, s4⟩ := PAt.cells hSw
            go_simp
            with_reducible rfl
          try simp only [Act.put, List.setIfInBounds_toArray, List.set_cons_zero, List.set_cons_succ]
          refine takeD 4 (some 35) (v := ?_) rfl rfl (by kernel_rfl) (by kernel_rfl) (by kernel_rfl) (fun _ _ _ h => h) (Or.inl ⟨by rfl, ?_⟩) hS ?_
          rotate_left
          · intro w hSw
            obtain ⟨s0, s1, s2, s3, s4⟩ := PAt.cells hSw
            go_simp
            with_reducible rfl
          try simp only [Act.put, List.setIfInBounds_toArray, List.set_cons_zero, List.set_cons_succ]
          refine callD 5 (by kernel_rfl) rfl (fun K hK => ?_)
          rw [if_pos (by rfl)]
          refine wp_store_row 24 _ _ rfl w.heap.size #[.int .i64 0, .string ⟨#[]⟩, .slice none 0 0] rfl rfl 24 _ HZ.out sizeExpr rfl (ones3 _ _ _ _ _) ?_
          refine hK.out _ _ (PAt.setRow (w := W4.drew) HPW.out _ _ (by omega)) (fun hS2 => ?_)
          clear hK K
          try simp only [Act.put, List.setIfInBounds_toArray]
          refine takeD 6 (some 3) (v := ?_) rfl rfl (by kernel_rfl) (by kernel_rfl) (by kernel_rfl) (fun _ _ _ h => h) (Or.inl ⟨by rfl, ?_⟩) hS2 ?_
          rotate_left
          · intro w hSw
            obtain ⟨s0, s1, s2, s3, s4⟩ := PAt.cells hSw
            go_simp
            with_reducible rfl
          try simp only [Act.put]
          refine takeD 7 (some 4) (v := ?_) rfl rfl (by kernel_rfl) (by kernel_rfl) (by kernel_rfl) (fun _ _ _ h => h) (Or.inl ⟨by rfl, ?_⟩) hS2 ?_
          rotate_left
          · intro w hSw
            obtain ⟨s0, s1, s2, s3, s4⟩ := PAt.cells hSw
            go_simp
            with_reducible rfl
          try simp only [Act.put]
          refine wpAnyH_done (by kernel_rfl) ?_ _
          clear hS hS2
          go_wp2_with fail
          refine bodyPost_ret (results_row_tmp2 rfl _ _ w.heap.size 24 #[.int .i64 0, .string ⟨#[]⟩, .slice none 0 0] (0, 0) _ rfl (setRow_heap _ _ _ _ _ _ HZ.out) Tryd.underlying24 rfl sizeExpr) rfl ?_
          refine ⟨HF.out _, (0, ⟨#[]⟩, none, 0, 0), ?_, by rw [HO.out.2.1, HO.out.2.2]; rfl⟩
          rw [HO.out.1]
          exact emptyT_ex _ 199
        | false =>
          have hjl : j < s.size := by
            rcases hfj with h | h
            · cases h
            · exact h
          have HP5 := HPK2.out W4 j hP4 hPl
          have hpk : peekC s j false ≠ 0 := fun e => by
            have := (peek_nil hPl.1).1 e
            have h2 := left_length s j
            rw [this, List.length_nil] at h2
            omega
          generalize peekC s j false = C at *
          have b0 : (C == 0) = false := by rw [beq_eq_false_iff_ne]; exact hpk
          have b1 : (C != 0) = true := by rw [bne_iff_ne]; exact hpk
          rw [hW4] at g0 g1 g2 g3 g4
          have HWE : Hid (W4 = W3.alloc (.cells #[.int .i64 k, .string nm, .slice a ln cp] 24)) := hW4
          clear hW4 hP4 hB4 hz4 hev hs4 HW2 HPK2 hfj o1 o2 o3 hK3 hE hB2 hs2 hz2 hbig hP3 hPl hs3 HN hpk hjl HP4
          go_wp2_with fail
          rw [← HWE.out]
          refine HP5.mono ?_
          clear HP5 g0 g1 g2 g3 g4
          rintro e5 W5 ⟨rfl, hP5, hO5⟩
          obtain ⟨g0, g1, g2, g3, g4⟩ := hP5.cells
          obtain ⟨hB4, hz4, -, hs3, hs4, -⟩ := HW4.out
          have hz5 : W5.heap[w.heap.size]? = some (.cells #[.int .i64 0, .string ⟨#[]⟩, .slice none 0 0] 24 (0, 0)) := (hO5.block _ (by omega)).trans hz4
          have hB5 : Below w.heap.size w W5 := Below.of_kept hB4 hO5.kept (by omega) (by omega)
          have hBd : Below w.heap.size w W5.drew := ⟨hB5.os, hB5.tape, hB5.output, hB5.size, hB5.block⟩
          have HZ : Hid (W5.drew.heap[w.heap.size]? = some (.cells #[.int .i64 0, .string ⟨#[]⟩, .slice none 0 0] 24 (0, 0))) := hz5
          have HF : Hid (∀ cs, Below w.heap.size w (W5.drew.setRow w.heap.size cs)) := fun cs => below_setRow hBd (Nat.le_refl _) cs
          have HPW : Hid (PAt W5 (w.heap.size + 1) s j false) := hP5
          clear hBd hP5 hO5 hB4 hz4 hs3 hs4 HW4 HWE hz5 hB5
          go_wp2_with fail
          refine wp_region_held_drew (S := fun w' => PAt w' (w.heap.size + 1) s j false) hmx (show PAt W5.drew (w.heap.size + 1) s j false from HPW.out) (fun hS => ?_)
          refine takeD 0 (some 31) (v := ?_) rfl rfl (by kernel_rfl) (by kernel_rfl) (by kernel_rfl) (fun _ _ _ h => h) (Or.inl ⟨by rfl, ?_⟩) hS ?_
          rotate_left
          · intro w hSw
            obtain ⟨s0, s1, s2, s3, s4⟩ := PAt.cells hSw
            go_simp
            with_reducible rfl
          try simp only [Act.put, List.setIfInBounds_toArray, List.set_cons_zero, List.set_cons_succ]
          refine takeD 1 (some 32) (v := ?_) rfl rfl (by kernel_rfl) (by kernel_rfl) (by kernel_rfl) (fun _ _ _ h => h) (Or.inl ⟨by rfl, ?_⟩) hS ?_
          rotate_left
          · intro w hSw
            obtain ⟨s0, s1, s2, s3, s4⟩ := PAt.cells hSw
            go_simp
            with_reducible rfl
          try simp only [Act.put, List.setIfInBounds_toArray, List.set_cons_zero, List.set_cons_succ]
          refine takeD 2 (some 33) (v := ?_) rfl rfl (by kernel_rfl) (by kernel_rfl) (by kernel_rfl) (fun _ _ _ h => h) (Or.inl ⟨by rfl, ?_⟩) hS ?_
          rotate_left
          · intro w hSw
            obtain ⟨s0, s1, s2, s3, s4⟩ := PAt.cells hSw
            go_simp
            with_reducible rfl
          try simp only [Act.put, List.setIfInBounds_toArray, List.set_cons_zero, List.set_cons_succ]
          refine takeD 3 (some 34) (v := ?_) rfl rfl (by kernel_rfl) (by kernel_rfl) (by kernel_rfl) (fun _ _ _ h => h) (Or.inl ⟨by rfl, ?_⟩) hS ?_
          rotate_left
          · intro w hSw
            obtain ⟨s0, s1, s2, s3, s4⟩ := PAt.cells hSw
            go_simp
            with_reducible rfl
          try simp only [Act.put, List.setIfInBounds_toArray, List.set_cons_zero, List.set_cons_succ]
          refine takeD 4 (some 35) (v := ?_) rfl rfl (by kernel_rfl) (by kernel_rfl) (by kernel_rfl) (fun _ _ _ h => h) (Or.inl ⟨by rfl, ?_⟩) hS ?_
          rotate_left
          · intro w hSw
            obtain ⟨s0, s1, s2, s3, s4⟩ := PAt.cells hSw
            go_simp
            with_reducible rfl
          try simp only [Act.put, List.setIfInBounds_toArray, List.set_cons_zero, List.set_cons_succ]
          refine callD 5 (by kernel_rfl) rfl (fun K hK => ?_)
          rw [if_pos (by rfl)]
          refine wp_store_row 24 _ _ rfl w.heap.size #[.int .i64 0, .string ⟨#[]⟩, .slice none 0 0] rfl rfl 24 _ HZ.out sizeExpr rfl (ones3 _ _ _ _ _) ?_
          refine hK.out _ _ (PAt.setRow (w := W5.drew) HPW.out _ _ (by omega)) (fun hS2 => ?_)
          clear hK K
          try simp only [Act.put, List.setIfInBounds_toArray]
          refine takeD 6 (some 3) (v := ?_) rfl rfl (by kernel_rfl) (by kernel_rfl) (by kernel_rfl) (fun _ _ _ h => h) (Or.inl ⟨by rfl, ?_⟩) hS2 ?_
          rotate_left
          · intro w hSw
            obtain ⟨s0, s1, s2, s3, s4⟩ := PAt.cells hSw
            go_simp
            with_reducible rfl
          try simp only [Act.put]
          refine takeD 7 (some 4) (v := ?_) rfl rfl (by kernel_rfl) (by kernel_rfl) (by kernel_rfl) (fun _ _ _ h => h) (Or.inl ⟨by rfl, ?_⟩) hS2 ?_
          rotate_left
          · intro w hSw
            obtain ⟨s0, s1, s2, s3, s4⟩ := PAt.cells hSw
            go_simp
            with_reducible rfl
          try simp only [Act.put]
          refine wpAnyH_done (by kernel_rfl) ?_ _
          clear hS hS2
          go_wp2_with fail
          refine bodyPost_ret (results_row_tmp2 rfl _ _ w.heap.size 24 #[.int .i64 0, .string ⟨#[]⟩, .slice none 0 0] (0, 0) _ rfl (setRow_heap _ _ _ _ _ _ HZ.out) Tryd.underlying24 rfl sizeExpr) rfl ?_
          refine ⟨HF.out _, (0, ⟨#[]⟩, none, 0, 0), ?_, by rw [HO.out.2.1, HO.out.2.2]; rfl⟩
          rw [HO.out.1]
          exact emptyT_ex _ 199
      · have HP5 := HPK2.out W4 j hP4 hPl
        have hpk : peekC s j false = 0 := (peek_nil hPl.1).2 (by rw [hjs]; exact left_end s)
        rw [hpk] at HP5
        rw [hW4] at g0 g1 g2 g3 g4
        have HWE : Hid (W4 = W3.alloc (.cells #[.int .i64 k, .string nm, .slice a ln cp] 24)) := hW4
        have hX4 : ExA (fun b => W2.heap.size ≤ b) W4 200 t (.agg #[.int .i64 k, .string nm, .slice a ln cp]) := ExA.kept (by omega) (fun b hb hA => ⟨hA, by rw [hW4]; exact Below.heap_alloc W3 _ b hb⟩) _ _ _ hX
        have HX4 : Hid (ExA (fun b => W2.heap.size ≤ b) W4 200 t (.agg #[.int .i64 k, .string nm, .slice a ln cp]) ∧ W2.heap.size = w.heap.size + 1 + 1) := ⟨hX4, hs2⟩
        have HT : Hid (readT (bts s) = some t ∧ named 200 t ∧ cnt 200 t ≤ 1152921504606846976) := ⟨hrd, hnm, hct⟩
        clear hW4 hP4 hB4 hz4 hev hs4 HW2 HPK2 hK3 hE hB2 hs2 hz2 hbig hP3 hPl hs3 HN hpk HP4 hX hX4 hrd hnm hct hjs
        go_wp2_with fail
        rw [← HWE.out]
        refine HP5.mono ?_
        clear HP5 g0 g1 g2 g3 g4
        rintro e5 W5 ⟨rfl, hP5, hO5⟩
        obtain ⟨hB4, hz4, hev, hs3, hs4, hbig⟩ := HW4.out
        obtain ⟨hX4, hs2⟩ := HX4.out
        have hs5 : W5.heap.size = W4.heap.size := hO5.size
        have hev5 : W5.heap[W3.heap.size]? = some (.cells #[.int .i64 k, .string nm, .slice a ln cp] 24 (0, 0)) := (hO5.block _ (by omega)).trans hev
        have hX5 : ExA (fun b => W2.heap.size ≤ b) W5 200 t (.agg #[.int .i64 k, .string nm, .slice a ln cp]) := ExA.kept (by omega) (fun b hb hA => ⟨hA, hO5.block b (by omega)⟩) _ _ _ hX4
        have HCK := checkE_calls 200 t (.agg #[.int .i64 k, .string nm, .slice a ln cp]) W5 (ExA.ex _ _ _ hX5) HT.out.2.2 HT.out.2.1
        have HW5 : Hid (Below w.heap.size w W5 ∧ W5.heap[w.heap.size]? = some (.cells #[.int .i64 0, .string ⟨#[]⟩, .slice none 0 0] 24 (0, 0)) ∧ W5.heap[W3.heap.size]? = some (.cells #[.int .i64 k, .string nm, .slice a ln cp] 24 (0, 0)) ∧ w.heap.size + 1 < W3.heap.size ∧ W5.heap.size = W3.heap.size + 1 ∧ ExA (fun b => W2.heap.size ≤ b) W5 200 t (.agg #[.int .i64 k, .string nm, .slice a ln cp]) ∧ W2.heap.size = w.heap.size + 1 + 1) := ⟨Below.of_kept hB4 hO5.kept (by omega) (by omega), (hO5.block _ (by omega)).trans hz4, hev5, hs3, by omega, hX5, hs2⟩
        have c0 : W5.cell? ⟨W3.heap.size, 0, none⟩ = some (.int .i64 k) := cell_of_row W5 _ 0 _ _ _ hev5
        have c1 : W5.cell? ⟨W3.heap.size, 1, none⟩ = some (.string nm) := cell_of_row W5 _ 1 _ _ _ hev5
        have c2 : W5.cell? ⟨W3.heap.size, 2, none⟩ = some (.slice a ln cp) := cell_of_row W5 _ 2 _ _ _ hev5
        by_cases hck : checkE 200 t = 0
        · obtain ⟨o1, o2, o3⟩ := out_some hbig HT.out.1 hck
          have HO : Hid (outTree s = t ∧ outE s = 0 ∧ outN s = s.size) := ⟨tree_some o1, o2, o3⟩
          rw [hck] at HCK
          clear o1 o2 o3 hck hB4 hz4 hev hs3 hs4 hbig hX4 hs2 hs5 hev5 hX5 hP5 hO5 HW4 HX4 HT HWE
          go_wp2_with fail
          refine HCK.mono ?_
          clear HCK c0 c1 c2
          rintro e6 W6 ⟨rfl, hB6⟩
          obtain ⟨hB5, hz5, hev5, hs3, hs5, hX5, hs2⟩ := HW5.out
          have hev6 : W6.heap[W3.heap.size]? = some (.cells #[.int .i64 k, .string nm, .slice a ln cp] 24 (0, 0)) := (hB6.block _ (by omega)).trans hev5
          have c0 : W6.cell? ⟨W3.heap.size, 0, none⟩ = some (.int .i64 k) := cell_of_row W6 _ 0 _ _ _ hev6
          have c1 : W6.cell? ⟨W3.heap.size, 1, none⟩ = some (.string nm) := cell_of_row W6 _ 1 _ _ _ hev6
          have c2 : W6.cell? ⟨W3.heap.size, 2, none⟩ = some (.slice a ln cp) := cell_of_row W6 _ 2 _ _ _ hev6
          have HZ : Hid (W6.heap[w.heap.size]? = some (.cells #[.int .i64 0, .string ⟨#[]⟩, .slice none 0 0] 24 (0, 0))) := (hB6.block _ (by omega)).trans hz5
          have HF : Hid (∀ cs, Below w.heap.size w (W6.setRow w.heap.size cs)) := fun cs => below_setRow (hB5.trans (hB6.mono (by omega))) (Nat.le_refl _) cs
          have HX : Hid (∀ cs, ExA (fun b => w.heap.size ≤ b) (W6.setRow w.heap.size cs) 200 t (.agg #[.int .i64 k, .string nm, .slice a ln cp])) := fun cs => ExA.kept (by rw [size_setRow]; exact hB6.size) (fun b hb hA => ⟨by omega, (setRow_other _ _ _ _ (by omega)).trans (hB6.block b hb)⟩) _ _ _ hX5
          clear hB5 hz5 hev5 hs3 hs5 hX5 hs2 hev6 hB6 HW5
          go_wp2_with (refine wpList_store_row rfl 24 _ _ rfl w.heap.size #[.int .i64 k, .string nm, .slice a ln cp] rfl rfl 24 _ HZ.out sizeExpr rfl (ones3 _ _ _ _ _) ?_)
          refine bodyPost_ret (results_row_tmp2 rfl _ _ w.heap.size 24 #[.int .i64 k, .string nm, .slice a ln cp] (0, 0) _ rfl (setRow_heap _ _ _ _ _ _ HZ.out) Tryd.underlying24 rfl sizeExpr) rfl ?_
          refine ⟨HF.out _, (k, nm, a, ln, cp), ?_, by rw [HO.out.2.1, HO.out.2.2]; rfl⟩
          rw [HO.out.1]
          exact ExA.ex _ _ _ (HX.out _)
        · obtain ⟨o1, o2, o3⟩ := out_bad hbig HT.out.1 hck
          have HO : Hid (outTree s = emptyT ∧ outE s = 4 ∧ outN s = 0) := ⟨tree_none o1, o2, o3⟩
          generalize checkE 200 t = C at *
          have e1 : (C == 0) = false := by rw [beq_eq_false_iff_ne]; exact hck
          have e2 : (C != 0) = true := by rw [bne_iff_ne]; exact hck
          clear o1 o2 o3 hck hB4 hz4 hev hs3 hs4 hbig hX4 hs2 hs5 hev5 hX5 hP5 hO5 HW4 HX4 HT HWE
          go_wp2_with fail
          refine HCK.mono ?_
          clear HCK c0 c1 c2
          rintro e6 W6 ⟨rfl, hB6⟩
          obtain ⟨hB5, hz5, hev5, hs3, hs5, hX5, hs2⟩ := HW5.out
          have HZ : Hid (W6.heap[w.heap.size]? = some (.cells #[.int .i64 0, .string ⟨#[]⟩, .slice none 0 0] 24 (0, 0))) := (hB6.block _ (by omega)).trans hz5
          have HF : Hid (∀ cs, Below w.heap.size w (W6.setRow w.heap.size cs)) := fun cs => below_setRow (hB5.trans (hB6.mono (by omega))) (Nat.le_refl _) cs
          clear hB5 hz5 hev5 hs3 hs5 hX5 hs2 hB6 HW5
          go_wp2_with (refine wpList_store_row rfl 24 _ _ rfl w.heap.size #[.int .i64 0, .string ⟨#[]⟩, .slice none 0 0] rfl rfl 24 _ HZ.out sizeExpr rfl (ones3 _ _ _ _ _) ?_)
          refine bodyPost_ret (results_row_tmp2 rfl _ _ w.heap.size 24 #[.int .i64 0, .string ⟨#[]⟩, .slice none 0 0] (0, 0) _ rfl (setRow_heap _ _ _ _ _ _ HZ.out) Tryd.underlying24 rfl sizeExpr) rfl ?_
          refine ⟨HF.out _, (0, ⟨#[]⟩, none, 0, 0), ?_, by rw [HO.out.2.1, HO.out.2.2]; rfl⟩
          rw [HO.out.1]
          exact emptyT_ex _ 199
end Go.Proofs.YtafidabopcgkhaaDoor
