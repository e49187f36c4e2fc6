/-
  PROVED HERE: the reader's whole at every text: what it returns; nothing that lay before is turned but its own block.
-/
import Derived.Test.YtafidabopcgkhaaDoorSeq
import Derived.Test.YtafidabopcgkhaaDoorNam
namespace Go.Proofs.YtafidabopcgkhaaDoor
open Go.RowKit

theorem left_zero (s : ByteArray) : left s 0 = bts s := rfl
theorem bts_length (s : ByteArray) : (bts s).length = s.size := by rw [← bts_toList, toList_length]
theorem read_none {s : List UInt8} (h0 : skipL s ≠ []) {o : Option (DataW Unit)} {q : List UInt8} (h : altN (s.length + 1) s = (o, q)) (hq : o = none ∨ q ≠ []) : readT s = none := by
  unfold readT
  rw [if_neg h0, h]
  rcases hq with rfl | hq
  · rfl
  · cases q with
    | nil => exact absurd rfl hq
    | cons c q => cases o <;> rfl
theorem Kept.drewN {g : Nat} {w w' : World} (h : Kept g w w') (q : Nat) : Kept g w (w'.drewN q) := ⟨h.os, h.tape, h.output, h.size, h.block⟩
/-- What whole answers. -/
def Whl (g : Nat) (s : ByteArray) (lo : Nat) (e : Ending) (w' : World) : Prop :=
  (skipL (bts s) = [] ∧ e = .returned (.tuple #[zE, .nilIface])) ∨
  (∃ r t m, skipL (bts s) ≠ [] ∧ altN (s.size + 1) (bts s) = (some t, []) ∧ ExA (fun b => lo ≤ b ∧ b ≠ g) w' m t (rawV r) ∧ Good t ∧ e = .returned (.tuple #[rawV r, .nilIface])) ∨
  (∃ r j, skipL (bts s) ≠ [] ∧ (altN (s.size + 1) (bts s)).2 = left s j ∧ readT (bts s) = none ∧ j ≤ s.size ∧ e = .returned (.tuple #[rawV r, refV j 4]))
set_option maxRecDepth 100000 in
set_option maxHeartbeats 4000000 in
theorem whole_calls (g : Nat) (s : ByteArray) (hs : s.size ≤ 200) (w : World) (hR : RAt w g s 0) :
    Calls Tryd.prog 31 #[.pointer (some ⟨g, 0, none⟩)] w fun e w' => Kept g w w' ∧ Whl g s w.heap.size e w' := by
  have hgl := hR.lt
  obtain ⟨P1, p2, p3⟩ := Pl.skip (s := s) (i := 0) (Nat.zero_le _)
  rw [left_zero] at p3
  have hA : altN (s.size + 1) (left s (skip s 0)) = altN (s.size + 1) (bts s) := altN_skip _ (by rw [p3, skip_twice])
  have HP1 : Hid (∀ W, RAt W g s 0 → Calls Tryd.prog 42 #[.pointer (some ⟨g, 0, none⟩), .int .i64 0] W fun r w' => r = .returned (.tuple #[]) ∧ RAt w' g s (skip s 0) ∧ Only g W w') := fun W h => pass_calls g s 0 0 W h (by omega) (by omega)
  have HC : Hid (∀ W, RAt W g s (skip s 0) → Calls Tryd.prog 43 #[.pointer (some ⟨g, 0, none⟩)] W fun e W' => Kept g W W' ∧ Said g s W.heap.size (skip s 0) (FR s (altN (s.size + 1) (bts s))) (DB s (altN (s.size + 1) (bts s))) e W') := fun W h => by
    have := CH.all g s hs (s.size + 1) W _ h P1 (by omega)
    rwa [hA] at this
  have HR0 : Hid (∀ o, RAt (w.alloc o) g s 0) := fun o => hR.alloc o
  have HG : Hid (g < w.heap.size ∧ s.size ≤ 200) := ⟨hgl, hs⟩
  have HL : Hid (left s (skip s 0) = skipL (bts s) ∧ skip s 0 ≤ s.size) := ⟨p3, P1.1⟩
  clear hR hs hgl P1 p2 p3 hA
  obtain ⟨i0, hi0⟩ : ∃ i0, skip s 0 = i0 := ⟨_, rfl⟩
  rw [hi0] at HP1 HC HL
  clear hi0
  by_cases hnil : i0 = s.size
  · have HN : Hid (skipL (bts s) = []) := by
      show _ = _
      rw [← HL.out.1, hnil, left_end]
    have hnb : ((i0 : Int) == (s.size : Int)) = true := by rw [beq_iff_eq]; omega
    go_enter Tryd.func31, Tryd.ntmps31
    go_wp2_with fail
    refine (HP1.out _ (HR0.out _)).mono ?_
    rintro e1 W1 ⟨rfl, hR1, hO1⟩
    obtain ⟨c0, c1, f1⟩ := hR1.cells
    have hgl := HG.out.1
    have hz1 : W1.heap[w.heap.size]? = some (.cells #[.int .i64 0, .string ⟨#[]⟩, .slice none 0 0] 24 (0, 0)) := (hO1.block _ (by omega)).trans (heap_alloc_new w _)
    have HZ : Hid (∀ q, (W1.drewN q).heap[w.heap.size]? = some (.cells #[.int .i64 0, .string ⟨#[]⟩, .slice none 0 0] 24 (0, 0))) := fun q => hz1
    have hK1 : Kept g w W1 := ((Kept.refl g w).alloc _).trans hO1.kept
    have HF : Hid (∀ q cs, Kept g w ((W1.drewN q).setRow w.heap.size cs)) := fun q cs => Kept.setRow (w' := W1.drewN q) ⟨hK1.os, hK1.tape, hK1.output, hK1.size, hK1.block⟩ _ _ (Nat.le_refl _)
    clear hz1 hK1 hO1 hR1 hgl HP1 HC HR0
    go_wp2_with fail
    go_quiet (fail)
    go_wp2_with (refine wpList_store_row rfl 24 _ _ rfl w.heap.size #[.int .i64 0, .string ⟨#[]⟩, .slice none 0 0] rfl rfl 24 _ (HZ.out _) sizeExpr rfl (ones3 _ _ _ _ _) ?_)
    refine bodyPost_ret (results_row_tmp rfl _ _ w.heap.size 24 #[.int .i64 0, .string ⟨#[]⟩, .slice none 0 0] (0, 0) _ rfl (setRow_heap _ _ _ _ _ _ (HZ.out _)) Tryd.underlying24 rfl sizeExpr) rfl ?_
    exact ⟨HF.out _ _, .inl ⟨HN.out, rfl⟩⟩
  · have hnb : ((i0 : Int) == (s.size : Int)) = false := by rw [beq_eq_false_iff_ne]; omega
    have HN : Hid (skipL (bts s) ≠ []) := by
      intro e
      have := left_length s i0
      rw [HL.out.1, e, List.length_nil] at this
      have := HL.out.2
      omega
    go_enter Tryd.func31, Tryd.ntmps31
    go_wp2_with fail
    refine (HP1.out _ (HR0.out _)).mono ?_
    rintro e1 W1 ⟨rfl, hR1, hO1⟩
    obtain ⟨c0, c1, f1⟩ := hR1.cells
    have hgl := HG.out.1
    have hz1 : W1.heap[w.heap.size]? = some (.cells #[.int .i64 0, .string ⟨#[]⟩, .slice none 0 0] 24 (0, 0)) := (hO1.block _ (by omega)).trans (heap_alloc_new w _)
    have hK1 : Kept g w W1 := ((Kept.refl g w).alloc _).trans hO1.kept
    have hs1 : W1.heap.size = w.heap.size + 1 := by rw [hO1.size]; simp
    have HW1 : Hid (∀ q, RAt (W1.drewN q) g s i0 ∧ (W1.drewN q).heap[w.heap.size]? = some (.cells #[.int .i64 0, .string ⟨#[]⟩, .slice none 0 0] 24 (0, 0)) ∧ Kept g w (W1.drewN q) ∧ (W1.drewN q).heap.size = w.heap.size + 1) := fun q => ⟨hR1, hz1, ⟨hK1.os, hK1.tape, hK1.output, hK1.size, hK1.block⟩, hs1⟩
    clear hz1 hK1 hO1 hR1 hgl HP1 HR0 hs1
    go_wp2_with fail
    go_quiet (fail)
    go_wp2_with fail
    refine (HC.out _ (HW1.out _).1).mono ?_
    rintro e2 W2 ⟨hK2, hE⟩
    have hgl := HG.out.1
    obtain ⟨-, hz1, hK1, hs1⟩ := HW1.out nq
    clear HW1 HC c0 c1 f1
    have hs2 := hK2.size
    have hz2 : W2.heap[w.heap.size]? = some (.cells #[.int .i64 0, .string ⟨#[]⟩, .slice none 0 0] 24 (0, 0)) := (hK2.block _ (by omega) (by omega)).trans hz1
    have hKW : Kept g w W2 := hK1.trans hK2
    rcases hE with ⟨j, hRj, hF, rfl⟩ | ⟨j, t, m, r, hRj, hD, hG, hij, hlen, hX, rfl⟩
    · have HZ : Hid (∀ o q, ((W2.alloc o).drewN q).heap[w.heap.size]? = some (.cells #[.int .i64 0, .string ⟨#[]⟩, .slice none 0 0] 24 (0, 0))) := fun o q => (Below.heap_alloc W2 o _ (by omega)).trans hz2
      have HF : Hid (∀ o q cs, Kept g w (((W2.alloc o).drewN q).setRow w.heap.size cs)) := fun o q cs => Kept.setRow (w' := (W2.alloc o).drewN q) ⟨(hKW.alloc o).os, (hKW.alloc o).tape, (hKW.alloc o).output, (hKW.alloc o).size, (hKW.alloc o).block⟩ _ _ (Nat.le_refl _)
      have HF2 : Hid ((altN (s.size + 1) (bts s)).2 = left s j ∧ readT (bts s) = none ∧ j ≤ s.size) := ⟨by rw [hF.1], read_none HN.out (by rw [bts_length]; exact hF.1) (.inl rfl), hF.2.1⟩
      clear hKW hRj hF hK1 hK2 hz1 hz2 hgl hs1 hs2
      unfold zE refV
      go_wp2_with fail
      go_quiet (fail)
      go_wp2_with (refine wpList_store_row rfl 24 _ _ rfl w.heap.size #[.int .i64 0, .string ⟨#[]⟩, .slice none 0 0] rfl rfl 24 _ (HZ.out _ _) sizeExpr rfl (ones3 _ _ _ _ _) ?_)
      refine bodyPost_ret (results_row_tmp rfl _ _ w.heap.size 24 #[.int .i64 0, .string ⟨#[]⟩, .slice none 0 0] (0, 0) _ rfl (setRow_heap _ _ _ _ _ _ (HZ.out _ _)) Tryd.underlying24 rfl sizeExpr) rfl ?_
      exact ⟨HF.out _ _ _, .inr (.inr ⟨(0, ⟨#[]⟩, none, 0, 0), j, HN.out, HF2.out.1, HF2.out.2.1, HF2.out.2.2, rfl⟩)⟩
    · obtain ⟨k, nm, a, ln, cp⟩ := r
      unfold rawV at hX ⊢
      simp only at hX ⊢
      have hjs := hD.2.1
      have hRa : RAt (W2.alloc (.cells #[.int .i64 k, .string nm, .slice a ln cp] 24)) g s j := hRj.alloc _
      obtain ⟨c0, c1, f1⟩ := hRa.cells
      have HRF : Hid (∀ W, RAt W g s j → Calls Tryd.prog 44 #[.pointer (some ⟨g, 0, none⟩)] W fun r w' => r = .returned (refV j 4) ∧ w' = W) := fun W h => refuse_calls g s j W h
      have HW2 : Hid (∀ q, RAt ((W2.alloc (.cells #[.int .i64 k, .string nm, .slice a ln cp] 24)).drewN q) g s j) := fun q => hRa
      have he : ∀ q, ((W2.alloc (.cells #[.int .i64 k, .string nm, .slice a ln cp] 24)).drewN q).heap[W2.heap.size]? = some (.cells #[.int .i64 k, .string nm, .slice a ln cp] 24 (0, 0)) := fun q => heap_alloc_new W2 _
      have HC0 : Hid (∀ q, ((W2.alloc (.cells #[.int .i64 k, .string nm, .slice a ln cp] 24)).drewN q).cell? ⟨W2.heap.size, 0, none⟩ = some (.int .i64 k)) := fun q => cell_of_row _ _ 0 _ _ _ (he q)
      have HC1 : Hid (∀ q, ((W2.alloc (.cells #[.int .i64 k, .string nm, .slice a ln cp] 24)).drewN q).cell? ⟨W2.heap.size, 1, none⟩ = some (.string nm)) := fun q => cell_of_row _ _ 1 _ _ _ (he q)
      have HC2 : Hid (∀ q, ((W2.alloc (.cells #[.int .i64 k, .string nm, .slice a ln cp] 24)).drewN q).cell? ⟨W2.heap.size, 2, none⟩ = some (.slice a ln cp)) := fun q => cell_of_row _ _ 2 _ _ _ (he q)
      have HZ : Hid (∀ q, ((W2.alloc (.cells #[.int .i64 k, .string nm, .slice a ln cp] 24)).drewN q).heap[w.heap.size]? = some (.cells #[.int .i64 0, .string ⟨#[]⟩, .slice none 0 0] 24 (0, 0))) := fun q => (Below.heap_alloc W2 _ _ (by omega)).trans hz2
      have HF : Hid (∀ q cs, Kept g w (((W2.alloc (.cells #[.int .i64 k, .string nm, .slice a ln cp] 24)).drewN q).setRow w.heap.size cs)) := fun q cs => ((hKW.alloc _).drewN q).setRow _ _ (Nat.le_refl _)
      have hXs : ∀ (W' : World), W2.heap.size ≤ W'.heap.size → (∀ b, b < W2.heap.size → b ≠ w.heap.size → W'.heap[b]? = W2.heap[b]?) → ExA (fun b => w.heap.size ≤ b ∧ b ≠ g) W' m t (.agg #[.int .i64 k, .string nm, .slice a ln cp]) := fun W' h1 h2 => ExA.kept h1 (fun b hb hA => ⟨⟨by omega, by omega⟩, h2 b hb (by omega)⟩) _ _ _ hX
      have hsa : W2.heap.size ≤ (W2.alloc (.cells #[.int .i64 k, .string nm, .slice a ln cp] 24)).heap.size := by simp
      have HX : Hid (∀ q cs, ExA (fun b => w.heap.size ≤ b ∧ b ≠ g) (((W2.alloc (.cells #[.int .i64 k, .string nm, .slice a ln cp] 24)).drewN q).setRow w.heap.size cs) m t (.agg #[.int .i64 k, .string nm, .slice a ln cp])) := fun q cs => hXs _ (by rw [size_setRow]; exact hsa) (fun b hb hn => (setRow_other _ _ _ _ hn).trans (Below.heap_alloc W2 _ b hb))
      clear hXs hsa
      by_cases hjl : j < s.size
      · have HF2 : Hid ((altN (s.size + 1) (bts s)).2 = left s j ∧ readT (bts s) = none ∧ j ≤ s.size) := by
          have hne : left s j ≠ [] := fun e => by
            have := left_length s j
            rw [e, List.length_nil] at this
            omega
          refine ⟨?_, ?_, hjs⟩
          · rcases hD.1 with h | ⟨h, _⟩ <;> rw [h]
          · rcases hD.1 with h | ⟨h, _⟩
            · exact read_none HN.out (by rw [bts_length]; exact h) (.inr hne)
            · exact read_none HN.out (by rw [bts_length]; exact h) (.inr hne)
        have hjb : (j : Int) < (s.size : Int) := by omega
        clear hKW hRj hD hG hij hlen hX hK1 hK2 hz1 hz2 hgl hs1 hs2 hjs hRa he
        go_wp2_with fail
        go_quiet (fail)
        have d0 := HC0.out
        have d1 := HC1.out
        have d2 := HC2.out
        go_wp2_with fail
        refine (HRF.out _ (HW2.out _)).mono ?_
        rintro e4 W4 ⟨rfl, hW4⟩
        rw [hW4]
        clear hW4
        go_wp2_with (refine wpList_store_row rfl 24 _ _ rfl w.heap.size #[.int .i64 k, .string nm, .slice a ln cp] rfl rfl 24 _ (HZ.out _) sizeExpr rfl (ones3 _ _ _ _ _) ?_)
        refine bodyPost_ret (results_row_tmp rfl _ _ w.heap.size 24 #[.int .i64 k, .string nm, .slice a ln cp] (0, 0) _ rfl (setRow_heap _ _ _ _ _ _ (HZ.out _)) Tryd.underlying24 rfl sizeExpr) rfl ?_
        exact ⟨HF.out _ _, .inr (.inr ⟨(k, nm, a, ln, cp), j, HN.out, HF2.out.1, HF2.out.2.1, HF2.out.2.2, rfl⟩)⟩
      · obtain rfl : j = s.size := by omega
        have HF2 : Hid (altN (s.size + 1) (bts s) = (some t, [])) := by
          rcases hD.1 with h | ⟨_, c, q, e, _⟩
          · rw [left_end] at h
            exact h
          · rw [left_end] at e
            cases e
        have HG2 : Hid (Good t) := hG
        have hjb : decide ((s.size : Int) < (s.size : Int)) = false := by simp
        clear hKW hRj hD hG hij hlen hX hK1 hK2 hz1 hz2 hgl hs1 hs2 hjs hRa he
        go_wp2_with fail
        go_quiet (fail)
        have d0 := HC0.out
        have d1 := HC1.out
        have d2 := HC2.out
        go_wp2_with (refine wpList_store_row rfl 24 _ _ rfl w.heap.size #[.int .i64 k, .string nm, .slice a ln cp] rfl rfl 24 _ (HZ.out _) sizeExpr rfl (ones3 _ _ _ _ _) ?_)
        refine bodyPost_ret (results_row_tmp rfl _ _ w.heap.size 24 #[.int .i64 k, .string nm, .slice a ln cp] (0, 0) _ rfl (setRow_heap _ _ _ _ _ _ (HZ.out _)) Tryd.underlying24 rfl sizeExpr) rfl ?_
        exact ⟨HF.out _ _, .inr (.inl ⟨(k, nm, a, ln, cp), t, m, HN.out, HF2.out, HX.out _ _, HG2.out, rfl⟩)⟩
end Go.Proofs.YtafidabopcgkhaaDoor
