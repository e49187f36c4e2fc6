/-
  PROVED HERE: the reader's bare, where choices reads what stands in brackets: what it returns and leaves.
-/
import Derived.Test.YtafidabopcgkhaaDoorBrk
namespace Go.Proofs.YtafidabopcgkhaaDoor
open Go.RowKit

theorem bare_name {s : ByteArray} {n i : Nat} (h : Pl s i) (hp : lett (pk s i) = true) (nm : ByteArray) (hnm : bts nm = (left s i).takeWhile letter) (hl : i + ((left s i).takeWhile letter).length ≤ s.size) :
    DR s (bareL (altN n) (left s i)) (node 1 nm []) (skip s (i + ((left s i).takeWhile letter).length)) ∧ i < skip s (i + ((left s i).takeWhile letter).length) := by
  obtain ⟨P2, q2, q3⟩ := Pl.skip hl
  rcases pk_left h.1 with ⟨e, hk, _⟩ | ⟨c, q, e, hk, hq, hlt⟩
  · rw [hk] at hp
    cases hp
  · rw [hk, lett_letter] at hp
    have hpos : 0 < ((left s i).takeWhile letter).length := by rw [e, List.takeWhile_cons, hp]; simp
    refine ⟨⟨?_, P2⟩, by omega⟩
    rw [q3, left_drop, (take_while (p := letter) (left s i)).2]
    have hn : nm = ⟨((left s i).takeWhile letter).toArray⟩ := by rw [← hnm, of_bts]
    rw [hn]
    have hsk := h.2
    unfold bareL
    rw [hsk, e]
    simp only [hp, if_true]
theorem bare_else {s : ByteArray} {n i : Nat} (h : Pl s i) (hp : lett (pk s i) = false) (h40 : pk s i ≠ 40) : FR s (bareL (altN n) (left s i)) i := by
  refine ⟨?_, h⟩
  have hsk := h.2
  rcases pk_left h.1 with ⟨e, hk, _⟩ | ⟨c, q, e, hk, hq, hlt⟩
  · unfold bareL
    rw [hsk, e]
  · rw [hk, lett_letter] at hp
    unfold bareL
    rw [hsk, e]
    simp only [hp, Bool.false_eq_true, if_false]
    rw [if_neg (by rintro rfl; exact h40 (by rw [hk]; rfl))]
set_option maxRecDepth 100000 in
set_option maxHeartbeats 4000000 in
theorem bare_calls (g : Nat) (s : ByteArray) (n : Nat) (hs : s.size ≤ 200) (hCH : CH g s n) (i : Nat) (w : World) (hR : RAt w g s i) (hP : Pl s i) (hn : s.size - i < n + 1) :
    Calls Tryd.prog 66 #[.pointer (some ⟨g, 0, none⟩)] w fun e w' => Kept g w w' ∧ Said g s w.heap.size i (FR s (bareL (altN n) (left s i))) (DR s (bareL (altN n) (left s i))) e w' := by
  have hgl := hR.lt
  have HG : Hid (g < w.heap.size) := hgl
  have HPK : Hid (∀ W, RAt W g s i → Calls Tryd.prog 54 #[.pointer (some ⟨g, 0, none⟩)] W fun r w' => r = .returned (.int .u8 (pk s i)) ∧ RAt w' g s i ∧ Only g W w') := fun W h => rpeek_calls g s i W h hP.1 (by omega)
  have HL : Hid (∀ c W, Calls Tryd.prog 63 #[.int .u8 c] W fun r w' => r = .returned (.bool (lett c)) ∧ w' = W) := fun c W => isletter_calls c W
  have HN : Hid (∀ W, RAt W g s i → Calls Tryd.prog 68 #[.pointer (some ⟨g, 0, none⟩)] W fun e w' => ∃ nm, e = .returned (.agg #[.int .i64 1, .string nm, .slice none 0 0]) ∧ bts nm = (left s i).takeWhile letter ∧ Kept g W w' ∧ RAt w' g s (skip s (i + ((left s i).takeWhile letter).length)) ∧ i + ((left s i).takeWhile letter).length ≤ s.size) := fun W h => name_calls g s i W h hP.1 hs
  have HB : Hid (pk s i = 40 → ∀ W, RAt W g s i → Calls Tryd.prog 69 #[.pointer (some ⟨g, 0, none⟩)] W fun e w' => Kept g W w' ∧ Said g s W.heap.size i (FR s (bareL (altN n) (left s i))) (DR s (bareL (altN n) (left s i))) e w') := fun hp W h => brackets_calls g s n hs hCH i W h hP hn hp
  have HRF : Hid (∀ W, RAt W g s i → Calls Tryd.prog 44 #[.pointer (some ⟨g, 0, none⟩)] W fun r w' => r = .returned (refV i 4) ∧ w' = W) := fun W h => refuse_calls g s i W h
  have HR0 : Hid (∀ o, RAt (w.alloc o) g s i) := fun o => hR.alloc o
  have HI : Hid (Pl s i) := hP
  have hpr := pk_range hP.1
  clear hR hP hn hCH hs hgl
  cases hlt : lett (pk s i) with
  | true =>
    have HLt : Hid (lett (pk s i) = true) := hlt
    obtain ⟨C, hC⟩ : ∃ C, pk s i = C := ⟨_, rfl⟩
    rw [hC] at HPK hlt
    go_enter Tryd.func66, Tryd.ntmps66
    go_wp2_with fail
    refine (HPK.out _ (HR0.out _)).mono ?_
    rintro e1 W1 ⟨rfl, hR1, hO1⟩
    go_wp2_with fail
    refine (HL.out C W1).mono ?_
    rintro e2 W2 ⟨rfl, hW2⟩
    rw [hW2, hlt]
    clear hW2
    have hs1 : W1.heap.size = w.heap.size + 1 := by rw [hO1.size]; simp
    have hz1 : W1.heap[w.heap.size]? = some (.cells #[.int .i64 0, .string ⟨#[]⟩, .slice none 0 0] 24 (0, 0)) := (hO1.block _ (by have := HG.out; omega)).trans (heap_alloc_new w _)
    have hK1 : Kept g w W1 := ((Kept.refl g w).alloc _).trans hO1.kept
    clear hO1
    go_wp2_with fail
    refine (HN.out _ hR1).mono ?_
    rintro e3 W3 ⟨nm, rfl, hnm, hK3, hR3, hl3⟩
    have hgl := HG.out
    have HZ : Hid (W3.heap[w.heap.size]? = some (.cells #[.int .i64 0, .string ⟨#[]⟩, .slice none 0 0] 24 (0, 0))) := (hK3.block _ (by omega) (by omega)).trans hz1
    have HD := bare_name (n := n) HI.out HLt.out nm hnm hl3
    have HF : Hid (∀ cs, Kept g w (W3.setRow w.heap.size cs) ∧ RAt (W3.setRow w.heap.size cs) g s (skip s (i + ((left s i).takeWhile letter).length))) := fun cs => ⟨(hK1.trans hK3).setRow _ _ (Nat.le_refl _), hR3.setRow _ _ (by omega)⟩
    have HD2 : Hid (DR s (bareL (altN n) (left s i)) (node 1 nm []) (skip s (i + ((left s i).takeWhile letter).length)) ∧ i < skip s (i + ((left s i).takeWhile letter).length)) := HD
    clear hgl hnm hK3 hR3 hl3 HD hs1 hz1 hK1 hR1 HN HB HRF HPK HR0
    go_wp2_with (refine wpList_store_row rfl 24 _ _ rfl w.heap.size #[.int .i64 1, .string nm, .slice none 0 0] rfl rfl 24 _ HZ.out sizeExpr rfl (ones3 _ _ _ _ _) ?_)
    refine bodyPost_ret (results_row_tmp rfl _ _ w.heap.size 24 #[.int .i64 1, .string nm, .slice none 0 0] (0, 0) _ rfl (setRow_heap _ _ _ _ _ _ HZ.out) Tryd.underlying24 rfl sizeExpr) rfl ?_
    obtain ⟨d1, d2⟩ := HD2.out
    exact ⟨(HF.out _).1, .inr ⟨_, _, 1, (1, nm, none, 0, 0), (HF.out _).2, d1, Good.of (by intro h; rcases h with h | h <;> cases h), d2, by rw [subs_node, List.length_nil]; omega, ExA.leaf _ _ 0 1 nm none 0, rfl⟩⟩
  | false =>
    have HLt : Hid (lett (pk s i) = false) := hlt
    by_cases h40 : pk s i = 40
    · have HB2 := HB.out h40
      have HB3 : Hid (∀ W, RAt W g s i → Calls Tryd.prog 69 #[.pointer (some ⟨g, 0, none⟩)] W fun e w' => Kept g W w' ∧ Said g s W.heap.size i (FR s (bareL (altN n) (left s i))) (DR s (bareL (altN n) (left s i))) e w') := HB2
      rw [h40] at HPK hlt
      clear HB HB2 h40 HN HRF
      go_enter Tryd.func66, Tryd.ntmps66
      go_wp2_with fail
      refine (HPK.out _ (HR0.out _)).mono ?_
      rintro e1 W1 ⟨rfl, hR1, hO1⟩
      go_wp2_with fail
      refine (HL.out 40 W1).mono ?_
      rintro e2 W2 ⟨rfl, hW2⟩
      rw [hW2, hlt]
      clear hW2
      go_wp2_with fail
      refine (HPK.out _ hR1).mono ?_
      rintro e3 W2 ⟨rfl, hR2, hO2⟩
      have hO := hO1.trans hO2
      have hs1 : W2.heap.size = w.heap.size + 1 := by rw [hO.size]; simp
      have hz1 : W2.heap[w.heap.size]? = some (.cells #[.int .i64 0, .string ⟨#[]⟩, .slice none 0 0] 24 (0, 0)) := (hO.block _ (by have := HG.out; omega)).trans (heap_alloc_new w _)
      have hK1 : Kept g w W2 := ((Kept.refl g w).alloc _).trans hO.kept
      clear hO1 hO2 hO
      go_wp2_with fail
      refine (HB3.out _ hR2).mono ?_
      rintro e4 W4 ⟨hK4, hE⟩
      have hgl := HG.out
      have hs4 := hK4.size
      have hz4 : W4.heap[w.heap.size]? = some (.cells #[.int .i64 0, .string ⟨#[]⟩, .slice none 0 0] 24 (0, 0)) := (hK4.block _ (by omega) (by omega)).trans hz1
      have HZ : Hid (W4.heap[w.heap.size]? = some (.cells #[.int .i64 0, .string ⟨#[]⟩, .slice none 0 0] 24 (0, 0))) := hz4
      rcases hE with ⟨j, hRj, hF, rfl⟩ | ⟨j, t, m, r, hRj, hD, hG, hij, hlen, hX, rfl⟩
      · have HF : Hid (∀ cs, Kept g w (W4.setRow w.heap.size cs) ∧ RAt (W4.setRow w.heap.size cs) g s j) := fun cs => ⟨(hK1.trans hK4).setRow _ _ (Nat.le_refl _), hRj.setRow _ _ (by omega)⟩
        have HF2 : Hid (FR s (bareL (altN n) (left s i)) j) := hF
        clear hgl hF hRj hK4 hK1 hz1 hz4 hs1 hs4 hR1 hR2 HB3 HPK HR0
        unfold zE refV
        go_wp2_with (refine wpList_store_row rfl 24 _ _ rfl w.heap.size #[.int .i64 0, .string ⟨#[]⟩, .slice none 0 0] rfl rfl 24 _ HZ.out sizeExpr rfl (ones3 _ _ _ _ _) ?_)
        refine bodyPost_ret (results_row_tmp rfl _ _ w.heap.size 24 #[.int .i64 0, .string ⟨#[]⟩, .slice none 0 0] (0, 0) _ rfl (setRow_heap _ _ _ _ _ _ HZ.out) Tryd.underlying24 rfl sizeExpr) rfl ?_
        exact ⟨(HF.out _).1, .inl ⟨j, (HF.out _).2, HF2.out, rfl⟩⟩
      · obtain ⟨k, nm, a, ln, cp⟩ := r
        unfold rawV at hX ⊢
        simp only at hX ⊢
        have HF : Hid (∀ cs, Kept g w (W4.setRow w.heap.size cs) ∧ RAt (W4.setRow w.heap.size cs) g s j ∧ ExA (fun b => w.heap.size ≤ b) (W4.setRow w.heap.size cs) m t (.agg #[.int .i64 k, .string nm, .slice a ln cp])) := fun cs => ⟨(hK1.trans hK4).setRow _ _ (Nat.le_refl _), hRj.setRow _ _ (by omega), ExA.kept (by rw [size_setRow]; omega) (fun b hb hA => ⟨by omega, setRow_other _ _ _ _ (by omega)⟩) _ _ _ hX⟩
        have HD : Hid (DR s (bareL (altN n) (left s i)) t j ∧ Good t ∧ i < j ∧ (subs t).length + i ≤ j) := ⟨hD, hG, hij, hlen⟩
        clear hgl hD hG hij hlen hX hRj hK4 hK1 hz1 hz4 hs1 hs4 hR1 hR2 HB3 HPK HR0
        go_wp2_with (refine wpList_store_row rfl 24 _ _ rfl w.heap.size #[.int .i64 k, .string nm, .slice a ln cp] rfl rfl 24 _ HZ.out sizeExpr rfl (ones3 _ _ _ _ _) ?_)
        refine bodyPost_ret (results_row_tmp rfl _ _ w.heap.size 24 #[.int .i64 k, .string nm, .slice a ln cp] (0, 0) _ rfl (setRow_heap _ _ _ _ _ _ HZ.out) Tryd.underlying24 rfl sizeExpr) rfl ?_
        obtain ⟨d1, d2, d3, d4⟩ := HD.out
        exact ⟨(HF.out _).1, .inr ⟨_, t, m, (k, nm, a, ln, cp), (HF.out _).2.1, d1, d2, d3, d4, (HF.out _).2.2, rfl⟩⟩
    · have HFR : Hid (FR s (bareL (altN n) (left s i)) i) := bare_else HI.out HLt.out h40
      clear HB HN
      obtain ⟨C, hC⟩ : ∃ C, pk s i = C := ⟨_, rfl⟩
      rw [hC] at HPK hlt h40
      have e40 : (C == 40) = false := by rw [beq_eq_false_iff_ne]; exact h40
      go_enter Tryd.func66, Tryd.ntmps66
      go_wp2_with fail
      refine (HPK.out _ (HR0.out _)).mono ?_
      rintro e1 W1 ⟨rfl, hR1, hO1⟩
      go_wp2_with fail
      refine (HL.out C W1).mono ?_
      rintro e2 W2 ⟨rfl, hW2⟩
      rw [hW2, hlt]
      clear hW2
      go_wp2_with fail
      refine (HPK.out _ hR1).mono ?_
      rintro e3 W2 ⟨rfl, hR2, hO2⟩
      go_wp2_with fail
      refine (HRF.out _ hR2).mono ?_
      rintro e4 W4 ⟨rfl, hW4⟩
      rw [hW4]
      clear hW4
      have hO := hO1.trans hO2
      have hgl := HG.out
      have HZ : Hid (W2.heap[w.heap.size]? = some (.cells #[.int .i64 0, .string ⟨#[]⟩, .slice none 0 0] 24 (0, 0))) := (hO.block _ (by omega)).trans (heap_alloc_new w _)
      have HF : Hid (∀ cs, Kept g w (W2.setRow w.heap.size cs) ∧ RAt (W2.setRow w.heap.size cs) g s i) := fun cs => ⟨(((Kept.refl g w).alloc _).trans hO.kept).setRow _ _ (Nat.le_refl _), hR2.setRow _ _ (by omega)⟩
      clear hgl hO hO1 hO2 hR1 hR2 HRF HPK HR0
      go_wp2_with (refine wpList_store_row rfl 24 _ _ rfl w.heap.size #[.int .i64 0, .string ⟨#[]⟩, .slice none 0 0] rfl rfl 24 _ HZ.out sizeExpr rfl (ones3 _ _ _ _ _) ?_)
      refine bodyPost_ret (results_row_tmp rfl _ _ w.heap.size 24 #[.int .i64 0, .string ⟨#[]⟩, .slice none 0 0] (0, 0) _ rfl (setRow_heap _ _ _ _ _ _ HZ.out) Tryd.underlying24 rfl sizeExpr) rfl ?_
      exact ⟨(HF.out _).1, .inl ⟨i, (HF.out _).2, HFR.out, rfl⟩⟩
end Go.Proofs.YtafidabopcgkhaaDoor
