/-
  PROVED HERE: the reader's parts and choices: what they return and leave, at every place.
-/
import Derived.Test.YtafidabopcgkhaaDoorPart
import Derived.Test.YtafidabopcgkhaaDoorRowS
import Derived.Test.YtafidabopcgkhaaDoorRowA
namespace Go.Proofs.YtafidabopcgkhaaDoor
open Go.RowKit

theorem Said.mono {g : Nat} {s : ByteArray} {lo lo' i : Nat} {F F' : Nat → Prop} {D D' : DataW Unit → Nat → Prop} {e : Ending} {w' : World} (h : Said g s lo i F D e w') (hlo : lo' ≤ lo) (hF : ∀ j, F j → F' j) (hD : ∀ t j, i < j → D t j → D' t j) : Said g s lo' i F' D' e w' := by
  rcases h with ⟨j, h1, h2, h3⟩ | ⟨j, t, m, r, h1, h2, h3, h4, h5, h6, h7⟩
  · exact .inl ⟨j, h1, hF j h2, h3⟩
  · exact .inr ⟨j, t, m, r, h1, hD t j h4 h2, h3, h4, h5, h6.mono fun b _ hA => by omega, h7⟩
theorem parts_row (g : Nat) (s : ByteArray) (n : Nat) (hs : s.size ≤ 200) (hCH : CH g s n) (i : Nat) (w : World) (hR : RAt w g s i) (hP : Pl s i) (hn : s.size - i < n + 1) :
    Calls Tryd.prog 55 #[.int .i64 2, .func (.func 64) #[.pointer (some ⟨g, 0, none⟩)] #[], .func (.func 65) #[.pointer (some ⟨g, 0, none⟩)] #[]] w fun e w' => Kept g w w' ∧ Said g s w.heap.size i (FR s (seqL (partL (altN n)) (left s i))) (DB s (seqL (partL (altN n)) (left s i))) e w' := by
  obtain ⟨R, hRR⟩ : ∃ R, seqL (partL (altN n)) (left s i) = R := ⟨_, rfl⟩
  rw [hRR]
  refine (row_calls_S g s hs (InvS s (partL (altN n)) R i n) (MidS s (partL (altN n)) R n) (FR s R) (DoneS s R 2) ?_ ?_ w (s.size - i) i ⟨hP, hn, Nat.le_refl _, .inl ⟨rfl, hRR⟩⟩ hR (fun f l i h => Nat.le_trans h.1.1 hs) (fun f l i h => Nat.le_trans h.1.1 hs) (fun l i h => Nat.le_trans h.2.1 hs)).mono ?_
  · intro f l i' W hI hW
    refine (part_calls g s n hs hCH i' W hW hI.1 hI.2.1).mono ?_
    rintro e W' ⟨h1, h2⟩
    exact ⟨h1, h2.mono (Nat.le_refl _) (fun j h => inv_fail hI h) (fun t j hij h => inv_next hI h hij)⟩
  · intro f l j W hM hW
    refine (atpart_calls g s j W hW hM.1.1 (by omega)).mono ?_
    rintro e W' ⟨rfl, h2, h3⟩
    refine ⟨h3.kept, ?_⟩
    cases hb : (lett (pk s j) || pk s j == 40) with
    | true =>
      have := mid_more (i0 := i) hM hb
      exact .inl ⟨j, _, this.2, Nat.le_refl _, h2, this.1, rfl⟩
    | false => exact .inr ⟨h2, mid_done hM hb, rfl⟩
  · rintro e w' ⟨h1, h2⟩
    exact ⟨h1, h2.mono (Nat.le_refl _) (fun j h => h) (fun t j _ h => by obtain ⟨l, _, h, rfl⟩ := h; exact h)⟩
set_option maxRecDepth 100000 in
set_option maxHeartbeats 4000000 in
theorem parts_calls (g : Nat) (s : ByteArray) (n : Nat) (hs : s.size ≤ 200) (hCH : CH g s n) (i : Nat) (w : World) (hR : RAt w g s i) (hP : Pl s i) (hn : s.size - i < n + 1) :
    Calls Tryd.prog 56 #[.pointer (some ⟨g, 0, none⟩)] w fun e w' => Kept g w w' ∧ Said g s w.heap.size i (FR s (seqL (partL (altN n)) (left s i))) (DB s (seqL (partL (altN n)) (left s i))) e w' := by
  have hgl := hR.lt
  have HB : Hid (∀ W, RAt W g s i → Calls Tryd.prog 55 #[.int .i64 2, .func (.func 64) #[.pointer (some ⟨g, 0, none⟩)] #[], .func (.func 65) #[.pointer (some ⟨g, 0, none⟩)] #[]] W fun e w' => Kept g W w' ∧ Said g s W.heap.size i (FR s (seqL (partL (altN n)) (left s i))) (DB s (seqL (partL (altN n)) (left s i))) e w') := fun W h => parts_row g s n hs hCH i W h hP hn
  have HR0 : Hid (∀ o, RAt (w.alloc o) g s i) := fun o => hR.alloc o
  have HG : Hid (g < w.heap.size) := hgl
  clear hR hP hn hCH hs hgl
  generalize (seqL (partL (altN n)) (left s i)) = RR at *
  go_enter Tryd.func56, Tryd.ntmps56
  go_wp2_with fail
  refine (HB.out _ (HR0.out _)).mono ?_
  rintro e1 W1 ⟨hK1, hE⟩
  have hgl := HG.out
  have hz1 : W1.heap[w.heap.size]? = some (.cells #[.int .i64 0, .string ⟨#[]⟩, .slice none 0 0] 24 (0, 0)) := (hK1.block _ (by simp) (by omega)).trans (heap_alloc_new w _)
  have HZ : Hid (W1.heap[w.heap.size]? = some (.cells #[.int .i64 0, .string ⟨#[]⟩, .slice none 0 0] 24 (0, 0))) := hz1
  have hKW : Kept g w W1 := ((Kept.refl g w).alloc _).trans hK1
  rcases hE with ⟨j, hRj, hF, rfl⟩ | ⟨j, t, m, r, hRj, hD, hG, hij, hlen, hX, rfl⟩
  · have HF : Hid (∀ cs, Kept g w (W1.setRow w.heap.size cs) ∧ RAt (W1.setRow w.heap.size cs) g s j) := fun cs => ⟨hKW.setRow _ _ (Nat.le_refl _), hRj.setRow _ _ (by omega)⟩
    have HF2 : Hid (FR s RR j) := hF
    clear hKW hRj hF hK1 hz1 hgl HB HR0
    unfold zE refV
    go_wp2_with (refine wpList_store_row rfl 24 _ _ rfl w.heap.size #[.int .i64 0, .string ⟨#[]⟩, .slice none 0 0] rfl rfl 24 _ HZ.out sizeExpr rfl (ones3 _ _ _ _ _) ?_)
    refine bodyPost_ret (results_row_tmp rfl _ _ w.heap.size 24 #[.int .i64 0, .string ⟨#[]⟩, .slice none 0 0] (0, 0) _ rfl (setRow_heap _ _ _ _ _ _ HZ.out) Tryd.underlying24 rfl sizeExpr) rfl ?_
    exact ⟨(HF.out _).1, .inl ⟨j, (HF.out _).2, HF2.out, rfl⟩⟩
  · obtain ⟨k, nm, a, ln, cp⟩ := r
    unfold rawV at hX ⊢
    simp only at hX ⊢
    have HF : Hid (∀ cs, Kept g w (W1.setRow w.heap.size cs) ∧ RAt (W1.setRow w.heap.size cs) g s j ∧ ExA (fun b => w.heap.size ≤ b) (W1.setRow w.heap.size cs) m t (.agg #[.int .i64 k, .string nm, .slice a ln cp])) := fun cs => ⟨hKW.setRow _ _ (Nat.le_refl _), hRj.setRow _ _ (by omega), ExA.kept (by rw [size_setRow]; omega) (fun b hb hA => by simp only [World.size_alloc] at hA; exact ⟨by omega, setRow_other _ _ _ _ (by omega)⟩) _ _ _ hX⟩
    have HD : Hid (DB s RR t j ∧ Good t ∧ i < j ∧ (subs t).length + i ≤ j) := ⟨hD, hG, hij, hlen⟩
    clear hKW hD hG hij hlen hX hRj hK1 hz1 hgl HB HR0
    go_wp2_with (refine wpList_store_row rfl 24 _ _ rfl w.heap.size #[.int .i64 k, .string nm, .slice a ln cp] rfl rfl 24 _ HZ.out sizeExpr rfl (ones3 _ _ _ _ _) ?_)
    refine bodyPost_ret (results_row_tmp rfl _ _ w.heap.size 24 #[.int .i64 k, .string nm, .slice a ln cp] (0, 0) _ rfl (setRow_heap _ _ _ _ _ _ HZ.out) Tryd.underlying24 rfl sizeExpr) rfl ?_
    obtain ⟨d1, d2, d3, d4⟩ := HD.out
    exact ⟨(HF.out _).1, .inr ⟨_, t, m, (k, nm, a, ln, cp), (HF.out _).2.1, d1, d2, d3, d4, (HF.out _).2.2, rfl⟩⟩
theorem choices_row (g : Nat) (s : ByteArray) (n : Nat) (hs : s.size ≤ 200) (hCH : CH g s n) (i : Nat) (w : World) (hR : RAt w g s i) (hP : Pl s i) (hn : s.size - i < n + 1) :
    Calls Tryd.prog 55 #[.int .i64 3, .func (.func 56) #[.pointer (some ⟨g, 0, none⟩)] #[], .func (.func 57) #[.pointer (some ⟨g, 0, none⟩)] #[]] w fun e w' => Kept g w w' ∧ Said g s w.heap.size i (FR s (altL (seqL (partL (altN n))) (left s i))) (DB s (altL (seqL (partL (altN n))) (left s i))) e w' := by
  obtain ⟨R, hRR⟩ : ∃ R, altL (seqL (partL (altN n))) (left s i) = R := ⟨_, rfl⟩
  rw [hRR]
  refine (row_calls_A g s hs (InvA s (seqL (partL (altN n))) R n) (MidA s (seqL (partL (altN n))) R n) (FR s R) (DoneS s R 3) ?_ ?_ w (s.size - i) i ⟨hP, hn, Nat.le_refl _, .inl ⟨rfl, hRR⟩⟩ hR (fun f l i h => Nat.le_trans h.1.1 hs) (fun f l i h => Nat.le_trans h.1.1 hs) (fun l i h => Nat.le_trans h.2.1 hs)).mono ?_
  · intro f l i' W hI hW
    refine (parts_calls g s n hs hCH i' W hW hI.1 hI.2.1).mono ?_
    rintro e W' ⟨h1, h2⟩
    exact ⟨h1, h2.mono (Nat.le_refl _) (fun j h => inva_fail hI h) (fun t j hij h => inva_next hI h hij)⟩
  · intro f l j W hM hW
    refine (passbar_calls g s j W hW hM.1.1 (by omega)).mono ?_
    rintro e W' ⟨h3, h⟩
    refine ⟨h3.kept, ?_⟩
    rcases h with ⟨hp, rfl, h2⟩ | ⟨hp, rfl, h2⟩
    · obtain ⟨m1, m2, m3⟩ := mida_more hM hp
      exact .inl ⟨_, _, m2, m3, h2, m1, rfl⟩
    · exact .inr ⟨h2, mida_done hM hp, rfl⟩
  · rintro e w' ⟨h1, h2⟩
    exact ⟨h1, h2.mono (Nat.le_refl _) (fun j h => h) (fun t j _ h => by obtain ⟨l, _, h, rfl⟩ := h; exact h)⟩
set_option maxRecDepth 100000 in
set_option maxHeartbeats 4000000 in
theorem choices_calls (g : Nat) (s : ByteArray) (n : Nat) (hs : s.size ≤ 200) (hCH : CH g s n) (i : Nat) (w : World) (hR : RAt w g s i) (hP : Pl s i) (hn : s.size - i < n + 1) :
    Calls Tryd.prog 43 #[.pointer (some ⟨g, 0, none⟩)] w fun e w' => Kept g w w' ∧ Said g s w.heap.size i (FR s (altL (seqL (partL (altN n))) (left s i))) (DB s (altL (seqL (partL (altN n))) (left s i))) e w' := by
  have hgl := hR.lt
  have HB : Hid (∀ W, RAt W g s i → Calls Tryd.prog 55 #[.int .i64 3, .func (.func 56) #[.pointer (some ⟨g, 0, none⟩)] #[], .func (.func 57) #[.pointer (some ⟨g, 0, none⟩)] #[]] W fun e w' => Kept g W w' ∧ Said g s W.heap.size i (FR s (altL (seqL (partL (altN n))) (left s i))) (DB s (altL (seqL (partL (altN n))) (left s i))) e w') := fun W h => choices_row g s n hs hCH i W h hP hn
  have HR0 : Hid (∀ o, RAt (w.alloc o) g s i) := fun o => hR.alloc o
  have HG : Hid (g < w.heap.size) := hgl
  clear hR hP hn hCH hs hgl
  generalize (altL (seqL (partL (altN n))) (left s i)) = RR at *
  go_enter Tryd.func43, Tryd.ntmps43
  go_wp2_with fail
  refine (HB.out _ (HR0.out _)).mono ?_
  rintro e1 W1 ⟨hK1, hE⟩
  have hgl := HG.out
  have hz1 : W1.heap[w.heap.size]? = some (.cells #[.int .i64 0, .string ⟨#[]⟩, .slice none 0 0] 24 (0, 0)) := (hK1.block _ (by simp) (by omega)).trans (heap_alloc_new w _)
  have HZ : Hid (W1.heap[w.heap.size]? = some (.cells #[.int .i64 0, .string ⟨#[]⟩, .slice none 0 0] 24 (0, 0))) := hz1
  have hKW : Kept g w W1 := ((Kept.refl g w).alloc _).trans hK1
  rcases hE with ⟨j, hRj, hF, rfl⟩ | ⟨j, t, m, r, hRj, hD, hG, hij, hlen, hX, rfl⟩
  · have HF : Hid (∀ cs, Kept g w (W1.setRow w.heap.size cs) ∧ RAt (W1.setRow w.heap.size cs) g s j) := fun cs => ⟨hKW.setRow _ _ (Nat.le_refl _), hRj.setRow _ _ (by omega)⟩
    have HF2 : Hid (FR s RR j) := hF
    clear hKW hRj hF hK1 hz1 hgl HB HR0
    unfold zE refV
    go_wp2_with (refine wpList_store_row rfl 24 _ _ rfl w.heap.size #[.int .i64 0, .string ⟨#[]⟩, .slice none 0 0] rfl rfl 24 _ HZ.out sizeExpr rfl (ones3 _ _ _ _ _) ?_)
    refine bodyPost_ret (results_row_tmp rfl _ _ w.heap.size 24 #[.int .i64 0, .string ⟨#[]⟩, .slice none 0 0] (0, 0) _ rfl (setRow_heap _ _ _ _ _ _ HZ.out) Tryd.underlying24 rfl sizeExpr) rfl ?_
    exact ⟨(HF.out _).1, .inl ⟨j, (HF.out _).2, HF2.out, rfl⟩⟩
  · obtain ⟨k, nm, a, ln, cp⟩ := r
    unfold rawV at hX ⊢
    simp only at hX ⊢
    have HF : Hid (∀ cs, Kept g w (W1.setRow w.heap.size cs) ∧ RAt (W1.setRow w.heap.size cs) g s j ∧ ExA (fun b => w.heap.size ≤ b) (W1.setRow w.heap.size cs) m t (.agg #[.int .i64 k, .string nm, .slice a ln cp])) := fun cs => ⟨hKW.setRow _ _ (Nat.le_refl _), hRj.setRow _ _ (by omega), ExA.kept (by rw [size_setRow]; omega) (fun b hb hA => by simp only [World.size_alloc] at hA; exact ⟨by omega, setRow_other _ _ _ _ (by omega)⟩) _ _ _ hX⟩
    have HD : Hid (DB s RR t j ∧ Good t ∧ i < j ∧ (subs t).length + i ≤ j) := ⟨hD, hG, hij, hlen⟩
    clear hKW hD hG hij hlen hX hRj hK1 hz1 hgl HB HR0
    go_wp2_with (refine wpList_store_row rfl 24 _ _ rfl w.heap.size #[.int .i64 k, .string nm, .slice a ln cp] rfl rfl 24 _ HZ.out sizeExpr rfl (ones3 _ _ _ _ _) ?_)
    refine bodyPost_ret (results_row_tmp rfl _ _ w.heap.size 24 #[.int .i64 k, .string nm, .slice a ln cp] (0, 0) _ rfl (setRow_heap _ _ _ _ _ _ HZ.out) Tryd.underlying24 rfl sizeExpr) rfl ?_
    obtain ⟨d1, d2, d3, d4⟩ := HD.out
    exact ⟨(HF.out _).1, .inr ⟨_, t, m, (k, nm, a, ln, cp), (HF.out _).2.1, d1, d2, d3, d4, (HF.out _).2.2, rfl⟩⟩
/-- At every place. -/
theorem CH.all (g : Nat) (s : ByteArray) (hs : s.size ≤ 200) : ∀ n, CH g s n := by
  intro n
  induction n with
  | zero => intro W i _ _ h; exact absurd h (by omega)
  | succ n ih => intro W i hR hP hn; exact choices_calls g s n hs ih i W hR hP hn
end Go.Proofs.YtafidabopcgkhaaDoor
