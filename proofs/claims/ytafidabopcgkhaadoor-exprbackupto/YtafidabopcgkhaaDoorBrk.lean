/-
  PROVED HERE: the reader's brackets, bare and part, where choices reads what stands in brackets: what they return and leave.
-/
import Derived.Test.YtafidabopcgkhaaDoorPure5
import Derived.Test.YtafidabopcgkhaaDoorHeld
namespace Go.Proofs.YtafidabopcgkhaaDoor
open Go.RowKit

/-- What choices reads at every place with fewer than n bytes left. -/
def CH (g : Nat) (s : ByteArray) (n : Nat) : Prop := ∀ W i, RAt W g s i → Pl s i → s.size - i < n → Calls Tryd.prog 43 #[.pointer (some ⟨g, 0, none⟩)] W fun e W' => Kept g W W' ∧ Said g s W.heap.size i (FR s (altN n (left s i))) (DB s (altN n (left s i))) e W'
theorem bare_open {s : ByteArray} {n i : Nat} (h : Pl s i) (hp : pk s i = 40) : i < s.size ∧ bareL (altN n) (left s i) = match altN n (left s (skip s (i + 1))) with
      | (none, q') => (none, q')
      | (some _, []) => (none, [])
      | (some t, d :: q') => if d = 41 then (some t, skipL q') else (none, d :: q') := by
  rcases pk_left h.1 with ⟨e, hk, _⟩ | ⟨c, q, e, hk, hq, hlt⟩
  · rw [hk] at hp
    cases hp
  · obtain rfl : c = 40 := toNat_eq (n := 40) (by decide) (by rw [← hk, hp]; rfl)
    refine ⟨hlt, ?_⟩
    obtain ⟨p1, p2, p3⟩ := Pl.skip (s := s) (i := i + 1) (by omega)
    have hsk := h.2
    have ha : altN n (left s (skip s (i + 1))) = altN n q := altN_skip n (by rw [p3, skip_twice, hq])
    rw [ha]
    unfold bareL
    rw [hsk, e]
    simp only [show letter 40 = false from by decide, Bool.false_eq_true, if_false, if_true]
    rfl
theorem bare_none {s : ByteArray} {n i j : Nat} (h : Pl s i) (hp : pk s i = 40) (ha : altN n (left s (skip s (i + 1))) = (none, left s j)) : bareL (altN n) (left s i) = (none, left s j) := by
  rw [(bare_open h hp).2, ha]
theorem bare_end {s : ByteArray} {n i j : Nat} {t : DataW Unit} (h : Pl s i) (hp : pk s i = 40) (ha : altN n (left s (skip s (i + 1))) = (some t, left s j)) (hj : j ≤ s.size) (hc : pk s j ≠ 41) : bareL (altN n) (left s i) = (none, left s j) := by
  rw [(bare_open h hp).2, ha]
  rcases pk_left hj with ⟨e, hk, _⟩ | ⟨c, q, e, hk, hq, hlt⟩
  · rw [e]
  · rw [e]
    simp only
    rw [if_neg (by rintro rfl; exact hc (by rw [hk]; rfl))]
theorem bare_shut {s : ByteArray} {n i j : Nat} {t : DataW Unit} (h : Pl s i) (hp : pk s i = 40) (ha : altN n (left s (skip s (i + 1))) = (some t, left s j)) (hj : j ≤ s.size) (hc : pk s j = 41) : j < s.size ∧ bareL (altN n) (left s i) = (some t, left s (skip s (j + 1))) := by
  rcases pk_left hj with ⟨e, hk, _⟩ | ⟨c, q, e, hk, hq, hlt⟩
  · rw [hk] at hc
    cases hc
  · obtain rfl : c = 41 := toNat_eq (n := 41) (by decide) (by rw [← hk, hc]; rfl)
    obtain ⟨p1, p2, p3⟩ := Pl.skip (s := s) (i := j + 1) (by omega)
    refine ⟨hlt, ?_⟩
    rw [(bare_open h hp).2, ha, e]
    simp only [if_true]
    rw [p3, hq]
theorem Bad.pk {s : ByteArray} {j : Nat} (hj : j ≤ s.size) (h : Bad (left s j)) : pk s j ≠ 41 ∧ pk s j ≠ 124 := by
  obtain ⟨c, q, e, h1, h2⟩ := h
  rcases pk_left hj with ⟨e2, _⟩ | ⟨c2, q2, e2, hk, _⟩
  · rw [e] at e2
    cases e2
  · rw [e] at e2
    cases e2
    rw [hk]
    exact ⟨fun e => h2 (toNat_eq (n := 41) (by decide) e), fun e => h1 (toNat_eq (n := 124) (by decide) e)⟩

set_option maxRecDepth 100000 in
set_option maxHeartbeats 4000000 in
theorem brackets_calls (g : Nat) (s : ByteArray) (n : Nat) (hs : s.size ≤ 200) (hCH : CH g s n) (i : Nat) (w : World) (hR : RAt w g s i) (hP : Pl s i) (hn : s.size - i < n + 1) (hp : pk s i = 40) :
    Calls Tryd.prog 69 #[.pointer (some ⟨g, 0, none⟩)] w fun e w' => Kept g w w' ∧ Said g s w.heap.size i (FR s (bareL (altN n) (left s i))) (DR s (bareL (altN n) (left s i))) e w' := by
  obtain ⟨hlt, -⟩ := bare_open (n := n) hP hp
  obtain ⟨P1, p2, p3⟩ := Pl.skip (s := s) (i := i + 1) (by omega)
  have hgl := hR.lt
  have HG : Hid (g < w.heap.size) := hgl
  have HP1 : Hid (∀ W, RAt W g s i → Calls Tryd.prog 42 #[.pointer (some ⟨g, 0, none⟩), .int .i64 1] W fun r w' => r = .returned (.tuple #[]) ∧ RAt w' g s (skip s (i + 1)) ∧ Only g W w') := fun W h => pass_calls g s i 1 W h (by omega) (by omega)
  have HC : Hid (∀ W, RAt W g s (skip s (i + 1)) → Calls Tryd.prog 43 #[.pointer (some ⟨g, 0, none⟩)] W fun e W' => Kept g W W' ∧ Said g s W.heap.size (skip s (i + 1)) (FR s (altN n (left s (skip s (i + 1))))) (DB s (altN n (left s (skip s (i + 1))))) e W') := fun W h => hCH W _ h P1 (by omega)
  have HR0 : Hid (∀ o, RAt (w.alloc o) g s i) := fun o => hR.alloc o
  have HI : Hid (Pl s i ∧ pk s i = 40 ∧ i + 1 ≤ skip s (i + 1) ∧ s.size ≤ 200) := ⟨hP, hp, p2, hs⟩
  clear hR hP hp P1 p2 p3 hn hCH hs hlt hgl
  go_enter Tryd.func69, Tryd.ntmps69
  go_wp2_with fail
  refine (HP1.out _ (HR0.out _)).mono ?_
  rintro e1 W1 ⟨rfl, hR1, hO1⟩
  have hs1 : W1.heap.size = w.heap.size + 1 := by rw [hO1.size]; simp
  have hz1 : W1.heap[w.heap.size]? = some (.cells #[.int .i64 0, .string ⟨#[]⟩, .slice none 0 0] 24 (0, 0)) := (hO1.block _ (by have := HG.out; omega)).trans (heap_alloc_new w _)
  have hK1 : Kept g w W1 := ((Kept.refl g w).alloc _).trans hO1.kept
  clear hO1
  go_wp2_with fail
  refine (HC.out _ hR1).mono ?_
  rintro e2 W2 ⟨hK2, hE⟩
  have hz2 : W2.heap[w.heap.size]? = some (.cells #[.int .i64 0, .string ⟨#[]⟩, .slice none 0 0] 24 (0, 0)) := (hK2.block _ (by omega) (by have := HG.out; omega)).trans hz1
  have hKW : Kept g w W2 := hK1.trans hK2
  have hs2 := hK2.size
  rcases hE with ⟨j, hRj, hF, rfl⟩ | ⟨j, t, m, r, hRj, hD, hG, hij, hlen, hX, rfl⟩
  · have HZ : Hid (∀ o, (W2.alloc o).heap[w.heap.size]? = some (.cells #[.int .i64 0, .string ⟨#[]⟩, .slice none 0 0] 24 (0, 0))) := fun o => (Below.heap_alloc W2 o _ (by omega)).trans hz2
    have HF : Hid (∀ o cs, Kept g w ((W2.alloc o).setRow w.heap.size cs) ∧ RAt ((W2.alloc o).setRow w.heap.size cs) g s j) := fun o cs => ⟨(hKW.alloc o).setRow _ _ (Nat.le_refl _), (hRj.alloc o).setRow _ _ (by have := HG.out; omega)⟩
    have HF2 : Hid (FR s (bareL (altN n) (left s i)) j) := ⟨bare_none HI.out.1 HI.out.2.1 hF.1, hF.2⟩
    clear hKW hRj hF hK1 hK2 hz1 hz2 hR1 HP1 HC HR0
    unfold zE refV
    go_wp2_with (refine wpList_store_row rfl 24 _ _ rfl w.heap.size #[.int .i64 0, .string ⟨#[]⟩, .slice none 0 0] rfl rfl 24 _ (HZ.out _) sizeExpr rfl (ones3 _ _ _ _ _) ?_)
    refine bodyPost_ret (results_row_tmp rfl _ _ w.heap.size 24 #[.int .i64 0, .string ⟨#[]⟩, .slice none 0 0] (0, 0) _ rfl (setRow_heap _ _ _ _ _ _ (HZ.out _)) Tryd.underlying24 rfl sizeExpr) rfl ?_
    exact ⟨(HF.out _ _).1, .inl ⟨j, (HF.out _ _).2, HF2.out, rfl⟩⟩
  · obtain ⟨k, nm, a, ln, cp⟩ := r
    unfold rawV at hX ⊢
    simp only at hX ⊢
    have hjs := hD.2.1
    have HPK : Hid (∀ o, Calls Tryd.prog 54 #[.pointer (some ⟨g, 0, none⟩)] (W2.alloc o) fun r w' => r = .returned (.int .u8 (pk s j)) ∧ RAt w' g s j ∧ Only g (W2.alloc o) w') := fun o => rpeek_calls g s j _ (hRj.alloc o) hjs (by have := HI.out.2.2.2; omega)
    by_cases hc : pk s j = 41
    · rw [hc] at HPK
      have hal : altN n (left s (skip s (i + 1))) = (some t, left s j) := by
        rcases hD.1 with h | ⟨_, h⟩
        · exact h
        · exact absurd hc (h.pk hjs).1
      obtain ⟨hjl, hbs⟩ := bare_shut HI.out.1 HI.out.2.1 hal hjs hc
      obtain ⟨P2, q2, q3⟩ := Pl.skip (s := s) (i := j + 1) (by omega)
      have HP2 : Hid (∀ W, RAt W g s j → Calls Tryd.prog 42 #[.pointer (some ⟨g, 0, none⟩), .int .i64 1] W fun r w' => r = .returned (.tuple #[]) ∧ RAt w' g s (skip s (j + 1)) ∧ Only g W w') := fun W h => pass_calls g s j 1 W h (by omega) (by have := HI.out.2.2.2; omega)
      have HD : Hid (DR s (bareL (altN n) (left s i)) t (skip s (j + 1)) ∧ Good t ∧ i < skip s (j + 1) ∧ (subs t).length + i ≤ skip s (j + 1)) := ⟨⟨hbs, P2⟩, hG, by have := HI.out.2.2.1; omega, by have := HI.out.2.2.1; omega⟩
      have HX : Hid (ExA (fun b => W1.heap.size ≤ b) W2 m t (.agg #[.int .i64 k, .string nm, .slice a ln cp])) := hX
      have HW : Hid (Kept g w W2 ∧ W2.heap[w.heap.size]? = some (.cells #[.int .i64 0, .string ⟨#[]⟩, .slice none 0 0] 24 (0, 0)) ∧ W1.heap.size = w.heap.size + 1 ∧ W1.heap.size ≤ W2.heap.size) := ⟨hKW, hz2, hs1, hs2⟩
      clear hX hD hG hij hlen hal hjl hbs P2 q2 q3 hc hjs hRj hKW hK1 hK2 hz1 hz2 hR1 HP1 HC HR0 hs1 hs2
      go_wp2_with fail
      refine (HPK.out _).mono ?_
      rintro e3 W3 ⟨rfl, hR3, hO3⟩
      go_wp2_with fail
      refine (HP2.out _ hR3).mono ?_
      rintro e4 W4 ⟨rfl, hR4, hO4⟩
      obtain ⟨hKW, hz2, hs1, hs2⟩ := HW.out
      have hO := hO3.trans hO4
      have hs4 : W4.heap.size = W2.heap.size + 1 := by rw [hO.size]; simp
      have hb4 : ∀ b, b < W2.heap.size → b ≠ g → W4.heap[b]? = W2.heap[b]? := fun b hb hg => (hO.block b hg).trans (Below.heap_alloc W2 _ b hb)
      have hgl := HG.out
      have hg2 : g ≠ W2.heap.size := by omega
      have he4 : W4.heap[W2.heap.size]? = some (.cells #[.int .i64 k, .string nm, .slice a ln cp] 24 (0, 0)) := (hO.block _ (Ne.symm hg2)).trans (heap_alloc_new W2 _)
      have c0 := cell_of_row W4 W2.heap.size 0 _ _ _ he4
      have c1 := cell_of_row W4 W2.heap.size 1 _ _ _ he4
      have c2 := cell_of_row W4 W2.heap.size 2 _ _ _ he4
      have c0' : W4.cell? ⟨W2.heap.size, 0, none⟩ = some (.int .i64 k) := c0
      have c1' : W4.cell? ⟨W2.heap.size, 1, none⟩ = some (.string nm) := c1
      have c2' : W4.cell? ⟨W2.heap.size, 2, none⟩ = some (.slice a ln cp) := c2
      have HZ : Hid (W4.heap[w.heap.size]? = some (.cells #[.int .i64 0, .string ⟨#[]⟩, .slice none 0 0] 24 (0, 0))) := (hb4 _ (by omega) (by omega)).trans hz2
      have HF : Hid (∀ cs, Kept g w (W4.setRow w.heap.size cs) ∧ RAt (W4.setRow w.heap.size cs) g s (skip s (j + 1)) ∧ ExA (fun b => w.heap.size ≤ b) (W4.setRow w.heap.size cs) m t (.agg #[.int .i64 k, .string nm, .slice a ln cp])) := fun cs => ⟨(hKW.trans ((Kept.refl g W2).alloc _ |>.trans hO.kept)).setRow _ _ (Nat.le_refl _), hR4.setRow _ _ (by omega), ExA.kept (by rw [size_setRow]; omega) (fun b hb hA => ⟨by omega, (setRow_other _ _ _ _ (by omega)).trans (hb4 b hb (by omega))⟩) _ _ _ HX.out⟩
      clear hKW hz2 hs1 hs2 hO hs4 hb4 hgl he4 hR4 hO4 hR3 hO3 HX HW HP2 HPK c0 c1 c2
      go_wp2_with (refine wpList_store_row rfl 24 _ _ rfl w.heap.size #[.int .i64 k, .string nm, .slice a ln cp] rfl rfl 24 _ HZ.out sizeExpr rfl (ones3 _ _ _ _ _) ?_)
      refine bodyPost_ret (results_row_tmp rfl _ _ w.heap.size 24 #[.int .i64 k, .string nm, .slice a ln cp] (0, 0) _ rfl (setRow_heap _ _ _ _ _ _ HZ.out) Tryd.underlying24 rfl sizeExpr) rfl ?_
      obtain ⟨d1, d2, d3, d4⟩ := HD.out
      exact ⟨(HF.out _).1, .inr ⟨_, t, m, (k, nm, a, ln, cp), (HF.out _).2.1, d1, d2, d3, d4, (HF.out _).2.2, rfl⟩⟩
    · have HF2 : Hid (FR s (bareL (altN n) (left s i)) j) := by
        refine ⟨?_, hD.2⟩
        rcases hD.1 with h | ⟨h, _⟩
        · exact bare_end HI.out.1 HI.out.2.1 h hjs hc
        · exact bare_none HI.out.1 HI.out.2.1 h
      generalize pk s j = C at *
      have e1 : (C == 41) = false := by rw [beq_eq_false_iff_ne]; exact hc
      have e2 : (C != 41) = true := by rw [bne_iff_ne]; exact hc
      have HRF : Hid (∀ W, RAt W g s j → Calls Tryd.prog 44 #[.pointer (some ⟨g, 0, none⟩)] W fun r w' => r = .returned (refV j 4) ∧ w' = W) := fun W h => refuse_calls g s j W h
      have HW : Hid (Kept g w W2 ∧ W2.heap[w.heap.size]? = some (.cells #[.int .i64 0, .string ⟨#[]⟩, .slice none 0 0] 24 (0, 0)) ∧ w.heap.size < W2.heap.size) := ⟨hKW, hz2, by omega⟩
      clear hX hD hG hij hlen hc hjs hRj hKW hK1 hK2 hz1 hz2 hR1 HP1 HC HR0 hs1 hs2
      go_wp2_with fail
      refine (HPK.out _).mono ?_
      rintro e3 W3 ⟨rfl, hR3, hO3⟩
      go_wp2_with fail
      refine (HRF.out _ hR3).mono ?_
      rintro e4 W4 ⟨rfl, hW4⟩
      rw [hW4]
      clear hW4
      obtain ⟨hKW, hz2, hlt⟩ := HW.out
      have hgl := HG.out
      have HZ : Hid (W3.heap[w.heap.size]? = some (.cells #[.int .i64 0, .string ⟨#[]⟩, .slice none 0 0] 24 (0, 0))) := (hO3.block _ (by omega)).trans ((Below.heap_alloc W2 _ _ hlt).trans hz2)
      have HF : Hid (∀ cs, Kept g w (W3.setRow w.heap.size cs) ∧ RAt (W3.setRow w.heap.size cs) g s j) := fun cs => ⟨(hKW.trans ((Kept.refl g W2).alloc _ |>.trans hO3.kept)).setRow _ _ (Nat.le_refl _), hR3.setRow _ _ (by omega)⟩
      clear hKW hz2 hlt hgl hO3 hR3 HW HRF HPK
      go_wp2_with (refine wpList_store_row rfl 24 _ _ rfl w.heap.size #[.int .i64 0, .string ⟨#[]⟩, .slice none 0 0] rfl rfl 24 _ HZ.out sizeExpr rfl (ones3 _ _ _ _ _) ?_)
      refine bodyPost_ret (results_row_tmp rfl _ _ w.heap.size 24 #[.int .i64 0, .string ⟨#[]⟩, .slice none 0 0] (0, 0) _ rfl (setRow_heap _ _ _ _ _ _ HZ.out) Tryd.underlying24 rfl sizeExpr) rfl ?_
      exact ⟨(HF.out _).1, .inl ⟨j, (HF.out _).2, HF2.out, rfl⟩⟩
end Go.Proofs.YtafidabopcgkhaaDoor
