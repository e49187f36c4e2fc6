/-
  PROVED HERE: the reader's part, where choices reads what stands in brackets: what it returns and leaves.
-/
import Derived.Test.YtafidabopcgkhaaDoorSign
namespace Go.Proofs.YtafidabopcgkhaaDoor
open Go.RowKit

set_option maxRecDepth 100000 in
set_option maxHeartbeats 4000000 in
theorem part_calls (g : Nat) (s : ByteArray) (n : Nat) (hs : s.size ≤ 200) (hCH : CH g s n) (i : Nat) (w : World) (hR : RAt w g s i) (hP : Pl s i) (hn : s.size - i < n + 1) :
    Calls Tryd.prog 64 #[.pointer (some ⟨g, 0, none⟩)] w fun e w' => Kept g w w' ∧ Said g s w.heap.size i (FR s (partL (altN n) (left s i))) (DR s (partL (altN n) (left s i))) e w' := by
  have hgl := hR.lt
  have HG : Hid (g < w.heap.size ∧ s.size ≤ 200) := ⟨hgl, hs⟩
  have HB : Hid (∀ W, RAt W g s i → Calls Tryd.prog 66 #[.pointer (some ⟨g, 0, none⟩)] W fun e w' => Kept g W w' ∧ Said g s W.heap.size i (FR s (bareL (altN n) (left s i))) (DR s (bareL (altN n) (left s i))) e w') := fun W h => bare_calls g s n hs hCH i W h hP hn
  have HR0 : Hid (∀ o, RAt (w.alloc o) g s i) := fun o => hR.alloc o
  clear hR hP hn hCH hs hgl
  go_enter Tryd.func64, Tryd.ntmps64
  go_wp2_with fail
  refine (HB.out _ (HR0.out _)).mono ?_
  rintro e1 W1 ⟨hK1, hE⟩
  have hgl := HG.out.1
  have hz1 : W1.heap[w.heap.size]? = some (.cells #[.int .i64 0, .string ⟨#[]⟩, .slice none 0 0] 24 (0, 0)) := (hK1.block _ (by simp) (by omega)).trans (heap_alloc_new w _)
  have hKW : Kept g w W1 := ((Kept.refl g w).alloc _).trans hK1
  have hs1 : w.heap.size < W1.heap.size := (Array.getElem?_eq_some_iff.1 hz1).1
  rcases hE with ⟨j, hRj, hF, rfl⟩ | ⟨j, t, m, r, hRj, hD, hG, hij, hlen, hX, rfl⟩
  · have HZ : Hid (∀ o, (W1.alloc o).heap[w.heap.size]? = some (.cells #[.int .i64 0, .string ⟨#[]⟩, .slice none 0 0] 24 (0, 0))) := fun o => (Below.heap_alloc W1 o _ hs1).trans hz1
    have HF : Hid (∀ o cs, Kept g w ((W1.alloc o).setRow w.heap.size cs) ∧ RAt ((W1.alloc o).setRow w.heap.size cs) g s j) := fun o cs => ⟨(hKW.alloc o).setRow _ _ (Nat.le_refl _), (hRj.alloc o).setRow _ _ (by omega)⟩
    have HF2 : Hid (FR s (partL (altN n) (left s i)) j) := ⟨by rw [part_bare, hF.1], hF.2⟩
    clear hKW hRj hF hK1 hz1 hs1 hgl HB HR0
    unfold zE refV
    go_wp2_with (refine wpList_store_row rfl 24 _ _ rfl w.heap.size #[.int .i64 0, .string ⟨#[]⟩, .slice none 0 0] rfl rfl 24 _ (HZ.out _) sizeExpr rfl (ones3 _ _ _ _ _) ?_)
    refine bodyPost_ret (results_row_tmp rfl _ _ w.heap.size 24 #[.int .i64 0, .string ⟨#[]⟩, .slice none 0 0] (0, 0) _ rfl (setRow_heap _ _ _ _ _ _ (HZ.out _)) Tryd.underlying24 rfl sizeExpr) rfl ?_
    exact ⟨(HF.out _ _).1, .inl ⟨j, (HF.out _ _).2, HF2.out, rfl⟩⟩
  · obtain ⟨k, nm, a, ln, cp⟩ := r
    unfold rawV at hX ⊢
    simp only at hX ⊢
    obtain ⟨T, hT⟩ : ∃ T, signsL t (left s j) = T := ⟨_, rfl⟩
    have HT : Hid (partL (altN n) (left s i) = (some T.1, T.2)) := by show _ = _; rw [part_bare, hD.1, ← hT]
    have HS : Hid (Sgn g s w (W1.alloc (.cells #[.int .i64 k, .string nm, .slice a ln cp] 24)) W1.heap.size i j T t m k nm a ln cp) := ⟨hRj.alloc _, hD.2, hT, hG, hij, hlen, hKW.alloc _, (Below.heap_alloc W1 _ _ hs1).trans hz1, heap_alloc_new W1 _, hs1, ExA.kept (by simp) (fun b hb hA => ⟨by simp only [World.size_alloc] at hA; omega, Below.heap_alloc W1 _ b hb⟩) _ _ _ hX⟩
    clear hX hD hG hij hlen hRj hKW hK1 hz1 hs1 hgl HB HR0 hT
    obtain ⟨Eb, hEb⟩ : ∃ Eb, W1.heap.size = Eb := ⟨_, rfl⟩
    go_wp2
    rw [hEb] at HS
    clear hEb
    go_loopg [] (s.size + 1) (fun f w' => ∃ j t m k nm a ln cp, s.size - j < f ∧ Sgn g s w w' Eb i j T t m k nm a ln cp)
    case atStart => exact ⟨j, t, m, k, nm, a, ln, cp, by omega, HS.out⟩
    case round =>
      clear HS
      obtain ⟨j, t, m, k, nm, a, ln, cp, hf, hH⟩ := hrel
      have HPK : Hid (Calls Tryd.prog 54 #[.pointer (some ⟨g, 0, none⟩)] wr fun r w' => r = .returned (.int .u8 (pk s j)) ∧ RAt w' g s j ∧ Only g wr w') := rpeek_calls g s j wr hH.rat hH.pl.1 (by have := HG.out.2; omega)
      have hpr := pk_range hH.pl.1
      have HIX : Hid (∀ W, Calls Tryd.prog 67 #[.string ⟨#[42, 43, 63]⟩, .int .u8 (pk s j)] W fun e w' => e = .returned (.int .i64 (signIx (pk s j))) ∧ w' = W) := fun W => indexbyte_calls (pk s j) hpr.1 hpr.2 W
      have hsr := sign_range (pk s j)
      by_cases hsg : signIx (pk s j) < 0
      · have hst := sign_stop hH.pl t hsg
        have hT := hH.signs
        rw [hst] at hT
        have HD : Hid (DR s (partL (altN n) (left s i)) t j) := ⟨by rw [HT.out, ← hT], hH.pl⟩
        have HH : Hid (Sgn g s w wr Eb i j T t m k nm a ln cp) := hH
        obtain ⟨C, hC⟩ : ∃ C, pk s j = C := ⟨_, rfl⟩
        rw [hC] at HPK HIX hsg
        clear hst hT hH hC hpr hsr HT
        obtain ⟨I, hI⟩ : ∃ I, signIx C = I := ⟨_, rfl⟩
        rw [hI] at HIX hsg
        clear hI
        go_wp2_with fail
        refine HPK.out.mono ?_
        rintro e3 W3 ⟨rfl, hR3, hO3⟩
        go_wp2_with fail
        refine (HIX.out _).mono ?_
        rintro e4 W4 ⟨rfl, hW4⟩
        rw [hW4]
        clear hW4
        have hgl := HG.out.1
        have heb := HH.out.eb
        have hv := HH.out.var
        have he3 : W3.heap[Eb]? = some (.cells #[.int .i64 k, .string nm, .slice a ln cp] 24 (0, 0)) := (hO3.block _ (by omega)).trans hv
        have c0 : W3.cell? ⟨Eb, 0, none⟩ = some (.int .i64 k) := cell_of_row W3 Eb 0 _ _ _ he3
        have c1 : W3.cell? ⟨Eb, 1, none⟩ = some (.string nm) := cell_of_row W3 Eb 1 _ _ _ he3
        have c2 : W3.cell? ⟨Eb, 2, none⟩ = some (.slice a ln cp) := cell_of_row W3 Eb 2 _ _ _ he3
        have HZ : Hid (W3.heap[w.heap.size]? = some (.cells #[.int .i64 0, .string ⟨#[]⟩, .slice none 0 0] 24 (0, 0))) := (hO3.block _ (by omega)).trans HH.out.zero
        have HF : Hid (∀ cs, Kept g w (W3.setRow w.heap.size cs) ∧ RAt (W3.setRow w.heap.size cs) g s j ∧ ExA (fun b => w.heap.size ≤ b) (W3.setRow w.heap.size cs) m t (.agg #[.int .i64 k, .string nm, .slice a ln cp])) := fun cs => ⟨(HH.out.kept.trans hO3.kept).setRow _ _ (Nat.le_refl _), hR3.setRow _ _ (by omega), ExA.kept (by rw [size_setRow, hO3.size]; omega) (fun b hb hA => ⟨by omega, (setRow_other _ _ _ _ (by omega)).trans (hO3.block b (by omega))⟩) _ _ _ HH.out.ex⟩
        clear hgl heb hv he3 hR3 hO3 HPK HIX
        go_wp2_with (refine wpList_store_row rfl 24 _ _ rfl w.heap.size #[.int .i64 k, .string nm, .slice a ln cp] rfl rfl 24 _ HZ.out sizeExpr rfl (ones3 _ _ _ _ _) ?_)
        refine bodyPost_ret (results_row_tmp rfl _ _ w.heap.size 24 #[.int .i64 k, .string nm, .slice a ln cp] (0, 0) _ rfl (setRow_heap _ _ _ _ _ _ HZ.out) Tryd.underlying24 rfl sizeExpr) rfl ?_
        exact ⟨(HF.out _).1, .inr ⟨j, t, m, (k, nm, a, ln, cp), (HF.out _).2.1, HD.out, HH.out.good, HH.out.lt, HH.out.wid, (HF.out _).2.2, rfl⟩⟩
      · obtain ⟨hjl, -⟩ := sign_step hH.pl t hsg
        obtain ⟨P2, q2, q3⟩ := Pl.skip (s := s) (i := j + 1) (by omega)
        have HP2 : Hid (∀ W, RAt W g s j → Calls Tryd.prog 42 #[.pointer (some ⟨g, 0, none⟩), .int .i64 1] W fun r w' => r = .returned (.tuple #[]) ∧ RAt w' g s (skip s (j + 1)) ∧ Only g W w') := fun W h => pass_calls g s j 1 W h (by omega) (by have := HG.out.2; omega)
        have HH : Hid (Sgn g s w wr Eb i j T t m k nm a ln cp) := hH
        have HN : Hid (s.size - skip s (j + 1) < gk - 1 ∧ gk - 1 < gk) := ⟨by have := P2.1; omega, by omega⟩
        have HST : Hid (∀ W1 W2, Only g wr W1 → Only g ((W1.alloc (.cells #[.int .i64 k, .string nm, .slice a ln cp] 24)).setRow Eb #[.int .i64 (4 + signIx (pk s j)), .string ⟨#[]⟩, .slice (some ⟨W1.heap.size, 0, none⟩) 1 1]) W2 → RAt W2 g s (skip s (j + 1)) → Sgn g s w W2 Eb i (skip s (j + 1)) T (node (4 + signIx (pk s j)) ⟨#[]⟩ [t]) (m + 1) (4 + signIx (pk s j)) ⟨#[]⟩ (some ⟨W1.heap.size, 0, none⟩) 1 1) := fun W1 W2 h1 h2 h3 => hH.step HG.out.1 hsg h1 h2 h3
        clear hjl P2 q2 q3 hH hpr
        generalize signIx (pk s j) = I at *
        generalize pk s j = C at *
        have hwr : IntKind.i64.wrap (4 + I) = 4 + I := by rw [IntKind.wrap_i64]; omega
        go_wp2_with fail
        refine HPK.out.mono ?_
        rintro e3 W3 ⟨rfl, hR3, hO3⟩
        go_wp2_with fail
        refine (HIX.out _).mono ?_
        rintro e4 W4 ⟨rfl, hW4⟩
        rw [hW4]
        clear hW4
        have hgl := HG.out.1
        have heb := HH.out.eb
        have hv := HH.out.var
        have hbe : Eb < wr.heap.size := (Array.getElem?_eq_some_iff.1 hv).1
        have he3 : W3.heap[Eb]? = some (.cells #[.int .i64 k, .string nm, .slice a ln cp] 24 (0, 0)) := (hO3.block _ (by omega)).trans hv
        have c0 : W3.cell? ⟨Eb, 0, none⟩ = some (.int .i64 k) := cell_of_row W3 Eb 0 _ _ _ he3
        have c1 : W3.cell? ⟨Eb, 1, none⟩ = some (.string nm) := cell_of_row W3 Eb 1 _ _ _ he3
        have c2 : W3.cell? ⟨Eb, 2, none⟩ = some (.slice a ln cp) := cell_of_row W3 Eb 2 _ _ _ he3
        have HE : Hid (∀ o, (W3.alloc o).heap[Eb]? = some (.cells #[.int .i64 k, .string nm, .slice a ln cp] 24 (0, 0))) := fun o => (Below.heap_alloc W3 o Eb (by rw [hO3.size]; exact hbe)).trans he3
        have HR2 : Hid (∀ o cs, RAt ((W3.alloc o).setRow Eb cs) g s j) := fun o cs => (hR3.alloc o).setRow _ _ (by omega)
        have HO3 : Hid (Only g wr W3) := hO3
        clear hgl heb hv hbe he3 hR3 hO3 HPK HIX
        go_wp2_with (refine wpList_store_row rfl 24 _ _ rfl Eb #[.int .i64 (4 + I), .string ⟨#[]⟩, .slice (some ⟨W3.heap.size, 0, none⟩) 1 1] rfl rfl 24 _ (HE.out _) sizeExpr rfl (ones3 _ _ _ _ _) ?_)
        refine (HP2.out _ (HR2.out _ _)).mono ?_
        rintro e5 W5 ⟨rfl, hR5, hO5⟩
        have HS5 : Hid (Sgn g s w W5 Eb i (skip s (j + 1)) T (node (4 + I) ⟨#[]⟩ [t]) (m + 1) (4 + I) ⟨#[]⟩ (some ⟨W3.heap.size, 0, none⟩) 1 1) := HST.out W3 W5 HO3.out hO5 hR5
        clear hR5 hO5 HST HE HR2 HP2 HH
        go_wp2
        go_roundg (gk - 1)
        case measure => exact HN.out.2
        case rel => exact ⟨_, _, _, _, _, _, _, _, HN.out.1, HS5.out⟩
end Go.Proofs.YtafidabopcgkhaaDoor
