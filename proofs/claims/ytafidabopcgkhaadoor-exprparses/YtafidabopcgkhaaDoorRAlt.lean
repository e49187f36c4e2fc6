/-
  PROVED HERE: the document's own alt at every place: what it returns and leaves.
-/
import Derived.Test.YtafidabopcgkhaaDoorRSeq
namespace Go.Proofs.YtafidabopcgkhaaDoor
open Go.RowKit

set_option maxRecDepth 100000 in
set_option maxHeartbeats 2000000 in
theorem ralt_calls (g : Nat) (s : ByteArray) (n : Nat) (hs : s.size ≤ 200) (hCH : RCH g s n) (i : Nat) (w : World) (hR : PAt w g s i false) (hi : i ≤ s.size) (hn : s.size - i < n + 1) :
    Calls Tryd.prog 21 #[.pointer (some ⟨g, 0, none⟩)] w fun e w' => Kept g w w' ∧ RSaid g s w.heap.size i (altL (seqL (partL (altN n))) (left s i)) e w' := by
  have hmx : Tryd.prog.follows .mixedOrders = true := by kernel_rfl
  have hgl := hR.lt
  obtain ⟨RR, hRR⟩ : ∃ RR, altL (seqL (partL (altN n))) (left s i) = RR := ⟨_, rfl⟩
  rw [hRR]
  have HG : Hid (g < w.heap.size) := hgl
  have HPK : Hid (∀ W j, PAt W g s j false → Pl s j → Calls Tryd.prog 20 #[.pointer (some ⟨g, 0, none⟩)] W fun r w' => r = .returned (.int .u8 (peekC s j false)) ∧ PAt w' g s j false ∧ Only g W w') := fun W j h hj => by
    have := peek_calls g s j false W h hj.1 (by have := hj.1; omega)
    rwa [hj.stay] at this
  have HPT : Hid (∀ W j, PAt W g s j false → j ≤ s.size → i ≤ j → Calls Tryd.prog 33 #[.pointer (some ⟨g, 0, none⟩)] W fun e W' => Kept g W W' ∧ RSaid g s W.heap.size j (seqL (partL (altN n)) (left s j)) e W') := fun W j h hj hij => rseq_calls g s n hs hCH j W h hj (by omega)
  have HJN : Hid (∀ W j l v n f, HeldQ 3 g s f w W i j l v n → Pl s j → i ≤ j → ((f = false ∧ RR = (some (joinT 3 l), left s j)) ∨ (f = true ∧ RR = (none, left s j))) → Calls Tryd.prog 34 #[.int .i64 3, v] W fun e w' => ∃ r, e = .returned (rawV r) ∧ w'.heap[w.heap.size]? = some (.cells #[.int .i64 0, .string ⟨#[]⟩, .slice none 0 0] 24 (0, 0)) ∧ ∀ cs, Kept g w (w'.setRow w.heap.size cs) ∧ RSaid g s w.heap.size i RR (.returned (rawV r)) (w'.setRow w.heap.size cs)) := fun W j l v n f h1 h2 h3 h4 => h1.ends (by omega) hgl hs h2 h3 h4
  have HR : Hid (∀ o, PAt (w.alloc o) g s i false) := fun o => hR.alloc o
  have HI : Hid (i ≤ s.size ∧ s.size ≤ 200) := ⟨hi, hs⟩
  have HQ0 : Hid (∀ f t j, Step s (seqL (partL (altN n)) (left s i)) f t i j → SA s (seqL (partL (altN n))) RR f [t] j) := fun f t j h => hRR ▸ SA.first h
  clear hR hCH hn hgl hRR hi hs
  go_enter Tryd.func21, Tryd.ntmps21
  go_wp2_with fail
  refine (HPT.out _ i (HR.out _) HI.out.1 (Nat.le_refl _)).mono ?_
  rintro e1 W1 ⟨hK1, j, t, m, ⟨k, nm, a, ln, cp⟩, f, hP1, hPl, hij, hG, h99, hX, rfl, hcase⟩
  unfold rawV at hX ⊢
  simp only at hX ⊢
  have hH := HeldQ.start 3 HG.out rfl hK1 hP1 hG h99 hX (Step.wid hcase hij)
  have HQ : Hid (SA s (seqL (partL (altN n))) RR f [t] j) := HQ0.out _ _ _ hcase
  clear hK1 hP1 hG h99 hX hcase HR HQ0
  go_wp2
  go_loopg [3] (s.size + 1 - j) (fun gk u w' => ∃ v j l c f, v = u ∧ HeldQ 3 g s f w w' i j l v c ∧ Pl s j ∧ i ≤ j ∧ (f = false → s.size + 1 - j ≤ gk) ∧ SA s (seqL (partL (altN n))) RR f l j)
  case atStart => exact ⟨_, j, [t], 1, f, rfl, hH, hPl, hij, fun _ => Nat.le_refl _, HQ.out⟩
  case round =>
    clear HQ hH hPl hij
    obtain ⟨v, j2, l2, n2, f2, hvu, hH, hPl, hij, hgk, hq⟩ := hrel
    subst hvu
    have HQ : Hid (SA s (seqL (partL (altN n))) RR f2 l2 j2) := hq
    have HH : Hid (HeldQ 3 g s f2 w wr i j2 l2 v n2) := hH
    obtain ⟨g0, g1, g2, g3, g4⟩ := hH.pat.cells
    have HP : Hid (Pl s j2 ∧ i ≤ j2 ∧ (f2 = false → s.size + 1 - j2 ≤ gk) ∧ j2 ≤ 200) := ⟨hPl, hij, hgk, Nat.le_trans hPl.1 HI.out.2⟩
    clear hH hq hPl hij hgk
    cases f2 with
    | true =>
      have HJ := HJN.out wr j2 l2 v n2 true HH.out HP.out.1 HP.out.2.1 (.inr ⟨rfl, by rcases HQ.out with ⟨h, _⟩ | ⟨_, h⟩; cases h; exact h⟩)
      clear HJN HPT HPK HQ HH HP
      go_wp2_with fail
      refine HJ.mono ?_
      clear HJ
      rintro e9 W9 ⟨⟨k, nm, a, ln, cp⟩, rfl, hz9, hr9⟩
      have HZ : Hid (W9.heap[w.heap.size]? = some (.cells #[.int .i64 0, .string ⟨#[]⟩, .slice none 0 0] 24 (0, 0))) := hz9
      have HF : Hid (∀ cs, Kept g w (W9.setRow w.heap.size cs) ∧ RSaid g s w.heap.size i RR (.returned (rawV (k, nm, a, ln, cp))) (W9.setRow w.heap.size cs)) := hr9
      clear hz9 hr9
      unfold rawV
      simp only
      go_wp2_with (refine wpList_store_row rfl 24 _ _ rfl w.heap.size #[.int .i64 k, .string nm, .slice a ln cp] rfl rfl 24 _ HZ.out sizeExpr rfl (ones3 _ _ _ _ _) ?_)
      refine bodyPost_ret (results_cell_row rfl _ _ w.heap.size 24 #[.int .i64 k, .string nm, .slice a ln cp] (0, 0) _ rfl (setRow_heap _ _ _ _ _ _ HZ.out) Tryd.underlying24 rfl sizeExpr) rfl ?_
      exact HF.out _
    | false =>
      have HK : Hid (s.size + 1 - j2 ≤ gk) := HP.out.2.2.1 rfl
      have HPK2 := HPK.out wr j2 HH.out.pat HP.out.1
      have hcs : (∃ q, left s j2 = 124 :: q ∧ peekC s j2 false = 124 ∧ left s (j2 + 1) = q ∧ j2 < s.size) ∨ ((left s j2 = [] ∨ ∃ c q, left s j2 = c :: q ∧ c ≠ 124) ∧ (peekC s j2 false == 124) = false) := by
        have h0 := rk_left HP.out.1.1
        rw [HP.out.1.stay] at h0
        rcases h0 with ⟨hl, hk⟩ | ⟨c, q, hl, hk, hq, hlt⟩
        · exact .inr ⟨.inl hl, by rw [hk]; rfl⟩
        · by_cases hc : c = 124
          · subst hc
            exact .inl ⟨q, hl, hk, hq, hlt⟩
          · refine .inr ⟨.inr ⟨c, q, hl, hc⟩, ?_⟩
            rw [hk, beq_eq_false_iff_ne]
            exact fun e => hc ((max_one (n := 124) (by decide) (by decide)).1 e)
      rcases hcs with ⟨q, hl, hk, hq, hlt⟩ | ⟨hst0, hb⟩
      · rw [hk] at HPK2
        have HL : Hid (left s j2 = 124 :: left s (j2 + 1) ∧ j2 < s.size) := ⟨by rw [hq]; exact hl, hlt⟩
        have hj2 : j2 ≤ 200 := HP.out.2.2.2
        clear HPK HJN hl hk hq hlt
        go_wp2_with fail
        refine HPK2.mono ?_
        clear HPK2
        rintro e5 W5 ⟨rfl, hP5, hO5⟩
        clear g0 g1 g2 g3 g4
        obtain ⟨g0, g1, g2, g3, g4⟩ := hP5.cells
        obtain ⟨W8, hW8⟩ : ∃ W8, W8 = W5.setCell ⟨g, 1, none⟩ (.int .i64 ((j2 : Nat) + 1)) := ⟨_, rfl⟩
        have hP8 : PAt W8 g s (j2 + 1) false := by rw [hW8]; exact hP5.next (j2 + 1)
        have hK8 : Kept g W5 W8 := ⟨by rw [hW8]; rfl, by rw [hW8]; rfl, by rw [hW8]; rfl, by rw [hW8]; simp, fun b _ hb => by rw [hW8]; exact Below.heap_setCell _ _ _ _ hb⟩
        have HH5 : Hid (HeldQ 3 g s false w W8 i (j2 + 1) l2 v n2) := HH.out.next HG.out (hO5.kept.trans hK8) hP8 (by omega)
        have HPT2 := HPT.out W8 (j2 + 1) hP8 HL.out.2 (by have := HP.out.2.1; omega)
        have HW8 : Hid (W8 = W5.setCell ⟨g, 1, none⟩ (.int .i64 ((j2 : Nat) + 1))) := hW8
        clear HH HPT hP5 hO5 hW8 hP8 hK8
        go_wp2_with fail
        rw [← HW8.out]
        clear g0 g1 g2 g3 g4 HW8
        refine HPT2.mono ?_
        clear HPT2
        rintro e6 W6 ⟨hK6, j3, t3, m3, ⟨k3, nm3, a3, ln3, cp3⟩, f3, hP6, hPl3, hij3, hG3, h993, hX3, rfl, hcase3⟩
        unfold rawV at hX3 ⊢
        simp only at hX3 ⊢
        have hst : Step s (seqL (partL (altN n)) (left s (j2 + 1))) f3 t3 (j2 + 1) j3 := hcase3
        have hj3 : j3 ≤ 200 := Nat.le_trans hPl3.1 HI.out.2
        obtain ⟨v7, W7, hrun, hH7⟩ := HH5.out.append (i1 := (j2 + 1)) HG.out hK6 hP6 (by omega) hG3 h993 hX3 (hst.wid hij3) hj3
        have HH7 : Hid (HeldQ 3 g s f3 w W7 i j3 (l2 ++ [t3]) v7 (n2 + 1)) := hH7
        have HQ7 : Hid (SA s (seqL (partL (altN n))) RR f3 (l2 ++ [t3]) j3) := HQ.out.next HL.out.1 hst
        have hN7 : f3 = false → s.size + 1 - j3 < gk := by
          intro e
          rcases hcase3 with ⟨_, _, h, _⟩ | ⟨h, _, _⟩
          · have := HK.out
            have := hPl3.1
            omega
          · rw [h] at e
            cases e
        have hN8 : i ≤ j3 := by have := HP.out.2.1; omega
        have hN9 : 0 < gk := by have := HK.out; have := HP.out.1.1; omega
        have HN7 : Hid (Pl s j3 ∧ i ≤ j3 ∧ (f3 = false → s.size + 1 - j3 < gk) ∧ 0 < gk) := ⟨hPl3, hN8, hN7, hN9⟩
        clear hN7 hN8 hN9 hK6 hP6 hPl3 hij3 hG3 h993 hX3 hcase3 hst hj3 hH7
        go_wp2_with (refine wpList_run_append rfl _ _ 22 rfl _ _ v7 W7 rfl rfl hrun ?_)
        cases f3 with
        | false =>
          go_roundg (s.size + 1 - j3)
          case measure => exact HN7.out.2.2.1 rfl
          case rel => exact ⟨_, j3, l2 ++ [t3], n2 + 1, false, rfl, HH7.out, HN7.out.1, HN7.out.2.1, fun _ => Nat.le_refl _, HQ7.out⟩
        | true =>
          go_roundg 0
          case measure => exact HN7.out.2.2.2
          case rel => exact ⟨_, j3, l2 ++ [t3], n2 + 1, true, rfl, HH7.out, HN7.out.1, HN7.out.2.1, fun e => (by cases e), HQ7.out⟩
      · have HRR : Hid (RR = (some (joinT 3 l2), left s j2)) := HQ.out.stop hst0
        generalize peekC s j2 false = C at *
        clear HPK HPT HQ hst0
        go_wp2_with fail
        refine HPK2.mono ?_
        clear HPK2
        rintro e5 W5 ⟨rfl, hP5, hO5⟩
        have HJ := HJN.out W5 j2 l2 v n2 false (HH.out.next HG.out hO5.kept hP5 (Nat.le_refl _)) HP.out.1 HP.out.2.1 (.inl ⟨rfl, HRR.out⟩)
        clear HJN HH HP hP5 hO5
        go_wp2_with fail
        refine HJ.mono ?_
        clear HJ
        rintro e9 W9 ⟨⟨k, nm, a, ln, cp⟩, rfl, hz9, hr9⟩
        have HZ : Hid (W9.heap[w.heap.size]? = some (.cells #[.int .i64 0, .string ⟨#[]⟩, .slice none 0 0] 24 (0, 0))) := hz9
        have HF : Hid (∀ cs, Kept g w (W9.setRow w.heap.size cs) ∧ RSaid g s w.heap.size i RR (.returned (rawV (k, nm, a, ln, cp))) (W9.setRow w.heap.size cs)) := hr9
        clear hz9 hr9
        unfold rawV
        simp only
        go_wp2_with (refine wpList_store_row rfl 24 _ _ rfl w.heap.size #[.int .i64 k, .string nm, .slice a ln cp] rfl rfl 24 _ HZ.out sizeExpr rfl (ones3 _ _ _ _ _) ?_)
        refine bodyPost_ret (results_cell_row rfl _ _ w.heap.size 24 #[.int .i64 k, .string nm, .slice a ln cp] (0, 0) _ rfl (setRow_heap _ _ _ _ _ _ HZ.out) Tryd.underlying24 rfl sizeExpr) rfl ?_
        exact HF.out _
/-- At every place. -/
theorem RCH.all (g : Nat) (s : ByteArray) (hs : s.size ≤ 200) : ∀ n, RCH g s n := by
  intro n
  induction n with
  | zero => intro W i _ _ h; exact absurd h (by omega)
  | succ n ih => intro W i hR hi hn; exact ralt_calls g s n hs ih i W hR hi hn
end Go.Proofs.YtafidabopcgkhaaDoor
