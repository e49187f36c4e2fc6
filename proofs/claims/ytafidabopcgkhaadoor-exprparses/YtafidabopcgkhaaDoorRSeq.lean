/-
  PROVED HERE: the document's own seq at every place: what it returns and leaves.
-/
import Derived.Test.YtafidabopcgkhaaDoorRSeqP
namespace Go.Proofs.YtafidabopcgkhaaDoor
open Go.RowKit

set_option maxRecDepth 100000 in
set_option maxHeartbeats 2000000 in
theorem rseq_calls (g : Nat) (s : ByteArray) (n : Nat) (hs : s.size ≤ 200) (hCH : RCH g s n) (i : Nat) (w : World) (hR : PAt w g s i false) (hi : i ≤ s.size) (hn : s.size - i < n + 1) :
    Calls Tryd.prog 33 #[.pointer (some ⟨g, 0, none⟩)] w fun e w' => Kept g w w' ∧ RSaid g s w.heap.size i (seqL (partL (altN n)) (left s i)) e w' := by
  have hmx : Tryd.prog.follows .mixedOrders = true := by kernel_rfl
  have hgl := hR.lt
  obtain ⟨RR, hRR⟩ : ∃ RR, seqL (partL (altN n)) (left s i) = RR := ⟨_, rfl⟩
  rw [hRR]
  have HG : Hid (g < w.heap.size) := hgl
  have HPK : Hid (∀ W j, PAt W g s j false → Pl s j → Calls Tryd.prog 20 #[.pointer (some ⟨g, 0, none⟩)] W fun r w' => r = .returned (.int .u8 (peekC s j false)) ∧ PAt w' g s j false ∧ Only g W w') := fun W j h hj => by
    have := peek_calls g s j false W h hj.1 (by have := hj.1; omega)
    rwa [hj.stay] at this
  have HPT : Hid (∀ W j, PAt W g s j false → j ≤ s.size → i ≤ j → Calls Tryd.prog 49 #[.pointer (some ⟨g, 0, none⟩)] W fun e W' => Kept g W W' ∧ RSaid g s W.heap.size j (partL (altN n) (left s j)) e W') := fun W j h hj hij => rpart_calls g s n hs hCH j W h hj (by omega)
  have HJN : Hid (∀ W j l v n f, HeldQ 2 g s f w W i j l v n → Pl s j → i ≤ j → ((f = false ∧ RR = (some (joinT 2 l), left s j)) ∨ (f = true ∧ RR = (none, left s j))) → Calls Tryd.prog 34 #[.int .i64 2, v] W fun e w' => ∃ r, e = .returned (rawV r) ∧ w'.heap[w.heap.size]? = some (.cells #[.int .i64 0, .string ⟨#[]⟩, .slice none 0 0] 24 (0, 0)) ∧ ∀ cs, Kept g w (w'.setRow w.heap.size cs) ∧ RSaid g s w.heap.size i RR (.returned (rawV r)) (w'.setRow w.heap.size cs)) := fun W j l v n f h1 h2 h3 h4 => h1.ends (by omega) hgl hs h2 h3 h4
  have HR : Hid (∀ o, PAt (w.alloc o) g s i false) := fun o => hR.alloc o
  have HI : Hid (i ≤ s.size ∧ s.size ≤ 200) := ⟨hi, hs⟩
  have HQ0 : Hid (∀ f t j, Step s (partL (altN n) (left s i)) f t i j → SQ s (partL (altN n)) RR f [t] j) := fun f t j h => hRR ▸ SQ.first h
  clear hR hCH hn hgl hRR hi hs
  go_enter Tryd.func33, Tryd.ntmps33
  go_wp2_with fail
  refine (HPT.out _ i (HR.out _) HI.out.1 (Nat.le_refl _)).mono ?_
  rintro e1 W1 ⟨hK1, j, t, m, ⟨k, nm, a, ln, cp⟩, f, hP1, hPl, hij, hG, h99, hX, rfl, hcase⟩
  unfold rawV at hX ⊢
  simp only at hX ⊢
  have hH := HeldQ.start 2 HG.out rfl hK1 hP1 hG h99 hX (Step.wid hcase hij)
  have HQ : Hid (SQ s (partL (altN n)) RR f [t] j) := HQ0.out _ _ _ hcase
  clear hK1 hP1 hG h99 hX hcase HR HQ0
  go_wp2
  go_loopg [3] (s.size + 1 - j) (fun gk u w' => ∃ v j l c f, v = u ∧ HeldQ 2 g s f w w' i j l v c ∧ Pl s j ∧ i ≤ j ∧ (f = false → s.size + 1 - j ≤ gk) ∧ SQ s (partL (altN n)) RR f l j)
  case atStart => exact ⟨_, j, [t], 1, f, rfl, hH, hPl, hij, fun _ => Nat.le_refl _, HQ.out⟩
  case round =>
    clear HQ hH hPl hij
    obtain ⟨v, j2, l2, n2, f2, hvu, hH, hPl, hij, hgk, hq⟩ := hrel
    subst hvu
    have HQ : Hid (SQ s (partL (altN n)) RR f2 l2 j2) := hq
    have HH : Hid (HeldQ 2 g s f2 w wr i j2 l2 v n2) := hH
    obtain ⟨g0, g1, g2, g3, g4⟩ := hH.pat.cells
    have HP : Hid (Pl s j2 ∧ i ≤ j2 ∧ (f2 = false → s.size + 1 - j2 ≤ gk) ∧ j2 ≤ 200) := ⟨hPl, hij, hgk, Nat.le_trans hPl.1 HI.out.2⟩
    clear hH hq hPl hij hgk
    cases f2 with
    | true =>
      have HJ := HJN.out wr j2 l2 v n2 true HH.out HP.out.1 HP.out.2.1 (.inr ⟨rfl, by rcases HQ.out with ⟨h, _⟩ | ⟨_, h⟩; cases h; exact h⟩)
      clear HJN HPT HPK HQ HH HP
      go_wp2_with fail
      refine HJ.mono ?_
      clear HJ
      rintro e9 W9 ⟨⟨k, nm, a, ln, cp⟩, rfl, hz9, hr9⟩
      have HZ : Hid (W9.heap[w.heap.size]? = some (.cells #[.int .i64 0, .string ⟨#[]⟩, .slice none 0 0] 24 (0, 0))) := hz9
      have HF : Hid (∀ cs, Kept g w (W9.setRow w.heap.size cs) ∧ RSaid g s w.heap.size i RR (.returned (rawV (k, nm, a, ln, cp))) (W9.setRow w.heap.size cs)) := hr9
      clear hz9 hr9
      unfold rawV
      simp only
      go_wp2_with (refine wpList_store_row rfl 24 _ _ rfl w.heap.size #[.int .i64 k, .string nm, .slice a ln cp] rfl rfl 24 _ HZ.out sizeExpr rfl (ones3 _ _ _ _ _) ?_)
      refine bodyPost_ret (results_cell_row rfl _ _ w.heap.size 24 #[.int .i64 k, .string nm, .slice a ln cp] (0, 0) _ rfl (setRow_heap _ _ _ _ _ _ HZ.out) Tryd.underlying24 rfl sizeExpr) rfl ?_
      exact HF.out _
    | false =>
      have HK : Hid (s.size + 1 - j2 ≤ gk) := HP.out.2.2.1 rfl
      have HPK2 := HPK.out wr j2 HH.out.pat HP.out.1
      rcases rk_left HP.out.1.1 with ⟨hl, hk⟩ | ⟨c, q, hl, hk, hq, hlt⟩
      all_goals rw [HP.out.1.stay] at hl hk
      · rw [hk] at HPK2
        have HRR : Hid (RR = (some (joinT 2 l2), left s j2)) := HQ.out.stop (.inl hl)
        clear HPK HPT HQ hl hk
        go_wp2_with fail
        refine HPK2.mono ?_
        clear HPK2
        rintro e5 W5 ⟨rfl, hP5, hO5⟩
        have HJ := HJN.out W5 j2 l2 v n2 false (HH.out.next HG.out hO5.kept hP5 (Nat.le_refl _)) HP.out.1 HP.out.2.1 (.inl ⟨rfl, HRR.out⟩)
        clear HJN HH HP hP5 hO5
        go_wp2_with fail
        refine HJ.mono ?_
        clear HJ
        rintro e9 W9 ⟨⟨k, nm, a, ln, cp⟩, rfl, hz9, hr9⟩
        have HZ : Hid (W9.heap[w.heap.size]? = some (.cells #[.int .i64 0, .string ⟨#[]⟩, .slice none 0 0] 24 (0, 0))) := hz9
        have HF : Hid (∀ cs, Kept g w (W9.setRow w.heap.size cs) ∧ RSaid g s w.heap.size i RR (.returned (rawV (k, nm, a, ln, cp))) (W9.setRow w.heap.size cs)) := hr9
        clear hz9 hr9
        unfold rawV
        simp only
        go_wp2_with (refine wpList_store_row rfl 24 _ _ rfl w.heap.size #[.int .i64 k, .string nm, .slice a ln cp] rfl rfl 24 _ HZ.out sizeExpr rfl (ones3 _ _ _ _ _) ?_)
        refine bodyPost_ret (results_cell_row rfl _ _ w.heap.size 24 #[.int .i64 k, .string nm, .slice a ln cp] (0, 0) _ rfl (setRow_heap _ _ _ _ _ _ HZ.out) Tryd.underlying24 rfl sizeExpr) rfl ?_
        exact HF.out _
      · rw [hk] at HPK2
        have hk0 : max (c.toNat : Int) 1 ≠ 0 := by omega
        rw [HP.out.1.stay] at hq hlt
        by_cases hc : c = 124 ∨ c = 41
        · have HRR : Hid (RR = (some (joinT 2 l2), left s j2)) := HQ.out.stop (.inr ⟨c, q, hl, hc⟩)
          have hv : max (c.toNat : Int) 1 = 124 ∨ max (c.toNat : Int) 1 = 41 := by
            rcases hc with rfl | rfl
            · exact .inl rfl
            · exact .inr rfl
          clear HPK HPT HQ hl hk hc hq hlt hk0
          rcases hv with hv | hv
          all_goals
            rw [hv] at HPK2
            clear hv
            go_wp2_with fail
            refine HPK2.mono ?_
            clear HPK2
            rintro e5 W5 ⟨rfl, hP5, hO5⟩
            have HJ := HJN.out W5 j2 l2 v n2 false (HH.out.next HG.out hO5.kept hP5 (Nat.le_refl _)) HP.out.1 HP.out.2.1 (.inl ⟨rfl, HRR.out⟩)
            clear HJN HH HP hP5 hO5
            go_wp2_with fail
            refine HJ.mono ?_
            clear HJ
            rintro e9 W9 ⟨⟨k, nm, a, ln, cp⟩, rfl, hz9, hr9⟩
            have HZ : Hid (W9.heap[w.heap.size]? = some (.cells #[.int .i64 0, .string ⟨#[]⟩, .slice none 0 0] 24 (0, 0))) := hz9
            have HF : Hid (∀ cs, Kept g w (W9.setRow w.heap.size cs) ∧ RSaid g s w.heap.size i RR (.returned (rawV (k, nm, a, ln, cp))) (W9.setRow w.heap.size cs)) := hr9
            clear hz9 hr9
            unfold rawV
            simp only
            go_wp2_with (refine wpList_store_row rfl 24 _ _ rfl w.heap.size #[.int .i64 k, .string nm, .slice a ln cp] rfl rfl 24 _ HZ.out sizeExpr rfl (ones3 _ _ _ _ _) ?_)
            refine bodyPost_ret (results_cell_row rfl _ _ w.heap.size 24 #[.int .i64 k, .string nm, .slice a ln cp] (0, 0) _ rfl (setRow_heap _ _ _ _ _ _ HZ.out) Tryd.underlying24 rfl sizeExpr) rfl ?_
            exact HF.out _
        · have h124 : max (c.toNat : Int) 1 ≠ 124 := fun e => hc (.inl ((max_one (n := 124) (by decide) (by decide)).1 e))
          have h41 : max (c.toNat : Int) 1 ≠ 41 := fun e => hc (.inr ((max_one (n := 41) (by decide) (by decide)).1 e))
          generalize max (c.toNat : Int) 1 = C at *
          have b0 : (C == 0) = false := by rw [beq_eq_false_iff_ne]; exact hk0
          have b1 : (C == 124) = false := by rw [beq_eq_false_iff_ne]; exact h124
          have b2 : (C == 41) = false := by rw [beq_eq_false_iff_ne]; exact h41
          have HL : Hid (left s j2 = c :: q ∧ ¬ (c = 124 ∨ c = 41)) := ⟨hl, hc⟩
          clear hk0 h124 h41 hk hl hc hq hlt HPK HJN
          go_wp2_with fail
          refine HPK2.mono ?_
          clear HPK2
          rintro e5 W5 ⟨rfl, hP5, hO5⟩
          have HH5 : Hid (HeldQ 2 g s false w W5 i j2 l2 v n2) := HH.out.next HG.out hO5.kept hP5 (Nat.le_refl _)
          have HPT2 := HPT.out W5 j2 hP5 HP.out.1.1 HP.out.2.1
          clear HH HPT hP5 hO5 g0 g1 g2 g3 g4
          go_wp2_with fail
          refine HPT2.mono ?_
          clear HPT2 b0 b1 b2
          rintro e6 W6 ⟨hK6, j3, t3, m3, ⟨k3, nm3, a3, ln3, cp3⟩, f3, hP6, hPl3, hij3, hG3, h993, hX3, rfl, hcase3⟩
          unfold rawV at hX3 ⊢
          simp only at hX3 ⊢
          have hst : Step s (partL (altN n) (left s j2)) f3 t3 j2 j3 := hcase3
          have hj3 : j3 ≤ 200 := Nat.le_trans hPl3.1 HI.out.2
          obtain ⟨v7, W7, hrun, hH7⟩ := HH5.out.append (i1 := j2) HG.out hK6 hP6 (by omega) hG3 h993 hX3 (hst.wid hij3) hj3
          have HH7 : Hid (HeldQ 2 g s f3 w W7 i j3 (l2 ++ [t3]) v7 (n2 + 1)) := hH7
          have HQ7 : Hid (SQ s (partL (altN n)) RR f3 (l2 ++ [t3]) j3) := HQ.out.next HL.out.1 HL.out.2 hst
          have hN7 : f3 = false → s.size + 1 - j3 < gk := by
            intro e
            rcases hcase3 with ⟨_, _, h, _⟩ | ⟨h, _, _⟩
            · have := HK.out
              have := hPl3.1
              omega
            · rw [h] at e
              cases e
          have hN8 : i ≤ j3 := by have := HP.out.2.1; omega
          have hN9 : 0 < gk := by have := HK.out; have := HP.out.1.1; omega
          have HN7 : Hid (Pl s j3 ∧ i ≤ j3 ∧ (f3 = false → s.size + 1 - j3 < gk) ∧ 0 < gk) := ⟨hPl3, hN8, hN7, hN9⟩
          clear hN7 hN8 hN9 hK6 hP6 hPl3 hij3 hG3 h993 hX3 hcase3 hst hj3 hH7
          go_wp2_with (refine wpList_run_append rfl _ _ 22 rfl _ _ v7 W7 rfl rfl hrun ?_)
          cases f3 with
          | false =>
            go_roundg (s.size + 1 - j3)
            case measure => exact HN7.out.2.2.1 rfl
            case rel => exact ⟨_, j3, l2 ++ [t3], n2 + 1, false, rfl, HH7.out, HN7.out.1, HN7.out.2.1, fun _ => Nat.le_refl _, HQ7.out⟩
          | true =>
            go_roundg 0
            case measure => exact HN7.out.2.2.2
            case rel => exact ⟨_, j3, l2 ++ [t3], n2 + 1, true, rfl, HH7.out, HN7.out.1, HN7.out.2.1, fun e => (by cases e), HQ7.out⟩
end Go.Proofs.YtafidabopcgkhaaDoor
