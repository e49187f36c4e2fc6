/-
  PROVED HERE: expr.row at the two functions that it is called with: what it returns and leaves.
-/
import Derived.Test.YtafidabopcgkhaaDoorHeld
namespace Go.Proofs.YtafidabopcgkhaaDoor
open Go.RowKit

set_option maxRecDepth 100000 in
set_option maxHeartbeats 4000000 in
theorem row_calls_S (g : Nat) (s : ByteArray) (_hs : s.size ≤ 200) (Inv Mid : Nat → List (DataW Unit) → Nat → Prop) (F : Nat → Prop) (D : List (DataW Unit) → Nat → Prop)
    (Hn : ∀ f l i W, Inv f l i → RAt W g s i → Calls Tryd.prog 64 #[.pointer (some ⟨g, 0, none⟩)] W fun e W' => Kept g W W' ∧ Said g s W.heap.size i F (fun t j => Mid f (l ++ [t]) j) e W')
    (Hm : ∀ f l j W, Mid f l j → RAt W g s j → Calls Tryd.prog 65 #[.pointer (some ⟨g, 0, none⟩)] W fun e W' => Kept g W W' ∧ ((∃ i f', f' < f ∧ j ≤ i ∧ RAt W' g s i ∧ Inv f' l i ∧ e = .returned (.bool true)) ∨ (RAt W' g s j ∧ D l j ∧ e = .returned (.bool false))))
    (w : World) (f i : Nat) (h0 : Inv f [] i) (hR : RAt w g s i) (hin : ∀ f l i, Inv f l i → i ≤ 200) (hmi : ∀ f l i, Mid f l i → i ≤ 200) (hdi : ∀ l i, D l i → i ≤ 200) :
    Calls Tryd.prog 55 #[.int .i64 2, .func (.func 64) #[.pointer (some ⟨g, 0, none⟩)] #[], .func (.func 65) #[.pointer (some ⟨g, 0, none⟩)] #[]] w fun e w' => Kept g w w' ∧ Said g s w.heap.size i F (fun t j => ∃ l, l ≠ [] ∧ D l j ∧ t = joinT 2 l) e w' := by
  have HN : Hid (∀ f l i W, Inv f l i → RAt W g s i → Calls Tryd.prog 64 #[.pointer (some ⟨g, 0, none⟩)] W fun e W' => Kept g W W' ∧ Said g s W.heap.size i F (fun t j => Mid f (l ++ [t]) j) e W') := Hn
  have HM : Hid (∀ f l j W, Mid f l j → RAt W g s j → Calls Tryd.prog 65 #[.pointer (some ⟨g, 0, none⟩)] W fun e W' => Kept g W W' ∧ ((∃ i f', f' < f ∧ j ≤ i ∧ RAt W' g s i ∧ Inv f' l i ∧ e = .returned (.bool true)) ∨ (RAt W' g s j ∧ D l j ∧ e = .returned (.bool false)))) := Hm
  have HS : Hid (∀ o, Held 2 g s w (w.alloc o) i i [] (.slice none 0 0) 0) := fun o => Held.start 2 hR o
  have HI : Hid (Inv f [] i) := h0
  have HG : Hid (g < w.heap.size) := hR.lt
  have HL : Hid ((∀ f l i, Inv f l i → i ≤ 200) ∧ (∀ f l i, Mid f l i → i ≤ 200) ∧ (∀ l i, D l i → i ≤ 200)) := ⟨hin, hmi, hdi⟩
  clear Hn Hm h0 hR hin hmi hdi
  go_enter Tryd.func55, Tryd.ntmps55
  go_wp2
  go_loopg [8, 9] (f + 1) (fun gk v u w' => (∃ i' l n, u = .bool true ∧ Inv gk.pred l i' ∧ 0 < gk ∧ Held 2 g s w w' i i' l v n ∧ w'.heap[w.heap.size]? = some (.cells #[.int .i64 0, .string ⟨#[]⟩, .slice none 0 0] 24 (0, 0))) ∨ (∃ j l n, u = .bool false ∧ D l j ∧ l ≠ [] ∧ i < j ∧ Held 2 g s w w' i j l v n ∧ w'.heap[w.heap.size]? = some (.cells #[.int .i64 0, .string ⟨#[]⟩, .slice none 0 0] 24 (0, 0))))
  case atStart => exact .inl ⟨i, [], 0, rfl, HI.out, by omega, HS.out _, heap_alloc_new w _⟩
  case round =>
    rcases hrel with ⟨i', l, n, hu, hI, hg0, hH, hc⟩ | ⟨j, l, n, hu, hD, hl0, hij, hH, hc⟩
    · subst hu
      have HN2 := HN.out _ _ _ wr hI hH.rat
      have hwl : w.heap.size < wr.heap.size := (Array.getElem?_eq_some_iff.1 hc).1
      have hlei := hH.lei
      go_wp2_with fail
      refine HN2.mono ?_
      rintro e W1 ⟨hK1, hE⟩
      have hc1 : W1.heap[w.heap.size]? = some (.cells #[.int .i64 0, .string ⟨#[]⟩, .slice none 0 0] 24 (0, 0)) := (hK1.block _ hwl (by have := HG.out; omega)).trans hc
      have hKW : Kept g w W1 := hH.kept.trans hK1
      have hw1 : w.heap.size < W1.heap.size := (Array.getElem?_eq_some_iff.1 hc1).1
      clear HN2
      rcases hE with ⟨j, hRj, hF, rfl⟩ | ⟨j, t, m, r, hRj, hM, hG, hij, hlen, hX, rfl⟩
      · have HZ : Hid (∀ o, (W1.alloc o).heap[w.heap.size]? = some (.cells #[.int .i64 0, .string ⟨#[]⟩, .slice none 0 0] 24 (0, 0))) := fun o => (Below.heap_alloc W1 o _ hw1).trans hc1
        have HF : Hid (∀ o cs, Kept g w ((W1.alloc o).setRow w.heap.size cs) ∧ RAt ((W1.alloc o).setRow w.heap.size cs) g s j) := fun o cs => ⟨(hKW.alloc o).setRow _ _ (Nat.le_refl _), (hRj.alloc o).setRow _ _ (by have := HG.out; omega)⟩
        have HF2 : Hid (F j) := hF
        clear hKW hRj hF hH hK1 hc hc1 hI HN HM HI HS HL
        unfold zE refV
        go_wp2_with (refine wpList_store_row rfl 24 _ _ rfl w.heap.size #[.int .i64 0, .string ⟨#[]⟩, .slice none 0 0] rfl rfl 24 _ (HZ.out _) sizeExpr rfl (ones3 _ _ _ _ _) ?_)
        refine bodyPost_ret (results_row_tmp rfl _ _ w.heap.size 24 #[.int .i64 0, .string ⟨#[]⟩, .slice none 0 0] (0, 0) _ rfl (setRow_heap _ _ _ _ _ _ (HZ.out _)) Tryd.underlying24 rfl sizeExpr) rfl ?_
        exact ⟨(HF.out _ _).1, .inl ⟨j, (HF.out _ _).2, HF2.out, rfl⟩⟩
      · obtain ⟨k, nm, a, ln, cp⟩ := r
        unfold rawV at hX ⊢
        simp only at hX ⊢
        have hj := HL.out.2.1 _ _ _ hM
        by_cases hk : k = 2
        · subst hk
          obtain ⟨v', W3, hrun, hH3, hk3⟩ := hH.many (by omega) HG.out hK1 hRj hG hX rfl hlen hj (.cells #[.int .i64 2, .string nm, .slice a ln cp] 24)
          have hc3 : W3.heap[w.heap.size]? = some (.cells #[.int .i64 0, .string ⟨#[]⟩, .slice none 0 0] 24 (0, 0)) := (hk3 _ hw1 hH.apart).trans hc1
          have HM2 := HM.out _ _ _ W3 hM hH3.rat
          have HH : Hid (Held 2 g s w W3 i j (l ++ [t]) v' (n + ln)) := hH3
          have HC : Hid (W3.heap[w.heap.size]? = some (.cells #[.int .i64 0, .string ⟨#[]⟩, .slice none 0 0] 24 (0, 0))) := hc3
          have HIJ : Hid (i' < j ∧ i ≤ i') := ⟨hij, by omega⟩
          clear hH3 hc3 hk3 hX hM hRj hK1 hKW hc1 hc hH hI hG hlen hij hlei
          go_wp2_with (refine wpList_run_append rfl _ _ 22 rfl _ _ v' W3 rfl rfl hrun ?_)
          go_wp2_with fail
          refine HM2.mono ?_
          rintro e W4 ⟨hK4, hE⟩
          have hc4 : W4.heap[w.heap.size]? = some (.cells #[.int .i64 0, .string ⟨#[]⟩, .slice none 0 0] 24 (0, 0)) := (hK4.block _ (Array.getElem?_eq_some_iff.1 HC.out).1 (by have := HG.out; omega)).trans HC.out
          rcases hE with ⟨i2, f2, hf2, hji, hR4, hI4, rfl⟩ | ⟨hR4, hD4, rfl⟩
          · have HR : Hid (Inv f2 (l ++ [t]) i2 ∧ (∃ n, Held 2 g s w W4 i i2 (l ++ [t]) v' n) ∧ W4.heap[w.heap.size]? = some (.cells #[.int .i64 0, .string ⟨#[]⟩, .slice none 0 0] 24 (0, 0)) ∧ f2 + 1 < gk) := ⟨hI4, ⟨_, HH.out.next HG.out hK4 hR4 hji⟩, hc4, by have : gk = gk.pred + 1 := (Nat.succ_pred_eq_of_pos hg0).symm; omega⟩
            clear hI4 hR4 hc4 HH HC hK4
            go_wp2
            go_roundg (f2 + 1)
            case measure => exact HR.out.2.2.2
            case rel => exact .inl (by obtain ⟨h1, ⟨n2, h2⟩, h3, _⟩ := HR.out; exact ⟨i2, l ++ [t], n2, rfl, h1, by omega, h2, h3⟩)
          · have HR : Hid (D (l ++ [t]) j ∧ (∃ n, Held 2 g s w W4 i j (l ++ [t]) v' n) ∧ W4.heap[w.heap.size]? = some (.cells #[.int .i64 0, .string ⟨#[]⟩, .slice none 0 0] 24 (0, 0)) ∧ 0 < gk ∧ i < j) := ⟨hD4, ⟨_, HH.out.next HG.out hK4 hR4 (Nat.le_refl _)⟩, hc4, hg0, by have := HIJ.out; omega⟩
            clear hD4 hR4 hc4 HH HC hK4
            go_wp2
            go_roundg 0
            case measure => exact HR.out.2.2.2.1
            case rel => exact .inr (by obtain ⟨h1, ⟨n2, h2⟩, h3, _, h4⟩ := HR.out; exact ⟨j, l ++ [t], n2, rfl, h1, by simp, h4, h2, h3⟩)
        · have hkb : (k == 2) = false := by rw [beq_eq_false_iff_ne]; exact hk
          obtain ⟨v', W3, hrun, hH3, hk3⟩ := hH.one HG.out hK1 hRj hG hX hk hij hlen hj (.cells #[.int .i64 k, .string nm, .slice a ln cp] 24)
          simp only [World.size_alloc] at hrun
          have hc3 : W3.heap[w.heap.size]? = some (.cells #[.int .i64 0, .string ⟨#[]⟩, .slice none 0 0] 24 (0, 0)) := (hk3 _ hw1 hH.apart).trans hc1
          have HM2 := HM.out _ _ _ W3 hM hH3.rat
          have HH : Hid (Held 2 g s w W3 i j (l ++ [t]) v' (n + 1)) := hH3
          have HC : Hid (W3.heap[w.heap.size]? = some (.cells #[.int .i64 0, .string ⟨#[]⟩, .slice none 0 0] 24 (0, 0))) := hc3
          have HIJ : Hid (i' < j ∧ i ≤ i') := ⟨hij, by omega⟩
          clear hH3 hc3 hk3 hX hM hRj hK1 hKW hc1 hc hH hI hG hlen hij hlei
          go_wp2_with (refine wpList_run_append rfl _ _ 22 rfl _ _ v' W3 rfl rfl hrun ?_)
          go_wp2_with fail
          refine HM2.mono ?_
          rintro e W4 ⟨hK4, hE⟩
          have hc4 : W4.heap[w.heap.size]? = some (.cells #[.int .i64 0, .string ⟨#[]⟩, .slice none 0 0] 24 (0, 0)) := (hK4.block _ (Array.getElem?_eq_some_iff.1 HC.out).1 (by have := HG.out; omega)).trans HC.out
          rcases hE with ⟨i2, f2, hf2, hji, hR4, hI4, rfl⟩ | ⟨hR4, hD4, rfl⟩
          · have HR : Hid (Inv f2 (l ++ [t]) i2 ∧ (∃ n, Held 2 g s w W4 i i2 (l ++ [t]) v' n) ∧ W4.heap[w.heap.size]? = some (.cells #[.int .i64 0, .string ⟨#[]⟩, .slice none 0 0] 24 (0, 0)) ∧ f2 + 1 < gk) := ⟨hI4, ⟨_, HH.out.next HG.out hK4 hR4 hji⟩, hc4, by have : gk = gk.pred + 1 := (Nat.succ_pred_eq_of_pos hg0).symm; omega⟩
            clear hI4 hR4 hc4 HH HC hK4
            go_wp2
            go_roundg (f2 + 1)
            case measure => exact HR.out.2.2.2
            case rel => exact .inl (by obtain ⟨h1, ⟨n2, h2⟩, h3, _⟩ := HR.out; exact ⟨i2, l ++ [t], n2, rfl, h1, by omega, h2, h3⟩)
          · have HR : Hid (D (l ++ [t]) j ∧ (∃ n, Held 2 g s w W4 i j (l ++ [t]) v' n) ∧ W4.heap[w.heap.size]? = some (.cells #[.int .i64 0, .string ⟨#[]⟩, .slice none 0 0] 24 (0, 0)) ∧ 0 < gk ∧ i < j) := ⟨hD4, ⟨_, HH.out.next HG.out hK4 hR4 (Nat.le_refl _)⟩, hc4, hg0, by have := HIJ.out; omega⟩
            clear hD4 hR4 hc4 HH HC hK4
            go_wp2
            go_roundg 0
            case measure => exact HR.out.2.2.2.1
            case rel => exact .inr (by obtain ⟨h1, ⟨n2, h2⟩, h3, _, h4⟩ := HR.out; exact ⟨j, l ++ [t], n2, rfl, h1, by simp, h4, h2, h3⟩)
    · subst hu
      obtain ⟨hGt, hwd, hcase⟩ := hH.tree (by omega) hl0 (HL.out.2.2 _ _ hD)
      have hKw := hH.kept
      have hRw := hH.rat
      have HT : Hid (∀ cs, Kept g w (wr.setRow w.heap.size cs) ∧ RAt (wr.setRow w.heap.size cs) g s j) := fun cs => ⟨hKw.setRow _ _ (Nat.le_refl _), hRw.setRow _ _ (by have := HG.out; omega)⟩
      have HC : Hid (wr.heap[w.heap.size]? = some (.cells #[.int .i64 0, .string ⟨#[]⟩, .slice none 0 0] 24 (0, 0))) := hc
      have HD : Hid (D l j ∧ l ≠ [] ∧ i < j ∧ Good (joinT 2 l) ∧ (subs (joinT 2 l)).length + i ≤ j) := ⟨hD, hl0, hij, hGt, hwd⟩
      rcases hcase with ⟨h1, m, b, k, nm, a, ln, cp, cap, rfl, c0, c1, c2, hX⟩ | ⟨h1, m, a, cap, rfl, hX⟩
      · subst h1
        have HE : Hid (∀ cs, ExA (fun b => w.heap.size ≤ b) (wr.setRow w.heap.size cs) m (joinT 2 l) (.agg #[.int .i64 k, .string nm, .slice a ln cp])) := fun cs => ExA.kept (by simp) (fun b hb hA => ⟨by omega, setRow_other _ _ _ _ (by omega)⟩) _ _ _ hX
        clear hX hH hD hl0 hij hGt hwd hKw hRw hc HN HM HI HS HL
        go_wp2_with (refine wpList_store_row rfl 24 _ _ rfl w.heap.size #[.int .i64 k, .string nm, .slice a ln cp] rfl rfl 24 _ HC.out sizeExpr rfl (ones3 _ _ _ _ _) ?_)
        refine bodyPost_ret (results_row_tmp rfl _ _ w.heap.size 24 #[.int .i64 k, .string nm, .slice a ln cp] (0, 0) _ rfl (setRow_heap _ _ _ _ _ _ HC.out) Tryd.underlying24 rfl sizeExpr) rfl ?_
        obtain ⟨d1, d2, d3, d4, d5⟩ := HD.out
        exact ⟨(HT.out _).1, .inr ⟨j, _, m, (k, nm, a, ln, cp), (HT.out _).2, ⟨l, d2, d1, rfl⟩, d4, d3, d5, HE.out _, rfl⟩⟩
      · have hn1 : ((n : Int) == 1) = false := by rw [beq_eq_false_iff_ne]; omega
        have HE : Hid (∀ cs, ExA (fun b => w.heap.size ≤ b) (wr.setRow w.heap.size cs) m (joinT 2 l) (.agg #[.int .i64 2, .string ⟨#[]⟩, .slice a n cap])) := fun cs => ExA.kept (by simp) (fun b hb hA => ⟨by omega, setRow_other _ _ _ _ (by omega)⟩) _ _ _ hX
        clear hX hH hD hl0 hij hGt hwd hKw hRw hc HN HM HI HS HL
        go_wp2_with (refine wpList_store_row rfl 24 _ _ rfl w.heap.size #[.int .i64 2, .string ⟨#[]⟩, .slice a n cap] rfl rfl 24 _ HC.out sizeExpr rfl (ones3 _ _ _ _ _) ?_)
        refine bodyPost_ret (results_row_tmp rfl _ _ w.heap.size 24 #[.int .i64 2, .string ⟨#[]⟩, .slice a n cap] (0, 0) _ rfl (setRow_heap _ _ _ _ _ _ HC.out) Tryd.underlying24 rfl sizeExpr) rfl ?_
        obtain ⟨d1, d2, d3, d4, d5⟩ := HD.out
        exact ⟨(HT.out _).1, .inr ⟨j, _, m, (2, ⟨#[]⟩, a, n, cap), (HT.out _).2, ⟨l, d2, d1, rfl⟩, d4, d3, d5, HE.out _, rfl⟩⟩
end Go.Proofs.YtafidabopcgkhaaDoor
