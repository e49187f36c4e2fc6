/-
  PROVED HERE: the walk of RegOpt.
-/
import Derived.Test.YtijeegoabobgaaaAsks6
namespace Go.Proofs.Ytijeegoabobgaaa
open Go.RowKit

theorem opt_laid (n : Nat) (t : DataW Unit) (k : Int) (s : ByteArray) (a : Option Addr) (len cap : Nat) (ga : Option Addr) (gl gc : Nat) (gs : List Grp) (w W : World) (h : Ex w n t (.agg #[.int .i64 k, .string s, .slice a len cap])) (hN : named n t) (hG : Groups w ga gl gs) (hW : Below w.heap.size w W) (hm : W.heap[w.heap.size]? = some (.cells #[.int .i64 k, .string s, .slice a len cap] 24 (0, 0))) (hc : chk (n + 1) (node 4 ⟨#[]⟩ [t]) gs = 0) :
    ∃ w6, w6 = ((((((W.alloc (.cells #[.int .i64 k, .string s, .slice a len cap] 24)).alloc (.cells #[.int .i64 6, .string ⟨#[]⟩, .slice (some ⟨W.heap.size, 0, none⟩) 1 1] 24)).alloc (.cells #[.int .i64 k, .string s, .slice a len cap] 24)).alloc (.cells #[.int .i64 4, .string ⟨#[]⟩, .slice (some ⟨W.heap.size + 1 + 1, 0, none⟩) 1 1] 24)).alloc (.cells #[.int .i64 k, .string s, .slice a len cap] 24)).alloc (.cells #[.int .i64 5, .string ⟨#[]⟩, .slice (some ⟨W.heap.size + 1 + 1 + 1 + 1, 0, none⟩) 1 1] 24)) ∧ Below w.heap.size w w6 ∧ (∀ X : World, Below w6.heap.size w6 X → X.cell? ⟨w.heap.size, 0, none⟩ = some (.int .i64 k) ∧ X.cell? ⟨w.heap.size, 1, none⟩ = some (.string s) ∧ X.cell? ⟨w.heap.size, 2, none⟩ = some (.slice a len cap) ∧ X.cell? ⟨W.heap.size + 1, 0, none⟩ = some (.int .i64 6) ∧ X.cell? ⟨W.heap.size + 1, 1, none⟩ = some (.string ⟨#[]⟩) ∧ X.cell? ⟨W.heap.size + 1, 2, none⟩ = some (.slice (some ⟨W.heap.size, 0, none⟩) 1 1) ∧ X.cell? ⟨W.heap.size + 1 + 1 + 1, 0, none⟩ = some (.int .i64 4) ∧ X.cell? ⟨W.heap.size + 1 + 1 + 1, 1, none⟩ = some (.string ⟨#[]⟩) ∧ X.cell? ⟨W.heap.size + 1 + 1 + 1, 2, none⟩ = some (.slice (some ⟨W.heap.size + 1 + 1, 0, none⟩) 1 1) ∧ X.cell? ⟨W.heap.size + 1 + 1 + 1 + 1 + 1, 0, none⟩ = some (.int .i64 5) ∧ X.cell? ⟨W.heap.size + 1 + 1 + 1 + 1 + 1, 1, none⟩ = some (.string ⟨#[]⟩) ∧ X.cell? ⟨W.heap.size + 1 + 1 + 1 + 1 + 1, 2, none⟩ = some (.slice (some ⟨W.heap.size + 1 + 1 + 1 + 1, 0, none⟩) 1 1)) ∧
      Says w6 (.agg #[.int .i64 k, .string s, .slice a len cap]) ga gl gc (LangD gs n t) ∧ Says w6 (.agg #[.int .i64 6, .string ⟨#[]⟩, .slice (some ⟨W.heap.size, 0, none⟩) 1 1]) ga gl gc (fun zs => zs = [] ∨ LangD gs n t zs) ∧ Says w6 (.agg #[.int .i64 4, .string ⟨#[]⟩, .slice (some ⟨W.heap.size + 1 + 1, 0, none⟩) 1 1]) ga gl gc (fun zs => ∃ m, LPow (LangD gs n t) m zs) ∧ Says w6 (.agg #[.int .i64 5, .string ⟨#[]⟩, .slice (some ⟨W.heap.size + 1 + 1 + 1 + 1, 0, none⟩) 1 1]) ga gl gc (fun zs => ∃ m, LPow (LangD gs n t) (m + 1) zs) := by
  obtain ⟨w6, hw6⟩ : ∃ w6, w6 = ((((((W.alloc (.cells #[.int .i64 k, .string s, .slice a len cap] 24)).alloc (.cells #[.int .i64 6, .string ⟨#[]⟩, .slice (some ⟨W.heap.size, 0, none⟩) 1 1] 24)).alloc (.cells #[.int .i64 k, .string s, .slice a len cap] 24)).alloc (.cells #[.int .i64 4, .string ⟨#[]⟩, .slice (some ⟨W.heap.size + 1 + 1, 0, none⟩) 1 1] 24)).alloc (.cells #[.int .i64 k, .string s, .slice a len cap] 24)).alloc (.cells #[.int .i64 5, .string ⟨#[]⟩, .slice (some ⟨W.heap.size + 1 + 1 + 1 + 1, 0, none⟩) 1 1] 24)) := ⟨_, rfl⟩
  have hlt : w.heap.size < W.heap.size := (Array.getElem?_eq_some_iff.1 hm).1
  have hs6 : w6.heap.size = W.heap.size + 6 := by rw [hw6]; simp
  have hb6 : Below w.heap.size w w6 := by
    rw [hw6]
    exact (((((hW.alloc (by omega) _).alloc (by simp; omega) _).alloc (by simp; omega) _).alloc (by simp; omega) _).alloc (by simp; omega) _).alloc (by simp; omega) _
  have m0 : w6.heap[W.heap.size]? = some (.cells #[.int .i64 k, .string s, .slice a len cap] 24 (0, 0)) := by rw [hw6]; exact ((at_old (by simp; try omega)).trans ((at_old (by simp; try omega)).trans ((at_old (by simp; try omega)).trans ((at_old (by simp; try omega)).trans ((at_old (by simp; try omega)).trans (at_new (by simp)))))))
  have m1 : w6.heap[W.heap.size + 1]? = some (.cells #[.int .i64 6, .string ⟨#[]⟩, .slice (some ⟨W.heap.size, 0, none⟩) 1 1] 24 (0, 0)) := by rw [hw6]; exact ((at_old (by simp; try omega)).trans ((at_old (by simp; try omega)).trans ((at_old (by simp; try omega)).trans ((at_old (by simp; try omega)).trans (at_new (by simp))))))
  have m2 : w6.heap[W.heap.size + 1 + 1]? = some (.cells #[.int .i64 k, .string s, .slice a len cap] 24 (0, 0)) := by rw [hw6]; exact ((at_old (by simp; try omega)).trans ((at_old (by simp; try omega)).trans ((at_old (by simp; try omega)).trans (at_new (by simp)))))
  have m3 : w6.heap[W.heap.size + 1 + 1 + 1]? = some (.cells #[.int .i64 4, .string ⟨#[]⟩, .slice (some ⟨W.heap.size + 1 + 1, 0, none⟩) 1 1] 24 (0, 0)) := by rw [hw6]; exact ((at_old (by simp; try omega)).trans ((at_old (by simp; try omega)).trans (at_new (by simp))))
  have m4 : w6.heap[W.heap.size + 1 + 1 + 1 + 1]? = some (.cells #[.int .i64 k, .string s, .slice a len cap] 24 (0, 0)) := by rw [hw6]; exact ((at_old (by simp; try omega)).trans (at_new (by simp)))
  have m5 : w6.heap[W.heap.size + 1 + 1 + 1 + 1 + 1]? = some (.cells #[.int .i64 5, .string ⟨#[]⟩, .slice (some ⟨W.heap.size + 1 + 1 + 1 + 1, 0, none⟩) 1 1] 24 (0, 0)) := by rw [hw6]; exact (at_new (by simp))
  have mB : w6.heap[w.heap.size]? = some (.cells #[.int .i64 k, .string s, .slice a len cap] 24 (0, 0)) := by rw [hw6]; exact ((at_old (by (try simp); omega)).trans ((at_old (by (try simp); omega)).trans ((at_old (by (try simp); omega)).trans ((at_old (by (try simp); omega)).trans ((at_old (by (try simp); omega)).trans ((at_old (by (try simp); omega)).trans hm))))))
  have hE := Ex.below hb6 _ _ _ h
  have hG6 := hG.below hb6
  refine ⟨w6, hw6, hb6, fun X hX => ?_, says_of hE hN hG6 (one_within (.inl rfl) hc) (fun _ => Iff.rfl), says_of (Ex.behind 6 m0 hE) (named_behind 6 hN) hG6 (one_other (.inl rfl) (.inr (.inr rfl)) hc) (lang_opt gs n t), says_of (Ex.behind 4 m2 hE) (named_behind 4 hN) hG6 hc (lang_star gs n t), says_of (Ex.behind 5 m4 hE) (named_behind 5 hN) hG6 (one_other (.inl rfl) (.inr (.inl rfl)) hc) (lang_plus gs n t)⟩
  obtain ⟨a0, a1, a2, _⟩ := cells3 ((hX.block _ (by omega)).trans mB)
  obtain ⟨b0, b1, b2, _⟩ := cells3 ((hX.block _ (by omega)).trans m1)
  obtain ⟨d0, d1, d2, _⟩ := cells3 ((hX.block _ (by omega)).trans m3)
  obtain ⟨f0, f1, f2, _⟩ := cells3 ((hX.block _ (by omega)).trans m5)
  exact ⟨a0, a1, a2, b0, b1, b2, d0, d1, d2, f0, f1, f2⟩
set_option maxRecDepth 100000 in
set_option maxHeartbeats 8000000 in
theorem opt_walk (n : Nat) (t : DataW Unit) (k : Int) (s : ByteArray) (a : Option Addr) (len cap : Nat) (ga : Option Addr) (gl gc : Nat) (gs : List Grp) (za : Option Addr) (zl zc : Nat) (xs : List Int) (ya : Option Addr) (yl yc : Nat) (ys : List Int) (w : World) (h : Ex w n t (.agg #[.int .i64 k, .string s, .slice a len cap])) (hN : named n t) (hG : Groups w ga gl gs) (hX' : Ints w za zl xs) (hY' : Ints w ya yl ys) (hzc : za = none → zc = 0) (hyc : ya = none → yc = 0) :
    Calls Try.prog 3 #[.agg #[.int .i64 k, .string s, .slice a len cap], .slice ga gl gc, .slice za zl zc, .slice ya yl yc] w fun e w' => e = .returned (.bool true) ∧ Below w.heap.size w w' := by
  have HAW : Hid (∀ W : World, Calls Try.prog 6 #[] W fun e w' => e = .returned (.bool true) ∧ Below W.heap.size W w') := fun W => awake_calls W
  have HB0 : Hid (∀ o, Below w.heap.size w (w.alloc o)) := fun o => (Below.refl _ w).alloc (Nat.le_refl _) _
  obtain ⟨_, hz1, _⟩ := id hX'
  obtain ⟨_, hy1, _⟩ := id hY'
  have hzi : (zl : Int) ≤ 9223372036854775807 := by omega
  have hyi : (yl : Int) ≤ 9223372036854775807 := by omega
  by_cases hl : 50 < zl
  · have hd : decide ((50 : Int) < (zl : Int)) = true := by simp; omega
    clear h hN hG hX' hY' hzc hyc
    go_enter Try.func3, Try.ntmps3
    go_wp2_with fail
    refine (HAW.out _).mono ?_
    rintro e W ⟨rfl, hW⟩
    have HE := (HB0.out _).trans (hW.mono (by simp))
    clear hW
    go_wp2
    go_ret
    first | exact HE | exact ⟨rfl, HE⟩
  have hd : decide ((50 : Int) < (zl : Int)) = false := by simp; omega
  by_cases hl2 : 50 < yl
  · have hd2 : decide ((50 : Int) < (yl : Int)) = true := by simp; omega
    clear h hN hG hX' hY' hzc hyc
    go_enter Try.func3, Try.ntmps3
    go_wp2_with fail
    refine (HAW.out _).mono ?_
    rintro e W ⟨rfl, hW⟩
    have HE := (HB0.out _).trans (hW.mono (by simp))
    clear hW
    go_wp2
    go_ret
    first | exact HE | exact ⟨rfl, HE⟩
  have hd2 : decide ((50 : Int) < (yl : Int)) = false := by simp; omega
  have HC : Hid (Calls Try.prog 5 #[.agg #[.int .i64 4, .string ⟨#[]⟩, .slice (some ⟨w.heap.size + 1, 0, none⟩) 1 1], .slice ga gl gc] ((w.alloc (.cells #[.int .i64 k, .string s, .slice a len cap] 24)).alloc (.cells #[.int .i64 k, .string s, .slice a len cap] 24)) fun e w' => e = .returned (.int .i64 (chk (n + 1) (node 4 ⟨#[]⟩ [t]) gs)) ∧ Below w.heap.size w w' ∧ w'.heap[w.heap.size]? = some (.cells #[.int .i64 k, .string s, .slice a len cap] 24 (0, 0))) := by
    obtain ⟨w2, hw2⟩ : ∃ w2, w2 = ((w.alloc (.cells #[.int .i64 k, .string s, .slice a len cap] 24)).alloc (.cells #[.int .i64 k, .string s, .slice a len cap] 24)) := ⟨_, rfl⟩
    have hb2 : Below w.heap.size w w2 := by rw [hw2]; exact ((Below.refl _ w).alloc (Nat.le_refl _) _).alloc (by simp) _
    have hs2 : w2.heap.size = w.heap.size + 2 := by rw [hw2]; simp
    have m0 : w2.heap[w.heap.size]? = some (.cells #[.int .i64 k, .string s, .slice a len cap] 24 (0, 0)) := by rw [hw2, Below.heap_alloc _ _ _ (by simp)]; exact World.alloc_heap_new w _
    have m1 : w2.heap[w.heap.size + 1]? = some (.cells #[.int .i64 k, .string s, .slice a len cap] 24 (0, 0)) := by
      rw [hw2]
      have := World.alloc_heap_new (w.alloc (.cells #[.int .i64 k, .string s, .slice a len cap] 24)) (.cells #[.int .i64 k, .string s, .slice a len cap] 24)
      rwa [World.size_alloc] at this
    rw [← hw2]
    refine (rcheck_calls (n + 1) _ _ ga gl gc gs w2 (Ex.behind 4 m1 (Ex.below hb2 _ _ _ h)) (named_behind 4 hN) (hG.below hb2)).mono ?_
    rintro e W ⟨rfl, hW⟩
    exact ⟨rfl, hb2.trans (hW.mono (by omega)), (hW.block _ (by omega)).trans m0⟩
  by_cases hc : chk (n + 1) (node 4 ⟨#[]⟩ [t]) gs = 0
  · rw [hc] at HC
    have hdc : ((0 : Int) != 0) = false := rfl
    go_enter Try.func3, Try.ntmps3
    go_wp2_with fail
    refine HC.out.mono ?_
    rintro e W ⟨rfl, hW, hm⟩
    obtain ⟨c0, c1, c2, _, _⟩ := cells3 hm
    have hlt : w.heap.size < W.heap.size := (Array.getElem?_eq_some_iff.1 hm).1
    have l0 : w.heap.size ≤ W.heap.size := by omega
    have l1 : w.heap.size ≤ W.heap.size + 1 := by omega
    have l2 : w.heap.size ≤ W.heap.size + 1 + 1 := by omega
    have l3 : w.heap.size ≤ W.heap.size + 1 + 1 + 1 := by omega
    have l4 : w.heap.size ≤ W.heap.size + 1 + 1 + 1 + 1 := by omega
    have k1 : w.heap.size < W.heap.size + 1 := by omega
    have k2 : w.heap.size < W.heap.size + 1 + 1 := by omega
    have k3 : w.heap.size < W.heap.size + 1 + 1 + 1 := by omega
    have k4 : w.heap.size < W.heap.size + 1 + 1 + 1 + 1 := by omega
    have k5 : w.heap.size < W.heap.size + 1 + 1 + 1 + 1 + 1 := by omega
    obtain ⟨w6, hw6, hb6, HK0, HE0, HO0, HS0, HP0⟩ := opt_laid n t k s a len cap ga gl gc gs w W h hN hG hW hm hc
    have HW6 : Hid (((((((W.alloc (.cells #[.int .i64 k, .string s, .slice a len cap] 24)).alloc (.cells #[.int .i64 6, .string ⟨#[]⟩, .slice (some ⟨W.heap.size, 0, none⟩) 1 1] 24)).alloc (.cells #[.int .i64 k, .string s, .slice a len cap] 24)).alloc (.cells #[.int .i64 4, .string ⟨#[]⟩, .slice (some ⟨W.heap.size + 1 + 1, 0, none⟩) 1 1] 24)).alloc (.cells #[.int .i64 k, .string s, .slice a len cap] 24)).alloc (.cells #[.int .i64 5, .string ⟨#[]⟩, .slice (some ⟨W.heap.size + 1 + 1 + 1 + 1, 0, none⟩) 1 1] 24)) = w6) := hw6.symm
    have HB6 : Hid (∀ X : World, Below w6.heap.size w6 X → Below w.heap.size w X) := fun X hX => hb6.trans (hX.mono hb6.size)
    have HK : Hid (∀ X : World, Below w6.heap.size w6 X → X.cell? ⟨w.heap.size, 0, none⟩ = some (.int .i64 k) ∧ X.cell? ⟨w.heap.size, 1, none⟩ = some (.string s) ∧ X.cell? ⟨w.heap.size, 2, none⟩ = some (.slice a len cap) ∧ X.cell? ⟨W.heap.size + 1, 0, none⟩ = some (.int .i64 6) ∧ X.cell? ⟨W.heap.size + 1, 1, none⟩ = some (.string ⟨#[]⟩) ∧ X.cell? ⟨W.heap.size + 1, 2, none⟩ = some (.slice (some ⟨W.heap.size, 0, none⟩) 1 1) ∧ X.cell? ⟨W.heap.size + 1 + 1 + 1, 0, none⟩ = some (.int .i64 4) ∧ X.cell? ⟨W.heap.size + 1 + 1 + 1, 1, none⟩ = some (.string ⟨#[]⟩) ∧ X.cell? ⟨W.heap.size + 1 + 1 + 1, 2, none⟩ = some (.slice (some ⟨W.heap.size + 1 + 1, 0, none⟩) 1 1) ∧ X.cell? ⟨W.heap.size + 1 + 1 + 1 + 1 + 1, 0, none⟩ = some (.int .i64 5) ∧ X.cell? ⟨W.heap.size + 1 + 1 + 1 + 1 + 1, 1, none⟩ = some (.string ⟨#[]⟩) ∧ X.cell? ⟨W.heap.size + 1 + 1 + 1 + 1 + 1, 2, none⟩ = some (.slice (some ⟨W.heap.size + 1 + 1 + 1 + 1, 0, none⟩) 1 1)) := HK0
    have HE : Hid (Says w6 (.agg #[.int .i64 k, .string s, .slice a len cap]) ga gl gc (LangD gs n t)) := HE0
    have HO : Hid (Says w6 (.agg #[.int .i64 6, .string ⟨#[]⟩, .slice (some ⟨W.heap.size, 0, none⟩) 1 1]) ga gl gc (fun zs => zs = [] ∨ LangD gs n t zs)) := HO0
    have HS : Hid (Says w6 (.agg #[.int .i64 4, .string ⟨#[]⟩, .slice (some ⟨W.heap.size + 1 + 1, 0, none⟩) 1 1]) ga gl gc (fun zs => ∃ m, LPow (LangD gs n t) m zs)) := HS0
    have HP : Hid (Says w6 (.agg #[.int .i64 5, .string ⟨#[]⟩, .slice (some ⟨W.heap.size + 1 + 1 + 1 + 1, 0, none⟩) 1 1]) ga gl gc (fun zs => ∃ m, LPow (LangD gs n t) (m + 1) zs)) := HP0
    have HX : Hid (∀ X : World, Below w6.heap.size w6 X → Ints X za zl xs) := fun X hX => hX'.below (HB6.out X hX)
    have HY : Hid (∀ X : World, Below w6.heap.size w6 X → Ints X ya yl ys) := fun X hX => hY'.below (HB6.out X hX)
    have HLX : Hid (xs.length = zl) := hX'.1
    have HZC : Hid (za = none → zc = 0) := hzc
    have HYC : Hid (ya = none → yc = 0) := hyc
    generalize LangD gs n t = L at HE HO HS HP HE0 HO0 HS0 HP0
    clear hX' hY' hzc hyc HK0 HE0 HO0 HS0 HP0 hw6 hb6 h hN hG hc hW hm
    clear HC
    go_wp2_with fail
    rw [HW6.out]
    clear HW6 c0 c1 c2 hlt l0 l1 l2 l3 l4 k1 k2 k3 k4 k5
    refine (HE.out w6 za zl zc xs (Below.refl _ _) (HX.out _ (Below.refl _ _))).mono ?_
    rintro e W1 ⟨b1, rfl, hb1, hB1⟩
    have HB1 : Hid (b1 = true ↔ L xs) := hb1
    obtain ⟨q0, q1, q2, q3, q4, q5, q6, q7, q8, q9, q10, q11⟩ := HK.out W1 hB1
    clear hb1
    cases b1 with
    | true =>
      have hLx : L xs := HB1.out.1 rfl
      clear HB1
      go_wp2_with fail
      refine (HE.out _ ya yl yc ys hB1 (HY.out _ hB1)).mono ?_
      rintro e WN ⟨b2, rfl, hb2, hBN'⟩
      have hBN : Below w6.heap.size w6 WN := hB1.trans (hBN'.mono hB1.size)
      clear hBN'
      clear q0 q1 q2 q3 q4 q5 q6 q7 q8 q9 q10 q11
      cases b2 with
      | true =>
        have hLy : L ys := hb2.1 rfl
        have HLX2 : Hid (L xs ∧ L ys) := ⟨hLx, hLy⟩
        clear hb2 hLx hLy
        obtain ⟨wb, hwb⟩ : ∃ wb, wb = WN.alloc (.cells #[] 3) := ⟨_, rfl⟩
        have hown0 := owned_nil WN WN.heap.size (Nat.le_refl _)
        have hBb : Below w6.heap.size w6 (WN.alloc (.cells #[] 3)) := hBN.alloc hBN.size _
        have hxb := HX.out _ hBb
        have hs0 : 0 + zl ≤ 1000000 := by omega
        have hs1 : zl + yl ≤ 1000000 := by omega
        have hs3 : WN.heap.size ≤ (WN.alloc (.cells #[] 3)).heap.size := by simp
        have hzc := HZC.out
        have hyc := HYC.out
        clear hwb wb
        go_wp2_with (first
          | (at_builtin; refine wpList_append_ints rfl (.tmp 52) (.tmp 53) rfl WN.heap.size _ 0 [] rfl hown0 za zl zc xs rfl hzc hxb hs0 hs3 ?_; intro v1 W3 hown1 hB3; rw [Nat.zero_add, List.nil_append] at hown1; have hW3 := hBb.trans (hB3.mono hBN.size); have hyb := HY.out _ hW3; have hs2 : WN.heap.size ≤ W3.heap.size := Nat.le_trans hs3 hB3.size)
          | (at_builtin; refine wpList_append_ints rfl (.tmp 54) (.tmp 55) rfl WN.heap.size _ zl xs rfl hown1 ya yl yc ys rfl hyc hyb hs1 hs2 ?_; intro v2 W4 hown2 hB4'; have hB4 : Below w6.heap.size w6 W4 := hW3.trans (hB4'.mono hBN.size); obtain ⟨ra, rc, rfl, hR⟩ := owned_ints hown2 (by omega))
          | fail)
        have HT : Hid (∀ X : World, Below W4.heap.size W4 X → Below w6.heap.size w6 X) := fun X hX => hB4.trans (hX.mono hB4.size)
        refine wp_region_held_drew (S := fun X => Below W4.heap.size W4 X) hmx (Below.refl _ W4).drew (fun hS => ?_)
        refine takeD 0 (some 57) (v := ?_) rfl rfl (by kernel_rfl) (by kernel_rfl) (by kernel_rfl) (fun _ _ _ h => h) (Or.inl ⟨by rfl, ?_⟩) hS ?_
        rotate_left
        · intro w hSw
          obtain ⟨q0, q1, q2, q3, q4, q5, q6, q7, q8, q9, q10, q11⟩ := HK.out _ (HT.out _ hSw)
          go_simp
          with_reducible rfl
        try simp only [Act.put, List.setIfInBounds_toArray, List.set_cons_zero, List.set_cons_succ]
        refine takeD 1 (some 58) (v := ?_) rfl rfl (by kernel_rfl) (by kernel_rfl) (by kernel_rfl) (fun _ _ _ h => h) (Or.inl ⟨by rfl, ?_⟩) hS ?_
        rotate_left
        · intro w hSw
          try go_simp
          with_reducible rfl
        try simp only [Act.put, List.setIfInBounds_toArray, List.set_cons_zero, List.set_cons_succ]
        refine takeD 2 (some 59) (v := ?_) rfl rfl (by kernel_rfl) (by kernel_rfl) (by kernel_rfl) (fun _ _ _ h => h) (Or.inl ⟨by rfl, ?_⟩) hS ?_
        rotate_left
        · intro w hSw
          try go_simp
          with_reducible rfl
        try simp only [Act.put, List.setIfInBounds_toArray, List.set_cons_zero, List.set_cons_succ]
        refine takeD 4 (some 61) (v := ?_) rfl rfl (by kernel_rfl) (by kernel_rfl) (by kernel_rfl) (fun _ _ _ h => h) (Or.inl ⟨by rfl, ?_⟩) hS ?_
        rotate_left
        · intro w hSw
          try go_simp
          with_reducible rfl
        try simp only [Act.put, List.setIfInBounds_toArray, List.set_cons_zero, List.set_cons_succ]
        refine callD 3 (by kernel_rfl) rfl (fun K hK => ?_)
        rw [if_pos (by rfl)]
        go_simp
        refine (HO.out _ za zl zc xs (HT.out _ hS) (HX.out _ (HT.out _ hS))).mono ?_
        rintro e X1 ⟨b, rfl, hb, hB⟩
        obtain rfl : b = true := hb.2 (.inr HLX2.out.1)
        clear hb
        refine hK.out _ _ (hS.trans (hB.mono hS.size)) (fun hX1 => ?_)
        clear hK K
        try simp only [Act.put, List.setIfInBounds_toArray, List.set_cons_zero, List.set_cons_succ]
        refine takeD 5 (some 62) (v := ?_) rfl rfl (by kernel_rfl) (by kernel_rfl) (by kernel_rfl) (fun _ _ _ h => h) (Or.inl ⟨by rfl, ?_⟩) hX1 ?_
        rotate_left
        · intro w hSw
          try go_simp
          with_reducible rfl
        try simp only [Act.put, List.setIfInBounds_toArray, List.set_cons_zero, List.set_cons_succ]
        refine takeD 6 (some 63) (v := undef) rfl rfl (by kernel_rfl) (by kernel_rfl) (by kernel_rfl) (fun _ _ _ h => h) (Or.inr ⟨by rfl, rfl⟩) hX1 ?_
        try simp only [Act.put, List.setIfInBounds_toArray, List.set_cons_zero, List.set_cons_succ]
        refine takeD 7 (some 64) (v := undef) rfl rfl (by kernel_rfl) (by kernel_rfl) (by kernel_rfl) (fun _ _ _ h => h) (Or.inr ⟨by rfl, rfl⟩) hX1 ?_
        try simp only [Act.put, List.setIfInBounds_toArray, List.set_cons_zero, List.set_cons_succ]
        refine takeD 8 (some 65) (v := undef) rfl rfl (by kernel_rfl) (by kernel_rfl) (by kernel_rfl) (fun _ _ _ h => h) (Or.inr ⟨by rfl, rfl⟩) hX1 ?_
        try simp only [Act.put, List.setIfInBounds_toArray, List.set_cons_zero, List.set_cons_succ]
        refine takeD 9 (some 66) (v := ?_) rfl rfl (by kernel_rfl) (by kernel_rfl) (by kernel_rfl) (fun _ _ _ h => h) (Or.inl ⟨by rfl, ?_⟩) hX1 ?_
        rotate_left
        · intro w hSw
          go_simp
          with_reducible rfl
        try simp only [Act.put, List.setIfInBounds_toArray, List.set_cons_zero, List.set_cons_succ]
        refine takeD 10 (some 67) (v := ?_) rfl rfl (by kernel_rfl) (by kernel_rfl) (by kernel_rfl) (fun _ _ _ h => h) (Or.inl ⟨by rfl, ?_⟩) hX1 ?_
        rotate_left
        · intro w hSw
          go_simp
          with_reducible rfl
        try simp only [Act.put, List.setIfInBounds_toArray, List.set_cons_zero, List.set_cons_succ]
        refine takeD 11 (some 68) (v := ?_) rfl rfl (by kernel_rfl) (by kernel_rfl) (by kernel_rfl) (fun _ _ _ h => h) (Or.inl ⟨by rfl, ?_⟩) hX1 ?_
        rotate_left
        · intro w hSw
          try go_simp
          with_reducible rfl
        try simp only [Act.put, List.setIfInBounds_toArray, List.set_cons_zero, List.set_cons_succ]
        refine takeD 12 (some 69) (v := ?_) rfl rfl (by kernel_rfl) (by kernel_rfl) (by kernel_rfl) (fun _ _ _ h => h) (Or.inl ⟨by rfl, ?_⟩) hX1 ?_
        rotate_left
        · intro w hSw
          obtain ⟨q0, q1, q2, q3, q4, q5, q6, q7, q8, q9, q10, q11⟩ := HK.out _ (HT.out _ hSw)
          go_simp
          with_reducible rfl
        try simp only [Act.put, List.setIfInBounds_toArray, List.set_cons_zero, List.set_cons_succ]
        refine takeD 13 (some 70) (v := ?_) rfl rfl (by kernel_rfl) (by kernel_rfl) (by kernel_rfl) (fun _ _ _ h => h) (Or.inl ⟨by rfl, ?_⟩) hX1 ?_
        rotate_left
        · intro w hSw
          try go_simp
          with_reducible rfl
        try simp only [Act.put, List.setIfInBounds_toArray, List.set_cons_zero, List.set_cons_succ]
        refine callD 14 (by kernel_rfl) rfl (fun K hK => ?_)
        rw [if_pos (by rfl)]
        go_simp
        refine (HS.out _ none 0 0 [] (HT.out _ hX1) (Ints.none0 _)).mono ?_
        rintro e X2 ⟨b, rfl, hb, hB⟩
        obtain rfl : b = true := hb.2 ⟨0, rfl⟩
        clear hb
        refine hK.out _ _ (hX1.trans (hB.mono hX1.size)) (fun hX2 => ?_)
        clear hK K
        try simp only [Act.put, List.setIfInBounds_toArray, List.set_cons_zero, List.set_cons_succ]
        refine takeD 15 (some 72) (v := ?_) rfl rfl (by kernel_rfl) (by kernel_rfl) (by kernel_rfl) (fun _ _ _ h => h) (Or.inl ⟨by rfl, ?_⟩) hX2 ?_
        rotate_left
        · intro w hSw
          go_simp
          with_reducible rfl
        try simp only [Act.put, List.setIfInBounds_toArray, List.set_cons_zero, List.set_cons_succ]
        refine takeD 16 (some 73) (v := ?_) rfl rfl (by kernel_rfl) (by kernel_rfl) (by kernel_rfl) (fun _ _ _ h => h) (Or.inl ⟨by rfl, ?_⟩) hX2 ?_
        rotate_left
        · intro w hSw
          go_simp
          with_reducible rfl
        try simp only [Act.put, List.setIfInBounds_toArray, List.set_cons_zero, List.set_cons_succ]
        refine takeD 17 (some 74) (v := ?_) rfl rfl (by kernel_rfl) (by kernel_rfl) (by kernel_rfl) (fun _ _ _ h => h) (Or.inl ⟨by rfl, ?_⟩) hX2 ?_
        rotate_left
        · intro w hSw
          try go_simp
          with_reducible rfl
        try simp only [Act.put, List.setIfInBounds_toArray, List.set_cons_zero, List.set_cons_succ]
        refine takeD 18 (some 75) (v := ?_) rfl rfl (by kernel_rfl) (by kernel_rfl) (by kernel_rfl) (fun _ _ _ h => h) (Or.inl ⟨by rfl, ?_⟩) hX2 ?_
        rotate_left
        · intro w hSw
          obtain ⟨q0, q1, q2, q3, q4, q5, q6, q7, q8, q9, q10, q11⟩ := HK.out _ (HT.out _ hSw)
          go_simp
          with_reducible rfl
        try simp only [Act.put, List.setIfInBounds_toArray, List.set_cons_zero, List.set_cons_succ]
        refine takeD 19 (some 76) (v := ?_) rfl rfl (by kernel_rfl) (by kernel_rfl) (by kernel_rfl) (fun _ _ _ h => h) (Or.inl ⟨by rfl, ?_⟩) hX2 ?_
        rotate_left
        · intro w hSw
          try go_simp
          with_reducible rfl
        try simp only [Act.put, List.setIfInBounds_toArray, List.set_cons_zero, List.set_cons_succ]
        refine takeD 21 (some 78) (v := ?_) rfl rfl (by kernel_rfl) (by kernel_rfl) (by kernel_rfl) (fun _ _ _ h => h) (Or.inl ⟨by rfl, ?_⟩) hX2 ?_
        rotate_left
        · intro w hSw
          obtain ⟨q0, q1, q2, q3, q4, q5, q6, q7, q8, q9, q10, q11⟩ := HK.out _ (HT.out _ hSw)
          go_simp
          with_reducible rfl
        try simp only [Act.put, List.setIfInBounds_toArray, List.set_cons_zero, List.set_cons_succ]
        refine takeD 22 (some 79) (v := ?_) rfl rfl (by kernel_rfl) (by kernel_rfl) (by kernel_rfl) (fun _ _ _ h => h) (Or.inl ⟨by rfl, ?_⟩) hX2 ?_
        rotate_left
        · intro w hSw
          try go_simp
          with_reducible rfl
        try simp only [Act.put, List.setIfInBounds_toArray, List.set_cons_zero, List.set_cons_succ]
        refine callD 20 (by kernel_rfl) rfl (fun K hK => ?_)
        rw [if_pos (by rfl)]
        go_simp
        refine (HP.out _ none 0 0 [] (HT.out _ hX2) (Ints.none0 _)).mono ?_
        rintro e X3 ⟨b, rfl, hb, hB⟩
        have hbp : b = true ↔ L [] := hb.trans ⟨fun ⟨m, q⟩ => pow_nil q, fun q => ⟨0, pow_one q⟩⟩
        clear hb
        refine hK.out _ _ (hX2.trans (hB.mono hX2.size)) (fun hX3 => ?_)
        clear hK K
        try simp only [Act.put, List.setIfInBounds_toArray, List.set_cons_zero, List.set_cons_succ]
        refine callD 23 (by kernel_rfl) rfl (fun K hK => ?_)
        rw [if_pos (by rfl)]
        go_simp
        refine (HE.out _ none 0 0 [] (HT.out _ hX3) (Ints.none0 _)).mono ?_
        rintro e X4 ⟨b', rfl, hb', hB⟩
        obtain rfl : b = b' := Bool.eq_iff_iff.2 (hbp.trans hb'.symm)
        have hbb : (b != b) = false := by simp
        have hbq : (b == b) = true := by simp
        clear hbp hb'
        refine hK.out _ _ (hX3.trans (hB.mono hX3.size)) (fun hX4 => ?_)
        clear hK K
        try simp only [Act.put, List.setIfInBounds_toArray, List.set_cons_zero, List.set_cons_succ]
        refine takeD 24 (some 81) (v := ?_) rfl rfl (by kernel_rfl) (by kernel_rfl) (by kernel_rfl) (fun _ _ _ h => h) (Or.inl ⟨by rfl, ?_⟩) hX4 ?_
        rotate_left
        · intro w hSw
          go_simp
          with_reducible rfl
        try simp only [Act.put, List.setIfInBounds_toArray, List.set_cons_zero, List.set_cons_succ]
        refine takeD 25 (some 82) (v := ?_) rfl rfl (by kernel_rfl) (by kernel_rfl) (by kernel_rfl) (fun _ _ _ h => h) (Or.inl ⟨by rfl, ?_⟩) hX4 ?_
        rotate_left
        · intro w hSw
          go_simp
          with_reducible rfl
        try simp only [Act.put, List.setIfInBounds_toArray, List.set_cons_zero, List.set_cons_succ]
        refine wpAnyH_done (by kernel_rfl) ?_ _
        obtain ⟨q0, q1, q2, q3, q4, q5, q6, q7, q8, q9, q10, q11⟩ := HK.out _ (HT.out _ hX4)
        go_wp2_with fail
        refine (HS.out _ ra (zl + yl) rc (xs ++ ys) (HT.out _ hX4) (hR.below hX4)).mono ?_
        rintro e X5 ⟨b, rfl, hb, hB⟩
        have hX5 := hX4.trans (hB.mono hX4.size)
        clear hB
        obtain rfl : b = true := hb.2 (⟨2, pow_two HLX2.out.1 HLX2.out.2⟩)
        clear hb
        clear q0 q1 q2 q3 q4 q5 q6 q7 q8 q9 q10 q11
        obtain ⟨q0, q1, q2, q3, q4, q5, q6, q7, q8, q9, q10, q11⟩ := HK.out _ (HT.out _ hX5)
        go_wp2_with fail
        refine (HP.out _ ra (zl + yl) rc (xs ++ ys) (HT.out _ hX5) (hR.below hX5)).mono ?_
        rintro e X6 ⟨b, rfl, hb, hB⟩
        have hX6 := hX5.trans (hB.mono hX5.size)
        clear hB
        obtain rfl : b = true := hb.2 (⟨1, pow_two HLX2.out.1 HLX2.out.2⟩)
        clear hb
        clear q0 q1 q2 q3 q4 q5 q6 q7 q8 q9 q10 q11
        obtain ⟨q0, q1, q2, q3, q4, q5, q6, q7, q8, q9, q10, q11⟩ := HK.out _ (HT.out _ hX6)
        go_wp2_with fail
        refine (HS.out _ za zl zc xs (HT.out _ hX6) (HX.out _ (HT.out _ hX6))).mono ?_
        rintro e X7 ⟨b, rfl, hb, hB⟩
        have hX7 := hX6.trans (hB.mono hX6.size)
        clear hB
        obtain rfl : b = true := hb.2 (⟨1, pow_one HLX2.out.1⟩)
        clear hb
        clear q0 q1 q2 q3 q4 q5 q6 q7 q8 q9 q10 q11
        obtain ⟨q0, q1, q2, q3, q4, q5, q6, q7, q8, q9, q10, q11⟩ := HK.out _ (HT.out _ hX7)
        go_wp2_with fail
        refine (HP.out _ za zl zc xs (HT.out _ hX7) (HX.out _ (HT.out _ hX7))).mono ?_
        rintro e X8 ⟨b, rfl, hb, hB⟩
        have hX8 := hX7.trans (hB.mono hX7.size)
        clear hB
        obtain rfl : b = true := hb.2 (⟨0, pow_one HLX2.out.1⟩)
        clear hb
        clear q0 q1 q2 q3 q4 q5 q6 q7 q8 q9 q10 q11
        go_wp2_with fail
        refine (HAW.out _).mono ?_
        rintro e XZ ⟨rfl, hXZ⟩
        have HEND := HB6.out _ (HT.out _ (hX8.trans (hXZ.mono hX8.size)))
        clear hXZ
        go_wp2
        go_ret
        first | exact HEND | exact ⟨rfl, HEND⟩
      | false =>
        have HLX2 : Hid (L xs) := hLx
        clear hb2 hLx
        obtain ⟨wb, hwb⟩ : ∃ wb, wb = WN.alloc (.cells #[] 3) := ⟨_, rfl⟩
        have hown0 := owned_nil WN WN.heap.size (Nat.le_refl _)
        have hBb : Below w6.heap.size w6 (WN.alloc (.cells #[] 3)) := hBN.alloc hBN.size _
        have hxb := HX.out _ hBb
        have hs0 : 0 + zl ≤ 1000000 := by omega
        have hs1 : zl + yl ≤ 1000000 := by omega
        have hs3 : WN.heap.size ≤ (WN.alloc (.cells #[] 3)).heap.size := by simp
        have hzc := HZC.out
        have hyc := HYC.out
        clear hwb wb
        go_wp2_with (first
          | (at_builtin; refine wpList_append_ints rfl (.tmp 52) (.tmp 53) rfl WN.heap.size _ 0 [] rfl hown0 za zl zc xs rfl hzc hxb hs0 hs3 ?_; intro v1 W3 hown1 hB3; rw [Nat.zero_add, List.nil_append] at hown1; have hW3 := hBb.trans (hB3.mono hBN.size); have hyb := HY.out _ hW3; have hs2 : WN.heap.size ≤ W3.heap.size := Nat.le_trans hs3 hB3.size)
          | (at_builtin; refine wpList_append_ints rfl (.tmp 54) (.tmp 55) rfl WN.heap.size _ zl xs rfl hown1 ya yl yc ys rfl hyc hyb hs1 hs2 ?_; intro v2 W4 hown2 hB4'; have hB4 : Below w6.heap.size w6 W4 := hW3.trans (hB4'.mono hBN.size); obtain ⟨ra, rc, rfl, hR⟩ := owned_ints hown2 (by omega))
          | fail)
        have HT : Hid (∀ X : World, Below W4.heap.size W4 X → Below w6.heap.size w6 X) := fun X hX => hB4.trans (hX.mono hB4.size)
        refine wp_region_held_drew (S := fun X => Below W4.heap.size W4 X) hmx (Below.refl _ W4).drew (fun hS => ?_)
        refine takeD 0 (some 57) (v := ?_) rfl rfl (by kernel_rfl) (by kernel_rfl) (by kernel_rfl) (fun _ _ _ h => h) (Or.inl ⟨by rfl, ?_⟩) hS ?_
        rotate_left
        · intro w hSw
          obtain ⟨q0, q1, q2, q3, q4, q5, q6, q7, q8, q9, q10, q11⟩ := HK.out _ (HT.out _ hSw)
          go_simp
          with_reducible rfl
        try simp only [Act.put, List.setIfInBounds_toArray, List.set_cons_zero, List.set_cons_succ]
        refine takeD 1 (some 58) (v := ?_) rfl rfl (by kernel_rfl) (by kernel_rfl) (by kernel_rfl) (fun _ _ _ h => h) (Or.inl ⟨by rfl, ?_⟩) hS ?_
        rotate_left
        · intro w hSw
          try go_simp
          with_reducible rfl
        try simp only [Act.put, List.setIfInBounds_toArray, List.set_cons_zero, List.set_cons_succ]
        refine takeD 2 (some 59) (v := ?_) rfl rfl (by kernel_rfl) (by kernel_rfl) (by kernel_rfl) (fun _ _ _ h => h) (Or.inl ⟨by rfl, ?_⟩) hS ?_
        rotate_left
        · intro w hSw
          try go_simp
          with_reducible rfl
        try simp only [Act.put, List.setIfInBounds_toArray, List.set_cons_zero, List.set_cons_succ]
        refine takeD 4 (some 61) (v := ?_) rfl rfl (by kernel_rfl) (by kernel_rfl) (by kernel_rfl) (fun _ _ _ h => h) (Or.inl ⟨by rfl, ?_⟩) hS ?_
        rotate_left
        · intro w hSw
          try go_simp
          with_reducible rfl
        try simp only [Act.put, List.setIfInBounds_toArray, List.set_cons_zero, List.set_cons_succ]
        refine callD 3 (by kernel_rfl) rfl (fun K hK => ?_)
        rw [if_pos (by rfl)]
        go_simp
        refine (HO.out _ za zl zc xs (HT.out _ hS) (HX.out _ (HT.out _ hS))).mono ?_
        rintro e X1 ⟨b, rfl, hb, hB⟩
        obtain rfl : b = true := hb.2 (.inr HLX2.out)
        clear hb
        refine hK.out _ _ (hS.trans (hB.mono hS.size)) (fun hX1 => ?_)
        clear hK K
        try simp only [Act.put, List.setIfInBounds_toArray, List.set_cons_zero, List.set_cons_succ]
        refine takeD 5 (some 62) (v := ?_) rfl rfl (by kernel_rfl) (by kernel_rfl) (by kernel_rfl) (fun _ _ _ h => h) (Or.inl ⟨by rfl, ?_⟩) hX1 ?_
        rotate_left
        · intro w hSw
          try go_simp
          with_reducible rfl
        try simp only [Act.put, List.setIfInBounds_toArray, List.set_cons_zero, List.set_cons_succ]
        refine takeD 6 (some 63) (v := undef) rfl rfl (by kernel_rfl) (by kernel_rfl) (by kernel_rfl) (fun _ _ _ h => h) (Or.inr ⟨by rfl, rfl⟩) hX1 ?_
        try simp only [Act.put, List.setIfInBounds_toArray, List.set_cons_zero, List.set_cons_succ]
        refine takeD 7 (some 64) (v := undef) rfl rfl (by kernel_rfl) (by kernel_rfl) (by kernel_rfl) (fun _ _ _ h => h) (Or.inr ⟨by rfl, rfl⟩) hX1 ?_
        try simp only [Act.put, List.setIfInBounds_toArray, List.set_cons_zero, List.set_cons_succ]
        refine takeD 8 (some 65) (v := undef) rfl rfl (by kernel_rfl) (by kernel_rfl) (by kernel_rfl) (fun _ _ _ h => h) (Or.inr ⟨by rfl, rfl⟩) hX1 ?_
        try simp only [Act.put, List.setIfInBounds_toArray, List.set_cons_zero, List.set_cons_succ]
        refine takeD 9 (some 66) (v := ?_) rfl rfl (by kernel_rfl) (by kernel_rfl) (by kernel_rfl) (fun _ _ _ h => h) (Or.inl ⟨by rfl, ?_⟩) hX1 ?_
        rotate_left
        · intro w hSw
          go_simp
          with_reducible rfl
        try simp only [Act.put, List.setIfInBounds_toArray, List.set_cons_zero, List.set_cons_succ]
        refine takeD 10 (some 67) (v := ?_) rfl rfl (by kernel_rfl) (by kernel_rfl) (by kernel_rfl) (fun _ _ _ h => h) (Or.inl ⟨by rfl, ?_⟩) hX1 ?_
        rotate_left
        · intro w hSw
          go_simp
          with_reducible rfl
        try simp only [Act.put, List.setIfInBounds_toArray, List.set_cons_zero, List.set_cons_succ]
        refine takeD 11 (some 68) (v := ?_) rfl rfl (by kernel_rfl) (by kernel_rfl) (by kernel_rfl) (fun _ _ _ h => h) (Or.inl ⟨by rfl, ?_⟩) hX1 ?_
        rotate_left
        · intro w hSw
          try go_simp
          with_reducible rfl
        try simp only [Act.put, List.setIfInBounds_toArray, List.set_cons_zero, List.set_cons_succ]
        refine takeD 12 (some 69) (v := ?_) rfl rfl (by kernel_rfl) (by kernel_rfl) (by kernel_rfl) (fun _ _ _ h => h) (Or.inl ⟨by rfl, ?_⟩) hX1 ?_
        rotate_left
        · intro w hSw
          obtain ⟨q0, q1, q2, q3, q4, q5, q6, q7, q8, q9, q10, q11⟩ := HK.out _ (HT.out _ hSw)
          go_simp
          with_reducible rfl
        try simp only [Act.put, List.setIfInBounds_toArray, List.set_cons_zero, List.set_cons_succ]
        refine takeD 13 (some 70) (v := ?_) rfl rfl (by kernel_rfl) (by kernel_rfl) (by kernel_rfl) (fun _ _ _ h => h) (Or.inl ⟨by rfl, ?_⟩) hX1 ?_
        rotate_left
        · intro w hSw
          try go_simp
          with_reducible rfl
        try simp only [Act.put, List.setIfInBounds_toArray, List.set_cons_zero, List.set_cons_succ]
        refine callD 14 (by kernel_rfl) rfl (fun K hK => ?_)
        rw [if_pos (by rfl)]
        go_simp
        refine (HS.out _ none 0 0 [] (HT.out _ hX1) (Ints.none0 _)).mono ?_
        rintro e X2 ⟨b, rfl, hb, hB⟩
        obtain rfl : b = true := hb.2 ⟨0, rfl⟩
        clear hb
        refine hK.out _ _ (hX1.trans (hB.mono hX1.size)) (fun hX2 => ?_)
        clear hK K
        try simp only [Act.put, List.setIfInBounds_toArray, List.set_cons_zero, List.set_cons_succ]
        refine takeD 15 (some 72) (v := ?_) rfl rfl (by kernel_rfl) (by kernel_rfl) (by kernel_rfl) (fun _ _ _ h => h) (Or.inl ⟨by rfl, ?_⟩) hX2 ?_
        rotate_left
        · intro w hSw
          go_simp
          with_reducible rfl
        try simp only [Act.put, List.setIfInBounds_toArray, List.set_cons_zero, List.set_cons_succ]
        refine takeD 16 (some 73) (v := ?_) rfl rfl (by kernel_rfl) (by kernel_rfl) (by kernel_rfl) (fun _ _ _ h => h) (Or.inl ⟨by rfl, ?_⟩) hX2 ?_
        rotate_left
        · intro w hSw
          go_simp
          with_reducible rfl
        try simp only [Act.put, List.setIfInBounds_toArray, List.set_cons_zero, List.set_cons_succ]
        refine takeD 17 (some 74) (v := ?_) rfl rfl (by kernel_rfl) (by kernel_rfl) (by kernel_rfl) (fun _ _ _ h => h) (Or.inl ⟨by rfl, ?_⟩) hX2 ?_
        rotate_left
        · intro w hSw
          try go_simp
          with_reducible rfl
        try simp only [Act.put, List.setIfInBounds_toArray, List.set_cons_zero, List.set_cons_succ]
        refine takeD 18 (some 75) (v := ?_) rfl rfl (by kernel_rfl) (by kernel_rfl) (by kernel_rfl) (fun _ _ _ h => h) (Or.inl ⟨by rfl, ?_⟩) hX2 ?_
        rotate_left
        · intro w hSw
          obtain ⟨q0, q1, q2, q3, q4, q5, q6, q7, q8, q9, q10, q11⟩ := HK.out _ (HT.out _ hSw)
          go_simp
          with_reducible rfl
        try simp only [Act.put, List.setIfInBounds_toArray, List.set_cons_zero, List.set_cons_succ]
        refine takeD 19 (some 76) (v := ?_) rfl rfl (by kernel_rfl) (by kernel_rfl) (by kernel_rfl) (fun _ _ _ h => h) (Or.inl ⟨by rfl, ?_⟩) hX2 ?_
        rotate_left
        · intro w hSw
          try go_simp
          with_reducible rfl
        try simp only [Act.put, List.setIfInBounds_toArray, List.set_cons_zero, List.set_cons_succ]
        refine takeD 21 (some 78) (v := ?_) rfl rfl (by kernel_rfl) (by kernel_rfl) (by kernel_rfl) (fun _ _ _ h => h) (Or.inl ⟨by rfl, ?_⟩) hX2 ?_
        rotate_left
        · intro w hSw
          obtain ⟨q0, q1, q2, q3, q4, q5, q6, q7, q8, q9, q10, q11⟩ := HK.out _ (HT.out _ hSw)
          go_simp
          with_reducible rfl
        try simp only [Act.put, List.setIfInBounds_toArray, List.set_cons_zero, List.set_cons_succ]
        refine takeD 22 (some 79) (v := ?_) rfl rfl (by kernel_rfl) (by kernel_rfl) (by kernel_rfl) (fun _ _ _ h => h) (Or.inl ⟨by rfl, ?_⟩) hX2 ?_
        rotate_left
        · intro w hSw
          try go_simp
          with_reducible rfl
        try simp only [Act.put, List.setIfInBounds_toArray, List.set_cons_zero, List.set_cons_succ]
        refine callD 20 (by kernel_rfl) rfl (fun K hK => ?_)
        rw [if_pos (by rfl)]
        go_simp
        refine (HP.out _ none 0 0 [] (HT.out _ hX2) (Ints.none0 _)).mono ?_
        rintro e X3 ⟨b, rfl, hb, hB⟩
        have hbp : b = true ↔ L [] := hb.trans ⟨fun ⟨m, q⟩ => pow_nil q, fun q => ⟨0, pow_one q⟩⟩
        clear hb
        refine hK.out _ _ (hX2.trans (hB.mono hX2.size)) (fun hX3 => ?_)
        clear hK K
        try simp only [Act.put, List.setIfInBounds_toArray, List.set_cons_zero, List.set_cons_succ]
        refine callD 23 (by kernel_rfl) rfl (fun K hK => ?_)
        rw [if_pos (by rfl)]
        go_simp
        refine (HE.out _ none 0 0 [] (HT.out _ hX3) (Ints.none0 _)).mono ?_
        rintro e X4 ⟨b', rfl, hb', hB⟩
        obtain rfl : b = b' := Bool.eq_iff_iff.2 (hbp.trans hb'.symm)
        have hbb : (b != b) = false := by simp
        have hbq : (b == b) = true := by simp
        clear hbp hb'
        refine hK.out _ _ (hX3.trans (hB.mono hX3.size)) (fun hX4 => ?_)
        clear hK K
        try simp only [Act.put, List.setIfInBounds_toArray, List.set_cons_zero, List.set_cons_succ]
        refine takeD 24 (some 81) (v := ?_) rfl rfl (by kernel_rfl) (by kernel_rfl) (by kernel_rfl) (fun _ _ _ h => h) (Or.inl ⟨by rfl, ?_⟩) hX4 ?_
        rotate_left
        · intro w hSw
          go_simp
          with_reducible rfl
        try simp only [Act.put, List.setIfInBounds_toArray, List.set_cons_zero, List.set_cons_succ]
        refine takeD 25 (some 82) (v := ?_) rfl rfl (by kernel_rfl) (by kernel_rfl) (by kernel_rfl) (fun _ _ _ h => h) (Or.inl ⟨by rfl, ?_⟩) hX4 ?_
        rotate_left
        · intro w hSw
          go_simp
          with_reducible rfl
        try simp only [Act.put, List.setIfInBounds_toArray, List.set_cons_zero, List.set_cons_succ]
        refine wpAnyH_done (by kernel_rfl) ?_ _
        obtain ⟨q0, q1, q2, q3, q4, q5, q6, q7, q8, q9, q10, q11⟩ := HK.out _ (HT.out _ hX4)
        go_wp2_with fail
        refine (HS.out _ za zl zc xs (HT.out _ hX4) (HX.out _ (HT.out _ hX4))).mono ?_
        rintro e X5 ⟨b, rfl, hb, hB⟩
        have hX5 := hX4.trans (hB.mono hX4.size)
        clear hB
        obtain rfl : b = true := hb.2 (⟨1, pow_one HLX2.out⟩)
        clear hb
        clear q0 q1 q2 q3 q4 q5 q6 q7 q8 q9 q10 q11
        obtain ⟨q0, q1, q2, q3, q4, q5, q6, q7, q8, q9, q10, q11⟩ := HK.out _ (HT.out _ hX5)
        go_wp2_with fail
        refine (HP.out _ za zl zc xs (HT.out _ hX5) (HX.out _ (HT.out _ hX5))).mono ?_
        rintro e X6 ⟨b, rfl, hb, hB⟩
        have hX6 := hX5.trans (hB.mono hX5.size)
        clear hB
        obtain rfl : b = true := hb.2 (⟨0, pow_one HLX2.out⟩)
        clear hb
        clear q0 q1 q2 q3 q4 q5 q6 q7 q8 q9 q10 q11
        go_wp2_with fail
        refine (HAW.out _).mono ?_
        rintro e XZ ⟨rfl, hXZ⟩
        have HEND := HB6.out _ (HT.out _ (hX6.trans (hXZ.mono hX6.size)))
        clear hXZ
        go_wp2
        go_ret
        first | exact HEND | exact ⟨rfl, HEND⟩
    | false =>
      have hLx : ¬ L xs := fun q => by cases HB1.out.2 q
      have HNL : Hid (¬ L xs) := hLx
      clear HB1 hLx
      by_cases h0 : zl = 0
      · have he : ((zl : Int) == 0) = true := by rw [h0]; rfl
        have HN : Hid (xs = []) := List.length_eq_zero_iff.1 (HLX.out.trans h0)
        clear h0
        obtain ⟨wb, hwb⟩ : ∃ wb, wb = W1.alloc (.cells #[] 3) := ⟨_, rfl⟩
        have hown0 := owned_nil W1 W1.heap.size (Nat.le_refl _)
        have hBb : Below w6.heap.size w6 (W1.alloc (.cells #[] 3)) := hB1.alloc hB1.size _
        have hxb := HX.out _ hBb
        have hs0 : 0 + zl ≤ 1000000 := by omega
        have hs1 : zl + yl ≤ 1000000 := by omega
        have hs3 : W1.heap.size ≤ (W1.alloc (.cells #[] 3)).heap.size := by simp
        have hzc := HZC.out
        have hyc := HYC.out
        clear hwb wb
        go_wp2_with (first
          | (at_builtin; refine wpList_append_ints rfl (.tmp 52) (.tmp 53) rfl W1.heap.size _ 0 [] rfl hown0 za zl zc xs rfl hzc hxb hs0 hs3 ?_; intro v1 W3 hown1 hB3; rw [Nat.zero_add, List.nil_append] at hown1; have hW3 := hBb.trans (hB3.mono hB1.size); have hyb := HY.out _ hW3; have hs2 : W1.heap.size ≤ W3.heap.size := Nat.le_trans hs3 hB3.size)
          | (at_builtin; refine wpList_append_ints rfl (.tmp 54) (.tmp 55) rfl W1.heap.size _ zl xs rfl hown1 ya yl yc ys rfl hyc hyb hs1 hs2 ?_; intro v2 W4 hown2 hB4'; have hB4 : Below w6.heap.size w6 W4 := hW3.trans (hB4'.mono hB1.size); obtain ⟨ra, rc, rfl, hR⟩ := owned_ints hown2 (by omega))
          | fail)
        have HT : Hid (∀ X : World, Below W4.heap.size W4 X → Below w6.heap.size w6 X) := fun X hX => hB4.trans (hX.mono hB4.size)
        refine wp_region_held_drew (S := fun X => Below W4.heap.size W4 X) hmx (Below.refl _ W4).drew (fun hS => ?_)
        refine takeD 0 (some 57) (v := ?_) rfl rfl (by kernel_rfl) (by kernel_rfl) (by kernel_rfl) (fun _ _ _ h => h) (Or.inl ⟨by rfl, ?_⟩) hS ?_
        rotate_left
        · intro w hSw
          obtain ⟨q0, q1, q2, q3, q4, q5, q6, q7, q8, q9, q10, q11⟩ := HK.out _ (HT.out _ hSw)
          go_simp
          with_reducible rfl
        try simp only [Act.put, List.setIfInBounds_toArray, List.set_cons_zero, List.set_cons_succ]
        refine takeD 1 (some 58) (v := ?_) rfl rfl (by kernel_rfl) (by kernel_rfl) (by kernel_rfl) (fun _ _ _ h => h) (Or.inl ⟨by rfl, ?_⟩) hS ?_
        rotate_left
        · intro w hSw
          try go_simp
          with_reducible rfl
        try simp only [Act.put, List.setIfInBounds_toArray, List.set_cons_zero, List.set_cons_succ]
        refine takeD 2 (some 59) (v := ?_) rfl rfl (by kernel_rfl) (by kernel_rfl) (by kernel_rfl) (fun _ _ _ h => h) (Or.inl ⟨by rfl, ?_⟩) hS ?_
        rotate_left
        · intro w hSw
          try go_simp
          with_reducible rfl
        try simp only [Act.put, List.setIfInBounds_toArray, List.set_cons_zero, List.set_cons_succ]
        refine takeD 4 (some 61) (v := ?_) rfl rfl (by kernel_rfl) (by kernel_rfl) (by kernel_rfl) (fun _ _ _ h => h) (Or.inl ⟨by rfl, ?_⟩) hS ?_
        rotate_left
        · intro w hSw
          try go_simp
          with_reducible rfl
        try simp only [Act.put, List.setIfInBounds_toArray, List.set_cons_zero, List.set_cons_succ]
        refine callD 3 (by kernel_rfl) rfl (fun K hK => ?_)
        rw [if_pos (by rfl)]
        go_simp
        refine (HO.out _ za zl zc xs (HT.out _ hS) (HX.out _ (HT.out _ hS))).mono ?_
        rintro e X1 ⟨b, rfl, hb, hB⟩
        obtain rfl : b = true := hb.2 (.inl HN.out)
        clear hb
        refine hK.out _ _ (hS.trans (hB.mono hS.size)) (fun hX1 => ?_)
        clear hK K
        try simp only [Act.put, List.setIfInBounds_toArray, List.set_cons_zero, List.set_cons_succ]
        refine takeD 5 (some 62) (v := ?_) rfl rfl (by kernel_rfl) (by kernel_rfl) (by kernel_rfl) (fun _ _ _ h => h) (Or.inl ⟨by rfl, ?_⟩) hX1 ?_
        rotate_left
        · intro w hSw
          try go_simp
          with_reducible rfl
        try simp only [Act.put, List.setIfInBounds_toArray, List.set_cons_zero, List.set_cons_succ]
        refine takeD 6 (some 63) (v := ?_) rfl rfl (by kernel_rfl) (by kernel_rfl) (by kernel_rfl) (fun _ _ _ h => h) (Or.inl ⟨by rfl, ?_⟩) hX1 ?_
        rotate_left
        · intro w hSw
          try go_simp
          with_reducible rfl
        try simp only [Act.put, List.setIfInBounds_toArray, List.set_cons_zero, List.set_cons_succ]
        refine takeD 7 (some 64) (v := ?_) rfl rfl (by kernel_rfl) (by kernel_rfl) (by kernel_rfl) (fun _ _ _ h => h) (Or.inl ⟨by rfl, ?_⟩) hX1 ?_
        rotate_left
        · intro w hSw
          go_simp
          with_reducible rfl
        try simp only [Act.put, List.setIfInBounds_toArray, List.set_cons_zero, List.set_cons_succ]
        refine takeD 8 (some 65) (v := ?_) rfl rfl (by kernel_rfl) (by kernel_rfl) (by kernel_rfl) (fun _ _ _ h => h) (Or.inl ⟨by rfl, ?_⟩) hX1 ?_
        rotate_left
        · intro w hSw
          go_simp
          with_reducible rfl
        try simp only [Act.put, List.setIfInBounds_toArray, List.set_cons_zero, List.set_cons_succ]
        refine takeD 9 (some 66) (v := ?_) rfl rfl (by kernel_rfl) (by kernel_rfl) (by kernel_rfl) (fun _ _ _ h => h) (Or.inl ⟨by rfl, ?_⟩) hX1 ?_
        rotate_left
        · intro w hSw
          go_simp
          with_reducible rfl
        try simp only [Act.put, List.setIfInBounds_toArray, List.set_cons_zero, List.set_cons_succ]
        refine takeD 10 (some 67) (v := ?_) rfl rfl (by kernel_rfl) (by kernel_rfl) (by kernel_rfl) (fun _ _ _ h => h) (Or.inl ⟨by rfl, ?_⟩) hX1 ?_
        rotate_left
        · intro w hSw
          go_simp
          with_reducible rfl
        try simp only [Act.put, List.setIfInBounds_toArray, List.set_cons_zero, List.set_cons_succ]
        refine takeD 11 (some 68) (v := ?_) rfl rfl (by kernel_rfl) (by kernel_rfl) (by kernel_rfl) (fun _ _ _ h => h) (Or.inl ⟨by rfl, ?_⟩) hX1 ?_
        rotate_left
        · intro w hSw
          try go_simp
          with_reducible rfl
        try simp only [Act.put, List.setIfInBounds_toArray, List.set_cons_zero, List.set_cons_succ]
        refine takeD 12 (some 69) (v := ?_) rfl rfl (by kernel_rfl) (by kernel_rfl) (by kernel_rfl) (fun _ _ _ h => h) (Or.inl ⟨by rfl, ?_⟩) hX1 ?_
        rotate_left
        · intro w hSw
          obtain ⟨q0, q1, q2, q3, q4, q5, q6, q7, q8, q9, q10, q11⟩ := HK.out _ (HT.out _ hSw)
          go_simp
          with_reducible rfl
        try simp only [Act.put, List.setIfInBounds_toArray, List.set_cons_zero, List.set_cons_succ]
        refine takeD 13 (some 70) (v := ?_) rfl rfl (by kernel_rfl) (by kernel_rfl) (by kernel_rfl) (fun _ _ _ h => h) (Or.inl ⟨by rfl, ?_⟩) hX1 ?_
        rotate_left
        · intro w hSw
          try go_simp
          with_reducible rfl
        try simp only [Act.put, List.setIfInBounds_toArray, List.set_cons_zero, List.set_cons_succ]
        refine callD 14 (by kernel_rfl) rfl (fun K hK => ?_)
        rw [if_pos (by rfl)]
        go_simp
        refine (HS.out _ none 0 0 [] (HT.out _ hX1) (Ints.none0 _)).mono ?_
        rintro e X2 ⟨b, rfl, hb, hB⟩
        obtain rfl : b = true := hb.2 ⟨0, rfl⟩
        clear hb
        refine hK.out _ _ (hX1.trans (hB.mono hX1.size)) (fun hX2 => ?_)
        clear hK K
        try simp only [Act.put, List.setIfInBounds_toArray, List.set_cons_zero, List.set_cons_succ]
        refine takeD 15 (some 72) (v := ?_) rfl rfl (by kernel_rfl) (by kernel_rfl) (by kernel_rfl) (fun _ _ _ h => h) (Or.inl ⟨by rfl, ?_⟩) hX2 ?_
        rotate_left
        · intro w hSw
          go_simp
          with_reducible rfl
        try simp only [Act.put, List.setIfInBounds_toArray, List.set_cons_zero, List.set_cons_succ]
        refine takeD 16 (some 73) (v := ?_) rfl rfl (by kernel_rfl) (by kernel_rfl) (by kernel_rfl) (fun _ _ _ h => h) (Or.inl ⟨by rfl, ?_⟩) hX2 ?_
        rotate_left
        · intro w hSw
          go_simp
          with_reducible rfl
        try simp only [Act.put, List.setIfInBounds_toArray, List.set_cons_zero, List.set_cons_succ]
        refine takeD 17 (some 74) (v := ?_) rfl rfl (by kernel_rfl) (by kernel_rfl) (by kernel_rfl) (fun _ _ _ h => h) (Or.inl ⟨by rfl, ?_⟩) hX2 ?_
        rotate_left
        · intro w hSw
          try go_simp
          with_reducible rfl
        try simp only [Act.put, List.setIfInBounds_toArray, List.set_cons_zero, List.set_cons_succ]
        refine takeD 18 (some 75) (v := ?_) rfl rfl (by kernel_rfl) (by kernel_rfl) (by kernel_rfl) (fun _ _ _ h => h) (Or.inl ⟨by rfl, ?_⟩) hX2 ?_
        rotate_left
        · intro w hSw
          obtain ⟨q0, q1, q2, q3, q4, q5, q6, q7, q8, q9, q10, q11⟩ := HK.out _ (HT.out _ hSw)
          go_simp
          with_reducible rfl
        try simp only [Act.put, List.setIfInBounds_toArray, List.set_cons_zero, List.set_cons_succ]
        refine takeD 19 (some 76) (v := ?_) rfl rfl (by kernel_rfl) (by kernel_rfl) (by kernel_rfl) (fun _ _ _ h => h) (Or.inl ⟨by rfl, ?_⟩) hX2 ?_
        rotate_left
        · intro w hSw
          try go_simp
          with_reducible rfl
        try simp only [Act.put, List.setIfInBounds_toArray, List.set_cons_zero, List.set_cons_succ]
        refine takeD 21 (some 78) (v := ?_) rfl rfl (by kernel_rfl) (by kernel_rfl) (by kernel_rfl) (fun _ _ _ h => h) (Or.inl ⟨by rfl, ?_⟩) hX2 ?_
        rotate_left
        · intro w hSw
          obtain ⟨q0, q1, q2, q3, q4, q5, q6, q7, q8, q9, q10, q11⟩ := HK.out _ (HT.out _ hSw)
          go_simp
          with_reducible rfl
        try simp only [Act.put, List.setIfInBounds_toArray, List.set_cons_zero, List.set_cons_succ]
        refine takeD 22 (some 79) (v := ?_) rfl rfl (by kernel_rfl) (by kernel_rfl) (by kernel_rfl) (fun _ _ _ h => h) (Or.inl ⟨by rfl, ?_⟩) hX2 ?_
        rotate_left
        · intro w hSw
          try go_simp
          with_reducible rfl
        try simp only [Act.put, List.setIfInBounds_toArray, List.set_cons_zero, List.set_cons_succ]
        refine callD 20 (by kernel_rfl) rfl (fun K hK => ?_)
        rw [if_pos (by rfl)]
        go_simp
        refine (HP.out _ none 0 0 [] (HT.out _ hX2) (Ints.none0 _)).mono ?_
        rintro e X3 ⟨b, rfl, hb, hB⟩
        have hbp : b = true ↔ L [] := hb.trans ⟨fun ⟨m, q⟩ => pow_nil q, fun q => ⟨0, pow_one q⟩⟩
        clear hb
        refine hK.out _ _ (hX2.trans (hB.mono hX2.size)) (fun hX3 => ?_)
        clear hK K
        try simp only [Act.put, List.setIfInBounds_toArray, List.set_cons_zero, List.set_cons_succ]
        refine callD 23 (by kernel_rfl) rfl (fun K hK => ?_)
        rw [if_pos (by rfl)]
        go_simp
        refine (HE.out _ none 0 0 [] (HT.out _ hX3) (Ints.none0 _)).mono ?_
        rintro e X4 ⟨b', rfl, hb', hB⟩
        obtain rfl : b = b' := Bool.eq_iff_iff.2 (hbp.trans hb'.symm)
        have hbb : (b != b) = false := by simp
        have hbq : (b == b) = true := by simp
        clear hbp hb'
        refine hK.out _ _ (hX3.trans (hB.mono hX3.size)) (fun hX4 => ?_)
        clear hK K
        try simp only [Act.put, List.setIfInBounds_toArray, List.set_cons_zero, List.set_cons_succ]
        refine takeD 24 (some 81) (v := ?_) rfl rfl (by kernel_rfl) (by kernel_rfl) (by kernel_rfl) (fun _ _ _ h => h) (Or.inl ⟨by rfl, ?_⟩) hX4 ?_
        rotate_left
        · intro w hSw
          go_simp
          with_reducible rfl
        try simp only [Act.put, List.setIfInBounds_toArray, List.set_cons_zero, List.set_cons_succ]
        refine takeD 25 (some 82) (v := ?_) rfl rfl (by kernel_rfl) (by kernel_rfl) (by kernel_rfl) (fun _ _ _ h => h) (Or.inl ⟨by rfl, ?_⟩) hX4 ?_
        rotate_left
        · intro w hSw
          go_simp
          with_reducible rfl
        try simp only [Act.put, List.setIfInBounds_toArray, List.set_cons_zero, List.set_cons_succ]
        refine wpAnyH_done (by kernel_rfl) ?_ _
        go_wp2_with fail
        refine (HAW.out _).mono ?_
        rintro e XZ ⟨rfl, hXZ⟩
        have HEND := HB6.out _ (HT.out _ (hX4.trans (hXZ.mono hX4.size)))
        clear hXZ
        go_wp2
        go_ret
        first | exact HEND | exact ⟨rfl, HEND⟩
      · have he : ((zl : Int) == 0) = false := by rw [beq_eq_false_iff_ne]; omega
        have HN : Hid (xs ≠ []) := fun e => h0 (by rw [← HLX.out, e]; rfl)
        clear h0
        obtain ⟨wb, hwb⟩ : ∃ wb, wb = W1.alloc (.cells #[] 3) := ⟨_, rfl⟩
        have hown0 := owned_nil W1 W1.heap.size (Nat.le_refl _)
        have hBb : Below w6.heap.size w6 (W1.alloc (.cells #[] 3)) := hB1.alloc hB1.size _
        have hxb := HX.out _ hBb
        have hs0 : 0 + zl ≤ 1000000 := by omega
        have hs1 : zl + yl ≤ 1000000 := by omega
        have hs3 : W1.heap.size ≤ (W1.alloc (.cells #[] 3)).heap.size := by simp
        have hzc := HZC.out
        have hyc := HYC.out
        clear hwb wb
        go_wp2_with (first
          | (at_builtin; refine wpList_append_ints rfl (.tmp 52) (.tmp 53) rfl W1.heap.size _ 0 [] rfl hown0 za zl zc xs rfl hzc hxb hs0 hs3 ?_; intro v1 W3 hown1 hB3; rw [Nat.zero_add, List.nil_append] at hown1; have hW3 := hBb.trans (hB3.mono hB1.size); have hyb := HY.out _ hW3; have hs2 : W1.heap.size ≤ W3.heap.size := Nat.le_trans hs3 hB3.size)
          | (at_builtin; refine wpList_append_ints rfl (.tmp 54) (.tmp 55) rfl W1.heap.size _ zl xs rfl hown1 ya yl yc ys rfl hyc hyb hs1 hs2 ?_; intro v2 W4 hown2 hB4'; have hB4 : Below w6.heap.size w6 W4 := hW3.trans (hB4'.mono hB1.size); obtain ⟨ra, rc, rfl, hR⟩ := owned_ints hown2 (by omega))
          | fail)
        have HT : Hid (∀ X : World, Below W4.heap.size W4 X → Below w6.heap.size w6 X) := fun X hX => hB4.trans (hX.mono hB4.size)
        refine wp_region_held_drew (S := fun X => Below W4.heap.size W4 X) hmx (Below.refl _ W4).drew (fun hS => ?_)
        refine takeD 0 (some 57) (v := ?_) rfl rfl (by kernel_rfl) (by kernel_rfl) (by kernel_rfl) (fun _ _ _ h => h) (Or.inl ⟨by rfl, ?_⟩) hS ?_
        rotate_left
        · intro w hSw
          obtain ⟨q0, q1, q2, q3, q4, q5, q6, q7, q8, q9, q10, q11⟩ := HK.out _ (HT.out _ hSw)
          go_simp
          with_reducible rfl
        try simp only [Act.put, List.setIfInBounds_toArray, List.set_cons_zero, List.set_cons_succ]
        refine takeD 1 (some 58) (v := ?_) rfl rfl (by kernel_rfl) (by kernel_rfl) (by kernel_rfl) (fun _ _ _ h => h) (Or.inl ⟨by rfl, ?_⟩) hS ?_
        rotate_left
        · intro w hSw
          try go_simp
          with_reducible rfl
        try simp only [Act.put, List.setIfInBounds_toArray, List.set_cons_zero, List.set_cons_succ]
        refine takeD 2 (some 59) (v := ?_) rfl rfl (by kernel_rfl) (by kernel_rfl) (by kernel_rfl) (fun _ _ _ h => h) (Or.inl ⟨by rfl, ?_⟩) hS ?_
        rotate_left
        · intro w hSw
          try go_simp
          with_reducible rfl
        try simp only [Act.put, List.setIfInBounds_toArray, List.set_cons_zero, List.set_cons_succ]
        refine takeD 4 (some 61) (v := ?_) rfl rfl (by kernel_rfl) (by kernel_rfl) (by kernel_rfl) (fun _ _ _ h => h) (Or.inl ⟨by rfl, ?_⟩) hS ?_
        rotate_left
        · intro w hSw
          try go_simp
          with_reducible rfl
        try simp only [Act.put, List.setIfInBounds_toArray, List.set_cons_zero, List.set_cons_succ]
        refine callD 3 (by kernel_rfl) rfl (fun K hK => ?_)
        rw [if_pos (by rfl)]
        go_simp
        refine (HO.out _ za zl zc xs (HT.out _ hS) (HX.out _ (HT.out _ hS))).mono ?_
        rintro e X1 ⟨b, rfl, hb, hB⟩
        obtain rfl : b = false := by cases b with | false => rfl | true => exact ((hb.1 rfl).elim HN.out HNL.out).elim
        clear hb
        refine hK.out _ _ (hS.trans (hB.mono hS.size)) (fun hX1 => ?_)
        clear hK K
        try simp only [Act.put, List.setIfInBounds_toArray, List.set_cons_zero, List.set_cons_succ]
        refine takeD 5 (some 62) (v := ?_) rfl rfl (by kernel_rfl) (by kernel_rfl) (by kernel_rfl) (fun _ _ _ h => h) (Or.inl ⟨by rfl, ?_⟩) hX1 ?_
        rotate_left
        · intro w hSw
          try go_simp
          with_reducible rfl
        try simp only [Act.put, List.setIfInBounds_toArray, List.set_cons_zero, List.set_cons_succ]
        refine takeD 6 (some 63) (v := ?_) rfl rfl (by kernel_rfl) (by kernel_rfl) (by kernel_rfl) (fun _ _ _ h => h) (Or.inl ⟨by rfl, ?_⟩) hX1 ?_
        rotate_left
        · intro w hSw
          try go_simp
          with_reducible rfl
        try simp only [Act.put, List.setIfInBounds_toArray, List.set_cons_zero, List.set_cons_succ]
        refine takeD 7 (some 64) (v := ?_) rfl rfl (by kernel_rfl) (by kernel_rfl) (by kernel_rfl) (fun _ _ _ h => h) (Or.inl ⟨by rfl, ?_⟩) hX1 ?_
        rotate_left
        · intro w hSw
          go_simp
          with_reducible rfl
        try simp only [Act.put, List.setIfInBounds_toArray, List.set_cons_zero, List.set_cons_succ]
        refine takeD 8 (some 65) (v := ?_) rfl rfl (by kernel_rfl) (by kernel_rfl) (by kernel_rfl) (fun _ _ _ h => h) (Or.inl ⟨by rfl, ?_⟩) hX1 ?_
        rotate_left
        · intro w hSw
          go_simp
          with_reducible rfl
        try simp only [Act.put, List.setIfInBounds_toArray, List.set_cons_zero, List.set_cons_succ]
        refine takeD 9 (some 66) (v := ?_) rfl rfl (by kernel_rfl) (by kernel_rfl) (by kernel_rfl) (fun _ _ _ h => h) (Or.inl ⟨by rfl, ?_⟩) hX1 ?_
        rotate_left
        · intro w hSw
          go_simp
          with_reducible rfl
        try simp only [Act.put, List.setIfInBounds_toArray, List.set_cons_zero, List.set_cons_succ]
        refine takeD 10 (some 67) (v := ?_) rfl rfl (by kernel_rfl) (by kernel_rfl) (by kernel_rfl) (fun _ _ _ h => h) (Or.inl ⟨by rfl, ?_⟩) hX1 ?_
        rotate_left
        · intro w hSw
          go_simp
          with_reducible rfl
        try simp only [Act.put, List.setIfInBounds_toArray, List.set_cons_zero, List.set_cons_succ]
        refine takeD 11 (some 68) (v := ?_) rfl rfl (by kernel_rfl) (by kernel_rfl) (by kernel_rfl) (fun _ _ _ h => h) (Or.inl ⟨by rfl, ?_⟩) hX1 ?_
        rotate_left
        · intro w hSw
          try go_simp
          with_reducible rfl
        try simp only [Act.put, List.setIfInBounds_toArray, List.set_cons_zero, List.set_cons_succ]
        refine takeD 12 (some 69) (v := ?_) rfl rfl (by kernel_rfl) (by kernel_rfl) (by kernel_rfl) (fun _ _ _ h => h) (Or.inl ⟨by rfl, ?_⟩) hX1 ?_
        rotate_left
        · intro w hSw
          obtain ⟨q0, q1, q2, q3, q4, q5, q6, q7, q8, q9, q10, q11⟩ := HK.out _ (HT.out _ hSw)
          go_simp
          with_reducible rfl
        try simp only [Act.put, List.setIfInBounds_toArray, List.set_cons_zero, List.set_cons_succ]
        refine takeD 13 (some 70) (v := ?_) rfl rfl (by kernel_rfl) (by kernel_rfl) (by kernel_rfl) (fun _ _ _ h => h) (Or.inl ⟨by rfl, ?_⟩) hX1 ?_
        rotate_left
        · intro w hSw
          try go_simp
          with_reducible rfl
        try simp only [Act.put, List.setIfInBounds_toArray, List.set_cons_zero, List.set_cons_succ]
        refine callD 14 (by kernel_rfl) rfl (fun K hK => ?_)
        rw [if_pos (by rfl)]
        go_simp
        refine (HS.out _ none 0 0 [] (HT.out _ hX1) (Ints.none0 _)).mono ?_
        rintro e X2 ⟨b, rfl, hb, hB⟩
        obtain rfl : b = true := hb.2 ⟨0, rfl⟩
        clear hb
        refine hK.out _ _ (hX1.trans (hB.mono hX1.size)) (fun hX2 => ?_)
        clear hK K
        try simp only [Act.put, List.setIfInBounds_toArray, List.set_cons_zero, List.set_cons_succ]
        refine takeD 15 (some 72) (v := ?_) rfl rfl (by kernel_rfl) (by kernel_rfl) (by kernel_rfl) (fun _ _ _ h => h) (Or.inl ⟨by rfl, ?_⟩) hX2 ?_
        rotate_left
        · intro w hSw
          go_simp
          with_reducible rfl
        try simp only [Act.put, List.setIfInBounds_toArray, List.set_cons_zero, List.set_cons_succ]
        refine takeD 16 (some 73) (v := ?_) rfl rfl (by kernel_rfl) (by kernel_rfl) (by kernel_rfl) (fun _ _ _ h => h) (Or.inl ⟨by rfl, ?_⟩) hX2 ?_
        rotate_left
        · intro w hSw
          go_simp
          with_reducible rfl
        try simp only [Act.put, List.setIfInBounds_toArray, List.set_cons_zero, List.set_cons_succ]
        refine takeD 17 (some 74) (v := ?_) rfl rfl (by kernel_rfl) (by kernel_rfl) (by kernel_rfl) (fun _ _ _ h => h) (Or.inl ⟨by rfl, ?_⟩) hX2 ?_
        rotate_left
        · intro w hSw
          try go_simp
          with_reducible rfl
        try simp only [Act.put, List.setIfInBounds_toArray, List.set_cons_zero, List.set_cons_succ]
        refine takeD 18 (some 75) (v := ?_) rfl rfl (by kernel_rfl) (by kernel_rfl) (by kernel_rfl) (fun _ _ _ h => h) (Or.inl ⟨by rfl, ?_⟩) hX2 ?_
        rotate_left
        · intro w hSw
          obtain ⟨q0, q1, q2, q3, q4, q5, q6, q7, q8, q9, q10, q11⟩ := HK.out _ (HT.out _ hSw)
          go_simp
          with_reducible rfl
        try simp only [Act.put, List.setIfInBounds_toArray, List.set_cons_zero, List.set_cons_succ]
        refine takeD 19 (some 76) (v := ?_) rfl rfl (by kernel_rfl) (by kernel_rfl) (by kernel_rfl) (fun _ _ _ h => h) (Or.inl ⟨by rfl, ?_⟩) hX2 ?_
        rotate_left
        · intro w hSw
          try go_simp
          with_reducible rfl
        try simp only [Act.put, List.setIfInBounds_toArray, List.set_cons_zero, List.set_cons_succ]
        refine takeD 21 (some 78) (v := ?_) rfl rfl (by kernel_rfl) (by kernel_rfl) (by kernel_rfl) (fun _ _ _ h => h) (Or.inl ⟨by rfl, ?_⟩) hX2 ?_
        rotate_left
        · intro w hSw
          obtain ⟨q0, q1, q2, q3, q4, q5, q6, q7, q8, q9, q10, q11⟩ := HK.out _ (HT.out _ hSw)
          go_simp
          with_reducible rfl
        try simp only [Act.put, List.setIfInBounds_toArray, List.set_cons_zero, List.set_cons_succ]
        refine takeD 22 (some 79) (v := ?_) rfl rfl (by kernel_rfl) (by kernel_rfl) (by kernel_rfl) (fun _ _ _ h => h) (Or.inl ⟨by rfl, ?_⟩) hX2 ?_
        rotate_left
        · intro w hSw
          try go_simp
          with_reducible rfl
        try simp only [Act.put, List.setIfInBounds_toArray, List.set_cons_zero, List.set_cons_succ]
        refine callD 20 (by kernel_rfl) rfl (fun K hK => ?_)
        rw [if_pos (by rfl)]
        go_simp
        refine (HP.out _ none 0 0 [] (HT.out _ hX2) (Ints.none0 _)).mono ?_
        rintro e X3 ⟨b, rfl, hb, hB⟩
        have hbp : b = true ↔ L [] := hb.trans ⟨fun ⟨m, q⟩ => pow_nil q, fun q => ⟨0, pow_one q⟩⟩
        clear hb
        refine hK.out _ _ (hX2.trans (hB.mono hX2.size)) (fun hX3 => ?_)
        clear hK K
        try simp only [Act.put, List.setIfInBounds_toArray, List.set_cons_zero, List.set_cons_succ]
        refine callD 23 (by kernel_rfl) rfl (fun K hK => ?_)
        rw [if_pos (by rfl)]
        go_simp
        refine (HE.out _ none 0 0 [] (HT.out _ hX3) (Ints.none0 _)).mono ?_
        rintro e X4 ⟨b', rfl, hb', hB⟩
        obtain rfl : b = b' := Bool.eq_iff_iff.2 (hbp.trans hb'.symm)
        have hbb : (b != b) = false := by simp
        have hbq : (b == b) = true := by simp
        clear hbp hb'
        refine hK.out _ _ (hX3.trans (hB.mono hX3.size)) (fun hX4 => ?_)
        clear hK K
        try simp only [Act.put, List.setIfInBounds_toArray, List.set_cons_zero, List.set_cons_succ]
        refine takeD 24 (some 81) (v := ?_) rfl rfl (by kernel_rfl) (by kernel_rfl) (by kernel_rfl) (fun _ _ _ h => h) (Or.inl ⟨by rfl, ?_⟩) hX4 ?_
        rotate_left
        · intro w hSw
          go_simp
          with_reducible rfl
        try simp only [Act.put, List.setIfInBounds_toArray, List.set_cons_zero, List.set_cons_succ]
        refine takeD 25 (some 82) (v := ?_) rfl rfl (by kernel_rfl) (by kernel_rfl) (by kernel_rfl) (fun _ _ _ h => h) (Or.inl ⟨by rfl, ?_⟩) hX4 ?_
        rotate_left
        · intro w hSw
          go_simp
          with_reducible rfl
        try simp only [Act.put, List.setIfInBounds_toArray, List.set_cons_zero, List.set_cons_succ]
        refine wpAnyH_done (by kernel_rfl) ?_ _
        go_wp2_with fail
        refine (HAW.out _).mono ?_
        rintro e XZ ⟨rfl, hXZ⟩
        have HEND := HB6.out _ (HT.out _ (hX4.trans (hXZ.mono hX4.size)))
        clear hXZ
        go_wp2
        go_ret
        first | exact HEND | exact ⟨rfl, HEND⟩
  · generalize chk (n + 1) (node 4 ⟨#[]⟩ [t]) gs = c at *
    have e0 : (c == 0) = false := by simpa using hc
    have e1 : (c != 0) = true := by simp [bne, e0]
    clear h hN hG hX' hY' hzc hyc hc
    go_enter Try.func3, Try.ntmps3
    go_wp2_with fail
    refine HC.out.mono ?_
    rintro e W ⟨rfl, hW, _⟩
    have HW : Hid (Below w.heap.size w W) := hW
    clear hW HC
    go_wp2_with fail
    refine (HAW.out _).mono ?_
    rintro e W2 ⟨rfl, hW2⟩
    have HE := HW.out.trans (hW2.mono HW.out.size)
    clear hW2
    go_wp2
    go_ret
    first | exact HE | exact ⟨rfl, HE⟩
end Go.Proofs.Ytijeegoabobgaaa
