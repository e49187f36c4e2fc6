/-
  PROVED HERE: ExprBack answers true at every tree of a small bulk and every text, and leaves what lay before.
-/
import Derived.Test.YtafidabopcgkhaaDoorBackP
import Derived.Test.YtafidabopcgkhaaDoorOpenA
import Derived.Test.YtafidabopcgkhaaDoorAwake
namespace Go.Proofs.YtafidabopcgkhaaDoor
open Go.RowKit

/-- What the first half does: the tree's own text is read as the tree, or is too long, or there is none. -/
theorem first_print {w : World} {n : Nat} {t : DataW Unit} {k : Int} {nm : ByteArray} {a : Option Addr} {ln cp : Nat} (hX : Ex w n t (.agg #[.int .i64 k, .string nm, .slice a ln cp])) (hn : 200 ≤ n) (hn2 : n ≤ 4194304) (hw : wt n t ≤ 2097152) :
    ∃ (T : ByteArray) (C : Int), T.size ≤ 9223372036854775807 ∧ (∀ W, Below w.heap.size w W → Calls Tryd.prog 13 #[.agg #[.int .i64 k, .string nm, .slice a ln cp]] W fun e w' => Below W.heap.size W w' ∧ e = .returned (.tuple #[.string T, .int .i64 C])) ∧
      (C = 0 → T.size ≤ 200 → Ex w 200 t (.agg #[.int .i64 k, .string nm, .slice a ln cp]) ∧ outTree T = t ∧ outE T = 0 ∧ outN T = T.size) := by
  by_cases hd : dp n t ≤ 200
  · have hX2 : Ex w 200 t (.agg #[.int .i64 k, .string nm, .slice a ln cp]) := Ex.down n t _ 200 hX (by omega)
    have e1 := wt_fuel 200 n t hn (Ex.fits _ _ _ hX2)
    have h2 := textE_size 200 t (Ex.fits _ _ _ hX2)
    refine ⟨printT 200 t, checkE 200 t, ?_, fun W hW => print_calls 200 t k nm a ln cp W (Ex.below hW _ _ _ hX2) (named_wt 200 t (by omega)) (by omega), fun h0 hs => ?_⟩
    · unfold printT
      split
      · omega
      · decide
    · unfold printT at hs ⊢
      rw [if_pos h0] at hs ⊢
      obtain ⟨q1, q2, q3⟩ := back_out hX2 h0 hs
      exact ⟨hX2, q1, q2, q3⟩
  · have h2 := textE_size n t (Ex.fits _ _ _ hX)
    refine ⟨printT n t, checkE n t, ?_, fun W hW => print_calls n t k nm a ln cp W (Ex.below hW _ _ _ hX) (named_wt n t (by omega)) (by omega), fun h0 => ?_⟩
    · unfold printT
      split
      · omega
      · decide
    · unfold checkE at h0
      rw [if_pos (.inr (by omega))] at h0
      cases h0
set_option maxRecDepth 100000 in
set_option maxHeartbeats 4000000 in
theorem back_walk (n : Nat) (t : DataW Unit) (k1 : Int) (nm1 : ByteArray) (a1 : Option Addr) (ln1 cp1 : Nat) (s : ByteArray) (hs : s.size ≤ 9223372036854775807) (w : World) (hX : Ex w n t (.agg #[.int .i64 k1, .string nm1, .slice a1 ln1 cp1])) (hn : 200 ≤ n) (hn2 : n ≤ 4194304) (hw : wt n t ≤ 2097152) (hg : ETy w) :
    Calls Tryd.prog 5 #[.agg #[.int .i64 k1, .string nm1, .slice a1 ln1 cp1], .string s] w fun e w' => e = .returned (.bool true) ∧ Below w.heap.size w w' := by
  have HA : Hid (∀ W, Below w.heap.size w W → Calls Tryd.prog 12 #[] W fun e w' => e = .returned (.bool true) ∧ Below W.heap.size W w') := fun W hW => awake_calls W (hg.below hW)
  have HP : Hid (∀ (s : ByteArray) W, s.size ≤ 9223372036854775807 → Below w.heap.size w W → Calls Tryd.prog 9 #[.string s] W fun e w' => Below W.heap.size W w' ∧ ∃ r, Ex w' 200 (outTree s) (rawV r) ∧ e = .returned (.tuple #[rawV r, .int .i64 (outN s : Int), .int .i64 (outE s)])) := fun s W h hW => parse_calls s h W (hg.below hW)
  have HZ : Hid (s.size ≤ 9223372036854775807) := hs
  obtain ⟨T, C, hTs, hPr, hBk⟩ := first_print hX hn hn2 hw
  have hBa : Below w.heap.size w (w.alloc (.cells #[.int .i64 k1, .string nm1, .slice a1 ln1 cp1] 24)) := (Below.refl _ w).alloc (Nat.le_refl _) _
  have HPR := hPr _ hBa
  have HBA : Hid (Below w.heap.size w (w.alloc (.cells #[.int .i64 k1, .string nm1, .slice a1 ln1 cp1] 24)) ∧ (w.alloc (.cells #[.int .i64 k1, .string nm1, .slice a1 ln1 cp1] 24)).heap[w.heap.size]? = some (.cells #[.int .i64 k1, .string nm1, .slice a1 ln1 cp1] 24 (0, 0)) ∧ T.size ≤ 9223372036854775807) := ⟨hBa, heap_alloc_new w _, hTs⟩
  have HBK : Hid (C = 0 → T.size ≤ 200 → Ex w 200 t (.agg #[.int .i64 k1, .string nm1, .slice a1 ln1 cp1]) ∧ outTree T = t ∧ outE T = 0 ∧ outN T = T.size) := hBk
  clear hX hn hn2 hw hg hs hTs hPr hBk hBa
  go_enter Tryd.func5, Tryd.ntmps5
  go_wp2_with fail
  refine HPR.mono ?_
  clear HPR
  rintro e1 W2 ⟨hB2, rfl⟩
  have hs1 : w.heap.size ≤ (w.alloc (.cells #[.int .i64 k1, .string nm1, .slice a1 ln1 cp1] 24)).heap.size := by simp
  have HBC : Hid (Below w.heap.size w W2) := HBA.out.1.trans (hB2.mono hs1)
  have HV1 : Hid (W2.heap[w.heap.size]? = some (.cells #[.int .i64 k1, .string nm1, .slice a1 ln1 cp1] 24 (0, 0))) := (hB2.block _ (by simp)).trans HBA.out.2.1
  clear hB2 hs1
  by_cases hC : C = 0
  · subst hC
    by_cases hT : T.size ≤ 200
    · obtain ⟨hX2, o1, o2, o3⟩ := HBK.out rfl hT
      have hti : (T.size : Int) ≤ 200 := by omega
      have HPT := HP.out T W2 HBA.out.2.2 HBC.out
      rw [o1, o2, o3] at HPT
      have HX2 : Hid (Ex w 200 t (.agg #[.int .i64 k1, .string nm1, .slice a1 ln1 cp1])) := hX2
      clear hX2 o1 o2 o3 HBK HBA
      go_wp2_with fail
      refine HPT.mono ?_
      clear HPT
      rintro e3 W3 ⟨hB3, ⟨k3, nm3, a3, ln3, cp3⟩, hX3, rfl⟩
      unfold rawV at hX3 ⊢
      simp only at hX3 ⊢
      have hBw3 := HBC.out.trans (hB3.mono HBC.out.size)
      obtain ⟨W4, hW4⟩ : ∃ W4, W4 = W3.alloc (.cells #[.int .i64 k3, .string nm3, .slice a3 ln3 cp3] 24) := ⟨_, rfl⟩
      have hB34 : Below W3.heap.size W3 W4 := by rw [hW4]; exact (Below.refl _ W3).alloc (Nat.le_refl _) _
      have hBw4 : Below w.heap.size w W4 := hBw3.trans (hB34.mono hBw3.size)
      have hlt := (Array.getElem?_eq_some_iff.1 HV1.out).1
      have hc : W4.heap[w.heap.size]? = some (.cells #[.int .i64 k1, .string nm1, .slice a1 ln1 cp1] 24 (0, 0)) := (hB34.block _ (by have := hB3.size; omega)).trans ((hB3.block _ hlt).trans HV1.out)
      have c0 : W4.cell? ⟨w.heap.size, 0, none⟩ = some (.int .i64 k1) := cell_of_row _ _ 0 _ _ _ hc
      have c1 : W4.cell? ⟨w.heap.size, 1, none⟩ = some (.string nm1) := cell_of_row _ _ 1 _ _ _ hc
      have c2 : W4.cell? ⟨w.heap.size, 2, none⟩ = some (.slice a1 ln1 cp1) := cell_of_row _ _ 2 _ _ _ hc
      have HSM := fsame_calls 200 200 t t (.agg #[.int .i64 k3, .string nm3, .slice a3 ln3 cp3]) (.agg #[.int .i64 k1, .string nm1, .slice a1 ln1 cp1]) W4 true (by decide) (Ex.below hB34 _ _ _ hX3) (Ex.below hBw4 _ _ _ HX2.out) (by simp)
      have HB4 : Hid (Below w.heap.size w W4) := hBw4
      rw [hW4] at c0 c1 c2
      have HWE : Hid (W4 = W3.alloc (.cells #[.int .i64 k3, .string nm3, .slice a3 ln3 cp3] 24)) := hW4
      clear hB3 hX3 hBw3 hW4 hB34 hBw4 hlt hc HX2 HBC HV1
      go_wp2_with fail
      rw [← HWE.out]
      clear HWE c0 c1 c2
      refine HSM.mono ?_
      clear HSM
      rintro e4 W4b ⟨rfl, hB4b⟩
      have HBC : Hid (Below w.heap.size w W4b) := HB4.out.trans (hB4b.mono HB4.out.size)
      clear hB4b HB4
      go_wp2_with fail
      refine (HP.out s _ HZ.out HBC.out).mono ?_
      rintro e5 W5 ⟨hB5, ⟨k5, nm5, a5, ln5, cp5⟩, hX5, rfl⟩
      unfold rawV at hX5 ⊢
      simp only at hX5 ⊢
      have hBw5 := HBC.out.trans (hB5.mono HBC.out.size)
      have HB5 : Hid (Below w.heap.size w (W5.alloc (.cells #[.int .i64 k5, .string nm5, .slice a5 ln5 cp5] 24))) := hBw5.alloc hBw5.size _
      generalize (outN s : Int) = N5 at *
      by_cases he5 : outE s = 0
      · obtain ⟨q1, q2, q3⟩ := read_small he5 hX5
        rw [he5]
        obtain ⟨xx, hxx⟩ : ∃ xx, outTree s = xx := ⟨_, rfl⟩
        rw [hxx] at hX5 q1 q2 q3
        obtain ⟨U, hU⟩ : ∃ U, textE 200 xx = U := ⟨_, rfl⟩
        have hXa : Ex (W5.alloc (.cells #[.int .i64 k5, .string nm5, .slice a5 ln5 cp5] 24)) 200 xx (.agg #[.int .i64 k5, .string nm5, .slice a5 ln5 cp5]) := Ex.below ((Below.refl _ W5).alloc (Nat.le_refl _) _) _ _ _ hX5
        have HPR := print_calls 200 xx k5 nm5 a5 ln5 cp5 (W5.alloc (.cells #[.int .i64 k5, .string nm5, .slice a5 ln5 cp5] 24)) hXa q2 q3
        have hpt : printT 200 xx = U := by unfold printT; rw [if_pos q1, hU]
        rw [hpt, q1] at HPR
        have HXA : Hid (Ex (W5.alloc (.cells #[.int .i64 k5, .string nm5, .slice a5 ln5 cp5] 24)) 200 xx (.agg #[.int .i64 k5, .string nm5, .slice a5 ln5 cp5]) ∧ checkE 200 xx = 0 ∧ named 200 xx ∧ U.size ≤ 9223372036854775807 ∧ textE 200 xx = U) := ⟨hXa, q1, q2, by rw [← hU]; omega, hU⟩
        have HBX : Hid ((W5.alloc (.cells #[.int .i64 k5, .string nm5, .slice a5 ln5 cp5] 24)).heap[W5.heap.size]? = some (.cells #[.int .i64 k5, .string nm5, .slice a5 ln5 cp5] 24 (0, 0))) := heap_alloc_new W5 _
        clear hX5 hBw5 hB5 he5 q1 q2 q3 hxx hU hXa hpt HBC
        go_wp2_with fail
        refine HPR.mono ?_
        clear HPR
        rintro e6 W6 ⟨hB6, rfl⟩
        have hBw6 := HB5.out.trans (hB6.mono HB5.out.size)
        have HPU := HP.out U W6 HXA.out.2.2.2.1 hBw6
        have HB6 : Hid (Below w.heap.size w W6 ∧ Below (W5.alloc (.cells #[.int .i64 k5, .string nm5, .slice a5 ln5 cp5] 24)).heap.size (W5.alloc (.cells #[.int .i64 k5, .string nm5, .slice a5 ln5 cp5] 24)) W6) := ⟨hBw6, hB6⟩
        clear hB6 hBw6
        go_wp2_with fail
        refine HPU.mono ?_
        clear HPU
        rintro e7 W7 ⟨hB7, ⟨k7, nm7, a7, ln7, cp7⟩, hX7, rfl⟩
        unfold rawV at hX7 ⊢
        simp only at hX7 ⊢
        obtain ⟨W8, hW8⟩ : ∃ W8, W8 = W7.alloc (.cells #[.int .i64 k7, .string nm7, .slice a7 ln7 cp7] 24) := ⟨_, rfl⟩
        have hB78 : Below W7.heap.size W7 W8 := by rw [hW8]; exact (Below.refl _ W7).alloc (Nat.le_refl _) _
        have hB58 : Below (W5.alloc (.cells #[.int .i64 k5, .string nm5, .slice a5 ln5 cp5] 24)).heap.size (W5.alloc (.cells #[.int .i64 k5, .string nm5, .slice a5 ln5 cp5] 24)) W8 := (HB6.out.2.trans (hB7.mono HB6.out.2.size)).trans (hB78.mono (by have := HB6.out.2.size; have := hB7.size; omega))
        have hBw8 : Below w.heap.size w W8 := (HB6.out.1.trans (hB7.mono HB6.out.1.size)).trans (hB78.mono (by have := HB6.out.1.size; have := hB7.size; omega))
        have hX58 : Ex W8 200 xx (.agg #[.int .i64 k5, .string nm5, .slice a5 ln5 cp5]) := Ex.below hB58 _ _ _ HXA.out.1
        have hX78 : Ex W8 200 (outTree U) (.agg #[.int .i64 k7, .string nm7, .slice a7 ln7 cp7]) := Ex.below hB78 _ _ _ hX7
        have hc : W8.heap[W5.heap.size]? = some (.cells #[.int .i64 k5, .string nm5, .slice a5 ln5 cp5] 24 (0, 0)) := (hB58.block _ (by simp)).trans HBX.out
        have c0 : W8.cell? ⟨W5.heap.size, 0, none⟩ = some (.int .i64 k5) := cell_of_row _ _ 0 _ _ _ hc
        have c1 : W8.cell? ⟨W5.heap.size, 1, none⟩ = some (.string nm5) := cell_of_row _ _ 1 _ _ _ hc
        have c2 : W8.cell? ⟨W5.heap.size, 2, none⟩ = some (.slice a5 ln5 cp5) := cell_of_row _ _ 2 _ _ _ hc
        have hn7 : W8.heap[W7.heap.size]? = some (.cells #[.int .i64 k7, .string nm7, .slice a7 ln7 cp7] 24 (0, 0)) := by rw [hW8]; exact heap_alloc_new W7 _
        have HCK := check_calls 200 xx _ W8 hX58 HXA.out.2.2.1
        rw [HXA.out.2.1] at HCK
        have HB8 : Hid (Below w.heap.size w W8 ∧ Ex W8 200 xx (.agg #[.int .i64 k5, .string nm5, .slice a5 ln5 cp5]) ∧ Ex W8 200 (outTree U) (.agg #[.int .i64 k7, .string nm7, .slice a7 ln7 cp7]) ∧ W8.heap[W5.heap.size]? = some (.cells #[.int .i64 k5, .string nm5, .slice a5 ln5 cp5] 24 (0, 0)) ∧ W8.heap[W7.heap.size]? = some (.cells #[.int .i64 k7, .string nm7, .slice a7 ln7 cp7] 24 (0, 0))) := ⟨hBw8, hX58, hX78, hc, hn7⟩
        rw [hW8] at c0 c1 c2
        have HWE : Hid (W8 = W7.alloc (.cells #[.int .i64 k7, .string nm7, .slice a7 ln7 cp7] 24)) := hW8
        clear hB7 hX7 hW8 hB78 hB58 hBw8 hX58 hX78 hc hn7 HB6 HBX HB5
        generalize (outN U : Int) = N7 at *
        obtain ⟨E7, hE7⟩ : ∃ E7 : Int, outE U = E7 := ⟨_, rfl⟩
        rw [hE7]
        have HE7 : Hid (outE U = E7) := hE7
        clear hE7
        go_wp2_with fail
        rw [← HWE.out]
        clear HWE c0 c1 c2
        refine HCK.mono ?_
        clear HCK
        rintro e9 W9 ⟨rfl, hB9⟩
        obtain ⟨hBw8, hX58, hX78, hc8, hd8⟩ := HB8.out
        have hs8 := hB9.size
        have hBw9 : Below w.heap.size w W9 := hBw8.trans (hB9.mono hBw8.size)
        have hc := (hB9.block _ (Array.getElem?_eq_some_iff.1 hc8).1).trans hc8
        have hd := (hB9.block _ (Array.getElem?_eq_some_iff.1 hd8).1).trans hd8
        have c0 : W9.cell? ⟨W5.heap.size, 0, none⟩ = some (.int .i64 k5) := cell_of_row _ _ 0 _ _ _ hc
        have c1 : W9.cell? ⟨W5.heap.size, 1, none⟩ = some (.string nm5) := cell_of_row _ _ 1 _ _ _ hc
        have c2 : W9.cell? ⟨W5.heap.size, 2, none⟩ = some (.slice a5 ln5 cp5) := cell_of_row _ _ 2 _ _ _ hc
        have d0 : W9.cell? ⟨W7.heap.size, 0, none⟩ = some (.int .i64 k7) := cell_of_row _ _ 0 _ _ _ hd
        have d1 : W9.cell? ⟨W7.heap.size, 1, none⟩ = some (.string nm7) := cell_of_row _ _ 1 _ _ _ hd
        have d2 : W9.cell? ⟨W7.heap.size, 2, none⟩ = some (.slice a7 ln7 cp7) := cell_of_row _ _ 2 _ _ _ hd
        by_cases hU : U.size ≤ 200
        · obtain ⟨r1, r2, -⟩ := back_out HXA.out.1 HXA.out.2.1 (by rw [HXA.out.2.2.2.2]; exact hU)
          rw [HXA.out.2.2.2.2] at r1 r2
          rw [r2] at HE7
          obtain rfl : E7 = 0 := HE7.out.symm
          rw [r1] at hX78
          have HSM := fsame_calls 200 200 xx xx (.agg #[.int .i64 k7, .string nm7, .slice a7 ln7 cp7]) (.agg #[.int .i64 k5, .string nm5, .slice a5 ln5 cp5]) W9 true (by decide) (Ex.below hB9 _ _ _ hX78) (Ex.below hB9 _ _ _ hX58) (by simp)
          have hui : ¬ (200 : Int) < (U.size : Int) := by omega
          have HB9 : Hid (Below w.heap.size w W9) := hBw9
          clear hBw8 hX58 hX78 hc8 hd8 hs8 hBw9 hc hd hB9 r1 r2 hU HB8 HXA HE7
          go_wp2_with fail
          refine HSM.mono ?_
          clear HSM
          rintro e10 W10 ⟨rfl, hB10⟩
          have hBw := HB9.out.trans (hB10.mono HB9.out.size)
          have HAW := HA.out W10 hBw
          have HB10 : Hid (Below w.heap.size w W10) := hBw
          clear hB10 hBw HB9
          go_wp2_with fail
          refine HAW.mono ?_
          clear HAW
          rintro e11 W11 ⟨rfl, hB11⟩
          have HB11 : Hid (Below w.heap.size w W11) := HB10.out.trans (hB11.mono HB10.out.size)
          clear hB11 HB10
          go_wp2
          go_ret
          exact ⟨rfl, HB11.out⟩
        · have hui : (200 : Int) < (U.size : Int) := by omega
          have HAW := HA.out W9 hBw9
          have HB9 : Hid (Below w.heap.size w W9) := hBw9
          clear hBw8 hX58 hX78 hc8 hd8 hs8 hBw9 hc hd hB9 hU HB8 HXA HE7
          go_wp2_with fail
          refine HAW.mono ?_
          clear HAW
          rintro e11 W11 ⟨rfl, hB11⟩
          have HB11 : Hid (Below w.heap.size w W11) := HB9.out.trans (hB11.mono HB9.out.size)
          clear hB11 HB9
          go_wp2
          go_ret
          exact ⟨rfl, HB11.out⟩
      · have HAW := HA.out _ HB5.out
        generalize outE s = E5 at *
        have e1 : (E5 == 0) = false := by rw [beq_eq_false_iff_ne]; exact he5
        have e2 : (E5 != 0) = true := by rw [bne_iff_ne]; exact he5
        clear hX5 hBw5 hB5 he5 HBC
        go_wp2_with fail
        refine HAW.mono ?_
        clear HAW
        rintro e11 W11 ⟨rfl, hB11⟩
        have HB11 : Hid (Below w.heap.size w W11) := HB5.out.trans (hB11.mono HB5.out.size)
        clear hB11 HB5
        go_wp2
        go_ret
        exact ⟨rfl, HB11.out⟩
    · have hti : ¬ (T.size : Int) ≤ 200 := by omega
      clear HBK HBA HV1
      go_wp2_with fail
      refine (HP.out s _ HZ.out HBC.out).mono ?_
      rintro e5 W5 ⟨hB5, ⟨k5, nm5, a5, ln5, cp5⟩, hX5, rfl⟩
      unfold rawV at hX5 ⊢
      simp only at hX5 ⊢
      have hBw5 := HBC.out.trans (hB5.mono HBC.out.size)
      have HB5 : Hid (Below w.heap.size w (W5.alloc (.cells #[.int .i64 k5, .string nm5, .slice a5 ln5 cp5] 24))) := hBw5.alloc hBw5.size _
      generalize (outN s : Int) = N5 at *
      by_cases he5 : outE s = 0
      · obtain ⟨q1, q2, q3⟩ := read_small he5 hX5
        rw [he5]
        obtain ⟨xx, hxx⟩ : ∃ xx, outTree s = xx := ⟨_, rfl⟩
        rw [hxx] at hX5 q1 q2 q3
        obtain ⟨U, hU⟩ : ∃ U, textE 200 xx = U := ⟨_, rfl⟩
        have hXa : Ex (W5.alloc (.cells #[.int .i64 k5, .string nm5, .slice a5 ln5 cp5] 24)) 200 xx (.agg #[.int .i64 k5, .string nm5, .slice a5 ln5 cp5]) := Ex.below ((Below.refl _ W5).alloc (Nat.le_refl _) _) _ _ _ hX5
        have HPR := print_calls 200 xx k5 nm5 a5 ln5 cp5 (W5.alloc (.cells #[.int .i64 k5, .string nm5, .slice a5 ln5 cp5] 24)) hXa q2 q3
        have hpt : printT 200 xx = U := by unfold printT; rw [if_pos q1, hU]
        rw [hpt, q1] at HPR
        have HXA : Hid (Ex (W5.alloc (.cells #[.int .i64 k5, .string nm5, .slice a5 ln5 cp5] 24)) 200 xx (.agg #[.int .i64 k5, .string nm5, .slice a5 ln5 cp5]) ∧ checkE 200 xx = 0 ∧ named 200 xx ∧ U.size ≤ 9223372036854775807 ∧ textE 200 xx = U) := ⟨hXa, q1, q2, by rw [← hU]; omega, hU⟩
        have HBX : Hid ((W5.alloc (.cells #[.int .i64 k5, .string nm5, .slice a5 ln5 cp5] 24)).heap[W5.heap.size]? = some (.cells #[.int .i64 k5, .string nm5, .slice a5 ln5 cp5] 24 (0, 0))) := heap_alloc_new W5 _
        clear hX5 hBw5 hB5 he5 q1 q2 q3 hxx hU hXa hpt HBC
        go_wp2_with fail
        refine HPR.mono ?_
        clear HPR
        rintro e6 W6 ⟨hB6, rfl⟩
        have hBw6 := HB5.out.trans (hB6.mono HB5.out.size)
        have HPU := HP.out U W6 HXA.out.2.2.2.1 hBw6
        have HB6 : Hid (Below w.heap.size w W6 ∧ Below (W5.alloc (.cells #[.int .i64 k5, .string nm5, .slice a5 ln5 cp5] 24)).heap.size (W5.alloc (.cells #[.int .i64 k5, .string nm5, .slice a5 ln5 cp5] 24)) W6) := ⟨hBw6, hB6⟩
        clear hB6 hBw6
        go_wp2_with fail
        refine HPU.mono ?_
        clear HPU
        rintro e7 W7 ⟨hB7, ⟨k7, nm7, a7, ln7, cp7⟩, hX7, rfl⟩
        unfold rawV at hX7 ⊢
        simp only at hX7 ⊢
        obtain ⟨W8, hW8⟩ : ∃ W8, W8 = W7.alloc (.cells #[.int .i64 k7, .string nm7, .slice a7 ln7 cp7] 24) := ⟨_, rfl⟩
        have hB78 : Below W7.heap.size W7 W8 := by rw [hW8]; exact (Below.refl _ W7).alloc (Nat.le_refl _) _
        have hB58 : Below (W5.alloc (.cells #[.int .i64 k5, .string nm5, .slice a5 ln5 cp5] 24)).heap.size (W5.alloc (.cells #[.int .i64 k5, .string nm5, .slice a5 ln5 cp5] 24)) W8 := (HB6.out.2.trans (hB7.mono HB6.out.2.size)).trans (hB78.mono (by have := HB6.out.2.size; have := hB7.size; omega))
        have hBw8 : Below w.heap.size w W8 := (HB6.out.1.trans (hB7.mono HB6.out.1.size)).trans (hB78.mono (by have := HB6.out.1.size; have := hB7.size; omega))
        have hX58 : Ex W8 200 xx (.agg #[.int .i64 k5, .string nm5, .slice a5 ln5 cp5]) := Ex.below hB58 _ _ _ HXA.out.1
        have hX78 : Ex W8 200 (outTree U) (.agg #[.int .i64 k7, .string nm7, .slice a7 ln7 cp7]) := Ex.below hB78 _ _ _ hX7
        have hc : W8.heap[W5.heap.size]? = some (.cells #[.int .i64 k5, .string nm5, .slice a5 ln5 cp5] 24 (0, 0)) := (hB58.block _ (by simp)).trans HBX.out
        have c0 : W8.cell? ⟨W5.heap.size, 0, none⟩ = some (.int .i64 k5) := cell_of_row _ _ 0 _ _ _ hc
        have c1 : W8.cell? ⟨W5.heap.size, 1, none⟩ = some (.string nm5) := cell_of_row _ _ 1 _ _ _ hc
        have c2 : W8.cell? ⟨W5.heap.size, 2, none⟩ = some (.slice a5 ln5 cp5) := cell_of_row _ _ 2 _ _ _ hc
        have hn7 : W8.heap[W7.heap.size]? = some (.cells #[.int .i64 k7, .string nm7, .slice a7 ln7 cp7] 24 (0, 0)) := by rw [hW8]; exact heap_alloc_new W7 _
        have HCK := check_calls 200 xx _ W8 hX58 HXA.out.2.2.1
        rw [HXA.out.2.1] at HCK
        have HB8 : Hid (Below w.heap.size w W8 ∧ Ex W8 200 xx (.agg #[.int .i64 k5, .string nm5, .slice a5 ln5 cp5]) ∧ Ex W8 200 (outTree U) (.agg #[.int .i64 k7, .string nm7, .slice a7 ln7 cp7]) ∧ W8.heap[W5.heap.size]? = some (.cells #[.int .i64 k5, .string nm5, .slice a5 ln5 cp5] 24 (0, 0)) ∧ W8.heap[W7.heap.size]? = some (.cells #[.int .i64 k7, .string nm7, .slice a7 ln7 cp7] 24 (0, 0))) := ⟨hBw8, hX58, hX78, hc, hn7⟩
        rw [hW8] at c0 c1 c2
        have HWE : Hid (W8 = W7.alloc (.cells #[.int .i64 k7, .string nm7, .slice a7 ln7 cp7] 24)) := hW8
        clear hB7 hX7 hW8 hB78 hB58 hBw8 hX58 hX78 hc hn7 HB6 HBX HB5
        generalize (outN U : Int) = N7 at *
        obtain ⟨E7, hE7⟩ : ∃ E7 : Int, outE U = E7 := ⟨_, rfl⟩
        rw [hE7]
        have HE7 : Hid (outE U = E7) := hE7
        clear hE7
        go_wp2_with fail
        rw [← HWE.out]
        clear HWE c0 c1 c2
        refine HCK.mono ?_
        clear HCK
        rintro e9 W9 ⟨rfl, hB9⟩
        obtain ⟨hBw8, hX58, hX78, hc8, hd8⟩ := HB8.out
        have hs8 := hB9.size
        have hBw9 : Below w.heap.size w W9 := hBw8.trans (hB9.mono hBw8.size)
        have hc := (hB9.block _ (Array.getElem?_eq_some_iff.1 hc8).1).trans hc8
        have hd := (hB9.block _ (Array.getElem?_eq_some_iff.1 hd8).1).trans hd8
        have c0 : W9.cell? ⟨W5.heap.size, 0, none⟩ = some (.int .i64 k5) := cell_of_row _ _ 0 _ _ _ hc
        have c1 : W9.cell? ⟨W5.heap.size, 1, none⟩ = some (.string nm5) := cell_of_row _ _ 1 _ _ _ hc
        have c2 : W9.cell? ⟨W5.heap.size, 2, none⟩ = some (.slice a5 ln5 cp5) := cell_of_row _ _ 2 _ _ _ hc
        have d0 : W9.cell? ⟨W7.heap.size, 0, none⟩ = some (.int .i64 k7) := cell_of_row _ _ 0 _ _ _ hd
        have d1 : W9.cell? ⟨W7.heap.size, 1, none⟩ = some (.string nm7) := cell_of_row _ _ 1 _ _ _ hd
        have d2 : W9.cell? ⟨W7.heap.size, 2, none⟩ = some (.slice a7 ln7 cp7) := cell_of_row _ _ 2 _ _ _ hd
        by_cases hU : U.size ≤ 200
        · obtain ⟨r1, r2, -⟩ := back_out HXA.out.1 HXA.out.2.1 (by rw [HXA.out.2.2.2.2]; exact hU)
          rw [HXA.out.2.2.2.2] at r1 r2
          rw [r2] at HE7
          obtain rfl : E7 = 0 := HE7.out.symm
          rw [r1] at hX78
          have HSM := fsame_calls 200 200 xx xx (.agg #[.int .i64 k7, .string nm7, .slice a7 ln7 cp7]) (.agg #[.int .i64 k5, .string nm5, .slice a5 ln5 cp5]) W9 true (by decide) (Ex.below hB9 _ _ _ hX78) (Ex.below hB9 _ _ _ hX58) (by simp)
          have hui : ¬ (200 : Int) < (U.size : Int) := by omega
          have HB9 : Hid (Below w.heap.size w W9) := hBw9
          clear hBw8 hX58 hX78 hc8 hd8 hs8 hBw9 hc hd hB9 r1 r2 hU HB8 HXA HE7
          go_wp2_with fail
          refine HSM.mono ?_
          clear HSM
          rintro e10 W10 ⟨rfl, hB10⟩
          have hBw := HB9.out.trans (hB10.mono HB9.out.size)
          have HAW := HA.out W10 hBw
          have HB10 : Hid (Below w.heap.size w W10) := hBw
          clear hB10 hBw HB9
          go_wp2_with fail
          refine HAW.mono ?_
          clear HAW
          rintro e11 W11 ⟨rfl, hB11⟩
          have HB11 : Hid (Below w.heap.size w W11) := HB10.out.trans (hB11.mono HB10.out.size)
          clear hB11 HB10
          go_wp2
          go_ret
          exact ⟨rfl, HB11.out⟩
        · have hui : (200 : Int) < (U.size : Int) := by omega
          have HAW := HA.out W9 hBw9
          have HB9 : Hid (Below w.heap.size w W9) := hBw9
          clear hBw8 hX58 hX78 hc8 hd8 hs8 hBw9 hc hd hB9 hU HB8 HXA HE7
          go_wp2_with fail
          refine HAW.mono ?_
          clear HAW
          rintro e11 W11 ⟨rfl, hB11⟩
          have HB11 : Hid (Below w.heap.size w W11) := HB9.out.trans (hB11.mono HB9.out.size)
          clear hB11 HB9
          go_wp2
          go_ret
          exact ⟨rfl, HB11.out⟩
      · have HAW := HA.out _ HB5.out
        generalize outE s = E5 at *
        have e1 : (E5 == 0) = false := by rw [beq_eq_false_iff_ne]; exact he5
        have e2 : (E5 != 0) = true := by rw [bne_iff_ne]; exact he5
        clear hX5 hBw5 hB5 he5 HBC
        go_wp2_with fail
        refine HAW.mono ?_
        clear HAW
        rintro e11 W11 ⟨rfl, hB11⟩
        have HB11 : Hid (Below w.heap.size w W11) := HB5.out.trans (hB11.mono HB5.out.size)
        clear hB11 HB5
        go_wp2
        go_ret
        exact ⟨rfl, HB11.out⟩
  · have e1 : (C == 0) = false := by rw [beq_eq_false_iff_ne]; exact hC
    clear HBK HBA HV1
    go_wp2_with fail
    refine (HP.out s _ HZ.out HBC.out).mono ?_
    rintro e5 W5 ⟨hB5, ⟨k5, nm5, a5, ln5, cp5⟩, hX5, rfl⟩
    unfold rawV at hX5 ⊢
    simp only at hX5 ⊢
    have hBw5 := HBC.out.trans (hB5.mono HBC.out.size)
    have HB5 : Hid (Below w.heap.size w (W5.alloc (.cells #[.int .i64 k5, .string nm5, .slice a5 ln5 cp5] 24))) := hBw5.alloc hBw5.size _
    generalize (outN s : Int) = N5 at *
    by_cases he5 : outE s = 0
    · obtain ⟨q1, q2, q3⟩ := read_small he5 hX5
      rw [he5]
      obtain ⟨xx, hxx⟩ : ∃ xx, outTree s = xx := ⟨_, rfl⟩
      rw [hxx] at hX5 q1 q2 q3
      obtain ⟨U, hU⟩ : ∃ U, textE 200 xx = U := ⟨_, rfl⟩
      have hXa : Ex (W5.alloc (.cells #[.int .i64 k5, .string nm5, .slice a5 ln5 cp5] 24)) 200 xx (.agg #[.int .i64 k5, .string nm5, .slice a5 ln5 cp5]) := Ex.below ((Below.refl _ W5).alloc (Nat.le_refl _) _) _ _ _ hX5
      have HPR := print_calls 200 xx k5 nm5 a5 ln5 cp5 (W5.alloc (.cells #[.int .i64 k5, .string nm5, .slice a5 ln5 cp5] 24)) hXa q2 q3
      have hpt : printT 200 xx = U := by unfold printT; rw [if_pos q1, hU]
      rw [hpt, q1] at HPR
      have HXA : Hid (Ex (W5.alloc (.cells #[.int .i64 k5, .string nm5, .slice a5 ln5 cp5] 24)) 200 xx (.agg #[.int .i64 k5, .string nm5, .slice a5 ln5 cp5]) ∧ checkE 200 xx = 0 ∧ named 200 xx ∧ U.size ≤ 9223372036854775807 ∧ textE 200 xx = U) := ⟨hXa, q1, q2, by rw [← hU]; omega, hU⟩
      have HBX : Hid ((W5.alloc (.cells #[.int .i64 k5, .string nm5, .slice a5 ln5 cp5] 24)).heap[W5.heap.size]? = some (.cells #[.int .i64 k5, .string nm5, .slice a5 ln5 cp5] 24 (0, 0))) := heap_alloc_new W5 _
      clear hX5 hBw5 hB5 he5 q1 q2 q3 hxx hU hXa hpt HBC
      go_wp2_with fail
      refine HPR.mono ?_
      clear HPR
      rintro e6 W6 ⟨hB6, rfl⟩
      have hBw6 := HB5.out.trans (hB6.mono HB5.out.size)
      have HPU := HP.out U W6 HXA.out.2.2.2.1 hBw6
      have HB6 : Hid (Below w.heap.size w W6 ∧ Below (W5.alloc (.cells #[.int .i64 k5, .string nm5, .slice a5 ln5 cp5] 24)).heap.size (W5.alloc (.cells #[.int .i64 k5, .string nm5, .slice a5 ln5 cp5] 24)) W6) := ⟨hBw6, hB6⟩
      clear hB6 hBw6
      go_wp2_with fail
      refine HPU.mono ?_
      clear HPU
      rintro e7 W7 ⟨hB7, ⟨k7, nm7, a7, ln7, cp7⟩, hX7, rfl⟩
      unfold rawV at hX7 ⊢
      simp only at hX7 ⊢
      obtain ⟨W8, hW8⟩ : ∃ W8, W8 = W7.alloc (.cells #[.int .i64 k7, .string nm7, .slice a7 ln7 cp7] 24) := ⟨_, rfl⟩
      have hB78 : Below W7.heap.size W7 W8 := by rw [hW8]; exact (Below.refl _ W7).alloc (Nat.le_refl _) _
      have hB58 : Below (W5.alloc (.cells #[.int .i64 k5, .string nm5, .slice a5 ln5 cp5] 24)).heap.size (W5.alloc (.cells #[.int .i64 k5, .string nm5, .slice a5 ln5 cp5] 24)) W8 := (HB6.out.2.trans (hB7.mono HB6.out.2.size)).trans (hB78.mono (by have := HB6.out.2.size; have := hB7.size; omega))
      have hBw8 : Below w.heap.size w W8 := (HB6.out.1.trans (hB7.mono HB6.out.1.size)).trans (hB78.mono (by have := HB6.out.1.size; have := hB7.size; omega))
      have hX58 : Ex W8 200 xx (.agg #[.int .i64 k5, .string nm5, .slice a5 ln5 cp5]) := Ex.below hB58 _ _ _ HXA.out.1
      have hX78 : Ex W8 200 (outTree U) (.agg #[.int .i64 k7, .string nm7, .slice a7 ln7 cp7]) := Ex.below hB78 _ _ _ hX7
      have hc : W8.heap[W5.heap.size]? = some (.cells #[.int .i64 k5, .string nm5, .slice a5 ln5 cp5] 24 (0, 0)) := (hB58.block _ (by simp)).trans HBX.out
      have c0 : W8.cell? ⟨W5.heap.size, 0, none⟩ = some (.int .i64 k5) := cell_of_row _ _ 0 _ _ _ hc
      have c1 : W8.cell? ⟨W5.heap.size, 1, none⟩ = some (.string nm5) := cell_of_row _ _ 1 _ _ _ hc
      have c2 : W8.cell? ⟨W5.heap.size, 2, none⟩ = some (.slice a5 ln5 cp5) := cell_of_row _ _ 2 _ _ _ hc
      have hn7 : W8.heap[W7.heap.size]? = some (.cells #[.int .i64 k7, .string nm7, .slice a7 ln7 cp7] 24 (0, 0)) := by rw [hW8]; exact heap_alloc_new W7 _
      have HCK := check_calls 200 xx _ W8 hX58 HXA.out.2.2.1
      rw [HXA.out.2.1] at HCK
      have HB8 : Hid (Below w.heap.size w W8 ∧ Ex W8 200 xx (.agg #[.int .i64 k5, .string nm5, .slice a5 ln5 cp5]) ∧ Ex W8 200 (outTree U) (.agg #[.int .i64 k7, .string nm7, .slice a7 ln7 cp7]) ∧ W8.heap[W5.heap.size]? = some (.cells #[.int .i64 k5, .string nm5, .slice a5 ln5 cp5] 24 (0, 0)) ∧ W8.heap[W7.heap.size]? = some (.cells #[.int .i64 k7, .string nm7, .slice a7 ln7 cp7] 24 (0, 0))) := ⟨hBw8, hX58, hX78, hc, hn7⟩
      rw [hW8] at c0 c1 c2
      have HWE : Hid (W8 = W7.alloc (.cells #[.int .i64 k7, .string nm7, .slice a7 ln7 cp7] 24)) := hW8
      clear hB7 hX7 hW8 hB78 hB58 hBw8 hX58 hX78 hc hn7 HB6 HBX HB5
      generalize (outN U : Int) = N7 at *
      obtain ⟨E7, hE7⟩ : ∃ E7 : Int, outE U = E7 := ⟨_, rfl⟩
      rw [hE7]
      have HE7 : Hid (outE U = E7) := hE7
      clear hE7
      go_wp2_with fail
      rw [← HWE.out]
      clear HWE c0 c1 c2
      refine HCK.mono ?_
      clear HCK
      rintro e9 W9 ⟨rfl, hB9⟩
      obtain ⟨hBw8, hX58, hX78, hc8, hd8⟩ := HB8.out
      have hs8 := hB9.size
      have hBw9 : Below w.heap.size w W9 := hBw8.trans (hB9.mono hBw8.size)
      have hc := (hB9.block _ (Array.getElem?_eq_some_iff.1 hc8).1).trans hc8
      have hd := (hB9.block _ (Array.getElem?_eq_some_iff.1 hd8).1).trans hd8
      have c0 : W9.cell? ⟨W5.heap.size, 0, none⟩ = some (.int .i64 k5) := cell_of_row _ _ 0 _ _ _ hc
      have c1 : W9.cell? ⟨W5.heap.size, 1, none⟩ = some (.string nm5) := cell_of_row _ _ 1 _ _ _ hc
      have c2 : W9.cell? ⟨W5.heap.size, 2, none⟩ = some (.slice a5 ln5 cp5) := cell_of_row _ _ 2 _ _ _ hc
      have d0 : W9.cell? ⟨W7.heap.size, 0, none⟩ = some (.int .i64 k7) := cell_of_row _ _ 0 _ _ _ hd
      have d1 : W9.cell? ⟨W7.heap.size, 1, none⟩ = some (.string nm7) := cell_of_row _ _ 1 _ _ _ hd
      have d2 : W9.cell? ⟨W7.heap.size, 2, none⟩ = some (.slice a7 ln7 cp7) := cell_of_row _ _ 2 _ _ _ hd
      by_cases hU : U.size ≤ 200
      · obtain ⟨r1, r2, -⟩ := back_out HXA.out.1 HXA.out.2.1 (by rw [HXA.out.2.2.2.2]; exact hU)
        rw [HXA.out.2.2.2.2] at r1 r2
        rw [r2] at HE7
        obtain rfl : E7 = 0 := HE7.out.symm
        rw [r1] at hX78
        have HSM := fsame_calls 200 200 xx xx (.agg #[.int .i64 k7, .string nm7, .slice a7 ln7 cp7]) (.agg #[.int .i64 k5, .string nm5, .slice a5 ln5 cp5]) W9 true (by decide) (Ex.below hB9 _ _ _ hX78) (Ex.below hB9 _ _ _ hX58) (by simp)
        have hui : ¬ (200 : Int) < (U.size : Int) := by omega
        have HB9 : Hid (Below w.heap.size w W9) := hBw9
        clear hBw8 hX58 hX78 hc8 hd8 hs8 hBw9 hc hd hB9 r1 r2 hU HB8 HXA HE7
        go_wp2_with fail
        refine HSM.mono ?_
        clear HSM
        rintro e10 W10 ⟨rfl, hB10⟩
        have hBw := HB9.out.trans (hB10.mono HB9.out.size)
        have HAW := HA.out W10 hBw
        have HB10 : Hid (Below w.heap.size w W10) := hBw
        clear hB10 hBw HB9
        go_wp2_with fail
        refine HAW.mono ?_
        clear HAW
        rintro e11 W11 ⟨rfl, hB11⟩
        have HB11 : Hid (Below w.heap.size w W11) := HB10.out.trans (hB11.mono HB10.out.size)
        clear hB11 HB10
        go_wp2
        go_ret
        exact ⟨rfl, HB11.out⟩
      · have hui : (200 : Int) < (U.size : Int) := by omega
        have HAW := HA.out W9 hBw9
        have HB9 : Hid (Below w.heap.size w W9) := hBw9
        clear hBw8 hX58 hX78 hc8 hd8 hs8 hBw9 hc hd hB9 hU HB8 HXA HE7
        go_wp2_with fail
        refine HAW.mono ?_
        clear HAW
        rintro e11 W11 ⟨rfl, hB11⟩
        have HB11 : Hid (Below w.heap.size w W11) := HB9.out.trans (hB11.mono HB9.out.size)
        clear hB11 HB9
        go_wp2
        go_ret
        exact ⟨rfl, HB11.out⟩
    · have HAW := HA.out _ HB5.out
      generalize outE s = E5 at *
      have e1 : (E5 == 0) = false := by rw [beq_eq_false_iff_ne]; exact he5
      have e2 : (E5 != 0) = true := by rw [bne_iff_ne]; exact he5
      clear hX5 hBw5 hB5 he5 HBC
      go_wp2_with fail
      refine HAW.mono ?_
      clear HAW
      rintro e11 W11 ⟨rfl, hB11⟩
      have HB11 : Hid (Below w.heap.size w W11) := HB5.out.trans (hB11.mono HB5.out.size)
      clear hB11 HB5
      go_wp2
      go_ret
      exact ⟨rfl, HB11.out⟩
end Go.Proofs.YtafidabopcgkhaaDoor
