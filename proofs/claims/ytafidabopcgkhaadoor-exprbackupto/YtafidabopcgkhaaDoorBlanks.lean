/-
  PROVED HERE: ExprBlanks answers true at every text and number, and leaves what lay before.
-/
import Derived.Test.YtafidabopcgkhaaDoorAwake
import Derived.Test.YtafidabopcgkhaaDoorPSame
namespace Go.Proofs.YtafidabopcgkhaaDoor
open Go.RowKit

theorem out_of_read {s s' : ByteArray} (h : s.size ≤ 200) (h' : s'.size ≤ 200) (hr : readT (bts s') = readT (bts s)) : outTree s' = outTree s ∧ outE s' = outE s := by
  unfold outTree outT outE
  rw [if_neg (by omega), if_neg (by omega), if_neg (by omega), if_neg (by omega), hr]
  exact ⟨rfl, rfl⟩
theorem out_ok {s : ByteArray} (h : outE s = 0) : s.size ≤ 200 ∧ ∃ t, readT (bts s) = some t ∧ checkE 200 t = 0 ∧ outTree s = t := by
  by_cases hs : 200 < s.size
  · rw [(out_long hs).2.1] at h
    cases h
  · refine ⟨by omega, ?_⟩
    cases hr : readT (bts s) with
    | none => rw [(out_none hs hr).2.1] at h; cases h
    | some t =>
      by_cases hc : checkE 200 t = 0
      · refine ⟨t, rfl, hc, ?_⟩
        unfold outTree
        rw [(out_some hs hr hc).1]
        rfl
      · rw [(out_bad hs hr hc).2.1] at h
        cases h
theorem out_is {s : ByteArray} {t : DataW Unit} (hs : s.size ≤ 200) (hr : readT (bts s) = some t) (hc : checkE 200 t = 0) : outTree s = t ∧ outE s = 0 := by
  obtain ⟨h1, h2, _⟩ := out_some (by omega) hr hc
  unfold outTree
  rw [h1]
  exact ⟨rfl, h2⟩
/-- Blanks alone. -/
def Blank (b : ByteArray) : Prop := skipL (bts b) = []
theorem size_append (a b : ByteArray) : (a ++ b).size = a.size + b.size := ByteArray.size_append
theorem blanks_around {b s : ByteArray} (hb : Blank b) : readT (bts (b ++ s ++ b)) = readT (bts s) := by
  rw [bts_append, bts_append, List.append_assoc]
  exact read_blanks hb hb (bts s)
theorem blanks_within {b s : ByteArray} {t : DataW Unit} (hb : Blank b) (h : readT (bts s) = some t) (h0 : kindT t ≠ 0) : readT (bts (⟨#[40]⟩ ++ b ++ s ++ b ++ ⟨#[41]⟩)) = some t := by
  have h1 := blanks_around (s := s) hb
  rw [h] at h1
  have h2 := read_brackets h1 h0
  rw [← h2]
  simp only [bts_append, List.append_assoc]
  rfl
set_option maxRecDepth 100000 in
set_option maxHeartbeats 4000000 in
theorem blanks_walk (s : ByteArray) (hs : s.size ≤ 9223372036854775807) (n : Int) (hn0 : 0 ≤ n) (hn1 : n < 256) (w : World) (hg : ETy w) :
    Calls Tryd.prog 6 #[.string s, .int .u8 n] w fun e w' => e = .returned (.bool true) ∧ Below w.heap.size w w' := by
  have HA : Hid (∀ W, Below w.heap.size w W → Calls Tryd.prog 12 #[] W fun e w' => e = .returned (.bool true) ∧ Below W.heap.size W w') := fun W hW => awake_calls W (hg.below hW)
  have HP : Hid (∀ (s : ByteArray) W, s.size ≤ 9223372036854775807 → Below w.heap.size w W → Calls Tryd.prog 9 #[.string s] W fun e w' => Below W.heap.size W w' ∧ ∃ r, Ex w' 200 (outTree s) (rawV r) ∧ e = .returned (.tuple #[rawV r, .int .i64 (outN s : Int), .int .i64 (outE s)])) := fun s W h hW => parse_calls s h W (hg.below hW)
  obtain ⟨b, hb⟩ : ∃ b : ByteArray, b = (⟨#[32, 32, 32, 32, 32, 32, 32, 32, 32, 32]⟩ : ByteArray).extract 0 (n % 6).toNat := ⟨_, rfl⟩
  have hbl : Blank b ∧ b.size ≤ 5 := by
    have hm : (n % 6).toNat < 6 := by omega
    rw [hb]
    generalize (n % 6).toNat = m at hm
    have key : ∀ m : Fin 6, skipL (bts ((⟨#[32, 32, 32, 32, 32, 32, 32, 32, 32, 32]⟩ : ByteArray).extract 0 m.val)) = [] ∧ ((⟨#[32, 32, 32, 32, 32, 32, 32, 32, 32, 32]⟩ : ByteArray).extract 0 m.val).size ≤ 5 := by decide +kernel
    exact key ⟨m, hm⟩
  by_cases hbig : 180 < s.size
  · have hbi : (180 : Int) < (s.size : Int) := by omega
    clear hbl hb HP
    go_enter Tryd.func6, Tryd.ntmps6
    go_wp2_with fail
    refine (HA.out w (Below.refl _ _)).mono ?_
    rintro e W ⟨rfl, hW⟩
    go_wp2
    go_ret
    exact ⟨rfl, hW⟩
  · have hbi : ¬ (180 : Int) < (s.size : Int) := by omega
    have hss : s.size ≤ 180 := by omega
    obtain ⟨hb1, hb2⟩ := hbl
    have hz2 : (b ++ s ++ b).size ≤ 200 := by rw [size_append, size_append]; omega
    have hz3 : (⟨#[40]⟩ ++ b ++ s ++ b ++ ⟨#[41]⟩ : ByteArray).size ≤ 200 := by
      simp only [size_append]
      show 1 + b.size + s.size + b.size + 1 ≤ 200
      omega
    obtain ⟨o1, o2⟩ := out_of_read (s := s) (s' := b ++ s ++ b) (by omega) hz2 (blanks_around hb1)
    have HS : Hid (b.size ≤ 5 ∧ s.size ≤ 180) := ⟨hb2, hss⟩
    have hsum1 : b.size + s.size ≤ 9223372036854775807 := by omega
    have hsum2 : (b ++ s).size + b.size ≤ 9223372036854775807 := by rw [size_append]; omega
    have HO2 : Hid (outTree (b ++ s ++ b) = outTree s ∧ outE (b ++ s ++ b) = outE s) := ⟨o1, o2⟩
    have HO3 : Hid (outE s = 0 → kindT (outTree s) ≠ 0 → outTree (⟨#[40]⟩ ++ b ++ s ++ b ++ ⟨#[41]⟩) = outTree s ∧ outE (⟨#[40]⟩ ++ b ++ s ++ b ++ ⟨#[41]⟩) = 0) := fun h0 hk => by
      obtain ⟨_, t, hr, hc, ht⟩ := out_ok h0
      rw [ht] at hk ⊢
      exact out_is hz3 (blanks_within hb1 hr hk) hc
    have HZ : Hid ((b ++ s ++ b).size ≤ 9223372036854775807 ∧ (⟨#[40]⟩ ++ b ++ s ++ b ++ ⟨#[41]⟩ : ByteArray).size ≤ 9223372036854775807) := ⟨by omega, by omega⟩
    clear o1 o2 hz2 hz3 hb1 hb2 hss hbig
    go_enter Tryd.func6, Tryd.ntmps6
    go_wp2_with fail
    refine (HP.out _ _ hs (Below.refl _ _)).mono ?_
    rintro e1 W1 ⟨hB1, r1, hX1, rfl⟩
    obtain ⟨k1, nm1, a1, ln1, cp1⟩ := r1
    unfold rawV at hX1 ⊢
    simp only at hX1 ⊢
    generalize (outN s : Int) = N1
    rw [← hb]
    clear hb
    have HX1 : Hid (Ex W1 200 (outTree s) (.agg #[.int .i64 k1, .string nm1, .slice a1 ln1 cp1])) := hX1
    have hkk := hX1.shows.1
    have HW1 : Hid (∀ o, Below w.heap.size w (W1.alloc o)) := fun o => hB1.alloc hB1.size o
    clear hX1
    have hV1 : ∀ W : World, Below (W1.alloc (.cells #[.int .i64 k1, .string nm1, .slice a1 ln1 cp1] 24)).heap.size (W1.alloc (.cells #[.int .i64 k1, .string nm1, .slice a1 ln1 cp1] 24)) W → W.heap[W1.heap.size]? = some (.cells #[.int .i64 k1, .string nm1, .slice a1 ln1 cp1] 24 (0, 0)) := fun W hW => (hW.block _ (by simp)).trans (heap_alloc_new W1 _)
    have HV1 : Hid (∀ W : World, Below (W1.alloc (.cells #[.int .i64 k1, .string nm1, .slice a1 ln1 cp1] 24)).heap.size (W1.alloc (.cells #[.int .i64 k1, .string nm1, .slice a1 ln1 cp1] 24)) W → W.heap[W1.heap.size]? = some (.cells #[.int .i64 k1, .string nm1, .slice a1 ln1 cp1] 24 (0, 0))) := hV1
    clear hV1
    go_wp2_with fail
    refine (HP.out _ _ HZ.out.1 (HW1.out _)).mono ?_
    rintro e2 W2 ⟨hB2, r2, hX2, rfl⟩
    obtain ⟨k2, nm2, a2, ln2, cp2⟩ := r2
    unfold rawV at hX2 ⊢
    simp only at hX2 ⊢
    generalize (outN (b ++ s ++ b) : Int) = N2
    rw [HO2.out.2]
    rw [HO2.out.1] at hX2
    have HX2 : Hid (Ex W2 200 (outTree s) (.agg #[.int .i64 k2, .string nm2, .slice a2 ln2 cp2])) := hX2
    have HB2 : Hid (Below (W1.alloc (.cells #[.int .i64 k1, .string nm1, .slice a1 ln1 cp1] 24)).heap.size (W1.alloc (.cells #[.int .i64 k1, .string nm1, .slice a1 ln1 cp1] 24)) W2) := hB2
    have HB2a : Hid (∀ o, Below (W1.alloc (.cells #[.int .i64 k1, .string nm1, .slice a1 ln1 cp1] 24)).heap.size (W1.alloc (.cells #[.int .i64 k1, .string nm1, .slice a1 ln1 cp1] 24)) (W2.alloc o)) := fun o => hB2.alloc hB2.size o
    have HW2 : Hid (∀ o, Below w.heap.size w (W2.alloc o)) := fun o => ((HW1.out _).trans (hB2.mono (HW1.out _).size)).alloc ((HW1.out _).trans (hB2.mono (HW1.out _).size)).size o
    clear hX2 hB2
    have hV2 : ∀ W : World, Below (W2.alloc (.cells #[.int .i64 k2, .string nm2, .slice a2 ln2 cp2] 24)).heap.size (W2.alloc (.cells #[.int .i64 k2, .string nm2, .slice a2 ln2 cp2] 24)) W → W.heap[W2.heap.size]? = some (.cells #[.int .i64 k2, .string nm2, .slice a2 ln2 cp2] 24 (0, 0)) := fun W hW => (hW.block _ (by simp)).trans (heap_alloc_new W2 _)
    have HV2 : Hid (∀ W : World, Below (W2.alloc (.cells #[.int .i64 k2, .string nm2, .slice a2 ln2 cp2] 24)).heap.size (W2.alloc (.cells #[.int .i64 k2, .string nm2, .slice a2 ln2 cp2] 24)) W → W.heap[W2.heap.size]? = some (.cells #[.int .i64 k2, .string nm2, .slice a2 ln2 cp2] 24 (0, 0))) := hV2
    clear hV2
    by_cases he : outE s = 0
    · rw [he]
      have HS2 : Hid (∀ W, Below (W2.alloc (.cells #[.int .i64 k2, .string nm2, .slice a2 ln2 cp2] 24)).heap.size (W2.alloc (.cells #[.int .i64 k2, .string nm2, .slice a2 ln2 cp2] 24)) W → Calls Tryd.prog 17 #[.agg #[.int .i64 k1, .string nm1, .slice a1 ln1 cp1], .agg #[.int .i64 k2, .string nm2, .slice a2 ln2 cp2]] W fun e w' => e = .returned (.bool true) ∧ Below W.heap.size W w') := fun W hW => by
        have hx2 : Ex W 200 (outTree s) (.agg #[.int .i64 k2, .string nm2, .slice a2 ln2 cp2]) := Ex.below hW _ _ _ (Ex.below ((Below.refl _ _).alloc (Nat.le_refl _) _) _ _ _ HX2.out)
        have hx1 : Ex W 200 (outTree s) (.agg #[.int .i64 k1, .string nm1, .slice a1 ln1 cp1]) := Ex.below hW _ _ _ (Ex.below ((HB2a.out _).mono (Nat.le_refl _)) _ _ _ (Ex.below ((Below.refl _ _).alloc (Nat.le_refl _) _) _ _ _ HX1.out))
        exact fsame_calls 200 200 _ _ _ _ W true (by decide) hx1 hx2 (by simp)
      have hv1 := HV1.out (W2.alloc (.cells #[.int .i64 k2, .string nm2, .slice a2 ln2 cp2] 24)) (HB2a.out _)
      have c01 : ((W2.alloc (.cells #[.int .i64 k2, .string nm2, .slice a2 ln2 cp2] 24)) : World).cell? ⟨W1.heap.size, 0, none⟩ = some (.int .i64 k1) := cell_of_row _ _ 0 _ _ _ hv1
      have c11 : ((W2.alloc (.cells #[.int .i64 k2, .string nm2, .slice a2 ln2 cp2] 24)) : World).cell? ⟨W1.heap.size, 1, none⟩ = some (.string nm1) := cell_of_row _ _ 1 _ _ _ hv1
      have c21 : ((W2.alloc (.cells #[.int .i64 k2, .string nm2, .slice a2 ln2 cp2] 24)) : World).cell? ⟨W1.heap.size, 2, none⟩ = some (.slice a1 ln1 cp1) := cell_of_row _ _ 2 _ _ _ hv1
      clear hv1
      go_wp2_with fail
      refine (HS2.out _ (Below.refl _ _)).mono ?_
      rintro e3 W3 ⟨rfl, hB3⟩
      have HB3 : Hid (Below (W2.alloc (.cells #[.int .i64 k2, .string nm2, .slice a2 ln2 cp2] 24)).heap.size (W2.alloc (.cells #[.int .i64 k2, .string nm2, .slice a2 ln2 cp2] 24)) W3) := hB3
      have HB13 : Hid (Below (W1.alloc (.cells #[.int .i64 k1, .string nm1, .slice a1 ln1 cp1] 24)).heap.size (W1.alloc (.cells #[.int .i64 k1, .string nm1, .slice a1 ln1 cp1] 24)) W3) := (HB2a.out _).trans (hB3.mono (HB2a.out _).size)
      have HW3 : Hid (Below w.heap.size w W3) := (HW2.out _).trans (hB3.mono (HW2.out _).size)
      clear hB3 c01 c11 c21
      have hv1b := HV1.out W3 HB13.out
      have c01b : (W3 : World).cell? ⟨W1.heap.size, 0, none⟩ = some (.int .i64 k1) := cell_of_row _ _ 0 _ _ _ hv1b
      have c11b : (W3 : World).cell? ⟨W1.heap.size, 1, none⟩ = some (.string nm1) := cell_of_row _ _ 1 _ _ _ hv1b
      have c21b : (W3 : World).cell? ⟨W1.heap.size, 2, none⟩ = some (.slice a1 ln1 cp1) := cell_of_row _ _ 2 _ _ _ hv1b
      clear hv1b
      by_cases hk0 : k1 = 0
      · subst hk0
        go_wp2_with fail
        refine (HA.out _ HW3.out).mono ?_
        rintro e W ⟨rfl, hW⟩
        go_wp2
        go_ret
        exact ⟨rfl, HW3.out.trans (hW.mono HW3.out.size)⟩
      · have hkb : (k1 == 0) = false := by rw [beq_eq_false_iff_ne]; exact hk0
        obtain ⟨o1, o2⟩ := HO3.out he (by rw [hkk]; exact hk0)
        have HO4 : Hid (outTree (⟨#[40]⟩ ++ b ++ s ++ b ++ ⟨#[41]⟩) = outTree s ∧ outE (⟨#[40]⟩ ++ b ++ s ++ b ++ ⟨#[41]⟩) = 0) := ⟨o1, o2⟩
        have hs1 : (⟨#[40]⟩ : ByteArray).size + b.size ≤ 9223372036854775807 := by have := HS.out; show 1 + b.size ≤ _; omega
        have hs2 : (⟨#[40]⟩ ++ b : ByteArray).size + s.size ≤ 9223372036854775807 := by have := HS.out; rw [size_append]; show 1 + b.size + s.size ≤ _; omega
        have hs3 : (⟨#[40]⟩ ++ b ++ s : ByteArray).size + b.size ≤ 9223372036854775807 := by have := HS.out; rw [size_append, size_append]; show 1 + b.size + s.size + b.size ≤ _; omega
        have hs4 : (⟨#[40]⟩ ++ b ++ s ++ b : ByteArray).size + (⟨#[41]⟩ : ByteArray).size ≤ 9223372036854775807 := by have := HS.out; rw [size_append, size_append, size_append]; show 1 + b.size + s.size + b.size + 1 ≤ _; omega
        clear o1 o2 hk0 hkk HO3 HO2 he
        go_wp2_with fail
        refine (HP.out _ _ HZ.out.2 HW3.out).mono ?_
        rintro e4 W4 ⟨hB4, r4, hX4, rfl⟩
        obtain ⟨k4, nm4, a4, ln4, cp4⟩ := r4
        unfold rawV at hX4 ⊢
        simp only at hX4 ⊢
        generalize (outN (⟨#[40]⟩ ++ b ++ s ++ b ++ ⟨#[41]⟩) : Int) = N4
        rw [HO4.out.2]
        rw [HO4.out.1] at hX4
        have HX4 : Hid (Ex W4 200 (outTree s) (.agg #[.int .i64 k4, .string nm4, .slice a4 ln4 cp4])) := hX4
        have HB4a : Hid (∀ o, Below W3.heap.size W3 (W4.alloc o)) := fun o => hB4.alloc hB4.size o
        have HW4 : Hid (∀ o, Below w.heap.size w (W4.alloc o)) := fun o => HW3.out.trans ((HB4a.out o).mono HW3.out.size)
        have HB14 : Hid (∀ o, Below (W1.alloc (.cells #[.int .i64 k1, .string nm1, .slice a1 ln1 cp1] 24)).heap.size (W1.alloc (.cells #[.int .i64 k1, .string nm1, .slice a1 ln1 cp1] 24)) (W4.alloc o)) := fun o => HB13.out.trans ((HB4a.out o).mono HB13.out.size)
        clear hX4 hB4 c01b c11b c21b
        have HS4 : Hid (∀ W, Below (W4.alloc (.cells #[.int .i64 k4, .string nm4, .slice a4 ln4 cp4] 24)).heap.size (W4.alloc (.cells #[.int .i64 k4, .string nm4, .slice a4 ln4 cp4] 24)) W → Calls Tryd.prog 17 #[.agg #[.int .i64 k1, .string nm1, .slice a1 ln1 cp1], .agg #[.int .i64 k4, .string nm4, .slice a4 ln4 cp4]] W fun e w' => e = .returned (.bool true) ∧ Below W.heap.size W w') := fun W hW => by
          have hx2 : Ex W 200 (outTree s) (.agg #[.int .i64 k4, .string nm4, .slice a4 ln4 cp4]) := Ex.below hW _ _ _ (Ex.below ((Below.refl _ _).alloc (Nat.le_refl _) _) _ _ _ HX4.out)
          have hx1 : Ex W 200 (outTree s) (.agg #[.int .i64 k1, .string nm1, .slice a1 ln1 cp1]) := Ex.below hW _ _ _ (Ex.below (HB14.out _) _ _ _ (Ex.below ((Below.refl _ _).alloc (Nat.le_refl _) _) _ _ _ HX1.out))
          exact fsame_calls 200 200 _ _ _ _ W true (by decide) hx1 hx2 (by simp)
        have hv1c := HV1.out (W4.alloc (.cells #[.int .i64 k4, .string nm4, .slice a4 ln4 cp4] 24)) (HB14.out _)
        have c01c : ((W4.alloc (.cells #[.int .i64 k4, .string nm4, .slice a4 ln4 cp4] 24)) : World).cell? ⟨W1.heap.size, 0, none⟩ = some (.int .i64 k1) := cell_of_row _ _ 0 _ _ _ hv1c
        have c11c : ((W4.alloc (.cells #[.int .i64 k4, .string nm4, .slice a4 ln4 cp4] 24)) : World).cell? ⟨W1.heap.size, 1, none⟩ = some (.string nm1) := cell_of_row _ _ 1 _ _ _ hv1c
        have c21c : ((W4.alloc (.cells #[.int .i64 k4, .string nm4, .slice a4 ln4 cp4] 24)) : World).cell? ⟨W1.heap.size, 2, none⟩ = some (.slice a1 ln1 cp1) := cell_of_row _ _ 2 _ _ _ hv1c
        clear hv1c
        go_wp2_with fail
        refine (HS4.out _ (Below.refl _ _)).mono ?_
        rintro e5 W5 ⟨rfl, hB5⟩
        have HW5 : Hid (Below w.heap.size w W5) := (HW4.out _).trans (hB5.mono (HW4.out _).size)
        clear hB5 c01c c11c c21c
        go_wp2_with fail
        refine (HA.out _ HW5.out).mono ?_
        rintro e W ⟨rfl, hW⟩
        go_wp2
        go_ret
        exact ⟨rfl, HW5.out.trans (hW.mono HW5.out.size)⟩
    · generalize outE s = E at *
      have e1 : (E == 0) = false := by rw [beq_eq_false_iff_ne]; exact he
      have e2 : (E != 0) = true := by rw [bne_iff_ne]; exact he
      go_wp2_with fail
      refine (HA.out _ (HW2.out _)).mono ?_
      rintro e W ⟨rfl, hW⟩
      go_wp2
      go_ret
      exact ⟨rfl, (HW2.out _).trans (hW.mono (HW2.out _).size)⟩
end Go.Proofs.YtafidabopcgkhaaDoor
