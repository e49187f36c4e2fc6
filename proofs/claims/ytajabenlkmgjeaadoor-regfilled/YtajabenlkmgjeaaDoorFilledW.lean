/-
  PROVED HERE: the walk of RegFilled.
-/
import Derived.Test.YtajabenlkmgjeaaDoorFilling
import Derived.Test.YtajabenlkmgjeaaDoorParseC
import Derived.Test.YtajabenlkmgjeaaDoorAsks6
namespace Go.Proofs.YtajabenlkmgjeaaDoor
open Go.RowKit

theorem out_named (s : ByteArray) : named 200 (outTree s) := by
  unfold outTree
  cases h : outT s with
  | none => exact emptyT_named
  | some t =>
    show named 200 t
    unfold outT at h
    split at h
    · cases h
    · rename_i hs
      split at h
      · cases h
      · rename_i t' hr
        split at h
        · cases h
          unfold readT at hr
          split at hr
          · cases hr
            exact emptyT_named
          · split at hr
            · rename_i t2 ha
              cases hr
              exact (altN_named _ _ _ _ ha (by rw [bts_length]; omega)).1 200
            · cases hr
        · cases h
/-- What may be asked of the tree v with these groups behind w. -/
structure Asked (w : World) (v : Value) (ga : Option Addr) (gl gc : Nat) (gs : List Grp) (n : Nat) (t : DataW Unit) : Prop where
  chk : ∀ X, Below w.heap.size w X → Calls Tryd.prog 8 #[v, .slice ga gl gc] X fun e w' => e = .returned (.int .i64 (chk n t gs)) ∧ Below X.heap.size X w'
  fill : Go.Proofs.YtajabenlkmgjeaaDoor.chk n t gs = 0 → ∀ (X : World) (za : Option Addr) (zl zc : Nat) (zs : List Int), Below w.heap.size w X → Ints X za zl zs → Calls Tryd.prog 18 #[v, .slice ga gl gc, .slice za zl zc] X fun e w' => Filled gs n t zs X w' e
  begins : Go.Proofs.YtajabenlkmgjeaaDoor.chk n t gs = 0 → ∀ (X : World) (za : Option Addr) (zl zc : Nat) (zs : List Int), Below w.heap.size w X → Ints X za zl zs → Calls Tryd.prog 12 #[v, .slice ga gl gc, .slice za zl zc] X fun e w' => ∃ i : Nat, e = .returned (.int .i64 (i : Int)) ∧ LongD gs n t zs i ∧ Below X.heap.size X w'
  says : Go.Proofs.YtajabenlkmgjeaaDoor.chk n t gs = 0 → Says w v ga gl gc (LangD gs n t)
theorem asked_of {w : World} {v : Value} {ga : Option Addr} {gl gc : Nat} {gs : List Grp} {n : Nat} {t : DataW Unit} (hX : Ex w n t v) (hN : named n t) (hG : Groups w ga gl gs) (hT : Tab w) (hw0 : 0 < w.heap.size) : Asked w v ga gl gc gs n t :=
  ⟨fun X hB => rcheck_calls n t v ga gl gc gs X (Ex.below hB _ _ _ hX) hN (hG.below hB),
   fun hc X za zl zc zs hB hZ => fill_calls n t v ga gl gc gs za zl zc zs X (Ex.below hB _ _ _ hX) hN (hG.below hB) hZ hc (hT.below hB hw0) (Nat.lt_of_lt_of_le hw0 hB.size),
   fun hc X za zl zc zs hB hZ => begins_calls n t v ga gl gc gs za zl zc zs X (Ex.below hB _ _ _ hX) hN (hG.below hB) hZ hc,
   fun hc => says_of hX hN hG hc (fun _ => Iff.rfl)⟩
/-- What Fill says, in short. -/
def FilledS (PD : List Int → Prop) (LA : List Int → Prop) (zs : List Int) (w w' : World) (e : Ending) : Prop :=
  Below w.heap.size w w' ∧ ((¬ PD zs ∧ e = .returned (.tuple #[.slice none 0 0, .bool false])) ∨ (PD zs ∧ ∃ (a : Option Addr) (c : Nat) (xs : List Int), e = .returned (.tuple #[.slice a xs.length c, .bool true]) ∧ Ints w' a xs.length xs ∧ (a = none → c = 0) ∧ xs.length ≤ 300 ∧ LA (zs ++ xs) ∧ (xs.length = 0 ↔ LA zs)))
theorem filled_short {gs : List Grp} {n : Nat} {t : DataW Unit} {zs : List Int} {w w' : World} {e : Ending} (hc : chk n t gs = 0) (h : Filled gs n t zs w w' e) : FilledS (PreD gs n t) (LangD gs n t) zs w w' e := by
  refine ⟨h.1, ?_⟩
  rcases h.2 with h2 | ⟨hp, a, c, xs, m, h1, h2, h3, h4, h5, h6, h7, h8⟩
  · exact .inl h2
  · refine .inr ⟨hp, a, c, xs, h1, h2, h3, by omega, h8, ?_⟩
    rw [h4, min_zero (plan_sound hc).1.wf (afterS_shut (startS_shut _ _) _) h6, after_lang hc]
set_option maxRecDepth 100000 in
set_option maxHeartbeats 8000000 in
theorem filled_walk (s : ByteArray) (hs : s.size ≤ 9223372036854775807) (ga : Option Addr) (gl gc : Nat) (gs : List Grp) (za : Option Addr) (zl zc : Nat) (zs : List Int) (w : World) (hG : Groups w ga gl gs) (hZ : Ints w za zl zs) (hzc : za = none → zc = 0) (hT : Tab w) (hw0 : 0 < w.heap.size) (hE : ETy w) :
    Calls Tryd.prog 4 #[.string s, .slice ga gl gc, .slice za zl zc] w fun e w' => e = .returned (.bool true) ∧ Below w.heap.size w w' := by
  have HAW : Hid (∀ W : World, Calls Tryd.prog 7 #[] W fun e w' => e = .returned (.bool true) ∧ Below W.heap.size W w') := fun W => awake_calls W
  have HP : Hid (Calls Tryd.prog 17 #[.string s] w fun e w' => ∃ (k : Int) (nm : ByteArray) (a : Option Addr) (ln cp : Nat), e = .returned (.tuple #[.agg #[.int .i64 k, .string nm, .slice a ln cp], .int .i64 (outN s : Int), .int .i64 (outE s)]) ∧ Below w.heap.size w w' ∧ Asked w' (.agg #[.int .i64 k, .string nm, .slice a ln cp]) ga gl gc gs 200 (outTree s)) := by
    refine (parse_calls s hs w hE).mono ?_
    rintro e w' ⟨hB, ⟨k, nm, a, ln, cp⟩, hX, rfl⟩
    exact ⟨k, nm, a, ln, cp, rfl, hB, asked_of hX (out_named s) (hG.below hB) (hT.below hB hw0) (Nat.lt_of_lt_of_le hw0 hB.size)⟩
  have HZ : Hid (∀ X : World, Below w.heap.size w X → Ints X za zl zs) := fun X hX => hZ.below hX
  have hlen : Hid (zs.length = zl) := hZ.1
  have hzi : (zl : Int) ≤ 9223372036854775807 := by have := hZ.2.1; omega
  have hsi : (s.size : Int) ≤ 9223372036854775807 := by omega
  obtain ⟨T, hTT⟩ : ∃ T, T = outTree s := ⟨_, rfl⟩
  obtain ⟨f, hf⟩ : ∃ f, f = outE s := ⟨_, rfl⟩
  obtain ⟨pn, hpn⟩ : ∃ pn : Int, pn = (outN s : Int) := ⟨_, rfl⟩
  rw [← hTT, ← hf, ← hpn] at HP
  clear hG hZ hT hw0 hE hs hTT hf hpn
  by_cases h1 : 12 < s.size
  · have hd1 : decide ((12 : Int) < (s.size : Int)) = true := by simp; omega
    have hd1' : decide (12 < s.size) = true := by simp; omega
    go_enter Tryd.func4, Tryd.ntmps4
    go_wp2_with fail
    refine HP.out.mono ?_
    rintro e W1 ⟨k, nm, a, ln, cp, rfl, hB1, hA⟩
    obtain ⟨W2, hW2⟩ : ∃ W2, W2 = W1.alloc (.cells #[.int .i64 k, .string nm, .slice a ln cp] 24) := ⟨_, rfl⟩
    have hB12 : Below W1.heap.size W1 W2 := by rw [hW2]; exact (Below.refl _ W1).alloc (Nat.le_refl _) _
    have hB2 : Below w.heap.size w W2 := hB1.trans (hB12.mono hB1.size)
    have hs2 : W2.heap.size = W1.heap.size + 1 := by rw [hW2]; simp
    have m2 : W2.heap[W1.heap.size]? = some (.cells #[.int .i64 k, .string nm, .slice a ln cp] 24 (0, 0)) := by rw [hW2]; exact World.alloc_heap_new W1 _
    have HW2 : Hid (W1.alloc (.cells #[.int .i64 k, .string nm, .slice a ln cp] 24) = W2) := hW2.symm
    have HK : Hid (∀ X : World, Below W2.heap.size W2 X → X.cell? ⟨W1.heap.size, 0, none⟩ = some (.int .i64 k) ∧ X.cell? ⟨W1.heap.size, 1, none⟩ = some (.string nm) ∧ X.cell? ⟨W1.heap.size, 2, none⟩ = some (.slice a ln cp)) := fun X hX => by
      obtain ⟨a0, a1, a2, _⟩ := cells3 ((hX.block _ (by omega)).trans m2)
      exact ⟨a0, a1, a2⟩
    have HA : Hid (Asked W1 (.agg #[.int .i64 k, .string nm, .slice a ln cp]) ga gl gc gs 200 T) := hA
    have HX : Hid (∀ X : World, Below W2.heap.size W2 X → Below W1.heap.size W1 X ∧ Below w.heap.size w X) := fun X hX => ⟨hB12.trans (hX.mono hB12.size), hB2.trans (hX.mono hB2.size)⟩
    obtain ⟨q0, q1, q2⟩ := HK.out W2 (Below.refl _ _)
    clear hA hW2 m2 hs2 hB12 hB1
    go_wp2_with fail
    rw [HW2.out]
    refine (HAW.out _).mono ?_
    rintro e XZ ⟨rfl, hXZ⟩
    have HEND : Hid (Below w.heap.size w XZ) := hB2.trans (hXZ.mono hB2.size)
    clear hXZ
    go_wp2
    go_ret
    first | exact HEND.out | exact ⟨rfl, HEND.out⟩
  have hd1 : decide ((12 : Int) < (s.size : Int)) = false := by simp; omega
  have hd1' : decide (12 < s.size) = false := by simp; omega
  by_cases h2 : f ≠ 0
  · have e0 : (f == 0) = false := by simpa using h2
    have e1 : (f != 0) = true := by simp [bne, e0]
    go_enter Tryd.func4, Tryd.ntmps4
    go_wp2_with fail
    refine HP.out.mono ?_
    rintro e W1 ⟨k, nm, a, ln, cp, rfl, hB1, hA⟩
    obtain ⟨W2, hW2⟩ : ∃ W2, W2 = W1.alloc (.cells #[.int .i64 k, .string nm, .slice a ln cp] 24) := ⟨_, rfl⟩
    have hB12 : Below W1.heap.size W1 W2 := by rw [hW2]; exact (Below.refl _ W1).alloc (Nat.le_refl _) _
    have hB2 : Below w.heap.size w W2 := hB1.trans (hB12.mono hB1.size)
    have hs2 : W2.heap.size = W1.heap.size + 1 := by rw [hW2]; simp
    have m2 : W2.heap[W1.heap.size]? = some (.cells #[.int .i64 k, .string nm, .slice a ln cp] 24 (0, 0)) := by rw [hW2]; exact World.alloc_heap_new W1 _
    have HW2 : Hid (W1.alloc (.cells #[.int .i64 k, .string nm, .slice a ln cp] 24) = W2) := hW2.symm
    have HK : Hid (∀ X : World, Below W2.heap.size W2 X → X.cell? ⟨W1.heap.size, 0, none⟩ = some (.int .i64 k) ∧ X.cell? ⟨W1.heap.size, 1, none⟩ = some (.string nm) ∧ X.cell? ⟨W1.heap.size, 2, none⟩ = some (.slice a ln cp)) := fun X hX => by
      obtain ⟨a0, a1, a2, _⟩ := cells3 ((hX.block _ (by omega)).trans m2)
      exact ⟨a0, a1, a2⟩
    have HA : Hid (Asked W1 (.agg #[.int .i64 k, .string nm, .slice a ln cp]) ga gl gc gs 200 T) := hA
    have HX : Hid (∀ X : World, Below W2.heap.size W2 X → Below W1.heap.size W1 X ∧ Below w.heap.size w X) := fun X hX => ⟨hB12.trans (hX.mono hB12.size), hB2.trans (hX.mono hB2.size)⟩
    obtain ⟨q0, q1, q2⟩ := HK.out W2 (Below.refl _ _)
    clear hA hW2 m2 hs2 hB12 hB1
    go_wp2_with fail
    rw [HW2.out]
    refine (HAW.out _).mono ?_
    rintro e XZ ⟨rfl, hXZ⟩
    have HEND : Hid (Below w.heap.size w XZ) := hB2.trans (hXZ.mono hB2.size)
    clear hXZ
    go_wp2
    go_ret
    first | exact HEND.out | exact ⟨rfl, HEND.out⟩
  have h2 : f = 0 := Classical.not_not.1 h2
  subst h2
  have hf0 : ((0 : Int) != 0) = false := rfl
  obtain ⟨c, hcc⟩ : ∃ c, c = chk 200 T gs := ⟨_, rfl⟩
  have HC : Hid (c = chk 200 T gs) := hcc
  clear hcc
  by_cases h3 : c ≠ 0
  · have e0 : (c == 0) = false := by simpa using h3
    have e1 : (c != 0) = true := by simp [bne, e0]
    go_enter Tryd.func4, Tryd.ntmps4
    go_wp2_with fail
    refine HP.out.mono ?_
    rintro e W1 ⟨k, nm, a, ln, cp, rfl, hB1, hA⟩
    obtain ⟨W2, hW2⟩ : ∃ W2, W2 = W1.alloc (.cells #[.int .i64 k, .string nm, .slice a ln cp] 24) := ⟨_, rfl⟩
    have hB12 : Below W1.heap.size W1 W2 := by rw [hW2]; exact (Below.refl _ W1).alloc (Nat.le_refl _) _
    have hB2 : Below w.heap.size w W2 := hB1.trans (hB12.mono hB1.size)
    have hs2 : W2.heap.size = W1.heap.size + 1 := by rw [hW2]; simp
    have m2 : W2.heap[W1.heap.size]? = some (.cells #[.int .i64 k, .string nm, .slice a ln cp] 24 (0, 0)) := by rw [hW2]; exact World.alloc_heap_new W1 _
    have HW2 : Hid (W1.alloc (.cells #[.int .i64 k, .string nm, .slice a ln cp] 24) = W2) := hW2.symm
    have HK : Hid (∀ X : World, Below W2.heap.size W2 X → X.cell? ⟨W1.heap.size, 0, none⟩ = some (.int .i64 k) ∧ X.cell? ⟨W1.heap.size, 1, none⟩ = some (.string nm) ∧ X.cell? ⟨W1.heap.size, 2, none⟩ = some (.slice a ln cp)) := fun X hX => by
      obtain ⟨a0, a1, a2, _⟩ := cells3 ((hX.block _ (by omega)).trans m2)
      exact ⟨a0, a1, a2⟩
    have HA : Hid (Asked W1 (.agg #[.int .i64 k, .string nm, .slice a ln cp]) ga gl gc gs 200 T) := hA
    have HX : Hid (∀ X : World, Below W2.heap.size W2 X → Below W1.heap.size W1 X ∧ Below w.heap.size w X) := fun X hX => ⟨hB12.trans (hX.mono hB12.size), hB2.trans (hX.mono hB2.size)⟩
    obtain ⟨q0, q1, q2⟩ := HK.out W2 (Below.refl _ _)
    clear hA hW2 m2 hs2 hB12 hB1
    have HCH := HA.out.chk W2 (HX.out W2 (Below.refl _ _)).1
    rw [← HC.out] at HCH
    go_wp2_with fail
    rw [HW2.out]
    refine HCH.mono ?_
    rintro e W3 ⟨rfl, hB3⟩
    have hB3w := (HX.out W3 hB3).2
    go_wp2_with fail
    refine (HAW.out _).mono ?_
    rintro e XZ ⟨rfl, hXZ⟩
    have HEND : Hid (Below w.heap.size w XZ) := hB3w.trans (hXZ.mono hB3w.size)
    clear hXZ
    go_wp2
    go_ret
    first | exact HEND.out | exact ⟨rfl, HEND.out⟩
  have h3 : c = 0 := Classical.not_not.1 h3
  subst h3
  by_cases h4 : 100 < zl
  · have hd : decide ((100 : Int) < (zl : Int)) = true := by simp; omega
    have hd' : decide (100 < zl) = true := by simp; omega
    go_enter Tryd.func4, Tryd.ntmps4
    go_wp2_with fail
    refine HP.out.mono ?_
    rintro e W1 ⟨k, nm, a, ln, cp, rfl, hB1, hA⟩
    obtain ⟨W2, hW2⟩ : ∃ W2, W2 = W1.alloc (.cells #[.int .i64 k, .string nm, .slice a ln cp] 24) := ⟨_, rfl⟩
    have hB12 : Below W1.heap.size W1 W2 := by rw [hW2]; exact (Below.refl _ W1).alloc (Nat.le_refl _) _
    have hB2 : Below w.heap.size w W2 := hB1.trans (hB12.mono hB1.size)
    have hs2 : W2.heap.size = W1.heap.size + 1 := by rw [hW2]; simp
    have m2 : W2.heap[W1.heap.size]? = some (.cells #[.int .i64 k, .string nm, .slice a ln cp] 24 (0, 0)) := by rw [hW2]; exact World.alloc_heap_new W1 _
    have HW2 : Hid (W1.alloc (.cells #[.int .i64 k, .string nm, .slice a ln cp] 24) = W2) := hW2.symm
    have HK : Hid (∀ X : World, Below W2.heap.size W2 X → X.cell? ⟨W1.heap.size, 0, none⟩ = some (.int .i64 k) ∧ X.cell? ⟨W1.heap.size, 1, none⟩ = some (.string nm) ∧ X.cell? ⟨W1.heap.size, 2, none⟩ = some (.slice a ln cp)) := fun X hX => by
      obtain ⟨a0, a1, a2, _⟩ := cells3 ((hX.block _ (by omega)).trans m2)
      exact ⟨a0, a1, a2⟩
    have HA : Hid (Asked W1 (.agg #[.int .i64 k, .string nm, .slice a ln cp]) ga gl gc gs 200 T) := hA
    have HX : Hid (∀ X : World, Below W2.heap.size W2 X → Below W1.heap.size W1 X ∧ Below w.heap.size w X) := fun X hX => ⟨hB12.trans (hX.mono hB12.size), hB2.trans (hX.mono hB2.size)⟩
    obtain ⟨q0, q1, q2⟩ := HK.out W2 (Below.refl _ _)
    clear hA hW2 m2 hs2 hB12 hB1
    have HCH := HA.out.chk W2 (HX.out W2 (Below.refl _ _)).1
    rw [← HC.out] at HCH
    go_wp2_with fail
    rw [HW2.out]
    refine HCH.mono ?_
    rintro e W3 ⟨rfl, hB3⟩
    have hB3w := (HX.out W3 hB3).2
    go_wp2_with fail
    refine (HAW.out _).mono ?_
    rintro e XZ ⟨rfl, hXZ⟩
    have HEND : Hid (Below w.heap.size w XZ) := hB3w.trans (hXZ.mono hB3w.size)
    clear hXZ
    go_wp2
    go_ret
    first | exact HEND.out | exact ⟨rfl, HEND.out⟩
  have hd : decide ((100 : Int) < (zl : Int)) = false := by simp; omega
  have hd' : decide (100 < zl) = false := by simp; omega
  go_enter Tryd.func4, Tryd.ntmps4
  go_wp2_with fail
  refine HP.out.mono ?_
  rintro e W1 ⟨k, nm, a, ln, cp, rfl, hB1, hA⟩
  obtain ⟨W2, hW2⟩ : ∃ W2, W2 = W1.alloc (.cells #[.int .i64 k, .string nm, .slice a ln cp] 24) := ⟨_, rfl⟩
  have hB12 : Below W1.heap.size W1 W2 := by rw [hW2]; exact (Below.refl _ W1).alloc (Nat.le_refl _) _
  have hB2 : Below w.heap.size w W2 := hB1.trans (hB12.mono hB1.size)
  have hs2 : W2.heap.size = W1.heap.size + 1 := by rw [hW2]; simp
  have m2 : W2.heap[W1.heap.size]? = some (.cells #[.int .i64 k, .string nm, .slice a ln cp] 24 (0, 0)) := by rw [hW2]; exact World.alloc_heap_new W1 _
  have HW2 : Hid (W1.alloc (.cells #[.int .i64 k, .string nm, .slice a ln cp] 24) = W2) := hW2.symm
  have HK : Hid (∀ X : World, Below W2.heap.size W2 X → X.cell? ⟨W1.heap.size, 0, none⟩ = some (.int .i64 k) ∧ X.cell? ⟨W1.heap.size, 1, none⟩ = some (.string nm) ∧ X.cell? ⟨W1.heap.size, 2, none⟩ = some (.slice a ln cp)) := fun X hX => by
    obtain ⟨a0, a1, a2, _⟩ := cells3 ((hX.block _ (by omega)).trans m2)
    exact ⟨a0, a1, a2⟩
  have HA : Hid (Asked W1 (.agg #[.int .i64 k, .string nm, .slice a ln cp]) ga gl gc gs 200 T) := hA
  have HX : Hid (∀ X : World, Below W2.heap.size W2 X → Below W1.heap.size W1 X ∧ Below w.heap.size w X) := fun X hX => ⟨hB12.trans (hX.mono hB12.size), hB2.trans (hX.mono hB2.size)⟩
  obtain ⟨q0, q1, q2⟩ := HK.out W2 (Below.refl _ _)
  clear hA hW2 m2 hs2 hB12 hB1
  have HCH := HA.out.chk W2 (HX.out W2 (Below.refl _ _)).1
  rw [← HC.out] at HCH
  go_wp2_with fail
  rw [HW2.out]
  refine HCH.mono ?_
  rintro e W3 ⟨rfl, hB3⟩
  obtain ⟨p0, p1, p2⟩ := HK.out W3 hB3
  have HFI : Calls Tryd.prog 18 #[.agg #[.int .i64 k, .string nm, .slice a ln cp], .slice ga gl gc, .slice za zl zc] W3 fun e w' => FilledS (PreD gs 200 T) (LangD gs 200 T) zs W3 w' e := (HA.out.fill HC.out.symm W3 za zl zc zs (HX.out W3 hB3).1 (HZ.out W3 (HX.out W3 hB3).2)).mono fun e w' h => filled_short HC.out.symm h
  have HBE : Hid (∀ X : World, Below W2.heap.size W2 X → Calls Tryd.prog 12 #[.agg #[.int .i64 k, .string nm, .slice a ln cp], .slice ga gl gc, .slice za zl zc] X fun e w' => ∃ i : Nat, e = .returned (.int .i64 (i : Int)) ∧ (i = zl ↔ PreD gs 200 T zs) ∧ Below X.heap.size X w') := fun X hX => by
    refine (HA.out.begins HC.out.symm X za zl zc zs (HX.out X hX).1 (HZ.out X (HX.out X hX).2)).mono ?_
    rintro e w' ⟨i, rfl, hl, hB⟩
    refine ⟨i, rfl, ⟨fun e => long_of hl (e.trans hlen.out.symm), fun e => (long_all hl e).trans hlen.out⟩, hB⟩
  have HSA : Hid (∀ (X : World) (ya : Option Addr) (yl yc : Nat) (ys : List Int), Below W2.heap.size W2 X → Ints X ya yl ys → Calls Tryd.prog 10 #[.agg #[.int .i64 k, .string nm, .slice a ln cp], .slice ga gl gc, .slice ya yl yc] X fun e w' => ∃ b : Bool, e = .returned (.bool b) ∧ (b = true ↔ LangD gs 200 T ys) ∧ Below X.heap.size X w') := fun X ya yl yc ys hX hY => HA.out.says HC.out.symm X ya yl yc ys (HX.out X hX).1 hY
  clear HCH HA HC HP HW2 q0 q1 q2 hB2
  generalize PreD gs 200 T = PD at *
  generalize LangD gs 200 T = LA at *
  go_wp2_with fail
  refine HFI.mono ?_
  rintro e W4 ⟨hB4, hcase⟩
  have hB24 : Below W2.heap.size W2 W4 := hB3.trans (hB4.mono hB3.size)
  obtain ⟨r0, r1, r2⟩ := HK.out W4 hB24
  have HBE4 := HBE.out W4 hB24
  clear HFI p0 p1 p2 HBE hB3 hB4
  rcases hcase with ⟨hno, rfl⟩ | ⟨hyes, xa, xc, xs, rfl, hxI, hxc, hx3, hxL, hx0⟩
  · go_wp2_with fail
    refine HBE4.mono ?_
    rintro e W5 ⟨i, rfl, hi, hB5⟩
    have hB25 : Below W2.heap.size W2 W5 := hB24.trans (hB5.mono hB24.size)
    have hne : ((i : Int) == (zl : Int)) = false := by
      rw [beq_eq_false_iff_ne]
      intro e
      exact hno (hi.1 (by omega))
    have hB5w := (HX.out W5 hB25).2
    clear HBE4 hi hno r0 r1 r2
    go_wp2_with fail
    refine (HAW.out _).mono ?_
    rintro e XZ ⟨rfl, hXZ⟩
    have HEND : Hid (Below w.heap.size w XZ) := hB5w.trans (hXZ.mono hB5w.size)
    clear hXZ
    go_wp2
    go_ret
    first | exact HEND.out | exact ⟨rfl, HEND.out⟩
  · go_wp2_with fail
    refine HBE4.mono ?_
    rintro e W5 ⟨i, rfl, hi, hB5⟩
    have hB25 : Below W2.heap.size W2 W5 := hB24.trans (hB5.mono hB24.size)
    obtain rfl : i = zl := hi.2 hyes
    obtain ⟨p0, p1, p2⟩ := HK.out W5 hB25
    have hown0 := owned_nil W5 W5.heap.size (Nat.le_refl _)
    have hA5 : Below W2.heap.size W2 (W5.alloc (.cells #[] 3)) := hB25.alloc hB25.size _
    have hzb := HZ.out _ (HX.out _ hA5).2
    have hxb : Ints W5 xa xs.length xs := hxI.below hB5
    have HXB : Hid (∀ X : World, Below W5.heap.size W5 X → Ints X xa xs.length xs) := fun X hX => hxb.below hX
    have hs1 : 0 + i ≤ 1000000 := by omega
    have hs2 : i + xs.length ≤ 1000000 := by omega
    have hb1 : W5.heap.size ≤ (W5.alloc (.cells #[] 3)).heap.size := by simp
    have HXL : Hid (LA (zs ++ xs) ∧ (xs.length = 0 ↔ LA zs)) := ⟨hxL, hx0⟩
    have hA55 : Below W5.heap.size W5 (W5.alloc (.cells #[] 3)) := (Below.refl _ _).alloc (Nat.le_refl _) _
    have hxl : (xs.length : Int) ≤ 300 := by omega
    clear HBE4 hi hyes r0 r1 r2 hxI hxb hxL hx0
    go_wp2_with (first
      | (at_builtin; refine wpList_append_ints rfl (.tmp 62) (.tmp 63) rfl W5.heap.size _ 0 [] rfl hown0 za i zc zs rfl hzc hzb hs1 hb1 ?_; intro v1 W6 hown1 hB6; rw [Nat.zero_add, List.nil_append] at hown1; have hB56 : Below W5.heap.size W5 W6 := hA55.trans hB6; have hxb := HXB.out _ hB56; have hb2 : W5.heap.size ≤ W6.heap.size := hB56.size)
      | (at_builtin; refine wpList_append_ints rfl (.tmp 64) (.tmp 65) rfl W5.heap.size _ i zs rfl hown1 xa xs.length xc xs rfl hxc hxb hs2 hb2 ?_; intro v2 W7 hown2 hB7; have hB57 : Below W5.heap.size W5 W7 := hB56.trans hB7; have hB27 : Below W2.heap.size W2 W7 := hB25.trans (hB57.mono hB25.size); obtain ⟨ra, rc, rfl, hR⟩ := owned_ints hown2 (by omega); obtain ⟨s0, s1, s2⟩ := HK.out _ hB27)
      | fail)
    refine (HSA.out W7 ra (i + xs.length) rc (zs ++ xs) hB27 hR).mono ?_
    rintro e W8 ⟨b, rfl, hb, hB8⟩
    obtain rfl : b = true := hb.2 HXL.out.1
    have hB28 : Below W2.heap.size W2 W8 := hB27.trans (hB8.mono hB27.size)
    obtain ⟨t0, t1, t2⟩ := HK.out _ hB28
    have HS8 := HSA.out W8 za i zc zs hB28 (HZ.out _ (HX.out _ hB28).2)
    clear hb hB8 hR hown2 hown1 hB7 hB6 hB56 hB57 hxb hb2 s0 s1 s2 p0 p1 p2 hown0 hzb hB27
    go_wp2_with fail
    refine HS8.mono ?_
    rintro e W9 ⟨b, rfl, hb, hB9⟩
    have hB29 : Below W2.heap.size W2 W9 := hB28.trans (hB9.mono hB28.size)
    have hbb : ((xs.length : Int) == 0) = b := by
      rw [Bool.eq_iff_iff, hb, ← HXL.out.2, beq_iff_eq]
      omega
    have hB9w := (HX.out W9 hB29).2
    clear hb HS8 t0 t1 t2 hB9 hB28
    cases b with
    | true =>
      go_wp2_with fail
      refine (HAW.out _).mono ?_
      rintro e XZ ⟨rfl, hXZ⟩
      have HEND : Hid (Below w.heap.size w XZ) := hB9w.trans (hXZ.mono hB9w.size)
      clear hXZ
      go_wp2
      go_ret
      first | exact HEND.out | exact ⟨rfl, HEND.out⟩
    | false =>
      go_wp2_with fail
      refine (HAW.out _).mono ?_
      rintro e XZ ⟨rfl, hXZ⟩
      have HEND : Hid (Below w.heap.size w XZ) := hB9w.trans (hXZ.mono hB9w.size)
      clear hXZ
      go_wp2
      go_ret
      first | exact HEND.out | exact ⟨rfl, HEND.out⟩
end Go.Proofs.YtajabenlkmgjeaaDoor
