/-
  PROVED HERE: what the texts FilledW, FillsW, Rowl say (each has its own words below).
-/
import Derived.Test.YtofkiaeocfpkeaaGreatDoorRF15
/- FilledW: the walk of RegFilled. -/
namespace Go.Proofs.YtofkiaeocfpkeaaGreatDoor
open Go.RowKit

theorem out_named (s : ByteArray) : named 200 (outTree s) := by
  unfold outTree
  cases h : outT s with
  | none => exact emptyT_named
  | some t =>
    show named 200 t
    unfold outT at h
    split at h
    · cases h
    · rename_i hs
      split at h
      · cases h
      · rename_i t' hr
        split at h
        · cases h
          unfold readT at hr
          split at hr
          · cases hr
            exact emptyT_named
          · split at hr
            · rename_i t2 ha
              cases hr
              exact (altN_named _ _ _ _ ha (by rw [bts_length]; omega)).1 200
            · cases hr
        · cases h
/-- What may be asked of the tree v with these groups behind w. -/
structure Asked (w : World) (v : Value) (ga : Option Addr) (gl gc : Nat) (gs : List Grp) (n : Nat) (t : DataW Unit) : Prop where
  chk : ∀ X, Below w.heap.size w X → Calls Tryz.prog 88 #[v, .slice ga gl gc] X fun e w' => e = .returned (.int .i64 (chk n t gs)) ∧ Below X.heap.size X w'
  fill : Go.Proofs.YtofkiaeocfpkeaaGreatDoor.chk n t gs = 0 → ∀ (X : World) (za : Option Addr) (zl zc : Nat) (zs : List Int), Below w.heap.size w X → Ints X za zl zs → Calls Tryz.prog 12 #[v, .slice ga gl gc, .slice za zl zc] X fun e w' => Filled gs n t zs X w' e
  begins : Go.Proofs.YtofkiaeocfpkeaaGreatDoor.chk n t gs = 0 → ∀ (X : World) (za : Option Addr) (zl zc : Nat) (zs : List Int), Below w.heap.size w X → Ints X za zl zs → Calls Tryz.prog 167 #[v, .slice ga gl gc, .slice za zl zc] X fun e w' => ∃ i : Nat, e = .returned (.int .i64 (i : Int)) ∧ LongD gs n t zs i ∧ Below X.heap.size X w'
  says : Go.Proofs.YtofkiaeocfpkeaaGreatDoor.chk n t gs = 0 → Says w v ga gl gc (LangD gs n t)
theorem asked_of {w : World} {v : Value} {ga : Option Addr} {gl gc : Nat} {gs : List Grp} {n : Nat} {t : DataW Unit} (hX : Ex w n t v) (hN : named n t) (hG : Groups w ga gl gs) (hT : Tab w) (hw0 : 0 < w.heap.size) : Asked w v ga gl gc gs n t :=
  ⟨fun X hB => rcheck_calls n t v ga gl gc gs X (Ex.below hB _ _ _ hX) hN (hG.below hB),
   fun hc X za zl zc zs hB hZ => fill_calls n t v ga gl gc gs za zl zc zs X (Ex.below hB _ _ _ hX) hN (hG.below hB) hZ hc (hT.below hB hw0) (Nat.lt_of_lt_of_le hw0 hB.size),
   fun hc X za zl zc zs hB hZ => begins_calls n t v ga gl gc gs za zl zc zs X (Ex.below hB _ _ _ hX) hN (hG.below hB) hZ hc,
   fun hc => says_of hX hN hG hc (fun _ => Iff.rfl)⟩
/-- What Fill says, in short. -/
def FilledS (PD : List Int → Prop) (LA : List Int → Prop) (zs : List Int) (w w' : World) (e : Ending) : Prop :=
  Below w.heap.size w w' ∧ ((¬ PD zs ∧ e = .returned (.tuple #[.slice none 0 0, .bool false])) ∨ (PD zs ∧ ∃ (a : Option Addr) (c : Nat) (xs : List Int), e = .returned (.tuple #[.slice a xs.length c, .bool true]) ∧ Ints w' a xs.length xs ∧ (a = none → c = 0) ∧ xs.length ≤ 300 ∧ LA (zs ++ xs) ∧ (xs.length = 0 ↔ LA zs)))
theorem filled_short {gs : List Grp} {n : Nat} {t : DataW Unit} {zs : List Int} {w w' : World} {e : Ending} (hc : chk n t gs = 0) (h : Filled gs n t zs w w' e) : FilledS (PreD gs n t) (LangD gs n t) zs w w' e := by
  refine ⟨h.1, ?_⟩
  rcases h.2 with h2 | ⟨hp, a, c, xs, m, h1, h2, h3, h4, h5, h6, h7, h8⟩
  · exact .inl h2
  · refine .inr ⟨hp, a, c, xs, h1, h2, h3, by omega, h8, ?_⟩
    rw [h4, min_zero (plan_sound hc).1.wf (afterS_shut (startS_shut _ _) _) h6, after_lang hc]
end Go.Proofs.YtofkiaeocfpkeaaGreatDoor

/- FillsW: the walk of RegFills. -/
namespace Go.Proofs.YtofkiaeocfpkeaaGreatDoor
open Go.RowKit

/-- What Fill answers, plainly. -/
def Ans (gs : List Grp) (n : Nat) (t : DataW Unit) (zs : List Int) (ok : Bool) (xs : List Int) : Prop :=
  (ok = true ∧ chk n t gs = 0 ∧ PreD gs n t zs ∧ BestD gs n t zs xs) ∨ (ok = false ∧ xs = [] ∧ (chk n t gs ≠ 0 ∨ ¬ PreD gs n t zs))
theorem ans_one {gs : List Grp} {n : Nat} {t : DataW Unit} {zs : List Int} {ok ok' : Bool} {xs ys : List Int} (h1 : Ans gs n t zs ok xs) (h2 : Ans gs n t zs ok' ys) : ok' = ok ∧ ys = xs := by
  rcases h1 with ⟨rfl, a1, a2, a3⟩ | ⟨rfl, rfl, a3⟩
  · rcases h2 with ⟨rfl, _, _, b3⟩ | ⟨_, _, b3⟩
    · exact ⟨rfl, best_one b3 a3⟩
    · rcases b3 with b3 | b3
      · exact absurd a1 b3
      · exact absurd a2 b3
  · rcases h2 with ⟨_, b1, b2, _⟩ | ⟨rfl, rfl, _⟩
    · rcases a3 with a3 | a3
      · exact absurd b1 a3
      · exact absurd b2 a3
    · exact ⟨rfl, rfl⟩
theorem ans_of {gs : List Grp} {n : Nat} {t : DataW Unit} {zs : List Int} {w w' : World} {e : Ending} (h : FilledR gs n t zs w w' e) : ∃ (a : Option Addr) (c : Nat) (xs : List Int) (ok : Bool), e = .returned (.tuple #[.slice a xs.length c, .bool ok]) ∧ Ints w' a xs.length xs ∧ Ans gs n t zs ok xs ∧ Below w.heap.size w w' := by
  obtain ⟨hB, ⟨h1, rfl⟩ | ⟨h1, h2, a, c, xs, rfl, h3, h4⟩⟩ := h
  · exact ⟨none, 0, [], false, rfl, Ints.none0 w', .inr ⟨rfl, rfl, h1⟩, hB⟩
  · exact ⟨a, c, xs, true, rfl, h3, .inl ⟨rfl, h1, h2, h4⟩, hB⟩
set_option maxRecDepth 100000 in
set_option maxHeartbeats 1000000 in
theorem fill_no (n : Nat) (t : DataW Unit) (v : Value) (ga : Option Addr) (gl gc : Nat) (gs : List Grp) (za : Option Addr) (zl zc : Nat) (w : World) (h : Ex w n t v) (hN : named n t) (hG : Groups w ga gl gs) (hc : chk n t gs ≠ 0) :
    Calls Tryz.prog 12 #[v, .slice ga gl gc, .slice za zl zc] w fun e w' => e = .returned (.tuple #[.slice none 0 0, .bool false]) ∧ Below w.heap.size w w' := by
  have HB0 : Hid (∀ o, Below w.heap.size w (w.alloc o)) := fun o => (Below.refl _ w).alloc (Nat.le_refl _) _
  have H1 : Hid (∀ W, Below w.heap.size w W → Calls Tryz.prog 37 #[v, .slice ga gl gc, .slice za zl zc] W fun e w' => ∃ Bw, e = .returned (.tuple #[.pointer (some ⟨Bw, 0, none⟩), .int .i64 0]) ∧ w'.heap[Bw]? = some (.cells #[.slice none 0 0, .map none, .map none] 81 (0, 0)) ∧ Below W.heap.size W w') := fun W hW => walked_no n t v ga gl gc gs za zl zc W (Ex.below hW _ _ _ h) hN (hG.below hW) hc
  obtain ⟨k, s, a, len, cap, rfl⟩ : ∃ k s a len cap, v = .agg #[.int .i64 k, .string s, .slice a len cap] := by
    cases n with
    | zero => exact h.elim
    | succ n => obtain ⟨k, s, a, len, cap, ts, _, rfl, _⟩ := h; exact ⟨k, s, a, len, cap, rfl⟩
  clear h hN hG hc
  go_enter Tryz.func12, Tryz.ntmps12
  go_wp2_with fail
  refine (H1.out _ (HB0.out _)).mono ?_
  rintro e W ⟨Bw, rfl, hM, hW⟩
  obtain ⟨c0, c1, c2, _⟩ := cells3 hM
  have HB : Hid (Below w.heap.size w W) := (HB0.out _).trans (hW.mono (by simp))
  clear hM hW H1
  go_wp2
  go_ret2
  exact ⟨rfl, HB.out⟩
theorem fill_any (n : Nat) (t : DataW Unit) (v : Value) (ga : Option Addr) (gl gc : Nat) (gs : List Grp) (za : Option Addr) (zl zc : Nat) (zs : List Int) (w : World) (h : Ex w n t v) (hN : named n t) (hG : Groups w ga gl gs) (hZ : Ints w za zl zs) (hT : Tab w) (hw0 : 0 < w.heap.size) :
    Calls Tryz.prog 12 #[v, .slice ga gl gc, .slice za zl zc] w fun e w' => FilledR gs n t zs w w' e := by
  by_cases hc : chk n t gs = 0
  · refine (fill_calls n t v ga gl gc gs za zl zc zs w h hN hG hZ hc hT hw0).mono ?_
    intro e w' hF
    obtain ⟨hB, ⟨h1, rfl⟩ | ⟨h1, a, c, xs, rfl, h2, h3⟩⟩ := filled_best hc hF
    · exact ⟨hB, .inl ⟨.inr h1, rfl⟩⟩
    · exact ⟨hB, .inr ⟨hc, h1, a, c, xs, rfl, h2, h3⟩⟩
  · refine (fill_no n t v ga gl gc gs za zl zc w h hN hG hc).mono ?_
    rintro e w' ⟨rfl, hB⟩
    exact ⟨hB, .inl ⟨.inl hc, rfl⟩⟩
theorem out_small (s : ByteArray) (h : s.size ≤ 12) (h0 : outE s = 0) : size subs 200 (outTree s) ≤ 25 := by
  have hc : ∀ t, (∃ k, kindT t = k) → readT (bts s) = some t → cnt 200 t ≤ 25 := fun t _ hr => by
    by_cases hk : kindT t ≠ 0
    · have := (read_bound hr hk 200).2
      rw [bts_length] at this
      omega
    · have hk : kindT t = 0 := Classical.not_not.1 hk
      unfold readT at hr
      split at hr
      · cases hr; decide
      · split at hr
        · rename_i t2 ha
          cases hr
          have := altN_bound _ _ _ _ ha 200
          rw [bts_length, List.length_nil] at this
          omega
        · cases hr
  unfold outTree outT
  unfold outE at h0
  rw [if_neg (by omega)] at h0 ⊢
  cases hr : readT (bts s) with
  | none => rw [hr] at h0; cases h0
  | some t =>
    rw [hr] at h0
    dsimp only at h0 ⊢
    by_cases hk : checkE 200 t = 0
    · rw [if_pos hk]
      have := hc t ⟨_, rfl⟩ hr
      rw [cnt_size] at this
      show size subs 200 t ≤ 25
      omega
    · rw [if_neg hk] at h0; cases h0
set_option maxRecDepth 100000 in
set_option maxHeartbeats 8000000 in
theorem fills_walk (s : ByteArray) (hs : s.size ≤ 9223372036854775807) (ga : Option Addr) (gl gc : Nat) (gs : List Grp) (za : Option Addr) (zl zc : Nat) (zs : List Int) (w : World) (hG : Groups w ga gl gs) (hZ : Ints w za zl zs) (hT : Tab w) (hw0 : 0 < w.heap.size) (hE : ETy w) :
    Calls Tryz.prog 3 #[.string s, .slice ga gl gc, .slice za zl zc] w fun e w' => e = .returned (.bool true) ∧ Below w.heap.size w w' := by
  have HAW : Hid (∀ W : World, Calls Tryz.prog 11 #[] W fun e w' => e = .returned (.bool true) ∧ Below W.heap.size W w') := fun W => awake_calls W
  have HLI : Hid (∀ W : World, Calls Tryz.prog 10 #[.slice ga gl gc, .slice za zl zc] W fun e w' => ∃ b, e = .returned (.bool b) ∧ w' = W) := fun W => light_calls ga gl gc za zl zc W
  have HP : Hid (Calls Tryz.prog 9 #[.string s] w fun e w' => ∃ (k : Int) (nm : ByteArray) (a : Option Addr) (ln cp : Nat), e = .returned (.tuple #[.agg #[.int .i64 k, .string nm, .slice a ln cp], .int .i64 (outN s : Int), .int .i64 (outE s)]) ∧ Below w.heap.size w w' ∧ Ex w' 200 (outTree s) (.agg #[.int .i64 k, .string nm, .slice a ln cp])) := by
    refine (parse_calls s hs w hE).mono ?_
    rintro e w' ⟨hB, ⟨k, nm, a, ln, cp⟩, hX, rfl⟩
    exact ⟨k, nm, a, ln, cp, rfl, hB, hX⟩
  have HNA : Hid (named 200 (outTree s)) := out_named s
  have HSM : Hid (s.size ≤ 12 → outE s = 0 → size subs 200 (outTree s) ≤ 25) := out_small s
  have HG : Hid (∀ X : World, Below w.heap.size w X → Groups X ga gl gs) := fun X hX => hG.below hX
  have HZ : Hid (∀ X : World, Below w.heap.size w X → Ints X za zl zs) := fun X hX => hZ.below hX
  have HTT : Hid (∀ X : World, Below w.heap.size w X → Tab X ∧ 0 < X.heap.size) := fun X hX => ⟨hT.below hX hw0, Nat.lt_of_lt_of_le hw0 hX.size⟩
  have hsi : (s.size : Int) ≤ 9223372036854775807 := by omega
  obtain ⟨T, hTT⟩ : ∃ T, T = outTree s := ⟨_, rfl⟩
  obtain ⟨f, hf⟩ : ∃ f, f = outE s := ⟨_, rfl⟩
  obtain ⟨pn, hpn⟩ : ∃ pn : Int, pn = (outN s : Int) := ⟨_, rfl⟩
  rw [← hTT, ← hf, ← hpn] at HP
  rw [← hTT] at HNA HSM
  rw [← hf] at HSM
  clear hG hZ hT hw0 hE hs hTT hf hpn
  go_enter Tryz.func3, Tryz.ntmps3
  go_wp2_with fail
  refine HP.out.mono ?_
  rintro e W1 ⟨k, nm, a, ln, cp, rfl, hB1, hA⟩
  obtain ⟨W2, hW2⟩ : ∃ W2, W2 = W1.alloc (.cells #[.int .i64 k, .string nm, .slice a ln cp] 26) := ⟨_, rfl⟩
  have hB12 : Below W1.heap.size W1 W2 := by rw [hW2]; exact (Below.refl _ W1).alloc (Nat.le_refl _) _
  have hB2 : Below w.heap.size w W2 := hB1.trans (hB12.mono hB1.size)
  have hs2 : W2.heap.size = W1.heap.size + 1 := by rw [hW2]; simp
  have m2 : W2.heap[W1.heap.size]? = some (.cells #[.int .i64 k, .string nm, .slice a ln cp] 26 (0, 0)) := by rw [hW2]; exact World.alloc_heap_new W1 _
  have HW2 : Hid (W1.alloc (.cells #[.int .i64 k, .string nm, .slice a ln cp] 26) = W2) := hW2.symm
  have HK : Hid (∀ X : World, Below W2.heap.size W2 X → X.cell? ⟨W1.heap.size, 0, none⟩ = some (.int .i64 k) ∧ X.cell? ⟨W1.heap.size, 1, none⟩ = some (.string nm) ∧ X.cell? ⟨W1.heap.size, 2, none⟩ = some (.slice a ln cp)) := fun X hX => by
    obtain ⟨a0, a1, a2, _⟩ := cells3 ((hX.block _ (by omega)).trans m2)
    exact ⟨a0, a1, a2⟩
  have HX : Hid (∀ X : World, Below W2.heap.size W2 X → Below W1.heap.size W1 X ∧ Below w.heap.size w X) := fun X hX => ⟨hB12.trans (hX.mono hB12.size), hB2.trans (hX.mono hB2.size)⟩
  have HF1 : Hid (∀ X : World, Below W2.heap.size W2 X → Calls Tryz.prog 12 #[.agg #[.int .i64 k, .string nm, .slice a ln cp], .slice ga gl gc, .slice za zl zc] X fun e w' => ∃ (a : Option Addr) (c : Nat) (xs : List Int) (ok : Bool), e = .returned (.tuple #[.slice a xs.length c, .bool ok]) ∧ Ints w' a xs.length xs ∧ Ans gs 200 T zs ok xs ∧ Below X.heap.size X w') := fun X hX => by
    obtain ⟨h1, h2⟩ := HX.out X hX
    exact (fill_any 200 T _ ga gl gc gs za zl zc zs X (Ex.below h1 _ _ _ hA) HNA.out (HG.out X h2) (HZ.out X h2) (HTT.out X h2).1 (HTT.out X h2).2).mono fun e w' h => ans_of h
  have HF2 : Hid (s.size ≤ 12 → f = 0 → ∀ X : World, Below W2.heap.size W2 X → Calls Tryz.prog 13 #[.agg #[.int .i64 k, .string nm, .slice a ln cp], .slice ga gl gc, .slice za zl zc] X fun e w' => ∃ (a : Option Addr) (c : Nat) (xs : List Int) (ok : Bool), e = .returned (.tuple #[.slice a xs.length c, .bool ok]) ∧ Ints w' a xs.length xs ∧ Ans gs 200 T zs ok xs ∧ Below X.heap.size X w') := fun g1 g2 X hX => by
    obtain ⟨h1, h2⟩ := HX.out X hX
    exact (reffill_calls 200 T _ ga gl gc gs za zl zc zs X (Ex.below h1 _ _ _ hA) HNA.out (HSM.out g1 g2) (HG.out X h2) (HZ.out X h2)).mono fun e w' h => ans_of h
  obtain ⟨q0, q1, q2⟩ := HK.out W2 (Below.refl _ _)
  have HB2 : Hid (Below w.heap.size w W2) := hB2
  clear hA hW2 m2 hs2 hB12 hB1 hB2 HG HZ HTT HNA HSM
  by_cases h1 : 12 < s.size
  · have hd1 : decide ((12 : Int) < (s.size : Int)) = true := by simp; omega
    have hd1' : decide (12 < s.size) = true := by simp; omega
    go_wp2_with fail
    rw [HW2.out]
    refine (HAW.out _).mono ?_
    rintro e XZ ⟨rfl, hXZ⟩
    have HEND : Hid (Below w.heap.size w XZ) := HB2.out.trans (hXZ.mono HB2.out.size)
    clear hXZ
    go_wp2
    go_ret
    first | exact HEND.out | exact ⟨rfl, HEND.out⟩
  have hd1 : decide ((12 : Int) < (s.size : Int)) = false := by simp; omega
  have hd1' : decide (12 < s.size) = false := by simp; omega
  by_cases h2 : f ≠ 0
  · have e0 : (f == 0) = false := by simpa using h2
    have e1 : (f != 0) = true := by simp [bne, e0]
    go_wp2_with fail
    rw [HW2.out]
    refine (HAW.out _).mono ?_
    rintro e XZ ⟨rfl, hXZ⟩
    have HEND : Hid (Below w.heap.size w XZ) := HB2.out.trans (hXZ.mono HB2.out.size)
    clear hXZ
    go_wp2
    go_ret
    first | exact HEND.out | exact ⟨rfl, HEND.out⟩
  have h2 : f = 0 := Classical.not_not.1 h2
  subst h2
  have hf0 : ((0 : Int) != 0) = false := rfl
  have HF3 : Hid (∀ X : World, Below W2.heap.size W2 X → _) := HF2.out (by omega) rfl
  go_wp2_with fail
  rw [HW2.out]
  refine (HLI.out _).mono ?_
  rintro e XL ⟨lb, rfl, rfl⟩
  cases lb with
  | false =>
    go_wp2_with fail
    refine (HAW.out _).mono ?_
    rintro e XZ ⟨rfl, hXZ⟩
    have HEND : Hid (Below w.heap.size w XZ) := HB2.out.trans (hXZ.mono HB2.out.size)
    clear hXZ
    go_wp2
    go_ret
    first | exact HEND.out | exact ⟨rfl, HEND.out⟩
  | true =>
    go_wp2_with fail
    refine (HF1.out _ (Below.refl _ _)).mono ?_
    rintro e X3 ⟨a3, c3, xs, ok, rfl, hi3, hans3, hB3⟩
    have HB3 : Hid (Below XL.heap.size XL X3) := hB3
    obtain ⟨r0, r1, r2⟩ := HK.out X3 hB3
    have HI3 : Hid (Ints X3 a3 xs.length xs ∧ Ans gs 200 T zs ok xs) := ⟨hi3, hans3⟩
    have HC4 := HF3.out X3 hB3
    clear hi3 hans3 hB3
    go_wp2_with fail
    refine HC4.mono ?_
    rintro e X4 ⟨a4, c4, ys, ok4, rfl, hi4, hans4, hB4⟩
    obtain ⟨rfl, rfl⟩ := ans_one HI3.out.2 hans4
    have HLC := list_calls X4 a3 a4 c3 c4 ys (HI3.out.1.below hB4) hi4
    have HB4 : Hid (Below w.heap.size w X4) := HB2.out.trans ((HB3.out.trans (hB4.mono HB3.out.size)).mono HB2.out.size)
    have hok : (ok4 == ok4) = true := by simp
    clear hi4 hans4 hB4 HI3 HC4
    go_wp2_with fail
    refine HLC.mono ?_
    rintro e X5 ⟨rfl, hB5⟩
    have HB5 : Hid (Below w.heap.size w X5) := HB4.out.trans (hB5.mono HB4.out.size)
    clear hB5 HLC
    go_wp2_with fail
    refine (HAW.out _).mono ?_
    rintro e XZ ⟨rfl, hXZ⟩
    have HEND : Hid (Below w.heap.size w XZ) := HB5.out.trans (hXZ.mono HB5.out.size)
    clear hXZ
    go_wp2
    go_ret
    first | exact HEND.out | exact ⟨rfl, HEND.out⟩
end Go.Proofs.YtofkiaeocfpkeaaGreatDoor

/- Rowl: a slice of integers that came in is no longer than it is wide. -/
namespace Go.Proofs.YtofkiaeocfpkeaaGreatDoor
open Go.ChangeShapes Go.WideShapes Go.ChangeAt Go.RowKit

theorem open_rowl {H : Type} {enc : TypeId × Value → H} {W : World} {a : Option Addr} {len cap : Nat} {d : DataW H} {p : List MemPlace} (h : DataW.Trod enc Tryz.prog W 0 (fun _ => true) true 23 (.slice a len cap) d p) : len ≤ cap ∧ cap ≤ 9223372036854775807 := by
  obtain ⟨fuel, hf⟩ := h
  rcases open_ints Tryz.underlying23 Tryz.underlying3 (by kernel_rfl) hf with ⟨hcs, _⟩ | ⟨y, l, c, zs, hcs, hq, hl, hm, _⟩
  · simp [Value.cells] at hcs
    omega
  · simp [Value.cells] at hcs
    obtain ⟨rfl, rfl, rfl⟩ := hcs
    unfold maxLen at hm
    omega
end Go.Proofs.YtofkiaeocfpkeaaGreatDoor
