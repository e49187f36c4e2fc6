/-
  PROVED HERE: the statement SumTells: bytes, at most 60000 of them, that differ in one byte have other sums; no condition.
-/
import Derived.Test.YtomfmakljffgmaaArgs
namespace Go.Proofs.Ytomfmakljffgmaa.sumTells
open Go.ChangeShapes Go.WideShapes Go.ChangeAt Go.RowKit

theorem tells_bool (x y : Bool) (h : x = true ↔ y = true) : (x == y) = true := by
  cases x <;> cases y <;> simp_all

/-- A cell of a row of the call's own is written. -/
theorem row_set {W : World} {g len : Nat} {bs : List Int} (h : Row .u8 W (some ⟨g, 0, none⟩) len bs) (i : Nat) (hi : i < len) (c : Int) :
    Row .u8 (W.setCell ⟨g, i, none⟩ (.int .u8 c)) (some ⟨g, 0, none⟩) len (bs.set i c) := by
  obtain ⟨hl, h0 | ⟨b, o, hbo, hlt, hc⟩⟩ := h
  · omega
  · cases hbo
    refine ⟨by rw [List.length_set]; exact hl, .inr ⟨g, 0, rfl, by simpa [World.setCell] using hlt, fun j hj => ?_⟩⟩
    rw [List.getD_eq_getElem?_getD, List.getElem?_set]
    by_cases e : i = j
    · subst e
      rw [if_pos rfl, if_pos (by omega), Nat.zero_add]
      have := hc i hj
      rw [Nat.zero_add] at this
      exact World.cell?_setCell_same _ _ _ this
    · rw [if_neg e, World.cell?_setCell_other _ _ _ _ (by simp), ← List.getD_eq_getElem?_getD]
      exact hc j hj

set_option maxRecDepth 100000 in
set_option maxHeartbeats 1000000 in
theorem walk (a0 : Option Addr) (len0 cap0 : Nat) (z0 : List Int) (a1 a2 : Int) (w : World) (w0 : Row .u8 w a0 len0 z0) (u0 : Bytes z0) (w1 : (Lit.int .u16 a1).wf = true) (w2 : (Lit.int .u8 a2).wf = true) (s0 : len0 ≤ 140737488351232) :
    Calls Try.prog 6 #[.slice a0 len0 cap0, .int .u16 a1, .int .u8 a2] w fun e w' => e = .returned (.bool true) ∧ Below w.heap.size w w' := by
  have hmx : Try.prog.follows .mixedOrders = true := by kernel_rfl
  obtain ⟨p1, q1⟩ := of_wf_u16 w1
  obtain ⟨p2, q2⟩ := of_wf_u8 w2
  by_cases hz : len0 = 0
  · have e1 : ((len0 : Int) == 0) = true := by rw [beq_iff_eq]; omega
    clear hz
    go_enter Try.func6, Try.ntmps6
    go_wp2_with fail
    refine (awake_calls _).mono ?_
    rintro e W6 ⟨rfl, hB6⟩
    go_wp2
    go_ret
    exact ⟨rfl, hB6⟩
  have e1 : ((len0 : Int) == 0) = false := by rw [beq_eq_false_iff_ne]; omega
  by_cases hbig : 60000 < len0
  · have e2 : decide ((60000 : Int) < (len0 : Int)) = true := by simp; omega
    clear hz
    go_enter Try.func6, Try.ntmps6
    go_wp2_with fail
    refine (awake_calls _).mono ?_
    rintro e W6 ⟨rfl, hB6⟩
    go_wp2
    go_ret
    exact ⟨rfl, hB6⟩
  have e2 : decide ((60000 : Int) < (len0 : Int)) = false := by simp; omega
  obtain ⟨v0, W1, hrun, hown, hv0, hB1⟩ := clone_own a0 len0 cap0 z0 w w0 (by omega)
  obtain ⟨g, cap, cur, rfl, hgb, _, _, hg, hr⟩ := row_of_owns hown hv0
  clear hown hv0
  obtain ⟨i, hi⟩ : ∃ i : Nat, a1 % (len0 : Int) = (i : Int) := ⟨(a1 % (len0 : Int)).toNat, (Int.toNat_of_nonneg (Int.emod_nonneg _ (by omega))).symm⟩
  have hil : i < len0 := by
    have := Int.emod_lt_of_pos a1 (b := (len0 : Int)) (by omega)
    omega
  obtain ⟨b, o, rfl, hbl, hcl⟩ : ∃ b o, a0 = some ⟨b, o, none⟩ ∧ b < w.heap.size ∧ ∀ i, i < len0 → w.cell? ⟨b, o + i, none⟩ = some (.int .u8 (z0.getD i 0)) := by
    rcases w0.2 with h | h
    · omega
    · exact h
  have hci := hcl i hil
  have hcx : W1.cell? ⟨g, i, none⟩ = some (.int .u8 (z0.getD i 0)) := by
    rcases hr.2 with h | ⟨b', o', hbo, _, hc⟩
    · omega
    · cases hbo
      have := hc i hil
      rwa [Nat.zero_add] at this
  have hfz : W1.frozen? ⟨g, i, none⟩ = false := by simp [World.frozen?, hg]
  have hrx := row_set hr i hil a2
  have hBx : Below w.heap.size w (W1.setCell ⟨g, i, none⟩ (.int .u8 a2)) := hB1.setCell hgb _
  have htl := more_tells z0 i a2 (by rw [w0.1]; exact hil) p2 q2 (u0.get (by rw [w0.1]; exact hil)).1 (u0.get (by rw [w0.1]; exact hil)).2
  have hux : Bytes (z0.set i a2) := fun n hn => by
    rcases List.mem_or_eq_of_mem_set hn with h | h
    · exact u0 n h
    · subst h; exact ⟨p2, q2⟩
  have k1 := fun W (h : Below (W1.setCell ⟨g, i, none⟩ (.int .u8 a2)).heap.size (W1.setCell ⟨g, i, none⟩ (.int .u8 a2)) W) => of_calls (some ⟨g, 0, none⟩) len0 cap (z0.set i a2) W (hrx.below h) hux (by omega)
  have k2 := fun W (h : Below w.heap.size w W) => of_calls (some ⟨b, o, none⟩) len0 cap0 z0 W (w0.below h) u0 (by omega)
  clear hcl w0 hr hrx u0 hux hg
  generalize z0.getD i 0 = c at *
  generalize more 1 (z0.set i a2) = x at *
  generalize more 1 z0 = y at *
  have htb : ((x == y) == (a2 == c)) = true := tells_bool _ _ (by rw [beq_iff_eq, beq_iff_eq]; exact htl)
  have K1 : Hid (∀ W : World, Below (W1.setCell ⟨g, i, none⟩ (.int .u8 a2)).heap.size (W1.setCell ⟨g, i, none⟩ (.int .u8 a2)) W → Calls Try.prog 8 #[.slice (some ⟨g, 0, none⟩) len0 cap] W fun e w' => e = .returned (.int .u32 x) ∧ Below W.heap.size W w') := k1
  have K2 : Hid (∀ W : World, Below w.heap.size w W → Calls Try.prog 8 #[.slice (some ⟨b, o, none⟩) len0 cap0] W fun e w' => e = .returned (.int .u32 y) ∧ Below W.heap.size W w') := k2
  clear k1 k2 htl
  have hi0 : (0 : Int) ≤ (i : Int) := by omega
  have hi1 : (i : Int) < (len0 : Int) := by omega
  go_enter Try.func6, Try.ntmps6
  go_wp2_with (at_builtin; refine wpList_append_run rfl _ _ 22 rfl _ _ _ _ rfl rfl hrun ?_)
  clear hrun hcx hfz
  have hcw : ∀ W : World, Below (W1.setCell ⟨g, i, none⟩ (.int .u8 a2)).heap.size (W1.setCell ⟨g, i, none⟩ (.int .u8 a2)) W → W.cell? ⟨b, o + i, none⟩ = some (.int .u8 c) := fun W h => (h.cell (p := ⟨b, o + i, none⟩) (Nat.lt_of_lt_of_le hbl hBx.size)).trans ((hBx.cell (p := ⟨b, o + i, none⟩) hbl).trans hci)
  clear hci
  generalize W1.setCell ⟨g, i, none⟩ (.int .u8 a2) = X at *
  refine wp_region_held_drew (S := fun w' => Below X.heap.size X w') hmx (Below.refl _ _).drew (fun hS => ?_)
  refine takeD 0 (some 30) (v := ?_) rfl rfl (by kernel_rfl) (by kernel_rfl) (by kernel_rfl) (fun _ _ _ h => h) (Or.inl ⟨by rfl, ?_⟩) hS ?_
  rotate_left
  · intro w hSw
    go_simp
    with_reducible rfl
  simp only [Act.put, List.setIfInBounds_toArray, List.set_cons_zero, List.set_cons_succ]
  refine takeD 2 (some 32) (v := ?_) rfl rfl (by kernel_rfl) (by kernel_rfl) (by kernel_rfl) (fun _ _ _ h => h) (Or.inl ⟨by rfl, ?_⟩) hS ?_
  rotate_left
  · intro w hSw
    go_simp
    with_reducible rfl
  simp only [Act.put, List.setIfInBounds_toArray, List.set_cons_zero, List.set_cons_succ]
  refine takeD 5 (some 35) (v := ?_) rfl rfl (by kernel_rfl) (by kernel_rfl) (by kernel_rfl) (fun _ _ _ h => h) (Or.inl ⟨by rfl, ?_⟩) hS ?_
  rotate_left
  · intro w hSw
    go_simp
    with_reducible rfl
  simp only [Act.put, List.setIfInBounds_toArray, List.set_cons_zero, List.set_cons_succ]
  refine takeD 6 (some 36) (v := ?_) rfl rfl (by kernel_rfl) (by kernel_rfl) (by kernel_rfl) (fun _ _ _ h => h) (Or.inl ⟨by rfl, ?_⟩) hS ?_
  rotate_left
  · intro w hSw
    go_simp
    with_reducible rfl
  simp only [Act.put, List.setIfInBounds_toArray, List.set_cons_zero, List.set_cons_succ]
  refine takeD 7 (some 37) (v := ?_) rfl rfl (by kernel_rfl) (by kernel_rfl) (by kernel_rfl) (fun _ _ _ h => h) (Or.inl ⟨by rfl, ?_⟩) hS ?_
  rotate_left
  · intro w hSw
    go_simp
    with_reducible rfl
  simp only [Act.put, List.setIfInBounds_toArray, List.set_cons_zero, List.set_cons_succ]
  refine takeD 8 (some 38) (v := ?_) rfl rfl (by kernel_rfl) (by kernel_rfl) (by kernel_rfl) (fun _ _ _ h => h) (Or.inl ⟨by rfl, ?_⟩) hS ?_
  rotate_left
  · intro w hSw
    go_simp
    with_reducible rfl
  simp only [Act.put, List.setIfInBounds_toArray, List.set_cons_zero, List.set_cons_succ]
  refine takeD 9 (some 39) (v := ?_) rfl rfl (by kernel_rfl) (by kernel_rfl) (by kernel_rfl) (fun _ _ _ h => h) (Or.inl ⟨by rfl, ?_⟩) hS ?_
  rotate_left
  · intro w hSw
    go_simp
    with_reducible rfl
  simp only [Act.put, List.setIfInBounds_toArray, List.set_cons_zero, List.set_cons_succ]
  refine takeD 10 (some 40) (v := ?_) rfl rfl (by kernel_rfl) (by kernel_rfl) (by kernel_rfl) (fun _ _ _ h => h) (Or.inl ⟨by rfl, ?_⟩) hS ?_
  rotate_left
  · intro w hSw
    go_simp
    with_reducible rfl
  simp only [Act.put, List.setIfInBounds_toArray, List.set_cons_zero, List.set_cons_succ]
  refine callD 1 (by kernel_rfl) rfl (fun K hK => ?_)
  go_simp
  refine (K1.out _ hS).mono ?_
  rintro e W3 ⟨rfl, hB3⟩
  have hS3 : Below X.heap.size X W3 := hS.trans (hB3.mono hS.size)
  refine hK.out _ _ hS3 (fun _ => ?_)
  clear hK K
  try simp only [Act.put, List.setIfInBounds_toArray, List.set_cons_zero, List.set_cons_succ]
  refine callD 3 (by kernel_rfl) rfl (fun K hK => ?_)
  go_simp
  refine (K2.out _ (hBx.trans (hS3.mono hBx.size))).mono ?_
  rintro e W4 ⟨rfl, hB4⟩
  have hS4 : Below X.heap.size X W4 := hS3.trans (hB4.mono hS3.size)
  refine hK.out _ _ hS4 (fun _ => ?_)
  clear hK K
  try simp only [Act.put, List.setIfInBounds_toArray, List.set_cons_zero, List.set_cons_succ]
  refine takeD 4 (some 34) (v := ?_) rfl rfl (by kernel_rfl) (by kernel_rfl) (by kernel_rfl) (fun _ _ _ h => h) (Or.inl ⟨by rfl, ?_⟩) hS4 ?_
  rotate_left
  · intro w hSw
    go_simp
    with_reducible rfl
  simp only [Act.put, List.setIfInBounds_toArray, List.set_cons_zero, List.set_cons_succ]
  refine takeD 11 (some 41) (v := ?_) rfl rfl (by kernel_rfl) (by kernel_rfl) (by kernel_rfl) (fun _ _ _ h => h) (Or.inl ⟨by rfl, ?_⟩) hS4 ?_
  rotate_left
  · intro w hSw
    go_simp
    with_reducible rfl
  simp only [Act.put, List.setIfInBounds_toArray, List.set_cons_zero, List.set_cons_succ]
  refine takeD 12 (some 42) (v := ?_) rfl rfl (by kernel_rfl) (by kernel_rfl) (by kernel_rfl) (fun _ _ _ h => h) (Or.inl ⟨by rfl, ?_⟩) hS4 ?_
  rotate_left
  · intro w hSw
    go_simp
    with_reducible rfl
  simp only [Act.put, List.setIfInBounds_toArray, List.set_cons_zero, List.set_cons_succ]
  refine callD 13 (by kernel_rfl) rfl (fun K hK => ?_)
  go_simp
  refine (awake_calls _).mono ?_
  rintro e W5 ⟨rfl, hB5⟩
  have hS5 : Below X.heap.size X W5 := hS4.trans (hB5.mono hS4.size)
  refine hK.out _ _ hS5 (fun _ => ?_)
  clear hK K
  try simp only [Act.put, List.setIfInBounds_toArray, List.set_cons_zero, List.set_cons_succ]
  refine takeD 14 (some 44) (v := ?_) rfl rfl (by kernel_rfl) (by kernel_rfl) (by kernel_rfl) (fun _ _ _ h => h) (Or.inl ⟨by rfl, ?_⟩) hS5 ?_
  rotate_left
  · intro w hSw
    go_simp
    with_reducible rfl
  simp only [Act.put, List.setIfInBounds_toArray, List.set_cons_zero, List.set_cons_succ]
  refine takeD 15 (some 6) (v := ?_) rfl rfl (by kernel_rfl) (by kernel_rfl) (by kernel_rfl) (fun _ _ _ h => h) (Or.inl ⟨by rfl, ?_⟩) hS5 ?_
  rotate_left
  · intro w hSw
    go_simp
    with_reducible rfl
  simp only [Act.put, List.setIfInBounds_toArray, List.set_cons_zero, List.set_cons_succ]
  refine wpAnyH_done (by kernel_rfl) ?_ _
  go_wp2
  go_ret
  exact ⟨rfl, hBx.trans (hS5.mono hBx.size)⟩

theorem own : ownKnob Try.prog.godebug = none := by kernel_rfl
theorem laidOut : laidOutB Try.prog = true := by kernel_rfl

theorem contract (H : Type) (enc : TypeId × Value → H) (W : World) (base : Nat) (args : Array Value) (ds gs : List (DataW H)) (before : List MemPlace)
    (hval : ∀ (j : Nat) t v, Try.f6.params[j]? = some t → args[j]? = some v → Value.okWide Try.prog W .any base t v)
    (hW : DataW.Whole enc Try.prog Try.f6.params.toList Rows.sumTellsSpec.vars false W args.toList ds gs before) (hsz0 : (DataW.weightsEach Try.prog (Try.f6.params.toList ++ Rows.sumTellsSpec.plain.varTypes Try.prog) (ds ++ gs)).all (· ≤ reachBytes) = true) :
    Calls Try.prog 6 args W fun e W' => ∃ v, e = .returned v ∧ Rows.sumTellsSpec.post enc Try.prog Try.f6 false true false false W args v W' := by
  have hW' := hW
  obtain ⟨p, q, hA0, hV, rfl, hfz, hnd⟩ := hW
  have hA : DataW.TrodAll enc Try.prog W 0 (fun _ => true) true Try.f6.params.toList args.toList ds p := hA0
  have hsz : (DataW.weightsEach Try.prog (Try.f6.params.toList ++ Rows.sumTellsSpec.plain.varTypes Try.prog) (ds ++ gs)).all (· ≤ reachBytes) = true := hsz0
  rw [Try.params6] at hA hval hsz
  obtain ⟨v0, vs0, d0, ds0, p0, q0, hargs, rfl, rfl, h0, r0⟩ := trodAll_cons hA
  obtain ⟨v1, vs1, d1, ds1, p1, q1, rfl, rfl, rfl, h1, r1⟩ := trodAll_cons r0
  obtain ⟨v2, vs2, d2, ds2, p2, q2, rfl, rfl, rfl, h2, r2⟩ := trodAll_cons r1
  obtain ⟨rfl, rfl, rfl⟩ := trodAll_nil r2
  obtain rfl : args = #[v0, v1, v2] := by cases args; simp_all
  obtain ⟨rfl, rfl⟩ := trodVars_none hV
  obtain ⟨a0, len0, cap0, rfl⟩ := okWide_slice Try.underlying22 (hval 0 22 v0 rfl rfl)
  have k0 := h0
  have lt0 : ∀ x ∈ p0, x.block < W.heap.size := by obtain ⟨m, hm⟩ := k0; exact DataW.trod_lt m _ _ _ hm
  obtain ⟨z0, w0, f0, _, g0⟩ := open_arg Try.underlying22 Try.underlying5 (by kernel_rfl) h0
  have s0 := holds_sized hsz (j := 0) (t := 22) (e := 5) rfl rfl Try.underlying22 (by kernel_rfl) g0
  obtain ⟨a1, rfl, rfl, rfl, w1⟩ := open_int Try.underlying35 (hval 1 35 v1 rfl rfl) h1
  obtain ⟨a2, rfl, rfl, rfl, w2⟩ := open_int Try.underlying5 (hval 2 5 v2 rfl rfl) h2
  clear hA0 hsz0 hsz
  refine (walk a0 len0 cap0 z0 a1 a2 W w0 (bytes_of_wf f0) w1 w2 s0).mono fun e W' ⟨he, bel⟩ => ?_
  subst he
  exact ⟨_, rfl, _, _, _, [], _, [], hW', trodAll_mk1 (shut_bool Try.underlying4 _), (trodAll_cons_mk (Below.trod laidOut (by kernel_rfl) (of_decide_eq_true (by kernel_rfl)) k0 bel lt0) (trodAll_cons_mk (shut_int Try.underlying35 w1) (trodAll_cons_mk (shut_int Try.underlying5 w2) trodAll_mk0))), rfl, bel.frame _, fun h => by cases h⟩

set_option maxRecDepth 100000 in
theorem lifted (os : Os) (started : os.Started) (H : Type) (enc : TypeId × Value → H) :
    ReturnsInHanded {} Try.checked os 6 .any (Rows.sumTellsSpec.pre6 enc Try.prog Try.f6 Rows.sumTellsRow.domain false) (Rows.sumTellsSpec.post enc Try.prog Try.f6 false true false false) := by
  refine returnsInHanded_of_change_sized (C := Try.checked) own started (by kernel_rfl) Try.func6
    (ChangeSpec.witness6 (enc := enc) (C := Try.checked) false ⟨#[], #[.slice none 0 0, .int .u16 0, .int .u8 0], []⟩ 8 (by kernel_rfl) (by kernel_rfl) (by kernel_rfl) (by kernel_rfl)) ?_
  intro W base args ds gs before hval hW _ hsz _
  exact contract H enc W base args ds gs before hval hW hsz

theorem proved : Rows.SumTellsSaid :=
  OpenClaim.holds_of_wide 6 Try.f6 rfl rfl rfl rfl rfl rfl rfl ⟨rfl, rfl, rfl, rfl, rfl⟩ rfl rfl rfl rfl rfl (by kernel_rfl) Try.func6 (by kernel_rfl)
    (of_decide_eq_true (by kernel_rfl)) (by unfold Func.isWrapper; first | (rw [if_pos (by decide +kernel)]; kernel_rfl) | (rw [if_neg (by decide +kernel)]; exact ⟨rfl, rfl⟩))
    (fun os started H enc _ => lifted os started H enc)
end Go.Proofs.Ytomfmakljffgmaa.sumTells
namespace Go.Proofs.Ytomfmakljffgmaa
theorem SumTells_holds : Rows.SumTellsSaid := sumTells.proved
end Go.Proofs.Ytomfmakljffgmaa
