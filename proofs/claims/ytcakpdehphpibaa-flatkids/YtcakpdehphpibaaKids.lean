/-
  PROVED HERE: the statement FlatKids: Kids of any tokens at any place is as the document says; no condition.
-/
import Derived.Test.YtcakpdehphpibaaFKids
import Derived.Test.YtcakpdehphpibaaRKids
import Derived.Test.YtcakpdehphpibaaFit
namespace Go.Proofs.Ytcakpdehphpibaa.flatKids
open Go.ChangeShapes Go.WideShapes Go.ChangeAt Go.RowKit

theorem kidsL_length (l : List Tok) (i : Int) (k f : Nat) (out : List Int) : (kidsL l i k f out).length ≤ out.length + f := by
  induction f generalizing k out with
  | zero => exact Nat.le_refl _
  | succ f ih =>
    rw [kidsL]
    split
    · omega
    · refine Nat.le_trans (ih _ _) ?_
      split
      · rw [List.length_append, List.length_singleton]
        omega
      · omega
theorem kids_length (l : List Tok) (i : Int) : (kids l i).length ≤ l.length := by
  unfold kids
  split
  · simp
  · have := kidsL_length l i (i + 1).toNat (l.length - (i + 1).toNat) []
    rw [List.length_nil] at this
    omega

set_option maxRecDepth 100000 in
set_option maxHeartbeats 2000000 in
theorem walk (a : Option Addr) (len cap : Nat) (l : List Tok) (p : Int) (w : World) (hl : Toks w a len l) (hsz : len ≤ 4398046511104) (hp : -9223372036854775808 ≤ p) :
    Calls Try.prog 4 #[.slice a len cap, .int .i64 p] w fun e w' => e = .returned (.bool true) ∧ Below w.heap.size w w' := by
  have H1 := fkids_calls a len cap l p w hl hsz
  have H2 := fun W (hW : Below w.heap.size w W) => kids_calls a len cap l p W (hl.below hW) hsz hp
  have hn := kids_length l p
  rw [hl.1] at hn
  generalize kids l p = K at *
  obtain ⟨n, hnK⟩ : ∃ n, K.length = n := ⟨_, rfl⟩
  rw [hnK] at H1 H2 hn
  clear hl
  go_enter Try.func4, Try.ntmps4
  go_wp2_with fail
  refine H1.mono ?_
  rintro e W1 ⟨a1, cap1, rfl, r1, b1⟩
  go_wp2_with fail
  refine (H2 W1 b1).mono ?_
  rintro e W2 ⟨a2, cap2, rfl, r2, b2⟩
  have b3 := b1.trans (b2.mono b1.size)
  have r1' := r1.below b2
  clear H1 H2 r1 b1 b2
  go_wp2
  go_loopw [7] (fun u w' => ∃ k : Nat, k ≤ n ∧ u = .int .i64 (k : Int) ∧ Below W2.heap.size W2 w') (fun u _ => n - (intOf u).toNat)
  case atStart => exact ⟨0, by omega, rfl, Below.refl _ _⟩
  case round =>
    obtain ⟨k, hk, rfl, hB⟩ := hrel
    by_cases hlt : k < n
    · obtain ⟨x1, o1, rfl, _, c1⟩ := (show ∃ b o, a1 = some ⟨b, o, none⟩ ∧ b < wr.heap.size ∧ ∀ i, i < n → wr.cell? ⟨b, o + i, none⟩ = some (.int .i64 (K.getD i 0)) from by
        rcases (r1'.below hB).2 with h | h
        · omega
        · exact h)
      obtain ⟨x2, o2, rfl, _, c2⟩ := (show ∃ b o, a2 = some ⟨b, o, none⟩ ∧ b < wr.heap.size ∧ ∀ i, i < n → wr.cell? ⟨b, o + i, none⟩ = some (.int .i64 (K.getD i 0)) from by
        rcases (r2.below hB).2 with h | h
        · omega
        · exact h)
      have d1 := c1 k hlt
      have d2 := c2 k hlt
      clear c1 c2 r1' r2
      generalize K.getD k 0 = y at *
      go_wp2_with fail
      go_quiet (fail)
      go_wp2
      go_roundw
      case rel => exact ⟨k + 1, by omega, rfl, below_drewN hB _⟩
      case measure => simp [intOf]; omega
    · obtain rfl : k = n := by omega
      clear r1' r2
      have b4 := b3.trans (hB.mono b3.size)
      go_wp2_with fail
      refine (awake_calls _).mono ?_
      rintro e W9 ⟨rfl, hB9⟩
      go_wp2
      go_ret
      exact ⟨rfl, b4.trans (hB9.mono b4.size)⟩

theorem own : ownKnob Try.prog.godebug = none := by kernel_rfl
theorem laidOut : laidOutB Try.prog = true := by kernel_rfl

theorem contract (H : Type) (enc : TypeId × Value → H) (W : World) (base : Nat) (args : Array Value) (ds gs : List (DataW H)) (before : List MemPlace)
    (hval : ∀ (j : Nat) t v, Try.f4.params[j]? = some t → args[j]? = some v → Value.okWide Try.prog W .any base t v)
    (hW : DataW.Whole enc Try.prog Try.f4.params.toList Rows.flatKidsSpec.vars false W args.toList ds gs before) (hsz0 : (DataW.weightsEach Try.prog (Try.f4.params.toList ++ Rows.flatKidsSpec.plain.varTypes Try.prog) (ds ++ gs)).all (· ≤ reachBytes) = true) :
    Calls Try.prog 4 args W fun e W' => ∃ v, e = .returned v ∧ Rows.flatKidsSpec.post enc Try.prog Try.f4 false true false false W args v W' := by
  have hW' := hW
  obtain ⟨p, q, hA0, hV, rfl, hfz, hnd⟩ := hW'
  have hA : DataW.TrodAll enc Try.prog W 0 (fun _ => true) true Try.f4.params.toList args.toList ds p := hA0
  have hsz : (DataW.weightsEach Try.prog (Try.f4.params.toList ++ Rows.flatKidsSpec.plain.varTypes Try.prog) (ds ++ gs)).all (· ≤ reachBytes) = true := hsz0
  rw [Try.params4] at hA hval hsz
  obtain ⟨v0, vs0, d0, ds0, p0, q0, hargs, rfl, rfl, h0, r0⟩ := trodAll_cons hA
  obtain ⟨v1, vs1, d1, ds1, p1, q1, rfl, rfl, rfl, h1, r1⟩ := trodAll_cons r0
  obtain ⟨rfl, rfl, rfl⟩ := trodAll_nil r1
  obtain rfl : args = #[v0, v1] := by cases args; simp_all
  obtain ⟨rfl, rfl⟩ := trodVars_none hV
  obtain ⟨a0, len0, cap0, rfl⟩ := okWide_slice Try.underlying22 (hval 0 22 v0 rfl rfl)
  have lt0 : ∀ x ∈ p0, x.block < W.heap.size := by obtain ⟨m, hm⟩ := h0; exact DataW.trod_lt m _ _ _ hm
  obtain ⟨l0, w0, f0, c0, m0, n0, x0, g0⟩ := open_toks h0
  have s0 := toks_sized hsz (j := 0) rfl rfl g0
  obtain ⟨a1, rfl, rfl, rfl, w1⟩ := open_int Try.underlying3 (hval 1 3 v1 rfl rfl) h1
  clear hA0 hsz0 hsz
  refine (walk a0 len0 cap0 l0 a1 W w0 s0 (of_wf_i64 w1).1).mono fun e W' ⟨he, bel⟩ => ?_
  subst he
  exact ⟨_, rfl, _, _, _, [], _, [], hW, trodAll_mk1 (shut_bool Try.underlying4 _), (trodAll_cons_mk (Below.trod laidOut (by kernel_rfl) (of_decide_eq_true (by kernel_rfl)) h0 bel lt0) (trodAll_cons_mk (shut_int Try.underlying3 w1) trodAll_mk0)), rfl, bel.frame _, fun h => by cases h⟩

set_option maxRecDepth 100000 in
theorem lifted (os : Os) (started : os.Started) (H : Type) (enc : TypeId × Value → H) :
    ReturnsInHanded {} Try.checked os 4 .any (Rows.flatKidsSpec.pre6 enc Try.prog Try.f4 Rows.flatKidsRow.domain false) (Rows.flatKidsSpec.post enc Try.prog Try.f4 false true false false) := by
  refine returnsInHanded_of_change_sized (C := Try.checked) own started (by kernel_rfl) Try.func4
    (ChangeSpec.witness6 (enc := enc) (C := Try.checked) false ⟨#[], #[.slice none 0 0, .int .i64 0], []⟩ 8 (by kernel_rfl) (by kernel_rfl) (by kernel_rfl) (by kernel_rfl)) ?_
  intro W base args ds gs before hval hW _ hsz _
  exact contract H enc W base args ds gs before hval hW hsz

theorem proved : Rows.FlatKidsSaid :=
  OpenClaim.holds_of_wide 4 Try.f4 rfl rfl rfl rfl rfl rfl rfl ⟨rfl, rfl, rfl, rfl, rfl⟩ rfl rfl rfl rfl rfl (by kernel_rfl) Try.func4 (by kernel_rfl)
    (of_decide_eq_true (by kernel_rfl)) (by unfold Func.isWrapper; first | (rw [if_pos (by decide +kernel)]; kernel_rfl) | (rw [if_neg (by decide +kernel)]; exact ⟨rfl, rfl⟩))
    (fun os started H enc _ => lifted os started H enc)
end Go.Proofs.Ytcakpdehphpibaa.flatKids
namespace Go.Proofs.Ytcakpdehphpibaa
theorem FlatKids_holds : Rows.FlatKidsSaid := flatKids.proved
end Go.Proofs.Ytcakpdehphpibaa
