/-
  PROVED HERE: the statement FlatDeep: a place is one deeper behind a TOpen, one less deep behind a TClose that ends something, as deep else; no condition.
-/
import Derived.Test.YtcakpdehphpibabFDeep
import Derived.Test.YtcakpdehphpibabDoc
import Derived.Test.YtcakpdehphpibabFit
namespace Go.Proofs.Ytcakpdehphpibab.flatDeep
open Go.ChangeShapes Go.WideShapes Go.ChangeAt Go.RowKit

theorem turn_one {x : Tok} {k : Nat} {S : List Int} (h : x.k = 1) : turn x k S = S ++ [(k : Int)] := by unfold turn; rw [if_pos h]
theorem turn_two {x : Tok} {k : Nat} {S : List Int} (h : x.k = 2) : turn x k S = S.dropLast := by unfold turn; rw [if_neg (by omega), if_pos h]
theorem turn_else {x : Tok} {k : Nat} {S : List Int} (h1 : x.k ≠ 1) (h2 : x.k ≠ 2) : turn x k S = S := by unfold turn; rw [if_neg h1, if_neg h2]

set_option maxRecDepth 100000 in
set_option maxHeartbeats 2000000 in
theorem walk (a : Option Addr) (len cap : Nat) (l : List Tok) (w : World) (hl : Toks w a len l) (hsz : len ≤ 4398046511104) (hlie : Lies a len cap) :
    Calls Try.prog 3 #[.slice a len cap] w fun e w' => e = .returned (.bool true) ∧ Below w.heap.size w w' := by
  have H0 := fdeep_calls a len cap l 0 w hl hsz hlie
  rw [opened_zero] at H0
  have hL := hl.1
  go_enter Try.func3, Try.ntmps3
  go_wp2_with fail
  refine H0.mono ?_
  rintro e W0 ⟨rfl, hB0⟩
  go_wp2
  go_loopw [3] (fun u w' => ∃ k : Nat, k ≤ len ∧ u = .int .i64 (k : Int) ∧ Below w.heap.size w w') (fun u _ => len - (intOf u).toNat)
  case atStart => exact ⟨0, by omega, rfl, hB0⟩
  case round =>
    obtain ⟨k, hk, rfl, hB⟩ := hrel
    clear H0 hB0
    by_cases hlt : k < len
    · obtain ⟨x, hx⟩ : ∃ x, l[k]? = some x := ⟨_, List.getElem?_eq_getElem (by omega)⟩
      have hs := opened_succ l k x hx
      have ha := around_neg l k
      have H1 := fun W (hW : Below w.heap.size w W) => fdeep_calls a len cap l k W (hl.below hW) hsz hlie
      have H2 := fun W (hW : Below w.heap.size w W) => fdeep_calls a len cap l ((k : Int) + 1) W (hl.below hW) hsz hlie
      have H3 := fun W (hW : Below w.heap.size w W) => faround_calls a len cap l k W (hl.below hW) hsz hlie
      obtain ⟨b, o, rfl, hbl, hc⟩ := hl.kind hx
      have d0 := hc wr hB
      obtain ⟨xk, xt, xn, xm⟩ := x
      simp only at *
      clear hl hx hlie
      by_cases k1 : xk = 1
      · subst k1
        rw [turn_one rfl] at hs
        rcases Nat.eq_zero_or_pos (opened l k).length with hz | hz
        · have hn : ((opened l ((k : Int) + 1)).length : Int) = 1 := by
            rw [show ((k : Int) + 1) = ((k + 1 : Nat) : Int) from by omega, hs]
            simp [hz]
          rw [hz] at H1 ha
          rw [hn] at H2
          have ey : around l k < 0 := by simpa using ha
          clear hs hn hz ha
          generalize around l k = y at *
          go_wp2_with fail
          refine (H1 _ hB).mono ?_
          rintro e W1 ⟨rfl, b1⟩
          have g1 := hB.trans (b1.mono hB.size)
          have d1 := hc W1 g1
          go_wp2_with fail
          all_goals
            refine (H2 _ g1).mono ?_
            rintro e W2 ⟨rfl, b2⟩
            have g2 := g1.trans (b2.mono g1.size)
            go_wp2_with fail
            refine (H3 _ g2).mono ?_
            rintro e W3 ⟨rfl, b3⟩
            have g3 := g2.trans (b3.mono g2.size)
            go_wp2
            go_roundw
            case rel => exact ⟨k + 1, by omega, rfl, g3⟩
            case measure => simp [intOf]; omega
        · obtain ⟨m, hm⟩ : ∃ m, (opened l k).length = m + 1 := ⟨(opened l k).length - 1, by omega⟩
          have hn : ((opened l ((k : Int) + 1)).length : Int) = (m : Int) + 1 + 1 := by
            rw [show ((k : Int) + 1) = ((k + 1 : Nat) : Int) from by omega, hs]
            simp [hm]
          rw [hm] at H1 ha
          rw [show ((m + 1 : Nat) : Int) = (m : Int) + 1 from by omega] at H1
          rw [hn] at H2
          have ey : ¬ around l k < 0 := by simpa using ha
          have ey2 : decide (around l k < 0) = false := by simpa using ey
          have em : ((m : Int) + 1 == 0) = false := by simp; omega
          have hm4 : m ≤ 4398046511104 := by have := opened_length l k; omega
          clear hs hn hz ha hm ey
          generalize around l k = y at *
          go_wp2_with fail
          refine (H1 _ hB).mono ?_
          rintro e W1 ⟨rfl, b1⟩
          have g1 := hB.trans (b1.mono hB.size)
          have d1 := hc W1 g1
          go_wp2_with fail
          all_goals
            refine (H2 _ g1).mono ?_
            rintro e W2 ⟨rfl, b2⟩
            have g2 := g1.trans (b2.mono g1.size)
            go_wp2_with fail
            refine (H3 _ g2).mono ?_
            rintro e W3 ⟨rfl, b3⟩
            have g3 := g2.trans (b3.mono g2.size)
            go_wp2
            go_roundw
            case rel => exact ⟨k + 1, by omega, rfl, g3⟩
            case measure => simp [intOf]; omega
      · by_cases k2 : xk = 2
        · subst k2
          rw [turn_two rfl] at hs
          rcases Nat.eq_zero_or_pos (opened l k).length with hz | hz
          · have hn : ((opened l ((k : Int) + 1)).length : Int) = 0 := by
              rw [show ((k : Int) + 1) = ((k + 1 : Nat) : Int) from by omega, hs]
              simp [hz]
            rw [hz] at H1 ha
            rw [hn] at H2
            have ey : around l k < 0 := by simpa using ha
            clear hs hn hz ha
            generalize around l k = y at *
            go_wp2_with fail
            refine (H1 _ hB).mono ?_
            rintro e W1 ⟨rfl, b1⟩
            have g1 := hB.trans (b1.mono hB.size)
            have d1 := hc W1 g1
            go_wp2_with fail
            all_goals
              refine (H2 _ g1).mono ?_
              rintro e W2 ⟨rfl, b2⟩
              have g2 := g1.trans (b2.mono g1.size)
              go_wp2_with fail
              refine (H3 _ g2).mono ?_
              rintro e W3 ⟨rfl, b3⟩
              have g3 := g2.trans (b3.mono g2.size)
              go_wp2
              go_roundw
              case rel => exact ⟨k + 1, by omega, rfl, g3⟩
              case measure => simp [intOf]; omega
          · obtain ⟨m, hm⟩ : ∃ m, (opened l k).length = m + 1 := ⟨(opened l k).length - 1, by omega⟩
            have hn : ((opened l ((k : Int) + 1)).length : Int) = (m : Int) := by
              rw [show ((k : Int) + 1) = ((k + 1 : Nat) : Int) from by omega, hs]
              simp [hm]
            rw [hm] at H1 ha
            rw [show ((m + 1 : Nat) : Int) = (m : Int) + 1 from by omega] at H1
            rw [hn] at H2
            have ey : ¬ around l k < 0 := by simpa using ha
            have ey2 : decide (around l k < 0) = false := by simpa using ey
            have em : ((m : Int) + 1 == 0) = false := by simp; omega
            have hm4 : m ≤ 4398046511104 := by have := opened_length l k; omega
            clear hs hn hz ha hm ey
            generalize around l k = y at *
            go_wp2_with fail
            refine (H1 _ hB).mono ?_
            rintro e W1 ⟨rfl, b1⟩
            have g1 := hB.trans (b1.mono hB.size)
            have d1 := hc W1 g1
            go_wp2_with fail
            all_goals
              refine (H2 _ g1).mono ?_
              rintro e W2 ⟨rfl, b2⟩
              have g2 := g1.trans (b2.mono g1.size)
              go_wp2_with fail
              refine (H3 _ g2).mono ?_
              rintro e W3 ⟨rfl, b3⟩
              have g3 := g2.trans (b3.mono g2.size)
              go_wp2
              go_roundw
              case rel => exact ⟨k + 1, by omega, rfl, g3⟩
              case measure => simp [intOf]; omega
        · have e1 : (xk == 1) = false := by simpa using k1
          have e2 : (xk == 2) = false := by simpa using k2
          rw [turn_else k1 k2] at hs
          rcases Nat.eq_zero_or_pos (opened l k).length with hz | hz
          · have hn : ((opened l ((k : Int) + 1)).length : Int) = 0 := by
              rw [show ((k : Int) + 1) = ((k + 1 : Nat) : Int) from by omega, hs]
              simp [hz]
            rw [hz] at H1 ha
            rw [hn] at H2
            have ey : around l k < 0 := by simpa using ha
            clear hs hn hz ha
            generalize around l k = y at *
            go_wp2_with fail
            refine (H1 _ hB).mono ?_
            rintro e W1 ⟨rfl, b1⟩
            have g1 := hB.trans (b1.mono hB.size)
            have d1 := hc W1 g1
            go_wp2_with fail
            all_goals
              refine (H2 _ g1).mono ?_
              rintro e W2 ⟨rfl, b2⟩
              have g2 := g1.trans (b2.mono g1.size)
              go_wp2_with fail
              refine (H3 _ g2).mono ?_
              rintro e W3 ⟨rfl, b3⟩
              have g3 := g2.trans (b3.mono g2.size)
              go_wp2
              go_roundw
              case rel => exact ⟨k + 1, by omega, rfl, g3⟩
              case measure => simp [intOf]; omega
          · obtain ⟨m, hm⟩ : ∃ m, (opened l k).length = m + 1 := ⟨(opened l k).length - 1, by omega⟩
            have hn : ((opened l ((k : Int) + 1)).length : Int) = (m : Int) + 1 := by
              rw [show ((k : Int) + 1) = ((k + 1 : Nat) : Int) from by omega, hs]
              simp [hm]
            rw [hm] at H1 ha
            rw [show ((m + 1 : Nat) : Int) = (m : Int) + 1 from by omega] at H1
            rw [hn] at H2
            have ey : ¬ around l k < 0 := by simpa using ha
            have ey2 : decide (around l k < 0) = false := by simpa using ey
            have em : ((m : Int) + 1 == 0) = false := by simp; omega
            have hm4 : m ≤ 4398046511104 := by have := opened_length l k; omega
            clear hs hn hz ha hm ey
            generalize around l k = y at *
            go_wp2_with fail
            refine (H1 _ hB).mono ?_
            rintro e W1 ⟨rfl, b1⟩
            have g1 := hB.trans (b1.mono hB.size)
            have d1 := hc W1 g1
            go_wp2_with fail
            all_goals
              refine (H2 _ g1).mono ?_
              rintro e W2 ⟨rfl, b2⟩
              have g2 := g1.trans (b2.mono g1.size)
              go_wp2_with fail
              refine (H3 _ g2).mono ?_
              rintro e W3 ⟨rfl, b3⟩
              have g3 := g2.trans (b3.mono g2.size)
              go_wp2
              go_roundw
              case rel => exact ⟨k + 1, by omega, rfl, g3⟩
              case measure => simp [intOf]; omega

    · obtain rfl : k = len := by omega
      clear hl
      go_wp2_with fail
      refine (awake_calls _).mono ?_
      rintro e W9 ⟨rfl, hB9⟩
      go_wp2
      go_ret
      exact ⟨rfl, hB.trans (hB9.mono hB.size)⟩

theorem own : ownKnob Try.prog.godebug = none := by kernel_rfl
theorem laidOut : laidOutB Try.prog = true := by kernel_rfl

theorem contract (H : Type) (enc : TypeId × Value → H) (W : World) (base : Nat) (args : Array Value) (ds gs : List (DataW H)) (before : List MemPlace)
    (hval : ∀ (j : Nat) t v, Try.f3.params[j]? = some t → args[j]? = some v → Value.okWide Try.prog W .any base t v)
    (hW : DataW.Whole enc Try.prog Try.f3.params.toList Rows.flatDeepSpec.vars false W args.toList ds gs before) (hsz0 : (DataW.weightsEach Try.prog (Try.f3.params.toList ++ Rows.flatDeepSpec.plain.varTypes Try.prog) (ds ++ gs)).all (· ≤ reachBytes) = true) :
    Calls Try.prog 3 args W fun e W' => ∃ v, e = .returned v ∧ Rows.flatDeepSpec.post enc Try.prog Try.f3 false true false false W args v W' := by
  have hW' := hW
  obtain ⟨p, q, hA0, hV, rfl, hfz, hnd⟩ := hW'
  have hA : DataW.TrodAll enc Try.prog W 0 (fun _ => true) true Try.f3.params.toList args.toList ds p := hA0
  have hsz : (DataW.weightsEach Try.prog (Try.f3.params.toList ++ Rows.flatDeepSpec.plain.varTypes Try.prog) (ds ++ gs)).all (· ≤ reachBytes) = true := hsz0
  rw [Try.params3] at hA hval hsz
  obtain ⟨v0, vs0, d0, ds0, p0, q0, hargs, rfl, rfl, h0, r0⟩ := trodAll_cons hA
  obtain ⟨rfl, rfl, rfl⟩ := trodAll_nil r0
  obtain rfl : args = #[v0] := by cases args; simp_all
  obtain ⟨rfl, rfl⟩ := trodVars_none hV
  obtain ⟨a0, len0, cap0, rfl⟩ := okWide_slice Try.underlying22 (hval 0 22 v0 rfl rfl)
  have lt0 : ∀ x ∈ p0, x.block < W.heap.size := by obtain ⟨m, hm⟩ := h0; exact DataW.trod_lt m _ _ _ hm
  obtain ⟨l0, w0, f0, c0, m0, n0, x0, g0⟩ := open_toks h0
  have s0 := toks_sized hsz (j := 0) rfl rfl g0
  clear hA0 hsz0 hsz
  refine (walk a0 len0 cap0 l0 W w0 s0 ⟨c0, m0, n0, x0⟩).mono fun e W' ⟨he, bel⟩ => ?_
  subst he
  exact ⟨_, rfl, _, _, _, [], _, [], hW, trodAll_mk1 (shut_bool Try.underlying4 _), (trodAll_cons_mk (Below.trod laidOut (by kernel_rfl) (of_decide_eq_true (by kernel_rfl)) h0 bel lt0) trodAll_mk0), rfl, bel.frame _, fun h => by cases h⟩

set_option maxRecDepth 100000 in
theorem lifted (os : Os) (started : os.Started) (H : Type) (enc : TypeId × Value → H) :
    ReturnsInHanded {} Try.checked os 3 .any (Rows.flatDeepSpec.pre6 enc Try.prog Try.f3 Rows.flatDeepRow.domain false) (Rows.flatDeepSpec.post enc Try.prog Try.f3 false true false false) := by
  refine returnsInHanded_of_change_sized (C := Try.checked) own started (by kernel_rfl) Try.func3
    (ChangeSpec.witness6 (enc := enc) (C := Try.checked) false ⟨#[], #[.slice none 0 0], []⟩ 8 (by kernel_rfl) (by kernel_rfl) (by kernel_rfl) (by kernel_rfl)) ?_
  intro W base args ds gs before hval hW _ hsz _
  exact contract H enc W base args ds gs before hval hW hsz

theorem proved : Rows.FlatDeepSaid :=
  OpenClaim.holds_of_wide 3 Try.f3 rfl rfl rfl rfl rfl rfl rfl ⟨rfl, rfl, rfl, rfl, rfl⟩ rfl rfl rfl rfl rfl (by kernel_rfl) Try.func3 (by kernel_rfl)
    (of_decide_eq_true (by kernel_rfl)) (by unfold Func.isWrapper; first | (rw [if_pos (by decide +kernel)]; kernel_rfl) | (rw [if_neg (by decide +kernel)]; exact ⟨rfl, rfl⟩))
    (fun os started H enc _ => lifted os started H enc)
end Go.Proofs.Ytcakpdehphpibab.flatDeep
namespace Go.Proofs.Ytcakpdehphpibab
theorem FlatDeep_holds : Rows.FlatDeepSaid := flatDeep.proved
end Go.Proofs.Ytcakpdehphpibab
