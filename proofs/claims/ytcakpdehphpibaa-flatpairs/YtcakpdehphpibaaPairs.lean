/-
  PROVED HERE: the statement FlatPairs: in a document each TOpen has a TClose behind it, of which it is the partner, and between them a document; nothing else has a partner; no condition.
-/
import Derived.Test.YtcakpdehphpibaaFPartner
import Derived.Test.YtcakpdehphpibaaFit
namespace Go.Proofs.Ytcakpdehphpibaa.flatPairs
open Go.ChangeShapes Go.WideShapes Go.ChangeAt Go.RowKit

/-- The part between a TOpen and its end is told no error. -/
theorem between (l : List Tok) (i p : Nat) (hl : (check l).2 = 0) (h : goes ((l.drop (i + 1)).take (p - (i + 1))) 0 = some 0) : (check ((l.drop (i + 1)).take (p - (i + 1)))).2 = 0 := by
  rw [check_ok] at *
  refine ⟨?_, h⟩
  have := hl.1
  rw [List.length_take, List.length_drop]
  omega

set_option maxRecDepth 100000 in
set_option maxHeartbeats 4000000 in
theorem walk (a : Option Addr) (len cap : Nat) (l : List Tok) (w : World) (hl : Toks w a len l) (hsz : len ≤ 4398046511104) (hlie : Lies a len cap) :
    Calls Try.prog 7 #[.slice a len cap] w fun e w' => e = .returned (.bool true) ∧ Below w.heap.size w w' := by
  have H1 := fcheck_calls a len cap l w hl hsz
  have hL := hl.1
  obtain ⟨x1, hx1⟩ : ∃ x, (check l).1 = x := ⟨_, rfl⟩
  rw [hx1] at H1
  by_cases hok : (check l).2 = 0
  · rw [hok] at H1
    have HOK : Hid ((check l).2 = 0) := hok
    have HG : Hid (goes l 0 = some 0) := ((check_ok l).1 hok).2
    have hlen : len ≤ 2048 := by have := ((check_ok l).1 hok).1; omega
    clear hok hx1
    go_enter Try.func7, Try.ntmps7
    go_wp2_with fail
    refine H1.mono ?_
    rintro e W1 ⟨rfl, b1⟩
    clear H1
    go_wp2
    go_loopw [5] (fun u w' => ∃ k : Nat, k ≤ len ∧ u = .int .i64 (k : Int) ∧ Below w.heap.size w w') (fun u _ => len - (intOf u).toNat)
    case atStart => exact ⟨0, by omega, rfl, b1⟩
    case round =>
      obtain ⟨k, hk, rfl, hB⟩ := hrel
      clear b1
      by_cases hlt : k < len
      · have HP := fun (q : Int) W (hW : Below w.heap.size w W) => fpartner_calls a len cap l q W (hl.below hW) hsz hlie
        have HA := fun (q : Int) W (hW : Below w.heap.size w W) => faround_calls a len cap l q W (hl.below hW) hsz hlie
        obtain ⟨b, o, ea, hbl, hc⟩ := hl.kindAt hlt
        subst ea
        have HCk : Hid (∀ (n : Nat) W, k + 1 + n ≤ len → Below w.heap.size w W → Calls Try.prog 9 #[.slice (if cap = k + 1 then some ⟨b, o, none⟩ else some ⟨b, o + (k + 1) * 4, none⟩) n (cap - (k + 1))] W fun e w' => e = .returned (.tuple #[.int .i64 (check ((l.drop (k + 1)).take n)).1, .int .i64 (check ((l.drop (k + 1)).take n)).2]) ∧ Below W.heap.size W w') := fun n W h1 hW => fcheck_calls _ n _ _ W ((hl.below hW).part (k + 1) n cap h1 hlie.1) (by omega)
        have hcap := hlie.1
        have hcap2 := hlie.2.1
        clear hl hlie
        by_cases k1 : kindAt l k = 1
        · obtain ⟨p, p1, p2, p3, p4, p5, p6⟩ := pair_open l HG.out k (by omega) k1
          have hbt := between l k p HOK.out p6
          have H2 := HP k
          have H3 := HP p
          have H4 := HA p
          have H5 : Hid (∀ W, Below w.heap.size w W → Calls Try.prog 9 #[.slice (if cap = k + 1 then some ⟨b, o, none⟩ else some ⟨b, o + (k + 1) * 4, none⟩) (p - (k + 1)) (cap - (k + 1))] W fun e w' => (∃ z, e = .returned (.tuple #[.int .i64 z, .int .i64 0])) ∧ Below W.heap.size W w') := by
            intro W hW
            refine (HCk.out (p - (k + 1)) W (by omega) hW).mono ?_
            rintro e w' ⟨e1, e2⟩
            rw [hbt] at e1
            exact ⟨⟨_, e1⟩, e2⟩
          rw [p3] at H2
          rw [p4] at H3
          rw [p5] at H4
          rw [k1] at hc
          clear p3 p4 p5 p6 hbt HP HA HCk k1
          have e3 : decide ((p : Int) < 0) = false := by simp
          have e4 : decide ((len : Int) ≤ (p : Int)) = false := by simp; omega
          have ekp : decide ((k : Int) < (p : Int)) = true := by simp; omega
          have p1' : (k : Int) < (p : Int) := by omega
          have d0 := hc wr hB
          go_wp2_with fail
          refine (H2 _ hB).mono ?_
          rintro e W2 ⟨rfl, b2⟩
          have g2 := hB.trans (b2.mono hB.size)
          have d2 := hc W2 g2
          clear H2 b2
          go_wp2_with fail
          refine (H3 _ g2).mono ?_
          rintro e W3 ⟨rfl, b3⟩
          have g3 := g2.trans (b3.mono g2.size)
          have d3 := hc W3 g3
          clear H3 b3
          by_cases hcn : cap = k + 1
          · omega
          · have H5' := H5.out
            rw [if_neg hcn] at H5'
            go_wp2_with fail
            refine (H5' _ g3).mono ?_
            rintro e W4 ⟨⟨z, rfl⟩, b4⟩
            have g4 := g3.trans (b4.mono g3.size)
            clear H5 H5' b4
            go_wp2_with fail
            refine (H4 _ g4).mono ?_
            rintro e W5 ⟨rfl, b5⟩
            have g5 := g4.trans (b5.mono g4.size)
            clear H4 b5
            go_wp2
            go_roundw
            case rel => exact ⟨k + 1, by omega, rfl, g5⟩
            case measure => simp [intOf]; omega
        · by_cases k2 : kindAt l k = 2
          · obtain ⟨n, n1, n2, n3, n4⟩ := pair_close l HG.out k (by omega) k2
            have H2 := HP k
            have H3 := HP n
            rw [n2] at H2
            rw [n4] at H3
            rw [k2] at hc
            clear n2 n3 n4 HP HA HCk k1 k2
            have e3 : decide ((n : Int) < 0) = false := by simp
            have e4 : decide ((len : Int) ≤ (n : Int)) = false := by simp; omega
            have ekn : decide ((k : Int) < (n : Int)) = false := by simp; omega
            have ekn2 : ¬ ((k : Int) < (n : Int)) := by omega
            have d0 := hc wr hB
            go_wp2_with fail
            refine (H2 _ hB).mono ?_
            rintro e W2 ⟨rfl, b2⟩
            have g2 := hB.trans (b2.mono hB.size)
            have d2 := hc W2 g2
            clear H2 b2
            go_wp2_with fail
            refine (H3 _ g2).mono ?_
            rintro e W3 ⟨rfl, b3⟩
            have g3 := g2.trans (b3.mono g2.size)
            have d3 := hc W3 g3
            clear H3 b3
            go_wp2
            go_roundw
            case rel => exact ⟨k + 1, by omega, rfl, g3⟩
            case measure => simp [intOf]; omega
          · have H2 := HP k
            rw [partner_else l k k1 k2] at H2
            clear HP HA HCk
            generalize kindAt l k = z at *
            have e1 : (z == 1) = false := by simpa using k1
            have e2 : (z == 2) = false := by simpa using k2
            have e1' : (z != 1) = true := by simpa using k1
            have e2' : (z != 2) = true := by simpa using k2
            have d0 := hc wr hB
            go_wp2_with fail
            refine (H2 _ hB).mono ?_
            rintro e W2 ⟨rfl, b2⟩
            have g2 := hB.trans (b2.mono hB.size)
            have d2 := hc W2 g2
            clear H2 b2
            go_wp2
            go_roundw
            case rel => exact ⟨k + 1, by omega, rfl, g2⟩
            case measure => simp [intOf]; omega
      · obtain rfl : k = len := by omega
        clear hl
        go_wp2_with fail
        refine (awake_calls _).mono ?_
        rintro e W9 ⟨rfl, hB9⟩
        go_wp2
        go_ret
        exact ⟨rfl, hB.trans (hB9.mono hB.size)⟩
  · generalize (check l).2 = x2 at *
    have e2 : (x2 == 0) = false := by simpa using hok
    clear hl
    go_enter Try.func7, Try.ntmps7
    go_wp2_with fail
    refine H1.mono ?_
    rintro e W1 ⟨rfl, b1⟩
    go_wp2_with fail
    refine (awake_calls _).mono ?_
    rintro e W9 ⟨rfl, hB9⟩
    go_wp2
    go_ret
    exact ⟨rfl, b1.trans (hB9.mono b1.size)⟩

theorem own : ownKnob Try.prog.godebug = none := by kernel_rfl
theorem laidOut : laidOutB Try.prog = true := by kernel_rfl

theorem contract (H : Type) (enc : TypeId × Value → H) (W : World) (base : Nat) (args : Array Value) (ds gs : List (DataW H)) (before : List MemPlace)
    (hval : ∀ (j : Nat) t v, Try.f7.params[j]? = some t → args[j]? = some v → Value.okWide Try.prog W .any base t v)
    (hW : DataW.Whole enc Try.prog Try.f7.params.toList Rows.flatPairsSpec.vars false W args.toList ds gs before) (hsz0 : (DataW.weightsEach Try.prog (Try.f7.params.toList ++ Rows.flatPairsSpec.plain.varTypes Try.prog) (ds ++ gs)).all (· ≤ reachBytes) = true) :
    Calls Try.prog 7 args W fun e W' => ∃ v, e = .returned v ∧ Rows.flatPairsSpec.post enc Try.prog Try.f7 false true false false W args v W' := by
  have hW' := hW
  obtain ⟨p, q, hA0, hV, rfl, hfz, hnd⟩ := hW'
  have hA : DataW.TrodAll enc Try.prog W 0 (fun _ => true) true Try.f7.params.toList args.toList ds p := hA0
  have hsz : (DataW.weightsEach Try.prog (Try.f7.params.toList ++ Rows.flatPairsSpec.plain.varTypes Try.prog) (ds ++ gs)).all (· ≤ reachBytes) = true := hsz0
  rw [Try.params7] at hA hval hsz
  obtain ⟨v0, vs0, d0, ds0, p0, q0, hargs, rfl, rfl, h0, r0⟩ := trodAll_cons hA
  obtain ⟨rfl, rfl, rfl⟩ := trodAll_nil r0
  obtain rfl : args = #[v0] := by cases args; simp_all
  obtain ⟨rfl, rfl⟩ := trodVars_none hV
  obtain ⟨a0, len0, cap0, rfl⟩ := okWide_slice Try.underlying22 (hval 0 22 v0 rfl rfl)
  have lt0 : ∀ x ∈ p0, x.block < W.heap.size := by obtain ⟨m, hm⟩ := h0; exact DataW.trod_lt m _ _ _ hm
  obtain ⟨l0, w0, f0, c0, m0, n0, x0, g0⟩ := open_toks h0
  have s0 := toks_sized hsz (j := 0) rfl rfl g0
  clear hA0 hsz0 hsz
  refine (walk a0 len0 cap0 l0 W w0 s0 ⟨c0, m0, n0, x0⟩).mono fun e W' ⟨he, bel⟩ => ?_
  subst he
  exact ⟨_, rfl, _, _, _, [], _, [], hW, trodAll_mk1 (shut_bool Try.underlying4 _), (trodAll_cons_mk (Below.trod laidOut (by kernel_rfl) (of_decide_eq_true (by kernel_rfl)) h0 bel lt0) trodAll_mk0), rfl, bel.frame _, fun h => by cases h⟩

set_option maxRecDepth 100000 in
theorem lifted (os : Os) (started : os.Started) (H : Type) (enc : TypeId × Value → H) :
    ReturnsInHanded {} Try.checked os 7 .any (Rows.flatPairsSpec.pre6 enc Try.prog Try.f7 Rows.flatPairsRow.domain false) (Rows.flatPairsSpec.post enc Try.prog Try.f7 false true false false) := by
  refine returnsInHanded_of_change_sized (C := Try.checked) own started (by kernel_rfl) Try.func7
    (ChangeSpec.witness6 (enc := enc) (C := Try.checked) false ⟨#[], #[.slice none 0 0], []⟩ 8 (by kernel_rfl) (by kernel_rfl) (by kernel_rfl) (by kernel_rfl)) ?_
  intro W base args ds gs before hval hW _ hsz _
  exact contract H enc W base args ds gs before hval hW hsz

theorem proved : Rows.FlatPairsSaid :=
  OpenClaim.holds_of_wide 7 Try.f7 rfl rfl rfl rfl rfl rfl rfl ⟨rfl, rfl, rfl, rfl, rfl⟩ rfl rfl rfl rfl rfl (by kernel_rfl) Try.func7 (by kernel_rfl)
    (of_decide_eq_true (by kernel_rfl)) (by unfold Func.isWrapper; first | (rw [if_pos (by decide +kernel)]; kernel_rfl) | (rw [if_neg (by decide +kernel)]; exact ⟨rfl, rfl⟩))
    (fun os started H enc _ => lifted os started H enc)
end Go.Proofs.Ytcakpdehphpibaa.flatPairs
namespace Go.Proofs.Ytcakpdehphpibaa
theorem FlatPairs_holds : Rows.FlatPairsSaid := flatPairs.proved
end Go.Proofs.Ytcakpdehphpibaa
