/-
  PROVED HERE: the statement PosMirrors: through a map and, as its mirror, the map turned round, each place comes to itself, and is not gone; no condition.
-/
import Derived.Test.YtiadcpbaopafgaaAddP
import Derived.Test.YtiadcpbaopafgaaMMap
import Derived.Test.YtiadcpbaopafgaaBackM
import Derived.Test.YtiadcpbaopafgaaFitR
namespace Go.Proofs.Ytiadcpbaopafgaa.posMirrors
open Go.ChangeShapes Go.WideShapes Go.ChangeAt Go.RowKit

theorem mirrors_go (x0 x1 : Lk) (a o n p side : Int) (h0 : x0.l = [⟨a, o, n⟩]) (m0 : x0.m = 1) (h1 : x1.l = [⟨a, n, o⟩]) (m1 : x1.m = 0) (hb : (0 ≤ a ∧ a ≤ 10000) ∧ (0 ≤ o ∧ o ≤ 10000) ∧ (0 ≤ n ∧ n ≤ 10000)) (hp0 : 0 ≤ p) (hp1 : p ≤ 30000) : mmR [x0, x1] 0 p side = some (p, false) := by
  have hw : within p = true := (within_iff p).2 ⟨by omega, by omega⟩
  have e0 : mirAt [x0, x1] 0 = 1 := by simp [mirAt, m0]
  have e1 : mirAt [x0, x1] 1 = 0 := by simp [mirAt, m1]
  have f0 : lAt [x0, x1] 0 = [⟨a, o, n⟩] := by simp [lAt, h0]
  have f1 : lAt [x0, x1] 1 = [⟨a, n, o⟩] := by simp [lAt, h1]
  unfold mmR
  rw [if_neg (by rw [hw]; simp)]
  show goM [x0, x1] side 2 0 p false = _
  have r1 : ∀ s, recP [x0, x1] 1 s = none := fun s => by unfold recP; rw [e1, if_pos (.inl (by simp))]
  have step1 : ∀ q g, within (sendL [⟨a, n, o⟩] 0 0 q side).at' = true → goM [x0, x1] side 1 1 q g = some ((sendL [⟨a, n, o⟩] 0 0 q side).at', g || (sendL [⟨a, n, o⟩] 0 0 q side).gone) := fun q g h => by
    rw [goM, if_pos (by simp), f1, r1]
    simp only
    rw [if_pos h, goM]
  have r0n : ∀ s : Spt, s.inn = -1 → recP [x0, x1] 0 s = none := fun s hs => by unfold recP; rw [if_pos (.inr hs)]
  have r0s : ∀ s : Spt, s.inn = 0 → s.off ≤ o → recP [x0, x1] 0 s = some (a + s.off) := fun s hs ho => by
    unfold recP
    rw [e0, if_neg (by rw [hs]; simp)]
    simp only [Int.toNat_one, List.getElem?_cons_succ, List.getElem?_cons_zero, h1, hs]
    rw [if_neg (by simp)]
    simp [nth, shiftL]
    omega
  rw [goM, if_pos (by simp), f0]
  by_cases c1 : p < a
  · have hs : sendL [⟨a, o, n⟩] 0 0 p side = ⟨p, false, -1, 0⟩ := by rw [sendL, if_pos c1]; simp
    rw [hs, r0n _ rfl]
    simp only
    rw [if_pos hw]
    have hs2 : sendL [⟨a, n, o⟩] 0 0 p side = ⟨p, false, -1, 0⟩ := by rw [sendL, if_pos c1]; simp
    rw [step1 p _ (by rw [hs2]; exact hw), hs2]
    rfl
  · by_cases c2 : p ≤ a + o
    · have hs : sendL [⟨a, o, n⟩] 0 0 p side = spotR ⟨a, o, n⟩ 0 0 p side := by rw [sendL, if_neg c1, if_pos c2]; rfl
      rw [hs]
      by_cases c3 : outer ⟨a, o, n⟩ p side = true
      · have hinn : (spotR ⟨a, o, n⟩ 0 0 p side).inn = -1 := by unfold spotR; simp [c3]
        rw [r0n _ hinn]
        simp only
        unfold outer at c3
        simp only at c3
        by_cases hsd : side < 0
        · rw [if_pos hsd] at c3
          obtain rfl : p = a := by simpa using c3
          have hat : (spotR ⟨p, o, n⟩ 0 0 p side).at' = p ∧ (spotR ⟨p, o, n⟩ 0 0 p side).gone = false := by
            unfold spotR goal inner
            simp only [hsd, if_true]
            constructor
            · split
              · omega
              · split <;> omega
            · simp
          rw [hat.1, hat.2, if_pos hw]
          have hs2 : (sendL [⟨p, n, o⟩] 0 0 p side).at' = p ∧ (sendL [⟨p, n, o⟩] 0 0 p side).gone = false := by
            rw [sendL, if_neg (by simp), if_pos (by simp only; omega)]
            unfold spotR goal inner
            simp only [hsd, if_true]
            constructor
            · split
              · omega
              · split <;> omega
            · simp
          rw [step1 p _ (by rw [hs2.1]; exact hw), hs2.1, hs2.2]
          rfl
        · rw [if_neg hsd] at c3
          obtain rfl : p = a + o := by simpa using c3
          have hat : (spotR ⟨a, o, n⟩ 0 0 (a + o) side).at' = a + n ∧ (spotR ⟨a, o, n⟩ 0 0 (a + o) side).gone = false := by
            unfold spotR goal inner
            by_cases ho : o = 0
            · simp [ho, hsd]
            · simp [ho]
          have hw2 : within (a + n) = true := (within_iff _).2 ⟨by omega, by omega⟩
          rw [hat.1, hat.2, if_pos hw2]
          have hs2 : (sendL [⟨a, n, o⟩] 0 0 (a + n) side).at' = a + o ∧ (sendL [⟨a, n, o⟩] 0 0 (a + n) side).gone = false := by
            rw [sendL, if_neg (by simp only; omega), if_pos (by simp)]
            unfold spotR goal inner
            by_cases ho : n = 0
            · simp [ho, hsd]
            · simp [ho]
          rw [step1 _ _ (by rw [hs2.1]; exact hw), hs2.1, hs2.2]
          rfl
      · have c3' : outer ⟨a, o, n⟩ p side = false := by simpa using c3
        have hinn : (spotR ⟨a, o, n⟩ 0 0 p side).inn = 0 ∧ (spotR ⟨a, o, n⟩ 0 0 p side).off = p - a := by unfold spotR; simp [c3']
        rw [r0s _ hinn.1 (by rw [hinn.2]; omega), hinn.2]
        simp only
        rw [show a + (p - a) = p from by omega, if_pos hw, e0]
        show goM [x0, x1] side 1 2 p false = _
        rw [goM, if_neg (by simp)]
    · have hs : sendL [⟨a, o, n⟩] 0 0 p side = ⟨p + (0 + n - o), false, -1, 0⟩ := by rw [sendL, if_neg c1, if_neg c2, sendL]
      rw [hs, r0n _ rfl]
      simp only
      have hw2 : within (p + (0 + n - o)) = true := (within_iff _).2 ⟨by omega, by omega⟩
      rw [if_pos hw2]
      have hs2 : sendL [⟨a, n, o⟩] 0 0 (p + (0 + n - o)) side = ⟨p, false, -1, 0⟩ := by
        rw [sendL, if_neg (by simp only; omega), if_neg (by simp only; omega), sendL]
        congr 1
        simp only
        omega
      rw [step1 _ _ (by rw [hs2]; exact hw), hs2]
      rfl
theorem inv_one (a o n : Int) : invL [⟨a, o, n⟩] = [⟨a, n, o⟩] := by rw [invL_invD]; simp [invD]

set_option maxRecDepth 100000 in
set_option maxHeartbeats 4000000 in
theorem walk (r : Rng) (p side : Int) (w : World) :
    Calls Try.prog 8 #[rngV r, .int .i64 p, .int .i64 side] w fun e w' => e = .returned (.bool true) ∧ Below w.heap.size w w' := by
  obtain ⟨ra, ro, rn⟩ := r
  unfold rngV
  simp only
  obtain ⟨W2, hW2⟩ : ∃ W2, (w.alloc (.cells #[.int .i64 ra, .int .i64 ro, .int .i64 rn] 60)).alloc (.cells #[.int .i64 ra, .int .i64 ro, .int .i64 rn] 60) = W2 := ⟨_, rfl⟩
  have hB0 : Below w.heap.size w W2 := by rw [← hW2]; exact ((Below.refl _ _).alloc (Nat.le_refl _) _).alloc (by simp) _
  obtain ⟨m0, m1⟩ := laid2 w (.cells #[.int .i64 ra, .int .i64 ro, .int .i64 rn] 60) (.cells #[.int .i64 ra, .int .i64 ro, .int .i64 rn] 60)
  rw [hW2] at m0 m1
  have hR : Rngs W2 (some ⟨w.heap.size + 1, 0, none⟩) 1 [⟨ra, ro, rn⟩] := ⟨rfl, .inr ⟨_, 0, rfl, (Array.getElem?_eq_some_iff.1 m1).1, fun i x hx => by
    cases i with
    | zero =>
      obtain rfl : (⟨ra, ro, rn⟩ : Rng) = x := by simpa using hx
      have hc := fun j => cell_of_row W2 _ j _ _ _ m1
      exact ⟨hc 0, hc 1, hc 2⟩
    | succ i => simp at hx⟩⟩
  have ci := invert_calls (some ⟨w.heap.size + 1, 0, none⟩) 1 1 [⟨ra, ro, rn⟩] W2 hR (by omega)
  have HW2 : Hid ((w.alloc (.cells #[.int .i64 ra, .int .i64 ro, .int .i64 rn] 60)).alloc (.cells #[.int .i64 ra, .int .i64 ro, .int .i64 rn] 60) = W2) := hW2
  have HIO : Hid (invE [⟨ra, ro, rn⟩] = 0 → inv [⟨ra, ro, rn⟩] = [⟨ra, rn, ro⟩] ∧ right [⟨ra, ro, rn⟩] = true ∧ right [⟨ra, rn, ro⟩] = true) := fun h => by
    obtain ⟨h1, h2, h3⟩ := inv_ok h
    rw [inv_one] at h2 h3
    exact ⟨h3, h1, h2⟩
  generalize hEE : invE [⟨ra, ro, rn⟩] = E at *
  generalize hLL : inv [⟨ra, ro, rn⟩] = L at *
  clear hEE hLL
  have HM0 : Hid (∀ X, Below W2.heap.size W2 X → (X.cell? ⟨w.heap.size, 0, none⟩ = some (.int .i64 ra) ∧ X.cell? ⟨w.heap.size, 1, none⟩ = some (.int .i64 ro) ∧ X.cell? ⟨w.heap.size, 2, none⟩ = some (.int .i64 rn)) ∧ Rngs X (some ⟨w.heap.size + 1, 0, none⟩) 1 [⟨ra, ro, rn⟩]) := fun X hX => by
    have hc := fun j => cell_of_row X w.heap.size j _ _ _ ((hX.block _ (Array.getElem?_eq_some_iff.1 m0).1).trans m0)
    exact ⟨⟨hc 0, hc 1, hc 2⟩, hR.below hX⟩
  clear hW2 m0 m1 hR
  go_enter Try.func8, Try.ntmps8
  go_wp2_with fail
  rw [HW2.out]
  refine ci.mono ?_
  rintro e W3 ⟨v, rfl, hrow, hB3⟩
  obtain ⟨a1, c1, rfl, q1, q2, q3, q4, q5⟩ := rngs_of_owns hrow
  have cn := new_calls W3 W3.heap.size (Nat.le_refl _)
  go_wp2_with fail
  refine cn.mono ?_
  rintro e W4 ⟨rfl, hMP, hW4⟩
  have hB34 : Below W3.heap.size W3 W4 := by rw [hW4]; exact (Below.refl _ _).alloc (Nat.le_refl _) _
  have hD3 : Below w.heap.size w W3 := hB0.trans (hB3.mono hB0.size)
  have hD4 : Below w.heap.size w W4 := hD3.trans (hB34.mono hD3.size)
  have hB24 : Below W2.heap.size W2 W4 := hB3.trans (hB34.mono hB3.size)
  obtain ⟨⟨k0, k1, k2⟩, kr⟩ := HM0.out W4 hB24
  have HMP : Hid (MapP W4 W3.heap.size W3.heap.size []) := hMP
  have HRM : Hid (∀ X, Below W4.heap.size W4 X → Rngs X (some ⟨w.heap.size + 1, 0, none⟩) 1 [⟨ra, ro, rn⟩] ∧ True) := fun X hX => ⟨kr.below hX, trivial⟩
  have HB34 : Hid (Below W3.heap.size W3 W4) := hB34
  have HBW : Hid (Below w.heap.size w W3) := hD3
  have HLE : Hid (W3.heap.size ≤ W4.heap.size) := hB34.size
  have HQ1 : Hid (Rngs W3 a1 L.length L) := q1
  clear hMP hW4 cn ci hrow kr q1
  by_cases z1 : E = 0
  · obtain ⟨hL, hr1, hr2⟩ := HIO.out z1
    subst hL
    have HRT : Hid (right [⟨ra, ro, rn⟩] = true ∧ right [⟨ra, rn, ro⟩] = true) := ⟨hr1, hr2⟩
    have HBK : Hid (∀ X, Below W3.heap.size W3 X → Rngs X a1 1 [⟨ra, rn, ro⟩]) := fun X hX => HQ1.out.below hX
    have HNIL : Hid (a1 = none → c1 = 0) := q4
    have HCAP : Hid (1 ≤ c1) := q2
    have hbb := rightL_all (right_len hr1).2 _ (List.mem_cons_self ..)
    simp only at hbb
    subst z1
    clear HIO hr1 hr2 q2 q3 q4 q5 HQ1
    by_cases g1 : 10000 < ra
    · go_wp2_with fail
      refine (awake_calls _).mono ?_
      rintro e W9 ⟨rfl, hB9⟩
      go_wp2
      go_ret
      exact ⟨rfl, hD4.trans (hB9.mono hD4.size)⟩
    · by_cases g2 : 10000 < ro
      · go_wp2_with fail
        refine (awake_calls _).mono ?_
        rintro e W9 ⟨rfl, hB9⟩
        go_wp2
        go_ret
        exact ⟨rfl, hD4.trans (hB9.mono hD4.size)⟩
      · by_cases g3 : 10000 < rn
        · go_wp2_with fail
          refine (awake_calls _).mono ?_
          rintro e W9 ⟨rfl, hB9⟩
          go_wp2
          go_ret
          exact ⟨rfl, hD4.trans (hB9.mono hD4.size)⟩
        · by_cases g4 : p < 0
          · go_wp2_with fail
            refine (awake_calls _).mono ?_
            rintro e W9 ⟨rfl, hB9⟩
            go_wp2
            go_ret
            exact ⟨rfl, hD4.trans (hB9.mono hD4.size)⟩
          · by_cases g5 : 30000 < p
            · go_wp2_with fail
              refine (awake_calls _).mono ?_
              rintro e W9 ⟨rfl, hB9⟩
              go_wp2
              go_ret
              exact ⟨rfl, hD4.trans (hB9.mono hD4.size)⟩
            · have HBO : Hid ((0 ≤ ra ∧ ra ≤ 10000) ∧ (0 ≤ ro ∧ ro ≤ 10000) ∧ (0 ≤ rn ∧ rn ≤ 10000)) := ⟨⟨by omega, by omega⟩, ⟨by omega, by omega⟩, by omega, by omega⟩
              have ca := add_calls W3.heap.size W3.heap.size [] (some ⟨w.heap.size + 1, 0, none⟩) 1 1 [⟨ra, ro, rn⟩] W4 HMP.out (HRM.out W4 (Below.refl _ _)).1 (fun h => by cases h) (by omega) (by omega) (by simp) HLE.out
              go_wp2_with fail
              refine ca.mono ?_
              rintro e X1 (⟨hr, _, _⟩ | ⟨_, rfl, b1, d1, hM1, hK1⟩)
              · exact absurd hr (by rw [HRT.out.1]; simp)
              have hE1 : Below W3.heap.size W3 X1 := HB34.out.trans hK1.1
              have HM1 : Hid (MapP X1 W3.heap.size W3.heap.size [⟨b1, 1, d1, [⟨ra, ro, rn⟩], -1⟩]) := hM1
              have hLE1 : W3.heap.size ≤ X1.heap.size := hE1.size
              clear hM1 ca
              have cb := add_calls W3.heap.size W3.heap.size [⟨b1, 1, d1, [⟨ra, ro, rn⟩], -1⟩] a1 1 c1 [⟨ra, rn, ro⟩] X1 HM1.out (HBK.out X1 hE1) HNIL.out HCAP.out (by omega) (by simp) hLE1
              go_wp2_with fail
              refine cb.mono ?_
              rintro e X2 (⟨hr, _, _⟩ | ⟨_, rfl, b2, d2, hM2, hK2⟩)
              · exact absurd hr (by rw [HRT.out.2]; simp)
              have hE2 : Below W3.heap.size W3 X2 := hE1.trans hK2.1
              have HM2 : Hid (MapP X2 W3.heap.size W3.heap.size [⟨b1, 1, d1, [⟨ra, ro, rn⟩], -1⟩, ⟨b2, 1, d2, [⟨ra, rn, ro⟩], -1⟩]) := hM2
              clear hM2 cb
              have cmi := mirror_calls W3.heap.size W3.heap.size [⟨b1, 1, d1, [⟨ra, ro, rn⟩], -1⟩, ⟨b2, 1, d2, [⟨ra, rn, ro⟩], -1⟩] 0 1 X2 HM2.out (by simp)
              go_wp2_with fail
              refine cmi.mono ?_
              rintro e X3 (⟨hno, _, _⟩ | ⟨_, rfl, hM3, hK3⟩)
              · exact absurd (show mirOk _ 0 1 from ⟨by omega, by omega, by simp, rfl, rfl⟩) hno
              have hE3 : Below W3.heap.size W3 X3 := hE2.trans hK3.1
              have HM3 : Hid (MapP X3 W3.heap.size W3.heap.size [⟨b1, 1, d1, [⟨ra, ro, rn⟩], 1⟩, ⟨b2, 1, d2, [⟨ra, rn, ro⟩], 0⟩]) := hM3
              clear hM3 cmi
              have cmm := mmap_calls W3.heap.size W3.heap.size [⟨b1, 1, d1, [⟨ra, ro, rn⟩], 1⟩, ⟨b2, 1, d2, [⟨ra, rn, ro⟩], 0⟩] 0 p side X3 HM3.out (by simp) (fun i hi => by
                match i, hi with
                | 0, _ => simp [mirAt]
                | 1, _ => simp [mirAt]) hE3.size
              rw [mirrors_go ⟨b1, 1, d1, [⟨ra, ro, rn⟩], 1⟩ ⟨b2, 1, d2, [⟨ra, rn, ro⟩], 0⟩ ra ro rn p side rfl rfl rfl rfl HBO.out (by omega) (by omega)] at cmm
              unfold mmV at cmm
              simp only at cmm
              have hC3 := HBW.out.trans (hE3.mono HBW.out.size)
              have ep : (p == p) = true := by simp
              go_wp2_with fail
              refine cmm.mono ?_
              rintro e Y ⟨rfl, hY⟩
              have hCY := hC3.trans (hY.mono hC3.size)
              have hAY : ∀ ob, Below w.heap.size w (Y.alloc ob) := fun ob => hCY.alloc hCY.size _
              go_wp2_with fail
              refine (awake_calls _).mono ?_
              rintro e W9 ⟨rfl, hB9⟩
              go_wp2
              go_ret
              exact ⟨rfl, (hAY _).trans (hB9.mono (hAY _).size)⟩
  · have zb : (E == 0) = false := by simpa using z1
    have zc : (E != 0) = true := by simpa using z1
    clear HIO
    go_wp2_with fail
    refine (awake_calls _).mono ?_
    rintro e W9 ⟨rfl, hB9⟩
    go_wp2
    go_ret
    exact ⟨rfl, hD4.trans (hB9.mono hD4.size)⟩

theorem own : ownKnob Try.prog.godebug = none := by kernel_rfl
theorem laidOut : laidOutB Try.prog = true := by kernel_rfl

theorem contract (H : Type) (enc : TypeId × Value → H) (W : World) (base : Nat) (args : Array Value) (ds gs : List (DataW H)) (before : List MemPlace)
    (hval : ∀ (j : Nat) t v, Try.f8.params[j]? = some t → args[j]? = some v → Value.okWide Try.prog W .any base t v)
    (hW : DataW.Whole enc Try.prog Try.f8.params.toList Rows.posMirrorsSpec.vars false W args.toList ds gs before) (hsz0 : (DataW.weightsEach Try.prog (Try.f8.params.toList ++ Rows.posMirrorsSpec.plain.varTypes Try.prog) (ds ++ gs)).all (· ≤ reachBytes) = true) :
    Calls Try.prog 8 args W fun e W' => ∃ v, e = .returned v ∧ Rows.posMirrorsSpec.post enc Try.prog Try.f8 false true false false W args v W' := by
  have hW' := hW
  obtain ⟨p, q, hA0, hV, rfl, hfz, hnd⟩ := hW'
  have hA : DataW.TrodAll enc Try.prog W 0 (fun _ => true) true Try.f8.params.toList args.toList ds p := hA0
  rw [Try.params8] at hA hval
  obtain ⟨v0, vs0, d0, ds0, p0, q0, hargs, rfl, rfl, h0, r0⟩ := trodAll_cons hA
  obtain ⟨v1, vs1, d1, ds1, p1, q1, rfl, rfl, rfl, h1, r1⟩ := trodAll_cons r0
  obtain ⟨v2, vs2, d2, ds2, p2, q2, rfl, rfl, rfl, h2, r2⟩ := trodAll_cons r1
  obtain ⟨rfl, rfl, rfl⟩ := trodAll_nil r2
  obtain rfl : args = #[v0, v1, v2] := by cases args; simp_all
  obtain ⟨rfl, rfl⟩ := trodVars_none hV
  have lt0 : ∀ x ∈ p0, x.block < W.heap.size := by obtain ⟨m, hm⟩ := h0; exact DataW.trod_lt m _ _ _ hm
  obtain ⟨x0, rfl, f0⟩ := open_rng (hval 0 60 v0 rfl rfl) h0
  obtain ⟨a1, rfl, rfl, rfl, w1⟩ := open_int Try.underlying3 (hval 1 3 v1 rfl rfl) h1
  obtain ⟨a2, rfl, rfl, rfl, w2⟩ := open_int Try.underlying3 (hval 2 3 v2 rfl rfl) h2
  clear hA0 hsz0
  refine (walk x0 a1 a2 W).mono fun e W' ⟨he, bel⟩ => ?_
  subst he
  exact ⟨_, rfl, _, _, _, [], _, [], hW, trodAll_mk1 (shut_bool Try.underlying4 _), (trodAll_cons_mk (Below.trod laidOut (by kernel_rfl) (of_decide_eq_true (by kernel_rfl)) h0 bel lt0) (trodAll_cons_mk (shut_int Try.underlying3 w1) (trodAll_cons_mk (shut_int Try.underlying3 w2) trodAll_mk0))), rfl, bel.frame _, fun h => by cases h⟩

set_option maxRecDepth 100000 in
theorem lifted (os : Os) (started : os.Started) (H : Type) (enc : TypeId × Value → H) :
    ReturnsInHanded {} Try.checked os 8 .any (Rows.posMirrorsSpec.pre6 enc Try.prog Try.f8 Rows.posMirrorsRow.domain false) (Rows.posMirrorsSpec.post enc Try.prog Try.f8 false true false false) := by
  refine returnsInHanded_of_change_sized (C := Try.checked) own started (by kernel_rfl) Try.func8
    (ChangeSpec.witness6 (enc := enc) (C := Try.checked) false ⟨#[], #[.agg #[.int .i64 0, .int .i64 0, .int .i64 0], .int .i64 0, .int .i64 0], []⟩ 8 (by kernel_rfl) (by kernel_rfl) (by kernel_rfl) (by kernel_rfl)) ?_
  intro W base args ds gs before hval hW _ hsz _
  exact contract H enc W base args ds gs before hval hW hsz

theorem proved : Rows.PosMirrorsSaid :=
  OpenClaim.holds_of_wide 8 Try.f8 rfl rfl rfl rfl rfl rfl rfl ⟨rfl, rfl, rfl, rfl, rfl⟩ rfl rfl rfl rfl rfl (by kernel_rfl) Try.func8 (by kernel_rfl)
    (of_decide_eq_true (by kernel_rfl)) (by unfold Func.isWrapper; first | (rw [if_pos (by decide +kernel)]; kernel_rfl) | (rw [if_neg (by decide +kernel)]; exact ⟨rfl, rfl⟩))
    (fun os started H enc _ => lifted os started H enc)
end Go.Proofs.Ytiadcpbaopafgaa.posMirrors
namespace Go.Proofs.Ytiadcpbaopafgaa
theorem PosMirrors_holds : Rows.PosMirrorsSaid := posMirrors.proved
end Go.Proofs.Ytiadcpbaopafgaa
