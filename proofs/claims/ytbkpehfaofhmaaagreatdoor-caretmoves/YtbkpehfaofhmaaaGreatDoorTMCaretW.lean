/-
  PROVED HERE: the walk of CaretMoves.
-/
import Derived.Test.YtbkpehfaofhmaaaGreatDoorTMCaretG
namespace Go.Proofs.YtbkpehfaofhmaaaGreatDoor
open Go.RowKit

theorem moveR_ok {F : Int → Bool} {n : Nat} {p : Int} (h : isPl n p = true) (b : Int) : moveR F 0 n p b = (moveW F n p (wayD b) b, 0) := by
  unfold moveR moveD
  rw [if_pos (chkE_zero.2 ⟨rfl, h⟩)]
theorem rem_ten {c : Int} (h : -128 ≤ c ∧ c ≤ 127) : -9 ≤ wrap64 (c.tmod 10) ∧ wrap64 (c.tmod 10) ≤ 9 := by
  have key : ∀ k : Fin 256, -9 ≤ wrap64 (((k.val : Int) - 128).tmod 10) ∧ wrap64 (((k.val : Int) - 128).tmod 10) ≤ 9 := by decide +kernel
  have := key ⟨(c + 128).toNat, by omega⟩
  simp only at this
  rwa [show (((c + 128).toNat : Nat) : Int) - 128 = c by omega] at this
set_option maxRecDepth 100000 in
set_option maxHeartbeats 1000000 in
theorem moves_walk (a : Option Addr) (len cap : Nat) (l : List Tok) (p c : Int) (w : World) (hl : Toks w a len l) (hlie : Lies a len cap) (hlen : len ≤ 9223372036854775807) (hc : -128 ≤ c ∧ c ≤ 127) (hE : ETy w) :
    Calls Tryz.prog 6 #[.slice a len cap, .int .i64 p, .int .i8 c] w fun e w' => e = .returned (.bool true) ∧ Below w.heap.size w w' := by
  have HH := hidC (house_calls w hE)
  have HA : Hid (∀ X, Below w.heap.size w X → _) := fun X (hX : Below w.heap.size w X) => awakec_calls X (hE.below hX)
  have hli : (len : Int) ≤ 9223372036854775807 := by omega
  clear hE
  by_cases h80 : 80 < len
  · have hd : decide ((80 : Int) < (len : Int)) = true := by simp; omega
    clear hl hlie
    go_enter Tryz.func6, Tryz.ntmps6
    go_wp2_with fail
    refine HH.out.mono ?_
    rintro e X1 ⟨B, rfl, _, hB1⟩
    have HB1 := hidC hB1
    clear hB1 HH
    go_wp2_with fail
    refine (HA.out X1 HB1.out).mono ?_
    rintro e X2 ⟨rfl, hB2⟩
    have HB2 := hidC (HB1.out.trans (hB2.mono HB1.out.size))
    clear hB2
    go_wp2
    go_ret
    exact ⟨rfl, HB2.out⟩
  · have hd : decide ((80 : Int) < (len : Int)) = false := by simp; omega
    have HS : Hid (∀ (X : World) (B : Nat), Below w.heap.size w X → MadeS X B houseW houseL houseG → ∃ A E F, CheckH X B a len cap A E ∧ MayH X B a len cap F ∧ Toks X a len l ∧ (E = 0 → ∀ (i : Nat) (x : Tok), l[i]? = some x → x.k = 0 → F ((i : Int) + 1) = F (i : Int))) := fun X B hX hm => by
      obtain ⟨g, c, ng, nc, ks, h1, h8, hs⟩ := house_kinds hm
      obtain ⟨c1, c2⟩ := mayH_of h1 (by omega) (hl.below hX) hlie (by omega)
      exact ⟨_, _, _, c1, c2, hl.below hX, fun h0 i x hx hk => stand_same h0 hx hk⟩
    clear hl hlie
    go_enter Tryz.func6, Tryz.ntmps6
    go_wp2_with fail
    refine HH.out.mono ?_
    rintro e X1 ⟨B, rfl, hm1, hB1⟩
    obtain ⟨A, E, F, c1, c2, c3, c4⟩ := HS.out X1 B hB1 hm1
    have HM : Hid (∀ (q b : Int) (X : World), Below X1.heap.size X1 X → -9223372036854775808 ≤ b → b ≤ 9223372036854775807 → _) := fun q b X (hX : Below X1.heap.size X1 X) (h1 : -9223372036854775808 ≤ b) (h2 : b ≤ 9223372036854775807) => move_calls (fun Y hY => c1 Y (hX.trans (hY.mono hX.size))) (fun Y hY => c2 Y (hX.trans (hY.mono hX.size))) (c3.below hX) c4 hli (fun _ => by omega) q b h1 h2
    have HT : Hid (∀ (q : Int) (X : World), Below X1.heap.size X1 X → _) := fun q X (hX : Below X1.heap.size X1 X) => text_calls c1 c2 hli q X hX
    have HB1 := hidC hB1
    clear hB1 HH HS hm1 c1 c2 c3 c4
    obtain ⟨n, hn⟩ : ∃ n, wrap64 (c.tmod 10) = n := ⟨_, rfl⟩
    have hn9 : -9 ≤ n ∧ n ≤ 9 := by rw [← hn]; exact rem_ten hc
    by_cases h0 : chkE E len p = 0
    · obtain ⟨rfl, hpl⟩ := chkE_zero.1 h0
      clear h0
      by_cases hneg : 0 ≤ n
      · obtain ⟨m, hm⟩ : ∃ m : Nat, n = 1 * (m : Int) := ⟨n.natAbs, by omega⟩
        have hm9 : m ≤ 9 := by omega
        have hw : wayD n = 1 := by unfold wayD; rw [if_neg (by omega)]
        have emx : max n (-n) = (m : Int) := by omega
        have hmi := move_iter (F := F) (n := len) (y := 1) (by omega) m hpl
        have HM0 := hidC (HM.out p n X1 (Below.refl _ _) (by omega) (by omega))
        rw [moveR_ok hpl, hw] at HM0
        rw [show moveW F len p (1) n = iterM F len (1) m p from by rw [hm]; exact hmi] at HM0
        have HIT : Hid (∀ (i : Nat) (X : World), Below X1.heap.size X1 X → Calls Tryz.prog 15 #[.pointer (some ⟨B, 0, none⟩), .slice a len cap, .int .i64 (iterM F len (1) i p), .int .i64 (1)] X fun e X' => e = .returned (.tuple #[.int .i64 (iterM F len (1) (i + 1) p), .int .i64 0]) ∧ Below X.heap.size X X') := fun i X hX => by
          have := HM.out (iterM F len (1) i p) (1) X hX (by omega) (by omega)
          rw [moveR_ok (iterM_pl (by omega) hpl i), show wayD (1) = 1 from rfl] at this
          exact this
        have hPm := iterM_pl (F := F) (n := len) (y := 1) (by omega) hpl m
        obtain ⟨P, hP⟩ : ∃ P, iterM F len (1) m p = P := ⟨_, rfl⟩
        rw [hP] at HM0 hPm
        simp only at HM0
        have hto := moveW_pl (F := F) (y := 1) (.inl rfl) hPm
        have HM1 : Hid (∀ X : World, Below X1.heap.size X1 X → Calls Tryz.prog 15 #[.pointer (some ⟨B, 0, none⟩), .slice a len cap, .int .i64 P, .int .i64 1] X fun e X' => e = .returned (.tuple #[.int .i64 (moveW F len P 1 1), .int .i64 0]) ∧ Below X.heap.size X X') := fun X hX => by
          have := HM.out P 1 X hX (by omega) (by omega)
          rw [moveR_ok hPm, show wayD 1 = 1 from rfl] at this
          exact this
        have HM2 : Hid (∀ X : World, Below X1.heap.size X1 X → Calls Tryz.prog 15 #[.pointer (some ⟨B, 0, none⟩), .slice a len cap, .int .i64 (moveW F len P 1 1), .int .i64 (-1)] X fun e X' => e = .returned (.tuple #[.int .i64 (moveW F len (moveW F len P 1 1) (-1) (-1)), .int .i64 0]) ∧ Below X.heap.size X X') := fun X hX => by
          have := HM.out (moveW F len P 1 1) (-1) X hX (by omega) (by omega)
          rw [moveR_ok hto, show wayD (-1) = -1 from rfl] at this
          exact this
        have HT1 : Hid (∀ X : World, Below X1.heap.size X1 X → Calls Tryz.prog 11 #[.pointer (some ⟨B, 0, none⟩), .slice a len cap, .int .i64 P] X fun e X' => e = .returned (.tuple #[.bool (F P), .int .i64 0]) ∧ Below X.heap.size X X') := fun X hX => by
          have := HT.out P X hX
          obtain ⟨t, c⟩ := textD_at (F := F) hPm
          rw [t, c] at this
          exact this
        have hbk : F P = true → moveW F len P 1 1 = P ∨ moveW F len (moveW F len P 1 1) (-1) (-1) = P := fun h => move_back hPm h
        have HIP := hidC hP
        have hmI : (m : Int) ≤ 9 := by omega
        generalize moveW F len (moveW F len P 1 1) (-1) (-1) = Q at *
        generalize moveW F len P 1 1 = T at *
        have hi0 : iterM F len (1) 0 p = p := rfl
        generalize iterM F len (1) = it at *
        clear HM HT hmi hPm hto hpl hP hm
        go_wp2_with fail
        rw [hn]
        refine HM0.out.mono ?_
        rintro e X2 ⟨rfl, hB2⟩
        have HB2 := hidC hB2
        clear hB2 HM0
        go_wp2
        go_loopw [11, 12] (fun u v wr => ∃ i : Nat, i ≤ m ∧ u = .int .i64 (it i p) ∧ v = .int .i64 (i : Int) ∧ Below X1.heap.size X1 wr) (fun _ v _ => m - (intOf v).toNat)
        case atStart => exact ⟨0, by omega, by rw [hi0], rfl, HB2.out⟩
        case round =>
          obtain ⟨i, hi, rfl, rfl, hBr⟩ := hrel
          have HBR := hidC hBr
          clear hBr
          by_cases hlt : i < m
          · have hltI : (i : Int) < (m : Int) := by omega
            have HIT2 := hidC (HIT.out i wr HBR.out)
            generalize it i p = q0 at *
            generalize hq1 : it (i + 1) p = q1 at *
            go_wp2_with fail
            refine HIT2.out.mono ?_
            rintro e X3 ⟨rfl, hB3⟩
            have HB3 := hidC (HBR.out.trans (hB3.mono HBR.out.size))
            clear hB3 HIT2
            go_wp2
            go_roundw
            case rel => exact ⟨i + 1, by omega, by rw [hq1], by go_num, HB3.out⟩
            case measure => simp [intOf]; omega
          · obtain rfl : i = m := by omega
            rw [HIP.out]
            go_wp2_with fail
            refine (HM1.out _ HBR.out).mono ?_
            rintro e X5 ⟨rfl, hB5⟩
            have HB5 := hidC (HBR.out.trans (hB5.mono HBR.out.size))
            clear hB5 HM1
            go_wp2_with fail
            refine (HM2.out _ HB5.out).mono ?_
            rintro e X6 ⟨rfl, hB6⟩
            have HB6 := hidC (HB5.out.trans (hB6.mono HB5.out.size))
            clear hB6 HM2
            go_wp2_with fail
            refine (HT1.out _ HB6.out).mono ?_
            rintro e X7 ⟨rfl, hB7⟩
            have HB7 := hidC (HB6.out.trans (hB7.mono HB6.out.size))
            clear hB7 HT1
            cases hFP : F P with
            | false =>
              go_wp2_with fail
              refine (HA.out _ (HB1.out.trans (HB7.out.mono HB1.out.size))).mono ?_
              rintro e X8 ⟨rfl, hB8⟩
              have HB8 := hidC ((HB1.out.trans (HB7.out.mono HB1.out.size)).trans (hB8.mono (HB1.out.trans (HB7.out.mono HB1.out.size)).size))
              clear hB8
              go_wp2
              go_ret
              exact ⟨rfl, HB8.out⟩
            | true =>
              by_cases hTP : T = P
              · subst hTP
                go_wp2_with fail
                refine (HA.out _ (HB1.out.trans (HB7.out.mono HB1.out.size))).mono ?_
                rintro e X8 ⟨rfl, hB8⟩
                have HB8 := hidC ((HB1.out.trans (HB7.out.mono HB1.out.size)).trans (hB8.mono (HB1.out.trans (HB7.out.mono HB1.out.size)).size))
                clear hB8
                go_wp2
                go_ret
                exact ⟨rfl, HB8.out⟩
              · have hQP := (hbk hFP).resolve_left hTP
                subst hQP
                have hbT : (T == Q) = false := by simpa using hTP
                go_wp2_with fail
                refine (HA.out _ (HB1.out.trans (HB7.out.mono HB1.out.size))).mono ?_
                rintro e X8 ⟨rfl, hB8⟩
                have HB8 := hidC ((HB1.out.trans (HB7.out.mono HB1.out.size)).trans (hB8.mono (HB1.out.trans (HB7.out.mono HB1.out.size)).size))
                clear hB8
                go_wp2
                go_ret
                exact ⟨rfl, HB8.out⟩
      · obtain ⟨m, hm⟩ : ∃ m : Nat, n = -1 * (m : Int) := ⟨n.natAbs, by omega⟩
        have hm9 : m ≤ 9 := by omega
        have hw : wayD n = -1 := by unfold wayD; rw [if_pos (by omega)]
        have emx : max n (-n) = (m : Int) := by omega
        have hmi := move_iter (F := F) (n := len) (y := -1) (by omega) m hpl
        have HM0 := hidC (HM.out p n X1 (Below.refl _ _) (by omega) (by omega))
        rw [moveR_ok hpl, hw] at HM0
        rw [show moveW F len p (-1) n = iterM F len (-1) m p from by rw [hm]; exact hmi] at HM0
        have HIT : Hid (∀ (i : Nat) (X : World), Below X1.heap.size X1 X → Calls Tryz.prog 15 #[.pointer (some ⟨B, 0, none⟩), .slice a len cap, .int .i64 (iterM F len (-1) i p), .int .i64 (-1)] X fun e X' => e = .returned (.tuple #[.int .i64 (iterM F len (-1) (i + 1) p), .int .i64 0]) ∧ Below X.heap.size X X') := fun i X hX => by
          have := HM.out (iterM F len (-1) i p) (-1) X hX (by omega) (by omega)
          rw [moveR_ok (iterM_pl (by omega) hpl i), show wayD (-1) = -1 from rfl] at this
          exact this
        have hPm := iterM_pl (F := F) (n := len) (y := -1) (by omega) hpl m
        obtain ⟨P, hP⟩ : ∃ P, iterM F len (-1) m p = P := ⟨_, rfl⟩
        rw [hP] at HM0 hPm
        simp only at HM0
        have hto := moveW_pl (F := F) (y := 1) (.inl rfl) hPm
        have HM1 : Hid (∀ X : World, Below X1.heap.size X1 X → Calls Tryz.prog 15 #[.pointer (some ⟨B, 0, none⟩), .slice a len cap, .int .i64 P, .int .i64 1] X fun e X' => e = .returned (.tuple #[.int .i64 (moveW F len P 1 1), .int .i64 0]) ∧ Below X.heap.size X X') := fun X hX => by
          have := HM.out P 1 X hX (by omega) (by omega)
          rw [moveR_ok hPm, show wayD 1 = 1 from rfl] at this
          exact this
        have HM2 : Hid (∀ X : World, Below X1.heap.size X1 X → Calls Tryz.prog 15 #[.pointer (some ⟨B, 0, none⟩), .slice a len cap, .int .i64 (moveW F len P 1 1), .int .i64 (-1)] X fun e X' => e = .returned (.tuple #[.int .i64 (moveW F len (moveW F len P 1 1) (-1) (-1)), .int .i64 0]) ∧ Below X.heap.size X X') := fun X hX => by
          have := HM.out (moveW F len P 1 1) (-1) X hX (by omega) (by omega)
          rw [moveR_ok hto, show wayD (-1) = -1 from rfl] at this
          exact this
        have HT1 : Hid (∀ X : World, Below X1.heap.size X1 X → Calls Tryz.prog 11 #[.pointer (some ⟨B, 0, none⟩), .slice a len cap, .int .i64 P] X fun e X' => e = .returned (.tuple #[.bool (F P), .int .i64 0]) ∧ Below X.heap.size X X') := fun X hX => by
          have := HT.out P X hX
          obtain ⟨t, c⟩ := textD_at (F := F) hPm
          rw [t, c] at this
          exact this
        have hbk : F P = true → moveW F len P 1 1 = P ∨ moveW F len (moveW F len P 1 1) (-1) (-1) = P := fun h => move_back hPm h
        have HIP := hidC hP
        have hmI : (m : Int) ≤ 9 := by omega
        generalize moveW F len (moveW F len P 1 1) (-1) (-1) = Q at *
        generalize moveW F len P 1 1 = T at *
        have hi0 : iterM F len (-1) 0 p = p := rfl
        generalize iterM F len (-1) = it at *
        clear HM HT hmi hPm hto hpl hP hm
        go_wp2_with fail
        rw [hn]
        refine HM0.out.mono ?_
        rintro e X2 ⟨rfl, hB2⟩
        have HB2 := hidC hB2
        clear hB2 HM0
        go_wp2
        go_loopw [11, 12] (fun u v wr => ∃ i : Nat, i ≤ m ∧ u = .int .i64 (it i p) ∧ v = .int .i64 (i : Int) ∧ Below X1.heap.size X1 wr) (fun _ v _ => m - (intOf v).toNat)
        case atStart => exact ⟨0, by omega, by rw [hi0], rfl, HB2.out⟩
        case round =>
          obtain ⟨i, hi, rfl, rfl, hBr⟩ := hrel
          have HBR := hidC hBr
          clear hBr
          by_cases hlt : i < m
          · have hltI : (i : Int) < (m : Int) := by omega
            have HIT2 := hidC (HIT.out i wr HBR.out)
            generalize it i p = q0 at *
            generalize hq1 : it (i + 1) p = q1 at *
            go_wp2_with fail
            refine HIT2.out.mono ?_
            rintro e X3 ⟨rfl, hB3⟩
            have HB3 := hidC (HBR.out.trans (hB3.mono HBR.out.size))
            clear hB3 HIT2
            go_wp2
            go_roundw
            case rel => exact ⟨i + 1, by omega, by rw [hq1], by go_num, HB3.out⟩
            case measure => simp [intOf]; omega
          · obtain rfl : i = m := by omega
            rw [HIP.out]
            go_wp2_with fail
            refine (HM1.out _ HBR.out).mono ?_
            rintro e X5 ⟨rfl, hB5⟩
            have HB5 := hidC (HBR.out.trans (hB5.mono HBR.out.size))
            clear hB5 HM1
            go_wp2_with fail
            refine (HM2.out _ HB5.out).mono ?_
            rintro e X6 ⟨rfl, hB6⟩
            have HB6 := hidC (HB5.out.trans (hB6.mono HB5.out.size))
            clear hB6 HM2
            go_wp2_with fail
            refine (HT1.out _ HB6.out).mono ?_
            rintro e X7 ⟨rfl, hB7⟩
            have HB7 := hidC (HB6.out.trans (hB7.mono HB6.out.size))
            clear hB7 HT1
            cases hFP : F P with
            | false =>
              go_wp2_with fail
              refine (HA.out _ (HB1.out.trans (HB7.out.mono HB1.out.size))).mono ?_
              rintro e X8 ⟨rfl, hB8⟩
              have HB8 := hidC ((HB1.out.trans (HB7.out.mono HB1.out.size)).trans (hB8.mono (HB1.out.trans (HB7.out.mono HB1.out.size)).size))
              clear hB8
              go_wp2
              go_ret
              exact ⟨rfl, HB8.out⟩
            | true =>
              by_cases hTP : T = P
              · subst hTP
                go_wp2_with fail
                refine (HA.out _ (HB1.out.trans (HB7.out.mono HB1.out.size))).mono ?_
                rintro e X8 ⟨rfl, hB8⟩
                have HB8 := hidC ((HB1.out.trans (HB7.out.mono HB1.out.size)).trans (hB8.mono (HB1.out.trans (HB7.out.mono HB1.out.size)).size))
                clear hB8
                go_wp2
                go_ret
                exact ⟨rfl, HB8.out⟩
              · have hQP := (hbk hFP).resolve_left hTP
                subst hQP
                have hbT : (T == Q) = false := by simpa using hTP
                go_wp2_with fail
                refine (HA.out _ (HB1.out.trans (HB7.out.mono HB1.out.size))).mono ?_
                rintro e X8 ⟨rfl, hB8⟩
                have HB8 := hidC ((HB1.out.trans (HB7.out.mono HB1.out.size)).trans (hB8.mono (HB1.out.trans (HB7.out.mono HB1.out.size)).size))
                clear hB8
                go_wp2
                go_ret
                exact ⟨rfl, HB8.out⟩
    · have HM0 := hidC (HM.out p n X1 (Below.refl _ _) (by omega) (by omega))
      rw [show moveR F E len p n = (0, chkE E len p) from by unfold moveR; rw [if_neg h0]] at HM0
      simp only at HM0
      have hne : (chkE E len p != 0) = true := by simpa using h0
      generalize chkE E len p = e2 at *
      clear HM HT h0
      go_wp2_with fail
      rw [hn]
      refine HM0.out.mono ?_
      rintro e X2 ⟨rfl, hB2⟩
      have HB2 := hidC (HB1.out.trans (hB2.mono HB1.out.size))
      clear hB2 HM0
      go_wp2_with fail
      refine (HA.out X2 HB2.out).mono ?_
      rintro e X3 ⟨rfl, hB3⟩
      have HB3 := hidC (HB2.out.trans (hB3.mono HB2.out.size))
      clear hB3
      go_wp2
      go_ret
      exact ⟨rfl, HB3.out⟩
end Go.Proofs.YtbkpehfaofhmaaaGreatDoor
