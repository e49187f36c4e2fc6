/-
  PROVED HERE: the body of DiffBlocks at two slices of at most 200 tokens each.
-/
import Derived.Test.YtgpopploimeeaaaCB20
import Derived.Test.YtgpopploimeeaaaCB8
import Derived.Test.YtgpopploimeeaaaCB7
import Derived.Test.YtgpopploimeeaaaCB22
import Derived.Test.YtgpopploimeeaaaCBLAlike
namespace Go.Proofs.Ytgpopploimeeaaa
open Go.RowKit

/-- A row in memory. -/
theorem rows_at {W : World} {base : Nat} {v : Value} {R : List (Int × Int × Int)} (h : W.ownsRow base 48 3 v R.length (rowV R)) : ∃ a cap, v = .slice a R.length cap ∧
    ∀ k r, R[k]? = some r → ∃ b, a = some ⟨b, 0, none⟩ ∧ b < W.heap.size ∧ ∀ X : World, Below W.heap.size W X → X.cell? ⟨b, k * 3, none⟩ = some (.int .i64 r.1) ∧ X.cell? ⟨b, k * 3 + 1, none⟩ = some (.int .i64 r.2.1) ∧ X.cell? ⟨b, k * 3 + 2, none⟩ = some (.int .i64 r.2.2) := by
  rcases Nat.eq_zero_or_pos R.length with h0 | h0
  · rw [h0] at h
    obtain ⟨a, cap, rfl⟩ := owns_none h
    exact ⟨a, cap, by rw [h0], fun k r hk => by have := (List.getElem?_eq_some_iff.1 hk).1; omega⟩
  · obtain ⟨g, cap, rfl, hg, hc⟩ := owns_cell h h0
    refine ⟨_, cap, rfl, fun k r hk => ⟨g, rfl, hg, fun X hX => ?_⟩⟩
    have hkl := (List.getElem?_eq_some_iff.1 hk).1
    obtain ⟨p0, p1, p2⟩ := rowV_at R k r hk
    have e0 := hc (3 * k) _ (by omega) p0
    have e1 := hc (3 * k + 1) _ (by omega) p1
    have e2 := hc (3 * k + 2) _ (by omega) p2
    rw [Nat.zero_add, Nat.mul_comm] at e0 e1 e2
    exact ⟨(hX.cell (p := ⟨g, _, none⟩) hg).trans e0, (hX.cell (p := ⟨g, _, none⟩) hg).trans e1, (hX.cell (p := ⟨g, _, none⟩) hg).trans e2⟩

set_option maxRecDepth 100000 in
set_option maxHeartbeats 16000000 in
theorem dblocks_core (a1 a2 : Option Addr) (n m c1 c2 : Nat) (l1 l2 : List Tok) (w : World) (h1 : Toks w a1 n l1) (h2 : Toks w a2 m l2) (i1 : Lies a1 n c1) (i2 : Lies a2 m c2) (hn : n ≤ 200) (hm : m ≤ 200) (hb : bothP l1 l2 = 0) :
    Calls Try.prog 5 #[.slice a1 n c1, .slice a2 m c2] w fun e w' => e = .returned (.bool true) ∧ Below w.heap.size w w' := by
  have y1 : ¬ ((200 : Int) < (n : Int)) := by omega
  have y2 : ¬ ((200 : Int) < (m : Int)) := by omega
  obtain ⟨G1, G2, _, _⟩ := bothP_ok hb
  have L1 := h1.1
  have L2 := h2.1
  have HR := prows_calls a1 a2 n m c1 c2 l1 l2 w h1 h2 hn hm i1.1 i2.1 hb
  have H1 := hide_ h1
  have H2 := hide_ h2
  have I1 := hide_ i1
  have I2 := hide_ i2
  have GG1 := hide_ G1
  have GG2 := hide_ G2
  have HA : ∀ W : World, Below w.heap.size w W → Calls Try.prog 7 #[] W fun e w' => e = .returned (.bool true) ∧ Below w.heap.size w w' := fun W hW => (awake_calls W).mono fun e w' h => ⟨h.1, hW.trans (h.2.mono hW.size)⟩
  clear h1 h2 i1 i2 hb
  go_enter Try.func5, Try.ntmps5
  go_wp2_with fail
  refine HR.mono ?_
  rintro e W1 ⟨P, v, rfl, hI, ho, b1⟩
  obtain ⟨aR, cR, rfl, hrows⟩ := rows_at ho
  have hrun := runR_rows P 0 0 (Nat.zero_le _) (Nat.zero_le _) hI
  have hRlen : (rowsP (tops l1) (tops l2) P 0 0).length ≤ 400 := by
    have := runR_length _ _ _ _ hrun
    have := tops_len (l := l1)
    have := tops_len (l := l2)
    simp only at *
    omega
  have hsame : Hid (l1 = l2 → (rowsP (tops l1) (tops l2) P 0 0).length = (tops l1).length) := fun e => by
    subst e
    exact rows_same l1 P hI
  have HRW := hide_ hrows
  have HRUN := hide_ hrun
  have B1 := hide_ b1
  clear b1 ho hrows hrun hI HR
  generalize rowsP (tops l1) (tops l2) P 0 0 = R at *
  have HK1 := fkids_calls a1 n c1 l1 (-1) W1 (H1.out.below B1.out) (by omega)
  rw [kids_tops GG1.out, List.length_map] at HK1
  go_wp2_with fail
  refine HK1.mono ?_
  rintro e W2 ⟨ax, cx, rfl, hRx, b2⟩
  have B2 := hide_ (B1.out.trans (b2.mono B1.out.size))
  have RX := hide_ hRx
  have B12 := hide_ b2
  clear b2 hRx HK1
  have HK2 := fkids_calls a2 m c2 l2 (-1) W2 (H2.out.below B2.out) (by omega)
  rw [kids_tops GG2.out, List.length_map] at HK2
  go_wp2_with fail
  refine HK2.mono ?_
  rintro e W4 ⟨ay, cy, rfl, hRy, b3⟩
  have B4 := hide_ (B2.out.trans (b3.mono B2.out.size))
  have RY := hide_ hRy
  have RX4 := hide_ (RX.out.below b3)
  have B14 := hide_ (B12.out.trans (b3.mono B12.out.size))
  clear b3 hRy HK2 RX B12 B2
  have t1 : (tops l1).length ≤ 200 := by have := tops_len (l := l1); omega
  have t2 : (tops l2).length ≤ 200 := by have := tops_len (l := l2); omega
  obtain ⟨N, hN⟩ : ∃ N, (tops l1).length = N := ⟨_, rfl⟩
  obtain ⟨M, hM⟩ : ∃ M, (tops l2).length = M := ⟨_, rfl⟩
  rw [hN] at t1 RX4 HRUN
  rw [hM] at t2 RY HRUN
  have hS2 : Hid (l1 = l2 → R.length = N) := by rw [← hN]; exact hsame.out
  rw [hN, hM]
  have HNM : Hid ((tops l1).length = N ∧ (tops l2).length = M) := ⟨hN, hM⟩
  clear hsame hN hM
  go_wp2
  go_loopg [9, 10, 11] (R.length + 1) (fun gk u1 u2 u3 WT => ∃ (i j k : Nat), u1 = .int .i64 (i : Int) ∧ u2 = .int .i64 (j : Int) ∧ u3 = .int .i64 (k : Int) ∧ k ≤ R.length ∧ R.length < k + gk ∧ i ≤ N ∧ j ≤ M ∧ Hid (runR (tops l1) (tops l2) (likeB l1 l2) (R.drop k) i j = some (N, M)) ∧ Hid (Below W4.heap.size W4 WT))
  case atStart => exact ⟨0, 0, 0, rfl, rfl, rfl, Nat.zero_le _, by omega, Nat.zero_le _, Nat.zero_le _, HRUN.out, Below.refl _ _⟩
  case round =>
    obtain ⟨i, j, k, rfl, rfl, rfl, hk, hgk, hi, hj, HE, HB⟩ := hrel
    clear HRUN
    have hi0 : (0 : Int) ≤ (i : Int) := by omega
    have hj0 : (0 : Int) ≤ (j : Int) := by omega
    have hk0 : (0 : Int) ≤ (k : Int) := by omega
    have hi2 : (i : Int) ≤ 200 := by omega
    have hj2 : (j : Int) ≤ 200 := by omega
    rcases Nat.lt_or_ge k R.length with hlt | hge
    · have hltI : (k : Int) < (R.length : Int) := by omega
      have hkb : (k : Int) ≤ 400 := by omega
      obtain ⟨r, hr⟩ : ∃ r, R[k]? = some r := ⟨_, List.getElem?_eq_getElem hlt⟩
      obtain ⟨bR, rfl, hbR, hcR⟩ := HRW.out k r hr
      obtain ⟨q0, q1, q2⟩ := hcR wr (B14.out.trans (HB.out.mono B14.out.size))
      have hd : R.drop k = r :: R.drop (k + 1) := by
        rw [List.drop_eq_getElem_cons hlt]
        rw [List.getElem?_eq_getElem hlt] at hr
        rw [Option.some.inj hr]
      have hE := HE.out
      rw [hd, runR] at hE
      obtain ⟨⟨i', j'⟩, hst, hE2⟩ := Option.bind_eq_some_iff.1 hE
      have HEN := hide_ hE2
      clear hcR hr hd hE hE2 HE HA HRW
      have hstp := hst
      unfold stepR at hstp
      by_cases r0 : r.1 = 0
      · rw [if_pos r0] at hstp
        by_cases hc : i < (tops l1).length ∧ j < (tops l2).length ∧ r = (0, (((tops l1).getD i 0 : Nat) : Int), (((tops l2).getD j 0 : Nat) : Int)) ∧ likeB l1 l2 i j = true
        · rw [if_pos hc] at hstp
          cases hstp
          obtain ⟨hc1, hc2, rfl, hc4⟩ := hc
          obtain ⟨x, hx⟩ : ∃ x, (tops l1)[i]? = some x := ⟨_, List.getElem?_eq_getElem hc1⟩
          obtain ⟨y, hy⟩ : ∃ y, (tops l2)[j]? = some y := ⟨_, List.getElem?_eq_getElem hc2⟩
          rw [show (tops l1).getD i 0 = x by rw [List.getD_eq_getElem?_getD, hx]; rfl] at q1
          rw [show (tops l2).getD j 0 = y by rw [List.getD_eq_getElem?_getD, hy]; rfl] at q2
          simp only at q0 q1 q2
          rw [HNM.out.1] at hc1
          rw [HNM.out.2] at hc2
          have hxi : Hid (∃ z, (tops l1)[i]? = some z) := ⟨x, hx⟩
          obtain ⟨ex1, ex2, _⟩ := tops_next GG1.out hx
          obtain ⟨ey1, ey2, _⟩ := tops_next GG2.out hy
          obtain ⟨f1, f2, _, _, f5⟩ := block_end GG1.out ex1 ex2
          obtain ⟨f6, f7, _, _, f8⟩ := block_end GG2.out ey1 ey2
          unfold likeB at hc4
          rw [hx, hy] at hc4
          have hc5 : eqL (blkAt l1 x) (blkAt l2 y) = true := hc4
          unfold blkAt at hc5
          have HPa := fun X (hX : Below W4.heap.size W4 X) => fpartner_calls a1 n c1 l1 (x : Int) X (H1.out.below (B4.out.trans (hX.mono B4.out.size))) (by omega) I1.out
          have HPb := fun X (hX : Below W4.heap.size W4 X) => fpartner_calls a2 m c2 l2 (y : Int) X (H2.out.below (B4.out.trans (hX.mono B4.out.size))) (by omega) I2.out
          have HQc := fun X (hX : Below W4.heap.size W4 X) => alike_calls (partA a1 c1 x) (partA a2 c2 y) (endE l1 x - x) (endE l2 y - y) (c1 - x) (c2 - y) _ _ X ((H1.out.below (B4.out.trans (hX.mono B4.out.size))).partA I1.out.1 x (endE l1 x - x) (by omega)) ((H2.out.below (B4.out.trans (hX.mono B4.out.size))).partA I2.out.1 y (endE l2 y - y) (by omega)) (by omega) (by omega)
          rw [hc5] at HQc
          obtain ⟨Ex, hEx⟩ : ∃ E, endE l1 x = E := ⟨_, rfl⟩
          obtain ⟨Ey, hEy⟩ : ∃ E, endE l2 y = E := ⟨_, rfl⟩
          rw [hEx] at f1 f2 f5 HQc
          rw [hEy] at f6 f7 f8 HQc
          obtain ⟨px, hpx⟩ : ∃ p, partner l1 (x : Int) = p := ⟨_, rfl⟩
          obtain ⟨py, hpy⟩ : ∃ p, partner l2 (y : Int) = p := ⟨_, rfl⟩
          rw [hpx] at f5 HPa
          rw [hpy] at f8 HPb
          have mx1 : (if px < (x : Int) then (x : Int) else px) = ((Ex - 1 : Nat) : Int) := by split <;> omega
          have mx2 : (if py < (y : Int) then (y : Int) else py) = ((Ey - 1 : Nat) : Int) := by split <;> omega
          obtain ⟨Mx, hMx⟩ : ∃ M, Ex - 1 = M := ⟨_, rfl⟩
          obtain ⟨My, hMy⟩ : ∃ M, Ey - 1 = M := ⟨_, rfl⟩
          rw [hMx] at mx1
          rw [hMy] at mx2
          have wx : IntKind.i64.wrap (Ex : Int) = (Ex : Int) := by rw [IntKind.wrap_i64]; omega
          have wy : IntKind.i64.wrap (Ey : Int) = (Ey : Int) := by rw [IntKind.wrap_i64]; omega
          have vx : (Mx : Int) + 1 = (Ex : Int) := by omega
          have vy : (My : Int) + 1 = (Ey : Int) := by omega
          have ux0 : (0 : Int) ≤ (x : Int) := by omega
          have uy0 : (0 : Int) ≤ (y : Int) := by omega
          have ux1 : (x : Int) ≤ (Ex : Int) := by omega
          have uy1 : (y : Int) ≤ (Ey : Int) := by omega
          have ux2 : (Ex : Int) ≤ (c1 : Int) := by have := I1.out.1; omega
          have uy2 : (Ey : Int) ≤ (c2 : Int) := by have := I2.out.1; omega
          have HQ1 := hide_ HPa
          have HQ2 := hide_ HPb
          have HQ3 := hide_ HQc
          have HN := HEN
          have hiN : (i : Int) < (N : Int) := by omega
          have hjM : (j : Int) < (M : Int) := by omega
          have dxi : decide ((N : Int) ≤ (i : Int)) = false := decide_eq_false (by omega)
          have dyj : decide ((M : Int) ≤ (j : Int)) = false := decide_eq_false (by omega)
          obtain ⟨bx, ox, _, rfl, hbx, _, hcx⟩ := RX4.out.at hc1
          obtain ⟨by_, oy, _, rfl, hby, _, hcy⟩ := RY.out.at hc2
          have HX : Hid (∀ X, Below W4.heap.size W4 X → X.cell? ⟨bx, ox + i, none⟩ = some (.int .i64 (x : Int))) := fun X hX => hcx X hX i x hx
          have HY : Hid (∀ X, Below W4.heap.size W4 X → X.cell? ⟨by_, oy + j, none⟩ = some (.int .i64 (y : Int))) := fun X hX => hcy X hX j y hy
          clear hx hy hcx hcy hxi HPa HPb HQc hc4 hc5 hEx hEy hpx hpy hMx hMy f1 f2 f5 f6 f7 f8 ex1 ex2 ey1 ey2 hst HEN hS2 HNM RX4 RY GG1 GG2 H1 H2 I1 I2 r0
          have z0 : wr.cell? ⟨bR, k * 3, none⟩ = some (.int .i64 0) := q0
          have z1 : wr.cell? ⟨bR, k * 3 + 1, none⟩ = some (.int .i64 (x : Int)) := q1
          have z2 : wr.cell? ⟨bR, k * 3 + 2, none⟩ = some (.int .i64 (y : Int)) := q2
          have hB0 : Below W4.heap.size W4 (wr.alloc (.cells #[.int .i64 0, .int .i64 (x : Int), .int .i64 (y : Int)] 48)) := HB.out.alloc HB.out.size _
          have CC : Hid ((wr.alloc (.cells #[.int .i64 0, .int .i64 (x : Int), .int .i64 (y : Int)] 48)).cell? ⟨wr.heap.size, 0, none⟩ = some (.int .i64 0) ∧ (wr.alloc (.cells #[.int .i64 0, .int .i64 (x : Int), .int .i64 (y : Int)] 48)).cell? ⟨wr.heap.size, 1, none⟩ = some (.int .i64 (x : Int)) ∧ (wr.alloc (.cells #[.int .i64 0, .int .i64 (x : Int), .int .i64 (y : Int)] 48)).cell? ⟨wr.heap.size, 2, none⟩ = some (.int .i64 (y : Int)) ∧ wr.heap.size < (wr.alloc (.cells #[.int .i64 0, .int .i64 (x : Int), .int .i64 (y : Int)] 48)).heap.size) := by
            have hnew := World.alloc_heap_new wr (.cells #[.int .i64 0, .int .i64 (x : Int), .int .i64 (y : Int)] 48)
            have hsz := World.size_alloc wr (.cells #[.int .i64 0, .int .i64 (x : Int), .int .i64 (y : Int)] 48)
            refine ⟨?_, ?_, ?_, by omega⟩ <;> (simp only [World.cell?]; rw [hnew]; rfl)
          have HB1 := hide_ hB0
          clear hB0 q0 q1 q2
          obtain ⟨V0, hV0⟩ : ∃ V, V = wr.alloc (.cells #[.int .i64 0, .int .i64 (x : Int), .int .i64 (y : Int)] 48) := ⟨_, rfl⟩
          rw [← hV0] at CC HB1
          go_wp2_with fail
          rw [← hV0]
          clear hV0 z0 z1 z2
          obtain ⟨z0, z1, z2, _⟩ := CC.out
          have g0 := HX.out V0 HB1.out
          clear HX
          go_quiet (fail)
          obtain ⟨VA, hVA⟩ : ∃ V, V = V0.drewN nq := ⟨_, rfl⟩
          have BVA : Hid (Below W4.heap.size W4 VA) := by rw [hVA]; exact below_drewN HB1.out nq
          have CVA : Hid (VA.cell? ⟨wr.heap.size, 0, none⟩ = some (.int .i64 0) ∧ VA.cell? ⟨wr.heap.size, 1, none⟩ = some (.int .i64 (x : Int)) ∧ VA.cell? ⟨wr.heap.size, 2, none⟩ = some (.int .i64 (y : Int)) ∧ wr.heap.size < VA.heap.size) := by rw [hVA]; exact CC.out
          rw [← hVA]
          clear hVA CC
          have CC := CVA
          clear CVA
          obtain ⟨z0, z1, z2, _⟩ := CC.out
          clear g0
          go_wp2_with fail
          have g1 := HY.out VA BVA.out
          clear HY
          go_quiet (fail)
          obtain ⟨VB, hVB⟩ : ∃ V, V = VA.drewN nq := ⟨_, rfl⟩
          have BVB : Hid (Below W4.heap.size W4 VB) := by rw [hVB]; exact below_drewN BVA.out nq
          have CVB : Hid (VB.cell? ⟨wr.heap.size, 0, none⟩ = some (.int .i64 0) ∧ VB.cell? ⟨wr.heap.size, 1, none⟩ = some (.int .i64 (x : Int)) ∧ VB.cell? ⟨wr.heap.size, 2, none⟩ = some (.int .i64 (y : Int)) ∧ wr.heap.size < VB.heap.size) := by rw [hVB]; exact CC.out
          rw [← hVB]
          clear hVB CC
          have CC := CVB
          clear CVB
          obtain ⟨z0, z1, z2, _⟩ := CC.out
          clear g1
          go_wp2_with fail
          have HCC : Hid (∀ X, Below VB.heap.size VB X → X.cell? ⟨wr.heap.size, 0, none⟩ = some (.int .i64 0) ∧ X.cell? ⟨wr.heap.size, 1, none⟩ = some (.int .i64 (x : Int)) ∧ X.cell? ⟨wr.heap.size, 2, none⟩ = some (.int .i64 (y : Int))) := fun X hX => by
            obtain ⟨t0, t1, t2, t3⟩ := CC.out
            exact ⟨(hX.cell (p := ⟨wr.heap.size, 0, none⟩) t3).trans t0, (hX.cell (p := ⟨wr.heap.size, 1, none⟩) t3).trans t1, (hX.cell (p := ⟨wr.heap.size, 2, none⟩) t3).trans t2⟩
          have HP1 := fun X (hX : Below VB.heap.size VB X) => HQ1.out X (BVB.out.trans (hX.mono BVB.out.size))
          have HP2 := fun X (hX : Below VB.heap.size VB X) => HQ2.out X (BVB.out.trans (hX.mono BVB.out.size))
          have HAL := fun X (hX : Below VB.heap.size VB X) => HQ3.out X (BVB.out.trans (hX.mono BVB.out.size))
          clear HQ1 HQ2 HQ3
          refine wp_region_held_drew (S := fun X => Below VB.heap.size VB X) hmx (Below.refl _ VB).drew (fun hS => ?_)
          refine takeD 0 (some 86) (v := ?_) rfl rfl (by kernel_rfl) (by kernel_rfl) (by kernel_rfl) (fun _ _ _ h => h) (Or.inl ⟨by rfl, ?_⟩) hS ?_
          rotate_left
          · intro w hSw
            go_simp
            with_reducible rfl
          try simp only [Act.put, List.setIfInBounds_toArray, List.set_cons_zero, List.set_cons_succ]
          refine takeD 1 (some 87) (v := ?_) rfl rfl (by kernel_rfl) (by kernel_rfl) (by kernel_rfl) (fun _ _ _ h => h) (Or.inl ⟨by rfl, ?_⟩) hS ?_
          rotate_left
          · intro w hSw
            obtain ⟨x0, x1, x2⟩ := HCC.out _ hSw
            go_simp
            with_reducible rfl
          try simp only [Act.put, List.setIfInBounds_toArray, List.set_cons_zero, List.set_cons_succ]
          refine takeD 2 (some 88) (v := ?_) rfl rfl (by kernel_rfl) (by kernel_rfl) (by kernel_rfl) (fun _ _ _ h => h) (Or.inl ⟨by rfl, ?_⟩) hS ?_
          rotate_left
          · intro w hSw
            go_simp
            with_reducible rfl
          try simp only [Act.put, List.setIfInBounds_toArray, List.set_cons_zero, List.set_cons_succ]
          refine takeD 3 (some 89) (v := ?_) rfl rfl (by kernel_rfl) (by kernel_rfl) (by kernel_rfl) (fun _ _ _ h => h) (Or.inl ⟨by rfl, ?_⟩) hS ?_
          rotate_left
          · intro w hSw
            try go_simp
            with_reducible rfl
          try simp only [Act.put, List.setIfInBounds_toArray, List.set_cons_zero, List.set_cons_succ]
          refine takeD 4 (some 90) (v := ?_) rfl rfl (by kernel_rfl) (by kernel_rfl) (by kernel_rfl) (fun _ _ _ h => h) (Or.inl ⟨by rfl, ?_⟩) hS ?_
          rotate_left
          · intro w hSw
            try go_simp
            with_reducible rfl
          try simp only [Act.put, List.setIfInBounds_toArray, List.set_cons_zero, List.set_cons_succ]
          refine takeD 5 (some 91) (v := ?_) rfl rfl (by kernel_rfl) (by kernel_rfl) (by kernel_rfl) (fun _ _ _ h => h) (Or.inl ⟨by rfl, ?_⟩) hS ?_
          rotate_left
          · intro w hSw
            go_simp
            with_reducible rfl
          try simp only [Act.put, List.setIfInBounds_toArray, List.set_cons_zero, List.set_cons_succ]
          refine takeD 6 (some 92) (v := ?_) rfl rfl (by kernel_rfl) (by kernel_rfl) (by kernel_rfl) (fun _ _ _ h => h) (Or.inl ⟨by rfl, ?_⟩) hS ?_
          rotate_left
          · intro w hSw
            obtain ⟨x0, x1, x2⟩ := HCC.out _ hSw
            go_simp
            with_reducible rfl
          try simp only [Act.put, List.setIfInBounds_toArray, List.set_cons_zero, List.set_cons_succ]
          refine takeD 7 (some 93) (v := ?_) rfl rfl (by kernel_rfl) (by kernel_rfl) (by kernel_rfl) (fun _ _ _ h => h) (Or.inl ⟨by rfl, ?_⟩) hS ?_
          rotate_left
          · intro w hSw
            try go_simp
            with_reducible rfl
          try simp only [Act.put, List.setIfInBounds_toArray, List.set_cons_zero, List.set_cons_succ]
          refine takeD 8 (some 94) (v := ?_) rfl rfl (by kernel_rfl) (by kernel_rfl) (by kernel_rfl) (fun _ _ _ h => h) (Or.inl ⟨by rfl, ?_⟩) hS ?_
          rotate_left
          · intro w hSw
            go_simp
            with_reducible rfl
          try simp only [Act.put, List.setIfInBounds_toArray, List.set_cons_zero, List.set_cons_succ]
          refine takeD 9 (some 95) (v := ?_) rfl rfl (by kernel_rfl) (by kernel_rfl) (by kernel_rfl) (fun _ _ _ h => h) (Or.inl ⟨by rfl, ?_⟩) hS ?_
          rotate_left
          · intro w hSw
            obtain ⟨x0, x1, x2⟩ := HCC.out _ hSw
            go_simp
            with_reducible rfl
          try simp only [Act.put, List.setIfInBounds_toArray, List.set_cons_zero, List.set_cons_succ]
          refine takeD 11 (some 97) (v := ?_) rfl rfl (by kernel_rfl) (by kernel_rfl) (by kernel_rfl) (fun _ _ _ h => h) (Or.inl ⟨by rfl, ?_⟩) hS ?_
          rotate_left
          · intro w hSw
            go_simp
            with_reducible rfl
          try simp only [Act.put, List.setIfInBounds_toArray, List.set_cons_zero, List.set_cons_succ]
          refine takeD 12 (some 98) (v := ?_) rfl rfl (by kernel_rfl) (by kernel_rfl) (by kernel_rfl) (fun _ _ _ h => h) (Or.inl ⟨by rfl, ?_⟩) hS ?_
          rotate_left
          · intro w hSw
            obtain ⟨x0, x1, x2⟩ := HCC.out _ hSw
            go_simp
            with_reducible rfl
          try simp only [Act.put, List.setIfInBounds_toArray, List.set_cons_zero, List.set_cons_succ]
          refine takeD 16 (some 102) (v := ?_) rfl rfl (by kernel_rfl) (by kernel_rfl) (by kernel_rfl) (fun _ _ _ h => h) (Or.inl ⟨by rfl, ?_⟩) hS ?_
          rotate_left
          · intro w hSw
            try go_simp
            with_reducible rfl
          try simp only [Act.put, List.setIfInBounds_toArray, List.set_cons_zero, List.set_cons_succ]
          refine takeD 17 (some 103) (v := ?_) rfl rfl (by kernel_rfl) (by kernel_rfl) (by kernel_rfl) (fun _ _ _ h => h) (Or.inl ⟨by rfl, ?_⟩) hS ?_
          rotate_left
          · intro w hSw
            go_simp
            with_reducible rfl
          try simp only [Act.put, List.setIfInBounds_toArray, List.set_cons_zero, List.set_cons_succ]
          refine takeD 18 (some 104) (v := ?_) rfl rfl (by kernel_rfl) (by kernel_rfl) (by kernel_rfl) (fun _ _ _ h => h) (Or.inl ⟨by rfl, ?_⟩) hS ?_
          rotate_left
          · intro w hSw
            obtain ⟨x0, x1, x2⟩ := HCC.out _ hSw
            go_simp
            with_reducible rfl
          try simp only [Act.put, List.setIfInBounds_toArray, List.set_cons_zero, List.set_cons_succ]
          refine takeD 19 (some 105) (v := ?_) rfl rfl (by kernel_rfl) (by kernel_rfl) (by kernel_rfl) (fun _ _ _ h => h) (Or.inl ⟨by rfl, ?_⟩) hS ?_
          rotate_left
          · intro w hSw
            try go_simp
            with_reducible rfl
          try simp only [Act.put, List.setIfInBounds_toArray, List.set_cons_zero, List.set_cons_succ]
          refine takeD 20 (some 106) (v := ?_) rfl rfl (by kernel_rfl) (by kernel_rfl) (by kernel_rfl) (fun _ _ _ h => h) (Or.inl ⟨by rfl, ?_⟩) hS ?_
          rotate_left
          · intro w hSw
            go_simp
            with_reducible rfl
          try simp only [Act.put, List.setIfInBounds_toArray, List.set_cons_zero, List.set_cons_succ]
          refine takeD 21 (some 107) (v := ?_) rfl rfl (by kernel_rfl) (by kernel_rfl) (by kernel_rfl) (fun _ _ _ h => h) (Or.inl ⟨by rfl, ?_⟩) hS ?_
          rotate_left
          · intro w hSw
            obtain ⟨x0, x1, x2⟩ := HCC.out _ hSw
            go_simp
            with_reducible rfl
          try simp only [Act.put, List.setIfInBounds_toArray, List.set_cons_zero, List.set_cons_succ]
          refine takeD 23 (some 109) (v := ?_) rfl rfl (by kernel_rfl) (by kernel_rfl) (by kernel_rfl) (fun _ _ _ h => h) (Or.inl ⟨by rfl, ?_⟩) hS ?_
          rotate_left
          · intro w hSw
            go_simp
            with_reducible rfl
          try simp only [Act.put, List.setIfInBounds_toArray, List.set_cons_zero, List.set_cons_succ]
          refine takeD 24 (some 110) (v := ?_) rfl rfl (by kernel_rfl) (by kernel_rfl) (by kernel_rfl) (fun _ _ _ h => h) (Or.inl ⟨by rfl, ?_⟩) hS ?_
          rotate_left
          · intro w hSw
            obtain ⟨x0, x1, x2⟩ := HCC.out _ hSw
            go_simp
            with_reducible rfl
          try simp only [Act.put, List.setIfInBounds_toArray, List.set_cons_zero, List.set_cons_succ]
          refine callD 10 (by kernel_rfl) rfl (fun K hK => ?_)
          rw [if_pos (by rfl)]
          go_simp
          refine (HP1 _ hS).mono ?_
          rintro e Y ⟨rfl, bY⟩
          have hY0 := hS.trans (bY.mono hS.size)
          clear bY
          refine hK.out _ _ hY0 (fun _ => ?_)
          clear hK K
          try simp only [Act.put, List.setIfInBounds_toArray, List.set_cons_zero, List.set_cons_succ]
          refine takeD 13 (some 99) (v := ?_) rfl rfl (by kernel_rfl) (by kernel_rfl) (by kernel_rfl) (fun _ _ _ h => h) (Or.inl ⟨by rfl, ?_⟩) hY0 ?_
          rotate_left
          · intro w hSw
            go_simp
            with_reducible rfl
          try simp only [Act.put, List.setIfInBounds_toArray, List.set_cons_zero, List.set_cons_succ]
          refine takeD 14 (some 100) (v := ?_) rfl rfl (by kernel_rfl) (by kernel_rfl) (by kernel_rfl) (fun _ _ _ h => h) (Or.inl ⟨by rfl, ?_⟩) hY0 ?_
          rotate_left
          · intro w hSw
            go_simp
            with_reducible rfl
          try simp only [Act.put, List.setIfInBounds_toArray, List.set_cons_zero, List.set_cons_succ]
          refine takeD 15 (some 101) (v := ?_) rfl rfl (by kernel_rfl) (by kernel_rfl) (by kernel_rfl) (fun _ _ _ h => h) (Or.inl ⟨by rfl, ?_⟩) hY0 ?_
          rotate_left
          · intro w hSw
            go_simp
            with_reducible rfl
          try simp only [Act.put, List.setIfInBounds_toArray, List.set_cons_zero, List.set_cons_succ]
          refine callD 22 (by kernel_rfl) rfl (fun K hK => ?_)
          rw [if_pos (by rfl)]
          go_simp
          refine (HP2 _ hY0).mono ?_
          rintro e Y ⟨rfl, bY⟩
          have hY1 := hY0.trans (bY.mono hY0.size)
          clear bY
          refine hK.out _ _ hY1 (fun _ => ?_)
          clear hK K
          try simp only [Act.put, List.setIfInBounds_toArray, List.set_cons_zero, List.set_cons_succ]
          refine takeD 25 (some 111) (v := ?_) rfl rfl (by kernel_rfl) (by kernel_rfl) (by kernel_rfl) (fun _ _ _ h => h) (Or.inl ⟨by rfl, ?_⟩) hY1 ?_
          rotate_left
          · intro w hSw
            go_simp
            with_reducible rfl
          try simp only [Act.put, List.setIfInBounds_toArray, List.set_cons_zero, List.set_cons_succ]
          refine takeD 26 (some 112) (v := ?_) rfl rfl (by kernel_rfl) (by kernel_rfl) (by kernel_rfl) (fun _ _ _ h => h) (Or.inl ⟨by rfl, ?_⟩) hY1 ?_
          rotate_left
          · intro w hSw
            go_simp
            with_reducible rfl
          try simp only [Act.put, List.setIfInBounds_toArray, List.set_cons_zero, List.set_cons_succ]
          refine takeD 27 (some 113) (v := ?_) rfl rfl (by kernel_rfl) (by kernel_rfl) (by kernel_rfl) (fun _ _ _ h => h) (Or.inl ⟨by rfl, ?_⟩) hY1 ?_
          rotate_left
          · intro w hSw
            go_simp
            with_reducible rfl
          try simp only [Act.put, List.setIfInBounds_toArray, List.set_cons_zero, List.set_cons_succ]
          refine callD 28 (by kernel_rfl) rfl (fun K hK => ?_)
          rw [if_pos (by rfl)]
          go_simp
          refine (HAL _ hY1).mono ?_
          rintro e Y ⟨rfl, bY⟩
          have hY2 := hY1.trans (bY.mono hY1.size)
          clear bY
          refine hK.out _ _ hY2 (fun _ => ?_)
          clear hK K
          try simp only [Act.put, List.setIfInBounds_toArray, List.set_cons_zero, List.set_cons_succ]
          refine takeD 29 (some 115) (v := ?_) rfl rfl (by kernel_rfl) (by kernel_rfl) (by kernel_rfl) (fun _ _ _ h => h) (Or.inl ⟨by rfl, ?_⟩) hY2 ?_
          rotate_left
          · intro w hSw
            go_simp
            with_reducible rfl
          try simp only [Act.put, List.setIfInBounds_toArray, List.set_cons_zero, List.set_cons_succ]
          refine takeD 30 (some 116) (v := ?_) rfl rfl (by kernel_rfl) (by kernel_rfl) (by kernel_rfl) (fun _ _ _ h => h) (Or.inl ⟨by rfl, ?_⟩) hY2 ?_
          rotate_left
          · intro w hSw
            go_simp
            with_reducible rfl
          try simp only [Act.put, List.setIfInBounds_toArray, List.set_cons_zero, List.set_cons_succ]
          refine wpAnyH_done (by kernel_rfl) ?_ _
          have BVC := hide_ (BVB.out.trans (hY2.mono BVB.out.size))
          clear hY2 hS HP1 HP2 HAL HCC z0 z1 z2 CC
          go_wp2
          go_roundg (R.length - k)
          case measure => omega
          case rel => exact ⟨i + 1, j + 1, k + 1, by first | rfl | go_num, by first | rfl | go_num, by first | rfl | go_num, by omega, by omega, by omega, by omega, HN, BVC⟩
        · rw [if_neg hc] at hstp
          cases hstp
      · rw [if_neg r0] at hstp
        by_cases r1 : r.1 = 1
        · rw [if_pos r1] at hstp
          by_cases hc : i < (tops l1).length ∧ r = (1, (((tops l1).getD i 0 : Nat) : Int), -1)
          · rw [if_pos hc] at hstp
            cases hstp
            obtain ⟨hc1, rfl⟩ := hc
            obtain ⟨x, hx⟩ : ∃ x, (tops l1)[i]? = some x := ⟨_, List.getElem?_eq_getElem hc1⟩
            rw [show (tops l1).getD i 0 = x by rw [List.getD_eq_getElem?_getD, hx]; rfl] at q1
            simp only at q0 q1 q2
            rw [HNM.out.1] at hc1
            have HN := HEN
            have hiN : (i : Int) < (N : Int) := by omega
            have dxi : decide ((N : Int) ≤ (i : Int)) = false := decide_eq_false (by omega)
            obtain ⟨bx, ox, _, rfl, hbx, _, hcx⟩ := RX4.out.at hc1
            have HX : Hid (∀ X, Below W4.heap.size W4 X → X.cell? ⟨bx, ox + i, none⟩ = some (.int .i64 (x : Int))) := fun X hX => hcx X hX i x hx
            clear hx hcx hst HEN hS2 HNM RX4 RY GG1 GG2 H1 H2 I1 I2 r0 r1
            have z0 : wr.cell? ⟨bR, k * 3, none⟩ = some (.int .i64 1) := q0
            have z1 : wr.cell? ⟨bR, k * 3 + 1, none⟩ = some (.int .i64 (x : Int)) := q1
            have z2 : wr.cell? ⟨bR, k * 3 + 2, none⟩ = some (.int .i64 (-1)) := q2
            have hB0 : Below W4.heap.size W4 (wr.alloc (.cells #[.int .i64 1, .int .i64 (x : Int), .int .i64 (-1)] 48)) := HB.out.alloc HB.out.size _
            have CC : Hid ((wr.alloc (.cells #[.int .i64 1, .int .i64 (x : Int), .int .i64 (-1)] 48)).cell? ⟨wr.heap.size, 0, none⟩ = some (.int .i64 1) ∧ (wr.alloc (.cells #[.int .i64 1, .int .i64 (x : Int), .int .i64 (-1)] 48)).cell? ⟨wr.heap.size, 1, none⟩ = some (.int .i64 (x : Int)) ∧ (wr.alloc (.cells #[.int .i64 1, .int .i64 (x : Int), .int .i64 (-1)] 48)).cell? ⟨wr.heap.size, 2, none⟩ = some (.int .i64 (-1)) ∧ wr.heap.size < (wr.alloc (.cells #[.int .i64 1, .int .i64 (x : Int), .int .i64 (-1)] 48)).heap.size) := by
              have hnew := World.alloc_heap_new wr (.cells #[.int .i64 1, .int .i64 (x : Int), .int .i64 (-1)] 48)
              have hsz := World.size_alloc wr (.cells #[.int .i64 1, .int .i64 (x : Int), .int .i64 (-1)] 48)
              refine ⟨?_, ?_, ?_, by omega⟩ <;> (simp only [World.cell?]; rw [hnew]; rfl)
            have HB1 := hide_ hB0
            clear hB0 q0 q1 q2
            obtain ⟨V0, hV0⟩ : ∃ V, V = wr.alloc (.cells #[.int .i64 1, .int .i64 (x : Int), .int .i64 (-1)] 48) := ⟨_, rfl⟩
            rw [← hV0] at CC HB1
            go_wp2_with fail
            rw [← hV0]
            clear hV0 z0 z1 z2
            obtain ⟨z0, z1, z2, _⟩ := CC.out
            have g0 := HX.out V0 HB1.out
            clear HX
            go_quiet (fail)
            obtain ⟨VA, hVA⟩ : ∃ V, V = V0.drewN nq := ⟨_, rfl⟩
            have BVA : Hid (Below W4.heap.size W4 VA) := by rw [hVA]; exact below_drewN HB1.out nq
            have CVA : Hid (VA.cell? ⟨wr.heap.size, 0, none⟩ = some (.int .i64 1) ∧ VA.cell? ⟨wr.heap.size, 1, none⟩ = some (.int .i64 (x : Int)) ∧ VA.cell? ⟨wr.heap.size, 2, none⟩ = some (.int .i64 (-1)) ∧ wr.heap.size < VA.heap.size) := by rw [hVA]; exact CC.out
            rw [← hVA]
            clear hVA CC
            have CC := CVA
            clear CVA
            obtain ⟨z0, z1, z2, _⟩ := CC.out
            clear g0
            go_wp2_with fail
            go_quiet (fail)
            obtain ⟨VC, hVC⟩ : ∃ V, V = VA.drewN nq := ⟨_, rfl⟩
            have BVC : Hid (Below W4.heap.size W4 VC) := by rw [hVC]; exact below_drewN BVA.out nq
            rw [← hVC]
            clear hVC z0 z1 z2 CC
            go_wp2
            go_roundg (R.length - k)
            case measure => omega
            case rel => exact ⟨i + 1, j, k + 1, by first | rfl | go_num, by first | rfl | go_num, by first | rfl | go_num, by omega, by omega, by omega, by omega, HN, BVC⟩
          · rw [if_neg hc] at hstp
            cases hstp
        · rw [if_neg r1] at hstp
          by_cases hc : j < (tops l2).length ∧ r = (2, -1, (((tops l2).getD j 0 : Nat) : Int))
          · rw [if_pos hc] at hstp
            cases hstp
            obtain ⟨hc2, rfl⟩ := hc
            obtain ⟨y, hy⟩ : ∃ y, (tops l2)[j]? = some y := ⟨_, List.getElem?_eq_getElem hc2⟩
            rw [show (tops l2).getD j 0 = y by rw [List.getD_eq_getElem?_getD, hy]; rfl] at q2
            simp only at q0 q1 q2
            rw [HNM.out.2] at hc2
            have HN := HEN
            have hjM : (j : Int) < (M : Int) := by omega
            have dyj : decide ((M : Int) ≤ (j : Int)) = false := decide_eq_false (by omega)
            obtain ⟨by_, oy, _, rfl, hby, _, hcy⟩ := RY.out.at hc2
            have HY : Hid (∀ X, Below W4.heap.size W4 X → X.cell? ⟨by_, oy + j, none⟩ = some (.int .i64 (y : Int))) := fun X hX => hcy X hX j y hy
            clear hy hcy hst HEN hS2 HNM RX4 RY GG1 GG2 H1 H2 I1 I2 r0 r1
            have z0 : wr.cell? ⟨bR, k * 3, none⟩ = some (.int .i64 2) := q0
            have z1 : wr.cell? ⟨bR, k * 3 + 1, none⟩ = some (.int .i64 (-1)) := q1
            have z2 : wr.cell? ⟨bR, k * 3 + 2, none⟩ = some (.int .i64 (y : Int)) := q2
            have hB0 : Below W4.heap.size W4 (wr.alloc (.cells #[.int .i64 2, .int .i64 (-1), .int .i64 (y : Int)] 48)) := HB.out.alloc HB.out.size _
            have CC : Hid ((wr.alloc (.cells #[.int .i64 2, .int .i64 (-1), .int .i64 (y : Int)] 48)).cell? ⟨wr.heap.size, 0, none⟩ = some (.int .i64 2) ∧ (wr.alloc (.cells #[.int .i64 2, .int .i64 (-1), .int .i64 (y : Int)] 48)).cell? ⟨wr.heap.size, 1, none⟩ = some (.int .i64 (-1)) ∧ (wr.alloc (.cells #[.int .i64 2, .int .i64 (-1), .int .i64 (y : Int)] 48)).cell? ⟨wr.heap.size, 2, none⟩ = some (.int .i64 (y : Int)) ∧ wr.heap.size < (wr.alloc (.cells #[.int .i64 2, .int .i64 (-1), .int .i64 (y : Int)] 48)).heap.size) := by
              have hnew := World.alloc_heap_new wr (.cells #[.int .i64 2, .int .i64 (-1), .int .i64 (y : Int)] 48)
              have hsz := World.size_alloc wr (.cells #[.int .i64 2, .int .i64 (-1), .int .i64 (y : Int)] 48)
              refine ⟨?_, ?_, ?_, by omega⟩ <;> (simp only [World.cell?]; rw [hnew]; rfl)
            have HB1 := hide_ hB0
            clear hB0 q0 q1 q2
            obtain ⟨V0, hV0⟩ : ∃ V, V = wr.alloc (.cells #[.int .i64 2, .int .i64 (-1), .int .i64 (y : Int)] 48) := ⟨_, rfl⟩
            rw [← hV0] at CC HB1
            go_wp2_with fail
            rw [← hV0]
            clear hV0 z0 z1 z2
            obtain ⟨z0, z1, z2, _⟩ := CC.out
            have g1 := HY.out V0 HB1.out
            clear HY
            go_quiet (fail)
            obtain ⟨VB, hVB⟩ : ∃ V, V = V0.drewN nq := ⟨_, rfl⟩
            have BVB : Hid (Below W4.heap.size W4 VB) := by rw [hVB]; exact below_drewN HB1.out nq
            have CVB : Hid (VB.cell? ⟨wr.heap.size, 0, none⟩ = some (.int .i64 2) ∧ VB.cell? ⟨wr.heap.size, 1, none⟩ = some (.int .i64 (-1)) ∧ VB.cell? ⟨wr.heap.size, 2, none⟩ = some (.int .i64 (y : Int)) ∧ wr.heap.size < VB.heap.size) := by rw [hVB]; exact CC.out
            rw [← hVB]
            clear hVB CC
            have CC := CVB
            clear CVB
            obtain ⟨z0, z1, z2, _⟩ := CC.out
            clear g1
            go_wp2_with fail
            go_quiet (fail)
            obtain ⟨VC, hVC⟩ : ∃ V, V = VB.drewN nq := ⟨_, rfl⟩
            have BVC : Hid (Below W4.heap.size W4 VC) := by rw [hVC]; exact below_drewN BVB.out nq
            rw [← hVC]
            clear hVC z0 z1 z2 CC
            go_wp2
            go_roundg (R.length - k)
            case measure => omega
            case rel => exact ⟨i, j + 1, k + 1, by first | rfl | go_num, by first | rfl | go_num, by first | rfl | go_num, by omega, by omega, by omega, by omega, HN, BVC⟩
          · rw [if_neg hc] at hstp
            cases hstp
    · obtain rfl : k = R.length := by omega
      have hE := HE.out
      rw [List.drop_length, runR] at hE
      have hE := Option.some.inj hE
      have hiN : i = N := congrArg Prod.fst hE
      have hjM : j = M := congrArg Prod.snd hE
      subst hiN hjM
      clear hE
      have hBw := B4.out.trans (HB.out.mono B4.out.size)
      have HBW := hide_ hBw
      have HAL := alike_calls a1 a2 n m c1 c2 l1 l2 wr (H1.out.below hBw) (H2.out.below hBw) (by omega) (by omega)
      clear hBw HE HRW
      by_cases he : l1 = l2
      · have hlen : (R.length : Int) = (i : Int) := by have := hS2.out he; omega
        have hlen2 : ((R.length : Int) == (i : Int)) = true := by rw [beq_iff_eq]; exact hlen
        rw [(eqL_iff l1 l2).2 he] at HAL
        clear he hlen
        go_wp2_with fail
        refine HAL.mono ?_
        rintro e X1 ⟨rfl, b5⟩
        have B5 := hide_ (HBW.out.trans (b5.mono HBW.out.size))
        clear b5 HAL HBW
        go_wp2_with fail
        refine (HA _ B5.out).mono ?_
        rintro e X2 ⟨rfl, b6⟩
        have B6 := hide_ b6
        clear b6
        go_wp2
        go_ret
        exact ⟨rfl, B6.out⟩
      · rw [eqL_false he] at HAL
        clear he
        go_wp2_with fail
        refine HAL.mono ?_
        rintro e X1 ⟨rfl, b5⟩
        have B5 := hide_ (HBW.out.trans (b5.mono HBW.out.size))
        clear b5 HAL HBW
        go_wp2_with fail
        refine (HA _ B5.out).mono ?_
        rintro e X2 ⟨rfl, b6⟩
        have B6 := hide_ b6
        clear b6
        go_wp2
        go_ret
        exact ⟨rfl, B6.out⟩
end Go.Proofs.Ytgpopploimeeaaa
