/-
  PROVED HERE: flat.Kids at every slice of tokens and every number: what it returns; nothing that lay before is turned.
-/
import Derived.Test.YtgpopploimeeaaaFPart
namespace Go.Proofs.Ytgpopploimeeaaa
open Go.RowKit

theorem below_of_drewN {B : Nat} {w W : World} {q : Nat} (h : Below B (w.drewN q) W) : Below B w W := ⟨h.os, h.tape, h.output, h.size, h.block⟩

set_option maxRecDepth 100000 in
set_option maxHeartbeats 1000000 in
theorem fkids_out (a : Option Addr) (len cap : Nat) (l : List Tok) (w : World) (hl : Toks w a len l) (hsz : len ≤ 4398046511104) :
    Calls Try.prog 18 #[.slice a len cap, .int .i64 (-1)] w fun e w' => ∃ a' cap', e = .returned (.slice a' (kids l (-1)).length cap') ∧ Row .i64 w' a' (kids l (-1)).length (kids l (-1)) ∧ Below w.heap.size w w' := by
  obtain ⟨i0, hi, hz0, hz1, hz2⟩ := info_parts info3
  have hL := hl.1
  have HG0 : Hid (Gathers l (-1) 0 [] (kids l (-1))) := .inr ⟨by omega, by unfold kids; rw [if_neg (by omega)]; rfl⟩
  have HS0 : Hid (opened l ((0 : Nat) : Int) = []) := opened_zero l
  have HN0 : Hid (Stk (w.alloc (.cells zeros 80)) w.heap.size w.heap.size (.slice none 0 0) []) := stk_new w
  have HB0 : Hid (∀ o, Below w.heap.size w (w.alloc o)) := fun o => (Below.refl _ w).alloc (Nat.le_refl _) o
  generalize kids l (-1) = K at *
  go_enter Try.func18, Try.ntmps18
  go_wp2
  go_loopw [5, 7] (fun u u7 w' => ∃ (k : Nat) (v : Value) (R out : List Int), k ≤ len ∧ 0 ≤ k ∧ u7 = .int .i64 (k : Int) ∧ R.length ≤ k ∧ out.length ≤ k ∧ Stk w' w.heap.size w.heap.size v R ∧ w'.ownsRow w.heap.size 3 1 u out.length (out.map (Value.int .i64)) ∧ Apart u v ∧ opened l (k : Int) = R ∧ Gathers l (-1) k out K ∧ Below w.heap.size w w') (fun _ u7 _ => len - (intOf u7).toNat)
  case atStart => exact ⟨0, _, [], [], by omega, by omega, by simp, by simp, by simp, HN0.out, World.ownsRow_nil _ _ _ _, fun _ h => by simp [Value.ownBlock] at h, HS0.out, HG0.out, HB0.out _⟩
  case round =>
    obtain ⟨k, v, R, out, hk, hik, rfl, hR, hO, hS, hu, hA, hSi, hG, hB⟩ := hrel
    clear HS0 HG0 HN0 HB0
    by_cases hlt : k < len
    · obtain ⟨b, o, x, rfl, hbl, hx, hc⟩ := hl.token hlt
      obtain ⟨c0, c1, c2, c3⟩ := hc wr hB
      have hst0 : Hid (opened l ((k + 1 : Nat) : Int) = turn x k R ∧ Gathers l (-1) (k + 1) (kept (-1) x k R out) K) := by
        show _ ∧ _
        rw [opened_succ l k x hx, hSi]
        exact ⟨rfl, by have := kids_out (by omega) hx hG; rw [hSi] at this; exact this⟩
      have hst := hst0.out
      clear hst0
      have HL := turn_length_le x k R
      have HOL : Hid ((kept (-1) x k R out).length ≤ k + 1) := by
        show (kept (-1) x k R out).length ≤ k + 1
        unfold kept
        split <;> first | omega | (simp; omega)
      have HTop : Hid (∀ o, Calls Try.prog 34 #[.pointer (some ⟨w.heap.size, 0, none⟩)] (wr.alloc o) fun e w' => e = .returned (.int .i64 (R.getLast?.getD (-1))) ∧ ∃ q, w' = (wr.alloc o).drewN q) := fun o => ftop_calls _ _ _ _ _ (hS.alloc o) (by omega)
      have HPart := fun W => fispart_calls x W
      have HPass : Hid (∀ W u (n : Nat) (xs : List Value), Stk W w.heap.size w.heap.size v R → W.ownsRow w.heap.size 3 1 u n xs → Apart u v → w.heap.size ≤ W.heap.size → Calls Try.prog 36 #[.pointer (some ⟨w.heap.size, 0, none⟩), .int .i64 (k : Int), tokV x] W fun e w' => e = .returned (.tuple #[]) ∧ ∃ v', Stk w' w.heap.size w.heap.size v' (turn x k R) ∧ w'.ownsRow w.heap.size 3 1 u n xs ∧ Apart u v' ∧ Below w.heap.size W w') := by
        intro W u n xs g1 g2 g3 g4
        refine (fpass_calls w.heap.size w.heap.size v R k x W g1 g4 (by omega)).mono ?_
        rintro e w' ⟨e1, v', e2, e3, e4⟩
        obtain ⟨f1, f2, f3⟩ := kids_pass g1 g2 g3 e3 e4
        exact ⟨e1, v', e2, f1, f2, f3⟩
      have HSz := hB.size
      have HTu : Hid (∀ j, u5.ownBlock = some j → j < wr.heap.size) := fun j hj => (own_base hu j hj).2.1
      rw [part_kept] at hst HOL
      clear hc hl hx hSi hG
      generalize turn x k R = R' at *
      generalize hy : R.getLast?.getD (-1) = y at *
      generalize part x = pq at *
      obtain ⟨xk, xt, xn, xm⟩ := x
      simp only [tokV] at *
      by_cases hyi : y = -1
      · subst hyi
        cases pq
        · rw [if_neg (fun h => by simp at h)] at hst HOL
          obtain ⟨g1, g2⟩ := hst
          have HE1 : Hid (opened l ((k + 1 : Nat) : Int) = R') := g1
          have HE2 : Hid (Gathers l (-1) (k + 1) (out) K) := g2
          clear g1 g2
          go_wp2_with fail
          refine (HTop.out _).mono ?_
          rintro e W0 ⟨rfl, q, rfl⟩
          go_wp2_with fail
          refine (HPart _).mono ?_
          rintro e W1 ⟨rfl, hB1⟩
          obtain ⟨t0, t1, t2, t3, hB2⟩ := tok_kept (below_of_drewN hB1)
          have sP := hS.below hB2
          have uP := own_below hu hB2 HSz
          have aP := hA
          have bP := hB.trans (hB2.mono HSz)
          have HZ1 := hB2.size
          clear hB2 hB1 HPart HTop
          go_wp2_with fail
          refine (HPass.out _ _ _ _ sP uP aP bP.size).mono ?_
          rintro e W2 ⟨rfl, v', s2, u2, a2, b2⟩
          have bQ := bP.trans b2
          clear sP uP aP bP b2 HPass
          obtain ⟨-, s33, -⟩ := s2.cells
          go_wp2
          go_roundw
          case rel => exact ⟨k + 1, v', R', out, by omega, by omega, rfl, by omega, HOL.out, s2, by simpa using u2, a2, HE1.out, HE2.out, bQ⟩
          case measure => simp [intOf]; omega
        · rw [if_pos ⟨rfl, rfl⟩] at hst HOL
          obtain ⟨g1, g2⟩ := hst
          have HE1 : Hid (opened l ((k + 1 : Nat) : Int) = R') := g1
          have HE2 : Hid (Gathers l (-1) (k + 1) (out ++ [(k : Int)]) K) := g2
          clear g1 g2
          go_wp2_with fail
          refine (HTop.out _).mono ?_
          rintro e W0 ⟨rfl, q, rfl⟩
          go_wp2_with fail
          refine (HPart _).mono ?_
          rintro e W1 ⟨rfl, hB1⟩
          obtain ⟨t0, t1, t2, t3, hB2⟩ := tok_kept (below_of_drewN hB1)
          have sP := hS.below hB2
          have uP := own_below hu hB2 HSz
          have aP := hA
          have bP := hB.trans (hB2.mono HSz)
          have HZ1 := hB2.size
          have HT1 : wr.heap.size < W1.heap.size := by
            have := hB1.size
            simp at this
            omega
          clear hB2 hB1 HPart HTop hS hu hA
          go_wp2_with (at_builtin; refine wpList_append_own_at _ rfl _ _ 45 rfl w.heap.size 3 i0 (.int .i64 0) 1 8 Try.underlying45 hi hz0 hz1 hz2 rfl (by decide) _ _ _ rfl (uP.alloc _) ⟨W1.heap.size, 0, none⟩ 1 1 [.int .i64 (k : Int)] rfl rfl (cell_one_new _ _ _) (by simp [Value.oneCell']) (by unfold maxLen; omega) (by omega) (by simp; omega) ?_; intro v2 w2 hown2 hgrow hnil2 hat; obtain ⟨sP2, aP2, hk2, bP2⟩ := kids_append sP uP aP hgrow hat; have hT := hk2 wr.heap.size HT1 (fun e => Nat.lt_irrefl _ (HTu.out _ e)); have r0 : w2.cell? ⟨wr.heap.size, 0, none⟩ = some (.int .i64 xk) := (World.cell?_of_block (a := ⟨wr.heap.size, 0, none⟩) hT).trans t0; have r1 : w2.cell? ⟨wr.heap.size, 1, none⟩ = some (.int .i64 xt) := (World.cell?_of_block (a := ⟨wr.heap.size, 1, none⟩) hT).trans t1; have r2 : w2.cell? ⟨wr.heap.size, 2, none⟩ = some (.int .i64 xn) := (World.cell?_of_block (a := ⟨wr.heap.size, 2, none⟩) hT).trans t2; have r3 : w2.cell? ⟨wr.heap.size, 3, none⟩ = some (.int .i64 xm) := (World.cell?_of_block (a := ⟨wr.heap.size, 3, none⟩) hT).trans t3; have bP3 := bP.trans bP2; clear sP uP aP bP hk2 bP2 hT t0 t1 t2 t3 hgrow hat hnil2)
          refine (HPass.out _ _ _ _ sP2 hown2 aP2 bP3.size).mono ?_
          rintro e W2 ⟨rfl, v', s2, u2, a2, b2⟩
          have bQ := bP3.trans b2
          clear sP2 hown2 aP2 bP3 b2 HPass
          obtain ⟨-, s33, -⟩ := s2.cells
          go_wp2
          go_roundw
          case rel => exact ⟨k + 1, v', R', out ++ [(k : Int)], by omega, by omega, rfl, by omega, HOL.out, s2, by simpa using u2, a2, HE1.out, HE2.out, bQ⟩
          case measure => simp [intOf]; omega
      · have ey : (y == -1) = false := by simpa using hyi
        rw [if_neg (fun h => hyi h.1)] at hst HOL
        obtain ⟨g1, g2⟩ := hst
        have HE1 : Hid (opened l ((k + 1 : Nat) : Int) = R') := g1
        have HE2 : Hid (Gathers l (-1) (k + 1) (out) K) := g2
        clear g1 g2
        go_wp2_with fail
        refine (HTop.out _).mono ?_
        rintro e W0 ⟨rfl, q, rfl⟩
        have bT : Below (wr.alloc (.cells #[.int .i64 xk, .int .i64 xt, .int .i64 xn, .int .i64 xm] 62)).heap.size (wr.alloc (.cells #[.int .i64 xk, .int .i64 xt, .int .i64 xn, .int .i64 xm] 62)) ((wr.alloc (.cells #[.int .i64 xk, .int .i64 xt, .int .i64 xn, .int .i64 xm] 62)).drewN q) := below_drewN (Below.refl _ _) _
        obtain ⟨t0, t1, t2, t3, hB2⟩ := tok_kept bT
        have sP := hS.below hB2
        have uP := own_below hu hB2 HSz
        have aP := hA
        have bP := hB.trans (hB2.mono HSz)
        clear hB2 bT HPart HTop
        go_wp2_with fail
        refine (HPass.out _ _ _ _ sP uP aP bP.size).mono ?_
        rintro e W2 ⟨rfl, v', s2, u2, a2, b2⟩
        have bQ := bP.trans b2
        clear sP uP aP bP b2 HPass
        obtain ⟨-, s33, -⟩ := s2.cells
        go_wp2
        go_roundw
        case rel => exact ⟨k + 1, v', R', out, by omega, by omega, rfl, by omega, HOL.out, s2, by simpa using u2, a2, HE1.out, HE2.out, bQ⟩
        case measure => simp [intOf]; omega
    · obtain rfl : k = len := by omega
      have HE : Hid (K = out) := kids_none (l := l) (i := -1) (by omega) (by rw [hL]; exact hG)
      obtain ⟨a', cap', hu', hr⟩ := row_of_owns hu
      rw [← HE.out] at hr hu'
      obtain ⟨N, hN⟩ : ∃ N, K.length = N := ⟨_, rfl⟩
      have HN : Hid (K.length = N) := hN
      rw [hN] at hr hu'
      clear hSi hG hS hu hA hl hN
      subst hu'
      go_wp2
      go_ret
      first | exact ⟨a', ⟨cap', by rw [HN.out]; rfl⟩, by rw [HN.out]; exact hr, hB⟩ | exact ⟨a', cap', by rw [HN.out]; rfl, by rw [HN.out]; exact hr, hB⟩
end Go.Proofs.Ytgpopploimeeaaa
