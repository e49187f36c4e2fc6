/-
  PROVED HERE: what the texts FKidsI, FKids, PDiff, GGrid say (each has its own words below).
-/
import Derived.Test.YtgpopploimeeaaaCB7
import Derived.Test.YtgpopploimeeaaaProg
import Derived.WalkKit
import Derived.WalkSmall
import Derived.BigQuiet
import Derived.BigRegion
import Derived.KernelRfl
import Derived.ProofKit
import Derived.RangeFuncRecord
import Derived.Deep.OwnRows
import Derived.Deep.LoopGhost
import Derived.Maps.AppendAt
import Derived.Deep.RegionHeld3
/- FKidsI: flat.Kids at every slice of tokens and every number: what it returns; nothing that lay before is turned. -/
namespace Go.Proofs.Ytgpopploimeeaaa
open Go.RowKit


set_option maxRecDepth 100000 in
set_option maxHeartbeats 1000000 in
theorem fkids_in (a : Option Addr) (len cap : Nat) (l : List Tok) (n : Nat) (w : World) (hl : Toks w a len l) (hsz : len ≤ 4398046511104) (hn : n < len) (hk1 : kindAt l n = 1) :
    Calls Try.prog 18 #[.slice a len cap, .int .i64 (n : Int)] w fun e w' => ∃ a' cap', e = .returned (.slice a' (kids l n).length cap') ∧ Row .i64 w' a' (kids l n).length (kids l n) ∧ Below w.heap.size w w' := by
  obtain ⟨i0, hi, hz0, hz1, hz2⟩ := info_parts info3
  have hL := hl.1
  have HG0 : Hid (Gathers l n n [] (kids l n)) := .inl ⟨rfl, rfl, by unfold kids; rw [if_neg (by rw [Int.toNat_natCast]; omega), show ((n : Int) + 1).toNat = n + 1 from by omega]⟩
  have HS0 : Hid (Since l n n []) := .inl ⟨rfl, rfl⟩
  have HN0 : Hid (Stk (w.alloc (.cells zeros 80)) w.heap.size w.heap.size (.slice none 0 0) []) := stk_new w
  have HB0 : Hid (∀ o, Below w.heap.size w (w.alloc o)) := fun o => (Below.refl _ w).alloc (Nat.le_refl _) o
  have HO := fisopen_calls a len cap l n w hl
  rw [show decide (0 ≤ (n : Int) ∧ (n : Int) < len ∧ kindAt l (n : Int).toNat = 1) = true from by rw [Int.toNat_natCast]; exact decide_eq_true ⟨by omega, by omega, hk1⟩] at HO
  have HK1 : Hid (kindAt l n = 1) := hk1
  have e1 : ((n : Int) == -1) = false := by rw [beq_eq_false_iff_ne]; omega
  clear hk1
  generalize kids l n = K at *
  go_enter Try.func18, Try.ntmps18
  go_wp2_with fail
  refine HO.mono ?_
  rintro e W ⟨rfl, hWw⟩
  rw [hWw]
  clear HO hWw
  go_wp2
  go_loopw [5, 7] (fun u u7 w' => ∃ (k : Nat) (v : Value) (R out : List Int), k ≤ len ∧ n ≤ k ∧ u7 = .int .i64 (k : Int) ∧ R.length ≤ k ∧ out.length ≤ k ∧ Stk w' w.heap.size w.heap.size v R ∧ w'.ownsRow w.heap.size 3 1 u out.length (out.map (Value.int .i64)) ∧ Apart u v ∧ Since l n k R ∧ Gathers l (n) k out K ∧ Below w.heap.size w w') (fun _ u7 _ => len - (intOf u7).toNat)
  case atStart => exact ⟨n, _, [], [], by omega, by omega, by simp, by simp, by simp, HN0.out, World.ownsRow_nil _ _ _ _, fun _ h => by simp [Value.ownBlock] at h, HS0.out, HG0.out, HB0.out _⟩
  case round =>
    obtain ⟨k, v, R, out, hk, hik, rfl, hR, hO, hS, hu, hA, hSi, hG, hB⟩ := hrel
    clear HS0 HG0 HN0 HB0
    by_cases hlt : k < len
    · obtain ⟨b, o, x, rfl, hbl, hx, hc⟩ := hl.token hlt
      obtain ⟨c0, c1, c2, c3⟩ := hc wr hB
      have hst := kids_step hSi hik (by omega) hx HK1.out hG
      have HL := turn_length_le x k R
      have HOL : Hid ((kept (n) x k R out).length ≤ k + 1) := by
        show (kept (n) x k R out).length ≤ k + 1
        unfold kept
        split <;> first | omega | (simp; omega)
      have HTop : Hid (∀ o, Calls Try.prog 34 #[.pointer (some ⟨w.heap.size, 0, none⟩)] (wr.alloc o) fun e w' => e = .returned (.int .i64 (R.getLast?.getD (-1))) ∧ ∃ q, w' = (wr.alloc o).drewN q) := fun o => ftop_calls _ _ _ _ _ (hS.alloc o) (by omega)
      have HPart := fun W => fispart_calls x W
      have HPass : Hid (∀ W u (n : Nat) (xs : List Value), Stk W w.heap.size w.heap.size v R → W.ownsRow w.heap.size 3 1 u n xs → Apart u v → w.heap.size ≤ W.heap.size → Calls Try.prog 36 #[.pointer (some ⟨w.heap.size, 0, none⟩), .int .i64 (k : Int), tokV x] W fun e w' => e = .returned (.tuple #[]) ∧ ∃ v', Stk w' w.heap.size w.heap.size v' (turn x k R) ∧ w'.ownsRow w.heap.size 3 1 u n xs ∧ Apart u v' ∧ Below w.heap.size W w') := by
        intro W u n xs g1 g2 g3 g4
        refine (fpass_calls w.heap.size w.heap.size v R k x W g1 g4 (by omega)).mono ?_
        rintro e w' ⟨e1, v', e2, e3, e4⟩
        obtain ⟨f1, f2, f3⟩ := kids_pass g1 g2 g3 e3 e4
        exact ⟨e1, v', e2, f1, f2, f3⟩
      have HSz := hB.size
      have HTu : Hid (∀ j, u5.ownBlock = some j → j < wr.heap.size) := fun j hj => (own_base hu j hj).2.1
      rw [part_kept] at hst HOL
      clear hc hl hx hSi hG
      generalize turn x k R = R' at *
      generalize hy : R.getLast?.getD (-1) = y at *
      generalize part x = pq at *
      obtain ⟨xk, xt, xn, xm⟩ := x
      simp only [tokV] at *
      by_cases hyi : y = n
      · subst hyi
        cases pq
        · rw [if_neg (fun h => by simp at h)] at hst HOL
          rcases hst with ⟨rfl, hE⟩ | ⟨h1, g1, g2⟩
          · have HE : Hid (K = out) := hE
            clear hE
            go_wp2_with fail
            refine (HTop.out _).mono ?_
            rintro e W0 ⟨rfl, q, rfl⟩
            go_wp2_with fail
            refine (HPart _).mono ?_
            rintro e W1 ⟨rfl, hB1⟩
            obtain ⟨t0, t1, t2, t3, hB2⟩ := tok_kept (below_of_drewN hB1)
            have sP := hS.below hB2
            have uP := own_below hu hB2 HSz
            have aP := hA
            have bP := hB.trans (hB2.mono HSz)
            have HZ1 := hB2.size
            clear hB2 hB1 HPart HTop
            go_wp2_with fail
            refine (HPass.out _ _ _ _ sP uP aP bP.size).mono ?_
            rintro e W2 ⟨rfl, v', s2, u2, a2, b2⟩
            have bQ := bP.trans b2
            clear sP uP aP bP b2 HPass
            obtain ⟨-, s33, -⟩ := s2.cells
            simp only [List.length_nil] at s33
            obtain ⟨a', cap', hu', hr⟩ := row_of_owns (n := (out).length) (bs := out) (by simpa using u2)
            rw [← HE.out] at hr hu'
            obtain ⟨N, hN⟩ : ∃ N, K.length = N := ⟨_, rfl⟩
            have HN : Hid (K.length = N) := hN
            rw [hN] at hr hu'
            clear u2 s2 a2 hN
            subst hu'
            go_wp2
            go_ret
            first | exact ⟨a', ⟨cap', by rw [HN.out]; rfl⟩, by rw [HN.out]; exact hr, bQ⟩ | exact ⟨a', cap', by rw [HN.out]; rfl, by rw [HN.out]; exact hr, bQ⟩
          · have HE1 : Hid (Since l n (k + 1) R') := g1
            have HE2 : Hid (Gathers l n (k + 1) (out) K) := g2
            have ne : ((R'.length : Int) == 0) = false := by simpa using h1
            clear h1 g1 g2
            go_wp2_with fail
            refine (HTop.out _).mono ?_
            rintro e W0 ⟨rfl, q, rfl⟩
            go_wp2_with fail
            refine (HPart _).mono ?_
            rintro e W1 ⟨rfl, hB1⟩
            obtain ⟨t0, t1, t2, t3, hB2⟩ := tok_kept (below_of_drewN hB1)
            have sP := hS.below hB2
            have uP := own_below hu hB2 HSz
            have aP := hA
            have bP := hB.trans (hB2.mono HSz)
            have HZ1 := hB2.size
            clear hB2 hB1 HPart HTop
            go_wp2_with fail
            refine (HPass.out _ _ _ _ sP uP aP bP.size).mono ?_
            rintro e W2 ⟨rfl, v', s2, u2, a2, b2⟩
            have bQ := bP.trans b2
            clear sP uP aP bP b2 HPass
            obtain ⟨-, s33, -⟩ := s2.cells
            go_wp2
            go_roundw
            case rel => exact ⟨k + 1, v', R', out, by omega, by omega, rfl, by omega, HOL.out, s2, by simpa using u2, a2, HE1.out, HE2.out, bQ⟩
            case measure => simp [intOf]; omega
        · rw [if_pos ⟨rfl, rfl⟩] at hst HOL
          rcases hst with ⟨rfl, hE⟩ | ⟨h1, g1, g2⟩
          · have HE : Hid (K = out ++ [(k : Int)]) := hE
            clear hE
            go_wp2_with fail
            refine (HTop.out _).mono ?_
            rintro e W0 ⟨rfl, q, rfl⟩
            go_wp2_with fail
            refine (HPart _).mono ?_
            rintro e W1 ⟨rfl, hB1⟩
            obtain ⟨t0, t1, t2, t3, hB2⟩ := tok_kept (below_of_drewN hB1)
            have sP := hS.below hB2
            have uP := own_below hu hB2 HSz
            have aP := hA
            have bP := hB.trans (hB2.mono HSz)
            have HZ1 := hB2.size
            have HT1 : wr.heap.size < W1.heap.size := by
              have := hB1.size
              simp at this
              omega
            clear hB2 hB1 HPart HTop hS hu hA
            go_wp2_with (at_builtin; refine wpList_append_own_at _ rfl _ _ 45 rfl w.heap.size 3 i0 (.int .i64 0) 1 8 Try.underlying45 hi hz0 hz1 hz2 rfl (by decide) _ _ _ rfl (uP.alloc _) ⟨W1.heap.size, 0, none⟩ 1 1 [.int .i64 (k : Int)] rfl rfl (cell_one_new _ _ _) (by simp [Value.oneCell']) (by unfold maxLen; omega) (by omega) (by simp; omega) ?_; intro v2 w2 hown2 hgrow hnil2 hat; obtain ⟨sP2, aP2, hk2, bP2⟩ := kids_append sP uP aP hgrow hat; have hT := hk2 wr.heap.size HT1 (fun e => Nat.lt_irrefl _ (HTu.out _ e)); have r0 : w2.cell? ⟨wr.heap.size, 0, none⟩ = some (.int .i64 xk) := (World.cell?_of_block (a := ⟨wr.heap.size, 0, none⟩) hT).trans t0; have r1 : w2.cell? ⟨wr.heap.size, 1, none⟩ = some (.int .i64 xt) := (World.cell?_of_block (a := ⟨wr.heap.size, 1, none⟩) hT).trans t1; have r2 : w2.cell? ⟨wr.heap.size, 2, none⟩ = some (.int .i64 xn) := (World.cell?_of_block (a := ⟨wr.heap.size, 2, none⟩) hT).trans t2; have r3 : w2.cell? ⟨wr.heap.size, 3, none⟩ = some (.int .i64 xm) := (World.cell?_of_block (a := ⟨wr.heap.size, 3, none⟩) hT).trans t3; have bP3 := bP.trans bP2; clear sP uP aP bP hk2 bP2 hT t0 t1 t2 t3 hgrow hat hnil2)
            refine (HPass.out _ _ _ _ sP2 hown2 aP2 bP3.size).mono ?_
            rintro e W2 ⟨rfl, v', s2, u2, a2, b2⟩
            have bQ := bP3.trans b2
            clear sP2 hown2 aP2 bP3 b2 HPass
            obtain ⟨-, s33, -⟩ := s2.cells
            simp only [List.length_nil] at s33
            obtain ⟨a', cap', hu', hr⟩ := row_of_owns (n := (out ++ [(k : Int)]).length) (bs := out ++ [(k : Int)]) (by simpa using u2)
            rw [← HE.out] at hr hu'
            obtain ⟨N, hN⟩ : ∃ N, K.length = N := ⟨_, rfl⟩
            have HN : Hid (K.length = N) := hN
            rw [hN] at hr hu'
            clear u2 s2 a2 hN
            subst hu'
            go_wp2
            go_ret
            first | exact ⟨a', ⟨cap', by rw [HN.out]; rfl⟩, by rw [HN.out]; exact hr, bQ⟩ | exact ⟨a', cap', by rw [HN.out]; rfl, by rw [HN.out]; exact hr, bQ⟩
          · have HE1 : Hid (Since l n (k + 1) R') := g1
            have HE2 : Hid (Gathers l n (k + 1) (out ++ [(k : Int)]) K) := g2
            have ne : ((R'.length : Int) == 0) = false := by simpa using h1
            clear h1 g1 g2
            go_wp2_with fail
            refine (HTop.out _).mono ?_
            rintro e W0 ⟨rfl, q, rfl⟩
            go_wp2_with fail
            refine (HPart _).mono ?_
            rintro e W1 ⟨rfl, hB1⟩
            obtain ⟨t0, t1, t2, t3, hB2⟩ := tok_kept (below_of_drewN hB1)
            have sP := hS.below hB2
            have uP := own_below hu hB2 HSz
            have aP := hA
            have bP := hB.trans (hB2.mono HSz)
            have HZ1 := hB2.size
            have HT1 : wr.heap.size < W1.heap.size := by
              have := hB1.size
              simp at this
              omega
            clear hB2 hB1 HPart HTop hS hu hA
            go_wp2_with (at_builtin; refine wpList_append_own_at _ rfl _ _ 45 rfl w.heap.size 3 i0 (.int .i64 0) 1 8 Try.underlying45 hi hz0 hz1 hz2 rfl (by decide) _ _ _ rfl (uP.alloc _) ⟨W1.heap.size, 0, none⟩ 1 1 [.int .i64 (k : Int)] rfl rfl (cell_one_new _ _ _) (by simp [Value.oneCell']) (by unfold maxLen; omega) (by omega) (by simp; omega) ?_; intro v2 w2 hown2 hgrow hnil2 hat; obtain ⟨sP2, aP2, hk2, bP2⟩ := kids_append sP uP aP hgrow hat; have hT := hk2 wr.heap.size HT1 (fun e => Nat.lt_irrefl _ (HTu.out _ e)); have r0 : w2.cell? ⟨wr.heap.size, 0, none⟩ = some (.int .i64 xk) := (World.cell?_of_block (a := ⟨wr.heap.size, 0, none⟩) hT).trans t0; have r1 : w2.cell? ⟨wr.heap.size, 1, none⟩ = some (.int .i64 xt) := (World.cell?_of_block (a := ⟨wr.heap.size, 1, none⟩) hT).trans t1; have r2 : w2.cell? ⟨wr.heap.size, 2, none⟩ = some (.int .i64 xn) := (World.cell?_of_block (a := ⟨wr.heap.size, 2, none⟩) hT).trans t2; have r3 : w2.cell? ⟨wr.heap.size, 3, none⟩ = some (.int .i64 xm) := (World.cell?_of_block (a := ⟨wr.heap.size, 3, none⟩) hT).trans t3; have bP3 := bP.trans bP2; clear sP uP aP bP hk2 bP2 hT t0 t1 t2 t3 hgrow hat hnil2)
            refine (HPass.out _ _ _ _ sP2 hown2 aP2 bP3.size).mono ?_
            rintro e W2 ⟨rfl, v', s2, u2, a2, b2⟩
            have bQ := bP3.trans b2
            clear sP2 hown2 aP2 bP3 b2 HPass
            obtain ⟨-, s33, -⟩ := s2.cells
            go_wp2
            go_roundw
            case rel => exact ⟨k + 1, v', R', out ++ [(k : Int)], by omega, by omega, rfl, by omega, HOL.out, s2, by simpa using u2, a2, HE1.out, HE2.out, bQ⟩
            case measure => simp [intOf]; omega
      · have ey : (y == n) = false := by simpa using hyi
        rw [if_neg (fun h => hyi h.1)] at hst HOL
        rcases hst with ⟨rfl, hE⟩ | ⟨h1, g1, g2⟩
        · have HE : Hid (K = out) := hE
          clear hE
          go_wp2_with fail
          refine (HTop.out _).mono ?_
          rintro e W0 ⟨rfl, q, rfl⟩
          have bT : Below (wr.alloc (.cells #[.int .i64 xk, .int .i64 xt, .int .i64 xn, .int .i64 xm] 62)).heap.size (wr.alloc (.cells #[.int .i64 xk, .int .i64 xt, .int .i64 xn, .int .i64 xm] 62)) ((wr.alloc (.cells #[.int .i64 xk, .int .i64 xt, .int .i64 xn, .int .i64 xm] 62)).drewN q) := below_drewN (Below.refl _ _) _
          obtain ⟨t0, t1, t2, t3, hB2⟩ := tok_kept bT
          have sP := hS.below hB2
          have uP := own_below hu hB2 HSz
          have aP := hA
          have bP := hB.trans (hB2.mono HSz)
          clear hB2 bT HPart HTop
          go_wp2_with fail
          refine (HPass.out _ _ _ _ sP uP aP bP.size).mono ?_
          rintro e W2 ⟨rfl, v', s2, u2, a2, b2⟩
          have bQ := bP.trans b2
          clear sP uP aP bP b2 HPass
          obtain ⟨-, s33, -⟩ := s2.cells
          simp only [List.length_nil] at s33
          obtain ⟨a', cap', hu', hr⟩ := row_of_owns (n := (out).length) (bs := out) (by simpa using u2)
          rw [← HE.out] at hr hu'
          obtain ⟨N, hN⟩ : ∃ N, K.length = N := ⟨_, rfl⟩
          have HN : Hid (K.length = N) := hN
          rw [hN] at hr hu'
          clear u2 s2 a2 hN
          subst hu'
          go_wp2
          go_ret
          first | exact ⟨a', ⟨cap', by rw [HN.out]; rfl⟩, by rw [HN.out]; exact hr, bQ⟩ | exact ⟨a', cap', by rw [HN.out]; rfl, by rw [HN.out]; exact hr, bQ⟩
        · have HE1 : Hid (Since l n (k + 1) R') := g1
          have HE2 : Hid (Gathers l n (k + 1) (out) K) := g2
          have ne : ((R'.length : Int) == 0) = false := by simpa using h1
          clear h1 g1 g2
          go_wp2_with fail
          refine (HTop.out _).mono ?_
          rintro e W0 ⟨rfl, q, rfl⟩
          have bT : Below (wr.alloc (.cells #[.int .i64 xk, .int .i64 xt, .int .i64 xn, .int .i64 xm] 62)).heap.size (wr.alloc (.cells #[.int .i64 xk, .int .i64 xt, .int .i64 xn, .int .i64 xm] 62)) ((wr.alloc (.cells #[.int .i64 xk, .int .i64 xt, .int .i64 xn, .int .i64 xm] 62)).drewN q) := below_drewN (Below.refl _ _) _
          obtain ⟨t0, t1, t2, t3, hB2⟩ := tok_kept bT
          have sP := hS.below hB2
          have uP := own_below hu hB2 HSz
          have aP := hA
          have bP := hB.trans (hB2.mono HSz)
          clear hB2 bT HPart HTop
          go_wp2_with fail
          refine (HPass.out _ _ _ _ sP uP aP bP.size).mono ?_
          rintro e W2 ⟨rfl, v', s2, u2, a2, b2⟩
          have bQ := bP.trans b2
          clear sP uP aP bP b2 HPass
          obtain ⟨-, s33, -⟩ := s2.cells
          go_wp2
          go_roundw
          case rel => exact ⟨k + 1, v', R', out, by omega, by omega, rfl, by omega, HOL.out, s2, by simpa using u2, a2, HE1.out, HE2.out, bQ⟩
          case measure => simp [intOf]; omega
    · obtain rfl : k = len := by omega
      have HE : Hid (K = out) := kids_none (l := l) (i := n) (by omega) (by rw [hL]; exact hG)
      obtain ⟨a', cap', hu', hr⟩ := row_of_owns hu
      rw [← HE.out] at hr hu'
      obtain ⟨N, hN⟩ : ∃ N, K.length = N := ⟨_, rfl⟩
      have HN : Hid (K.length = N) := hN
      rw [hN] at hr hu'
      clear hSi hG hS hu hA hl hN
      subst hu'
      go_wp2
      go_ret
      first | exact ⟨a', ⟨cap', by rw [HN.out]; rfl⟩, by rw [HN.out]; exact hr, hB⟩ | exact ⟨a', cap', by rw [HN.out]; rfl, by rw [HN.out]; exact hr, hB⟩
end Go.Proofs.Ytgpopploimeeaaa

/- FKids: flat.Kids at every slice of tokens and every number: what it returns; nothing that lay before is turned. -/
namespace Go.Proofs.Ytgpopploimeeaaa
open Go.RowKit


set_option maxRecDepth 100000 in
set_option maxHeartbeats 2000000 in
theorem fkids_calls (a : Option Addr) (len cap : Nat) (l : List Tok) (i : Int) (w : World) (hl : Toks w a len l) (hsz : len ≤ 4398046511104) :
    Calls Try.prog 18 #[.slice a len cap, .int .i64 i] w fun e w' => ∃ a' cap', e = .returned (.slice a' (kids l i).length cap') ∧ Row .i64 w' a' (kids l i).length (kids l i) ∧ Below w.heap.size w w' := by
  by_cases hm : i = -1
  · subst hm
    exact fkids_out a len cap l w hl hsz
  by_cases hO : 0 ≤ i ∧ i < len ∧ kindAt l i.toNat = 1
  · obtain ⟨n, rfl⟩ := Int.eq_ofNat_of_zero_le hO.1
    exact fkids_in a len cap l n w hl hsz (by omega) (by have := hO.2.2; rwa [Int.toNat_natCast] at this)
  have HO := fisopen_calls a len cap l i w hl
  rw [decide_eq_false hO] at HO
  rw [show kids l i = [] from by unfold kids; rw [if_pos (by rw [hl.1]; omega)]]
  have e1 : (i == -1) = false := by simpa using hm
  clear hl
  go_enter Try.func18, Try.ntmps18
  go_wp2_with fail
  refine HO.mono ?_
  rintro e W ⟨rfl, rfl⟩
  go_wp2
  go_ret
  first | exact ⟨none, ⟨0, rfl⟩, ⟨rfl, .inl rfl⟩, Below.refl _ _⟩ | exact ⟨none, 0, rfl, ⟨rfl, .inl rfl⟩, Below.refl _ _⟩
end Go.Proofs.Ytgpopploimeeaaa

/- PDiff:  -/
namespace Go.Proofs.Ytgpopploimeeaaa

section
variable (like : Nat → Nat → Bool) (n m : Nat)

/-- How long the longest pairs are in the last a of the one and the last b of the other. -/
def lastP : Nat → Nat → Nat
  | 0, _ => 0
  | _ + 1, 0 => 0
  | a + 1, b + 1 => if like (n - (a + 1)) (m - (b + 1)) then max (max (lastP a (b + 1)) (lastP (a + 1) b)) (1 + lastP a b) else max (lastP a (b + 1)) (lastP (a + 1) b)
/-- From the places i and j on. -/
def longP (i j : Nat) : Nat := lastP like n m (n - i) (m - j)

theorem lastP_zero (a : Nat) : lastP like n m a 0 = 0 := by
  cases a with
  | zero => unfold lastP; rfl
  | succ a => unfold lastP; rfl
theorem longP_row {i : Nat} (h : n ≤ i) (j : Nat) : longP like n m i j = 0 := by
  unfold longP
  rw [show n - i = 0 by omega]
  unfold lastP
  rfl
theorem longP_col (i : Nat) {j : Nat} (h : m ≤ j) : longP like n m i j = 0 := by
  unfold longP
  rw [show m - j = 0 by omega]
  exact lastP_zero like n m _
theorem longP_step {i j : Nat} (hi : i < n) (hj : j < m) : longP like n m i j = if like i j then max (max (longP like n m (i + 1) j) (longP like n m i (j + 1))) (1 + longP like n m (i + 1) (j + 1)) else max (longP like n m (i + 1) j) (longP like n m i (j + 1)) := by
  have e1 : n - i = (n - (i + 1)) + 1 := by omega
  have e2 : m - j = (m - (j + 1)) + 1 := by omega
  unfold longP
  rw [e1, e2]
  rw [lastP]
  rw [show n - (n - (i + 1) + 1) = i by omega, show m - (m - (j + 1) + 1) = j by omega]

theorem lastP_le : ∀ a b : Nat, lastP like n m a b ≤ a
  | 0, _ => by unfold lastP; exact Nat.le_refl _
  | a + 1, 0 => by unfold lastP; exact Nat.zero_le _
  | a + 1, b + 1 => by
    have h1 := lastP_le a (b + 1)
    have h2 := lastP_le (a + 1) b
    have h3 := lastP_le a b
    rw [lastP]
    split <;> omega
theorem longP_le (i j : Nat) : longP like n m i j ≤ n - i := lastP_le like n m _ _

/-- A pair that some longest pairs from i and j on begin with. -/
def Opens (i j p q : Nat) : Prop := like p q = true ∧ 1 + longP like n m (p + 1) (q + 1) = longP like n m i j
/-- The least one. -/
structure IsNext (i j p q : Nat) : Prop where
  ip : i ≤ p
  pn : p < n
  jq : j ≤ q
  qm : q < m
  opens : Opens like n m i j p q
  rows : ∀ p' q', i ≤ p' → p' < p → j ≤ q' → q' < m → ¬ Opens like n m i j p' q'
  row : ∀ q', j ≤ q' → q' < q → ¬ Opens like n m i j p q'
/-- The longest pairs, of as many the least. -/
def IsPairs : Nat → Nat → List (Nat × Nat) → Prop
  | i, j, [] => longP like n m i j = 0
  | i, j, x :: l => 0 < longP like n m i j ∧ IsNext like n m i j x.1 x.2 ∧ IsPairs (x.1 + 1) (x.2 + 1) l

variable {like n m}
theorem IsNext.same {i j p q p' q' : Nat} (h : IsNext like n m i j p q) (h' : IsNext like n m i j p' q') : p = p' ∧ q = q' := by
  have hp : p = p' := by
    rcases Nat.lt_trichotomy p p' with e | e | e
    · exact absurd h.opens (h'.rows p q h.ip e h.jq h.qm)
    · exact e
    · exact absurd h'.opens (h.rows p' q' h'.ip e h'.jq h'.qm)
  subst hp
  refine ⟨rfl, ?_⟩
  rcases Nat.lt_trichotomy q q' with e | e | e
  · exact absurd h.opens (h'.row q h.jq e)
  · exact e
  · exact absurd h'.opens (h.row q' h'.jq e)
theorem IsPairs.same : ∀ {l l' : List (Nat × Nat)} {i j : Nat}, IsPairs like n m i j l → IsPairs like n m i j l' → l = l'
  | [], [], _, _, _, _ => rfl
  | [], _ :: _, _, _, h, h' => by
    have h : longP like n m _ _ = 0 := h
    have := h'.1
    omega
  | _ :: _, [], _, _, h, h' => by
    have h' : longP like n m _ _ = 0 := h'
    have := h.1
    omega
  | x :: l, y :: l', _, _, h, h' => by
    obtain ⟨e1, e2⟩ := h.2.1.same h'.2.1
    have h2 := h.2.2
    rw [e1, e2] at h2
    rw [IsPairs.same h2 h'.2.2, show x = y from Prod.ext e1 e2]

/-- Some pair opens. -/
theorem opens_some : ∀ (k i j : Nat), (n - i) + (m - j) ≤ k → 0 < longP like n m i j → ∃ p q, i ≤ p ∧ p < n ∧ j ≤ q ∧ q < m ∧ Opens like n m i j p q
  | 0, i, j, hk, h => by
    rw [longP_row like n m (by omega)] at h
    omega
  | k + 1, i, j, hk, h => by
    by_cases hi : i < n
    · by_cases hj : j < m
      · have hs := longP_step like n m hi hj
        have up : longP like n m (i + 1) j = longP like n m i j → ∃ p q, i ≤ p ∧ p < n ∧ j ≤ q ∧ q < m ∧ Opens like n m i j p q := fun e => by
          obtain ⟨p, q, a1, a2, a3, a4, a5, a6⟩ := opens_some k (i + 1) j (by omega) (by omega)
          exact ⟨p, q, by omega, a2, a3, a4, a5, by rw [a6, e]⟩
        have right : longP like n m i (j + 1) = longP like n m i j → ∃ p q, i ≤ p ∧ p < n ∧ j ≤ q ∧ q < m ∧ Opens like n m i j p q := fun e => by
          obtain ⟨p, q, a1, a2, a3, a4, a5, a6⟩ := opens_some k i (j + 1) (by omega) (by omega)
          exact ⟨p, q, a1, a2, by omega, a4, a5, by rw [a6, e]⟩
        by_cases hl : like i j = true
        · rw [if_pos hl] at hs
          by_cases h1 : longP like n m (i + 1) j = longP like n m i j
          · exact up h1
          · by_cases h2 : longP like n m i (j + 1) = longP like n m i j
            · exact right h2
            · exact ⟨i, j, Nat.le_refl _, hi, Nat.le_refl _, hj, hl, by clear up right; omega⟩
        · rw [if_neg hl] at hs
          by_cases h1 : longP like n m (i + 1) j = longP like n m i j
          · exact up h1
          · exact right (by clear up right; omega)
      · rw [longP_col like n m i (by omega)] at h
        omega
    · rw [longP_row like n m (by omega)] at h
      omega
end
end Go.Proofs.Ytgpopploimeeaaa

/- GGrid: rows within rows in memory: what they hold, one cell set, what keeps them. -/
namespace Go.Proofs.Ytgpopploimeeaaa
open Go.RowKit

theorem hide_ {p : Prop} (h : p) : Hid p := h

/-- n rows of m cells, in blocks from base on. -/
structure Grd (W : World) (base g n m : Nat) (rb : Nat → Nat) (f : Nat → Nat → Value) : Prop where
  top : ∀ i, i < n → W.cell? ⟨g, i, none⟩ = some (.slice (some ⟨rb i, 0, none⟩) m m)
  row : ∀ i j, i < n → j < m → W.cell? ⟨rb i, j, none⟩ = some (f i j)
  fro : ∀ i j, i < n → W.frozen? ⟨rb i, j, none⟩ = false
  ne : ∀ i, i < n → rb i ≠ g
  inj : ∀ i k, i < n → k < n → rb i = rb k → i = k
  gb : base ≤ g
  rge : ∀ i, i < n → base ≤ rb i
  gl : g < W.heap.size
  rl : ∀ i, i < n → rb i < W.heap.size

section
variable {W W' : World} {base g n m : Nat} {rb : Nat → Nat} {f : Nat → Nat → Value}
theorem Grd.below (h : Grd W base g n m rb f) (hB : Below W.heap.size W W') : Grd W' base g n m rb f :=
  ⟨fun i hi => (hB.cell (p := ⟨g, i, none⟩) h.gl).trans (h.top i hi), fun i j hi hj => (hB.cell (p := ⟨rb i, j, none⟩) (h.rl i hi)).trans (h.row i j hi hj), fun i j hi => (hB.frozen (p := ⟨rb i, j, none⟩) (h.rl i hi)).trans (h.fro i j hi), h.ne, h.inj, h.gb, h.rge, Nat.lt_of_lt_of_le h.gl hB.size, fun i hi => Nat.lt_of_lt_of_le (h.rl i hi) hB.size⟩
theorem Grd.kept (h : Grd W base g n m rb f) (hs : W.heap.size ≤ W'.heap.size) (hg : W'.heap[g]? = W.heap[g]?) (hr : ∀ i, i < n → W'.heap[rb i]? = W.heap[rb i]?) : Grd W' base g n m rb f :=
  ⟨fun i hi => (World.cell?_of_block (w := W) hg).trans (h.top i hi), fun i j hi hj => (World.cell?_of_block (w := W) (hr i hi)).trans (h.row i j hi hj), fun i j hi => (World.frozen?_of_block (w := W) (hr i hi)).trans (h.fro i j hi), h.ne, h.inj, h.gb, h.rge, Nat.lt_of_lt_of_le h.gl hs, fun i hi => Nat.lt_of_lt_of_le (h.rl i hi) hs⟩
/-- One cell set. -/
theorem Grd.set (h : Grd W base g n m rb f) (i j : Nat) (hi : i < n) (hj : j < m) (v : Value) : Grd (W.setCell ⟨rb i, j, none⟩ v) base g n m rb (fun p q => if p = i ∧ q = j then v else f p q) := by
  have hs : (W.setCell ⟨rb i, j, none⟩ v).heap.size = W.heap.size := by simp [World.setCell]
  refine ⟨fun p hp => ?_, fun p q hp hq => ?_, fun p q hp => ?_, h.ne, h.inj, h.gb, h.rge, by rw [hs]; exact h.gl, fun p hp => by rw [hs]; exact h.rl p hp⟩
  · rw [World.cell?_setCell_other _ _ _ _ (by intro e; exact h.ne i hi (by cases e; rfl))]
    exact h.top p hp
  · by_cases e : p = i ∧ q = j
    · obtain ⟨rfl, rfl⟩ := e
      rw [if_pos ⟨rfl, rfl⟩]
      exact World.cell?_setCell_same _ _ _ (h.row p q hp hq)
    · rw [if_neg e, World.cell?_setCell_other _ _ _ _ (by
        intro e2
        apply e
        have e3 := congrArg Addr.block e2
        have e4 := congrArg Addr.off e2
        exact ⟨h.inj _ _ hp hi e3.symm, e4.symm⟩)]
      exact h.row p q hp hq
  · rw [World.frozen?_setCell]
    exact h.fro p q hp
end
end Go.Proofs.Ytgpopploimeeaaa
