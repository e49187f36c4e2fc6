/-
  PROVED HERE: what the texts FPart, FKidsO, FKidsI, FKids, WordO, WordFt, FaultI, FirstF say (each has its own words below).
-/
import Derived.Test.YtofkiaeocfpkeaaGreatDoorSW13
/- FPart: flat.isOpen, flat.isPart and flat.Kids at every slice of tokens and every number: what they return; nothing that lay before is turned. -/
namespace Go.Proofs.YtofkiaeocfpkeaaGreatDoor
open Go.RowKit

set_option maxRecDepth 100000 in
set_option maxHeartbeats 1000000 in
theorem fisopen_calls (a : Option Addr) (len cap : Nat) (l : List Tok) (i : Int) (w : World) (hl : Toks w a len l) :
    Calls Tryz.prog 80 #[.slice a len cap, .int .i64 i] w fun e w' => e = .returned (.bool (decide (0 ≤ i ∧ i < len ∧ kindAt l i.toNat = 1))) ∧ w' = w := by
  by_cases h0 : 0 ≤ i
  · by_cases h1 : i < len
    · obtain ⟨n, rfl⟩ := Int.eq_ofNat_of_zero_le h0
      obtain ⟨b, o, rfl, hbl, hc⟩ := hl.kindAt (k := n) (by omega)
      have hc0 := hc w (Below.refl _ _)
      rw [show decide (0 ≤ (n : Int) ∧ (n : Int) < len ∧ kindAt l (n : Int).toNat = 1) = (kindAt l n == 1) from by rw [Bool.eq_iff_iff]; simp; omega]
      clear hc
      generalize kindAt l n = z at *
      go_enter Tryz.func80, Tryz.ntmps80
      go_wp2
      go_ret
      exact ⟨rfl, rfl⟩
    · rw [show decide (0 ≤ i ∧ i < len ∧ kindAt l i.toNat = 1) = false from by simp; omega]
      have e1 : decide (i < (len : Int)) = false := by simpa using h1
      go_enter Tryz.func80, Tryz.ntmps80
      go_wp2
      go_ret
      exact ⟨rfl, rfl⟩
  · rw [show decide (0 ≤ i ∧ i < len ∧ kindAt l i.toNat = 1) = false from by simp; omega]
    have e1 : decide (0 ≤ i) = false := by simpa using h0
    go_enter Tryz.func80, Tryz.ntmps80
    go_wp2
    go_ret
    exact ⟨rfl, rfl⟩
def part (x : Tok) : Bool := x.k == 0 || (x.k == 1 || x.k == 3)
set_option maxRecDepth 100000 in
set_option maxHeartbeats 1000000 in
theorem fispart_calls (x : Tok) (w : World) : Calls Tryz.prog 82 #[tokV x] w fun e w' => e = .returned (.bool (part x)) ∧ Below w.heap.size w w' := by
  obtain ⟨k, t, n, m⟩ := x
  unfold part tokV
  simp only
  by_cases k0 : k = 0
  · subst k0
    go_enter Tryz.func82, Tryz.ntmps82
    go_wp2
    go_ret
    exact ⟨rfl, (Below.refl _ _).alloc (Nat.le_refl _) _⟩
  have e0 : (k == 0) = false := by simpa using k0
  by_cases k1 : k = 1
  · subst k1
    go_enter Tryz.func82, Tryz.ntmps82
    go_wp2
    go_ret
    exact ⟨rfl, (Below.refl _ _).alloc (Nat.le_refl _) _⟩
  have e1 : (k == 1) = false := by simpa using k1
  by_cases k3 : k = 3
  · subst k3
    go_enter Tryz.func82, Tryz.ntmps82
    go_wp2
    go_ret
    exact ⟨rfl, (Below.refl _ _).alloc (Nat.le_refl _) _⟩
  have e3 : (k == 3) = false := by simpa using k3
  rw [e0, e1, e3]
  go_enter Tryz.func82, Tryz.ntmps82
  go_wp2
  go_ret
  exact ⟨rfl, (Below.refl _ _).alloc (Nat.le_refl _) _⟩

/-- Two rows of the call's own lie apart. -/
def Apart (u v : Value) : Prop := ∀ k, u.ownBlock = some k → v.ownBlock ≠ some k
/-- Behind an append to the row u: the stack is as it was. -/
theorem kids_append {w w2 : World} {B g : Nat} {u u2 v : Value} {R : List Int} {o : Obj} {n : Nat} {xs : List Value} (hS : Stk w B g v R) (hu : w.ownsRow B 3 1 u n xs) (hA : Apart u v) (hgrow : (w.alloc o).grownBy w2 u.ownBlock) (hat : u2.ownBlock = u.ownBlock ∨ u2.ownBlock = some (w.alloc o).heap.size) :
    Stk w2 B g v R ∧ Apart u2 v ∧ (∀ k, k < w.heap.size → u.ownBlock ≠ some k → w2.heap[k]? = w.heap[k]?) ∧ Below B w w2 := by
  have hk : ∀ k, k < w.heap.size → u.ownBlock ≠ some k → w2.heap[k]? = w.heap[k]? := fun k h1 h2 => by
    rw [hgrow.block k (by simp; omega) (fun e => h2 e.symm), Below.heap_alloc w o k h1]
  have hg := hS.cells.2.2.2.2.2
  obtain ⟨h0, h1, cs, h2, h3⟩ := hS
  have hug : u.ownBlock ≠ some g := by
    intro e
    obtain ⟨_, _, cur, h4⟩ := own_base hu g e
    rw [h2] at h4
    exact absurd (Obj.cells.inj (Option.some.inj h4)).2.1 (by decide)
  refine ⟨⟨h0, ?_, cs, (hk g hg hug).trans h2, h3⟩, ?_, hk, ?_⟩
  · obtain ⟨k1, k2 | ⟨b, cap, cur, rfl, hb, hc, k3⟩⟩ := h1
    · exact ⟨k1, .inl k2⟩
    · refine ⟨k1, .inr ⟨b, cap, cur, rfl, hb, ?_, k3⟩⟩
      rw [hk b (Array.getElem?_eq_some_iff.1 hc).1 (fun e => hA b e rfl)]
      exact hc
  · intro k hk2
    rcases hat with e | e
    · exact hA k (e ▸ hk2)
    · intro hv
      have := (own_base h1 k hv).2.1
      rw [e] at hk2
      simp at hk2
      omega
  · have hBw : B ≤ w.heap.size := by omega
    exact ⟨hgrow.os, hgrow.tape, hgrow.output, by have := hgrow.size; simp at this; omega, fun k hk2 => hk k (by omega) (fun e => by have := (own_base hu k e).1; omega)⟩
/-- Behind a pass: the row u is as it was. -/
theorem kids_pass {w w2 : World} {B g : Nat} {u v v' : Value} {R : List Int} {n : Nat} {xs : List Value} (hS : Stk w B g v R) (hu : w.ownsRow B 3 1 u n xs) (hA : Apart u v) (hK : KeptS g v.ownBlock w w2) (hF : v'.ownBlock = v.ownBlock ∨ ∀ k, v'.ownBlock = some k → w.heap.size ≤ k) :
    w2.ownsRow B 3 1 u n xs ∧ Apart u v' ∧ Below B w w2 := by
  have hg := hS.cells.2.2.2.2.2
  obtain ⟨h0, h1, cs, h2, h3⟩ := hS
  have hug : u.ownBlock ≠ some g := by
    intro e
    obtain ⟨_, _, cur, h4⟩ := own_base hu g e
    rw [h2] at h4
    exact absurd (Obj.cells.inj (Option.some.inj h4)).2.1 (by decide)
  refine ⟨?_, ?_, hK.below h0 (fun k e => (own_base h1 k e).1) (by omega)⟩
  · obtain ⟨k1, k2 | ⟨b, cap, cur, rfl, hb, hc, k3⟩⟩ := hu
    · exact ⟨k1, .inl k2⟩
    · refine ⟨k1, .inr ⟨b, cap, cur, rfl, hb, ?_, k3⟩⟩
      rw [hK.block b (Array.getElem?_eq_some_iff.1 hc).1 (fun e => hug (by simp [Value.ownBlock, e])) (fun e => hA b rfl e.symm)]
      exact hc
  · intro k hk
    rcases hF with e | e
    · rw [e]
      exact hA k hk
    · intro hv
      have := e k hv
      have := (own_base hu k hk).2.1
      omega
theorem part_kept (i : Int) (x : Tok) (k : Nat) (S out : List Int) : kept i x k S out = if S.getLast?.getD (-1) = i ∧ part x = true then out ++ [(k : Int)] else out := by
  have hp : part x = true ↔ (x.k = 0 ∨ x.k = 1 ∨ x.k = 3) := by simp [part]
  unfold kept
  by_cases h : S.getLast?.getD (-1) = i ∧ part x = true
  · rw [if_pos h, if_pos ⟨h.1, hp.1 h.2⟩]
  · rw [if_neg h, if_neg (fun h2 => h ⟨h2.1, hp.2 h2.2⟩)]
/-- A row, and how much room is behind it. -/
def RowC (k : IntKind) (w : World) (a : Option Addr) (len cap : Nat) (zs : List Int) : Prop := Row k w a len zs ∧ len ≤ cap ∧ cap ≤ 9223372036854775807
theorem rowc_of_owns {W : World} {base : Nat} {e : TypeId} {k : IntKind} {v : Value} {n : Nat} {bs : List Int} (h : W.ownsRow base e 1 v n (bs.map (Value.int k))) : ∃ a cap, v = .slice a n cap ∧ RowC k W a n cap bs := by
  obtain ⟨a, cap, hv, hr⟩ := row_of_owns h
  refine ⟨a, cap, hv, hr, ?_⟩
  rcases h.2 with ⟨e1, e2⟩ | ⟨g, c, cur, e1, _, _, h1, h2, _⟩
  · rw [hv] at e1
    injection e1 with _ h1 h2
    subst h2
    omega
  · rw [hv] at e1
    injection e1 with _ _ h3
    subst h3
    unfold maxLen at h2
    omega
end Go.Proofs.YtofkiaeocfpkeaaGreatDoor

/- FKidsO: flat.Kids at every slice of tokens and every number: what it returns; nothing that lay before is turned. -/
namespace Go.Proofs.YtofkiaeocfpkeaaGreatDoor
open Go.RowKit

theorem below_of_drewN {B : Nat} {w W : World} {q : Nat} (h : Below B (w.drewN q) W) : Below B w W := ⟨h.os, h.tape, h.output, h.size, h.block⟩

set_option maxRecDepth 100000 in
set_option maxHeartbeats 1000000 in
theorem fkids_out (a : Option Addr) (len cap : Nat) (l : List Tok) (w : World) (hl : Toks w a len l) (hsz : len ≤ 4398046511104) :
    Calls Tryz.prog 32 #[.slice a len cap, .int .i64 (-1)] w fun e w' => ∃ a' cap', e = .returned (.slice a' (kids l (-1)).length cap') ∧ RowC .i64 w' a' (kids l (-1)).length cap' (kids l (-1)) ∧ Below w.heap.size w w' := by
  obtain ⟨i0, hi, hz0, hz1, hz2⟩ := info_parts info3
  have hL := hl.1
  have HG0 : Hid (Gathers l (-1) 0 [] (kids l (-1))) := .inr ⟨by omega, by unfold kids; rw [if_neg (by omega)]; rfl⟩
  have HS0 : Hid (opened l ((0 : Nat) : Int) = []) := opened_zero l
  have HN0 : Hid (Stk (w.alloc (.cells zeros 136)) w.heap.size w.heap.size (.slice none 0 0) []) := stk_new w
  have HB0 : Hid (∀ o, Below w.heap.size w (w.alloc o)) := fun o => (Below.refl _ w).alloc (Nat.le_refl _) o
  generalize kids l (-1) = K at *
  go_enter Tryz.func32, Tryz.ntmps32
  go_wp2
  go_loopw [5, 7] (fun u u7 w' => ∃ (k : Nat) (v : Value) (R out : List Int), k ≤ len ∧ 0 ≤ k ∧ u7 = .int .i64 (k : Int) ∧ R.length ≤ k ∧ out.length ≤ k ∧ Stk w' w.heap.size w.heap.size v R ∧ w'.ownsRow w.heap.size 3 1 u out.length (out.map (Value.int .i64)) ∧ Apart u v ∧ opened l (k : Int) = R ∧ Gathers l (-1) k out K ∧ Below w.heap.size w w') (fun _ u7 _ => len - (intOf u7).toNat)
  case atStart => exact ⟨0, _, [], [], by omega, by omega, by first | (simp; done) | (simp; decide), by simp, by simp, HN0.out, World.ownsRow_nil _ _ _ _, fun _ h => by simp [Value.ownBlock] at h, HS0.out, HG0.out, HB0.out _⟩
  case round =>
    obtain ⟨k, v, R, out, hk, hik, rfl, hR, hO, hS, hu, hA, hSi, hG, hB⟩ := hrel
    clear HS0 HG0 HN0 HB0
    by_cases hlt : k < len
    · obtain ⟨b, o, x, rfl, hbl, hx, hc⟩ := hl.token hlt
      obtain ⟨c0, c1, c2, c3⟩ := hc wr hB
      have hst0 : Hid (opened l ((k + 1 : Nat) : Int) = turn x k R ∧ Gathers l (-1) (k + 1) (kept (-1) x k R out) K) := by
        show _ ∧ _
        rw [opened_succ l k x hx, hSi]
        exact ⟨rfl, by have := kids_out (by omega) hx hG; rw [hSi] at this; exact this⟩
      have hst := hst0.out
      clear hst0
      have HL := turn_length_le x k R
      have HOL : Hid ((kept (-1) x k R out).length ≤ k + 1) := by
        show (kept (-1) x k R out).length ≤ k + 1
        unfold kept
        split <;> first | omega | (simp; omega)
      have HTop : Hid (∀ o, Calls Tryz.prog 81 #[.pointer (some ⟨w.heap.size, 0, none⟩)] (wr.alloc o) fun e w' => e = .returned (.int .i64 (R.getLast?.getD (-1))) ∧ ∃ q, w' = (wr.alloc o).drewN q) := fun o => ftop_calls _ _ _ _ _ (hS.alloc o) (by omega)
      have HPart := fun W => fispart_calls x W
      have HPass : Hid (∀ W u (n : Nat) (xs : List Value), Stk W w.heap.size w.heap.size v R → W.ownsRow w.heap.size 3 1 u n xs → Apart u v → w.heap.size ≤ W.heap.size → Calls Tryz.prog 79 #[.pointer (some ⟨w.heap.size, 0, none⟩), .int .i64 (k : Int), tokV x] W fun e w' => e = .returned (.tuple #[]) ∧ ∃ v', Stk w' w.heap.size w.heap.size v' (turn x k R) ∧ w'.ownsRow w.heap.size 3 1 u n xs ∧ Apart u v' ∧ Below w.heap.size W w') := by
        intro W u n xs g1 g2 g3 g4
        refine (fpass_calls w.heap.size w.heap.size v R k x W g1 g4 (by omega)).mono ?_
        rintro e w' ⟨e1, v', e2, e3, e4⟩
        obtain ⟨f1, f2, f3⟩ := kids_pass g1 g2 g3 e3 e4
        exact ⟨e1, v', e2, f1, f2, f3⟩
      have HSz := hB.size
      have HTu : Hid (∀ j, u5.ownBlock = some j → j < wr.heap.size) := fun j hj => (own_base hu j hj).2.1
      rw [part_kept] at hst HOL
      clear hc hl hx hSi hG
      generalize turn x k R = R' at *
      generalize hy : R.getLast?.getD (-1) = y at *
      generalize part x = pq at *
      obtain ⟨xk, xt, xn, xm⟩ := x
      simp only [tokV] at *
      by_cases hyi : y = -1
      · subst hyi
        cases pq
        · rw [if_neg (fun h => by simp at h)] at hst HOL
          obtain ⟨g1, g2⟩ := hst
          have HE1 : Hid (opened l ((k + 1 : Nat) : Int) = R') := g1
          have HE2 : Hid (Gathers l (-1) (k + 1) (out) K) := g2
          clear g1 g2
          go_wp2_with fail
          refine (HTop.out _).mono ?_
          rintro e W0 ⟨rfl, q, rfl⟩
          go_wp2_with fail
          refine (HPart _).mono ?_
          rintro e W1 ⟨rfl, hB1⟩
          obtain ⟨t0, t1, t2, t3, hB2⟩ := tok_kept (below_of_drewN hB1)
          have sP := hS.below hB2
          have uP := own_below hu hB2 HSz
          have aP := hA
          have bP := hB.trans (hB2.mono HSz)
          have HZ1 := hB2.size
          clear hB2 hB1 HPart HTop
          go_wp2_with fail
          refine (HPass.out _ _ _ _ sP uP aP bP.size).mono ?_
          rintro e W2 ⟨rfl, v', s2, u2, a2, b2⟩
          have bQ := bP.trans b2
          clear sP uP aP bP b2 HPass
          obtain ⟨-, s33, -⟩ := s2.cells
          go_wp2
          go_roundw
          case rel => exact ⟨k + 1, v', R', out, by omega, by omega, rfl, by omega, HOL.out, s2, by simpa using u2, a2, HE1.out, HE2.out, bQ⟩
          case measure => simp [intOf]; omega
        · rw [if_pos ⟨rfl, rfl⟩] at hst HOL
          obtain ⟨g1, g2⟩ := hst
          have HE1 : Hid (opened l ((k + 1 : Nat) : Int) = R') := g1
          have HE2 : Hid (Gathers l (-1) (k + 1) (out ++ [(k : Int)]) K) := g2
          clear g1 g2
          go_wp2_with fail
          refine (HTop.out _).mono ?_
          rintro e W0 ⟨rfl, q, rfl⟩
          go_wp2_with fail
          refine (HPart _).mono ?_
          rintro e W1 ⟨rfl, hB1⟩
          obtain ⟨t0, t1, t2, t3, hB2⟩ := tok_kept (below_of_drewN hB1)
          have sP := hS.below hB2
          have uP := own_below hu hB2 HSz
          have aP := hA
          have bP := hB.trans (hB2.mono HSz)
          have HZ1 := hB2.size
          have HT1 : wr.heap.size < W1.heap.size := by
            have := hB1.size
            simp at this
            omega
          clear hB2 hB1 HPart HTop hS hu hA
          go_wp2_with (at_builtin; refine wpList_append_own_at _ rfl _ _ 23 rfl w.heap.size 3 i0 (.int .i64 0) 1 8 Tryz.underlying23 hi hz0 hz1 hz2 rfl (by decide) _ _ _ rfl (uP.alloc _) ⟨W1.heap.size, 0, none⟩ 1 1 [.int .i64 (k : Int)] rfl rfl (cell_one_new _ _ _) (by simp [Value.oneCell']) (by unfold maxLen; omega) (by omega) (by simp; omega) ?_; intro v2 w2 hown2 hgrow hnil2 hat; obtain ⟨sP2, aP2, hk2, bP2⟩ := kids_append sP uP aP hgrow hat; have hT := hk2 wr.heap.size HT1 (fun e => Nat.lt_irrefl _ (HTu.out _ e)); have r0 : w2.cell? ⟨wr.heap.size, 0, none⟩ = some (.int .i64 xk) := (World.cell?_of_block (a := ⟨wr.heap.size, 0, none⟩) hT).trans t0; have r1 : w2.cell? ⟨wr.heap.size, 1, none⟩ = some (.int .i64 xt) := (World.cell?_of_block (a := ⟨wr.heap.size, 1, none⟩) hT).trans t1; have r2 : w2.cell? ⟨wr.heap.size, 2, none⟩ = some (.int .i64 xn) := (World.cell?_of_block (a := ⟨wr.heap.size, 2, none⟩) hT).trans t2; have r3 : w2.cell? ⟨wr.heap.size, 3, none⟩ = some (.int .i64 xm) := (World.cell?_of_block (a := ⟨wr.heap.size, 3, none⟩) hT).trans t3; have bP3 := bP.trans bP2; clear sP uP aP bP hk2 bP2 hT t0 t1 t2 t3 hgrow hat hnil2)
          refine (HPass.out _ _ _ _ sP2 hown2 aP2 bP3.size).mono ?_
          rintro e W2 ⟨rfl, v', s2, u2, a2, b2⟩
          have bQ := bP3.trans b2
          clear sP2 hown2 aP2 bP3 b2 HPass
          obtain ⟨-, s33, -⟩ := s2.cells
          go_wp2
          go_roundw
          case rel => exact ⟨k + 1, v', R', out ++ [(k : Int)], by omega, by omega, rfl, by omega, HOL.out, s2, by simpa using u2, a2, HE1.out, HE2.out, bQ⟩
          case measure => simp [intOf]; omega
      · have ey : (y == -1) = false := by simpa using hyi
        rw [if_neg (fun h => hyi h.1)] at hst HOL
        obtain ⟨g1, g2⟩ := hst
        have HE1 : Hid (opened l ((k + 1 : Nat) : Int) = R') := g1
        have HE2 : Hid (Gathers l (-1) (k + 1) (out) K) := g2
        clear g1 g2
        go_wp2_with fail
        refine (HTop.out _).mono ?_
        rintro e W0 ⟨rfl, q, rfl⟩
        have bT : Below (wr.alloc (.cells #[.int .i64 xk, .int .i64 xt, .int .i64 xn, .int .i64 xm] 62)).heap.size (wr.alloc (.cells #[.int .i64 xk, .int .i64 xt, .int .i64 xn, .int .i64 xm] 62)) ((wr.alloc (.cells #[.int .i64 xk, .int .i64 xt, .int .i64 xn, .int .i64 xm] 62)).drewN q) := below_drewN (Below.refl _ _) _
        obtain ⟨t0, t1, t2, t3, hB2⟩ := tok_kept bT
        have sP := hS.below hB2
        have uP := own_below hu hB2 HSz
        have aP := hA
        have bP := hB.trans (hB2.mono HSz)
        clear hB2 bT HPart HTop
        go_wp2_with fail
        refine (HPass.out _ _ _ _ sP uP aP bP.size).mono ?_
        rintro e W2 ⟨rfl, v', s2, u2, a2, b2⟩
        have bQ := bP.trans b2
        clear sP uP aP bP b2 HPass
        obtain ⟨-, s33, -⟩ := s2.cells
        go_wp2
        go_roundw
        case rel => exact ⟨k + 1, v', R', out, by omega, by omega, rfl, by omega, HOL.out, s2, by simpa using u2, a2, HE1.out, HE2.out, bQ⟩
        case measure => simp [intOf]; omega
    · obtain rfl : k = len := by omega
      have HE : Hid (K = out) := kids_none (l := l) (i := -1) (by omega) (by rw [hL]; exact hG)
      obtain ⟨a', cap', hu', hr⟩ := rowc_of_owns hu
      rw [← HE.out] at hr hu'
      obtain ⟨N, hN⟩ : ∃ N, K.length = N := ⟨_, rfl⟩
      have HN : Hid (K.length = N) := hN
      rw [hN] at hr hu'
      clear hSi hG hS hu hA hl hN
      subst hu'
      go_wp2
      go_ret
      first | exact ⟨a', ⟨cap', by rw [HN.out]; rfl⟩, by rw [HN.out]; exact hr, hB⟩ | exact ⟨a', cap', by rw [HN.out]; rfl, by rw [HN.out]; exact hr, hB⟩
end Go.Proofs.YtofkiaeocfpkeaaGreatDoor

/- FKidsI: flat.Kids at every slice of tokens and every number: what it returns; nothing that lay before is turned. -/
namespace Go.Proofs.YtofkiaeocfpkeaaGreatDoor
open Go.RowKit


set_option maxRecDepth 100000 in
set_option maxHeartbeats 1000000 in
theorem fkids_in (a : Option Addr) (len cap : Nat) (l : List Tok) (n : Nat) (w : World) (hl : Toks w a len l) (hsz : len ≤ 4398046511104) (hn : n < len) (hk1 : kindAt l n = 1) :
    Calls Tryz.prog 32 #[.slice a len cap, .int .i64 (n : Int)] w fun e w' => ∃ a' cap', e = .returned (.slice a' (kids l n).length cap') ∧ RowC .i64 w' a' (kids l n).length cap' (kids l n) ∧ Below w.heap.size w w' := by
  obtain ⟨i0, hi, hz0, hz1, hz2⟩ := info_parts info3
  have hL := hl.1
  have HG0 : Hid (Gathers l n n [] (kids l n)) := .inl ⟨rfl, rfl, by unfold kids; rw [if_neg (by rw [Int.toNat_natCast]; omega), show ((n : Int) + 1).toNat = n + 1 from by omega]⟩
  have HS0 : Hid (Since l n n []) := .inl ⟨rfl, rfl⟩
  have HN0 : Hid (Stk (w.alloc (.cells zeros 136)) w.heap.size w.heap.size (.slice none 0 0) []) := stk_new w
  have HB0 : Hid (∀ o, Below w.heap.size w (w.alloc o)) := fun o => (Below.refl _ w).alloc (Nat.le_refl _) o
  have HO := fisopen_calls a len cap l n w hl
  rw [show decide (0 ≤ (n : Int) ∧ (n : Int) < len ∧ kindAt l (n : Int).toNat = 1) = true from by rw [Int.toNat_natCast]; exact decide_eq_true ⟨by omega, by omega, hk1⟩] at HO
  have HK1 : Hid (kindAt l n = 1) := hk1
  have e1 : ((n : Int) == -1) = false := by rw [beq_eq_false_iff_ne]; omega
  clear hk1
  generalize kids l n = K at *
  go_enter Tryz.func32, Tryz.ntmps32
  go_wp2_with fail
  refine HO.mono ?_
  rintro e W ⟨rfl, hWw⟩
  rw [hWw]
  clear HO hWw
  go_wp2
  go_loopw [5, 7] (fun u u7 w' => ∃ (k : Nat) (v : Value) (R out : List Int), k ≤ len ∧ n ≤ k ∧ u7 = .int .i64 (k : Int) ∧ R.length ≤ k ∧ out.length ≤ k ∧ Stk w' w.heap.size w.heap.size v R ∧ w'.ownsRow w.heap.size 3 1 u out.length (out.map (Value.int .i64)) ∧ Apart u v ∧ Since l n k R ∧ Gathers l (n) k out K ∧ Below w.heap.size w w') (fun _ u7 _ => len - (intOf u7).toNat)
  case atStart => exact ⟨n, _, [], [], by omega, by omega, by simp, by simp, by simp, HN0.out, World.ownsRow_nil _ _ _ _, fun _ h => by simp [Value.ownBlock] at h, HS0.out, HG0.out, HB0.out _⟩
  case round =>
    obtain ⟨k, v, R, out, hk, hik, rfl, hR, hO, hS, hu, hA, hSi, hG, hB⟩ := hrel
    clear HS0 HG0 HN0 HB0
    by_cases hlt : k < len
    · obtain ⟨b, o, x, rfl, hbl, hx, hc⟩ := hl.token hlt
      obtain ⟨c0, c1, c2, c3⟩ := hc wr hB
      have hst := kids_step hSi hik (by omega) hx HK1.out hG
      have HL := turn_length_le x k R
      have HOL : Hid ((kept (n) x k R out).length ≤ k + 1) := by
        show (kept (n) x k R out).length ≤ k + 1
        unfold kept
        split <;> first | omega | (simp; omega)
      have HTop : Hid (∀ o, Calls Tryz.prog 81 #[.pointer (some ⟨w.heap.size, 0, none⟩)] (wr.alloc o) fun e w' => e = .returned (.int .i64 (R.getLast?.getD (-1))) ∧ ∃ q, w' = (wr.alloc o).drewN q) := fun o => ftop_calls _ _ _ _ _ (hS.alloc o) (by omega)
      have HPart := fun W => fispart_calls x W
      have HPass : Hid (∀ W u (n : Nat) (xs : List Value), Stk W w.heap.size w.heap.size v R → W.ownsRow w.heap.size 3 1 u n xs → Apart u v → w.heap.size ≤ W.heap.size → Calls Tryz.prog 79 #[.pointer (some ⟨w.heap.size, 0, none⟩), .int .i64 (k : Int), tokV x] W fun e w' => e = .returned (.tuple #[]) ∧ ∃ v', Stk w' w.heap.size w.heap.size v' (turn x k R) ∧ w'.ownsRow w.heap.size 3 1 u n xs ∧ Apart u v' ∧ Below w.heap.size W w') := by
        intro W u n xs g1 g2 g3 g4
        refine (fpass_calls w.heap.size w.heap.size v R k x W g1 g4 (by omega)).mono ?_
        rintro e w' ⟨e1, v', e2, e3, e4⟩
        obtain ⟨f1, f2, f3⟩ := kids_pass g1 g2 g3 e3 e4
        exact ⟨e1, v', e2, f1, f2, f3⟩
      have HSz := hB.size
      have HTu : Hid (∀ j, u5.ownBlock = some j → j < wr.heap.size) := fun j hj => (own_base hu j hj).2.1
      rw [part_kept] at hst HOL
      clear hc hl hx hSi hG
      generalize turn x k R = R' at *
      generalize hy : R.getLast?.getD (-1) = y at *
      generalize part x = pq at *
      obtain ⟨xk, xt, xn, xm⟩ := x
      simp only [tokV] at *
      by_cases hyi : y = n
      · subst hyi
        cases pq
        · rw [if_neg (fun h => by simp at h)] at hst HOL
          rcases hst with ⟨rfl, hE⟩ | ⟨h1, g1, g2⟩
          · have HE : Hid (K = out) := hE
            clear hE
            go_wp2_with fail
            refine (HTop.out _).mono ?_
            rintro e W0 ⟨rfl, q, rfl⟩
            go_wp2_with fail
            refine (HPart _).mono ?_
            rintro e W1 ⟨rfl, hB1⟩
            obtain ⟨t0, t1, t2, t3, hB2⟩ := tok_kept (below_of_drewN hB1)
            have sP := hS.below hB2
            have uP := own_below hu hB2 HSz
            have aP := hA
            have bP := hB.trans (hB2.mono HSz)
            have HZ1 := hB2.size
            clear hB2 hB1 HPart HTop
            go_wp2_with fail
            refine (HPass.out _ _ _ _ sP uP aP bP.size).mono ?_
            rintro e W2 ⟨rfl, v', s2, u2, a2, b2⟩
            have bQ := bP.trans b2
            clear sP uP aP bP b2 HPass
            obtain ⟨-, s33, -⟩ := s2.cells
            simp only [List.length_nil] at s33
            obtain ⟨a', cap', hu', hr⟩ := rowc_of_owns (n := (out).length) (bs := out) (by simpa using u2)
            rw [← HE.out] at hr hu'
            obtain ⟨N, hN⟩ : ∃ N, K.length = N := ⟨_, rfl⟩
            have HN : Hid (K.length = N) := hN
            rw [hN] at hr hu'
            clear u2 s2 a2 hN
            subst hu'
            go_wp2
            go_ret
            first | exact ⟨a', ⟨cap', by rw [HN.out]; rfl⟩, by rw [HN.out]; exact hr, bQ⟩ | exact ⟨a', cap', by rw [HN.out]; rfl, by rw [HN.out]; exact hr, bQ⟩
          · have HE1 : Hid (Since l n (k + 1) R') := g1
            have HE2 : Hid (Gathers l n (k + 1) (out) K) := g2
            have ne : ((R'.length : Int) == 0) = false := by simpa using h1
            clear h1 g1 g2
            go_wp2_with fail
            refine (HTop.out _).mono ?_
            rintro e W0 ⟨rfl, q, rfl⟩
            go_wp2_with fail
            refine (HPart _).mono ?_
            rintro e W1 ⟨rfl, hB1⟩
            obtain ⟨t0, t1, t2, t3, hB2⟩ := tok_kept (below_of_drewN hB1)
            have sP := hS.below hB2
            have uP := own_below hu hB2 HSz
            have aP := hA
            have bP := hB.trans (hB2.mono HSz)
            have HZ1 := hB2.size
            clear hB2 hB1 HPart HTop
            go_wp2_with fail
            refine (HPass.out _ _ _ _ sP uP aP bP.size).mono ?_
            rintro e W2 ⟨rfl, v', s2, u2, a2, b2⟩
            have bQ := bP.trans b2
            clear sP uP aP bP b2 HPass
            obtain ⟨-, s33, -⟩ := s2.cells
            go_wp2
            go_roundw
            case rel => exact ⟨k + 1, v', R', out, by omega, by omega, rfl, by omega, HOL.out, s2, by simpa using u2, a2, HE1.out, HE2.out, bQ⟩
            case measure => simp [intOf]; omega
        · rw [if_pos ⟨rfl, rfl⟩] at hst HOL
          rcases hst with ⟨rfl, hE⟩ | ⟨h1, g1, g2⟩
          · have HE : Hid (K = out ++ [(k : Int)]) := hE
            clear hE
            go_wp2_with fail
            refine (HTop.out _).mono ?_
            rintro e W0 ⟨rfl, q, rfl⟩
            go_wp2_with fail
            refine (HPart _).mono ?_
            rintro e W1 ⟨rfl, hB1⟩
            obtain ⟨t0, t1, t2, t3, hB2⟩ := tok_kept (below_of_drewN hB1)
            have sP := hS.below hB2
            have uP := own_below hu hB2 HSz
            have aP := hA
            have bP := hB.trans (hB2.mono HSz)
            have HZ1 := hB2.size
            have HT1 : wr.heap.size < W1.heap.size := by
              have := hB1.size
              simp at this
              omega
            clear hB2 hB1 HPart HTop hS hu hA
            go_wp2_with (at_builtin; refine wpList_append_own_at _ rfl _ _ 23 rfl w.heap.size 3 i0 (.int .i64 0) 1 8 Tryz.underlying23 hi hz0 hz1 hz2 rfl (by decide) _ _ _ rfl (uP.alloc _) ⟨W1.heap.size, 0, none⟩ 1 1 [.int .i64 (k : Int)] rfl rfl (cell_one_new _ _ _) (by simp [Value.oneCell']) (by unfold maxLen; omega) (by omega) (by simp; omega) ?_; intro v2 w2 hown2 hgrow hnil2 hat; obtain ⟨sP2, aP2, hk2, bP2⟩ := kids_append sP uP aP hgrow hat; have hT := hk2 wr.heap.size HT1 (fun e => Nat.lt_irrefl _ (HTu.out _ e)); have r0 : w2.cell? ⟨wr.heap.size, 0, none⟩ = some (.int .i64 xk) := (World.cell?_of_block (a := ⟨wr.heap.size, 0, none⟩) hT).trans t0; have r1 : w2.cell? ⟨wr.heap.size, 1, none⟩ = some (.int .i64 xt) := (World.cell?_of_block (a := ⟨wr.heap.size, 1, none⟩) hT).trans t1; have r2 : w2.cell? ⟨wr.heap.size, 2, none⟩ = some (.int .i64 xn) := (World.cell?_of_block (a := ⟨wr.heap.size, 2, none⟩) hT).trans t2; have r3 : w2.cell? ⟨wr.heap.size, 3, none⟩ = some (.int .i64 xm) := (World.cell?_of_block (a := ⟨wr.heap.size, 3, none⟩) hT).trans t3; have bP3 := bP.trans bP2; clear sP uP aP bP hk2 bP2 hT t0 t1 t2 t3 hgrow hat hnil2)
            refine (HPass.out _ _ _ _ sP2 hown2 aP2 bP3.size).mono ?_
            rintro e W2 ⟨rfl, v', s2, u2, a2, b2⟩
            have bQ := bP3.trans b2
            clear sP2 hown2 aP2 bP3 b2 HPass
            obtain ⟨-, s33, -⟩ := s2.cells
            simp only [List.length_nil] at s33
            obtain ⟨a', cap', hu', hr⟩ := rowc_of_owns (n := (out ++ [(k : Int)]).length) (bs := out ++ [(k : Int)]) (by simpa using u2)
            rw [← HE.out] at hr hu'
            obtain ⟨N, hN⟩ : ∃ N, K.length = N := ⟨_, rfl⟩
            have HN : Hid (K.length = N) := hN
            rw [hN] at hr hu'
            clear u2 s2 a2 hN
            subst hu'
            go_wp2
            go_ret
            first | exact ⟨a', ⟨cap', by rw [HN.out]; rfl⟩, by rw [HN.out]; exact hr, bQ⟩ | exact ⟨a', cap', by rw [HN.out]; rfl, by rw [HN.out]; exact hr, bQ⟩
          · have HE1 : Hid (Since l n (k + 1) R') := g1
            have HE2 : Hid (Gathers l n (k + 1) (out ++ [(k : Int)]) K) := g2
            have ne : ((R'.length : Int) == 0) = false := by simpa using h1
            clear h1 g1 g2
            go_wp2_with fail
            refine (HTop.out _).mono ?_
            rintro e W0 ⟨rfl, q, rfl⟩
            go_wp2_with fail
            refine (HPart _).mono ?_
            rintro e W1 ⟨rfl, hB1⟩
            obtain ⟨t0, t1, t2, t3, hB2⟩ := tok_kept (below_of_drewN hB1)
            have sP := hS.below hB2
            have uP := own_below hu hB2 HSz
            have aP := hA
            have bP := hB.trans (hB2.mono HSz)
            have HZ1 := hB2.size
            have HT1 : wr.heap.size < W1.heap.size := by
              have := hB1.size
              simp at this
              omega
            clear hB2 hB1 HPart HTop hS hu hA
            go_wp2_with (at_builtin; refine wpList_append_own_at _ rfl _ _ 23 rfl w.heap.size 3 i0 (.int .i64 0) 1 8 Tryz.underlying23 hi hz0 hz1 hz2 rfl (by decide) _ _ _ rfl (uP.alloc _) ⟨W1.heap.size, 0, none⟩ 1 1 [.int .i64 (k : Int)] rfl rfl (cell_one_new _ _ _) (by simp [Value.oneCell']) (by unfold maxLen; omega) (by omega) (by simp; omega) ?_; intro v2 w2 hown2 hgrow hnil2 hat; obtain ⟨sP2, aP2, hk2, bP2⟩ := kids_append sP uP aP hgrow hat; have hT := hk2 wr.heap.size HT1 (fun e => Nat.lt_irrefl _ (HTu.out _ e)); have r0 : w2.cell? ⟨wr.heap.size, 0, none⟩ = some (.int .i64 xk) := (World.cell?_of_block (a := ⟨wr.heap.size, 0, none⟩) hT).trans t0; have r1 : w2.cell? ⟨wr.heap.size, 1, none⟩ = some (.int .i64 xt) := (World.cell?_of_block (a := ⟨wr.heap.size, 1, none⟩) hT).trans t1; have r2 : w2.cell? ⟨wr.heap.size, 2, none⟩ = some (.int .i64 xn) := (World.cell?_of_block (a := ⟨wr.heap.size, 2, none⟩) hT).trans t2; have r3 : w2.cell? ⟨wr.heap.size, 3, none⟩ = some (.int .i64 xm) := (World.cell?_of_block (a := ⟨wr.heap.size, 3, none⟩) hT).trans t3; have bP3 := bP.trans bP2; clear sP uP aP bP hk2 bP2 hT t0 t1 t2 t3 hgrow hat hnil2)
            refine (HPass.out _ _ _ _ sP2 hown2 aP2 bP3.size).mono ?_
            rintro e W2 ⟨rfl, v', s2, u2, a2, b2⟩
            have bQ := bP3.trans b2
            clear sP2 hown2 aP2 bP3 b2 HPass
            obtain ⟨-, s33, -⟩ := s2.cells
            go_wp2
            go_roundw
            case rel => exact ⟨k + 1, v', R', out ++ [(k : Int)], by omega, by omega, rfl, by omega, HOL.out, s2, by simpa using u2, a2, HE1.out, HE2.out, bQ⟩
            case measure => simp [intOf]; omega
      · have ey : (y == n) = false := by simpa using hyi
        rw [if_neg (fun h => hyi h.1)] at hst HOL
        rcases hst with ⟨rfl, hE⟩ | ⟨h1, g1, g2⟩
        · have HE : Hid (K = out) := hE
          clear hE
          go_wp2_with fail
          refine (HTop.out _).mono ?_
          rintro e W0 ⟨rfl, q, rfl⟩
          have bT : Below (wr.alloc (.cells #[.int .i64 xk, .int .i64 xt, .int .i64 xn, .int .i64 xm] 62)).heap.size (wr.alloc (.cells #[.int .i64 xk, .int .i64 xt, .int .i64 xn, .int .i64 xm] 62)) ((wr.alloc (.cells #[.int .i64 xk, .int .i64 xt, .int .i64 xn, .int .i64 xm] 62)).drewN q) := below_drewN (Below.refl _ _) _
          obtain ⟨t0, t1, t2, t3, hB2⟩ := tok_kept bT
          have sP := hS.below hB2
          have uP := own_below hu hB2 HSz
          have aP := hA
          have bP := hB.trans (hB2.mono HSz)
          clear hB2 bT HPart HTop
          go_wp2_with fail
          refine (HPass.out _ _ _ _ sP uP aP bP.size).mono ?_
          rintro e W2 ⟨rfl, v', s2, u2, a2, b2⟩
          have bQ := bP.trans b2
          clear sP uP aP bP b2 HPass
          obtain ⟨-, s33, -⟩ := s2.cells
          simp only [List.length_nil] at s33
          obtain ⟨a', cap', hu', hr⟩ := rowc_of_owns (n := (out).length) (bs := out) (by simpa using u2)
          rw [← HE.out] at hr hu'
          obtain ⟨N, hN⟩ : ∃ N, K.length = N := ⟨_, rfl⟩
          have HN : Hid (K.length = N) := hN
          rw [hN] at hr hu'
          clear u2 s2 a2 hN
          subst hu'
          go_wp2
          go_ret
          first | exact ⟨a', ⟨cap', by rw [HN.out]; rfl⟩, by rw [HN.out]; exact hr, bQ⟩ | exact ⟨a', cap', by rw [HN.out]; rfl, by rw [HN.out]; exact hr, bQ⟩
        · have HE1 : Hid (Since l n (k + 1) R') := g1
          have HE2 : Hid (Gathers l n (k + 1) (out) K) := g2
          have ne : ((R'.length : Int) == 0) = false := by simpa using h1
          clear h1 g1 g2
          go_wp2_with fail
          refine (HTop.out _).mono ?_
          rintro e W0 ⟨rfl, q, rfl⟩
          have bT : Below (wr.alloc (.cells #[.int .i64 xk, .int .i64 xt, .int .i64 xn, .int .i64 xm] 62)).heap.size (wr.alloc (.cells #[.int .i64 xk, .int .i64 xt, .int .i64 xn, .int .i64 xm] 62)) ((wr.alloc (.cells #[.int .i64 xk, .int .i64 xt, .int .i64 xn, .int .i64 xm] 62)).drewN q) := below_drewN (Below.refl _ _) _
          obtain ⟨t0, t1, t2, t3, hB2⟩ := tok_kept bT
          have sP := hS.below hB2
          have uP := own_below hu hB2 HSz
          have aP := hA
          have bP := hB.trans (hB2.mono HSz)
          clear hB2 bT HPart HTop
          go_wp2_with fail
          refine (HPass.out _ _ _ _ sP uP aP bP.size).mono ?_
          rintro e W2 ⟨rfl, v', s2, u2, a2, b2⟩
          have bQ := bP.trans b2
          clear sP uP aP bP b2 HPass
          obtain ⟨-, s33, -⟩ := s2.cells
          go_wp2
          go_roundw
          case rel => exact ⟨k + 1, v', R', out, by omega, by omega, rfl, by omega, HOL.out, s2, by simpa using u2, a2, HE1.out, HE2.out, bQ⟩
          case measure => simp [intOf]; omega
    · obtain rfl : k = len := by omega
      have HE : Hid (K = out) := kids_none (l := l) (i := n) (by omega) (by rw [hL]; exact hG)
      obtain ⟨a', cap', hu', hr⟩ := rowc_of_owns hu
      rw [← HE.out] at hr hu'
      obtain ⟨N, hN⟩ : ∃ N, K.length = N := ⟨_, rfl⟩
      have HN : Hid (K.length = N) := hN
      rw [hN] at hr hu'
      clear hSi hG hS hu hA hl hN
      subst hu'
      go_wp2
      go_ret
      first | exact ⟨a', ⟨cap', by rw [HN.out]; rfl⟩, by rw [HN.out]; exact hr, hB⟩ | exact ⟨a', cap', by rw [HN.out]; rfl, by rw [HN.out]; exact hr, hB⟩
end Go.Proofs.YtofkiaeocfpkeaaGreatDoor

/- FKids: flat.Kids at every slice of tokens and every number: what it returns; nothing that lay before is turned. -/
namespace Go.Proofs.YtofkiaeocfpkeaaGreatDoor
open Go.RowKit


set_option maxRecDepth 100000 in
set_option maxHeartbeats 2000000 in
theorem fkids_calls (a : Option Addr) (len cap : Nat) (l : List Tok) (i : Int) (w : World) (hl : Toks w a len l) (hsz : len ≤ 4398046511104) :
    Calls Tryz.prog 32 #[.slice a len cap, .int .i64 i] w fun e w' => ∃ a' cap', e = .returned (.slice a' (kids l i).length cap') ∧ RowC .i64 w' a' (kids l i).length cap' (kids l i) ∧ Below w.heap.size w w' := by
  by_cases hm : i = -1
  · subst hm
    exact fkids_out a len cap l w hl hsz
  by_cases hO : 0 ≤ i ∧ i < len ∧ kindAt l i.toNat = 1
  · obtain ⟨n, rfl⟩ := Int.eq_ofNat_of_zero_le hO.1
    exact fkids_in a len cap l n w hl hsz (by omega) (by have := hO.2.2; rwa [Int.toNat_natCast] at this)
  have HO := fisopen_calls a len cap l i w hl
  rw [decide_eq_false hO] at HO
  rw [show kids l i = [] from by unfold kids; rw [if_pos (by rw [hl.1]; omega)]]
  have e1 : (i == -1) = false := by simpa using hm
  clear hl
  go_enter Tryz.func32, Tryz.ntmps32
  go_wp2_with fail
  refine HO.mono ?_
  rintro e W ⟨rfl, rfl⟩
  go_wp2
  go_ret
  first | exact ⟨none, ⟨0, rfl⟩, ⟨⟨rfl, .inl rfl⟩, Nat.le_refl _, by decide⟩, Below.refl _ _⟩ | exact ⟨none, 0, rfl, ⟨⟨rfl, .inl rfl⟩, Nat.le_refl _, by decide⟩, Below.refl _ _⟩
end Go.Proofs.YtofkiaeocfpkeaaGreatDoor

/- WordO: schema's fits and wordOf: whether a token may stand in a type; the types of what stands at places. -/
namespace Go.Proofs.YtofkiaeocfpkeaaGreatDoor
open Go.RowKit

def specOf (ks : List KindD) (i : Nat) : SpecD := (ks[i]?.map (·.1)).getD zeroS
theorem specOf_some {ks : List KindD} {i : Nat} {x : KindD} (h : ks[i]? = some x) : specOf ks i = x.1 := by unfold specOf; rw [h]; rfl
/-- Whether a token may stand in a type, whatever stands beside it. -/
def fitsB (ks : List KindD) (s : SpecD) (x : Tok) : Bool := if x.k = 0 then takesR s x else if 1 ≤ x.t ∧ x.t < ks.length then mayBeB (specOf ks x.t.toNat) x else false
set_option maxRecDepth 100000 in
set_option maxHeartbeats 400000 in
theorem sfits_calls {B g c ng nc : Nat} {ks : List KindD} {gs : List Grp} {ts : List (DataW Unit)} (w : World) (h : SchAt w B g c ng nc ks gs ts) (h0 : 0 < ks.length) (x : Tok) (s : SpecD) (o : Nat) (hs : SpecAt w g o s) : Calls Tryz.prog 144 #[.pointer (some ⟨B, 0, none⟩), tokV x, .pointer (some ⟨g, o, none⟩)] w fun e w' => e = .returned (.bool (fitsB ks s x)) ∧ Below w.heap.size w w' := by
  obtain ⟨V, hV⟩ : ∃ V, V = w.alloc (.cells #[.int .i64 x.k, .int .i64 x.t, .int .i64 x.n, .int .i64 x.m] 62) := ⟨_, rfl⟩
  have hBV : Below w.heap.size w V := by rw [hV]; exact (Below.refl _ w).alloc (Nat.le_refl _) _
  have m0 : V.heap[w.heap.size]? = some (.cells #[.int .i64 x.k, .int .i64 x.t, .int .i64 x.n, .int .i64 x.m] 62 (0, 0)) := by rw [hV]; exact World.alloc_heap_new w _
  have hc := fun j => cell_of_row V w.heap.size j _ _ _ m0
  have k0 : V.cell? ⟨w.heap.size, 0, none⟩ = some (.int .i64 x.k) := hc 0
  have k1 : V.cell? ⟨w.heap.size, 1, none⟩ = some (.int .i64 x.t) := hc 1
  have k2 : V.cell? ⟨w.heap.size, 2, none⟩ = some (.int .i64 x.n) := hc 2
  have k3 : V.cell? ⟨w.heap.size, 3, none⟩ = some (.int .i64 x.m) := hc 3
  have HTR := takesrune_calls g o s x V (hs.same (hBV.block g h.glt)) (Nat.lt_of_lt_of_le h.glt hBV.size)
  have HTO := typeof_calls V (h.below hBV) h0 x.t
  have HMB : Hid (1 ≤ x.t ∧ x.t < ks.length → Calls Tryz.prog 166 #[.pointer (some ⟨g, x.t.toNat * 10, none⟩), tokV x] V fun e w' => e = .returned (.bool (mayBeB (specOf ks x.t.toNat) x)) ∧ Below V.heap.size V w') := fun hx => by
    obtain ⟨y, hy⟩ : ∃ y, ks[x.t.toNat]? = some y := ⟨_, List.getElem?_eq_getElem (by omega)⟩
    rw [specOf_some hy]
    exact maybe_calls g _ y.1 x V ((h.below hBV).kinds _ y hy).1 (h.below hBV).glt
  have HB : Hid (Below w.heap.size w V) := hBV
  have HV : Hid (w.alloc (.cells #[.int .i64 x.k, .int .i64 x.t, .int .i64 x.n, .int .i64 x.m] 62) = V) := hV.symm
  unfold fitsB
  unfold tokV at *
  clear h hs m0 hc hV hBV
  by_cases d0 : x.k = 0
  · rw [if_pos d0]
    have hd0 : (x.k == 0) = true := by simpa using d0
    generalize takesR s x = R at *
    clear HTO HMB d0
    go_enter Tryz.func144, Tryz.ntmps144
    go_wp2_with fail
    rw [HV.out]
    refine HTR.mono ?_
    rintro e W ⟨rfl, hB1⟩
    have HB1 : Hid (Below w.heap.size w W) := HB.out.trans (hB1.mono HB.out.size)
    clear hB1 HTR
    go_wp2
    go_ret
    exact ⟨rfl, HB1.out⟩
  · rw [if_neg d0]
    have hd0 : (x.k == 0) = false := by simpa using d0
    clear HTR d0
    by_cases d1 : 1 ≤ x.t ∧ x.t < ks.length
    · rw [if_pos d1] at HTO ⊢
      have HM := HMB.out d1
      generalize mayBeB (specOf ks x.t.toNat) x = R at *
      clear HMB d1
      go_enter Tryz.func144, Tryz.ntmps144
      go_wp2_with fail
      rw [HV.out]
      refine HTO.mono ?_
      rintro e W ⟨rfl, rfl⟩
      go_wp2_with fail
      refine HM.mono ?_
      rintro e W2 ⟨rfl, hB1⟩
      have HB1 : Hid (Below w.heap.size w W2) := HB.out.trans (hB1.mono HB.out.size)
      clear hB1 HM
      go_wp2
      go_ret
      exact ⟨rfl, HB1.out⟩
    · rw [if_neg d1] at HTO ⊢
      clear HMB d1
      go_enter Tryz.func144, Tryz.ntmps144
      go_wp2_with fail
      rw [HV.out]
      refine HTO.mono ?_
      rintro e W ⟨rfl, rfl⟩
      go_wp2
      go_ret
      exact ⟨rfl, HB.out⟩
/-- The types of what stands at places. -/
def typeAt (l : List Tok) (p : Int) : Int := ((l[p.toNat]?).map (·.t)).getD 0
def wordD (l : List Tok) (ps : List Int) : List Int := ps.map (typeAt l)
set_option maxRecDepth 100000 in
set_option maxHeartbeats 400000 in
theorem wordof_calls (a : Option Addr) (len cap : Nat) (l : List Tok) (ka : Option Addr) (kl kc : Nat) (ps : List Int) (w : World) (hl : Toks w a len l) (hk : Ints w ka kl ps) (hsz : len ≤ 2048) (hkl : kl ≤ 5000) (hps : ∀ p ∈ ps, 0 ≤ p ∧ p < len) :
    Calls Tryz.prog 61 #[.slice a len cap, .slice ka kl kc] w fun e w' => ∃ wa wc, e = .returned (.slice wa kl wc) ∧ w'.ownsRow w.heap.size 3 1 (.slice wa kl wc) kl (intsV (wordD l ps)) ∧ Below w.heap.size w w' := by
  have HL : Hid (∀ (X : World) (p : Nat), Below w.heap.size w X → p < len → ∃ b o x, a = some ⟨b, o, none⟩ ∧ l[p]? = some x ∧ X.cell? ⟨b, o + p * 4 + 1, none⟩ = some (.int .i64 x.t)) := fun X p hX hp => by
    obtain ⟨b, o, x, h1, _, h3, h4⟩ := hl.token hp
    exact ⟨b, o, x, h1, h3, (h4 X hX).2.1⟩
  have HK : Hid (∀ (X : World) (i : Nat), Below w.heap.size w X → i < kl → ∃ b o p, ka = some ⟨b, o, none⟩ ∧ ps[i]? = some p ∧ X.cell? ⟨b, o + i, none⟩ = some (.int .i64 p) ∧ 0 ≤ p ∧ p < len) := fun X i hX hi => by
    obtain ⟨b, o, p, h1, h2, h3⟩ := hk.at hi
    exact ⟨b, o, p, h1, h2, h3 X hX, hps p (List.mem_of_getElem? h2)⟩
  have HPL : Hid (ps.length = kl) := hk.1
  have hli : (len : Int) ≤ 2048 := by omega
  have hki : (kl : Int) ≤ 5000 := by omega
  have HO0 : Hid (w.ownsRow w.heap.size 3 1 (.slice none 0 0) 0 (intsV [])) := World.ownsRow_nil ..
  clear hl hk hps
  go_enter Tryz.func61, Tryz.ntmps61
  go_wp2
  go_loopg [5, 10] (kl + 1) (fun gk u v wr => ∃ (i : Nat) (ua : Option Addr) (uc : Nat), i ≤ kl ∧ kl < i + gk ∧ u = .slice ua i uc ∧ v = .int .i64 (i : Int) ∧ wr.ownsRow w.heap.size 3 1 (.slice ua i uc) i (intsV (wordD l (ps.take i))) ∧ Below w.heap.size w wr)
  case atStart => exact ⟨0, none, 0, Nat.zero_le _, by omega, rfl, rfl, HO0.out, Below.refl _ _⟩
  case round =>
    obtain ⟨i, ua, uc, hi, hgk, rfl, rfl, hown, hB⟩ := hrel
    clear HO0
    by_cases hlt : i < kl
    · obtain ⟨b, o, p, rfl, hp, c0, hp0, hp1⟩ := HK.out wr i hB hlt
      obtain ⟨q, rfl⟩ : ∃ q : Nat, p = (q : Int) := ⟨p.toNat, by omega⟩
      obtain ⟨b', o', x, rfl, hx, c1⟩ := HL.out wr q hB (by omega)
      have hii : (i : Int) < (kl : Int) := by omega
      have hi0 : (0 : Int) ≤ (i : Int) := by omega
      have hd : decide ((i : Int) < (kl : Int)) = true := by simpa using hii
      have hown2 := World.ownsRow.alloc hown (.cells #[.int .i64 x.t] 3)
      have hints := Ints.one (World.alloc_heap_new wr (.cells #[.int .i64 x.t] 3))
      have HW : Hid ((wr.alloc (.cells #[.int .i64 x.t] 3)).ownsRow w.heap.size 3 1 (.slice ua i uc) i (intsV (wordD l (ps.take i))) ∧ Ints (wr.alloc (.cells #[.int .i64 x.t] 3)) (some ⟨wr.heap.size, 0, none⟩) 1 [x.t] ∧ Below w.heap.size w (wr.alloc (.cells #[.int .i64 x.t] 3))) := ⟨hown2, hints, hB.alloc hB.size _⟩
      have hs1 : i + 1 ≤ 1000000000 := by omega
      have HT : Hid (wordD l (ps.take (i + 1)) = wordD l (ps.take i) ++ [x.t]) := by
        show wordD l (ps.take (i + 1)) = wordD l (ps.take i) ++ [x.t]
        unfold wordD
        rw [List.take_add_one, hp, List.map_append]
        congr 1
        show [typeAt l (q : Int)] = [x.t]
        unfold typeAt
        rw [Int.toNat_natCast, hx]
        rfl
      clear hown hB hown2 hints HK HL hp hx
      go_wp2_with (first
        | (at_builtin; refine wpList_append_ints rfl (.tmp 14) (.tmp 20) rfl w.heap.size _ i _ rfl HW.out.1 _ 1 1 [x.t] rfl (fun e => by cases e) HW.out.2.1 hs1 HW.out.2.2.size ?_; intro v1 W5 hown3 hB3; obtain ⟨va, vc, rfl⟩ := shape_owns hown3; have HN : Hid (W5.ownsRow w.heap.size 3 1 (.slice va (i + 1) vc) (i + 1) (intsV (wordD l (ps.take (i + 1)))) ∧ Below w.heap.size w W5) := ⟨by rw [HT.out]; exact hown3, HW.out.2.2.trans hB3⟩; clear hown3 hB3 HW HT)
        | fail)
      go_roundg (kl - i)
      case measure => omega
      case rel => exact ⟨i + 1, va, vc, by omega, by omega, rfl, by first | rfl | go_num, HN.out⟩
    · obtain rfl : i = kl := by omega
      have hd : decide ((i : Int) < (i : Int)) = false := by simp
      have HE : Hid (wr.ownsRow w.heap.size 3 1 (.slice ua i uc) i (intsV (wordD l ps)) ∧ Below w.heap.size w wr) := by
        rw [List.take_of_length_le (by have := HPL.out; omega)] at hown
        exact ⟨hown, hB⟩
      clear hown hB HK HL
      go_wp2
      go_ret
      exact ⟨ua, uc, rfl, HE.out⟩
end Go.Proofs.YtofkiaeocfpkeaaGreatDoor

/- WordFt: schema's wordFault: where what stands just in a TOpen stops to be a word, or to begin one. -/
namespace Go.Proofs.YtofkiaeocfpkeaaGreatDoor
open Go.RowKit

theorem long_uniq {gs : List Grp} {n : Nat} {t : DataW Unit} {zs : List Int} {i j : Nat} (h : LongD gs n t zs i) (h' : LongD gs n t zs j) : i = j := by
  have key : ∀ {i j : Nat}, LongD gs n t zs i → LongD gs n t zs j → j ≤ i := fun {i j} h h' => by
    rcases Nat.lt_or_ge i j with hlt | hge
    · exfalso
      have hp := h'.2.1
      have e : zs.take j = zs.take (i + 1) ++ (zs.take j).drop (i + 1) := by
        have := (List.take_append_drop (i + 1) (zs.take j)).symm
        rw [List.take_take, Nat.min_eq_left (by omega)] at this
        exact this
      rw [e] at hp
      exact h.2.2 (by have := h'.1; omega) (pre_less hp)
    · exact hge
  exact Nat.le_antisymm (key h' h) (key h h')
/-- How long the longest beginning is. -/
noncomputable def begN (gs : List Grp) (t : DataW Unit) (zs : List Int) : Nat := Classical.epsilon (LongD gs 200 t zs)
theorem begN_eq {gs : List Grp} {t : DataW Unit} {zs : List Int} {i : Nat} (h : LongD gs 200 t zs i) : begN gs t zs = i := long_uniq (Classical.epsilon_spec ⟨i, h⟩) h
/-- Where the kids of a place stop to be a word. -/
noncomputable def wordF (gs : List Grp) (t : DataW Unit) (l : List Tok) (i : Int) (ps : List Int) : Int :=
  open Classical in
  if LangD gs 200 t (wordD l ps) then 2049
  else if begN gs t (wordD l ps) < ps.length then ps.getD (begN gs t (wordD l ps)) 0
  else if i = -1 then l.length else partner l i
theorem row_setRow {X : World} {N b n : Nat} {v : Value} {xs : List Value} {old cs : Array Value} {f : Nat × Nat} (h : X.ownsRow b 3 1 v n xs) (m : X.heap[N]? = some (.cells old 26 f)) : (X.setRow N cs).ownsRow b 3 1 v n xs := by
  refine owns_same h fun k hk => ?_
  obtain ⟨_, cur, hcur⟩ := owns_lt h hk
  refine setRow_other _ _ _ _ (fun e => ?_)
  subst e
  rw [m] at hcur
  injection hcur with hk
  injection hk with _ h2 _
  exact absurd h2 (by decide)
set_option maxRecDepth 100000 in
set_option maxHeartbeats 2000000 in
theorem wordfault_calls {B g c ng nc : Nat} {ks : List KindD} {gs : List Grp} {ts : List (DataW Unit)} (w : World) (h : SchAt w B g c ng nc ks gs ts) (a : Option Addr) (len cap : Nat) (l : List Tok) (hl : Toks w a len l) (hlie : Lies a len cap) (hsz : len ≤ 2048) (i : Int) (kx : Nat) (t : DataW Unit) (ht : ts[kx]? = some t)
    (hka : ∀ X, Below w.heap.size w X → Calls Tryz.prog 62 #[.pointer (some ⟨B, 0, none⟩), .slice a len cap, .int .i64 i] X fun e w' => e = .returned (.pointer (some ⟨g, kx * 10, none⟩)) ∧ Below X.heap.size X w')
    (ka : Option Addr) (kl kc : Nat) (ps : List Int) (hk : Ints w ka kl ps) (hkl : kl ≤ 5000) (hps : ∀ p ∈ ps, 0 ≤ p ∧ p < len) :
    Calls Tryz.prog 145 #[.pointer (some ⟨B, 0, none⟩), .slice a len cap, .int .i64 i, .slice ka kl kc] w fun e w' => e = .returned (.int .i64 (wordF gs t l i ps)) ∧ Below w.heap.size w w' := by
  obtain ⟨x, hx⟩ : ∃ x, ks[kx]? = some x := ⟨_, List.getElem?_eq_getElem (by have := (List.getElem?_eq_some_iff.1 ht).1; have := h.len; omega)⟩
  obtain ⟨zs, hzs⟩ : ∃ zs, zs = wordD l ps := ⟨_, rfl⟩
  obtain ⟨gl, hgl⟩ : ∃ gl, gl = gs.length := ⟨_, rfl⟩
  have HKA := Hid.mk_ hka
  have HWO : Hid (∀ X, Below w.heap.size w X → Calls Tryz.prog 61 #[.slice a len cap, .slice ka kl kc] X fun e w' => ∃ wa wc, e = .returned (.slice wa kl wc) ∧ w'.ownsRow X.heap.size 3 1 (.slice wa kl wc) kl (intsV zs) ∧ Below X.heap.size X w') := fun X hX => by
    rw [hzs]
    exact wordof_calls a len cap l ka kl kc ps X (hl.below hX) (hk.below hX) hsz hkl hps
  have HPA : Hid (∀ X, Below w.heap.size w X → Calls Tryz.prog 33 #[.slice a len cap, .int .i64 i] X fun e w' => e = .returned (.int .i64 (partner l i)) ∧ Below X.heap.size X w') := fun X hX => fpartner_calls a len cap l i X (hl.below hX) (by omega) hlie
  have HKP : Hid (∀ X, Below w.heap.size w X → ∀ n, n < kl → ∃ b o p, ka = some ⟨b, o, none⟩ ∧ ps[n]? = some p ∧ X.cell? ⟨b, o + n, none⟩ = some (.int .i64 p)) := fun X hX n hn => by
    obtain ⟨b, o, p, h1, h2, h3⟩ := hk.at hn
    exact ⟨b, o, p, h1, h2, h3 X hX⟩
  have HSC : Hid (∀ X, Below w.heap.size w X → X.cell? ⟨B, 1, none⟩ = some (.slice (some ⟨ng, 0, none⟩) gl nc)) := fun X hX => by rw [hgl]; exact (h.cells X hX).2
  have hpl := hk.1
  have hll := hl.1
  obtain ⟨R, hR⟩ : ∃ R, wordF gs t l i ps = R := ⟨_, rfl⟩
  have hR' := hR
  unfold wordF at hR'
  rw [← hzs] at hR'
  have HF1 : Hid (LangD gs 200 t zs → R = 2049) := fun h1 => by rw [if_pos h1] at hR'; exact hR'.symm
  have HF2 : Hid (¬ LangD gs 200 t zs → ∀ n, LongD gs 200 t zs n → ∀ p, n < kl → ps[n]? = some p → R = p) := fun h1 n hn p h2 hp => by
    rw [if_neg h1, begN_eq hn, if_pos (by omega)] at hR'
    rw [← hR', List.getD_eq_getElem?_getD, hp]
    rfl
  have HF3 : Hid (¬ LangD gs 200 t zs → ∀ n, LongD gs 200 t zs n → ¬ n < kl → i = -1 → R = (len : Int)) := fun h1 n hn h2 h3 => by
    rw [if_neg h1, begN_eq hn, if_neg (by omega), if_pos h3] at hR'
    rw [← hR', hll]
  have HF4 : Hid (¬ LangD gs 200 t zs → ∀ n, LongD gs 200 t zs n → ¬ n < kl → i ≠ -1 → R = partner l i) := fun h1 n hn h2 h3 => by
    rw [if_neg h1, begN_eq hn, if_neg (by omega), if_neg h3] at hR'
    exact hR'.symm
  obtain ⟨⟨sp, tk, tn, ta, tl, tc⟩, hxx⟩ : ∃ y, x = y := ⟨_, rfl⟩
  subst hxx
  have HTC : Hid (∀ X, Below w.heap.size w X → X.cell? ⟨g, kx * 10 + 7, none⟩ = some (.int .i64 tk) ∧ X.cell? ⟨g, kx * 10 + 7 + 1, none⟩ = some (.string tn) ∧ X.cell? ⟨g, kx * 10 + 7 + 2, none⟩ = some (.slice ta tl tc)) := fun X hX => by
    obtain ⟨_, h2, h3, h4⟩ := (h.below hX).kinds kx _ hx
    exact ⟨h2, h3, h4⟩
  obtain ⟨hE, hnm, hck⟩ := h.trees kx _ t hx ht
  have HAC : Hid (∀ X (wa : Option Addr) (wc : Nat), Below w.heap.size w X → Ints X wa kl zs → Calls Tryz.prog 36 #[.agg #[.int .i64 tk, .string tn, .slice ta tl tc], .slice (some ⟨ng, 0, none⟩) gl nc, .slice wa kl wc] X fun e w' => ∃ b, e = .returned (.bool b) ∧ (b = true ↔ LangD gs 200 t zs) ∧ Below X.heap.size X w') := fun X wa wc hX hi => by
    rw [hgl]
    refine (accepts_calls 200 t _ (some ⟨ng, 0, none⟩) gs.length nc gs wa kl wc zs X (Ex.below hX _ _ _ hE) hnm (h.names.below hX) hi).mono ?_
    rintro e w' ⟨b, rfl, h1, h2⟩
    exact ⟨b, rfl, ⟨fun e => (h1.1 e).2, fun e => h1.2 ⟨hck, e⟩⟩, h2⟩
  have HBE : Hid (∀ X (wa : Option Addr) (wc : Nat), Below w.heap.size w X → Ints X wa kl zs → Calls Tryz.prog 167 #[.agg #[.int .i64 tk, .string tn, .slice ta tl tc], .slice (some ⟨ng, 0, none⟩) gl nc, .slice wa kl wc] X fun e w' => ∃ n : Nat, e = .returned (.int .i64 (n : Int)) ∧ LongD gs 200 t zs n ∧ Below X.heap.size X w') := fun X wa wc hX hi => by
    rw [hgl]
    exact begins_calls 200 t _ (some ⟨ng, 0, none⟩) gs.length nc gs wa kl wc zs X (Ex.below hX _ _ _ hE) hnm (h.names.below hX) hi hck
  have hli : (len : Int) ≤ 2048 := by omega
  have hki : (kl : Int) ≤ 5000 := by omega
  rw [hR]
  clear h hl hlie hka hk hps hx ht hzs hgl hR hR' hE hnm hck hpl hll
  go_enter Tryz.func145, Tryz.ntmps145
  go_wp2_with fail
  refine wp_region_held_drew (S := fun X => Below w.heap.size w X) hmx (Below.refl _ _).drew (fun hS => ?_)
  generalize w.drew = X0 at hS ⊢
  refine takeD 0 (some 12) (v := ?_) rfl rfl (by kernel_rfl) (by kernel_rfl) (by kernel_rfl) (fun _ _ _ h => h) (Or.inl ⟨by rfl, ?_⟩) hS ?_
  rotate_left
  · intro w hSw
    try go_simp
    with_reducible rfl
  try simp only [Act.put, List.setIfInBounds_toArray, List.set_cons_zero, List.set_cons_succ]
  refine takeD 1 (some 13) (v := ?_) rfl rfl (by kernel_rfl) (by kernel_rfl) (by kernel_rfl) (fun _ _ _ h => h) (Or.inl ⟨by rfl, ?_⟩) hS ?_
  rotate_left
  · intro w hSw
    try go_simp
    with_reducible rfl
  try simp only [Act.put, List.setIfInBounds_toArray, List.set_cons_zero, List.set_cons_succ]
  refine takeD 2 (some 14) (v := ?_) rfl rfl (by kernel_rfl) (by kernel_rfl) (by kernel_rfl) (fun _ _ _ h => h) (Or.inl ⟨by rfl, ?_⟩) hS ?_
  rotate_left
  · intro w hSw
    try go_simp
    with_reducible rfl
  try simp only [Act.put, List.setIfInBounds_toArray, List.set_cons_zero, List.set_cons_succ]
  refine takeD 7 (some 19) (v := ?_) rfl rfl (by kernel_rfl) (by kernel_rfl) (by kernel_rfl) (fun _ _ _ h => h) (Or.inl ⟨by rfl, ?_⟩) hS ?_
  rotate_left
  · intro w hSw
    try go_simp
    with_reducible rfl
  try simp only [Act.put, List.setIfInBounds_toArray, List.set_cons_zero, List.set_cons_succ]
  refine takeD 8 (some 20) (v := ?_) rfl rfl (by kernel_rfl) (by kernel_rfl) (by kernel_rfl) (fun _ _ _ h => h) (Or.inl ⟨by rfl, ?_⟩) hS ?_
  rotate_left
  · intro w hSw
    try go_simp
    with_reducible rfl
  try simp only [Act.put, List.setIfInBounds_toArray, List.set_cons_zero, List.set_cons_succ]
  refine wpAnyH_ready (rs := [3, 10]) (by kernel_rfl) (by simp) (AllReadyH.cons rfl (fun K hK => ?_) ( AllReadyH.cons rfl (fun K hK => ?_) (AllReadyH.nil)))
  · rw [if_pos (by rfl)]
    go_simp
    refine (HKA.out _ hS).mono ?_
    rintro e X1 ⟨rfl, b1⟩
    have hS1 := hS.trans (b1.mono hS.size)
    clear b1
    refine hK.out _ _ hS1 (fun _ => ?_)
    clear hK K
    try simp only [Act.put, List.setIfInBounds_toArray, List.set_cons_zero, List.set_cons_succ]
    refine takeD 4 (some 16) (v := ?_) rfl rfl (by kernel_rfl) (by kernel_rfl) (by kernel_rfl) (fun _ _ _ h => h) (Or.inl ⟨by rfl, ?_⟩) hS1 ?_
    rotate_left
    · intro w hSw
      go_simp
      with_reducible rfl
    try simp only [Act.put, List.setIfInBounds_toArray, List.set_cons_zero, List.set_cons_succ]
    refine takeD 5 (some 17) (v := ?_) rfl rfl (by kernel_rfl) (by kernel_rfl) (by kernel_rfl) (fun _ _ _ h => h) (Or.inl ⟨by rfl, ?_⟩) hS1 ?_
    rotate_left
    · intro w hSw
      go_simp
      with_reducible rfl
    try simp only [Act.put, List.setIfInBounds_toArray, List.set_cons_zero, List.set_cons_succ]
    refine takeD 6 (some 18) (v := ?_) rfl rfl (by kernel_rfl) (by kernel_rfl) (by kernel_rfl) (fun _ _ _ h => h) (Or.inl ⟨by rfl, ?_⟩) hS1 ?_
    rotate_left
    · intro w hSw
      obtain ⟨q0, q1, q2⟩ := HTC.out _ hSw
      go_simp
      with_reducible rfl
    try simp only [Act.put, List.setIfInBounds_toArray, List.set_cons_zero, List.set_cons_succ]
    refine wpAnyH_ready (rs := [9, 10]) (by kernel_rfl) (by simp) (AllReadyH.cons rfl (fun K hK => ?_) ( AllReadyH.cons rfl (fun K hK => ?_) (AllReadyH.nil)))
    · rw [if_pos (by rfl)]
      go_simp
      refine (HWO.out _ hS1).mono ?_
      rintro e X2 ⟨wa, wc, rfl, hQ, b2⟩
      have hS2 := hS1.trans (b2.mono hS1.size)
      have HQ := Hid.mk_ hQ
      clear hQ
      clear b2
      refine hK.out _ _ hS2 (fun _ => ?_)
      clear hK K
      try simp only [Act.put, List.setIfInBounds_toArray, List.set_cons_zero, List.set_cons_succ]
      refine callD 10 (by kernel_rfl) rfl (fun K hK => ?_)
      rw [if_pos (by rfl)]
      go_simp
      have hS3 := hS2.alloc hS2.size (.cells #[.int .i64 0, .string ⟨#[]⟩, .slice none 0 0] 26)
      have m7 := World.alloc_heap_new X2 (.cells #[.int .i64 0, .string ⟨#[]⟩, .slice none 0 0] 26)
      have hN : w.heap.size ≤ (X2).heap.size := hS2.size
      have HQ := Hid.mk_ (World.ownsRow.alloc HQ.out (.cells #[.int .i64 0, .string ⟨#[]⟩, .slice none 0 0] 26))
      refine hK.out _ _ hS3 (fun _ => ?_)
      generalize (X2).alloc (.cells #[.int .i64 0, .string ⟨#[]⟩, .slice none 0 0] 26) = X3 at *
      clear hK K
      try simp only [Act.put, List.setIfInBounds_toArray, List.set_cons_zero, List.set_cons_succ]
      refine callD 11 (by kernel_rfl) rfl (fun K hK => ?_)
      rw [if_pos (by rfl)]
      refine wp_store_row 26 _ _ rfl (X2).heap.size #[.int .i64 tk, .string tn, .slice ta tl tc] rfl rfl 26 _ m7 sizeExpr rfl (ones3 ..) ?_
      have hV := below_setRow hS3 hN #[.int .i64 tk, .string tn, .slice ta tl tc]
      have mV := setRow_heap _ _ _ #[.int .i64 tk, .string tn, .slice ta tl tc] _ _ m7
      have HQ := Hid.mk_ (row_setRow (cs := #[.int .i64 tk, .string tn, .slice ta tl tc]) HQ.out m7)
      refine hK.out _ _ hV (fun _ => ?_)
      generalize World.setRow X3 (X2).heap.size #[.int .i64 tk, .string tn, .slice ta tl tc] = V at *
      generalize (X2).heap.size = N at *
      clear m7 hN
      clear hK K
      try simp only [Act.put, List.setIfInBounds_toArray]
      refine takeD 12 (some 10) (v := ?_) rfl rfl (by kernel_rfl) (by kernel_rfl) (by kernel_rfl) (fun _ _ _ h => h) (Or.inl ⟨by rfl, ?_⟩) hV ?_
      rotate_left
      · intro w hSw
        try go_simp
        with_reducible rfl
      try simp only [Act.put]
      refine wpAnyH_done (by kernel_rfl) ?_ _
      have HCV : Hid (∀ X, Below V.heap.size V X → (X.cell? ⟨N, 0, none⟩ = some (.int .i64 tk) ∧ X.cell? ⟨N, 1, none⟩ = some (.string tn) ∧ X.cell? ⟨N, 2, none⟩ = some (.slice ta tl tc)) ∧ X.cell? ⟨B, 1, none⟩ = some (.slice (some ⟨ng, 0, none⟩) gl nc)) := fun X hX => by
        have mX := (hX.block _ (Array.getElem?_eq_some_iff.1 mV).1).trans mV
        have hc := fun j => cell_of_row X N j _ _ _ mX
        exact ⟨⟨hc 0, hc 1, hc 2⟩, HSC.out X (hV.trans (hX.mono hV.size))⟩
      have HQI : Hid (∀ X, Below V.heap.size V X → Ints X wa kl zs) := fun X hX => by
        obtain ⟨a', c', e, hi⟩ := owned_ints HQ.out (by omega)
        injection e with e1
        subst e1
        exact hi.below hX
      clear HQ mV HTC HKA HWO HSC
      go_wp2_with fail
      refine wp_region_held_drew (S := fun X => Below V.heap.size V X) hmx (Below.refl _ _).drew (fun hS2 => ?_)
      refine takeD 0 (some 22) (v := ?_) rfl rfl (by kernel_rfl) (by kernel_rfl) (by kernel_rfl) (fun _ _ _ h => h) (Or.inl ⟨by rfl, ?_⟩) hS2 ?_
      rotate_left
      · intro w hSw
        obtain ⟨⟨q0, q1, q2⟩, q3⟩ := HCV.out _ hSw
        go_simp
        with_reducible rfl
      try simp only [Act.put, List.setIfInBounds_toArray, List.set_cons_zero, List.set_cons_succ]
      refine takeD 1 (some 23) (v := ?_) rfl rfl (by kernel_rfl) (by kernel_rfl) (by kernel_rfl) (fun _ _ _ h => h) (Or.inl ⟨by rfl, ?_⟩) hS2 ?_
      rotate_left
      · intro w hSw
        try go_simp
        with_reducible rfl
      try simp only [Act.put, List.setIfInBounds_toArray, List.set_cons_zero, List.set_cons_succ]
      refine takeD 2 (some 24) (v := ?_) rfl rfl (by kernel_rfl) (by kernel_rfl) (by kernel_rfl) (fun _ _ _ h => h) (Or.inl ⟨by rfl, ?_⟩) hS2 ?_
      rotate_left
      · intro w hSw
        go_simp
        with_reducible rfl
      try simp only [Act.put, List.setIfInBounds_toArray, List.set_cons_zero, List.set_cons_succ]
      refine takeD 3 (some 25) (v := ?_) rfl rfl (by kernel_rfl) (by kernel_rfl) (by kernel_rfl) (fun _ _ _ h => h) (Or.inl ⟨by rfl, ?_⟩) hS2 ?_
      rotate_left
      · intro w hSw
        go_simp
        with_reducible rfl
      try simp only [Act.put, List.setIfInBounds_toArray, List.set_cons_zero, List.set_cons_succ]
      refine takeD 4 (some 26) (v := ?_) rfl rfl (by kernel_rfl) (by kernel_rfl) (by kernel_rfl) (fun _ _ _ h => h) (Or.inl ⟨by rfl, ?_⟩) hS2 ?_
      rotate_left
      · intro w hSw
        obtain ⟨⟨q0, q1, q2⟩, q3⟩ := HCV.out _ hSw
        go_simp
        with_reducible rfl
      try simp only [Act.put, List.setIfInBounds_toArray, List.set_cons_zero, List.set_cons_succ]
      refine takeD 5 (some 27) (v := ?_) rfl rfl (by kernel_rfl) (by kernel_rfl) (by kernel_rfl) (fun _ _ _ h => h) (Or.inl ⟨by rfl, ?_⟩) hS2 ?_
      rotate_left
      · intro w hSw
        try go_simp
        with_reducible rfl
      try simp only [Act.put, List.setIfInBounds_toArray, List.set_cons_zero, List.set_cons_succ]
      refine callD 6 (by kernel_rfl) rfl (fun K hK => ?_)
      rw [if_pos (by rfl)]
      go_simp
      refine (HAC.out _ wa wc (hV.trans (hS2.mono hV.size)) (HQI.out _ hS2)).mono ?_
      rintro e Y ⟨b, rfl, hb, bY⟩
      have hY := hS2.trans (bY.mono hS2.size)
      clear bY
      refine hK.out _ _ hY (fun _ => ?_)
      clear hK K
      try simp only [Act.put, List.setIfInBounds_toArray, List.set_cons_zero, List.set_cons_succ]
      refine wpAnyH_done (by kernel_rfl) ?_ _
      have HE := Hid.mk_ (hV.trans (hY.mono hV.size))
      have HBB := Hid.mk_ hb
      clear hb
      cases b with
      | true =>
        have HRR := Hid.mk_ (HF1.out (HBB.out.1 (by first | rfl | trivial)))
        clear HCV HQI
        go_wp2
        go_ret
        exact ⟨by rw [HRR.out]; rfl, HE.out⟩
      | false =>
        go_wp2_with fail
        refine wp_region_held_drew (S := fun X => Below V.heap.size V X) hmx hY.drew (fun hS4 => ?_)
        refine takeD 0 (some 29) (v := ?_) rfl rfl (by kernel_rfl) (by kernel_rfl) (by kernel_rfl) (fun _ _ _ h => h) (Or.inl ⟨by rfl, ?_⟩) hS4 ?_
        rotate_left
        · intro w hSw
          obtain ⟨⟨q0, q1, q2⟩, q3⟩ := HCV.out _ hSw
          go_simp
          with_reducible rfl
        try simp only [Act.put, List.setIfInBounds_toArray, List.set_cons_zero, List.set_cons_succ]
        refine takeD 1 (some 30) (v := ?_) rfl rfl (by kernel_rfl) (by kernel_rfl) (by kernel_rfl) (fun _ _ _ h => h) (Or.inl ⟨by rfl, ?_⟩) hS4 ?_
        rotate_left
        · intro w hSw
          try go_simp
          with_reducible rfl
        try simp only [Act.put, List.setIfInBounds_toArray, List.set_cons_zero, List.set_cons_succ]
        refine takeD 2 (some 31) (v := ?_) rfl rfl (by kernel_rfl) (by kernel_rfl) (by kernel_rfl) (fun _ _ _ h => h) (Or.inl ⟨by rfl, ?_⟩) hS4 ?_
        rotate_left
        · intro w hSw
          go_simp
          with_reducible rfl
        try simp only [Act.put, List.setIfInBounds_toArray, List.set_cons_zero, List.set_cons_succ]
        refine takeD 3 (some 32) (v := ?_) rfl rfl (by kernel_rfl) (by kernel_rfl) (by kernel_rfl) (fun _ _ _ h => h) (Or.inl ⟨by rfl, ?_⟩) hS4 ?_
        rotate_left
        · intro w hSw
          go_simp
          with_reducible rfl
        try simp only [Act.put, List.setIfInBounds_toArray, List.set_cons_zero, List.set_cons_succ]
        refine takeD 4 (some 33) (v := ?_) rfl rfl (by kernel_rfl) (by kernel_rfl) (by kernel_rfl) (fun _ _ _ h => h) (Or.inl ⟨by rfl, ?_⟩) hS4 ?_
        rotate_left
        · intro w hSw
          obtain ⟨⟨q0, q1, q2⟩, q3⟩ := HCV.out _ hSw
          go_simp
          with_reducible rfl
        try simp only [Act.put, List.setIfInBounds_toArray, List.set_cons_zero, List.set_cons_succ]
        refine takeD 5 (some 34) (v := ?_) rfl rfl (by kernel_rfl) (by kernel_rfl) (by kernel_rfl) (fun _ _ _ h => h) (Or.inl ⟨by rfl, ?_⟩) hS4 ?_
        rotate_left
        · intro w hSw
          try go_simp
          with_reducible rfl
        try simp only [Act.put, List.setIfInBounds_toArray, List.set_cons_zero, List.set_cons_succ]
        refine callD 6 (by kernel_rfl) rfl (fun K hK => ?_)
        rw [if_pos (by rfl)]
        go_simp
        refine (HBE.out _ wa wc (hV.trans (hS4.mono hV.size)) (HQI.out _ hS4)).mono ?_
        rintro e Y2 ⟨n, rfl, hn, bY⟩
        have hY2 := hS4.trans (bY.mono hS4.size)
        clear bY
        refine hK.out _ _ hY2 (fun _ => ?_)
        clear hK K
        try simp only [Act.put, List.setIfInBounds_toArray, List.set_cons_zero, List.set_cons_succ]
        refine takeD 7 (some 11) (v := ?_) rfl rfl (by kernel_rfl) (by kernel_rfl) (by kernel_rfl) (fun _ _ _ h => h) (Or.inl ⟨by rfl, ?_⟩) hY2 ?_
        rotate_left
        · intro w hSw
          try go_simp
          with_reducible rfl
        try simp only [Act.put, List.setIfInBounds_toArray, List.set_cons_zero, List.set_cons_succ]
        refine wpAnyH_done (by kernel_rfl) ?_ _
        have HE2 := Hid.mk_ (hV.trans (hY2.mono hV.size))
        have HV2 := Hid.mk_ hV
        clear hY2 hV hY HCV HQI HAC HBE
        by_cases dn : n < kl
        · obtain ⟨b', o', p, rfl, hp, c9⟩ := HKP.out Y2 HE2.out n dn
          have hni : (n : Int) < (kl : Int) := by omega
          have hn0 : (0 : Int) ≤ (n : Int) := by omega
          have hdn : decide ((n : Int) < (kl : Int)) = true := by simpa using hni
          have HRR := Hid.mk_ (HF2.out (fun h => by cases HBB.out.2 h) n hn p dn hp)
          clear HKP
          go_wp2
          go_ret
          exact ⟨by rw [HRR.out]; rfl, HE2.out⟩
        · have hdn : decide ((n : Int) < (kl : Int)) = false := by simp; omega
          clear HKP
          by_cases di : i = -1
          · have HRR := Hid.mk_ (HF3.out (fun h => by cases HBB.out.2 h) n hn dn di)
            subst di
            go_wp2
            go_ret
            exact ⟨by rw [HRR.out]; rfl, HE2.out⟩
          · have hdi : (i == -1) = false := by simpa using di
            have HRR := Hid.mk_ (HF4.out (fun h => by cases HBB.out.2 h) n hn dn di)
            have HP := HPA.out Y2 HE2.out
            go_wp2_with fail
            refine HP.mono ?_
            rintro e Z ⟨rfl, bZ⟩
            have HE3 := Hid.mk_ (HE2.out.trans (bZ.mono HE2.out.size))
            clear bZ HP
            go_wp2
            go_ret
            exact ⟨by rw [HRR.out]; rfl, HE3.out⟩
    · rw [if_pos (by rfl)]
      go_simp
      have hS2 := hS1.alloc hS1.size (.cells #[.int .i64 0, .string ⟨#[]⟩, .slice none 0 0] 26)
      have m7 := World.alloc_heap_new X1 (.cells #[.int .i64 0, .string ⟨#[]⟩, .slice none 0 0] 26)
      have hN : w.heap.size ≤ (X1).heap.size := hS1.size
      refine hK.out _ _ hS2 (fun _ => ?_)
      generalize (X1).alloc (.cells #[.int .i64 0, .string ⟨#[]⟩, .slice none 0 0] 26) = X2 at *
      clear hK K
      try simp only [Act.put, List.setIfInBounds_toArray, List.set_cons_zero, List.set_cons_succ]
      refine callD 9 (by kernel_rfl) rfl (fun K hK => ?_)
      rw [if_pos (by rfl)]
      go_simp
      refine (HWO.out _ hS2).mono ?_
      rintro e X3 ⟨wa, wc, rfl, hQ, b3⟩
      have hS3 := hS2.trans (b3.mono hS2.size)
      replace m7 := (b3.block _ (Array.getElem?_eq_some_iff.1 m7).1).trans m7
      have HQ := Hid.mk_ hQ
      clear hQ
      clear b3
      refine hK.out _ _ hS3 (fun _ => ?_)
      clear hK K
      try simp only [Act.put, List.setIfInBounds_toArray, List.set_cons_zero, List.set_cons_succ]
      refine callD 11 (by kernel_rfl) rfl (fun K hK => ?_)
      rw [if_pos (by rfl)]
      refine wp_store_row 26 _ _ rfl (X1).heap.size #[.int .i64 tk, .string tn, .slice ta tl tc] rfl rfl 26 _ m7 sizeExpr rfl (ones3 ..) ?_
      have hV := below_setRow hS3 hN #[.int .i64 tk, .string tn, .slice ta tl tc]
      have mV := setRow_heap _ _ _ #[.int .i64 tk, .string tn, .slice ta tl tc] _ _ m7
      have HQ := Hid.mk_ (row_setRow (cs := #[.int .i64 tk, .string tn, .slice ta tl tc]) HQ.out m7)
      refine hK.out _ _ hV (fun _ => ?_)
      generalize World.setRow X3 (X1).heap.size #[.int .i64 tk, .string tn, .slice ta tl tc] = V at *
      generalize (X1).heap.size = N at *
      clear m7 hN
      clear hK K
      try simp only [Act.put, List.setIfInBounds_toArray]
      refine takeD 12 (some 10) (v := ?_) rfl rfl (by kernel_rfl) (by kernel_rfl) (by kernel_rfl) (fun _ _ _ h => h) (Or.inl ⟨by rfl, ?_⟩) hV ?_
      rotate_left
      · intro w hSw
        try go_simp
        with_reducible rfl
      try simp only [Act.put]
      refine wpAnyH_done (by kernel_rfl) ?_ _
      have HCV : Hid (∀ X, Below V.heap.size V X → (X.cell? ⟨N, 0, none⟩ = some (.int .i64 tk) ∧ X.cell? ⟨N, 1, none⟩ = some (.string tn) ∧ X.cell? ⟨N, 2, none⟩ = some (.slice ta tl tc)) ∧ X.cell? ⟨B, 1, none⟩ = some (.slice (some ⟨ng, 0, none⟩) gl nc)) := fun X hX => by
        have mX := (hX.block _ (Array.getElem?_eq_some_iff.1 mV).1).trans mV
        have hc := fun j => cell_of_row X N j _ _ _ mX
        exact ⟨⟨hc 0, hc 1, hc 2⟩, HSC.out X (hV.trans (hX.mono hV.size))⟩
      have HQI : Hid (∀ X, Below V.heap.size V X → Ints X wa kl zs) := fun X hX => by
        obtain ⟨a', c', e, hi⟩ := owned_ints HQ.out (by omega)
        injection e with e1
        subst e1
        exact hi.below hX
      clear HQ mV HTC HKA HWO HSC
      go_wp2_with fail
      refine wp_region_held_drew (S := fun X => Below V.heap.size V X) hmx (Below.refl _ _).drew (fun hS2 => ?_)
      refine takeD 0 (some 22) (v := ?_) rfl rfl (by kernel_rfl) (by kernel_rfl) (by kernel_rfl) (fun _ _ _ h => h) (Or.inl ⟨by rfl, ?_⟩) hS2 ?_
      rotate_left
      · intro w hSw
        obtain ⟨⟨q0, q1, q2⟩, q3⟩ := HCV.out _ hSw
        go_simp
        with_reducible rfl
      try simp only [Act.put, List.setIfInBounds_toArray, List.set_cons_zero, List.set_cons_succ]
      refine takeD 1 (some 23) (v := ?_) rfl rfl (by kernel_rfl) (by kernel_rfl) (by kernel_rfl) (fun _ _ _ h => h) (Or.inl ⟨by rfl, ?_⟩) hS2 ?_
      rotate_left
      · intro w hSw
        try go_simp
        with_reducible rfl
      try simp only [Act.put, List.setIfInBounds_toArray, List.set_cons_zero, List.set_cons_succ]
      refine takeD 2 (some 24) (v := ?_) rfl rfl (by kernel_rfl) (by kernel_rfl) (by kernel_rfl) (fun _ _ _ h => h) (Or.inl ⟨by rfl, ?_⟩) hS2 ?_
      rotate_left
      · intro w hSw
        go_simp
        with_reducible rfl
      try simp only [Act.put, List.setIfInBounds_toArray, List.set_cons_zero, List.set_cons_succ]
      refine takeD 3 (some 25) (v := ?_) rfl rfl (by kernel_rfl) (by kernel_rfl) (by kernel_rfl) (fun _ _ _ h => h) (Or.inl ⟨by rfl, ?_⟩) hS2 ?_
      rotate_left
      · intro w hSw
        go_simp
        with_reducible rfl
      try simp only [Act.put, List.setIfInBounds_toArray, List.set_cons_zero, List.set_cons_succ]
      refine takeD 4 (some 26) (v := ?_) rfl rfl (by kernel_rfl) (by kernel_rfl) (by kernel_rfl) (fun _ _ _ h => h) (Or.inl ⟨by rfl, ?_⟩) hS2 ?_
      rotate_left
      · intro w hSw
        obtain ⟨⟨q0, q1, q2⟩, q3⟩ := HCV.out _ hSw
        go_simp
        with_reducible rfl
      try simp only [Act.put, List.setIfInBounds_toArray, List.set_cons_zero, List.set_cons_succ]
      refine takeD 5 (some 27) (v := ?_) rfl rfl (by kernel_rfl) (by kernel_rfl) (by kernel_rfl) (fun _ _ _ h => h) (Or.inl ⟨by rfl, ?_⟩) hS2 ?_
      rotate_left
      · intro w hSw
        try go_simp
        with_reducible rfl
      try simp only [Act.put, List.setIfInBounds_toArray, List.set_cons_zero, List.set_cons_succ]
      refine callD 6 (by kernel_rfl) rfl (fun K hK => ?_)
      rw [if_pos (by rfl)]
      go_simp
      refine (HAC.out _ wa wc (hV.trans (hS2.mono hV.size)) (HQI.out _ hS2)).mono ?_
      rintro e Y ⟨b, rfl, hb, bY⟩
      have hY := hS2.trans (bY.mono hS2.size)
      clear bY
      refine hK.out _ _ hY (fun _ => ?_)
      clear hK K
      try simp only [Act.put, List.setIfInBounds_toArray, List.set_cons_zero, List.set_cons_succ]
      refine wpAnyH_done (by kernel_rfl) ?_ _
      have HE := Hid.mk_ (hV.trans (hY.mono hV.size))
      have HBB := Hid.mk_ hb
      clear hb
      cases b with
      | true =>
        have HRR := Hid.mk_ (HF1.out (HBB.out.1 (by first | rfl | trivial)))
        clear HCV HQI
        go_wp2
        go_ret
        exact ⟨by rw [HRR.out]; rfl, HE.out⟩
      | false =>
        go_wp2_with fail
        refine wp_region_held_drew (S := fun X => Below V.heap.size V X) hmx hY.drew (fun hS4 => ?_)
        refine takeD 0 (some 29) (v := ?_) rfl rfl (by kernel_rfl) (by kernel_rfl) (by kernel_rfl) (fun _ _ _ h => h) (Or.inl ⟨by rfl, ?_⟩) hS4 ?_
        rotate_left
        · intro w hSw
          obtain ⟨⟨q0, q1, q2⟩, q3⟩ := HCV.out _ hSw
          go_simp
          with_reducible rfl
        try simp only [Act.put, List.setIfInBounds_toArray, List.set_cons_zero, List.set_cons_succ]
        refine takeD 1 (some 30) (v := ?_) rfl rfl (by kernel_rfl) (by kernel_rfl) (by kernel_rfl) (fun _ _ _ h => h) (Or.inl ⟨by rfl, ?_⟩) hS4 ?_
        rotate_left
        · intro w hSw
          try go_simp
          with_reducible rfl
        try simp only [Act.put, List.setIfInBounds_toArray, List.set_cons_zero, List.set_cons_succ]
        refine takeD 2 (some 31) (v := ?_) rfl rfl (by kernel_rfl) (by kernel_rfl) (by kernel_rfl) (fun _ _ _ h => h) (Or.inl ⟨by rfl, ?_⟩) hS4 ?_
        rotate_left
        · intro w hSw
          go_simp
          with_reducible rfl
        try simp only [Act.put, List.setIfInBounds_toArray, List.set_cons_zero, List.set_cons_succ]
        refine takeD 3 (some 32) (v := ?_) rfl rfl (by kernel_rfl) (by kernel_rfl) (by kernel_rfl) (fun _ _ _ h => h) (Or.inl ⟨by rfl, ?_⟩) hS4 ?_
        rotate_left
        · intro w hSw
          go_simp
          with_reducible rfl
        try simp only [Act.put, List.setIfInBounds_toArray, List.set_cons_zero, List.set_cons_succ]
        refine takeD 4 (some 33) (v := ?_) rfl rfl (by kernel_rfl) (by kernel_rfl) (by kernel_rfl) (fun _ _ _ h => h) (Or.inl ⟨by rfl, ?_⟩) hS4 ?_
        rotate_left
        · intro w hSw
          obtain ⟨⟨q0, q1, q2⟩, q3⟩ := HCV.out _ hSw
          go_simp
          with_reducible rfl
        try simp only [Act.put, List.setIfInBounds_toArray, List.set_cons_zero, List.set_cons_succ]
        refine takeD 5 (some 34) (v := ?_) rfl rfl (by kernel_rfl) (by kernel_rfl) (by kernel_rfl) (fun _ _ _ h => h) (Or.inl ⟨by rfl, ?_⟩) hS4 ?_
        rotate_left
        · intro w hSw
          try go_simp
          with_reducible rfl
        try simp only [Act.put, List.setIfInBounds_toArray, List.set_cons_zero, List.set_cons_succ]
        refine callD 6 (by kernel_rfl) rfl (fun K hK => ?_)
        rw [if_pos (by rfl)]
        go_simp
        refine (HBE.out _ wa wc (hV.trans (hS4.mono hV.size)) (HQI.out _ hS4)).mono ?_
        rintro e Y2 ⟨n, rfl, hn, bY⟩
        have hY2 := hS4.trans (bY.mono hS4.size)
        clear bY
        refine hK.out _ _ hY2 (fun _ => ?_)
        clear hK K
        try simp only [Act.put, List.setIfInBounds_toArray, List.set_cons_zero, List.set_cons_succ]
        refine takeD 7 (some 11) (v := ?_) rfl rfl (by kernel_rfl) (by kernel_rfl) (by kernel_rfl) (fun _ _ _ h => h) (Or.inl ⟨by rfl, ?_⟩) hY2 ?_
        rotate_left
        · intro w hSw
          try go_simp
          with_reducible rfl
        try simp only [Act.put, List.setIfInBounds_toArray, List.set_cons_zero, List.set_cons_succ]
        refine wpAnyH_done (by kernel_rfl) ?_ _
        have HE2 := Hid.mk_ (hV.trans (hY2.mono hV.size))
        have HV2 := Hid.mk_ hV
        clear hY2 hV hY HCV HQI HAC HBE
        by_cases dn : n < kl
        · obtain ⟨b', o', p, rfl, hp, c9⟩ := HKP.out Y2 HE2.out n dn
          have hni : (n : Int) < (kl : Int) := by omega
          have hn0 : (0 : Int) ≤ (n : Int) := by omega
          have hdn : decide ((n : Int) < (kl : Int)) = true := by simpa using hni
          have HRR := Hid.mk_ (HF2.out (fun h => by cases HBB.out.2 h) n hn p dn hp)
          clear HKP
          go_wp2
          go_ret
          exact ⟨by rw [HRR.out]; rfl, HE2.out⟩
        · have hdn : decide ((n : Int) < (kl : Int)) = false := by simp; omega
          clear HKP
          by_cases di : i = -1
          · have HRR := Hid.mk_ (HF3.out (fun h => by cases HBB.out.2 h) n hn dn di)
            subst di
            go_wp2
            go_ret
            exact ⟨by rw [HRR.out]; rfl, HE2.out⟩
          · have hdi : (i == -1) = false := by simpa using di
            have HRR := Hid.mk_ (HF4.out (fun h => by cases HBB.out.2 h) n hn dn di)
            have HP := HPA.out Y2 HE2.out
            go_wp2_with fail
            refine HP.mono ?_
            rintro e Z ⟨rfl, bZ⟩
            have HE3 := Hid.mk_ (HE2.out.trans (bZ.mono HE2.out.size))
            clear bZ HP
            go_wp2
            go_ret
            exact ⟨by rw [HRR.out]; rfl, HE3.out⟩
  · rw [if_pos (by rfl)]
    go_simp
    have hS1 := hS.alloc hS.size (.cells #[.int .i64 0, .string ⟨#[]⟩, .slice none 0 0] 26)
    have m7 := World.alloc_heap_new X0 (.cells #[.int .i64 0, .string ⟨#[]⟩, .slice none 0 0] 26)
    have hN : w.heap.size ≤ (X0).heap.size := hS.size
    refine hK.out _ _ hS1 (fun _ => ?_)
    generalize (X0).alloc (.cells #[.int .i64 0, .string ⟨#[]⟩, .slice none 0 0] 26) = X1 at *
    clear hK K
    try simp only [Act.put, List.setIfInBounds_toArray, List.set_cons_zero, List.set_cons_succ]
    refine callD 3 (by kernel_rfl) rfl (fun K hK => ?_)
    rw [if_pos (by rfl)]
    go_simp
    refine (HKA.out _ hS1).mono ?_
    rintro e X2 ⟨rfl, b2⟩
    have hS2 := hS1.trans (b2.mono hS1.size)
    replace m7 := (b2.block _ (Array.getElem?_eq_some_iff.1 m7).1).trans m7
    clear b2
    refine hK.out _ _ hS2 (fun _ => ?_)
    clear hK K
    try simp only [Act.put, List.setIfInBounds_toArray, List.set_cons_zero, List.set_cons_succ]
    refine takeD 4 (some 16) (v := ?_) rfl rfl (by kernel_rfl) (by kernel_rfl) (by kernel_rfl) (fun _ _ _ h => h) (Or.inl ⟨by rfl, ?_⟩) hS2 ?_
    rotate_left
    · intro w hSw
      go_simp
      with_reducible rfl
    try simp only [Act.put, List.setIfInBounds_toArray, List.set_cons_zero, List.set_cons_succ]
    refine takeD 5 (some 17) (v := ?_) rfl rfl (by kernel_rfl) (by kernel_rfl) (by kernel_rfl) (fun _ _ _ h => h) (Or.inl ⟨by rfl, ?_⟩) hS2 ?_
    rotate_left
    · intro w hSw
      go_simp
      with_reducible rfl
    try simp only [Act.put, List.setIfInBounds_toArray, List.set_cons_zero, List.set_cons_succ]
    refine takeD 6 (some 18) (v := ?_) rfl rfl (by kernel_rfl) (by kernel_rfl) (by kernel_rfl) (fun _ _ _ h => h) (Or.inl ⟨by rfl, ?_⟩) hS2 ?_
    rotate_left
    · intro w hSw
      obtain ⟨q0, q1, q2⟩ := HTC.out _ hSw
      go_simp
      with_reducible rfl
    try simp only [Act.put, List.setIfInBounds_toArray, List.set_cons_zero, List.set_cons_succ]
    refine callD 9 (by kernel_rfl) rfl (fun K hK => ?_)
    rw [if_pos (by rfl)]
    go_simp
    refine (HWO.out _ hS2).mono ?_
    rintro e X3 ⟨wa, wc, rfl, hQ, b3⟩
    have hS3 := hS2.trans (b3.mono hS2.size)
    replace m7 := (b3.block _ (Array.getElem?_eq_some_iff.1 m7).1).trans m7
    have HQ := Hid.mk_ hQ
    clear hQ
    clear b3
    refine hK.out _ _ hS3 (fun _ => ?_)
    clear hK K
    try simp only [Act.put, List.setIfInBounds_toArray, List.set_cons_zero, List.set_cons_succ]
    refine callD 11 (by kernel_rfl) rfl (fun K hK => ?_)
    rw [if_pos (by rfl)]
    refine wp_store_row 26 _ _ rfl (X0).heap.size #[.int .i64 tk, .string tn, .slice ta tl tc] rfl rfl 26 _ m7 sizeExpr rfl (ones3 ..) ?_
    have hV := below_setRow hS3 hN #[.int .i64 tk, .string tn, .slice ta tl tc]
    have mV := setRow_heap _ _ _ #[.int .i64 tk, .string tn, .slice ta tl tc] _ _ m7
    have HQ := Hid.mk_ (row_setRow (cs := #[.int .i64 tk, .string tn, .slice ta tl tc]) HQ.out m7)
    refine hK.out _ _ hV (fun _ => ?_)
    generalize World.setRow X3 (X0).heap.size #[.int .i64 tk, .string tn, .slice ta tl tc] = V at *
    generalize (X0).heap.size = N at *
    clear m7 hN
    clear hK K
    try simp only [Act.put, List.setIfInBounds_toArray]
    refine takeD 12 (some 10) (v := ?_) rfl rfl (by kernel_rfl) (by kernel_rfl) (by kernel_rfl) (fun _ _ _ h => h) (Or.inl ⟨by rfl, ?_⟩) hV ?_
    rotate_left
    · intro w hSw
      try go_simp
      with_reducible rfl
    try simp only [Act.put]
    refine wpAnyH_done (by kernel_rfl) ?_ _
    have HCV : Hid (∀ X, Below V.heap.size V X → (X.cell? ⟨N, 0, none⟩ = some (.int .i64 tk) ∧ X.cell? ⟨N, 1, none⟩ = some (.string tn) ∧ X.cell? ⟨N, 2, none⟩ = some (.slice ta tl tc)) ∧ X.cell? ⟨B, 1, none⟩ = some (.slice (some ⟨ng, 0, none⟩) gl nc)) := fun X hX => by
      have mX := (hX.block _ (Array.getElem?_eq_some_iff.1 mV).1).trans mV
      have hc := fun j => cell_of_row X N j _ _ _ mX
      exact ⟨⟨hc 0, hc 1, hc 2⟩, HSC.out X (hV.trans (hX.mono hV.size))⟩
    have HQI : Hid (∀ X, Below V.heap.size V X → Ints X wa kl zs) := fun X hX => by
      obtain ⟨a', c', e, hi⟩ := owned_ints HQ.out (by omega)
      injection e with e1
      subst e1
      exact hi.below hX
    clear HQ mV HTC HKA HWO HSC
    go_wp2_with fail
    refine wp_region_held_drew (S := fun X => Below V.heap.size V X) hmx (Below.refl _ _).drew (fun hS2 => ?_)
    refine takeD 0 (some 22) (v := ?_) rfl rfl (by kernel_rfl) (by kernel_rfl) (by kernel_rfl) (fun _ _ _ h => h) (Or.inl ⟨by rfl, ?_⟩) hS2 ?_
    rotate_left
    · intro w hSw
      obtain ⟨⟨q0, q1, q2⟩, q3⟩ := HCV.out _ hSw
      go_simp
      with_reducible rfl
    try simp only [Act.put, List.setIfInBounds_toArray, List.set_cons_zero, List.set_cons_succ]
    refine takeD 1 (some 23) (v := ?_) rfl rfl (by kernel_rfl) (by kernel_rfl) (by kernel_rfl) (fun _ _ _ h => h) (Or.inl ⟨by rfl, ?_⟩) hS2 ?_
    rotate_left
    · intro w hSw
      try go_simp
      with_reducible rfl
    try simp only [Act.put, List.setIfInBounds_toArray, List.set_cons_zero, List.set_cons_succ]
    refine takeD 2 (some 24) (v := ?_) rfl rfl (by kernel_rfl) (by kernel_rfl) (by kernel_rfl) (fun _ _ _ h => h) (Or.inl ⟨by rfl, ?_⟩) hS2 ?_
    rotate_left
    · intro w hSw
      go_simp
      with_reducible rfl
    try simp only [Act.put, List.setIfInBounds_toArray, List.set_cons_zero, List.set_cons_succ]
    refine takeD 3 (some 25) (v := ?_) rfl rfl (by kernel_rfl) (by kernel_rfl) (by kernel_rfl) (fun _ _ _ h => h) (Or.inl ⟨by rfl, ?_⟩) hS2 ?_
    rotate_left
    · intro w hSw
      go_simp
      with_reducible rfl
    try simp only [Act.put, List.setIfInBounds_toArray, List.set_cons_zero, List.set_cons_succ]
    refine takeD 4 (some 26) (v := ?_) rfl rfl (by kernel_rfl) (by kernel_rfl) (by kernel_rfl) (fun _ _ _ h => h) (Or.inl ⟨by rfl, ?_⟩) hS2 ?_
    rotate_left
    · intro w hSw
      obtain ⟨⟨q0, q1, q2⟩, q3⟩ := HCV.out _ hSw
      go_simp
      with_reducible rfl
    try simp only [Act.put, List.setIfInBounds_toArray, List.set_cons_zero, List.set_cons_succ]
    refine takeD 5 (some 27) (v := ?_) rfl rfl (by kernel_rfl) (by kernel_rfl) (by kernel_rfl) (fun _ _ _ h => h) (Or.inl ⟨by rfl, ?_⟩) hS2 ?_
    rotate_left
    · intro w hSw
      try go_simp
      with_reducible rfl
    try simp only [Act.put, List.setIfInBounds_toArray, List.set_cons_zero, List.set_cons_succ]
    refine callD 6 (by kernel_rfl) rfl (fun K hK => ?_)
    rw [if_pos (by rfl)]
    go_simp
    refine (HAC.out _ wa wc (hV.trans (hS2.mono hV.size)) (HQI.out _ hS2)).mono ?_
    rintro e Y ⟨b, rfl, hb, bY⟩
    have hY := hS2.trans (bY.mono hS2.size)
    clear bY
    refine hK.out _ _ hY (fun _ => ?_)
    clear hK K
    try simp only [Act.put, List.setIfInBounds_toArray, List.set_cons_zero, List.set_cons_succ]
    refine wpAnyH_done (by kernel_rfl) ?_ _
    have HE := Hid.mk_ (hV.trans (hY.mono hV.size))
    have HBB := Hid.mk_ hb
    clear hb
    cases b with
    | true =>
      have HRR := Hid.mk_ (HF1.out (HBB.out.1 (by first | rfl | trivial)))
      clear HCV HQI
      go_wp2
      go_ret
      exact ⟨by rw [HRR.out]; rfl, HE.out⟩
    | false =>
      go_wp2_with fail
      refine wp_region_held_drew (S := fun X => Below V.heap.size V X) hmx hY.drew (fun hS4 => ?_)
      refine takeD 0 (some 29) (v := ?_) rfl rfl (by kernel_rfl) (by kernel_rfl) (by kernel_rfl) (fun _ _ _ h => h) (Or.inl ⟨by rfl, ?_⟩) hS4 ?_
      rotate_left
      · intro w hSw
        obtain ⟨⟨q0, q1, q2⟩, q3⟩ := HCV.out _ hSw
        go_simp
        with_reducible rfl
      try simp only [Act.put, List.setIfInBounds_toArray, List.set_cons_zero, List.set_cons_succ]
      refine takeD 1 (some 30) (v := ?_) rfl rfl (by kernel_rfl) (by kernel_rfl) (by kernel_rfl) (fun _ _ _ h => h) (Or.inl ⟨by rfl, ?_⟩) hS4 ?_
      rotate_left
      · intro w hSw
        try go_simp
        with_reducible rfl
      try simp only [Act.put, List.setIfInBounds_toArray, List.set_cons_zero, List.set_cons_succ]
      refine takeD 2 (some 31) (v := ?_) rfl rfl (by kernel_rfl) (by kernel_rfl) (by kernel_rfl) (fun _ _ _ h => h) (Or.inl ⟨by rfl, ?_⟩) hS4 ?_
      rotate_left
      · intro w hSw
        go_simp
        with_reducible rfl
      try simp only [Act.put, List.setIfInBounds_toArray, List.set_cons_zero, List.set_cons_succ]
      refine takeD 3 (some 32) (v := ?_) rfl rfl (by kernel_rfl) (by kernel_rfl) (by kernel_rfl) (fun _ _ _ h => h) (Or.inl ⟨by rfl, ?_⟩) hS4 ?_
      rotate_left
      · intro w hSw
        go_simp
        with_reducible rfl
      try simp only [Act.put, List.setIfInBounds_toArray, List.set_cons_zero, List.set_cons_succ]
      refine takeD 4 (some 33) (v := ?_) rfl rfl (by kernel_rfl) (by kernel_rfl) (by kernel_rfl) (fun _ _ _ h => h) (Or.inl ⟨by rfl, ?_⟩) hS4 ?_
      rotate_left
      · intro w hSw
        obtain ⟨⟨q0, q1, q2⟩, q3⟩ := HCV.out _ hSw
        go_simp
        with_reducible rfl
      try simp only [Act.put, List.setIfInBounds_toArray, List.set_cons_zero, List.set_cons_succ]
      refine takeD 5 (some 34) (v := ?_) rfl rfl (by kernel_rfl) (by kernel_rfl) (by kernel_rfl) (fun _ _ _ h => h) (Or.inl ⟨by rfl, ?_⟩) hS4 ?_
      rotate_left
      · intro w hSw
        try go_simp
        with_reducible rfl
      try simp only [Act.put, List.setIfInBounds_toArray, List.set_cons_zero, List.set_cons_succ]
      refine callD 6 (by kernel_rfl) rfl (fun K hK => ?_)
      rw [if_pos (by rfl)]
      go_simp
      refine (HBE.out _ wa wc (hV.trans (hS4.mono hV.size)) (HQI.out _ hS4)).mono ?_
      rintro e Y2 ⟨n, rfl, hn, bY⟩
      have hY2 := hS4.trans (bY.mono hS4.size)
      clear bY
      refine hK.out _ _ hY2 (fun _ => ?_)
      clear hK K
      try simp only [Act.put, List.setIfInBounds_toArray, List.set_cons_zero, List.set_cons_succ]
      refine takeD 7 (some 11) (v := ?_) rfl rfl (by kernel_rfl) (by kernel_rfl) (by kernel_rfl) (fun _ _ _ h => h) (Or.inl ⟨by rfl, ?_⟩) hY2 ?_
      rotate_left
      · intro w hSw
        try go_simp
        with_reducible rfl
      try simp only [Act.put, List.setIfInBounds_toArray, List.set_cons_zero, List.set_cons_succ]
      refine wpAnyH_done (by kernel_rfl) ?_ _
      have HE2 := Hid.mk_ (hV.trans (hY2.mono hV.size))
      have HV2 := Hid.mk_ hV
      clear hY2 hV hY HCV HQI HAC HBE
      by_cases dn : n < kl
      · obtain ⟨b', o', p, rfl, hp, c9⟩ := HKP.out Y2 HE2.out n dn
        have hni : (n : Int) < (kl : Int) := by omega
        have hn0 : (0 : Int) ≤ (n : Int) := by omega
        have hdn : decide ((n : Int) < (kl : Int)) = true := by simpa using hni
        have HRR := Hid.mk_ (HF2.out (fun h => by cases HBB.out.2 h) n hn p dn hp)
        clear HKP
        go_wp2
        go_ret
        exact ⟨by rw [HRR.out]; rfl, HE2.out⟩
      · have hdn : decide ((n : Int) < (kl : Int)) = false := by simp; omega
        clear HKP
        by_cases di : i = -1
        · have HRR := Hid.mk_ (HF3.out (fun h => by cases HBB.out.2 h) n hn dn di)
          subst di
          go_wp2
          go_ret
          exact ⟨by rw [HRR.out]; rfl, HE2.out⟩
        · have hdi : (i == -1) = false := by simpa using di
          have HRR := Hid.mk_ (HF4.out (fun h => by cases HBB.out.2 h) n hn dn di)
          have HP := HPA.out Y2 HE2.out
          go_wp2_with fail
          refine HP.mono ?_
          rintro e Z ⟨rfl, bZ⟩
          have HE3 := Hid.mk_ (HE2.out.trans (bZ.mono HE2.out.size))
          clear bZ HP
          go_wp2
          go_ret
          exact ⟨by rw [HRR.out]; rfl, HE3.out⟩
end Go.Proofs.YtofkiaeocfpkeaaGreatDoor

/- FaultI: schema's faultIn: the first fault of what stands just in a TOpen. -/
namespace Go.Proofs.YtofkiaeocfpkeaaGreatDoor
open Go.RowKit

/-- The first fault of kids, from the j-th on. -/
noncomputable def faultK (ks : List KindD) (gs : List Grp) (t : DataW Unit) (s : SpecD) (l : List Tok) (i : Int) (ps : List Int) : Nat → Nat → Int
  | _, 0 => wordF gs t l i ps
  | j, f + 1 => if fitsB ks s ((l[(ps.getD j 0).toNat]?).getD ⟨0, 0, 0, 0⟩) = true then faultK ks gs t s l i ps (j + 1) f else min (ps.getD j 0) (wordF gs t l i (ps.take (j + 1)))
noncomputable def faultD (ks : List KindD) (gs : List Grp) (t : DataW Unit) (s : SpecD) (l : List Tok) (i : Int) : Int := faultK ks gs t s l i (kids l i) 0 (kids l i).length
theorem row_ints {w : World} {a : Option Addr} {n : Nat} {zs : List Int} (h : Row .i64 w a n zs) (hn : n ≤ 9223372036854775807) : Ints w a n zs := by
  obtain ⟨h1, h2⟩ := h
  refine ⟨h1, hn, ?_⟩
  rcases h2 with h2 | ⟨b, o, h3, h4, h5⟩
  · exact .inl h2
  · exact .inr ⟨b, o, h3, h4, fun i x hx => by
      have := h5 i (by have := (List.getElem?_eq_some_iff.1 hx).1; omega)
      rw [List.getD_eq_getElem?_getD, hx] at this
      exact this⟩
set_option maxRecDepth 100000 in
set_option maxHeartbeats 600000 in
theorem faultin_calls {B g c ng nc : Nat} {ks : List KindD} {gs : List Grp} {ts : List (DataW Unit)} (w : World) (h : SchAt w B g c ng nc ks gs ts) (h0 : 0 < ks.length) (a : Option Addr) (len cap : Nat) (l : List Tok) (hl : Toks w a len l) (hlie : Lies a len cap) (hsz : len ≤ 2048) (i : Int) (kx : Nat) (t : DataW Unit) (ht : ts[kx]? = some t)
    (hka : ∀ X, Below w.heap.size w X → Calls Tryz.prog 62 #[.pointer (some ⟨B, 0, none⟩), .slice a len cap, .int .i64 i] X fun e w' => e = .returned (.pointer (some ⟨g, kx * 10, none⟩)) ∧ Below X.heap.size X w')
    (hkl : (kids l i).length ≤ 2048) (hps : ∀ p ∈ kids l i, 0 ≤ p ∧ p < len) :
    Calls Tryz.prog 99 #[.pointer (some ⟨B, 0, none⟩), .slice a len cap, .int .i64 i] w fun e w' => e = .returned (.int .i64 (faultD ks gs t (specOf ks kx) l i)) ∧ Below w.heap.size w w' := by
  obtain ⟨x, hx⟩ : ∃ x, ks[kx]? = some x := ⟨_, List.getElem?_eq_getElem (by have := (List.getElem?_eq_some_iff.1 ht).1; have := h.len; omega)⟩
  rw [specOf_some hx]
  unfold faultD
  generalize hps0 : kids l i = ps at *
  have HKA := Hid.mk_ hka
  have HKI : Hid (∀ X, Below w.heap.size w X → Calls Tryz.prog 32 #[.slice a len cap, .int .i64 i] X fun e w' => ∃ a' cap', e = .returned (.slice a' ps.length cap') ∧ Ints w' a' ps.length ps ∧ ps.length ≤ cap' ∧ cap' ≤ 9223372036854775807 ∧ Below X.heap.size X w') := fun X hX => by
    refine (fkids_calls a len cap l i X (hl.below hX) (by omega)).mono ?_
    rintro e w' ⟨a', cap', rfl, h1, h2⟩
    rw [hps0] at h1 ⊢
    exact ⟨a', cap', rfl, row_ints h1.1 (by omega), h1.2.1, h1.2.2, h2⟩
  have HFI : Hid (∀ X (y : Tok), Below w.heap.size w X → Calls Tryz.prog 144 #[.pointer (some ⟨B, 0, none⟩), tokV y, .pointer (some ⟨g, kx * 10, none⟩)] X fun e w' => e = .returned (.bool (fitsB ks x.1 y)) ∧ Below X.heap.size X w') := fun X y hX => sfits_calls X (h.below hX) h0 y x.1 (kx * 10) ((h.below hX).kinds kx x hx).1
  have HWF : Hid (∀ X (ka : Option Addr) (kl kc : Nat) (qs : List Int), Below w.heap.size w X → Ints X ka kl qs → kl ≤ 2048 → (∀ p ∈ qs, p ∈ ps) → Calls Tryz.prog 145 #[.pointer (some ⟨B, 0, none⟩), .slice a len cap, .int .i64 i, .slice ka kl kc] X fun e w' => e = .returned (.int .i64 (wordF gs t l i qs)) ∧ Below X.heap.size X w') := fun X ka kl kc qs hX hq hk hm => wordfault_calls X (h.below hX) a len cap l (hl.below hX) hlie hsz i kx t ht (fun Y hY => hka Y (hX.trans (hY.mono hX.size))) ka kl kc qs hq (by omega) (fun p hp => hps p (hm p hp))
  have HL : Hid (∀ (X : World) (p : Nat), Below w.heap.size w X → p < len → ∃ b o y, a = some ⟨b, o, none⟩ ∧ l[p]? = some y ∧ X.cell? ⟨b, o + p * 4, none⟩ = some (.int .i64 y.k) ∧ X.cell? ⟨b, o + p * 4 + 1, none⟩ = some (.int .i64 y.t) ∧ X.cell? ⟨b, o + p * 4 + 2, none⟩ = some (.int .i64 y.n) ∧ X.cell? ⟨b, o + p * 4 + 3, none⟩ = some (.int .i64 y.m)) := fun X p hX hp => by
    obtain ⟨b, o, y, h1, _, h3, h4⟩ := hl.token hp
    obtain ⟨d1, d2, d3, d4⟩ := h4 X hX
    exact ⟨b, o, y, h1, h3, d1, d2, d3, d4⟩
  have HPS := Hid.mk_ hps
  have hli : (len : Int) ≤ 2048 := by omega
  have hpi : (ps.length : Int) ≤ 2048 := by omega
  clear h hl hlie hka hps ht hx hps0
  obtain ⟨xs, xr⟩ := x
  dsimp only at *
  go_enter Tryz.func99, Tryz.ntmps99
  go_wp2_with fail
  refine (HKA.out w (Below.refl _ _)).mono ?_
  rintro e W1 ⟨rfl, hB1⟩
  have HB1 := Hid.mk_ hB1
  have HC2 := HKI.out W1 hB1
  clear hB1 HKA HKI
  go_wp2_with fail
  refine HC2.mono ?_
  rintro e W2 ⟨ka, kc, rfl, hk, hkc1, hkc2, hB2⟩
  have HB2 := Hid.mk_ (HB1.out.trans (hB2.mono HB1.out.size))
  have HK : Hid (∀ (X : World), Below W2.heap.size W2 X → Ints X ka ps.length ps) := fun X hX => hk.below hX
  have HKC : Hid (∀ (X : World) (j : Nat), Below W2.heap.size W2 X → j < ps.length → ∃ b o p, ka = some ⟨b, o, none⟩ ∧ ps[j]? = some p ∧ X.cell? ⟨b, o + j, none⟩ = some (.int .i64 p)) := fun X j hX hj => by
    obtain ⟨b, o, p, h1, h2, h3⟩ := hk.at hj
    exact ⟨b, o, p, h1, h2, h3 X hX⟩
  have hkc3 : (ps.length : Int) ≤ (kc : Int) := by omega
  have hkc4 : (kc : Int) ≤ 9223372036854775807 := by omega
  clear hk hB2 HC2 HB1
  go_wp2
  go_loopg [20] (ps.length + 1) (fun gk v wr => ∃ j : Nat, j ≤ ps.length ∧ ps.length < j + gk ∧ v = .int .i64 (j : Int) ∧ faultK ks gs t xs l i ps j (ps.length - j) = faultK ks gs t xs l i ps 0 ps.length ∧ Below W2.heap.size W2 wr)
  case atStart => exact ⟨0, Nat.zero_le _, by omega, rfl, by rw [Nat.sub_zero], Below.refl _ _⟩
  case round =>
    obtain ⟨j, hj, hgk, rfl, hF, hB⟩ := hrel
    by_cases hlt : j < ps.length
    · obtain ⟨b, o, p, rfl, hp, c0⟩ := HKC.out wr j hB hlt
      obtain ⟨hp0, hp1⟩ := HPS.out p (List.mem_of_getElem? hp)
      obtain ⟨q, rfl⟩ : ∃ q : Nat, p = (q : Int) := ⟨p.toNat, by omega⟩
      have hBw := HB2.out.trans (hB.mono HB2.out.size)
      obtain ⟨b', o', y, rfl, hy, d1, d2, d3, d4⟩ := HL.out wr q hBw (by omega)
      have hii : (j : Int) < (ps.length : Int) := by omega
      have hj0 : (0 : Int) ≤ (j : Int) := by omega
      have hd : decide ((j : Int) < (ps.length : Int)) = true := by simpa using hii
      have hgp : ps.getD j 0 = (q : Int) := by rw [List.getD_eq_getElem?_getD, hp]; rfl
      have hgy : (l[(ps.getD j 0).toNat]?).getD ⟨0, 0, 0, 0⟩ = y := by rw [hgp, Int.toNat_natCast, hy]; rfl
      have hst : ps.length - j = (ps.length - (j + 1)) + 1 := by omega
      rw [hst, faultK, hgy, hgp] at hF
      have HFT := HFI.out wr y hBw
      obtain ⟨r, hr⟩ : ∃ r, fitsB ks xs y = r := ⟨_, rfl⟩
      rw [hr] at hF HFT
      have HBw := Hid.mk_ hBw
      have HBr := Hid.mk_ hB
      have HFF := Hid.mk_ hF
      unfold tokV at HFT
      clear hF hB hBw hp hy hr hgp hgy hst HKC HFI HL
      obtain ⟨yk, yt, yn, ym⟩ := y
      dsimp only at *
      go_wp2_with fail
      refine HFT.mono ?_
      rintro e W3 ⟨rfl, hB3⟩
      have HB3 := Hid.mk_ (HBr.out.trans (hB3.mono HBr.out.size))
      clear hB3 HFT
      cases r with
      | true =>
        have HN : Hid (faultK ks gs t xs l i ps (j + 1) (ps.length - (j + 1)) = faultK ks gs t xs l i ps 0 ps.length) := by
          have := HFF.out
          rw [if_pos rfl] at this
          exact this
        clear HFF
        go_wp2
        go_roundg (ps.length - j)
        case measure => omega
        case rel => exact ⟨j + 1, by omega, by omega, by first | rfl | go_num, HN.out, HB3.out⟩
      | false =>
        have HN : Hid (faultK ks gs t xs l i ps 0 ps.length = min (q : Int) (wordF gs t l i (ps.take (j + 1)))) := by
          have := HFF.out
          rw [if_neg (by simp)] at this
          exact this.symm
        have hB23 := HB2.out.trans (HB3.out.mono HB2.out.size)
        have hint : Ints W3 (some ⟨b, o, none⟩) (j + 1) (ps.take (j + 1)) := by
          have h1 := HK.out W3 HB3.out
          refine ⟨by rw [List.length_take]; omega, by omega, .inr ?_⟩
          rcases h1.2.2 with h2 | ⟨b2, o2, e2, h3, h4⟩
          · omega
          · refine ⟨b2, o2, e2, h3, fun k z hz => h4 k z ?_⟩
            rw [List.getElem?_take] at hz
            split at hz
            · exact hz
            · cases hz
        have HWX : Hid (∀ kc', Calls Tryz.prog 145 #[.pointer (some ⟨B, 0, none⟩), .slice (some ⟨b', o', none⟩) len cap, .int .i64 i, .slice (some ⟨b, o, none⟩) (j + 1) kc'] W3 fun e w' => e = .returned (.int .i64 (wordF gs t l i (ps.take (j + 1)))) ∧ Below W3.heap.size W3 w') := fun kc' => HWF.out W3 (some ⟨b, o, none⟩) (j + 1) kc' (ps.take (j + 1)) hB23 hint (by omega) (fun p hp => List.mem_of_mem_take hp)
        have HB23 := Hid.mk_ hB23
        generalize wordF gs t l i (ps.take (j + 1)) = R at *
        clear hB23 hint HFF HK HWF
        have hjk : (j : Int) + 1 ≤ (kc : Int) := by omega
        have hjk2 : j + 1 ≤ kc := by omega
        go_wp2_with fail
        refine (HWX.out _).mono ?_
        rintro e W4 ⟨rfl, hB4⟩
        have HB4 := Hid.mk_ (HB23.out.trans (hB4.mono HB23.out.size))
        clear hB4 HWX
        go_wp2
        go_ret
        exact ⟨by rw [HN.out]; first | rfl | (congr 1; congr 1; omega), HB4.out⟩
    · obtain rfl : j = ps.length := by omega
      have hd : decide ((ps.length : Int) < (ps.length : Int)) = false := by simp
      have hBw := HB2.out.trans (hB.mono HB2.out.size)
      have HWX := HWF.out wr ka ps.length kc ps hBw (HK.out wr hB) (by omega) (fun p hp => hp)
      have HBw := Hid.mk_ hBw
      have HN : Hid (faultK ks gs t xs l i ps 0 ps.length = wordF gs t l i ps) := by
        rw [Nat.sub_self, faultK] at hF
        exact hF.symm
      generalize wordF gs t l i ps = R at *
      clear hF hB hBw HK HKC HWF HFI HL
      go_wp2_with fail
      refine HWX.mono ?_
      rintro e W4 ⟨rfl, hB4⟩
      have HB4 := Hid.mk_ (HBw.out.trans (hB4.mono HBw.out.size))
      clear hB4 HWX
      go_wp2
      go_ret
      exact ⟨by rw [HN.out]; rfl, HB4.out⟩
end Go.Proofs.YtofkiaeocfpkeaaGreatDoor

/- FirstF: schema's firstFault and Check, at documents whose TOpens are of types that the schema has. -/
namespace Go.Proofs.YtofkiaeocfpkeaaGreatDoor
open Go.RowKit

theorem kidsL_length (l : List Tok) (i : Int) (k f : Nat) (out : List Int) : (kidsL l i k f out).length ≤ out.length + f := by
  induction f generalizing k out with
  | zero => rw [kidsL]; omega
  | succ f ih =>
    rw [kidsL]
    split
    · omega
    · split
      · have := ih (k + 1) (out ++ [(k : Int)])
        rw [List.length_append, List.length_singleton] at this
        omega
      · have := ih (k + 1) out
        omega
theorem kidsL_in (l : List Tok) (i : Int) (n : Nat) : ∀ (f k : Nat) (out : List Int), k + f ≤ n → (∀ p ∈ out, 0 ≤ p ∧ p < n) → ∀ p ∈ kidsL l i k f out, 0 ≤ p ∧ p < n := by
  intro f
  induction f with
  | zero => intro k out _ h; rw [kidsL]; exact h
  | succ f ih =>
    intro k out hk h
    rw [kidsL]
    split
    · exact h
    · refine ih (k + 1) _ (by omega) ?_
      split
      · intro p hp
        rcases List.mem_append.1 hp with hp | hp
        · exact h p hp
        · rw [List.mem_singleton] at hp
          subst hp
          omega
      · exact h
theorem kids_few (l : List Tok) (i : Int) : (kids l i).length ≤ l.length := by
  unfold kids
  split
  · exact Nat.zero_le _
  · have := kidsL_length l i (i + 1).toNat (l.length - (i + 1).toNat) []
    rw [List.length_nil] at this
    omega
theorem kids_in (l : List Tok) (i : Int) : ∀ p ∈ kids l i, 0 ≤ p ∧ p < l.length := by
  unfold kids
  split
  · intro p hp; cases hp
  · rename_i h
    exact kidsL_in l i l.length _ _ _ (by omega) (fun p hp => by cases hp)
/-- The fault of what stands in the i-th token. -/
noncomputable def faultAt (ks : List KindD) (gs : List Grp) (ts : List (DataW Unit)) (l : List Tok) (i : Nat) : Int := faultD ks gs (ts.getD (typeAt l i).toNat emptyT) (specOf ks (typeAt l i).toNat) l i
noncomputable def foldF (ks : List KindD) (gs : List Grp) (ts : List (DataW Unit)) (l : List Tok) : Nat → Nat → Int → Int
  | _, 0, f => f
  | i, n + 1, f => if f ≤ (i : Int) then f else if kindAt l i = 1 then foldF ks gs ts l (i + 1) n (min f (faultAt ks gs ts l i)) else foldF ks gs ts l (i + 1) n f
noncomputable def firstS (ks : List KindD) (gs : List Grp) (ts : List (DataW Unit)) (l : List Tok) : Int := foldF ks gs ts l 0 l.length (faultD ks gs (ts.getD 0 emptyT) (specOf ks 0) l (-1))
theorem getD_at {ts : List (DataW Unit)} {i : Nat} (h : i < ts.length) : ts[i]? = some (ts.getD i emptyT) := by
  rw [List.getD_eq_getElem?_getD, List.getElem?_eq_getElem h]
  rfl
set_option maxRecDepth 100000 in
set_option maxHeartbeats 600000 in
theorem firstfault_calls {B g c ng nc : Nat} {ks : List KindD} {gs : List Grp} {ts : List (DataW Unit)} (w : World) (h : SchAt w B g c ng nc ks gs ts) (h0 : 0 < ks.length) (a : Option Addr) (len cap : Nat) (l : List Tok) (hl : Toks w a len l) (hlie : Lies a len cap) (hsz : len ≤ 2048) (hty : ∀ (i : Nat) (x : Tok), l[i]? = some x → x.k = 1 → 0 ≤ x.t ∧ x.t < ks.length) :
    Calls Tryz.prog 51 #[.pointer (some ⟨B, 0, none⟩), .slice a len cap] w fun e w' => e = .returned (.int .i64 (firstS ks gs ts l)) ∧ Below w.heap.size w w' := by
  have hll := hl.1
  have HF0 : Hid (Calls Tryz.prog 99 #[.pointer (some ⟨B, 0, none⟩), .slice a len cap, .int .i64 (-1)] w fun e w' => e = .returned (.int .i64 (faultD ks gs (ts.getD 0 emptyT) (specOf ks 0) l (-1))) ∧ Below w.heap.size w w') :=
    faultin_calls w h h0 a len cap l hl hlie hsz (-1) 0 _ (getD_at (by have := h.len; omega)) (fun X hX => kindat_out X (h.below hX) h0 _) (by have := kids_few l (-1); omega) (fun p hp => by have := kids_in l (-1) p hp; omega)
  have HFI : Hid (∀ (X : World) (i : Nat) (x : Tok), Below w.heap.size w X → l[i]? = some x → x.k = 1 → Calls Tryz.prog 99 #[.pointer (some ⟨B, 0, none⟩), .slice a len cap, .int .i64 (i : Int)] X fun e w' => e = .returned (.int .i64 (faultAt ks gs ts l i)) ∧ Below X.heap.size X w') := fun X i x hX hx hk => by
    obtain ⟨t0, t1⟩ := hty i x hx hk
    have hta : typeAt l (i : Int) = x.t := by unfold typeAt; rw [Int.toNat_natCast, hx]; rfl
    unfold faultAt
    rw [hta]
    exact faultin_calls X (h.below hX) h0 a len cap l (hl.below hX) hlie hsz (i : Int) x.t.toNat _ (getD_at (by have := h.len; omega)) (fun Y hY => kindat_in Y (h.below (hX.trans (hY.mono hX.size))) a len cap l (hl.below (hX.trans (hY.mono hX.size))) hsz i x hx t0 t1) (by have := kids_few l i; omega) (fun p hp => by have := kids_in l i p hp; omega)
  have HL : Hid (∀ (X : World) (p : Nat), Below w.heap.size w X → p < len → ∃ b o y, a = some ⟨b, o, none⟩ ∧ l[p]? = some y ∧ X.cell? ⟨b, o + p * 4, none⟩ = some (.int .i64 y.k) ∧ X.cell? ⟨b, o + p * 4 + 1, none⟩ = some (.int .i64 y.t) ∧ X.cell? ⟨b, o + p * 4 + 2, none⟩ = some (.int .i64 y.n) ∧ X.cell? ⟨b, o + p * 4 + 3, none⟩ = some (.int .i64 y.m)) := fun X p hX hp => by
    obtain ⟨b, o, y, h1, _, h3, h4⟩ := hl.token hp
    obtain ⟨d1, d2, d3, d4⟩ := h4 X hX
    exact ⟨b, o, y, h1, h3, d1, d2, d3, d4⟩
  unfold firstS
  obtain ⟨f0, hf0⟩ : ∃ f0, faultD ks gs (ts.getD 0 emptyT) (specOf ks 0) l (-1) = f0 := ⟨_, rfl⟩
  rw [hf0] at HF0 ⊢
  rw [hll]
  have hli : (len : Int) ≤ 2048 := by omega
  clear h hl hlie hty hf0
  go_enter Tryz.func51, Tryz.ntmps51
  go_wp2_with fail
  refine HF0.out.mono ?_
  rintro e W1 ⟨rfl, hB1⟩
  have HB1 := Hid.mk_ hB1
  clear hB1 HF0
  go_wp2
  go_loopg [5, 13] (len + 1) (fun gk u v wr => ∃ (i : Nat) (f : Int), i ≤ len ∧ len < i + gk ∧ u = .int .i64 f ∧ v = .int .i64 (i : Int) ∧ foldF ks gs ts l i (len - i) f = foldF ks gs ts l 0 len f0 ∧ Below w.heap.size w wr)
  case atStart => exact ⟨0, f0, Nat.zero_le _, by omega, rfl, rfl, by rw [Nat.sub_zero], HB1.out⟩
  case round =>
    obtain ⟨i, f, hi, hgk, rfl, rfl, hF, hB⟩ := hrel
    clear HB1
    by_cases hlt : i < len
    · obtain ⟨b, o, y, rfl, hy, d1, d2, d3, d4⟩ := HL.out wr i hB hlt
      have hii : (i : Int) < (len : Int) := by omega
      have hi0 : (0 : Int) ≤ (i : Int) := by omega
      have hd : decide ((i : Int) < (len : Int)) = true := by simpa using hii
      have hst : len - i = (len - (i + 1)) + 1 := by omega
      rw [hst, foldF, kindAt_some hy] at hF
      obtain ⟨V, hV⟩ : ∃ V, V = wr.alloc (.cells #[.int .i64 y.k, .int .i64 y.t, .int .i64 y.n, .int .i64 y.m] 62) := ⟨_, rfl⟩
      have hBV : Below w.heap.size w V := by rw [hV]; exact hB.alloc hB.size _
      have m0 : V.heap[wr.heap.size]? = some (.cells #[.int .i64 y.k, .int .i64 y.t, .int .i64 y.n, .int .i64 y.m] 62 (0, 0)) := by rw [hV]; exact World.alloc_heap_new wr _
      have k0 : V.cell? ⟨wr.heap.size, 0, none⟩ = some (.int .i64 y.k) := cell_of_row V wr.heap.size 0 _ _ _ m0
      have HV : Hid (wr.alloc (.cells #[.int .i64 y.k, .int .i64 y.t, .int .i64 y.n, .int .i64 y.m] 62) = V) := hV.symm
      have HBV := Hid.mk_ hBV
      by_cases dg : f ≤ (i : Int)
      · have hdg : decide (f ≤ (i : Int)) = true := by simpa using dg
        have HE : Hid (foldF ks gs ts l 0 len f0 = f) := by rw [if_pos dg] at hF; exact hF.symm
        have HBA : Hid (∀ o, Below w.heap.size w (wr.alloc o)) := fun o => hB.alloc hB.size o
        clear hF hB hBV m0 hV hst hy
        go_wp2
        go_ret
        exact ⟨by rw [HE.out]; rfl, HBA.out _⟩
      · have hdg : decide (f ≤ (i : Int)) = false := by simpa using dg
        rw [if_neg dg] at hF
        by_cases dk : y.k = 1
        · have hdk : (y.k == 1) = true := by simpa using dk
          rw [if_pos dk] at hF
          have HFX := HFI.out V i y hBV hy dk
          have HFF := Hid.mk_ hF
          generalize faultAt ks gs ts l i = fa at *
          clear hF hB hBV m0 hV hst hy dk dg
          go_wp2_with fail
          rw [HV.out]
          refine HFX.mono ?_
          rintro e W3 ⟨rfl, hB3⟩
          have HB3 := Hid.mk_ (HBV.out.trans (hB3.mono HBV.out.size))
          clear hB3 HFX
          go_wp2
          go_roundg (len - i)
          case measure => omega
          case rel => exact ⟨i + 1, min f fa, by omega, by omega, by first | rfl | (congr 1; omega), by first | rfl | go_num, HFF.out, HB3.out⟩
        · have hdk : (y.k == 1) = false := by simpa using dk
          rw [if_neg dk] at hF
          have HFF := Hid.mk_ hF
          have HBA : Hid (∀ o, Below w.heap.size w (wr.alloc o)) := fun o => hB.alloc hB.size o
          clear hF hB hBV m0 hV hst hy dk dg
          go_wp2
          go_roundg (len - i)
          case measure => omega
          case rel => exact ⟨i + 1, f, by omega, by omega, rfl, by first | rfl | go_num, HFF.out, HBA.out _⟩
    · obtain rfl : i = len := by omega
      have hd : decide ((i : Int) < (i : Int)) = false := by simp
      have HE : Hid (foldF ks gs ts l 0 i f0 = f ∧ Below w.heap.size w wr) := by
        rw [Nat.sub_self, foldF] at hF
        exact ⟨hF.symm, hB⟩
      clear hF hB
      go_wp2
      go_ret
      exact ⟨by rw [HE.out.1]; rfl, HE.out.2⟩
/-- What Check answers. -/
noncomputable def checkS (ks : List KindD) (gs : List Grp) (ts : List (DataW Unit)) (l : List Tok) : Int × Int :=
  if (check l).2 ≠ 0 then check l else if firstS ks gs ts l ≠ 2049 then (firstS ks gs ts l, 9) else ((l.length : Int), 0)
set_option maxRecDepth 100000 in
set_option maxHeartbeats 600000 in
theorem scheck_calls {B g c ng nc : Nat} {ks : List KindD} {gs : List Grp} {ts : List (DataW Unit)} (w : World) (h : SchAt w B g c ng nc ks gs ts) (h0 : 0 < ks.length) (a : Option Addr) (len cap : Nat) (l : List Tok) (hl : Toks w a len l) (hlie : Lies a len cap) (hsz : len ≤ 4398046511104) (hty : (check l).2 = 0 → ∀ (i : Nat) (x : Tok), l[i]? = some x → x.k = 1 → 0 ≤ x.t ∧ x.t < ks.length) :
    Calls Tryz.prog 18 #[.pointer (some ⟨B, 0, none⟩), .slice a len cap] w fun e w' => e = .returned (.tuple #[.int .i64 (checkS ks gs ts l).1, .int .i64 (checkS ks gs ts l).2]) ∧ Below w.heap.size w w' := by
  have HM := Hid.mk_ (ismade_calls w h h0)
  have HC : Hid (Calls Tryz.prog 31 #[.slice a len cap] w fun e w' => e = .returned (.tuple #[.int .i64 (check l).1, .int .i64 (check l).2]) ∧ Below w.heap.size w w') := fcheck_calls a len cap l w hl hsz
  have hll := hl.1
  obtain ⟨ca, cb, hc⟩ : ∃ ca cb, check l = (ca, cb) := ⟨_, _, rfl⟩
  have HFF : Hid (cb = 0 → ∀ X, Below w.heap.size w X → Calls Tryz.prog 51 #[.pointer (some ⟨B, 0, none⟩), .slice a len cap] X fun e w' => e = .returned (.int .i64 (firstS ks gs ts l)) ∧ Below X.heap.size X w') := fun hz X hX => by
    have hc2 : (check l).2 = 0 := by rw [hc]; exact hz
    have h20 := ((check_ok l).1 hc2).1
    exact firstfault_calls X (h.below hX) h0 a len cap l (hl.below hX) hlie (by omega) (hty hc2)
  unfold checkS
  rw [hc] at HC ⊢
  dsimp only at HC ⊢
  generalize firstS ks gs ts l = ff at *
  rw [hll]
  have hli : (len : Int) ≤ 4398046511104 := by omega
  clear h hl hlie hty hc hll
  by_cases d0 : cb ≠ 0
  · rw [if_pos d0]
    have e0 : (cb == 0) = false := by simpa using d0
    have e1 : (cb != 0) = true := by simp [bne, e0]
    clear HFF
    go_enter Tryz.func18, Tryz.ntmps18
    go_wp2_with fail
    refine HM.out.mono ?_
    rintro e W ⟨rfl, rfl⟩
    go_wp2_with fail
    refine HC.out.mono ?_
    rintro e W1 ⟨rfl, hB1⟩
    have HB1 := Hid.mk_ hB1
    clear hB1 HC HM
    go_wp2
    go_ret2
    exact ⟨rfl, HB1.out⟩
  · rw [if_neg d0]
    have d0 : cb = 0 := Classical.not_not.1 d0
    subst d0
    have e1 : ((0 : Int) != 0) = false := rfl
    have HF := Hid.mk_ (HFF.out rfl)
    clear HFF
    by_cases d1 : ff ≠ 2049
    · rw [if_pos d1]
      have e2 : (ff == 2049) = false := by simpa using d1
      have e3 : (ff != 2049) = true := by simp [bne, e2]
      go_enter Tryz.func18, Tryz.ntmps18
      go_wp2_with fail
      refine HM.out.mono ?_
      rintro e W ⟨rfl, rfl⟩
      go_wp2_with fail
      refine HC.out.mono ?_
      rintro e W1 ⟨rfl, hB1⟩
      have HB1 := Hid.mk_ hB1
      have HF1 := HF.out W1 hB1
      clear hB1 HC HM HF
      go_wp2_with fail
      refine HF1.mono ?_
      rintro e W2 ⟨rfl, hB2⟩
      have HB2 := Hid.mk_ (HB1.out.trans (hB2.mono HB1.out.size))
      clear hB2 HF1
      go_wp2
      go_ret2
      exact ⟨rfl, HB2.out⟩
    · rw [if_neg d1]
      have d1 : ff = 2049 := Classical.not_not.1 d1
      subst d1
      have e3 : ((2049 : Int) != 2049) = false := rfl
      go_enter Tryz.func18, Tryz.ntmps18
      go_wp2_with fail
      refine HM.out.mono ?_
      rintro e W ⟨rfl, rfl⟩
      go_wp2_with fail
      refine HC.out.mono ?_
      rintro e W1 ⟨rfl, hB1⟩
      have HB1 := Hid.mk_ hB1
      have HF1 := HF.out W1 hB1
      clear hB1 HC HM HF
      go_wp2_with fail
      refine HF1.mono ?_
      rintro e W2 ⟨rfl, hB2⟩
      have HB2 := Hid.mk_ (HB1.out.trans (hB2.mono HB1.out.size))
      clear hB2 HF1
      go_wp2
      go_ret2
      exact ⟨rfl, HB2.out⟩
end Go.Proofs.YtofkiaeocfpkeaaGreatDoor
