/-
  PROVED HERE: the rows of all blocks, in order.
-/
import Derived.Test.YtgpopploimeeaaaPGoOn
import Derived.Test.YtgpopploimeeaaaLOwns
namespace Go.Proofs.Ytgpopploimeeaaa
open Go.RowKit

/-- How it begins. -/
theorem gs_start (w : World) (vA vB : Value) :
    Gs w (((((w.alloc (.cells #[vA] 70)).alloc (.cells #[vB] 70)).alloc (.cells #[.slice none 0 0] 42)).alloc (.cells #[.int .i64 0] 3)).alloc (.cells #[.int .i64 0] 3)) (w.heap.size + 3) (w.heap.size + 2) w.heap.size (w.heap.size + 4) (w.heap.size + 1) (.slice none 0 0) [] 0 0 vA vB := by
  have b0 := Below.refl w.heap.size w
  have b1 := b0.alloc (Nat.le_refl _) (.cells #[vA] 70)
  have n1 := World.alloc_heap_new w (.cells #[vA] 70)
  have z1 := World.size_alloc w (.cells #[vA] 70)
  generalize w.alloc (.cells #[vA] 70) = W1 at *
  have b2 := b1.alloc (by omega) (.cells #[vB] 70)
  have n2 := World.alloc_heap_new W1 (.cells #[vB] 70)
  have z2 := World.size_alloc W1 (.cells #[vB] 70)
  have k2 : ∀ k, k < W1.heap.size → (W1.alloc (.cells #[vB] 70)).heap[k]? = W1.heap[k]? := fun k h => Below.heap_alloc W1 _ k h
  generalize W1.alloc (.cells #[vB] 70) = W2 at *
  have b3 := b2.alloc (by omega) (.cells #[.slice none 0 0] 42)
  have n3 := World.alloc_heap_new W2 (.cells #[.slice none 0 0] 42)
  have z3 := World.size_alloc W2 (.cells #[.slice none 0 0] 42)
  have k3 : ∀ k, k < W2.heap.size → (W2.alloc (.cells #[.slice none 0 0] 42)).heap[k]? = W2.heap[k]? := fun k h => Below.heap_alloc W2 _ k h
  generalize W2.alloc (.cells #[.slice none 0 0] 42) = W3 at *
  have b4 := b3.alloc (by omega) (.cells #[.int .i64 0] 3)
  have n4 := World.alloc_heap_new W3 (.cells #[.int .i64 0] 3)
  have z4 := World.size_alloc W3 (.cells #[.int .i64 0] 3)
  have k4 : ∀ k, k < W3.heap.size → (W3.alloc (.cells #[.int .i64 0] 3)).heap[k]? = W3.heap[k]? := fun k h => Below.heap_alloc W3 _ k h
  generalize W3.alloc (.cells #[.int .i64 0] 3) = W4 at *
  have b5 := b4.alloc (by omega) (.cells #[.int .i64 0] 3)
  have n5 := World.alloc_heap_new W4 (.cells #[.int .i64 0] 3)
  have k5 : ∀ k, k < W4.heap.size → (W4.alloc (.cells #[.int .i64 0] 3)).heap[k]? = W4.heap[k]? := fun k h => Below.heap_alloc W4 _ k h
  generalize W4.alloc (.cells #[.int .i64 0] 3) = W5 at *
  have e1 : W1.heap.size = w.heap.size + 1 := by omega
  have e2 : W2.heap.size = w.heap.size + 2 := by omega
  have e3 : W3.heap.size = w.heap.size + 3 := by omega
  have e4 : W4.heap.size = w.heap.size + 4 := by omega
  rw [e1] at n2
  rw [e2] at n3
  rw [e3] at n4
  rw [e4] at n5
  exact ⟨(k5 _ (by omega)).trans n4, n5, (k5 _ (by omega)).trans ((k4 _ (by omega)).trans n3), (k5 _ (by omega)).trans ((k4 _ (by omega)).trans ((k3 _ (by omega)).trans ((k2 _ (by omega)).trans n1))), (k5 _ (by omega)).trans ((k4 _ (by omega)).trans ((k3 _ (by omega)).trans n2)), ⟨rfl, .inl ⟨rfl, rfl⟩⟩, b5, by omega, by omega, by omega, by omega⟩

set_option maxRecDepth 100000 in
set_option maxHeartbeats 2000000 in
theorem rows_calls (n m e1 e2 np cp c1 c2 : Nat) (d1 d2 a1 a2 ap : Option Addr) (l1 l2 : List Tok) (P : List (Nat × Nat)) (w : World) (h1 : Blks w a1 c1 l1 d1 n) (h2 : Blks w a2 c2 l2 d2 m) (hP : Prs w ap np P) (hI : IsPairs (likeB l1 l2) n m 0 0 P) (hn : n ≤ 400) (hm : m ≤ 400) (hnp : np ≤ 400) :
    Calls Try.prog 32 #[.slice d1 n e1, .slice d2 m e2, .slice ap np cp] w fun e w' => ∃ v, e = .returned v ∧ w'.ownsRow w.heap.size 48 3 v (rowsP (tops l1) (tops l2) P 0 0).length (rowV (rowsP (tops l1) (tops l2) P 0 0)) ∧ Below w.heap.size w w' := by
  have hmf : ∀ (fn : Fn) (first cap : Array Value) (W : World), (Instr.makeFunc fn first cap).run Try.prog W = .ok (.func fn first cap) W := fun _ _ _ _ => rfl
  have L1 := h1.1
  have L2 := h2.1
  have LP := hP.1
  have H1 := hide_ h1
  have H2 := hide_ h2
  have HP := hide_ hP
  have HI := hide_ hI
  have HG := hide_ (gs_start w (.slice d1 n e1) (.slice d2 m e2))
  clear h1 h2 hP hI
  go_enter Try.func32, Try.ntmps32
  go_wp2
  clear hmf
  generalize w.heap.size + 4 = bj at HG ⊢
  generalize w.heap.size + 3 = bi at HG ⊢
  generalize w.heap.size + 2 = ba at HG ⊢
  generalize w.heap.size + 1 = bB at HG ⊢
  have HG2 := HG
  clear HG
  go_loopg [16] (P.length + 1) (fun gk u WT => ∃ (k i j : Nat) (v : Value) (rs : List (Int × Int × Int)), u = .int .i64 (k : Int) ∧ k ≤ P.length ∧ P.length < k + gk ∧ i ≤ n ∧ j ≤ m ∧
    Hid (rs ++ rowsP (tops l1) (tops l2) (P.drop k) i j = rowsP (tops l1) (tops l2) P 0 0 ∧ IsPairs (likeB l1 l2) n m i j (P.drop k) ∧ rs.length ≤ i + j) ∧ Hid (Gs w WT bi ba w.heap.size bj bB v rs i j (.slice d1 n e1) (.slice d2 m e2)))
  case atStart => exact ⟨0, 0, 0, _, [], rfl, Nat.zero_le _, by omega, Nat.zero_le _, Nat.zero_le _, ⟨rfl, HI.out, Nat.le_refl _⟩, HG2.out⟩
  case round =>
    obtain ⟨k, i, j, v, rs, rfl, hk, hgk, hi, hj, HE, HR⟩ := hrel
    clear HG2
    have hk0 : (0 : Int) ≤ (k : Int) := by omega
    rcases Nat.lt_or_ge k P.length with hlt | hge
    · have hltI : (k : Int) < (np : Int) := by omega
      obtain ⟨bP, oP, x, rfl, hbP, hx, hcP⟩ := HP.out.at (show k < np by omega)
      obtain ⟨q0, q1⟩ := hcP wr HR.out.b
      have hd : P.drop k = x :: P.drop (k + 1) := by
        rw [List.drop_eq_getElem_cons hlt]
        rw [List.getElem?_eq_getElem hlt] at hx
        rw [Option.some.inj hx]
      obtain ⟨p, q⟩ := x
      obtain ⟨E1, E2, E3⟩ := HE.out
      rw [hd] at E1 E2
      obtain ⟨_, hnx, hrest⟩ := E2
      have n1 := hnx.ip
      have n2 := hnx.pn
      have n3 := hnx.jq
      have n4 := hnx.qm
      simp only at n1 n2 n3 n4 q0 q1 hrest
      have hBp : Below wr.heap.size wr (wr.alloc (.cells #[.int .i64 (p : Int), .int .i64 (q : Int)] 68)) := (Below.refl _ wr).alloc (Nat.le_refl _) _
      have HON := hide_ (goOn_calls w _ bi ba w.heap.size bj bB i j p q n m e1 e2 c1 c2 d1 d2 a1 a2 l1 l2 v rs H1.out H2.out (HR.out.kept hBp) n1 (by omega) n3 (by omega) (by omega) (by omega) (by omega))
      clear hcP hd hx HE HR hBp hnx
      go_wp2_with fail
      refine HON.out.mono ?_
      rintro e W2 ⟨rfl, v2, HG3⟩
      clear HON
      obtain ⟨bo1, x1, hd1, hbl1, hx1, hc1⟩ := H1.out.at (show p < n by omega)
      obtain ⟨bo2, x2, hd2, hbl2, hx2, hc2⟩ := H2.out.at (show q < m by omega)
      have hr1 : (tops l1).getD p 0 = x1 := by rw [List.getD_eq_getElem?_getD, hx1]; rfl
      have hr2 : (tops l2).getD q 0 = x2 := by rw [List.getD_eq_getElem?_getD, hx2]; rfl
      have hln : (rs ++ (goA (tops l1) i (p - i) ++ goB (tops l2) j (q - j))).length ≤ p + q := by
        rw [List.length_append, List.length_append, goA_length, goB_length]
        omega
      obtain ⟨v3, g3, c3, W3, hv3, hrun, m0, m1, s1, s2, HP3⟩ := HG3.out.push (by omega) (0, (x1 : Int), (x2 : Int))
      rw [hv3] at hrun s2 HP3
      have HRUN := hide_ hrun
      have HS1 := hide_ s1
      have HS2 := hide_ s2
      have HSA : Hid (Stays W2 ba v2 (W2.alloc (.cells #[.int .i64 0, .int .i64 (x1 : Int), .int .i64 (x2 : Int)] 48)).drew) := fun k h _ _ => Below.heap_alloc W2 _ k h
      have caA : (W2.alloc (.cells #[.int .i64 0, .int .i64 (x1 : Int), .int .i64 (x2 : Int)] 48)).cell? ⟨ba, 0, none⟩ = some v2 := (one_at ((Below.heap_alloc W2 _ ba (Array.getElem?_eq_some_iff.1 HG3.out.ca).1).trans HG3.out.ca)).1
      have ca0 := (one_at HG3.out.ca).1
      have HCC : Hid (∀ X, Stays W2 ba v2 X → X.cell? ⟨bi, 0, none⟩ = some (.int .i64 (p : Int)) ∧ X.cell? ⟨w.heap.size, 0, none⟩ = some (.slice (some ⟨bo1, 0, none⟩) n e1) ∧ X.cell? ⟨bo1, p * 2, none⟩ = some (.int .i64 (x1 : Int)) ∧ X.cell? ⟨bj, 0, none⟩ = some (.int .i64 (q : Int)) ∧ X.cell? ⟨bB, 0, none⟩ = some (.slice (some ⟨bo2, 0, none⟩) m e2) ∧ X.cell? ⟨bo2, q * 2, none⟩ = some (.int .i64 (x2 : Int))) := fun X hX => by
        have g := HG3.out
        have y1 := (hX bi (Array.getElem?_eq_some_iff.1 g.ci).1 (fun e => by have := g.ca; rw [← e, g.ci] at this; simp at this) (own_ne g g.ci (by decide))).trans g.ci
        have y2 := (hX w.heap.size (Array.getElem?_eq_some_iff.1 g.cA).1 (fun e => by have := g.ca; rw [← e, g.cA] at this; simp at this) (own_ne g g.cA (by decide))).trans g.cA
        have y4 := (hX bj (Array.getElem?_eq_some_iff.1 g.cj).1 (fun e => by have := g.ca; rw [← e, g.cj] at this; simp at this) (own_ne g g.cj (by decide))).trans g.cj
        have y5 := (hX bB (Array.getElem?_eq_some_iff.1 g.cB).1 (fun e => by have := g.ca; rw [← e, g.cB] at this; simp at this) (own_ne g g.cB (by decide))).trans g.cB
        have hw := g.b.size
        have oa := g.oa
        have y3 : X.heap[bo1]? = W2.heap[bo1]? := hX bo1 (by omega) (fun e => by omega) (fun e => by have := (World.ownsRow.lt g.own _ e).1; omega)
        have y6 : X.heap[bo2]? = W2.heap[bo2]? := hX bo2 (by omega) (fun e => by omega) (fun e => by have := (World.ownsRow.lt g.own _ e).1; omega)
        refine ⟨(one_at y1).1, by rw [← hd1]; exact (one_at y2).1, ?_, (one_at y4).1, by rw [← hd2]; exact (one_at y5).1, ?_⟩
        · rw [World.cell?_of_block (w := W2) (a := ⟨bo1, p * 2, none⟩) y3]
          exact (hc1 W2 g.b).1
        · rw [World.cell?_of_block (w := W2) (a := ⟨bo2, q * 2, none⟩) y6]
          exact (hc2 W2 g.b).1
      have k0 := (one_at HP3.out.ci).1
      have k1 := (one_at HP3.out.ci).2
      have k2 := (one_at HP3.out.cj).1
      have k3 := (one_at HP3.out.cj).2
      have HNE : Hid ((rs ++ (goA (tops l1) i (p - i) ++ goB (tops l2) j (q - j)) ++ [(0, (x1 : Int), (x2 : Int))]) ++ rowsP (tops l1) (tops l2) (P.drop (k + 1)) (p + 1) (q + 1) = rowsP (tops l1) (tops l2) P 0 0 ∧ IsPairs (likeB l1 l2) n m (p + 1) (q + 1) (P.drop (k + 1)) ∧ (rs ++ (goA (tops l1) i (p - i) ++ goB (tops l2) j (q - j)) ++ [(0, (x1 : Int), (x2 : Int))]).length ≤ (p + 1) + (q + 1)) := by
        refine ⟨?_, hrest, ?_⟩
        · rw [← E1, rowsP, hr1, hr2]
          simp only [List.append_assoc, List.singleton_append]
        · rw [List.length_append, List.length_singleton]
          omega
      generalize hRL : (rs ++ (goA (tops l1) i (p - i) ++ goB (tops l2) j (q - j))).length = RL at *
      have HN : Hid (Gs w (((W3.setCell ⟨ba, 0, none⟩ (.slice (some ⟨g3, 0, none⟩) (RL + 1) c3)).setCell ⟨bi, 0, none⟩ (.int .i64 ((p : Int) + 1))).setCell ⟨bj, 0, none⟩ (.int .i64 ((q : Int) + 1))).drew bi ba w.heap.size bj bB (.slice (some ⟨g3, 0, none⟩) (RL + 1) c3) (rs ++ (goA (tops l1) i (p - i) ++ goB (tops l2) j (q - j)) ++ [(0, (x1 : Int), (x2 : Int))]) (p + 1) (q + 1) (.slice d1 n e1) (.slice d2 m e2)) := by
        have := (HP3.out.setI (p + 1)).setJ (q + 1)
        rw [show (((p + 1 : Nat)) : Int) = (p : Int) + 1 by omega, show (((q + 1 : Nat)) : Int) = (q : Int) + 1 by omega] at this
        exact this.kept (Below.refl _ _).drew
      have hmid := HP3.out.setI (p + 1)
      rw [show (((p + 1 : Nat)) : Int) = (p : Int) + 1 by omega] at hmid
      have k4 := (one_at hmid.cj).1
      have k5 := (one_at hmid.cj).2
      clear hmid
      have hpI : (p : Int) < (n : Int) := by omega
      have hqI : (q : Int) < (m : Int) := by omega
      have hp0 : (0 : Int) ≤ (p : Int) := by omega
      have hq0 : (0 : Int) ≤ (q : Int) := by omega
      have hnI : (n : Int) ≤ 400 := by omega
      have hmI : (m : Int) ≤ 400 := by omega
      clear hd1 hd2 hc1 hc2 hx1 hx2 hr1 hr2 hrun s1 s2 HP3 HG3 hv3 hln E1 E3 hrest
      go_wp2_with fail
      refine wp_region_held_drew (S := Stays W2 ba v2) hmx (fun _ _ _ _ => rfl) (fun hS => ?_)
      refine takeD 1 (some 27) (v := ?_) rfl rfl (by kernel_rfl) (by kernel_rfl) (by kernel_rfl) (fun _ _ _ h => h) (Or.inl ⟨by rfl, ?_⟩) hS ?_
      rotate_left
      · intro w hSw
        obtain ⟨l0, l1, l2, l3, l4, l5⟩ := HCC.out _ hSw
        go_simp
        with_reducible rfl
      try simp only [Act.put, List.setIfInBounds_toArray, List.set_cons_zero, List.set_cons_succ]
      refine takeD 2 (some 28) (v := ?_) rfl rfl (by kernel_rfl) (by kernel_rfl) (by kernel_rfl) (fun _ _ _ h => h) (Or.inl ⟨by rfl, ?_⟩) hS ?_
      rotate_left
      · intro w hSw
        obtain ⟨l0, l1, l2, l3, l4, l5⟩ := HCC.out _ hSw
        go_simp
        with_reducible rfl
      try simp only [Act.put, List.setIfInBounds_toArray, List.set_cons_zero, List.set_cons_succ]
      refine takeD 3 (some 29) (v := ?_) rfl rfl (by kernel_rfl) (by kernel_rfl) (by kernel_rfl) (fun _ _ _ h => h) (Or.inl ⟨by rfl, ?_⟩) hS ?_
      rotate_left
      · intro w hSw
        go_simp
        with_reducible rfl
      try simp only [Act.put, List.setIfInBounds_toArray, List.set_cons_zero, List.set_cons_succ]
      refine takeD 4 (some 30) (v := ?_) rfl rfl (by kernel_rfl) (by kernel_rfl) (by kernel_rfl) (fun _ _ _ h => h) (Or.inl ⟨by rfl, ?_⟩) hS ?_
      rotate_left
      · intro w hSw
        go_simp
        with_reducible rfl
      try simp only [Act.put, List.setIfInBounds_toArray, List.set_cons_zero, List.set_cons_succ]
      refine takeD 5 (some 31) (v := ?_) rfl rfl (by kernel_rfl) (by kernel_rfl) (by kernel_rfl) (fun _ _ _ h => h) (Or.inl ⟨by rfl, ?_⟩) hS ?_
      rotate_left
      · intro w hSw
        obtain ⟨l0, l1, l2, l3, l4, l5⟩ := HCC.out _ hSw
        go_simp
        with_reducible rfl
      try simp only [Act.put, List.setIfInBounds_toArray, List.set_cons_zero, List.set_cons_succ]
      refine takeD 6 (some 32) (v := ?_) rfl rfl (by kernel_rfl) (by kernel_rfl) (by kernel_rfl) (fun _ _ _ h => h) (Or.inl ⟨by rfl, ?_⟩) hS ?_
      rotate_left
      · intro w hSw
        obtain ⟨l0, l1, l2, l3, l4, l5⟩ := HCC.out _ hSw
        go_simp
        with_reducible rfl
      try simp only [Act.put, List.setIfInBounds_toArray, List.set_cons_zero, List.set_cons_succ]
      refine takeD 7 (some 33) (v := ?_) rfl rfl (by kernel_rfl) (by kernel_rfl) (by kernel_rfl) (fun _ _ _ h => h) (Or.inl ⟨by rfl, ?_⟩) hS ?_
      rotate_left
      · intro w hSw
        obtain ⟨l0, l1, l2, l3, l4, l5⟩ := HCC.out _ hSw
        go_simp
        with_reducible rfl
      try simp only [Act.put, List.setIfInBounds_toArray, List.set_cons_zero, List.set_cons_succ]
      refine takeD 8 (some 34) (v := ?_) rfl rfl (by kernel_rfl) (by kernel_rfl) (by kernel_rfl) (fun _ _ _ h => h) (Or.inl ⟨by rfl, ?_⟩) hS ?_
      rotate_left
      · intro w hSw
        go_simp
        with_reducible rfl
      try simp only [Act.put, List.setIfInBounds_toArray, List.set_cons_zero, List.set_cons_succ]
      refine takeD 9 (some 35) (v := ?_) rfl rfl (by kernel_rfl) (by kernel_rfl) (by kernel_rfl) (fun _ _ _ h => h) (Or.inl ⟨by rfl, ?_⟩) hS ?_
      rotate_left
      · intro w hSw
        go_simp
        with_reducible rfl
      try simp only [Act.put, List.setIfInBounds_toArray, List.set_cons_zero, List.set_cons_succ]
      refine takeD 10 (some 36) (v := ?_) rfl rfl (by kernel_rfl) (by kernel_rfl) (by kernel_rfl) (fun _ _ _ h => h) (Or.inl ⟨by rfl, ?_⟩) hS ?_
      rotate_left
      · intro w hSw
        obtain ⟨l0, l1, l2, l3, l4, l5⟩ := HCC.out _ hSw
        go_simp
        with_reducible rfl
      try simp only [Act.put, List.setIfInBounds_toArray, List.set_cons_zero, List.set_cons_succ]
      refine takeD 11 (some 37) (v := ?_) rfl rfl (by kernel_rfl) (by kernel_rfl) (by kernel_rfl) (fun _ _ _ h => h) (Or.inl ⟨by rfl, ?_⟩) hS ?_
      rotate_left
      · intro w hSw
        go_simp
        with_reducible rfl
      try simp only [Act.put, List.setIfInBounds_toArray, List.set_cons_zero, List.set_cons_succ]
      refine wpAnyH_ready (rs := [0, 12]) (by kernel_rfl) (by simp) (AllReadyH.cons rfl (fun K hK => ?_) ( AllReadyH.cons rfl (fun K hK => ?_) (AllReadyH.nil)))
      · rw [if_pos (by rfl)]
        go_simp
        refine hK.out _ _ hS (fun _ => ?_)
        clear hK K
        try simp only [Act.put, List.setIfInBounds_toArray, List.set_cons_zero, List.set_cons_succ]
        refine callD 12 (by kernel_rfl) rfl (fun K hK => ?_)
        rw [if_pos (by rfl)]
        go_simp
        refine hK.out _ _ HSA.out (fun _ => ?_)
        clear hK K
        try simp only [Act.put, List.setIfInBounds_toArray, List.set_cons_zero, List.set_cons_succ]
        refine callD 13 (by kernel_rfl) rfl (fun K hK => ?_)
        refine step_run_append rfl (.tmp 26) (.tmp 38) 42 rfl _ _ _ _ (by simp [Act.eval]) (by simp [Act.eval]) HRUN.out ?_
        refine hK.out _ _ HS1.out (fun _ => ?_)
        clear hK K
        try simp only [Act.put, List.setIfInBounds_toArray]
        refine callD 14 (by kernel_rfl) rfl (fun K hK => ?_)
        rw [if_pos (by rfl)]
        go_simp
        refine hK.out _ _ HS2.out (fun _ => ?_)
        clear hK K
        try simp only [Act.put, List.setIfInBounds_toArray]
        refine wpAnyH_done (by kernel_rfl) ?_ _
        clear hS HSA HS1 HS2 HCC HRUN caA ca0
        go_wp2
        go_region
        go_wp2
        go_roundg (P.length - k)
        case measure => omega
        case rel => exact ⟨k + 1, p + 1, q + 1, _, _, by first | rfl | go_num, by omega, by omega, by omega, by omega, HNE, HN⟩
      · rw [if_pos (by rfl)]
        go_simp
        refine hK.out _ _ HSA.out (fun _ => ?_)
        clear hK K
        try simp only [Act.put, List.setIfInBounds_toArray, List.set_cons_zero, List.set_cons_succ]
        refine callD 0 (by kernel_rfl) rfl (fun K hK => ?_)
        rw [if_pos (by rfl)]
        go_simp
        refine hK.out _ _ HSA.out (fun _ => ?_)
        clear hK K
        try simp only [Act.put, List.setIfInBounds_toArray, List.set_cons_zero, List.set_cons_succ]
        refine callD 13 (by kernel_rfl) rfl (fun K hK => ?_)
        refine step_run_append rfl (.tmp 26) (.tmp 38) 42 rfl _ _ _ _ (by simp [Act.eval]) (by simp [Act.eval]) HRUN.out ?_
        refine hK.out _ _ HS1.out (fun _ => ?_)
        clear hK K
        try simp only [Act.put, List.setIfInBounds_toArray]
        refine callD 14 (by kernel_rfl) rfl (fun K hK => ?_)
        rw [if_pos (by rfl)]
        go_simp
        refine hK.out _ _ HS2.out (fun _ => ?_)
        clear hK K
        try simp only [Act.put, List.setIfInBounds_toArray]
        refine wpAnyH_done (by kernel_rfl) ?_ _
        clear hS HSA HS1 HS2 HCC HRUN caA ca0
        go_wp2
        go_region
        go_wp2
        go_roundg (P.length - k)
        case measure => omega
        case rel => exact ⟨k + 1, p + 1, q + 1, _, _, by first | rfl | go_num, by omega, by omega, by omega, by omega, HNE, HN⟩
    · obtain rfl : k = P.length := by omega
      have hltI : ¬ ((P.length : Int) < (np : Int)) := by omega
      obtain ⟨E1, E2, E3⟩ := HE.out
      rw [List.drop_length, rowsP, L1, L2] at E1
      have HON := hide_ (goOn_calls w wr bi ba w.heap.size bj bB i j n m n m e1 e2 c1 c2 d1 d2 a1 a2 l1 l2 v rs H1.out H2.out HR.out hi (Nat.le_refl _) hj (Nat.le_refl _) (by omega) (by omega) (by omega))
      rw [E1] at HON
      have zA := (one_at HR.out.cA).1
      have zB := (one_at HR.out.cB).1
      clear E1 E2 E3 HE HR
      go_wp2_with fail
      refine HON.out.mono ?_
      rintro e W2 ⟨rfl, v2, HG3⟩
      clear HON zA zB
      have zz := (one_at HG3.out.ca).1
      go_wp2
      go_ret
      exact ⟨_, rfl, HG3.out.own, HG3.out.b⟩
end Go.Proofs.Ytgpopploimeeaaa
