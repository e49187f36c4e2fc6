/-
  PROVED HERE: what the texts PRowsW, PRows say (each has its own words below).
-/
import Derived.Test.YtgpopploimeeaaaCB14
import Derived.Test.YtgpopploimeeaaaCB15
import Derived.Test.YtgpopploimeeaaaCB9
/- PRowsW: the rows of all blocks, in order. -/
namespace Go.Proofs.Ytgpopploimeeaaa
open Go.RowKit

/-- How it begins. -/
theorem gs_start (w : World) (vA vB : Value) :
    Gs w (((((w.alloc (.cells #[vA] 70)).alloc (.cells #[vB] 70)).alloc (.cells #[.slice none 0 0] 42)).alloc (.cells #[.int .i64 0] 3)).alloc (.cells #[.int .i64 0] 3)) (w.heap.size + 3) (w.heap.size + 2) w.heap.size (w.heap.size + 4) (w.heap.size + 1) (.slice none 0 0) [] 0 0 vA vB := by
  have b0 := Below.refl w.heap.size w
  have b1 := b0.alloc (Nat.le_refl _) (.cells #[vA] 70)
  have n1 := World.alloc_heap_new w (.cells #[vA] 70)
  have z1 := World.size_alloc w (.cells #[vA] 70)
  generalize w.alloc (.cells #[vA] 70) = W1 at *
  have b2 := b1.alloc (by omega) (.cells #[vB] 70)
  have n2 := World.alloc_heap_new W1 (.cells #[vB] 70)
  have z2 := World.size_alloc W1 (.cells #[vB] 70)
  have k2 : ∀ k, k < W1.heap.size → (W1.alloc (.cells #[vB] 70)).heap[k]? = W1.heap[k]? := fun k h => Below.heap_alloc W1 _ k h
  generalize W1.alloc (.cells #[vB] 70) = W2 at *
  have b3 := b2.alloc (by omega) (.cells #[.slice none 0 0] 42)
  have n3 := World.alloc_heap_new W2 (.cells #[.slice none 0 0] 42)
  have z3 := World.size_alloc W2 (.cells #[.slice none 0 0] 42)
  have k3 : ∀ k, k < W2.heap.size → (W2.alloc (.cells #[.slice none 0 0] 42)).heap[k]? = W2.heap[k]? := fun k h => Below.heap_alloc W2 _ k h
  generalize W2.alloc (.cells #[.slice none 0 0] 42) = W3 at *
  have b4 := b3.alloc (by omega) (.cells #[.int .i64 0] 3)
  have n4 := World.alloc_heap_new W3 (.cells #[.int .i64 0] 3)
  have z4 := World.size_alloc W3 (.cells #[.int .i64 0] 3)
  have k4 : ∀ k, k < W3.heap.size → (W3.alloc (.cells #[.int .i64 0] 3)).heap[k]? = W3.heap[k]? := fun k h => Below.heap_alloc W3 _ k h
  generalize W3.alloc (.cells #[.int .i64 0] 3) = W4 at *
  have b5 := b4.alloc (by omega) (.cells #[.int .i64 0] 3)
  have n5 := World.alloc_heap_new W4 (.cells #[.int .i64 0] 3)
  have k5 : ∀ k, k < W4.heap.size → (W4.alloc (.cells #[.int .i64 0] 3)).heap[k]? = W4.heap[k]? := fun k h => Below.heap_alloc W4 _ k h
  generalize W4.alloc (.cells #[.int .i64 0] 3) = W5 at *
  have e1 : W1.heap.size = w.heap.size + 1 := by omega
  have e2 : W2.heap.size = w.heap.size + 2 := by omega
  have e3 : W3.heap.size = w.heap.size + 3 := by omega
  have e4 : W4.heap.size = w.heap.size + 4 := by omega
  rw [e1] at n2
  rw [e2] at n3
  rw [e3] at n4
  rw [e4] at n5
  exact ⟨(k5 _ (by omega)).trans n4, n5, (k5 _ (by omega)).trans ((k4 _ (by omega)).trans n3), (k5 _ (by omega)).trans ((k4 _ (by omega)).trans ((k3 _ (by omega)).trans ((k2 _ (by omega)).trans n1))), (k5 _ (by omega)).trans ((k4 _ (by omega)).trans ((k3 _ (by omega)).trans n2)), ⟨rfl, .inl ⟨rfl, rfl⟩⟩, b5, by omega, by omega, by omega, by omega⟩

set_option maxRecDepth 100000 in
set_option maxHeartbeats 2000000 in
theorem rows_calls (n m e1 e2 np cp c1 c2 : Nat) (d1 d2 a1 a2 ap : Option Addr) (l1 l2 : List Tok) (P : List (Nat × Nat)) (w : World) (h1 : Blks w a1 c1 l1 d1 n) (h2 : Blks w a2 c2 l2 d2 m) (hP : Prs w ap np P) (hI : IsPairs (likeB l1 l2) n m 0 0 P) (hn : n ≤ 400) (hm : m ≤ 400) (hnp : np ≤ 400) :
    Calls Try.prog 32 #[.slice d1 n e1, .slice d2 m e2, .slice ap np cp] w fun e w' => ∃ v, e = .returned v ∧ w'.ownsRow w.heap.size 48 3 v (rowsP (tops l1) (tops l2) P 0 0).length (rowV (rowsP (tops l1) (tops l2) P 0 0)) ∧ Below w.heap.size w w' := by
  have hmf : ∀ (fn : Fn) (first cap : Array Value) (W : World), (Instr.makeFunc fn first cap).run Try.prog W = .ok (.func fn first cap) W := fun _ _ _ _ => rfl
  have L1 := h1.1
  have L2 := h2.1
  have LP := hP.1
  have H1 := hide_ h1
  have H2 := hide_ h2
  have HP := hide_ hP
  have HI := hide_ hI
  have HG := hide_ (gs_start w (.slice d1 n e1) (.slice d2 m e2))
  clear h1 h2 hP hI
  go_enter Try.func32, Try.ntmps32
  go_wp2
  clear hmf
  generalize w.heap.size + 4 = bj at HG ⊢
  generalize w.heap.size + 3 = bi at HG ⊢
  generalize w.heap.size + 2 = ba at HG ⊢
  generalize w.heap.size + 1 = bB at HG ⊢
  have HG2 := HG
  clear HG
  go_loopg [16] (P.length + 1) (fun gk u WT => ∃ (k i j : Nat) (v : Value) (rs : List (Int × Int × Int)), u = .int .i64 (k : Int) ∧ k ≤ P.length ∧ P.length < k + gk ∧ i ≤ n ∧ j ≤ m ∧
    Hid (rs ++ rowsP (tops l1) (tops l2) (P.drop k) i j = rowsP (tops l1) (tops l2) P 0 0 ∧ IsPairs (likeB l1 l2) n m i j (P.drop k) ∧ rs.length ≤ i + j) ∧ Hid (Gs w WT bi ba w.heap.size bj bB v rs i j (.slice d1 n e1) (.slice d2 m e2)))
  case atStart => exact ⟨0, 0, 0, _, [], rfl, Nat.zero_le _, by omega, Nat.zero_le _, Nat.zero_le _, ⟨rfl, HI.out, Nat.le_refl _⟩, HG2.out⟩
  case round =>
    obtain ⟨k, i, j, v, rs, rfl, hk, hgk, hi, hj, HE, HR⟩ := hrel
    clear HG2
    have hk0 : (0 : Int) ≤ (k : Int) := by omega
    rcases Nat.lt_or_ge k P.length with hlt | hge
    · have hltI : (k : Int) < (np : Int) := by omega
      obtain ⟨bP, oP, x, rfl, hbP, hx, hcP⟩ := HP.out.at (show k < np by omega)
      obtain ⟨q0, q1⟩ := hcP wr HR.out.b
      have hd : P.drop k = x :: P.drop (k + 1) := by
        rw [List.drop_eq_getElem_cons hlt]
        rw [List.getElem?_eq_getElem hlt] at hx
        rw [Option.some.inj hx]
      obtain ⟨p, q⟩ := x
      obtain ⟨E1, E2, E3⟩ := HE.out
      rw [hd] at E1 E2
      obtain ⟨_, hnx, hrest⟩ := E2
      have n1 := hnx.ip
      have n2 := hnx.pn
      have n3 := hnx.jq
      have n4 := hnx.qm
      simp only at n1 n2 n3 n4 q0 q1 hrest
      have hBp : Below wr.heap.size wr (wr.alloc (.cells #[.int .i64 (p : Int), .int .i64 (q : Int)] 68)) := (Below.refl _ wr).alloc (Nat.le_refl _) _
      have HON := hide_ (goOn_calls w _ bi ba w.heap.size bj bB i j p q n m e1 e2 c1 c2 d1 d2 a1 a2 l1 l2 v rs H1.out H2.out (HR.out.kept hBp) n1 (by omega) n3 (by omega) (by omega) (by omega) (by omega))
      clear hcP hd hx HE HR hBp hnx
      go_wp2_with fail
      refine HON.out.mono ?_
      rintro e W2 ⟨rfl, v2, HG3⟩
      clear HON
      obtain ⟨bo1, x1, hd1, hbl1, hx1, hc1⟩ := H1.out.at (show p < n by omega)
      obtain ⟨bo2, x2, hd2, hbl2, hx2, hc2⟩ := H2.out.at (show q < m by omega)
      have hr1 : (tops l1).getD p 0 = x1 := by rw [List.getD_eq_getElem?_getD, hx1]; rfl
      have hr2 : (tops l2).getD q 0 = x2 := by rw [List.getD_eq_getElem?_getD, hx2]; rfl
      have hln : (rs ++ (goA (tops l1) i (p - i) ++ goB (tops l2) j (q - j))).length ≤ p + q := by
        rw [List.length_append, List.length_append, goA_length, goB_length]
        omega
      obtain ⟨v3, g3, c3, W3, hv3, hrun, m0, m1, s1, s2, HP3⟩ := HG3.out.push (by omega) (0, (x1 : Int), (x2 : Int))
      rw [hv3] at hrun s2 HP3
      have HRUN := hide_ hrun
      have HS1 := hide_ s1
      have HS2 := hide_ s2
      have HSA : Hid (Stays W2 ba v2 (W2.alloc (.cells #[.int .i64 0, .int .i64 (x1 : Int), .int .i64 (x2 : Int)] 48)).drew) := fun k h _ _ => Below.heap_alloc W2 _ k h
      have caA : (W2.alloc (.cells #[.int .i64 0, .int .i64 (x1 : Int), .int .i64 (x2 : Int)] 48)).cell? ⟨ba, 0, none⟩ = some v2 := (one_at ((Below.heap_alloc W2 _ ba (Array.getElem?_eq_some_iff.1 HG3.out.ca).1).trans HG3.out.ca)).1
      have ca0 := (one_at HG3.out.ca).1
      have HCC : Hid (∀ X, Stays W2 ba v2 X → X.cell? ⟨bi, 0, none⟩ = some (.int .i64 (p : Int)) ∧ X.cell? ⟨w.heap.size, 0, none⟩ = some (.slice (some ⟨bo1, 0, none⟩) n e1) ∧ X.cell? ⟨bo1, p * 2, none⟩ = some (.int .i64 (x1 : Int)) ∧ X.cell? ⟨bj, 0, none⟩ = some (.int .i64 (q : Int)) ∧ X.cell? ⟨bB, 0, none⟩ = some (.slice (some ⟨bo2, 0, none⟩) m e2) ∧ X.cell? ⟨bo2, q * 2, none⟩ = some (.int .i64 (x2 : Int))) := fun X hX => by
        have g := HG3.out
        have y1 := (hX bi (Array.getElem?_eq_some_iff.1 g.ci).1 (fun e => by have := g.ca; rw [← e, g.ci] at this; simp at this) (own_ne g g.ci (by decide))).trans g.ci
        have y2 := (hX w.heap.size (Array.getElem?_eq_some_iff.1 g.cA).1 (fun e => by have := g.ca; rw [← e, g.cA] at this; simp at this) (own_ne g g.cA (by decide))).trans g.cA
        have y4 := (hX bj (Array.getElem?_eq_some_iff.1 g.cj).1 (fun e => by have := g.ca; rw [← e, g.cj] at this; simp at this) (own_ne g g.cj (by decide))).trans g.cj
        have y5 := (hX bB (Array.getElem?_eq_some_iff.1 g.cB).1 (fun e => by have := g.ca; rw [← e, g.cB] at this; simp at this) (own_ne g g.cB (by decide))).trans g.cB
        have hw := g.b.size
        have oa := g.oa
        have y3 : X.heap[bo1]? = W2.heap[bo1]? := hX bo1 (by omega) (fun e => by omega) (fun e => by have := (World.ownsRow.lt g.own _ e).1; omega)
        have y6 : X.heap[bo2]? = W2.heap[bo2]? := hX bo2 (by omega) (fun e => by omega) (fun e => by have := (World.ownsRow.lt g.own _ e).1; omega)
        refine ⟨(one_at y1).1, by rw [← hd1]; exact (one_at y2).1, ?_, (one_at y4).1, by rw [← hd2]; exact (one_at y5).1, ?_⟩
        · rw [World.cell?_of_block (w := W2) (a := ⟨bo1, p * 2, none⟩) y3]
          exact (hc1 W2 g.b).1
        · rw [World.cell?_of_block (w := W2) (a := ⟨bo2, q * 2, none⟩) y6]
          exact (hc2 W2 g.b).1
      have k0 := (one_at HP3.out.ci).1
      have k1 := (one_at HP3.out.ci).2
      have k2 := (one_at HP3.out.cj).1
      have k3 := (one_at HP3.out.cj).2
      have HNE : Hid ((rs ++ (goA (tops l1) i (p - i) ++ goB (tops l2) j (q - j)) ++ [(0, (x1 : Int), (x2 : Int))]) ++ rowsP (tops l1) (tops l2) (P.drop (k + 1)) (p + 1) (q + 1) = rowsP (tops l1) (tops l2) P 0 0 ∧ IsPairs (likeB l1 l2) n m (p + 1) (q + 1) (P.drop (k + 1)) ∧ (rs ++ (goA (tops l1) i (p - i) ++ goB (tops l2) j (q - j)) ++ [(0, (x1 : Int), (x2 : Int))]).length ≤ (p + 1) + (q + 1)) := by
        refine ⟨?_, hrest, ?_⟩
        · rw [← E1, rowsP, hr1, hr2]
          simp only [List.append_assoc, List.singleton_append]
        · rw [List.length_append, List.length_singleton]
          omega
      generalize hRL : (rs ++ (goA (tops l1) i (p - i) ++ goB (tops l2) j (q - j))).length = RL at *
      have HN : Hid (Gs w (((W3.setCell ⟨ba, 0, none⟩ (.slice (some ⟨g3, 0, none⟩) (RL + 1) c3)).setCell ⟨bi, 0, none⟩ (.int .i64 ((p : Int) + 1))).setCell ⟨bj, 0, none⟩ (.int .i64 ((q : Int) + 1))).drew bi ba w.heap.size bj bB (.slice (some ⟨g3, 0, none⟩) (RL + 1) c3) (rs ++ (goA (tops l1) i (p - i) ++ goB (tops l2) j (q - j)) ++ [(0, (x1 : Int), (x2 : Int))]) (p + 1) (q + 1) (.slice d1 n e1) (.slice d2 m e2)) := by
        have := (HP3.out.setI (p + 1)).setJ (q + 1)
        rw [show (((p + 1 : Nat)) : Int) = (p : Int) + 1 by omega, show (((q + 1 : Nat)) : Int) = (q : Int) + 1 by omega] at this
        exact this.kept (Below.refl _ _).drew
      have hmid := HP3.out.setI (p + 1)
      rw [show (((p + 1 : Nat)) : Int) = (p : Int) + 1 by omega] at hmid
      have k4 := (one_at hmid.cj).1
      have k5 := (one_at hmid.cj).2
      clear hmid
      have hpI : (p : Int) < (n : Int) := by omega
      have hqI : (q : Int) < (m : Int) := by omega
      have hp0 : (0 : Int) ≤ (p : Int) := by omega
      have hq0 : (0 : Int) ≤ (q : Int) := by omega
      have hnI : (n : Int) ≤ 400 := by omega
      have hmI : (m : Int) ≤ 400 := by omega
      clear hd1 hd2 hc1 hc2 hx1 hx2 hr1 hr2 hrun s1 s2 HP3 HG3 hv3 hln E1 E3 hrest
      go_wp2_with fail
      refine wp_region_held_drew (S := Stays W2 ba v2) hmx (fun _ _ _ _ => rfl) (fun hS => ?_)
      refine takeD 1 (some 27) (v := ?_) rfl rfl (by kernel_rfl) (by kernel_rfl) (by kernel_rfl) (fun _ _ _ h => h) (Or.inl ⟨by rfl, ?_⟩) hS ?_
      rotate_left
      · intro w hSw
        obtain ⟨l0, l1, l2, l3, l4, l5⟩ := HCC.out _ hSw
        go_simp
        with_reducible rfl
      try simp only [Act.put, List.setIfInBounds_toArray, List.set_cons_zero, List.set_cons_succ]
      refine takeD 2 (some 28) (v := ?_) rfl rfl (by kernel_rfl) (by kernel_rfl) (by kernel_rfl) (fun _ _ _ h => h) (Or.inl ⟨by rfl, ?_⟩) hS ?_
      rotate_left
      · intro w hSw
        obtain ⟨l0, l1, l2, l3, l4, l5⟩ := HCC.out _ hSw
        go_simp
        with_reducible rfl
      try simp only [Act.put, List.setIfInBounds_toArray, List.set_cons_zero, List.set_cons_succ]
      refine takeD 3 (some 29) (v := ?_) rfl rfl (by kernel_rfl) (by kernel_rfl) (by kernel_rfl) (fun _ _ _ h => h) (Or.inl ⟨by rfl, ?_⟩) hS ?_
      rotate_left
      · intro w hSw
        go_simp
        with_reducible rfl
      try simp only [Act.put, List.setIfInBounds_toArray, List.set_cons_zero, List.set_cons_succ]
      refine takeD 4 (some 30) (v := ?_) rfl rfl (by kernel_rfl) (by kernel_rfl) (by kernel_rfl) (fun _ _ _ h => h) (Or.inl ⟨by rfl, ?_⟩) hS ?_
      rotate_left
      · intro w hSw
        go_simp
        with_reducible rfl
      try simp only [Act.put, List.setIfInBounds_toArray, List.set_cons_zero, List.set_cons_succ]
      refine takeD 5 (some 31) (v := ?_) rfl rfl (by kernel_rfl) (by kernel_rfl) (by kernel_rfl) (fun _ _ _ h => h) (Or.inl ⟨by rfl, ?_⟩) hS ?_
      rotate_left
      · intro w hSw
        obtain ⟨l0, l1, l2, l3, l4, l5⟩ := HCC.out _ hSw
        go_simp
        with_reducible rfl
      try simp only [Act.put, List.setIfInBounds_toArray, List.set_cons_zero, List.set_cons_succ]
      refine takeD 6 (some 32) (v := ?_) rfl rfl (by kernel_rfl) (by kernel_rfl) (by kernel_rfl) (fun _ _ _ h => h) (Or.inl ⟨by rfl, ?_⟩) hS ?_
      rotate_left
      · intro w hSw
        obtain ⟨l0, l1, l2, l3, l4, l5⟩ := HCC.out _ hSw
        go_simp
        with_reducible rfl
      try simp only [Act.put, List.setIfInBounds_toArray, List.set_cons_zero, List.set_cons_succ]
      refine takeD 7 (some 33) (v := ?_) rfl rfl (by kernel_rfl) (by kernel_rfl) (by kernel_rfl) (fun _ _ _ h => h) (Or.inl ⟨by rfl, ?_⟩) hS ?_
      rotate_left
      · intro w hSw
        obtain ⟨l0, l1, l2, l3, l4, l5⟩ := HCC.out _ hSw
        go_simp
        with_reducible rfl
      try simp only [Act.put, List.setIfInBounds_toArray, List.set_cons_zero, List.set_cons_succ]
      refine takeD 8 (some 34) (v := ?_) rfl rfl (by kernel_rfl) (by kernel_rfl) (by kernel_rfl) (fun _ _ _ h => h) (Or.inl ⟨by rfl, ?_⟩) hS ?_
      rotate_left
      · intro w hSw
        go_simp
        with_reducible rfl
      try simp only [Act.put, List.setIfInBounds_toArray, List.set_cons_zero, List.set_cons_succ]
      refine takeD 9 (some 35) (v := ?_) rfl rfl (by kernel_rfl) (by kernel_rfl) (by kernel_rfl) (fun _ _ _ h => h) (Or.inl ⟨by rfl, ?_⟩) hS ?_
      rotate_left
      · intro w hSw
        go_simp
        with_reducible rfl
      try simp only [Act.put, List.setIfInBounds_toArray, List.set_cons_zero, List.set_cons_succ]
      refine takeD 10 (some 36) (v := ?_) rfl rfl (by kernel_rfl) (by kernel_rfl) (by kernel_rfl) (fun _ _ _ h => h) (Or.inl ⟨by rfl, ?_⟩) hS ?_
      rotate_left
      · intro w hSw
        obtain ⟨l0, l1, l2, l3, l4, l5⟩ := HCC.out _ hSw
        go_simp
        with_reducible rfl
      try simp only [Act.put, List.setIfInBounds_toArray, List.set_cons_zero, List.set_cons_succ]
      refine takeD 11 (some 37) (v := ?_) rfl rfl (by kernel_rfl) (by kernel_rfl) (by kernel_rfl) (fun _ _ _ h => h) (Or.inl ⟨by rfl, ?_⟩) hS ?_
      rotate_left
      · intro w hSw
        go_simp
        with_reducible rfl
      try simp only [Act.put, List.setIfInBounds_toArray, List.set_cons_zero, List.set_cons_succ]
      refine wpAnyH_ready (rs := [0, 12]) (by kernel_rfl) (by simp) (AllReadyH.cons rfl (fun K hK => ?_) ( AllReadyH.cons rfl (fun K hK => ?_) (AllReadyH.nil)))
      · rw [if_pos (by rfl)]
        go_simp
        refine hK.out _ _ hS (fun _ => ?_)
        clear hK K
        try simp only [Act.put, List.setIfInBounds_toArray, List.set_cons_zero, List.set_cons_succ]
        refine callD 12 (by kernel_rfl) rfl (fun K hK => ?_)
        rw [if_pos (by rfl)]
        go_simp
        refine hK.out _ _ HSA.out (fun _ => ?_)
        clear hK K
        try simp only [Act.put, List.setIfInBounds_toArray, List.set_cons_zero, List.set_cons_succ]
        refine callD 13 (by kernel_rfl) rfl (fun K hK => ?_)
        refine step_run_append rfl (.tmp 26) (.tmp 38) 42 rfl _ _ _ _ (by simp [Act.eval]) (by simp [Act.eval]) HRUN.out ?_
        refine hK.out _ _ HS1.out (fun _ => ?_)
        clear hK K
        try simp only [Act.put, List.setIfInBounds_toArray]
        refine callD 14 (by kernel_rfl) rfl (fun K hK => ?_)
        rw [if_pos (by rfl)]
        go_simp
        refine hK.out _ _ HS2.out (fun _ => ?_)
        clear hK K
        try simp only [Act.put, List.setIfInBounds_toArray]
        refine wpAnyH_done (by kernel_rfl) ?_ _
        clear hS HSA HS1 HS2 HCC HRUN caA ca0
        go_wp2
        go_region
        go_wp2
        go_roundg (P.length - k)
        case measure => omega
        case rel => exact ⟨k + 1, p + 1, q + 1, _, _, by first | rfl | go_num, by omega, by omega, by omega, by omega, HNE, HN⟩
      · rw [if_pos (by rfl)]
        go_simp
        refine hK.out _ _ HSA.out (fun _ => ?_)
        clear hK K
        try simp only [Act.put, List.setIfInBounds_toArray, List.set_cons_zero, List.set_cons_succ]
        refine callD 0 (by kernel_rfl) rfl (fun K hK => ?_)
        rw [if_pos (by rfl)]
        go_simp
        refine hK.out _ _ HSA.out (fun _ => ?_)
        clear hK K
        try simp only [Act.put, List.setIfInBounds_toArray, List.set_cons_zero, List.set_cons_succ]
        refine callD 13 (by kernel_rfl) rfl (fun K hK => ?_)
        refine step_run_append rfl (.tmp 26) (.tmp 38) 42 rfl _ _ _ _ (by simp [Act.eval]) (by simp [Act.eval]) HRUN.out ?_
        refine hK.out _ _ HS1.out (fun _ => ?_)
        clear hK K
        try simp only [Act.put, List.setIfInBounds_toArray]
        refine callD 14 (by kernel_rfl) rfl (fun K hK => ?_)
        rw [if_pos (by rfl)]
        go_simp
        refine hK.out _ _ HS2.out (fun _ => ?_)
        clear hK K
        try simp only [Act.put, List.setIfInBounds_toArray]
        refine wpAnyH_done (by kernel_rfl) ?_ _
        clear hS HSA HS1 HS2 HCC HRUN caA ca0
        go_wp2
        go_region
        go_wp2
        go_roundg (P.length - k)
        case measure => omega
        case rel => exact ⟨k + 1, p + 1, q + 1, _, _, by first | rfl | go_num, by omega, by omega, by omega, by omega, HNE, HN⟩
    · obtain rfl : k = P.length := by omega
      have hltI : ¬ ((P.length : Int) < (np : Int)) := by omega
      obtain ⟨E1, E2, E3⟩ := HE.out
      rw [List.drop_length, rowsP, L1, L2] at E1
      have HON := hide_ (goOn_calls w wr bi ba w.heap.size bj bB i j n m n m e1 e2 c1 c2 d1 d2 a1 a2 l1 l2 v rs H1.out H2.out HR.out hi (Nat.le_refl _) hj (Nat.le_refl _) (by omega) (by omega) (by omega))
      rw [E1] at HON
      have zA := (one_at HR.out.cA).1
      have zB := (one_at HR.out.cB).1
      clear E1 E2 E3 HE HR
      go_wp2_with fail
      refine HON.out.mono ?_
      rintro e W2 ⟨rfl, v2, HG3⟩
      clear HON zA zB
      have zz := (one_at HG3.out.ca).1
      go_wp2
      go_ret
      exact ⟨_, rfl, HG3.out.own, HG3.out.b⟩
end Go.Proofs.Ytgpopploimeeaaa

/- PRows: rows within a row in memory, of which the last ones are made. -/
namespace Go.Proofs.Ytgpopploimeeaaa
open Go.RowKit

/-- The rows from a on of n rows of m cells, in blocks from base on; the others are nil yet. -/
structure Rws (W : World) (base g n m a : Nat) (rb : Nat → Nat) (f : Nat → Nat → Value) : Prop where
  top : ∀ i, a ≤ i → i < n → W.cell? ⟨g, i, none⟩ = some (.slice (some ⟨rb i, 0, none⟩) m m)
  nil : ∀ i, i < a → i < n → W.cell? ⟨g, i, none⟩ = some (.slice none 0 0)
  tfr : ∀ i, i < n → W.frozen? ⟨g, i, none⟩ = false
  row : ∀ i j, a ≤ i → i < n → j < m → W.cell? ⟨rb i, j, none⟩ = some (f i j)
  fro : ∀ i j, a ≤ i → i < n → W.frozen? ⟨rb i, j, none⟩ = false
  ne : ∀ i, a ≤ i → i < n → rb i ≠ g
  inj : ∀ i k, a ≤ i → i < n → a ≤ k → k < n → rb i = rb k → i = k
  gb : base ≤ g
  rge : ∀ i, a ≤ i → i < n → base ≤ rb i
  gl : g < W.heap.size
  rl : ∀ i, a ≤ i → i < n → rb i < W.heap.size

section
variable {W W' : World} {base g n m a : Nat} {rb : Nat → Nat} {f : Nat → Nat → Value}
theorem Rws.below (h : Rws W base g n m a rb f) (hB : Below W.heap.size W W') : Rws W' base g n m a rb f :=
  ⟨fun i h1 h2 => (hB.cell (p := ⟨g, i, none⟩) h.gl).trans (h.top i h1 h2), fun i h1 h2 => (hB.cell (p := ⟨g, i, none⟩) h.gl).trans (h.nil i h1 h2), fun i h1 => (hB.frozen (p := ⟨g, i, none⟩) h.gl).trans (h.tfr i h1),
    fun i j h1 h2 h3 => (hB.cell (p := ⟨rb i, j, none⟩) (h.rl i h1 h2)).trans (h.row i j h1 h2 h3), fun i j h1 h2 => (hB.frozen (p := ⟨rb i, j, none⟩) (h.rl i h1 h2)).trans (h.fro i j h1 h2), h.ne, h.inj, h.gb, h.rge, Nat.lt_of_lt_of_le h.gl hB.size, fun i h1 h2 => Nat.lt_of_lt_of_le (h.rl i h1 h2) hB.size⟩
theorem Rws.congr {f' : Nat → Nat → Value} (h : Rws W base g n m a rb f) (e : ∀ p q, a ≤ p → p < n → q < m → f p q = f' p q) : Rws W base g n m a rb f' :=
  ⟨h.top, h.nil, h.tfr, fun i j h1 h2 h3 => (h.row i j h1 h2 h3).trans (by rw [e i j h1 h2 h3]), h.fro, h.ne, h.inj, h.gb, h.rge, h.gl, h.rl⟩
theorem Rws.drew (h : Rws W base g n m a rb f) : Rws W.drew base g n m a rb f := h.below (Below.refl _ W).drew
theorem Rws.grid (h : Rws W base g n m 0 rb f) : Grd W base g n m rb f :=
  ⟨fun i h1 => h.top i (Nat.zero_le _) h1, fun i j h1 h2 => h.row i j (Nat.zero_le _) h1 h2, fun i j h1 => h.fro i j (Nat.zero_le _) h1, fun i h1 => h.ne i (Nat.zero_le _) h1, fun i k h1 h2 => h.inj i k (Nat.zero_le _) h1 (Nat.zero_le _) h2, h.gb, fun i h1 => h.rge i (Nat.zero_le _) h1, h.gl, fun i h1 => h.rl i (Nat.zero_le _) h1⟩
/-- One cell set. -/
theorem Rws.set (h : Rws W base g n m a rb f) (i j : Nat) (ha : a ≤ i) (hi : i < n) (hj : j < m) (v : Value) : Rws (W.setCell ⟨rb i, j, none⟩ v) base g n m a rb (fun p q => if p = i ∧ q = j then v else f p q) := by
  have hs : (W.setCell ⟨rb i, j, none⟩ v).heap.size = W.heap.size := by simp [World.setCell]
  have ht : ∀ p, (W.setCell ⟨rb i, j, none⟩ v).cell? ⟨g, p, none⟩ = W.cell? ⟨g, p, none⟩ := fun p => World.cell?_setCell_other _ _ _ _ (by intro e; exact h.ne i ha hi (by cases e; rfl))
  refine ⟨fun p h1 h2 => (ht p).trans (h.top p h1 h2), fun p h1 h2 => (ht p).trans (h.nil p h1 h2), fun p h1 => by rw [World.frozen?_setCell]; exact h.tfr p h1, fun p q h1 hp hq => ?_, fun p q h1 hp => ?_, h.ne, h.inj, h.gb, h.rge, by rw [hs]; exact h.gl, fun p h1 hp => by rw [hs]; exact h.rl p h1 hp⟩
  · by_cases e : p = i ∧ q = j
    · obtain ⟨rfl, rfl⟩ := e
      rw [if_pos ⟨rfl, rfl⟩]
      exact World.cell?_setCell_same _ _ _ (h.row p q h1 hp hq)
    · rw [if_neg e, World.cell?_setCell_other _ _ _ _ (by
        intro e2
        apply e
        have e3 := congrArg Addr.block e2
        have e4 := congrArg Addr.off e2
        exact ⟨h.inj _ _ h1 hp ha hi e3.symm, e4.symm⟩)]
      exact h.row p q h1 hp hq
  · rw [World.frozen?_setCell]
    exact h.fro p q h1 hp
/-- One row more: laid, and told in the outer one. -/
theorem Rws.more (h : Rws W base g n m (a + 1) rb f) (hb : base ≤ W.heap.size) (ha : a < n) (z : Value) (t : TypeId) (hz : ∀ p q, q < m → p = a → f p q = z) (hm : ∀ j, j < m → (madeCells #[z] m)[j]? = some z) :
    Rws ((W.alloc (.cells (madeCells #[z] m) t)).setCell ⟨g, a, none⟩ (.slice (some ⟨W.heap.size, 0, none⟩) m m)) base g n m a (fun i => if i = a then W.heap.size else rb i) f := by
  have hB : Below W.heap.size W (W.alloc (.cells (madeCells #[z] m) t)) := (Below.refl _ W).alloc (Nat.le_refl _) _
  have h1 := h.below hB
  have hnew := World.alloc_heap_new W (.cells (madeCells #[z] m) t)
  have hsz := World.size_alloc W (.cells (madeCells #[z] m) t)
  have hgl := h.gl
  have hrl := h.rl
  generalize W.alloc (.cells (madeCells #[z] m) t) = V at *
  have hs : (V.setCell ⟨g, a, none⟩ (.slice (some ⟨W.heap.size, 0, none⟩) m m)).heap.size = V.heap.size := by simp [World.setCell]
  have ho : ∀ (b o : Nat), b ≠ g → (V.setCell ⟨g, a, none⟩ (.slice (some ⟨W.heap.size, 0, none⟩) m m)).cell? ⟨b, o, none⟩ = V.cell? ⟨b, o, none⟩ := fun b o hb => World.cell?_setCell_other _ _ _ _ (by intro e; exact hb (by cases e; rfl))
  have hc : ∀ p, p ≠ a → (V.setCell ⟨g, a, none⟩ (.slice (some ⟨W.heap.size, 0, none⟩) m m)).cell? ⟨g, p, none⟩ = V.cell? ⟨g, p, none⟩ := fun p hp => World.cell?_setCell_other _ _ _ _ (by intro e; exact hp (by cases e; rfl))
  refine ⟨fun p h2 h3 => ?_, fun p h2 h3 => ?_, fun p h2 => ?_, fun p q h2 h3 h4 => ?_, fun p q h2 h3 => ?_, fun p h2 h3 => ?_, fun p k h2 h3 h4 h5 h6 => ?_, h.gb, fun p h2 h3 => ?_, by rw [hs]; omega, fun p h2 h3 => ?_⟩
  · by_cases e : p = a
    · subst e
      rw [World.cell?_setCell_same _ _ _ (h1.nil p (Nat.lt_succ_self _) h3), if_pos rfl]
    · rw [hc p e, if_neg e]
      exact h1.top p (by omega) h3
  · rw [hc p (by omega)]
    exact h1.nil p (by omega) h3
  · rw [World.frozen?_setCell]
    exact h1.tfr p h2
  · by_cases e : p = a
    · subst e
      rw [if_pos rfl, ho _ _ (by omega), hz p q h4 rfl]
      simp only [World.cell?]
      rw [hnew]
      exact hm q h4
    · rw [if_neg e, ho _ _ (h.ne p (by omega) h3)]
      exact h1.row p q (by omega) h3 h4
  · rw [World.frozen?_setCell]
    by_cases e : p = a
    · rw [if_pos e]
      simp [World.frozen?, hnew]
    · rw [if_neg e]
      exact h1.fro p q (by omega) h3
  · by_cases e : p = a
    · rw [if_pos e]
      omega
    · rw [if_neg e]
      exact h.ne p (by omega) h3
  · by_cases e : p = a
    · rw [if_pos e] at h6
      by_cases e2 : k = a
      · omega
      · rw [if_neg e2] at h6
        have := hrl k (by omega) h5
        omega
    · rw [if_neg e] at h6
      by_cases e2 : k = a
      · rw [if_pos e2] at h6
        have := hrl p (by omega) h3
        omega
      · rw [if_neg e2] at h6
        exact h.inj p k (by omega) h3 (by omega) h5 h6
  · by_cases e : p = a
    · rw [if_pos e]
      exact hb
    · rw [if_neg e]
      exact h.rge p (by omega) h3
  · rw [hs]
    by_cases e : p = a
    · rw [if_pos e]
      omega
    · rw [if_neg e]
      have := hrl p (by omega) h3
      omega
/-- None is made yet. -/
theorem Rws.fresh (w : World) (n m : Nat) (t : TypeId) (rb : Nat → Nat) (f : Nat → Nat → Value) : Rws (w.alloc (.cells (madeCells #[.slice Option.none 0 0] n) t)) w.heap.size w.heap.size n m n rb f := by
  have hnew := World.alloc_heap_new w (.cells (madeCells #[.slice none 0 0] n) t)
  have hsz := World.size_alloc w (.cells (madeCells #[.slice none 0 0] n) t)
  generalize w.alloc (.cells (madeCells #[.slice none 0 0] n) t) = V at *
  refine ⟨fun p h2 h3 => by omega, fun p h2 h3 => ?_, fun p h2 => by simp [World.frozen?, hnew], fun p q h2 h3 h4 => by omega, fun p q h2 h3 => by omega, fun p h2 h3 => by omega, fun p k h2 h3 h4 h5 h6 => by omega, Nat.le_refl _, fun p h2 h3 => by omega, by omega, fun p h2 h3 => by omega⟩
  simp only [World.cell?]
  rw [hnew]
  show (madeCells #[.slice Option.none 0 0] n)[p]? = _
  simp [madeCells, h3, Nat.mod_one]
end
end Go.Proofs.Ytgpopploimeeaaa
