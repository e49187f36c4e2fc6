/-
  PROVED HERE: what the texts PGoOn, LPairs say (each has its own words below).
-/
import Derived.Test.YtgpopploimeeaaaCB12
import Derived.Test.YtgpopploimeeaaaCBREdits
import Derived.Test.YtgpopploimeeaaaCB9
import Derived.Laws.StructEq
import Derived.ChangeKeysEq
/- PGoOn: the closure that goes on: ahead of a pair those that go, then those that come. -/
namespace Go.Proofs.Ytgpopploimeeaaa
open Go.RowKit

set_option maxRecDepth 100000 in
set_option maxHeartbeats 4000000 in
theorem goOn_calls (w0 W : World) (bi ba bA bj bB i j p q n m e1 e2 c1 c2 : Nat) (d1 d2 a1 a2 : Option Addr) (l1 l2 : List Tok) (v : Value) (rs : List (Int × Int × Int)) (h1 : Blks w0 a1 c1 l1 d1 n) (h2 : Blks w0 a2 c2 l2 d2 m) (hG : Gs w0 W bi ba bA bj bB v rs i j (.slice d1 n e1) (.slice d2 m e2))
    (hip : i ≤ p) (hpn : p ≤ n) (hjq : j ≤ q) (hqm : q ≤ m) (hn : n ≤ 2048) (hm : m ≤ 2048) (hl : rs.length + (p - i) + (q - j) ≤ 3000) :
    Calls Try.prog 48 #[.int .i64 (p : Int), .int .i64 (q : Int), .pointer (some ⟨bi, 0, none⟩), .pointer (some ⟨ba, 0, none⟩), .pointer (some ⟨bA, 0, none⟩), .pointer (some ⟨bj, 0, none⟩), .pointer (some ⟨bB, 0, none⟩)] W fun e W' => e = .returned (.tuple #[]) ∧ ∃ v', Hid (Gs w0 W' bi ba bA bj bB v' (rs ++ (goA (tops l1) i (p - i) ++ goB (tops l2) j (q - j))) p q (.slice d1 n e1) (.slice d2 m e2)) := by
  have H1 := hide_ h1
  have H2 := hide_ h2
  have HG := hide_ hG
  clear h1 h2 hG
  go_enter Try.func48, Try.ntmps48
  go_wp2
  go_loopg [] (p - i + 1) (fun gk WT => ∃ (d : Nat) (v2 : Value), i + d ≤ p ∧ p < i + d + gk ∧ Hid (Gs w0 WT bi ba bA bj bB v2 (rs ++ goA (tops l1) i d) (i + d) j (.slice d1 n e1) (.slice d2 m e2)))
  case atStart => exact ⟨0, v, by omega, by omega, by rw [goA, List.append_nil]; exact HG.out⟩
  case round =>
    obtain ⟨d, v2, hd, hgk, HR⟩ := hrel
    clear HG
    have k0 := (one_at HR.out.ci).1
    have k1 := (one_at HR.out.ci).2
    have hlim : (p : Int) ≤ 4096 := by omega
    by_cases hlt : i + d < p
    · have hltI : ((i + d : Nat) : Int) < (p : Int) := by omega
      obtain ⟨bo, x, hdd, hbl, hx, hc⟩ := H1.out.at (show i + d < n by omega)
      have hr0 : ((tops l1)).getD (i + d) 0 = x := by rw [List.getD_eq_getElem?_getD, hx]; rfl
      obtain ⟨v3, g3, c3, W1, hv3, hrun, m0, m1, s1, s2, HP⟩ := HR.out.push (by rw [List.length_append, goA_length]; omega) (1, ((((tops l1)).getD (i + d) 0 : Nat) : Int), -1)
      rw [hr0] at hrun
      rw [hv3] at hrun s2 HP
      have HRUN := hide_ hrun
      have HS1 := hide_ s1
      have HS2 := hide_ s2
      have HSA : Hid (Stays wr ba v2 (wr.alloc (.cells #[.int .i64 1, .int .i64 (x : Int), .int .i64 (-1)] 48)).drew) := fun k h _ _ => Below.heap_alloc wr _ k h
      have caA : (wr.alloc (.cells #[.int .i64 1, .int .i64 (x : Int), .int .i64 (-1)] 48)).cell? ⟨ba, 0, none⟩ = some v2 := (one_at ((Below.heap_alloc wr _ ba (Array.getElem?_eq_some_iff.1 HR.out.ca).1).trans HR.out.ca)).1
      have ca0 := (one_at HR.out.ca).1
      have HCC : Hid (∀ X, Stays wr ba v2 X → X.cell? ⟨bi, 0, none⟩ = some (.int .i64 ((i + d : Nat) : Int)) ∧ X.cell? ⟨bA, 0, none⟩ = some (.slice (some ⟨bo, 0, none⟩) n e1) ∧ X.cell? ⟨bo, (i + d) * 2, none⟩ = some (.int .i64 (x : Int))) := fun X hX => by
        have e1 := (hX bi (Array.getElem?_eq_some_iff.1 HR.out.ci).1 (fun e => by have := HR.out.ca; rw [← e, HR.out.ci] at this; simp at this) (own_ne HR.out HR.out.ci (by decide))).trans HR.out.ci
        have e2 := (hX bA (Array.getElem?_eq_some_iff.1 HR.out.cA).1 (fun e => by have := HR.out.ca; rw [← e, HR.out.cA] at this; simp at this) (own_ne HR.out HR.out.cA (by decide))).trans HR.out.cA
        have hw := HR.out.b.size
        have e3 : X.heap[bo]? = wr.heap[bo]? := hX bo (by omega) (fun e => by have := HR.out.oa; omega) (fun e => by have := (World.ownsRow.lt HR.out.own _ e).1; omega)
        refine ⟨(one_at e1).1, by rw [← hdd]; exact (one_at e2).1, ?_⟩
        rw [World.cell?_of_block (w := wr) (a := ⟨bo, (i + d) * 2, none⟩) e3]
        exact (hc wr HR.out.b).1
      have HN : Hid (Gs w0 ((W1.setCell ⟨ba, 0, none⟩ (.slice (some ⟨g3, 0, none⟩) ((rs ++ goA (tops l1) i d).length + 1) c3)).setCell ⟨bi, 0, none⟩ (.int .i64 (((i + d : Nat) : Int) + 1))) bi ba bA bj bB (.slice (some ⟨g3, 0, none⟩) ((rs ++ goA (tops l1) i d).length + 1) c3) (rs ++ goA (tops l1) i (d + 1)) (i + (d + 1)) j (.slice d1 n e1) (.slice d2 m e2)) := by
        have := HP.out.setI (i + d + 1)
        rw [show (((i + d + 1 : Nat)) : Int) = ((i + d : Nat) : Int) + 1 by omega] at this
        rw [goA, ← List.append_assoc]
        exact this
      have kk0 := (one_at HP.out.ci).1
      have kk1 := (one_at HP.out.ci).2
      have hnm : (n : Int) ≤ 4096 := by omega
      have hlt2 : ((i + d : Nat) : Int) < (n : Int) := by omega
      have hD0 : (0 : Int) ≤ ((i + d : Nat) : Int) := by omega
      clear hc hx hrun s1 s2 HP HR hr0
      generalize hRL : (rs ++ goA (tops l1) i d).length = RL at *
      clear hv3
      generalize hDD : i + d = D at *
      go_wp2_with fail
      refine wp_region_held_drew (S := Stays wr ba v2) hmx (fun _ _ _ _ => rfl) (fun hS => ?_)
      refine takeD 1 (some 15) (v := ?_) rfl rfl (by kernel_rfl) (by kernel_rfl) (by kernel_rfl) (fun _ _ _ h => h) (Or.inl ⟨by rfl, ?_⟩) hS ?_
      rotate_left
      · intro w hSw
        obtain ⟨l0, l1, l2⟩ := HCC.out _ hSw
        go_simp
        with_reducible rfl
      try simp only [Act.put, List.setIfInBounds_toArray, List.set_cons_zero, List.set_cons_succ]
      refine takeD 2 (some 16) (v := ?_) rfl rfl (by kernel_rfl) (by kernel_rfl) (by kernel_rfl) (fun _ _ _ h => h) (Or.inl ⟨by rfl, ?_⟩) hS ?_
      rotate_left
      · intro w hSw
        obtain ⟨l0, l1, l2⟩ := HCC.out _ hSw
        go_simp
        with_reducible rfl
      try simp only [Act.put, List.setIfInBounds_toArray, List.set_cons_zero, List.set_cons_succ]
      refine takeD 3 (some 17) (v := ?_) rfl rfl (by kernel_rfl) (by kernel_rfl) (by kernel_rfl) (fun _ _ _ h => h) (Or.inl ⟨by rfl, ?_⟩) hS ?_
      rotate_left
      · intro w hSw
        go_simp
        with_reducible rfl
      try simp only [Act.put, List.setIfInBounds_toArray, List.set_cons_zero, List.set_cons_succ]
      refine takeD 4 (some 18) (v := ?_) rfl rfl (by kernel_rfl) (by kernel_rfl) (by kernel_rfl) (fun _ _ _ h => h) (Or.inl ⟨by rfl, ?_⟩) hS ?_
      rotate_left
      · intro w hSw
        go_simp
        with_reducible rfl
      try simp only [Act.put, List.setIfInBounds_toArray, List.set_cons_zero, List.set_cons_succ]
      refine takeD 5 (some 19) (v := ?_) rfl rfl (by kernel_rfl) (by kernel_rfl) (by kernel_rfl) (fun _ _ _ h => h) (Or.inl ⟨by rfl, ?_⟩) hS ?_
      rotate_left
      · intro w hSw
        obtain ⟨l0, l1, l2⟩ := HCC.out _ hSw
        go_simp
        with_reducible rfl
      try simp only [Act.put, List.setIfInBounds_toArray, List.set_cons_zero, List.set_cons_succ]
      refine takeD 6 (some 20) (v := ?_) rfl rfl (by kernel_rfl) (by kernel_rfl) (by kernel_rfl) (fun _ _ _ h => h) (Or.inl ⟨by rfl, ?_⟩) hS ?_
      rotate_left
      · intro w hSw
        go_simp
        with_reducible rfl
      try simp only [Act.put, List.setIfInBounds_toArray, List.set_cons_zero, List.set_cons_succ]
      refine wpAnyH_ready (rs := [0, 7]) (by kernel_rfl) (by simp) (AllReadyH.cons rfl (fun K hK => ?_) ( AllReadyH.cons rfl (fun K hK => ?_) (AllReadyH.nil)))
      · rw [if_pos (by rfl)]
        go_simp
        refine hK.out _ _ hS (fun _ => ?_)
        clear hK K
        try simp only [Act.put, List.setIfInBounds_toArray, List.set_cons_zero, List.set_cons_succ]
        refine callD 7 (by kernel_rfl) rfl (fun K hK => ?_)
        rw [if_pos (by rfl)]
        go_simp
        refine hK.out _ _ HSA.out (fun _ => ?_)
        clear hK K
        try simp only [Act.put, List.setIfInBounds_toArray, List.set_cons_zero, List.set_cons_succ]
        refine callD 8 (by kernel_rfl) rfl (fun K hK => ?_)
        refine step_run_append rfl (.tmp 14) (.tmp 21) 42 rfl _ _ _ _ (by simp [Act.eval]) (by simp [Act.eval]) HRUN.out ?_
        refine hK.out _ _ HS1.out (fun _ => ?_)
        clear hK K
        try simp only [Act.put, List.setIfInBounds_toArray]
        refine callD 9 (by kernel_rfl) rfl (fun K hK => ?_)
        rw [if_pos (by rfl)]
        go_simp
        refine hK.out _ _ HS2.out (fun _ => ?_)
        clear hK K
        try simp only [Act.put, List.setIfInBounds_toArray]
        refine wpAnyH_done (by kernel_rfl) ?_ _
        clear hS HSA HS1 HS2 HCC HRUN
        go_wp2
        go_roundg (p - D)
        case measure => omega
        case rel => exact ⟨d + 1, _, by omega, by omega, HN⟩
      · rw [if_pos (by rfl)]
        go_simp
        refine hK.out _ _ HSA.out (fun _ => ?_)
        clear hK K
        try simp only [Act.put, List.setIfInBounds_toArray, List.set_cons_zero, List.set_cons_succ]
        refine callD 0 (by kernel_rfl) rfl (fun K hK => ?_)
        rw [if_pos (by rfl)]
        go_simp
        refine hK.out _ _ HSA.out (fun _ => ?_)
        clear hK K
        try simp only [Act.put, List.setIfInBounds_toArray, List.set_cons_zero, List.set_cons_succ]
        refine callD 8 (by kernel_rfl) rfl (fun K hK => ?_)
        refine step_run_append rfl (.tmp 14) (.tmp 21) 42 rfl _ _ _ _ (by simp [Act.eval]) (by simp [Act.eval]) HRUN.out ?_
        refine hK.out _ _ HS1.out (fun _ => ?_)
        clear hK K
        try simp only [Act.put, List.setIfInBounds_toArray]
        refine callD 9 (by kernel_rfl) rfl (fun K hK => ?_)
        rw [if_pos (by rfl)]
        go_simp
        refine hK.out _ _ HS2.out (fun _ => ?_)
        clear hK K
        try simp only [Act.put, List.setIfInBounds_toArray]
        refine wpAnyH_done (by kernel_rfl) ?_ _
        clear hS HSA HS1 HS2 HCC HRUN
        go_wp2
        go_roundg (p - D)
        case measure => omega
        case rel => exact ⟨d + 1, _, by omega, by omega, HN⟩
    · have hltI : ¬ (((i + d : Nat) : Int) < (p : Int)) := by omega
      obtain rfl : d = p - i := by omega
      have HF := HR
      rw [show i + (p - i) = p by omega] at HF
      clear HR
      go_wp2
      go_loopg [] (q - j + 1) (fun gk WT => ∃ (d : Nat) (v2 : Value), j + d ≤ q ∧ q < j + d + gk ∧ Hid (Gs w0 WT bi ba bA bj bB v2 (rs ++ goA (tops l1) i (p - i) ++ goB (tops l2) j d) p (j + d) (.slice d1 n e1) (.slice d2 m e2)))
      case atStart => exact ⟨0, v2, by omega, by omega, by rw [goB, List.append_nil]; exact HF.out⟩
      case round =>
        obtain ⟨d, v2, hd, hgk, HR⟩ := hrel
        clear HF
        have k0 := (one_at HR.out.cj).1
        have k1 := (one_at HR.out.cj).2
        have hlim : (q : Int) ≤ 4096 := by omega
        by_cases hlt : j + d < q
        · have hltI : ((j + d : Nat) : Int) < (q : Int) := by omega
          obtain ⟨bo, x, hdd, hbl, hx, hc⟩ := H2.out.at (show j + d < m by omega)
          have hr0 : ((tops l2)).getD (j + d) 0 = x := by rw [List.getD_eq_getElem?_getD, hx]; rfl
          obtain ⟨v3, g3, c3, W1, hv3, hrun, m0, m1, s1, s2, HP⟩ := HR.out.push (by rw [List.length_append, List.length_append, goA_length, goB_length]; omega) (2, -1, ((((tops l2)).getD (j + d) 0 : Nat) : Int))
          rw [hr0] at hrun
          rw [hv3] at hrun s2 HP
          have HRUN := hide_ hrun
          have HS1 := hide_ s1
          have HS2 := hide_ s2
          have HSA : Hid (Stays wr ba v2 (wr.alloc (.cells #[.int .i64 2, .int .i64 (-1), .int .i64 (x : Int)] 48)).drew) := fun k h _ _ => Below.heap_alloc wr _ k h
          have caA : (wr.alloc (.cells #[.int .i64 2, .int .i64 (-1), .int .i64 (x : Int)] 48)).cell? ⟨ba, 0, none⟩ = some v2 := (one_at ((Below.heap_alloc wr _ ba (Array.getElem?_eq_some_iff.1 HR.out.ca).1).trans HR.out.ca)).1
          have ca0 := (one_at HR.out.ca).1
          have HCC : Hid (∀ X, Stays wr ba v2 X → X.cell? ⟨bj, 0, none⟩ = some (.int .i64 ((j + d : Nat) : Int)) ∧ X.cell? ⟨bB, 0, none⟩ = some (.slice (some ⟨bo, 0, none⟩) m e2) ∧ X.cell? ⟨bo, (j + d) * 2, none⟩ = some (.int .i64 (x : Int))) := fun X hX => by
            have e1 := (hX bj (Array.getElem?_eq_some_iff.1 HR.out.cj).1 (fun e => by have := HR.out.ca; rw [← e, HR.out.cj] at this; simp at this) (own_ne HR.out HR.out.cj (by decide))).trans HR.out.cj
            have e2 := (hX bB (Array.getElem?_eq_some_iff.1 HR.out.cB).1 (fun e => by have := HR.out.ca; rw [← e, HR.out.cB] at this; simp at this) (own_ne HR.out HR.out.cB (by decide))).trans HR.out.cB
            have hw := HR.out.b.size
            have e3 : X.heap[bo]? = wr.heap[bo]? := hX bo (by omega) (fun e => by have := HR.out.oa; omega) (fun e => by have := (World.ownsRow.lt HR.out.own _ e).1; omega)
            refine ⟨(one_at e1).1, by rw [← hdd]; exact (one_at e2).1, ?_⟩
            rw [World.cell?_of_block (w := wr) (a := ⟨bo, (j + d) * 2, none⟩) e3]
            exact (hc wr HR.out.b).1
          have HN : Hid (Gs w0 ((W1.setCell ⟨ba, 0, none⟩ (.slice (some ⟨g3, 0, none⟩) ((rs ++ goA (tops l1) i (p - i) ++ goB (tops l2) j d).length + 1) c3)).setCell ⟨bj, 0, none⟩ (.int .i64 (((j + d : Nat) : Int) + 1))) bi ba bA bj bB (.slice (some ⟨g3, 0, none⟩) ((rs ++ goA (tops l1) i (p - i) ++ goB (tops l2) j d).length + 1) c3) (rs ++ goA (tops l1) i (p - i) ++ goB (tops l2) j (d + 1)) p (j + (d + 1)) (.slice d1 n e1) (.slice d2 m e2)) := by
            have := HP.out.setJ (j + d + 1)
            rw [show (((j + d + 1 : Nat)) : Int) = ((j + d : Nat) : Int) + 1 by omega] at this
            rw [goB, ← List.append_assoc]
            exact this
          have kk0 := (one_at HP.out.cj).1
          have kk1 := (one_at HP.out.cj).2
          have hnm : (m : Int) ≤ 4096 := by omega
          have hlt2 : ((j + d : Nat) : Int) < (m : Int) := by omega
          have hD0 : (0 : Int) ≤ ((j + d : Nat) : Int) := by omega
          clear hc hx hrun s1 s2 HP HR hr0
          generalize hRL : (rs ++ goA (tops l1) i (p - i) ++ goB (tops l2) j d).length = RL at *
          clear hv3
          generalize hDD : j + d = D at *
          go_wp2_with fail
          refine wp_region_held_drew (S := Stays wr ba v2) hmx (fun _ _ _ _ => rfl) (fun hS => ?_)
          refine takeD 1 (some 29) (v := ?_) rfl rfl (by kernel_rfl) (by kernel_rfl) (by kernel_rfl) (fun _ _ _ h => h) (Or.inl ⟨by rfl, ?_⟩) hS ?_
          rotate_left
          · intro w hSw
            obtain ⟨l0, l1, l2⟩ := HCC.out _ hSw
            go_simp
            with_reducible rfl
          try simp only [Act.put, List.setIfInBounds_toArray, List.set_cons_zero, List.set_cons_succ]
          refine takeD 2 (some 30) (v := ?_) rfl rfl (by kernel_rfl) (by kernel_rfl) (by kernel_rfl) (fun _ _ _ h => h) (Or.inl ⟨by rfl, ?_⟩) hS ?_
          rotate_left
          · intro w hSw
            obtain ⟨l0, l1, l2⟩ := HCC.out _ hSw
            go_simp
            with_reducible rfl
          try simp only [Act.put, List.setIfInBounds_toArray, List.set_cons_zero, List.set_cons_succ]
          refine takeD 3 (some 31) (v := ?_) rfl rfl (by kernel_rfl) (by kernel_rfl) (by kernel_rfl) (fun _ _ _ h => h) (Or.inl ⟨by rfl, ?_⟩) hS ?_
          rotate_left
          · intro w hSw
            go_simp
            with_reducible rfl
          try simp only [Act.put, List.setIfInBounds_toArray, List.set_cons_zero, List.set_cons_succ]
          refine takeD 4 (some 32) (v := ?_) rfl rfl (by kernel_rfl) (by kernel_rfl) (by kernel_rfl) (fun _ _ _ h => h) (Or.inl ⟨by rfl, ?_⟩) hS ?_
          rotate_left
          · intro w hSw
            go_simp
            with_reducible rfl
          try simp only [Act.put, List.setIfInBounds_toArray, List.set_cons_zero, List.set_cons_succ]
          refine takeD 5 (some 33) (v := ?_) rfl rfl (by kernel_rfl) (by kernel_rfl) (by kernel_rfl) (fun _ _ _ h => h) (Or.inl ⟨by rfl, ?_⟩) hS ?_
          rotate_left
          · intro w hSw
            obtain ⟨l0, l1, l2⟩ := HCC.out _ hSw
            go_simp
            with_reducible rfl
          try simp only [Act.put, List.setIfInBounds_toArray, List.set_cons_zero, List.set_cons_succ]
          refine takeD 6 (some 34) (v := ?_) rfl rfl (by kernel_rfl) (by kernel_rfl) (by kernel_rfl) (fun _ _ _ h => h) (Or.inl ⟨by rfl, ?_⟩) hS ?_
          rotate_left
          · intro w hSw
            go_simp
            with_reducible rfl
          try simp only [Act.put, List.setIfInBounds_toArray, List.set_cons_zero, List.set_cons_succ]
          refine wpAnyH_ready (rs := [0, 7]) (by kernel_rfl) (by simp) (AllReadyH.cons rfl (fun K hK => ?_) ( AllReadyH.cons rfl (fun K hK => ?_) (AllReadyH.nil)))
          · rw [if_pos (by rfl)]
            go_simp
            refine hK.out _ _ hS (fun _ => ?_)
            clear hK K
            try simp only [Act.put, List.setIfInBounds_toArray, List.set_cons_zero, List.set_cons_succ]
            refine callD 7 (by kernel_rfl) rfl (fun K hK => ?_)
            rw [if_pos (by rfl)]
            go_simp
            refine hK.out _ _ HSA.out (fun _ => ?_)
            clear hK K
            try simp only [Act.put, List.setIfInBounds_toArray, List.set_cons_zero, List.set_cons_succ]
            refine callD 8 (by kernel_rfl) rfl (fun K hK => ?_)
            refine step_run_append rfl (.tmp 28) (.tmp 35) 42 rfl _ _ _ _ (by simp [Act.eval]) (by simp [Act.eval]) HRUN.out ?_
            refine hK.out _ _ HS1.out (fun _ => ?_)
            clear hK K
            try simp only [Act.put, List.setIfInBounds_toArray]
            refine callD 9 (by kernel_rfl) rfl (fun K hK => ?_)
            rw [if_pos (by rfl)]
            go_simp
            refine hK.out _ _ HS2.out (fun _ => ?_)
            clear hK K
            try simp only [Act.put, List.setIfInBounds_toArray]
            refine wpAnyH_done (by kernel_rfl) ?_ _
            clear hS HSA HS1 HS2 HCC HRUN
            go_wp2
            go_roundg (q - D)
            case measure => omega
            case rel => exact ⟨d + 1, _, by omega, by omega, HN⟩
          · rw [if_pos (by rfl)]
            go_simp
            refine hK.out _ _ HSA.out (fun _ => ?_)
            clear hK K
            try simp only [Act.put, List.setIfInBounds_toArray, List.set_cons_zero, List.set_cons_succ]
            refine callD 0 (by kernel_rfl) rfl (fun K hK => ?_)
            rw [if_pos (by rfl)]
            go_simp
            refine hK.out _ _ HSA.out (fun _ => ?_)
            clear hK K
            try simp only [Act.put, List.setIfInBounds_toArray, List.set_cons_zero, List.set_cons_succ]
            refine callD 8 (by kernel_rfl) rfl (fun K hK => ?_)
            refine step_run_append rfl (.tmp 28) (.tmp 35) 42 rfl _ _ _ _ (by simp [Act.eval]) (by simp [Act.eval]) HRUN.out ?_
            refine hK.out _ _ HS1.out (fun _ => ?_)
            clear hK K
            try simp only [Act.put, List.setIfInBounds_toArray]
            refine callD 9 (by kernel_rfl) rfl (fun K hK => ?_)
            rw [if_pos (by rfl)]
            go_simp
            refine hK.out _ _ HS2.out (fun _ => ?_)
            clear hK K
            try simp only [Act.put, List.setIfInBounds_toArray]
            refine wpAnyH_done (by kernel_rfl) ?_ _
            clear hS HSA HS1 HS2 HCC HRUN
            go_wp2
            go_roundg (q - D)
            case measure => omega
            case rel => exact ⟨d + 1, _, by omega, by omega, HN⟩
        · have hltI : ¬ (((j + d : Nat) : Int) < (q : Int)) := by omega
          obtain rfl : d = q - j := by omega
          have HF := HR
          rw [show j + (q - j) = q by omega] at HF
          clear HR
          rw [List.append_assoc] at HF
          go_wp2
          go_end0
          exact ⟨rfl, v2, HF⟩
end Go.Proofs.Ytgpopploimeeaaa

/- LPairs: two pairs compared; the law's own comparison of lists of them: what it returns; nothing that lay before is turned. -/
namespace Go.Proofs.Ytgpopploimeeaaa
open Go.RowKit

def PrV (x : Nat × Nat) : Value := .agg #[.int .i64 (x.1 : Int), .int .i64 (x.2 : Int)]
theorem Pr_eqGuard (op : BinOp) (x y : Operand) (xs ys : Array Value) (W : World) : (eqGuard op 68 x y (.agg xs) (.agg ys)).run Try.prog W = .ok () W := run_eqGuard_agg W op 68 x y xs ys (by kernel_rfl)
theorem Pr_equal (x y : Nat × Nat) (W : World) : (Op.equalIn 10000 68 (PrV x) (PrV y)).run Try.prog W = .ok (decide (x = y)) W := by
  have u3 := Try.underlying3
  have a3 := Try.isAgg3
  obtain ⟨i0, hi, _⟩ := Option.map_eq_some_iff.1 info_int
  have hc : Try.prog.cellsOf 3 = 1 := by kernel_rfl
  obtain ⟨a, b⟩ := x
  obtain ⟨a', b'⟩ := y
  simp only [PrV]
  rw [show (10000 : Nat) = 9999 + 1 from rfl, run_equalIn_array W 9999 _ _ Try.underlying68 hi, hc]
  simp only [show List.range 2 = [0, 1] from rfl, Op.eqItems]
  go_simp
  by_cases h1 : a = a' <;> by_cases h2 : b = b' <;> (simp [h1, h2] <;> omega)
theorem Pr_neq (x y : Nat × Nat) (W : World) : (binOp .neq 68 (PrV x) (PrV y)).run Try.prog W = .ok (.bool (!decide (x = y))) W := by
  have h := Pr_equal x y W
  simp only [PrV] at h ⊢
  rw [run_neq_struct, h]
  rfl

/-- A slice's elements. -/
def Prs (w : World) (a : Option Addr) (len : Nat) (l : List (Nat × Nat)) : Prop :=
  l.length = len ∧ (len = 0 ∨ ∃ b o, a = some ⟨b, o, none⟩ ∧ b < w.heap.size ∧ ∀ i x, l[i]? = some x → w.cell? ⟨b, o + i * 2, none⟩ = some (.int .i64 (x.1 : Int)) ∧ w.cell? ⟨b, o + i * 2 + 1, none⟩ = some (.int .i64 (x.2 : Int)))
theorem Prs.at {w : World} {a : Option Addr} {len : Nat} {l : List (Nat × Nat)} (h : Prs w a len l) {k : Nat} (hk : k < len) : ∃ b o x, a = some ⟨b, o, none⟩ ∧ b < w.heap.size ∧ l[k]? = some x ∧ ∀ W : World, Below w.heap.size w W → W.cell? ⟨b, o + k * 2, none⟩ = some (.int .i64 (x.1 : Int)) ∧ W.cell? ⟨b, o + k * 2 + 1, none⟩ = some (.int .i64 (x.2 : Int)) := by
  obtain ⟨h1, h2 | ⟨b, o, rfl, hlt, hc⟩⟩ := h
  · omega
  · have hx : l[k]? = some (l[k]'(by omega)) := List.getElem?_eq_getElem (by omega)
    refine ⟨b, o, _, rfl, hlt, hx, fun W hb => ?_⟩
    obtain ⟨c0, c1⟩ := hc k _ hx
    exact ⟨(hb.cell (p := ⟨b, _, none⟩) hlt).trans c0, (hb.cell (p := ⟨b, _, none⟩) hlt).trans c1⟩
theorem Prs.below {w w' : World} {a : Option Addr} {len : Nat} {l : List (Nat × Nat)} (h : Prs w a len l) (hb : Below w.heap.size w w') : Prs w' a len l := by
  obtain ⟨h1, h2⟩ := h
  refine ⟨h1, ?_⟩
  rcases h2 with h2 | ⟨b, o, rfl, hlt, hc⟩
  · exact .inl h2
  · refine .inr ⟨b, o, rfl, Nat.lt_of_lt_of_le hlt hb.size, fun i x hx => ?_⟩
    obtain ⟨c0, c1⟩ := hc i x hx
    exact ⟨(hb.cell (p := ⟨b, _, none⟩) hlt).trans c0, (hb.cell (p := ⟨b, _, none⟩) hlt).trans c1⟩
theorem Pr_take {l1 l2 : List (Nat × Nat)} {k : Nat} (h : l1.take k = l2.take k) {x : Nat × Nat} (h1 : l1[k]? = some x) (h2 : l2[k]? = some x) : l1.take (k + 1) = l2.take (k + 1) := by
  rw [List.take_add_one, List.take_add_one, h, h1, h2]

set_option maxRecDepth 100000 in
set_option maxHeartbeats 2000000 in
theorem lpairs_calls (a1 a2 : Option Addr) (n1 n2 c1 c2 : Nat) (l1 l2 : List (Nat × Nat)) (w : World) (h1 : Prs w a1 n1 l1) (h2 : Prs w a2 n2 l2) (hsz : n1 ≤ 35184372088832) (hsz2 : n2 ≤ 35184372088832) :
    Calls Try.prog 14 #[.slice a1 n1 c1, .slice a2 n2 c2] w fun e w' => e = .returned (.bool (decide (l1 = l2))) ∧ Below w.heap.size w w' := by
  by_cases hn : n1 = n2
  · subst hn
    generalize hD : decide (l1 = l2) = D at *
    go_enter Try.func14, Try.ntmps14
    go_wp2
    go_loopg [5] (n1 + 1) (fun gk u wr => ∃ k : Nat, k ≤ n1 ∧ u = .int .i64 (k : Int) ∧ n1 < k + gk ∧ Hid (l1.take k = l2.take k) ∧ Hid (Below w.heap.size w wr))
    case atStart => exact ⟨0, Nat.zero_le _, rfl, by omega, rfl, Below.refl _ _⟩
    case round =>
      obtain ⟨k, hk, rfl, hgk, HT, HB⟩ := hrel
      have hk0 : (0 : Int) ≤ (k : Int) := by omega
      by_cases hlt : k < n1
      · have hlti : (k : Int) < (n1 : Int) := by omega
        obtain ⟨b, o, x, rfl, hbl, hx, hc⟩ := h1.at hlt
        obtain ⟨b', o', y, rfl, hbl', hy, hc'⟩ := h2.at hlt
        obtain ⟨p0, p1⟩ := hc wr HB.out
        obtain ⟨q0, q1⟩ := hc' wr HB.out
        clear hc hc'
        have hg := fun (x y : Operand) (xs ys : Array Value) (W : World) => Pr_eqGuard .neq x y xs ys W
        have hq := fun W => Pr_neq x y W
        have hdd : (decide (x = y) = true ∧ l1.take (k + 1) = l2.take (k + 1)) ∨ (decide (x = y) = false ∧ D = false) := by
          by_cases h : x = y
          · subst h
            exact .inl ⟨decide_eq_true rfl, Pr_take HT.out hx hy⟩
          · refine .inr ⟨decide_eq_false h, ?_⟩
            rw [← hD]
            apply decide_eq_false
            intro e
            rw [e, hy] at hx
            exact h (Option.some.inj hx).symm
        generalize decide (x = y) = d at *
        simp only [PrV] at hq
        obtain ⟨x0, x1⟩ := x
        obtain ⟨y0, y1⟩ := y
        simp only at *
        rcases hdd with ⟨rfl, hts⟩ | ⟨rfl, hd2⟩
        · have HS : Hid (l1.take (k + 1) = l2.take (k + 1)) := hts
          clear hts hx hy hD h1 h2
          go_wp2_with fail
          go_quiet (fail)
          obtain ⟨V, hV⟩ : ∃ V, V = wr.drewN nq := ⟨_, rfl⟩
          have HV : Hid (Below w.heap.size w V) := by rw [hV]; exact below_drewN HB.out nq
          rw [← hV]
          clear hV HB
          go_wp2
          go_roundg (n1 - k)
          case measure => omega
          case rel => exact ⟨k + 1, by omega, by first | rfl | go_num, by omega, HS, HV⟩
        · have HD : Hid (D = false) := hd2
          clear hd2 hx hy hD h1 h2
          go_wp2_with fail
          go_quiet (fail)
          obtain ⟨V, hV⟩ : ∃ V, V = wr.drewN nq := ⟨_, rfl⟩
          have HV : Hid (Below w.heap.size w V) := by rw [hV]; exact below_drewN HB.out nq
          rw [← hV]
          clear hV HB
          go_wp2
          go_ret
          exact ⟨by rw [HD.out]; rfl, HV.out⟩
      · obtain rfl : k = n1 := by omega
        have HD : Hid (D = true) := by
          show D = true
          have := HT.out
          rw [List.take_of_length_le (Nat.le_of_eq h1.1), List.take_of_length_le (Nat.le_of_eq h2.1)] at this
          rw [← hD, this]
          exact decide_eq_true rfl
        clear hD h1 h2
        go_wp2
        go_ret
        exact ⟨by rw [HD.out]; rfl, HB.out⟩
  · have HD : decide (l1 = l2) = false := by
      apply decide_eq_false
      intro e
      exact hn (by rw [← h1.1, ← h2.1, e])
    rw [HD]
    go_enter Try.func14, Try.ntmps14
    go_wp2
    go_ret
    exact ⟨rfl, Below.refl _ _⟩
end Go.Proofs.Ytgpopploimeeaaa
