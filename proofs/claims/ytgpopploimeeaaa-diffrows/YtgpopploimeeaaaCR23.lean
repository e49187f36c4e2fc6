/-
  PROVED HERE: what the texts RBlk, RTok say (each has its own words below).
-/
import Derived.Test.YtgpopploimeeaaaCR12
import Derived.Test.YtgpopploimeeaaaCR22
import Derived.Test.YtgpopploimeeaaaCRREdits
import Derived.Test.YtgpopploimeeaaaCR1
/- RBlk: the document's own blocks of a document, in memory. -/
namespace Go.Proofs.Ytgpopploimeeaaa
open Go.RowKit

def rblkV (a : Option Addr) (c : Nat) (l : List Tok) (ks : List Nat) : List Value := ks.map fun (k : Nat) => .slice (partA a c k) (endE l k - k) (c - k)
theorem info_toks : (Try.prog.info? 22).map (fun i => (i.zero, i.size, i.bytes)) = some (some (.slice none 0 0), 1, 24) := by kernel_rfl
/-- append of one block to what the call owns. -/
theorem append_rblk (base : Nat) (v : Value) (a : Option Addr) (c : Nat) (l : List Tok) (ks : List Nat) (W : World) (hown : W.ownsRow base 22 1 v ks.length (rblkV a c l ks)) (hbase : base ≤ W.heap.size) (hn : ks.length ≤ 3000) (k : Nat) :
    ∃ v' W1, (Builtin.append_ #[85, 85] 85 #[v, .slice (some ⟨W.heap.size, 0, none⟩) 1 1]).run Try.prog (W.alloc (.cells #[.slice (partA a c k) (endE l k - k) (c - k)] 22)) = .ok v' W1 ∧
      Hid (W1.ownsRow base 22 1 v' (ks ++ [k]).length (rblkV a c l (ks ++ [k])) ∧ (∀ w : World, Below base w W → Below base w W1)) := by
  obtain ⟨i0, hi, hz⟩ := Option.map_eq_some_iff.1 info_toks
  simp only [Prod.mk.injEq] at hz
  obtain ⟨hz0, hz1, hz2⟩ := hz
  have hown2 := hown.alloc (.cells #[.slice (partA a c k) (endE l k - k) (c - k)] 22)
  have hB2 : ∀ w : World, Below base w W → Below base w (W.alloc (.cells #[.slice (partA a c k) (endE l k - k) (c - k)] 22)) := fun w h => h.alloc hbase _
  have hsz := World.size_alloc W (.cells #[.slice (partA a c k) (endE l k - k) (c - k)] 22)
  have hnew := World.alloc_heap_new W (.cells #[.slice (partA a c k) (endE l k - k) (c - k)] 22)
  generalize W.alloc (.cells #[.slice (partA a c k) (endE l k - k) (c - k)] 22) = V at *
  have q0 : V.cell? ⟨W.heap.size, 0, none⟩ = some (.slice (partA a c k) (endE l k - k) (c - k)) := by simp only [World.cell?]; rw [hnew]; rfl
  obtain ⟨v', W1, hrun, r1, r2, _, _⟩ := run_append_own_at (P := Try.prog) V base 85 85 22 i0 (.slice none 0 0) 1 24 Try.underlying85 hi hz0 hz1 hz2 rfl (by decide) v ks.length _ hown2 ⟨W.heap.size, 0, none⟩ 1 1 [.slice (partA a c k) (endE l k - k) (c - k)] (by simp) (fun j u hj => by
    match j, hj with
    | 0, hj => cases hj; exact q0
    | j + 1, hj => simp at hj) (by simp [Value.oneCell']) (by unfold maxLen; omega) (by omega) (by omega)
  refine ⟨v', W1, hrun, ?_, fun w h => (hB2 w h).grown r2 (by omega) (fun j e => (World.ownsRow.lt hown2 _ e).1)⟩
  have e1 : rblkV a c l (ks ++ [k]) = rblkV a c l ks ++ [.slice (partA a c k) (endE l k - k) (c - k)] := by unfold rblkV; rw [List.map_append]; rfl
  rw [e1, List.length_append]
  exact r1

set_option maxRecDepth 100000 in
set_option maxHeartbeats 4000000 in
theorem rblocks_calls (a : Option Addr) (n c : Nat) (l : List Tok) (w : World) (hl : Toks w a n l) (hg : goes l 0 = some 0) (hn : n ≤ 2048) (hc : n ≤ c) :
    Calls Try.prog 40 #[.slice a n c] w fun e w' => ∃ v, e = .returned v ∧ w'.ownsRow w.heap.size 22 1 v (tops l).length (rblkV a c l (tops l)) ∧ Below w.heap.size w w' := by
  have HK := kids_calls a n c l (-1) w hl (by omega) (by omega)
  rw [kids_tops hg, List.length_map] at HK
  have hL := hl.1
  have htl : (tops l).length ≤ n := by rw [← hL]; exact topsL_length l _ _
  have HG := hide_ hg
  have HL := hide_ hl
  have hnI : (n : Int) ≤ 2048 := by omega
  have hcI : (n : Int) ≤ (c : Int) := by omega
  clear hl hg
  go_enter Try.func40, Try.ntmps40
  go_wp2_with fail
  refine HK.mono ?_
  rintro e W1 ⟨ak, ck, rfl, hR, hB⟩
  have HR := hide_ hR
  have HB := hide_ hB
  clear hR hB HK
  go_wp2
  go_loopg [4, 5] ((tops l).length + 1) (fun gk v u wr => ∃ i : Nat, u = .int .i64 (i : Int) ∧ i ≤ (tops l).length ∧ (tops l).length < i + gk ∧ Hid (wr.ownsRow W1.heap.size 22 1 v ((tops l).take i).length (rblkV a c l ((tops l).take i)) ∧ Below W1.heap.size W1 wr))
  case atStart => exact ⟨0, rfl, Nat.zero_le _, by omega, ⟨rfl, .inl ⟨rfl, rfl⟩⟩, Below.refl _ _⟩
  case round =>
    obtain ⟨i, rfl, hi, hgk, HO⟩ := hrel
    have hi0 : (0 : Int) ≤ (i : Int) := by omega
    rcases Nat.lt_or_ge i (tops l).length with hlt | hge
    · have hlti : (i : Int) < ((tops l).length : Int) := by omega
      obtain ⟨bk, ok, k, rfl, hbk, hk, hck⟩ := HR.out.at hlt
      obtain ⟨a1, a2, _⟩ := tops_next HG.out hk
      obtain ⟨b1, b2, _, _, b5⟩ := block_end HG.out a1 a2
      rw [hL] at a1 b2
      have htake : ((tops l).take i).length ≤ 3000 := by rw [List.length_take]; omega
      have hst : (tops l).take i ++ [k] = (tops l).take (i + 1) := by rw [List.take_add_one, hk]; rfl
      have HB1 := hide_ HO.out.2
      have HOW : Hid (wr.drew.ownsRow W1.heap.size 22 1 u4 ((tops l).take i).length (rblkV a c l ((tops l).take i))) := HO.out.1.drew
      have HCC : Hid (∀ X, Below W1.heap.size W1 X → X.cell? ⟨bk, ok + i, none⟩ = some (.int .i64 (k : Int))) := fun X hX => hck X hX i k hk
      have HPA := fun X (hX : Below W1.heap.size W1 X) => partner_calls a n c l (k : Int) X (HL.out.below (HB.out.trans (hX.mono HB.out.size))) (by omega)
      obtain ⟨Ex, hEx⟩ : ∃ E, endE l k = E := ⟨_, rfl⟩
      rw [hEx] at b1 b2 b5
      obtain ⟨px, hpx⟩ : ∃ p, partner l (k : Int) = p := ⟨_, rfl⟩
      rw [hpx] at b5 HPA
      have mx1 : (if px < (k : Int) then (k : Int) else px) = ((Ex - 1 : Nat) : Int) := by split <;> omega
      obtain ⟨Mx, hMx⟩ : ∃ M, Ex - 1 = M := ⟨_, rfl⟩
      rw [hMx] at mx1
      have wx : IntKind.i64.wrap (Ex : Int) = (Ex : Int) := by rw [IntKind.wrap_i64]; omega
      have vx : (Mx : Int) + 1 = (Ex : Int) := by omega
      have ux0 : (0 : Int) ≤ (k : Int) := by omega
      have ux1 : (k : Int) ≤ (Ex : Int) := by omega
      have ux2 : (Ex : Int) ≤ (c : Int) := by omega
      clear hck hpx hMx hk a1 a2 b1 b2 b5 HO
      go_wp2_with fail
      refine wp_region_held_drew (S := fun X => Below W1.heap.size W1 X) hmx HB1.out.drew (fun hS => ?_)
      refine takeD 0 (some 14) (v := ?_) rfl rfl (by kernel_rfl) (by kernel_rfl) (by kernel_rfl) (fun _ _ _ h => h) (Or.inl ⟨by rfl, ?_⟩) hS ?_
      rotate_left
      · intro w hSw
        try go_simp
        with_reducible rfl
      try simp only [Act.put, List.setIfInBounds_toArray, List.set_cons_zero, List.set_cons_succ]
      refine takeD 1 (some 15) (v := ?_) rfl rfl (by kernel_rfl) (by kernel_rfl) (by kernel_rfl) (fun _ _ _ h => h) (Or.inl ⟨by rfl, ?_⟩) hS ?_
      rotate_left
      · intro w hSw
        try go_simp
        with_reducible rfl
      try simp only [Act.put, List.setIfInBounds_toArray, List.set_cons_zero, List.set_cons_succ]
      refine takeD 2 (some 16) (v := ?_) rfl rfl (by kernel_rfl) (by kernel_rfl) (by kernel_rfl) (fun _ _ _ h => h) (Or.inl ⟨by rfl, ?_⟩) hS ?_
      rotate_left
      · intro w hSw
        try go_simp
        with_reducible rfl
      try simp only [Act.put, List.setIfInBounds_toArray, List.set_cons_zero, List.set_cons_succ]
      refine takeD 3 (some 17) (v := ?_) rfl rfl (by kernel_rfl) (by kernel_rfl) (by kernel_rfl) (fun _ _ _ h => h) (Or.inl ⟨by rfl, ?_⟩) hS ?_
      rotate_left
      · intro w hSw
        try go_simp
        with_reducible rfl
      try simp only [Act.put, List.setIfInBounds_toArray, List.set_cons_zero, List.set_cons_succ]
      refine takeD 4 (some 18) (v := ?_) rfl rfl (by kernel_rfl) (by kernel_rfl) (by kernel_rfl) (fun _ _ _ h => h) (Or.inl ⟨by rfl, ?_⟩) hS ?_
      rotate_left
      · intro w hSw
        go_simp
        with_reducible rfl
      try simp only [Act.put, List.setIfInBounds_toArray, List.set_cons_zero, List.set_cons_succ]
      refine takeD 5 (some 19) (v := ?_) rfl rfl (by kernel_rfl) (by kernel_rfl) (by kernel_rfl) (fun _ _ _ h => h) (Or.inl ⟨by rfl, ?_⟩) hS ?_
      rotate_left
      · intro w hSw
        obtain c0 := HCC.out _ hSw
        go_simp
        with_reducible rfl
      try simp only [Act.put, List.setIfInBounds_toArray, List.set_cons_zero, List.set_cons_succ]
      refine takeD 6 (some 20) (v := ?_) rfl rfl (by kernel_rfl) (by kernel_rfl) (by kernel_rfl) (fun _ _ _ h => h) (Or.inl ⟨by rfl, ?_⟩) hS ?_
      rotate_left
      · intro w hSw
        try go_simp
        with_reducible rfl
      try simp only [Act.put, List.setIfInBounds_toArray, List.set_cons_zero, List.set_cons_succ]
      refine takeD 7 (some 21) (v := ?_) rfl rfl (by kernel_rfl) (by kernel_rfl) (by kernel_rfl) (fun _ _ _ h => h) (Or.inl ⟨by rfl, ?_⟩) hS ?_
      rotate_left
      · intro w hSw
        try go_simp
        with_reducible rfl
      try simp only [Act.put, List.setIfInBounds_toArray, List.set_cons_zero, List.set_cons_succ]
      refine takeD 8 (some 22) (v := ?_) rfl rfl (by kernel_rfl) (by kernel_rfl) (by kernel_rfl) (fun _ _ _ h => h) (Or.inl ⟨by rfl, ?_⟩) hS ?_
      rotate_left
      · intro w hSw
        try go_simp
        with_reducible rfl
      try simp only [Act.put, List.setIfInBounds_toArray, List.set_cons_zero, List.set_cons_succ]
      refine takeD 9 (some 23) (v := ?_) rfl rfl (by kernel_rfl) (by kernel_rfl) (by kernel_rfl) (fun _ _ _ h => h) (Or.inl ⟨by rfl, ?_⟩) hS ?_
      rotate_left
      · intro w hSw
        go_simp
        with_reducible rfl
      try simp only [Act.put, List.setIfInBounds_toArray, List.set_cons_zero, List.set_cons_succ]
      refine takeD 10 (some 24) (v := ?_) rfl rfl (by kernel_rfl) (by kernel_rfl) (by kernel_rfl) (fun _ _ _ h => h) (Or.inl ⟨by rfl, ?_⟩) hS ?_
      rotate_left
      · intro w hSw
        obtain c0 := HCC.out _ hSw
        go_simp
        with_reducible rfl
      try simp only [Act.put, List.setIfInBounds_toArray, List.set_cons_zero, List.set_cons_succ]
      refine takeD 12 (some 26) (v := ?_) rfl rfl (by kernel_rfl) (by kernel_rfl) (by kernel_rfl) (fun _ _ _ h => h) (Or.inl ⟨by rfl, ?_⟩) hS ?_
      rotate_left
      · intro w hSw
        try go_simp
        with_reducible rfl
      try simp only [Act.put, List.setIfInBounds_toArray, List.set_cons_zero, List.set_cons_succ]
      refine takeD 13 (some 27) (v := ?_) rfl rfl (by kernel_rfl) (by kernel_rfl) (by kernel_rfl) (fun _ _ _ h => h) (Or.inl ⟨by rfl, ?_⟩) hS ?_
      rotate_left
      · intro w hSw
        try go_simp
        with_reducible rfl
      try simp only [Act.put, List.setIfInBounds_toArray, List.set_cons_zero, List.set_cons_succ]
      refine takeD 14 (some 28) (v := ?_) rfl rfl (by kernel_rfl) (by kernel_rfl) (by kernel_rfl) (fun _ _ _ h => h) (Or.inl ⟨by rfl, ?_⟩) hS ?_
      rotate_left
      · intro w hSw
        go_simp
        with_reducible rfl
      try simp only [Act.put, List.setIfInBounds_toArray, List.set_cons_zero, List.set_cons_succ]
      refine takeD 15 (some 29) (v := ?_) rfl rfl (by kernel_rfl) (by kernel_rfl) (by kernel_rfl) (fun _ _ _ h => h) (Or.inl ⟨by rfl, ?_⟩) hS ?_
      rotate_left
      · intro w hSw
        obtain c0 := HCC.out _ hSw
        go_simp
        with_reducible rfl
      try simp only [Act.put, List.setIfInBounds_toArray, List.set_cons_zero, List.set_cons_succ]
      refine callD 11 (by kernel_rfl) rfl (fun K hK => ?_)
      rw [if_pos (by rfl)]
      go_simp
      refine (HPA _ hS).mono ?_
      rintro e Y ⟨rfl, bY⟩
      have hY := hS.trans (bY.mono hS.size)
      obtain ⟨v', W2, hrun, HW2⟩ := append_rblk W1.heap.size u4 a c l ((tops l).take i) Y (owns_below HOW.out bY) hY.size htake k
      rw [hEx] at hrun
      have HRUN := hide_ hrun
      have hA := hY.alloc hY.size (.cells #[.slice (partA a c k) (Ex - k) (c - k)] 22)
      have hW2 := HW2.out.2 W1 hY
      clear bY hrun
      refine hK.out _ _ hY (fun _ => ?_)
      clear hK K
      try simp only [Act.put, List.setIfInBounds_toArray, List.set_cons_zero, List.set_cons_succ]
      refine takeD 16 (some 30) (v := ?_) rfl rfl (by kernel_rfl) (by kernel_rfl) (by kernel_rfl) (fun _ _ _ h => h) (Or.inl ⟨by rfl, ?_⟩) hY ?_
      rotate_left
      · intro w hSw
        go_simp
        with_reducible rfl
      try simp only [Act.put, List.setIfInBounds_toArray, List.set_cons_zero, List.set_cons_succ]
      refine takeD 17 (some 31) (v := ?_) rfl rfl (by kernel_rfl) (by kernel_rfl) (by kernel_rfl) (fun _ _ _ h => h) (Or.inl ⟨by rfl, ?_⟩) hY ?_
      rotate_left
      · intro w hSw
        go_simp
        with_reducible rfl
      try simp only [Act.put, List.setIfInBounds_toArray, List.set_cons_zero, List.set_cons_succ]
      refine takeD 18 (some 32) (v := ?_) rfl rfl (by kernel_rfl) (by kernel_rfl) (by kernel_rfl) (fun _ _ _ h => h) (Or.inl ⟨by rfl, ?_⟩) hY ?_
      rotate_left
      · intro w hSw
        go_simp
        with_reducible rfl
      try simp only [Act.put, List.setIfInBounds_toArray, List.set_cons_zero, List.set_cons_succ]
      refine callD 19 (by kernel_rfl) rfl (fun K hK => ?_)
      rw [if_pos (by rfl)]
      go_simp
      refine hK.out _ _ hA (fun _ => ?_)
      clear hK K
      try simp only [Act.put, List.setIfInBounds_toArray, List.set_cons_zero, List.set_cons_succ]
      refine callD 20 (by kernel_rfl) rfl (fun K hK => ?_)
      refine step_run_append rfl (.tmp 14) (.tmp 33) 85 rfl _ _ _ _ (by simp [Act.eval]) (by simp [Act.eval]) HRUN.out ?_
      refine hK.out _ _ hW2 (fun _ => ?_)
      clear hK K
      try simp only [Act.put, List.setIfInBounds_toArray]
      refine takeD 21 (some 4) (v := ?_) rfl rfl (by kernel_rfl) (by kernel_rfl) (by kernel_rfl) (fun _ _ _ h => h) (Or.inl ⟨by rfl, ?_⟩) hW2 ?_
      rotate_left
      · intro w hSw
        try go_simp
        with_reducible rfl
      try simp only [Act.put]
      refine wpAnyH_done (by kernel_rfl) ?_ _
      rw [hst] at HW2
      have HN : Hid (W2.ownsRow W1.heap.size 22 1 v' ((tops l).take (i + 1)).length (rblkV a c l ((tops l).take (i + 1))) ∧ Below W1.heap.size W1 W2) := ⟨HW2.out.1, hW2⟩
      clear hS hY hA hW2 HW2 HRUN HPA HCC HOW hst htake HB1
      go_wp2
      go_roundg ((tops l).length - i)
      case measure => omega
      case rel => exact ⟨i + 1, by first | rfl | go_num, by omega, by omega, HN⟩
    · obtain rfl : i = (tops l).length := by omega
      have hlti : ¬ (((tops l).length : Int) < ((tops l).length : Int)) := by omega
      have HF : Hid (wr.ownsRow W1.heap.size 22 1 u4 (tops l).length (rblkV a c l (tops l)) ∧ Below W1.heap.size W1 wr) := by
        have := HO.out
        rw [List.take_length] at this
        exact this
      clear HO
      go_wp2
      go_ret
      exact ⟨_, rfl, owns_base HF.out.1 HB.out.size, HB.out.trans (HF.out.2.mono HB.out.size)⟩
end Go.Proofs.Ytgpopploimeeaaa

/- RTok: the document's own Point and Right at every token: what they return; nothing that lay before is turned. -/
namespace Go.Proofs.Ytgpopploimeeaaa
open Go.RowKit

set_option maxHeartbeats 400000 in
theorem rightM_calls (s : Int) (w : World) : Calls Try.prog 61 #[.int .i64 s] w fun e w' => e = .returned (.bool (rightM s)) ∧ w' = w := by
  unfold rightM
  cases h1 : decide (0 ≤ s)
  all_goals
    go_enter Try.func61, Try.ntmps61
    go_wp2
    go_ret
    exact ⟨rfl, rfl⟩
set_option maxHeartbeats 400000 in
theorem point_calls (n : Int) (w : World) : Calls Try.prog 60 #[.int .i64 n] w fun e w' => e = .returned (.bool (point n)) ∧ w' = w := by
  unfold point
  cases h1 : decide (0 ≤ n) <;> cases h2 : decide (n ≤ 1114111) <;> cases h3 : decide (n < 55296)
  all_goals
    go_enter Try.func60, Try.ntmps60
    go_wp2
    go_ret
    exact ⟨rfl, rfl⟩
set_option maxHeartbeats 1000000 in
theorem rightT_calls (x : Tok) (w : World) : Calls Try.prog 56 #[tokV x] w fun e w' => e = .returned (.bool (rightT x)) ∧ Below w.heap.size w w' := by
  obtain ⟨k, t, n, m⟩ := x
  unfold tokV rightT
  simp only
  by_cases k0 : k = 0
  · subst k0
    rw [if_pos rfl]
    have c1 := fun W => point_calls n W
    have c2 := fun W => rightM_calls m W
    generalize point n = p at *
    generalize rightM m = q at *
    cases h0 : t == 0
    · simp only [Bool.false_and]
      go_enter Try.func56, Try.ntmps56
      go_wp2
      go_ret
      exact ⟨rfl, (Below.refl _ _).alloc (Nat.le_refl _) _⟩
    · cases h1 : p
      · rw [h1] at c1
        simp only [Bool.and_false, Bool.false_and]
        go_enter Try.func56, Try.ntmps56
        go_wp2_with fail
        refine (c1 _).mono ?_
        rintro e w' ⟨rfl, rfl⟩
        go_wp2
        go_ret
        exact ⟨rfl, (Below.refl _ _).alloc (Nat.le_refl _) _⟩
      · rw [h1] at c1
        cases h2 : q
        · rw [h2] at c2
          simp only [Bool.and_false]
          go_enter Try.func56, Try.ntmps56
          go_wp2_with fail
          refine (c1 _).mono ?_
          rintro e w' ⟨rfl, rfl⟩
          go_wp2_with fail
          refine (c2 _).mono ?_
          rintro e w' ⟨rfl, rfl⟩
          go_wp2
          go_ret
          exact ⟨rfl, (Below.refl _ _).alloc (Nat.le_refl _) _⟩
        · rw [h2] at c2
          go_enter Try.func56, Try.ntmps56
          go_wp2_with fail
          refine (c1 _).mono ?_
          rintro e w' ⟨rfl, rfl⟩
          go_wp2_with fail
          refine (c2 _).mono ?_
          rintro e w' ⟨rfl, rfl⟩
          go_wp2
          go_ret
          exact ⟨rfl, (Below.refl _ _).alloc (Nat.le_refl _) _⟩
  rw [if_neg k0]
  have e0 : (k == 0) = false := by simpa using k0
  by_cases k1 : k = 1
  · subst k1
    rw [if_pos (.inl rfl)]
    cases h0 : decide (1 ≤ t)
    · simp only [Bool.false_and]
      go_enter Try.func56, Try.ntmps56
      go_wp2
      go_ret
      exact ⟨rfl, (Below.refl _ _).alloc (Nat.le_refl _) _⟩
    · cases h1 : decide (t < 16)
      · simp only [Bool.and_false, Bool.false_and]
        go_enter Try.func56, Try.ntmps56
        go_wp2
        go_ret
        exact ⟨rfl, (Below.refl _ _).alloc (Nat.le_refl _) _⟩
      · cases h2 : decide (0 ≤ n)
        · simp only [Bool.and_false, Bool.false_and]
          go_enter Try.func56, Try.ntmps56
          go_wp2
          go_ret
          exact ⟨rfl, (Below.refl _ _).alloc (Nat.le_refl _) _⟩
        · cases h3 : decide (n ≤ 15)
          · simp only [Bool.and_false, Bool.false_and]
            go_enter Try.func56, Try.ntmps56
            go_wp2
            go_ret
            exact ⟨rfl, (Below.refl _ _).alloc (Nat.le_refl _) _⟩
          · cases h4 : m == 0
            · simp only [Bool.and_false]
              go_enter Try.func56, Try.ntmps56
              go_wp2
              go_ret
              exact ⟨rfl, (Below.refl _ _).alloc (Nat.le_refl _) _⟩
            · go_enter Try.func56, Try.ntmps56
              go_wp2
              go_ret
              exact ⟨rfl, (Below.refl _ _).alloc (Nat.le_refl _) _⟩
  have e1 : (k == 1) = false := by simpa using k1
  by_cases k3 : k = 3
  · subst k3
    rw [if_pos (.inr rfl)]
    cases h0 : decide (1 ≤ t)
    · simp only [Bool.false_and]
      go_enter Try.func56, Try.ntmps56
      go_wp2
      go_ret
      exact ⟨rfl, (Below.refl _ _).alloc (Nat.le_refl _) _⟩
    · cases h1 : decide (t < 16)
      · simp only [Bool.and_false, Bool.false_and]
        go_enter Try.func56, Try.ntmps56
        go_wp2
        go_ret
        exact ⟨rfl, (Below.refl _ _).alloc (Nat.le_refl _) _⟩
      · cases h2 : decide (0 ≤ n)
        · simp only [Bool.and_false, Bool.false_and]
          go_enter Try.func56, Try.ntmps56
          go_wp2
          go_ret
          exact ⟨rfl, (Below.refl _ _).alloc (Nat.le_refl _) _⟩
        · cases h3 : decide (n ≤ 15)
          · simp only [Bool.and_false, Bool.false_and]
            go_enter Try.func56, Try.ntmps56
            go_wp2
            go_ret
            exact ⟨rfl, (Below.refl _ _).alloc (Nat.le_refl _) _⟩
          · cases h4 : m == 0
            · simp only [Bool.and_false]
              go_enter Try.func56, Try.ntmps56
              go_wp2
              go_ret
              exact ⟨rfl, (Below.refl _ _).alloc (Nat.le_refl _) _⟩
            · go_enter Try.func56, Try.ntmps56
              go_wp2
              go_ret
              exact ⟨rfl, (Below.refl _ _).alloc (Nat.le_refl _) _⟩
  have e3 : (k == 3) = false := by simpa using k3
  rw [if_neg (by omega)]
  by_cases k2 : k = 2
  · subst k2
    rw [if_pos rfl]
    cases h0 : t == 0
    · simp only [Bool.false_and]
      go_enter Try.func56, Try.ntmps56
      go_wp2
      go_ret
      exact ⟨rfl, (Below.refl _ _).alloc (Nat.le_refl _) _⟩
    · cases h1 : n == 0
      · simp only [Bool.and_false, Bool.false_and]
        go_enter Try.func56, Try.ntmps56
        go_wp2
        go_ret
        exact ⟨rfl, (Below.refl _ _).alloc (Nat.le_refl _) _⟩
      · cases h2 : m == 0
        · simp only [Bool.and_false]
          go_enter Try.func56, Try.ntmps56
          go_wp2
          go_ret
          exact ⟨rfl, (Below.refl _ _).alloc (Nat.le_refl _) _⟩
        · go_enter Try.func56, Try.ntmps56
          go_wp2
          go_ret
          exact ⟨rfl, (Below.refl _ _).alloc (Nat.le_refl _) _⟩
  have e2 : (k == 2) = false := by simpa using k2
  rw [if_neg k2]
  go_enter Try.func56, Try.ntmps56
  go_wp2
  go_ret
  exact ⟨rfl, (Below.refl _ _).alloc (Nat.le_refl _) _⟩
end Go.Proofs.Ytgpopploimeeaaa
