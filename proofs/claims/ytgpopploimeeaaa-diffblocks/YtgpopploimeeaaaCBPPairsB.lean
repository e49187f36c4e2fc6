/-
  PROVED HERE: the program's own longest pairs: of as many the least.
-/
import Derived.Test.YtgpopploimeeaaaCBPMostB
import Derived.Test.YtgpopploimeeaaaCB10
namespace Go.Proofs.Ytgpopploimeeaaa
open Go.RowKit

set_option maxRecDepth 100000 in
set_option maxHeartbeats 8000000 in
theorem longestB_calls (d1 d2 : Option Addr) (n m e1 e2 : Nat) (a1 a2 : Option Addr) (n1 n2 c1 c2 : Nat) (l1 l2 : List Tok) (hn : n ≤ 400) (hm : m ≤ 400) (w : World) (h1 : Blks w a1 c1 l1 d1 n) (h2 : Blks w a2 c2 l2 d2 m) (t1 : Doc w a1 n1 c1 l1) (t2 : Doc w a2 n2 c2 l2) :
    Calls Try.prog 29 #[.slice d1 n e1, .slice d2 m e2, .func (.func 30) #[] #[]] w fun e w' => ∃ l v, e = .returned v ∧ IsPairs (likeB l1 l2) n m 0 0 l ∧ l.length ≤ n ∧ w'.ownsRow w.heap.size 68 2 v l.length (pairV l) ∧ Below w.heap.size w w' := by
  have HT := hide_ (mostB_calls d1 d2 n m e1 e2 a1 a2 n1 n2 c1 c2 l1 l2 hn hm w h1 h2 t1 t2)
  have hni : (n : Int) ≤ 400 := by omega
  have hmi : (m : Int) ≤ 400 := by omega
  have H1 := hide_ h1
  have H2 := hide_ h2
  clear h1 h2
  have TD1 := hide_ t1
  have TD2 := hide_ t2
  clear t1 t2
  go_enter Try.func29, Try.ntmps29
  go_wp2
  go_step3
  go_wp2_with fail
  refine HT.out.mono ?_
  rintro e W1 ⟨g, rb, rfl, hG, hB⟩
  have HG := hide_ hG
  have HB := hide_ hB
  clear hG hB HT
  go_wp2
  go_step3
  go_wp2
  go_loopg [8, 9, 18] (n + 1) (fun gk v u1 u2 wr => ∃ (l : List (Nat × Nat)) (i j : Nat), u1 = .int .i64 (j : Int) ∧ u2 = .int .i64 (i : Int) ∧ i ≤ n ∧ j ≤ m ∧ n < i + gk ∧ Hid ((∀ r, IsPairs (likeB l1 l2) n m i j r → IsPairs (likeB l1 l2) n m 0 0 (l ++ r)) ∧ l.length ≤ i) ∧ Hid (Sk (likeB l1 l2) w wr g n m rb v l))
  case atStart => exact ⟨[], 0, 0, rfl, rfl, Nat.zero_le _, Nat.zero_le _, by omega, ⟨fun r h => h, Nat.le_refl _⟩, ⟨rfl, .inl ⟨rfl, rfl⟩⟩, HG.out, HB.out, fun k h => by cases h⟩
  case round =>
    obtain ⟨l, i, j, rfl, rfl, hi, hj, hgk, HII, HSK⟩ := hrel
    clear HG HB
    have hi0 : (0 : Int) ≤ (i : Int) := by omega
    have hj0 : (0 : Int) ≤ (j : Int) := by omega
    rcases Nat.lt_or_ge i n with hin | hge
    · have hinI : (i : Int) < (n : Int) := by omega
      go_wp2
      go_loopg [8, 9, 11] (m + 1 - j) (fun gk v8 v9 u3 WT => ∃ q : Nat, v8 = u8 ∧ v9 = .int .i64 (j : Int) ∧ u3 = .int .i64 (q : Int) ∧ j ≤ q ∧ q ≤ m ∧ m < q + gk ∧ Hid (Sk (likeB l1 l2) w WT g n m rb u8 l) ∧ Hid (NoneIn (likeB l1 l2) n m i j q))
      case atStart => exact ⟨j, rfl, rfl, rfl, Nat.le_refl _, hj, by omega, HSK, fun q' h1 h2 => by omega⟩
      case round =>
        obtain ⟨q, rfl, rfl, rfl, hjq, hqm0, hgk3, HSK2, HNR⟩ := hrel
        clear HSK
        have HSK := HSK2
        clear HSK2
        have hq0 : (0 : Int) ≤ (q : Int) := by omega
        rcases Nat.lt_or_ge q m with hqm | hqe
        · have hqmI : (q : Int) < (m : Int) := by omega
          have hin1 : (i : Int) < (n : Int) + 1 := by omega
          have hin2 : (i : Int) + 1 < (n : Int) + 1 := by omega
          have hjm1 : (j : Int) < (m : Int) + 1 := by omega
          have hqm1 : (q : Int) + 1 < (m : Int) + 1 := by omega
          have T0 := HSK.out.grid.top i (by omega)
          have Z := HSK.out.grid.row i j (by omega) (by omega)
          have bz := longP_le (likeB l1 l2) n m i j
          by_cases hz : longP (likeB l1 l2) n m i j = 0
          · rw [hz] at Z
            have HF : Hid (IsPairs (likeB l1 l2) n m 0 0 l) := by
              have := HII.out.1 [] hz
              rw [List.append_nil] at this
              exact this
            clear HNR
            go_wp2
            rw [Exit.noGoto_ret]
            go_ret
            exact ⟨l, _, rfl, HF.out, by have := HII.out.2; omega, HSK.out.own, HSK.out.b⟩
          · have hzb : ((longP (likeB l1 l2) n m i j : Int) == 0) = false := by rw [beq_eq_false_iff_ne]; omega
            have hl400 : l.length ≤ 400 := by have := HII.out.2; omega
            have bx := longP_le (likeB l1 l2) n m (i + 1) (q + 1)
            have hw1 : IntKind.i64.wrap ((i : Int) + 1) = (i : Int) + 1 := by rw [IntKind.wrap_i64]; omega
            have hw2 : IntKind.i64.wrap ((q : Int) + 1) = (q : Int) + 1 := by rw [IntKind.wrap_i64]; omega
            have hw3 : IntKind.i64.wrap (1 + (longP (likeB l1 l2) n m (i + 1) (q + 1) : Int)) = 1 + (longP (likeB l1 l2) n m (i + 1) (q + 1) : Int) := by rw [IntKind.wrap_i64]; omega
            have hz1 : (0 : Int) ≤ (i : Int) + 1 := by omega
            have hz2 : (0 : Int) ≤ (q : Int) + 1 := by omega
            have G0 := fun X (hX : Below wr.heap.size wr X) => (HSK.out.below hX).grid.top i (by omega)
            have G1 := fun X (hX : Below wr.heap.size wr X) => (HSK.out.below hX).grid.row i j (by omega) (by omega)
            have G2 := fun X (hX : Below wr.heap.size wr X) => (HSK.out.below hX).grid.top (i + 1) (by omega)
            have G3 := fun X (hX : Below wr.heap.size wr X) => (HSK.out.below hX).grid.row (i + 1) (q + 1) (by omega) (by omega)
            have hBw := HSK.out.b
            obtain ⟨bo, x, rfl, hbl, hx, hc⟩ := H1.out.at hin
            obtain ⟨bo2, y, rfl, hbl2, hy, hc2⟩ := H2.out.at hqm
            have hlk0 : likeB l1 l2 i q = eqL (blkAt l1 x) (blkAt l2 y) := by unfold likeB; rw [hx, hy]
            have HPE := fun W (hW : Below wr.heap.size wr W) => peqB_calls a1 a2 n1 n2 c1 c2 l1 l2 x y W (TD1.out.below (hBw.trans (hW.mono hBw.size))) (TD2.out.below (hBw.trans (hW.mono hBw.size))) (tops_in TD1.out.2.1 hx) (tops_in TD2.out.2.1 hy)
            have HCC0 := fun X (hX : Below wr.heap.size wr X) => (⟨hc X (hBw.trans (hX.mono hBw.size)), hc2 X (hBw.trans (hX.mono hBw.size)), G0 X hX, G1 X hX, G2 X hX, G3 X hX⟩ : _ ∧ _ ∧ _ ∧ _ ∧ _ ∧ _)
            rw [← hlk0] at HPE
            clear hc hc2 hx hy hlk0
            have HHC := hide_ HCC0
            clear HCC0 G0 G1 G2 G3 hBw
            have HCC := HHC
            clear HHC
            cases hlk : (likeB l1 l2) i q with
            | true =>
              rw [hlk] at HPE
              by_cases heq : 1 + longP (likeB l1 l2) n m (i + 1) (q + 1) = longP (likeB l1 l2) n m i j
              · have heqb : ((1 : Int) + (longP (likeB l1 l2) n m (i + 1) (q + 1) : Int) == (longP (likeB l1 l2) n m i j : Int)) = true := by rw [beq_iff_eq]; omega
                go_wp2_with fail
                refine wp_region_held_drew (S := fun X => Below wr.heap.size wr X) hmx (Below.refl _ wr).drew (fun hS => ?_)
                refine takeD 0 (some 38) (v := ?_) rfl rfl (by kernel_rfl) (by kernel_rfl) (by kernel_rfl) (fun _ _ _ h => h) (Or.inl ⟨by rfl, ?_⟩) hS ?_
                rotate_left
                · intro w hSw
                  try go_simp
                  with_reducible rfl
                try simp only [Act.put, List.setIfInBounds_toArray, List.set_cons_zero, List.set_cons_succ]
                refine takeD 1 (some 39) (v := ?_) rfl rfl (by kernel_rfl) (by kernel_rfl) (by kernel_rfl) (fun _ _ _ h => h) (Or.inl ⟨by rfl, ?_⟩) hS ?_
                rotate_left
                · intro w hSw
                  try go_simp
                  with_reducible rfl
                try simp only [Act.put, List.setIfInBounds_toArray, List.set_cons_zero, List.set_cons_succ]
                refine takeD 2 (some 40) (v := ?_) rfl rfl (by kernel_rfl) (by kernel_rfl) (by kernel_rfl) (fun _ _ _ h => h) (Or.inl ⟨by rfl, ?_⟩) hS ?_
                rotate_left
                · intro w hSw
                  try go_simp
                  with_reducible rfl
                try simp only [Act.put, List.setIfInBounds_toArray, List.set_cons_zero, List.set_cons_succ]
                refine takeD 3 (some 41) (v := ?_) rfl rfl (by kernel_rfl) (by kernel_rfl) (by kernel_rfl) (fun _ _ _ h => h) (Or.inl ⟨by rfl, ?_⟩) hS ?_
                rotate_left
                · intro w hSw
                  go_simp
                  with_reducible rfl
                try simp only [Act.put, List.setIfInBounds_toArray, List.set_cons_zero, List.set_cons_succ]
                refine takeD 4 (some 42) (v := ?_) rfl rfl (by kernel_rfl) (by kernel_rfl) (by kernel_rfl) (fun _ _ _ h => h) (Or.inl ⟨by rfl, ?_⟩) hS ?_
                rotate_left
                · intro w hSw
                  obtain ⟨⟨x0, x1x⟩, ⟨y0, y1⟩, t0, z0, t1, x1⟩ := HCC.out _ hSw
                  go_simp
                  with_reducible rfl
                try simp only [Act.put, List.setIfInBounds_toArray, List.set_cons_zero, List.set_cons_succ]
                refine takeD 5 (some 43) (v := ?_) rfl rfl (by kernel_rfl) (by kernel_rfl) (by kernel_rfl) (fun _ _ _ h => h) (Or.inl ⟨by rfl, ?_⟩) hS ?_
                rotate_left
                · intro w hSw
                  try go_simp
                  with_reducible rfl
                try simp only [Act.put, List.setIfInBounds_toArray, List.set_cons_zero, List.set_cons_succ]
                refine takeD 6 (some 44) (v := ?_) rfl rfl (by kernel_rfl) (by kernel_rfl) (by kernel_rfl) (fun _ _ _ h => h) (Or.inl ⟨by rfl, ?_⟩) hS ?_
                rotate_left
                · intro w hSw
                  try go_simp
                  with_reducible rfl
                try simp only [Act.put, List.setIfInBounds_toArray, List.set_cons_zero, List.set_cons_succ]
                refine takeD 7 (some 45) (v := ?_) rfl rfl (by kernel_rfl) (by kernel_rfl) (by kernel_rfl) (fun _ _ _ h => h) (Or.inl ⟨by rfl, ?_⟩) hS ?_
                rotate_left
                · intro w hSw
                  go_simp
                  with_reducible rfl
                try simp only [Act.put, List.setIfInBounds_toArray, List.set_cons_zero, List.set_cons_succ]
                refine takeD 8 (some 46) (v := ?_) rfl rfl (by kernel_rfl) (by kernel_rfl) (by kernel_rfl) (fun _ _ _ h => h) (Or.inl ⟨by rfl, ?_⟩) hS ?_
                rotate_left
                · intro w hSw
                  obtain ⟨⟨x0, x1x⟩, ⟨y0, y1⟩, t0, z0, t1, x1⟩ := HCC.out _ hSw
                  go_simp
                  with_reducible rfl
                try simp only [Act.put, List.setIfInBounds_toArray, List.set_cons_zero, List.set_cons_succ]
                refine callD 9 (by kernel_rfl) rfl (fun K hK => ?_)
                rw [if_pos (by rfl)]
                go_simp
                refine (HPE _ hS).mono ?_
                rintro e Y ⟨rfl, bY⟩
                have hY := hS.trans (bY.mono hS.size)
                clear bY
                refine hK.out _ _ hY (fun _ => ?_)
                clear hK K
                try simp only [Act.put, List.setIfInBounds_toArray, List.set_cons_zero, List.set_cons_succ]
                refine takeD 10 (some 48) (v := ?_) rfl rfl (by kernel_rfl) (by kernel_rfl) (by kernel_rfl) (fun _ _ _ h => h) (Or.inl ⟨by rfl, ?_⟩) hY ?_
                rotate_left
                · intro w hSw
                  try go_simp
                  with_reducible rfl
                try simp only [Act.put, List.setIfInBounds_toArray, List.set_cons_zero, List.set_cons_succ]
                refine takeD 11 (some 49) (v := ?_) rfl rfl (by kernel_rfl) (by kernel_rfl) (by kernel_rfl) (fun _ _ _ h => h) (Or.inl ⟨by rfl, ?_⟩) hY ?_
                rotate_left
                · intro w hSw
                  try go_simp
                  with_reducible rfl
                try simp only [Act.put, List.setIfInBounds_toArray, List.set_cons_zero, List.set_cons_succ]
                refine takeD 12 (some 50) (v := ?_) rfl rfl (by kernel_rfl) (by kernel_rfl) (by kernel_rfl) (fun _ _ _ h => h) (Or.inl ⟨by rfl, ?_⟩) hY ?_
                rotate_left
                · intro w hSw
                  try go_simp
                  with_reducible rfl
                try simp only [Act.put, List.setIfInBounds_toArray, List.set_cons_zero, List.set_cons_succ]
                refine takeD 13 (some 51) (v := ?_) rfl rfl (by kernel_rfl) (by kernel_rfl) (by kernel_rfl) (fun _ _ _ h => h) (Or.inl ⟨by rfl, ?_⟩) hY ?_
                rotate_left
                · intro w hSw
                  go_simp
                  with_reducible rfl
                try simp only [Act.put, List.setIfInBounds_toArray, List.set_cons_zero, List.set_cons_succ]
                refine takeD 14 (some 52) (v := ?_) rfl rfl (by kernel_rfl) (by kernel_rfl) (by kernel_rfl) (fun _ _ _ h => h) (Or.inl ⟨by rfl, ?_⟩) hY ?_
                rotate_left
                · intro w hSw
                  go_simp
                  with_reducible rfl
                try simp only [Act.put, List.setIfInBounds_toArray, List.set_cons_zero, List.set_cons_succ]
                refine takeD 15 (some 53) (v := ?_) rfl rfl (by kernel_rfl) (by kernel_rfl) (by kernel_rfl) (fun _ _ _ h => h) (Or.inl ⟨by rfl, ?_⟩) hY ?_
                rotate_left
                · intro w hSw
                  obtain ⟨⟨x0, x1x⟩, ⟨y0, y1⟩, t0, z0, t1, x1⟩ := HCC.out _ hSw
                  go_simp
                  with_reducible rfl
                try simp only [Act.put, List.setIfInBounds_toArray, List.set_cons_zero, List.set_cons_succ]
                refine takeD 16 (some 54) (v := ?_) rfl rfl (by kernel_rfl) (by kernel_rfl) (by kernel_rfl) (fun _ _ _ h => h) (Or.inl ⟨by rfl, ?_⟩) hY ?_
                rotate_left
                · intro w hSw
                  try go_simp
                  with_reducible rfl
                try simp only [Act.put, List.setIfInBounds_toArray, List.set_cons_zero, List.set_cons_succ]
                refine takeD 17 (some 55) (v := ?_) rfl rfl (by kernel_rfl) (by kernel_rfl) (by kernel_rfl) (fun _ _ _ h => h) (Or.inl ⟨by rfl, ?_⟩) hY ?_
                rotate_left
                · intro w hSw
                  go_simp
                  with_reducible rfl
                try simp only [Act.put, List.setIfInBounds_toArray, List.set_cons_zero, List.set_cons_succ]
                refine takeD 18 (some 56) (v := ?_) rfl rfl (by kernel_rfl) (by kernel_rfl) (by kernel_rfl) (fun _ _ _ h => h) (Or.inl ⟨by rfl, ?_⟩) hY ?_
                rotate_left
                · intro w hSw
                  go_simp
                  with_reducible rfl
                try simp only [Act.put, List.setIfInBounds_toArray, List.set_cons_zero, List.set_cons_succ]
                refine takeD 19 (some 57) (v := ?_) rfl rfl (by kernel_rfl) (by kernel_rfl) (by kernel_rfl) (fun _ _ _ h => h) (Or.inl ⟨by rfl, ?_⟩) hY ?_
                rotate_left
                · intro w hSw
                  obtain ⟨⟨x0, x1x⟩, ⟨y0, y1⟩, t0, z0, t1, x1⟩ := HCC.out _ hSw
                  go_simp
                  with_reducible rfl
                try simp only [Act.put, List.setIfInBounds_toArray, List.set_cons_zero, List.set_cons_succ]
                refine takeD 20 (some 58) (v := ?_) rfl rfl (by kernel_rfl) (by kernel_rfl) (by kernel_rfl) (fun _ _ _ h => h) (Or.inl ⟨by rfl, ?_⟩) hY ?_
                rotate_left
                · intro w hSw
                  go_simp
                  with_reducible rfl
                try simp only [Act.put, List.setIfInBounds_toArray, List.set_cons_zero, List.set_cons_succ]
                refine takeD 21 (some 59) (v := ?_) rfl rfl (by kernel_rfl) (by kernel_rfl) (by kernel_rfl) (fun _ _ _ h => h) (Or.inl ⟨by rfl, ?_⟩) hY ?_
                rotate_left
                · intro w hSw
                  try go_simp
                  with_reducible rfl
                try simp only [Act.put, List.setIfInBounds_toArray, List.set_cons_zero, List.set_cons_succ]
                refine takeD 22 (some 60) (v := ?_) rfl rfl (by kernel_rfl) (by kernel_rfl) (by kernel_rfl) (fun _ _ _ h => h) (Or.inl ⟨by rfl, ?_⟩) hY ?_
                rotate_left
                · intro w hSw
                  try go_simp
                  with_reducible rfl
                try simp only [Act.put, List.setIfInBounds_toArray, List.set_cons_zero, List.set_cons_succ]
                refine takeD 23 (some 61) (v := ?_) rfl rfl (by kernel_rfl) (by kernel_rfl) (by kernel_rfl) (fun _ _ _ h => h) (Or.inl ⟨by rfl, ?_⟩) hY ?_
                rotate_left
                · intro w hSw
                  go_simp
                  with_reducible rfl
                try simp only [Act.put, List.setIfInBounds_toArray, List.set_cons_zero, List.set_cons_succ]
                refine takeD 24 (some 62) (v := ?_) rfl rfl (by kernel_rfl) (by kernel_rfl) (by kernel_rfl) (fun _ _ _ h => h) (Or.inl ⟨by rfl, ?_⟩) hY ?_
                rotate_left
                · intro w hSw
                  obtain ⟨⟨x0, x1x⟩, ⟨y0, y1⟩, t0, z0, t1, x1⟩ := HCC.out _ hSw
                  go_simp
                  with_reducible rfl
                try simp only [Act.put, List.setIfInBounds_toArray, List.set_cons_zero, List.set_cons_succ]
                refine takeD 25 (some 63) (v := ?_) rfl rfl (by kernel_rfl) (by kernel_rfl) (by kernel_rfl) (fun _ _ _ h => h) (Or.inl ⟨by rfl, ?_⟩) hY ?_
                rotate_left
                · intro w hSw
                  try go_simp
                  with_reducible rfl
                try simp only [Act.put, List.setIfInBounds_toArray, List.set_cons_zero, List.set_cons_succ]
                refine takeD 26 (some 64) (v := ?_) rfl rfl (by kernel_rfl) (by kernel_rfl) (by kernel_rfl) (fun _ _ _ h => h) (Or.inl ⟨by rfl, ?_⟩) hY ?_
                rotate_left
                · intro w hSw
                  go_simp
                  with_reducible rfl
                try simp only [Act.put, List.setIfInBounds_toArray, List.set_cons_zero, List.set_cons_succ]
                refine takeD 27 (some 65) (v := ?_) rfl rfl (by kernel_rfl) (by kernel_rfl) (by kernel_rfl) (fun _ _ _ h => h) (Or.inl ⟨by rfl, ?_⟩) hY ?_
                rotate_left
                · intro w hSw
                  obtain ⟨⟨x0, x1x⟩, ⟨y0, y1⟩, t0, z0, t1, x1⟩ := HCC.out _ hSw
                  go_simp
                  with_reducible rfl
                try simp only [Act.put, List.setIfInBounds_toArray, List.set_cons_zero, List.set_cons_succ]
                refine takeD 28 (some 66) (v := ?_) rfl rfl (by kernel_rfl) (by kernel_rfl) (by kernel_rfl) (fun _ _ _ h => h) (Or.inl ⟨by rfl, ?_⟩) hY ?_
                rotate_left
                · intro w hSw
                  go_simp
                  with_reducible rfl
                try simp only [Act.put, List.setIfInBounds_toArray, List.set_cons_zero, List.set_cons_succ]
                refine takeD 29 (some 67) (v := ?_) rfl rfl (by kernel_rfl) (by kernel_rfl) (by kernel_rfl) (fun _ _ _ h => h) (Or.inl ⟨by rfl, ?_⟩) hY ?_
                rotate_left
                · intro w hSw
                  go_simp
                  with_reducible rfl
                try simp only [Act.put, List.setIfInBounds_toArray, List.set_cons_zero, List.set_cons_succ]
                refine takeD 30 (some 37) (v := ?_) rfl rfl (by kernel_rfl) (by kernel_rfl) (by kernel_rfl) (fun _ _ _ h => h) (Or.inl ⟨by rfl, ?_⟩) hY ?_
                rotate_left
                · intro w hSw
                  try go_simp
                  with_reducible rfl
                try simp only [Act.put, List.setIfInBounds_toArray, List.set_cons_zero, List.set_cons_succ]
                refine wpAnyH_done (by kernel_rfl) ?_ _
                have hSY := HSK.out.below hY
                obtain ⟨v', W1, hrun, HW1⟩ := hSY.more hl400 i q
                have HRUN := hide_ hrun
                have HN : Hid ((∀ r, IsPairs (likeB l1 l2) n m (i + 1) (q + 1) r → IsPairs (likeB l1 l2) n m 0 0 ((l ++ [(i, q)]) ++ r)) ∧ (l ++ [(i, q)]).length ≤ i + 1) := by
                  refine ⟨fun r h => ?_, ?_⟩
                  · rw [List.append_assoc]
                    exact HII.out.1 ((i, q) :: r) ⟨by omega, IsNext.here hin hjq hqm ⟨hlk, heq⟩ HNR.out, h⟩
                  · rw [List.length_append, List.length_singleton]
                    have := HII.out.2
                    omega
                clear hY hS HSK HCC HPE HNR hSY hrun heq hlk HII
                go_wp2_with (first | (at_builtin; refine wpList_run_append rfl (.tmp 68) (.tmp 72) 26 rfl _ _ _ _ rfl rfl HRUN.out ?_) | fail)
                go_roundg (n - i)
                case measure => omega
                case rel => exact ⟨l ++ [(i, q)], i + 1, q + 1, by first | rfl | go_num, by first | rfl | go_num, by omega, by omega, by omega, HN, HW1⟩
              · have heqb : ((1 : Int) + (longP (likeB l1 l2) n m (i + 1) (q + 1) : Int) == (longP (likeB l1 l2) n m i j : Int)) = false := by rw [beq_eq_false_iff_ne]; omega
                go_wp2_with fail
                refine wp_region_held_drew (S := fun X => Below wr.heap.size wr X) hmx (Below.refl _ wr).drew (fun hS => ?_)
                refine takeD 0 (some 38) (v := ?_) rfl rfl (by kernel_rfl) (by kernel_rfl) (by kernel_rfl) (fun _ _ _ h => h) (Or.inl ⟨by rfl, ?_⟩) hS ?_
                rotate_left
                · intro w hSw
                  try go_simp
                  with_reducible rfl
                try simp only [Act.put, List.setIfInBounds_toArray, List.set_cons_zero, List.set_cons_succ]
                refine takeD 1 (some 39) (v := ?_) rfl rfl (by kernel_rfl) (by kernel_rfl) (by kernel_rfl) (fun _ _ _ h => h) (Or.inl ⟨by rfl, ?_⟩) hS ?_
                rotate_left
                · intro w hSw
                  try go_simp
                  with_reducible rfl
                try simp only [Act.put, List.setIfInBounds_toArray, List.set_cons_zero, List.set_cons_succ]
                refine takeD 2 (some 40) (v := ?_) rfl rfl (by kernel_rfl) (by kernel_rfl) (by kernel_rfl) (fun _ _ _ h => h) (Or.inl ⟨by rfl, ?_⟩) hS ?_
                rotate_left
                · intro w hSw
                  try go_simp
                  with_reducible rfl
                try simp only [Act.put, List.setIfInBounds_toArray, List.set_cons_zero, List.set_cons_succ]
                refine takeD 3 (some 41) (v := ?_) rfl rfl (by kernel_rfl) (by kernel_rfl) (by kernel_rfl) (fun _ _ _ h => h) (Or.inl ⟨by rfl, ?_⟩) hS ?_
                rotate_left
                · intro w hSw
                  go_simp
                  with_reducible rfl
                try simp only [Act.put, List.setIfInBounds_toArray, List.set_cons_zero, List.set_cons_succ]
                refine takeD 4 (some 42) (v := ?_) rfl rfl (by kernel_rfl) (by kernel_rfl) (by kernel_rfl) (fun _ _ _ h => h) (Or.inl ⟨by rfl, ?_⟩) hS ?_
                rotate_left
                · intro w hSw
                  obtain ⟨⟨x0, x1x⟩, ⟨y0, y1⟩, t0, z0, t1, x1⟩ := HCC.out _ hSw
                  go_simp
                  with_reducible rfl
                try simp only [Act.put, List.setIfInBounds_toArray, List.set_cons_zero, List.set_cons_succ]
                refine takeD 5 (some 43) (v := ?_) rfl rfl (by kernel_rfl) (by kernel_rfl) (by kernel_rfl) (fun _ _ _ h => h) (Or.inl ⟨by rfl, ?_⟩) hS ?_
                rotate_left
                · intro w hSw
                  try go_simp
                  with_reducible rfl
                try simp only [Act.put, List.setIfInBounds_toArray, List.set_cons_zero, List.set_cons_succ]
                refine takeD 6 (some 44) (v := ?_) rfl rfl (by kernel_rfl) (by kernel_rfl) (by kernel_rfl) (fun _ _ _ h => h) (Or.inl ⟨by rfl, ?_⟩) hS ?_
                rotate_left
                · intro w hSw
                  try go_simp
                  with_reducible rfl
                try simp only [Act.put, List.setIfInBounds_toArray, List.set_cons_zero, List.set_cons_succ]
                refine takeD 7 (some 45) (v := ?_) rfl rfl (by kernel_rfl) (by kernel_rfl) (by kernel_rfl) (fun _ _ _ h => h) (Or.inl ⟨by rfl, ?_⟩) hS ?_
                rotate_left
                · intro w hSw
                  go_simp
                  with_reducible rfl
                try simp only [Act.put, List.setIfInBounds_toArray, List.set_cons_zero, List.set_cons_succ]
                refine takeD 8 (some 46) (v := ?_) rfl rfl (by kernel_rfl) (by kernel_rfl) (by kernel_rfl) (fun _ _ _ h => h) (Or.inl ⟨by rfl, ?_⟩) hS ?_
                rotate_left
                · intro w hSw
                  obtain ⟨⟨x0, x1x⟩, ⟨y0, y1⟩, t0, z0, t1, x1⟩ := HCC.out _ hSw
                  go_simp
                  with_reducible rfl
                try simp only [Act.put, List.setIfInBounds_toArray, List.set_cons_zero, List.set_cons_succ]
                refine callD 9 (by kernel_rfl) rfl (fun K hK => ?_)
                rw [if_pos (by rfl)]
                go_simp
                refine (HPE _ hS).mono ?_
                rintro e Y ⟨rfl, bY⟩
                have hY := hS.trans (bY.mono hS.size)
                clear bY
                refine hK.out _ _ hY (fun _ => ?_)
                clear hK K
                try simp only [Act.put, List.setIfInBounds_toArray, List.set_cons_zero, List.set_cons_succ]
                refine takeD 10 (some 48) (v := ?_) rfl rfl (by kernel_rfl) (by kernel_rfl) (by kernel_rfl) (fun _ _ _ h => h) (Or.inl ⟨by rfl, ?_⟩) hY ?_
                rotate_left
                · intro w hSw
                  try go_simp
                  with_reducible rfl
                try simp only [Act.put, List.setIfInBounds_toArray, List.set_cons_zero, List.set_cons_succ]
                refine takeD 11 (some 49) (v := ?_) rfl rfl (by kernel_rfl) (by kernel_rfl) (by kernel_rfl) (fun _ _ _ h => h) (Or.inl ⟨by rfl, ?_⟩) hY ?_
                rotate_left
                · intro w hSw
                  try go_simp
                  with_reducible rfl
                try simp only [Act.put, List.setIfInBounds_toArray, List.set_cons_zero, List.set_cons_succ]
                refine takeD 12 (some 50) (v := ?_) rfl rfl (by kernel_rfl) (by kernel_rfl) (by kernel_rfl) (fun _ _ _ h => h) (Or.inl ⟨by rfl, ?_⟩) hY ?_
                rotate_left
                · intro w hSw
                  try go_simp
                  with_reducible rfl
                try simp only [Act.put, List.setIfInBounds_toArray, List.set_cons_zero, List.set_cons_succ]
                refine takeD 13 (some 51) (v := ?_) rfl rfl (by kernel_rfl) (by kernel_rfl) (by kernel_rfl) (fun _ _ _ h => h) (Or.inl ⟨by rfl, ?_⟩) hY ?_
                rotate_left
                · intro w hSw
                  go_simp
                  with_reducible rfl
                try simp only [Act.put, List.setIfInBounds_toArray, List.set_cons_zero, List.set_cons_succ]
                refine takeD 14 (some 52) (v := ?_) rfl rfl (by kernel_rfl) (by kernel_rfl) (by kernel_rfl) (fun _ _ _ h => h) (Or.inl ⟨by rfl, ?_⟩) hY ?_
                rotate_left
                · intro w hSw
                  go_simp
                  with_reducible rfl
                try simp only [Act.put, List.setIfInBounds_toArray, List.set_cons_zero, List.set_cons_succ]
                refine takeD 15 (some 53) (v := ?_) rfl rfl (by kernel_rfl) (by kernel_rfl) (by kernel_rfl) (fun _ _ _ h => h) (Or.inl ⟨by rfl, ?_⟩) hY ?_
                rotate_left
                · intro w hSw
                  obtain ⟨⟨x0, x1x⟩, ⟨y0, y1⟩, t0, z0, t1, x1⟩ := HCC.out _ hSw
                  go_simp
                  with_reducible rfl
                try simp only [Act.put, List.setIfInBounds_toArray, List.set_cons_zero, List.set_cons_succ]
                refine takeD 16 (some 54) (v := ?_) rfl rfl (by kernel_rfl) (by kernel_rfl) (by kernel_rfl) (fun _ _ _ h => h) (Or.inl ⟨by rfl, ?_⟩) hY ?_
                rotate_left
                · intro w hSw
                  try go_simp
                  with_reducible rfl
                try simp only [Act.put, List.setIfInBounds_toArray, List.set_cons_zero, List.set_cons_succ]
                refine takeD 17 (some 55) (v := ?_) rfl rfl (by kernel_rfl) (by kernel_rfl) (by kernel_rfl) (fun _ _ _ h => h) (Or.inl ⟨by rfl, ?_⟩) hY ?_
                rotate_left
                · intro w hSw
                  go_simp
                  with_reducible rfl
                try simp only [Act.put, List.setIfInBounds_toArray, List.set_cons_zero, List.set_cons_succ]
                refine takeD 18 (some 56) (v := ?_) rfl rfl (by kernel_rfl) (by kernel_rfl) (by kernel_rfl) (fun _ _ _ h => h) (Or.inl ⟨by rfl, ?_⟩) hY ?_
                rotate_left
                · intro w hSw
                  go_simp
                  with_reducible rfl
                try simp only [Act.put, List.setIfInBounds_toArray, List.set_cons_zero, List.set_cons_succ]
                refine takeD 19 (some 57) (v := ?_) rfl rfl (by kernel_rfl) (by kernel_rfl) (by kernel_rfl) (fun _ _ _ h => h) (Or.inl ⟨by rfl, ?_⟩) hY ?_
                rotate_left
                · intro w hSw
                  obtain ⟨⟨x0, x1x⟩, ⟨y0, y1⟩, t0, z0, t1, x1⟩ := HCC.out _ hSw
                  go_simp
                  with_reducible rfl
                try simp only [Act.put, List.setIfInBounds_toArray, List.set_cons_zero, List.set_cons_succ]
                refine takeD 20 (some 58) (v := ?_) rfl rfl (by kernel_rfl) (by kernel_rfl) (by kernel_rfl) (fun _ _ _ h => h) (Or.inl ⟨by rfl, ?_⟩) hY ?_
                rotate_left
                · intro w hSw
                  go_simp
                  with_reducible rfl
                try simp only [Act.put, List.setIfInBounds_toArray, List.set_cons_zero, List.set_cons_succ]
                refine takeD 21 (some 59) (v := ?_) rfl rfl (by kernel_rfl) (by kernel_rfl) (by kernel_rfl) (fun _ _ _ h => h) (Or.inl ⟨by rfl, ?_⟩) hY ?_
                rotate_left
                · intro w hSw
                  try go_simp
                  with_reducible rfl
                try simp only [Act.put, List.setIfInBounds_toArray, List.set_cons_zero, List.set_cons_succ]
                refine takeD 22 (some 60) (v := ?_) rfl rfl (by kernel_rfl) (by kernel_rfl) (by kernel_rfl) (fun _ _ _ h => h) (Or.inl ⟨by rfl, ?_⟩) hY ?_
                rotate_left
                · intro w hSw
                  try go_simp
                  with_reducible rfl
                try simp only [Act.put, List.setIfInBounds_toArray, List.set_cons_zero, List.set_cons_succ]
                refine takeD 23 (some 61) (v := ?_) rfl rfl (by kernel_rfl) (by kernel_rfl) (by kernel_rfl) (fun _ _ _ h => h) (Or.inl ⟨by rfl, ?_⟩) hY ?_
                rotate_left
                · intro w hSw
                  go_simp
                  with_reducible rfl
                try simp only [Act.put, List.setIfInBounds_toArray, List.set_cons_zero, List.set_cons_succ]
                refine takeD 24 (some 62) (v := ?_) rfl rfl (by kernel_rfl) (by kernel_rfl) (by kernel_rfl) (fun _ _ _ h => h) (Or.inl ⟨by rfl, ?_⟩) hY ?_
                rotate_left
                · intro w hSw
                  obtain ⟨⟨x0, x1x⟩, ⟨y0, y1⟩, t0, z0, t1, x1⟩ := HCC.out _ hSw
                  go_simp
                  with_reducible rfl
                try simp only [Act.put, List.setIfInBounds_toArray, List.set_cons_zero, List.set_cons_succ]
                refine takeD 25 (some 63) (v := ?_) rfl rfl (by kernel_rfl) (by kernel_rfl) (by kernel_rfl) (fun _ _ _ h => h) (Or.inl ⟨by rfl, ?_⟩) hY ?_
                rotate_left
                · intro w hSw
                  try go_simp
                  with_reducible rfl
                try simp only [Act.put, List.setIfInBounds_toArray, List.set_cons_zero, List.set_cons_succ]
                refine takeD 26 (some 64) (v := ?_) rfl rfl (by kernel_rfl) (by kernel_rfl) (by kernel_rfl) (fun _ _ _ h => h) (Or.inl ⟨by rfl, ?_⟩) hY ?_
                rotate_left
                · intro w hSw
                  go_simp
                  with_reducible rfl
                try simp only [Act.put, List.setIfInBounds_toArray, List.set_cons_zero, List.set_cons_succ]
                refine takeD 27 (some 65) (v := ?_) rfl rfl (by kernel_rfl) (by kernel_rfl) (by kernel_rfl) (fun _ _ _ h => h) (Or.inl ⟨by rfl, ?_⟩) hY ?_
                rotate_left
                · intro w hSw
                  obtain ⟨⟨x0, x1x⟩, ⟨y0, y1⟩, t0, z0, t1, x1⟩ := HCC.out _ hSw
                  go_simp
                  with_reducible rfl
                try simp only [Act.put, List.setIfInBounds_toArray, List.set_cons_zero, List.set_cons_succ]
                refine takeD 28 (some 66) (v := ?_) rfl rfl (by kernel_rfl) (by kernel_rfl) (by kernel_rfl) (fun _ _ _ h => h) (Or.inl ⟨by rfl, ?_⟩) hY ?_
                rotate_left
                · intro w hSw
                  go_simp
                  with_reducible rfl
                try simp only [Act.put, List.setIfInBounds_toArray, List.set_cons_zero, List.set_cons_succ]
                refine takeD 29 (some 67) (v := ?_) rfl rfl (by kernel_rfl) (by kernel_rfl) (by kernel_rfl) (fun _ _ _ h => h) (Or.inl ⟨by rfl, ?_⟩) hY ?_
                rotate_left
                · intro w hSw
                  go_simp
                  with_reducible rfl
                try simp only [Act.put, List.setIfInBounds_toArray, List.set_cons_zero, List.set_cons_succ]
                refine takeD 30 (some 37) (v := ?_) rfl rfl (by kernel_rfl) (by kernel_rfl) (by kernel_rfl) (fun _ _ _ h => h) (Or.inl ⟨by rfl, ?_⟩) hY ?_
                rotate_left
                · intro w hSw
                  try go_simp
                  with_reducible rfl
                try simp only [Act.put, List.setIfInBounds_toArray, List.set_cons_zero, List.set_cons_succ]
                refine wpAnyH_done (by kernel_rfl) ?_ _
                have HSY : Hid (Sk (likeB l1 l2) w Y g n m rb u8 l) := HSK.out.below hY
                have HN : Hid (NoneIn (likeB l1 l2) n m i j (q + 1)) := fun q' h1 h2 => by
                  by_cases e : q' = q
                  · subst e
                    exact fun h => heq h.2
                  · exact HNR.out q' h1 (by omega)
                clear hY hS HSK HCC HPE HNR
                go_wp2
                go_roundg (m - q)
                case measure => omega
                case rel => exact ⟨q + 1, rfl, rfl, by first | rfl | go_num, by omega, by omega, by omega, HSY, HN⟩
            | false =>
              rw [hlk] at HPE
              go_wp2_with fail
              refine wp_region_held_drew (S := fun X => Below wr.heap.size wr X) hmx (Below.refl _ wr).drew (fun hS => ?_)
              refine takeD 0 (some 38) (v := ?_) rfl rfl (by kernel_rfl) (by kernel_rfl) (by kernel_rfl) (fun _ _ _ h => h) (Or.inl ⟨by rfl, ?_⟩) hS ?_
              rotate_left
              · intro w hSw
                try go_simp
                with_reducible rfl
              try simp only [Act.put, List.setIfInBounds_toArray, List.set_cons_zero, List.set_cons_succ]
              refine takeD 1 (some 39) (v := ?_) rfl rfl (by kernel_rfl) (by kernel_rfl) (by kernel_rfl) (fun _ _ _ h => h) (Or.inl ⟨by rfl, ?_⟩) hS ?_
              rotate_left
              · intro w hSw
                try go_simp
                with_reducible rfl
              try simp only [Act.put, List.setIfInBounds_toArray, List.set_cons_zero, List.set_cons_succ]
              refine takeD 2 (some 40) (v := ?_) rfl rfl (by kernel_rfl) (by kernel_rfl) (by kernel_rfl) (fun _ _ _ h => h) (Or.inl ⟨by rfl, ?_⟩) hS ?_
              rotate_left
              · intro w hSw
                try go_simp
                with_reducible rfl
              try simp only [Act.put, List.setIfInBounds_toArray, List.set_cons_zero, List.set_cons_succ]
              refine takeD 3 (some 41) (v := ?_) rfl rfl (by kernel_rfl) (by kernel_rfl) (by kernel_rfl) (fun _ _ _ h => h) (Or.inl ⟨by rfl, ?_⟩) hS ?_
              rotate_left
              · intro w hSw
                go_simp
                with_reducible rfl
              try simp only [Act.put, List.setIfInBounds_toArray, List.set_cons_zero, List.set_cons_succ]
              refine takeD 4 (some 42) (v := ?_) rfl rfl (by kernel_rfl) (by kernel_rfl) (by kernel_rfl) (fun _ _ _ h => h) (Or.inl ⟨by rfl, ?_⟩) hS ?_
              rotate_left
              · intro w hSw
                obtain ⟨⟨x0, x1x⟩, ⟨y0, y1⟩, t0, z0, t1, x1⟩ := HCC.out _ hSw
                go_simp
                with_reducible rfl
              try simp only [Act.put, List.setIfInBounds_toArray, List.set_cons_zero, List.set_cons_succ]
              refine takeD 5 (some 43) (v := ?_) rfl rfl (by kernel_rfl) (by kernel_rfl) (by kernel_rfl) (fun _ _ _ h => h) (Or.inl ⟨by rfl, ?_⟩) hS ?_
              rotate_left
              · intro w hSw
                try go_simp
                with_reducible rfl
              try simp only [Act.put, List.setIfInBounds_toArray, List.set_cons_zero, List.set_cons_succ]
              refine takeD 6 (some 44) (v := ?_) rfl rfl (by kernel_rfl) (by kernel_rfl) (by kernel_rfl) (fun _ _ _ h => h) (Or.inl ⟨by rfl, ?_⟩) hS ?_
              rotate_left
              · intro w hSw
                try go_simp
                with_reducible rfl
              try simp only [Act.put, List.setIfInBounds_toArray, List.set_cons_zero, List.set_cons_succ]
              refine takeD 7 (some 45) (v := ?_) rfl rfl (by kernel_rfl) (by kernel_rfl) (by kernel_rfl) (fun _ _ _ h => h) (Or.inl ⟨by rfl, ?_⟩) hS ?_
              rotate_left
              · intro w hSw
                go_simp
                with_reducible rfl
              try simp only [Act.put, List.setIfInBounds_toArray, List.set_cons_zero, List.set_cons_succ]
              refine takeD 8 (some 46) (v := ?_) rfl rfl (by kernel_rfl) (by kernel_rfl) (by kernel_rfl) (fun _ _ _ h => h) (Or.inl ⟨by rfl, ?_⟩) hS ?_
              rotate_left
              · intro w hSw
                obtain ⟨⟨x0, x1x⟩, ⟨y0, y1⟩, t0, z0, t1, x1⟩ := HCC.out _ hSw
                go_simp
                with_reducible rfl
              try simp only [Act.put, List.setIfInBounds_toArray, List.set_cons_zero, List.set_cons_succ]
              refine callD 9 (by kernel_rfl) rfl (fun K hK => ?_)
              rw [if_pos (by rfl)]
              go_simp
              refine (HPE _ hS).mono ?_
              rintro e Y ⟨rfl, bY⟩
              have hY := hS.trans (bY.mono hS.size)
              clear bY
              refine hK.out _ _ hY (fun _ => ?_)
              clear hK K
              try simp only [Act.put, List.setIfInBounds_toArray, List.set_cons_zero, List.set_cons_succ]
              refine takeD 10 (some 48) (v := ?_) rfl rfl (by kernel_rfl) (by kernel_rfl) (by kernel_rfl) (fun _ _ _ h => h) (Or.inl ⟨by rfl, ?_⟩) hY ?_
              rotate_left
              · intro w hSw
                try go_simp
                with_reducible rfl
              try simp only [Act.put, List.setIfInBounds_toArray, List.set_cons_zero, List.set_cons_succ]
              refine takeD 11 (some 49) (v := undef) rfl rfl (by kernel_rfl) (by kernel_rfl) (by kernel_rfl) (fun _ _ _ h => h) (Or.inr ⟨by rfl, rfl⟩) hY ?_
              try simp only [Act.put, List.setIfInBounds_toArray, List.set_cons_zero, List.set_cons_succ]
              refine takeD 12 (some 50) (v := undef) rfl rfl (by kernel_rfl) (by kernel_rfl) (by kernel_rfl) (fun _ _ _ h => h) (Or.inr ⟨by rfl, rfl⟩) hY ?_
              try simp only [Act.put, List.setIfInBounds_toArray, List.set_cons_zero, List.set_cons_succ]
              refine takeD 13 (some 51) (v := undef) rfl rfl (by kernel_rfl) (by kernel_rfl) (by kernel_rfl) (fun _ _ _ h => h) (Or.inr ⟨by rfl, rfl⟩) hY ?_
              try simp only [Act.put, List.setIfInBounds_toArray, List.set_cons_zero, List.set_cons_succ]
              refine takeD 14 (some 52) (v := undef) rfl rfl (by kernel_rfl) (by kernel_rfl) (by kernel_rfl) (fun _ _ _ h => h) (Or.inr ⟨by rfl, rfl⟩) hY ?_
              try simp only [Act.put, List.setIfInBounds_toArray, List.set_cons_zero, List.set_cons_succ]
              refine takeD 15 (some 53) (v := undef) rfl rfl (by kernel_rfl) (by kernel_rfl) (by kernel_rfl) (fun _ _ _ h => h) (Or.inr ⟨by rfl, rfl⟩) hY ?_
              try simp only [Act.put, List.setIfInBounds_toArray, List.set_cons_zero, List.set_cons_succ]
              refine takeD 16 (some 54) (v := undef) rfl rfl (by kernel_rfl) (by kernel_rfl) (by kernel_rfl) (fun _ _ _ h => h) (Or.inr ⟨by rfl, rfl⟩) hY ?_
              try simp only [Act.put, List.setIfInBounds_toArray, List.set_cons_zero, List.set_cons_succ]
              refine takeD 17 (some 55) (v := undef) rfl rfl (by kernel_rfl) (by kernel_rfl) (by kernel_rfl) (fun _ _ _ h => h) (Or.inr ⟨by rfl, rfl⟩) hY ?_
              try simp only [Act.put, List.setIfInBounds_toArray, List.set_cons_zero, List.set_cons_succ]
              refine takeD 18 (some 56) (v := undef) rfl rfl (by kernel_rfl) (by kernel_rfl) (by kernel_rfl) (fun _ _ _ h => h) (Or.inr ⟨by rfl, rfl⟩) hY ?_
              try simp only [Act.put, List.setIfInBounds_toArray, List.set_cons_zero, List.set_cons_succ]
              refine takeD 19 (some 57) (v := undef) rfl rfl (by kernel_rfl) (by kernel_rfl) (by kernel_rfl) (fun _ _ _ h => h) (Or.inr ⟨by rfl, rfl⟩) hY ?_
              try simp only [Act.put, List.setIfInBounds_toArray, List.set_cons_zero, List.set_cons_succ]
              refine takeD 20 (some 58) (v := undef) rfl rfl (by kernel_rfl) (by kernel_rfl) (by kernel_rfl) (fun _ _ _ h => h) (Or.inr ⟨by rfl, rfl⟩) hY ?_
              try simp only [Act.put, List.setIfInBounds_toArray, List.set_cons_zero, List.set_cons_succ]
              refine takeD 21 (some 59) (v := undef) rfl rfl (by kernel_rfl) (by kernel_rfl) (by kernel_rfl) (fun _ _ _ h => h) (Or.inr ⟨by rfl, rfl⟩) hY ?_
              try simp only [Act.put, List.setIfInBounds_toArray, List.set_cons_zero, List.set_cons_succ]
              refine takeD 22 (some 60) (v := undef) rfl rfl (by kernel_rfl) (by kernel_rfl) (by kernel_rfl) (fun _ _ _ h => h) (Or.inr ⟨by rfl, rfl⟩) hY ?_
              try simp only [Act.put, List.setIfInBounds_toArray, List.set_cons_zero, List.set_cons_succ]
              refine takeD 23 (some 61) (v := undef) rfl rfl (by kernel_rfl) (by kernel_rfl) (by kernel_rfl) (fun _ _ _ h => h) (Or.inr ⟨by rfl, rfl⟩) hY ?_
              try simp only [Act.put, List.setIfInBounds_toArray, List.set_cons_zero, List.set_cons_succ]
              refine takeD 24 (some 62) (v := undef) rfl rfl (by kernel_rfl) (by kernel_rfl) (by kernel_rfl) (fun _ _ _ h => h) (Or.inr ⟨by rfl, rfl⟩) hY ?_
              try simp only [Act.put, List.setIfInBounds_toArray, List.set_cons_zero, List.set_cons_succ]
              refine takeD 25 (some 63) (v := undef) rfl rfl (by kernel_rfl) (by kernel_rfl) (by kernel_rfl) (fun _ _ _ h => h) (Or.inr ⟨by rfl, rfl⟩) hY ?_
              try simp only [Act.put, List.setIfInBounds_toArray, List.set_cons_zero, List.set_cons_succ]
              refine takeD 26 (some 64) (v := undef) rfl rfl (by kernel_rfl) (by kernel_rfl) (by kernel_rfl) (fun _ _ _ h => h) (Or.inr ⟨by rfl, rfl⟩) hY ?_
              try simp only [Act.put, List.setIfInBounds_toArray, List.set_cons_zero, List.set_cons_succ]
              refine takeD 27 (some 65) (v := undef) rfl rfl (by kernel_rfl) (by kernel_rfl) (by kernel_rfl) (fun _ _ _ h => h) (Or.inr ⟨by rfl, rfl⟩) hY ?_
              try simp only [Act.put, List.setIfInBounds_toArray, List.set_cons_zero, List.set_cons_succ]
              refine takeD 28 (some 66) (v := undef) rfl rfl (by kernel_rfl) (by kernel_rfl) (by kernel_rfl) (fun _ _ _ h => h) (Or.inr ⟨by rfl, rfl⟩) hY ?_
              try simp only [Act.put, List.setIfInBounds_toArray, List.set_cons_zero, List.set_cons_succ]
              refine takeD 29 (some 67) (v := ?_) rfl rfl (by kernel_rfl) (by kernel_rfl) (by kernel_rfl) (fun _ _ _ h => h) (Or.inl ⟨by rfl, ?_⟩) hY ?_
              rotate_left
              · intro w hSw
                go_simp
                with_reducible rfl
              try simp only [Act.put, List.setIfInBounds_toArray, List.set_cons_zero, List.set_cons_succ]
              refine takeD 30 (some 37) (v := ?_) rfl rfl (by kernel_rfl) (by kernel_rfl) (by kernel_rfl) (fun _ _ _ h => h) (Or.inl ⟨by rfl, ?_⟩) hY ?_
              rotate_left
              · intro w hSw
                try go_simp
                with_reducible rfl
              try simp only [Act.put, List.setIfInBounds_toArray, List.set_cons_zero, List.set_cons_succ]
              refine wpAnyH_done (by kernel_rfl) ?_ _
              have HSY : Hid (Sk (likeB l1 l2) w Y g n m rb u8 l) := HSK.out.below hY
              have HN : Hid (NoneIn (likeB l1 l2) n m i j (q + 1)) := fun q' h1 h2 => by
                by_cases e : q' = q
                · subst e
                  exact fun h => by rw [h.1] at hlk; exact Bool.noConfusion hlk
                · exact HNR.out q' h1 (by omega)
              clear hY hS HSK HCC HPE HNR
              go_wp2
              go_roundg (m - q)
              case measure => omega
              case rel => exact ⟨q + 1, rfl, rfl, by first | rfl | go_num, by omega, by omega, by omega, HSY, HN⟩
        · have hqle : ¬ ((q : Int) < (m : Int)) := by omega
          obtain rfl : q = m := by omega
          have HN : Hid ((∀ r, IsPairs (likeB l1 l2) n q (i + 1) j r → IsPairs (likeB l1 l2) n q 0 0 (l ++ r)) ∧ l.length ≤ i + 1) := ⟨fun r h => HII.out.1 r (IsPairs.skip HNR.out h), by have := HII.out.2; omega⟩
          clear HII HNR
          go_wp2
          go_roundg (n - i)
          case measure => omega
          case rel => exact ⟨l, i + 1, j, by first | rfl | go_num, by first | rfl | go_num, by omega, by omega, by omega, HN, HSK⟩
    · have hge2 : ¬ ((i : Int) < (n : Int)) := by omega
      have HF : Hid (IsPairs (likeB l1 l2) n m 0 0 l) := by
        have := HII.out.1 [] (IsPairs.done hge)
        rw [List.append_nil] at this
        exact this
      go_wp2
      go_ret
      exact ⟨l, _, rfl, HF.out, by have := HII.out.2; omega, HSK.out.own, HSK.out.b⟩
end Go.Proofs.Ytgpopploimeeaaa
