/-
  PROVED HERE: the program's own table: how long the longest pairs are from each two places on.
-/
import Derived.Test.YtgpopploimeeaaaCB16
import Derived.Test.YtgpopploimeeaaaCBPLong
import Derived.Test.YtgpopploimeeaaaCB12
namespace Go.Proofs.Ytgpopploimeeaaa
open Go.RowKit

set_option maxRecDepth 100000 in
set_option maxHeartbeats 4000000 in
theorem mostB_calls (d1 d2 : Option Addr) (n m e1 e2 : Nat) (a1 a2 : Option Addr) (n1 n2 c1 c2 : Nat) (l1 l2 : List Tok) (hn : n ≤ 400) (hm : m ≤ 400) (w : World) (h1 : Blks w a1 c1 l1 d1 n) (h2 : Blks w a2 c2 l2 d2 m) (t1 : Doc w a1 n1 c1 l1) (t2 : Doc w a2 n2 c2 l2) :
    Calls Try.prog 47 #[.slice d1 n e1, .slice d2 m e2, .func (.func 30) #[] #[]] w fun e w' => ∃ g rb, e = .returned (.slice (some ⟨g, 0, none⟩) (n + 1) (n + 1)) ∧ IntG w' w.heap.size g (n + 1) (m + 1) rb (longP (likeB l1 l2) n m) ∧ Below w.heap.size w w' := by
  have hmk1 : ∀ W : World, (Instr.makeSlice 88 (.int .i64 ((n : Int) + 1)) (.int .i64 ((n : Int) + 1))).run Try.prog W = .ok (.slice (some ⟨W.heap.size, 0, none⟩) (n + 1) (n + 1)) (W.alloc (.cells (madeCells #[.slice none 0 0] (n + 1)) 45)) := fun W => run_make_row' (P := Try.prog) 88 45 (.slice none 0 0) 24 Try.underlying88 info_row rfl .i64 .i64 (n + 1) (by omega) (by omega) W
  have hmk2 : ∀ W : World, (Instr.makeSlice 45 (.int .i64 ((m : Int) + 1)) (.int .i64 ((m : Int) + 1))).run Try.prog W = .ok (.slice (some ⟨W.heap.size, 0, none⟩) (m + 1) (m + 1)) (W.alloc (.cells (madeCells #[.int .i64 0] (m + 1)) 3)) := fun W => run_make_row' (P := Try.prog) 45 3 (.int .i64 0) 8 Try.underlying45 info_int rfl .i64 .i64 (m + 1) (by omega) (by omega) W
  have hni : (n : Int) ≤ 400 := by omega
  have hmi : (m : Int) ≤ 400 := by omega
  have H1 := hide_ h1
  have H2 := hide_ h2
  have TD1 := hide_ t1
  have TD2 := hide_ t2
  clear h1 h2 t1 t2
  obtain ⟨W0, hW0⟩ : ∃ W0, w.alloc (.cells (madeCells #[.slice none 0 0] (n + 1)) 45) = W0 := ⟨_, rfl⟩
  have HR0 : Hid (Rws (w.alloc (.cells (madeCells #[.slice none 0 0] (n + 1)) 45)) w.heap.size w.heap.size (n + 1) (m + 1) (n + 1) (fun _ => 0) (fun p q => .int .i64 (partT (likeB l1 l2) n m n (m + 1) p q : Int)) ∧ Below w.heap.size w (w.alloc (.cells (madeCells #[.slice none 0 0] (n + 1)) 45))) := ⟨Rws.fresh _ _ _ _ _ _, (Below.refl _ w).alloc (Nat.le_refl _) _⟩
  rw [hW0] at HR0
  have hB1 : Below W0.heap.size W0 (W0.alloc (.cells (madeCells #[.int .i64 0] (m + 1)) 3)) := (Below.refl _ W0).alloc (Nat.le_refl _) _
  have N0 : (W0.alloc (.cells (madeCells #[.int .i64 0] (m + 1)) 3)).cell? ⟨w.heap.size, n, none⟩ = some (.slice none 0 0) := (HR0.out.1.below hB1).nil n (by omega) (by omega)
  have F0 : (W0.alloc (.cells (madeCells #[.int .i64 0] (m + 1)) 3)).frozen? ⟨w.heap.size, n, none⟩ = false := (HR0.out.1.below hB1).tfr n (by omega)
  have HM := hide_ (HR0.out.1.more HR0.out.2.size (by omega) (.int .i64 0) 3 (fun p q hq hp => by
    subst hp
    unfold partT
    rw [if_pos (.inl (Nat.le_refl _)), longP_row _ _ _ (Nat.le_refl _)]
    rfl) (fun j hj => made_at _ j hj))
  have HMB : Hid (Below w.heap.size w ((W0.alloc (.cells (madeCells #[.int .i64 0] (m + 1)) 3)).setCell ⟨w.heap.size, n, none⟩ (.slice (some ⟨W0.heap.size, 0, none⟩) (m + 1) (m + 1)))) := (HR0.out.2.alloc HR0.out.2.size _).setCell (p := ⟨w.heap.size, n, none⟩) (Nat.le_refl _) _
  clear hB1 HR0
  subst hW0
  simp only [World.size_alloc] at HM HMB
  have eW : (((w.alloc (.cells (madeCells #[.slice none 0 0] (n + 1)) 45)).alloc (.cells (madeCells #[.int .i64 0] (m + 1)) 3)).setCell ⟨w.heap.size, n, none⟩ (.slice (some ⟨w.heap.size + 1, 0, none⟩) (m + 1) (m + 1))) = (w.alloc (.cells ((madeCells #[.slice none 0 0] (n + 1)).setIfInBounds n (.slice (some ⟨w.heap.size + 1, 0, none⟩) (m + 1) (m + 1))) 45)).alloc (.cells (madeCells #[.int .i64 0] (m + 1)) 3) := by go_simp
  rw [eW] at HM HMB
  go_enter Try.func47, Try.ntmps47
  go_wp2
  clear hmk1 N0 F0 eW
  go_loopg [8] (n + 1) (fun gk u WT => ∃ (a : Nat) (rb : Nat → Nat), u = .int .i64 ((a : Int) - 1) ∧ a ≤ n ∧ a < gk ∧ Hid (Rws WT w.heap.size w.heap.size (n + 1) (m + 1) a rb (fun p q => .int .i64 (partT (likeB l1 l2) n m a (m + 1) p q : Int)) ∧ Below w.heap.size w WT))
  case atStart => exact ⟨n, _, rfl, Nat.le_refl _, by omega, HM.out, HMB.out⟩
  case round =>
    obtain ⟨a, rb, rfl, ha, hgk, HR⟩ := hrel
    clear HM HMB
    rcases Nat.eq_zero_or_pos a with ha0 | ha0
    · subst ha0
      have HF : Hid (IntG wr w.heap.size w.heap.size (n + 1) (m + 1) rb (longP (likeB l1 l2) n m) ∧ Below w.heap.size w wr) :=
        ⟨HR.out.1.grid.congr (fun p q _ _ => by unfold partT; rw [if_pos (.inl (Nat.zero_le _))]), HR.out.2⟩
      clear HR
      go_wp2
      go_ret
      exact ⟨_, _, rfl, HF.out.1, HF.out.2⟩
    · obtain ⟨i, rfl⟩ : ∃ i, a = i + 1 := ⟨a - 1, by omega⟩
      have e1 : ((i + 1 : Nat) : Int) - 1 = (i : Int) := by omega
      rw [e1]
      have hi0 : (0 : Int) ≤ (i : Int) := by omega
      have hii : (i : Int) < (n : Int) + 1 := by omega
      have hB1 : Below wr.heap.size wr (wr.alloc (.cells (madeCells #[.int .i64 0] (m + 1)) 3)) := (Below.refl _ wr).alloc (Nat.le_refl _) _
      have N0 : (wr.alloc (.cells (madeCells #[.int .i64 0] (m + 1)) 3)).cell? ⟨w.heap.size, i, none⟩ = some (.slice none 0 0) := (HR.out.1.below hB1).nil i (by omega) (by omega)
      have F0 : (wr.alloc (.cells (madeCells #[.int .i64 0] (m + 1)) 3)).frozen? ⟨w.heap.size, i, none⟩ = false := (HR.out.1.below hB1).tfr i (by omega)
      obtain ⟨rb', HM⟩ : ∃ rb', Hid (Rws ((wr.alloc (.cells (madeCells #[.int .i64 0] (m + 1)) 3)).setCell ⟨w.heap.size, i, none⟩ (.slice (some ⟨wr.heap.size, 0, none⟩) (m + 1) (m + 1))) w.heap.size w.heap.size (n + 1) (m + 1) i rb' (fun p q => .int .i64 (partT (likeB l1 l2) n m (i + 1) m p q : Int)) ∧
          Below w.heap.size w ((wr.alloc (.cells (madeCells #[.int .i64 0] (m + 1)) 3)).setCell ⟨w.heap.size, i, none⟩ (.slice (some ⟨wr.heap.size, 0, none⟩) (m + 1) (m + 1)))) := by
        have h1 := HR.out.1.congr (f' := fun p q => .int .i64 (partT (likeB l1 l2) n m (i + 1) m p q : Int)) (fun p q hp1 hp2 hq => by
          have : partT (likeB l1 l2) n m (i + 1) (m + 1) p q = partT (likeB l1 l2) n m (i + 1) m p q := by
            unfold partT
            rw [if_pos (.inl hp1), if_pos (.inl hp1)]
          rw [this])
        exact ⟨_, h1.more HR.out.2.size (by omega) (.int .i64 0) 3 (fun p q hq hp => by
          subst hp
          have : partT (likeB l1 l2) n m (p + 1) m p q = 0 := by
            unfold partT
            by_cases e : m ≤ q
            · rw [if_pos (.inr ⟨rfl, e⟩), longP_col _ _ _ _ e]
            · rw [if_neg (by omega)]
          rw [this]
          rfl) (fun j hj => made_at _ j hj), (HR.out.2.alloc HR.out.2.size _).setCell (p := ⟨w.heap.size, i, none⟩) (Nat.le_refl _) _⟩
      clear HR hB1
      go_wp2
      clear N0 F0 hmk2
      go_loopg [9] (m + 1) (fun gk3 u3 WQ => ∃ b : Nat, u3 = .int .i64 ((b : Int) - 1) ∧ b ≤ m ∧ b < gk3 ∧ Hid (Rws WQ w.heap.size w.heap.size (n + 1) (m + 1) i rb' (fun p q => .int .i64 (partT (likeB l1 l2) n m (i + 1) b p q : Int)) ∧ Below w.heap.size w WQ))
      case atStart => exact ⟨m, rfl, Nat.le_refl _, by omega, HM.out⟩
      case round =>
        obtain ⟨b, rfl, hb, hgk3, HR⟩ := hrel
        clear HM
        rcases Nat.eq_zero_or_pos b with hb0 | hb0
        · subst hb0
          have HF : Hid (Rws wr w.heap.size w.heap.size (n + 1) (m + 1) i rb' (fun p q => .int .i64 (partT (likeB l1 l2) n m i (m + 1) p q : Int)) ∧ Below w.heap.size w wr) :=
            ⟨HR.out.1.congr (fun p q hp1 hp2 hq => by
              have : partT (likeB l1 l2) n m (i + 1) 0 p q = partT (likeB l1 l2) n m i (m + 1) p q := by
                unfold partT
                rw [if_pos (by omega), if_pos (.inl hp1)]
              rw [this]), HR.out.2⟩
          clear HR
          go_wp2
          go_roundg (i + 1)
          case measure => omega
          case rel => exact ⟨i, rb', by first | rfl | go_num, by omega, by omega, HF.out⟩
        · obtain ⟨j, rfl⟩ : ∃ j, b = j + 1 := ⟨b - 1, by omega⟩
          have e2 : ((j + 1 : Nat) : Int) - 1 = (j : Int) := by omega
          rw [e2]
          have hj0 : (0 : Int) ≤ (j : Int) := by omega
          have hin : i < n := by omega
          have hjm : j < m := by omega
          have hinI : (i : Int) < (n : Int) := by omega
          have hin2 : (i : Int) + 1 < (n : Int) + 1 := by omega
          have hjmI : (j : Int) < (m : Int) := by omega
          have hjm1 : (j : Int) < (m : Int) + 1 := by omega
          have hjm2 : (j : Int) + 1 < (m : Int) + 1 := by omega
          have T0 := HR.out.1.top i (Nat.le_refl _) (by omega)
          have T1 := HR.out.1.top (i + 1) (by omega) (by omega)
          have X := HR.out.1.row (i + 1) j (by omega) (by omega) (by omega)
          have Y := HR.out.1.row i (j + 1) (Nat.le_refl _) (by omega) (by omega)
          have Z := HR.out.1.row i j (Nat.le_refl _) (by omega) (by omega)
          have FR := HR.out.1.fro i j (Nat.le_refl _) (by omega)
          have hx : partT (likeB l1 l2) n m (i + 1) (j + 1) (i + 1) j = longP (likeB l1 l2) n m (i + 1) j := by unfold partT; rw [if_pos (.inl (Nat.le_refl _))]
          have hy : partT (likeB l1 l2) n m (i + 1) (j + 1) i (j + 1) = longP (likeB l1 l2) n m i (j + 1) := by unfold partT; rw [if_pos (.inr ⟨rfl, Nat.le_refl _⟩)]
          have hz : partT (likeB l1 l2) n m (i + 1) (j + 1) i j = 0 := by unfold partT; rw [if_neg (by omega)]
          try simp only at X Y Z
          rw [hx] at X
          rw [hy] at Y
          rw [hz] at Z
          have bx := longP_le (likeB l1 l2) n m (i + 1) j
          have by_ := longP_le (likeB l1 l2) n m i (j + 1)
          have HRR := hide_ HR.out
          clear hx hy hz HR
          go_wp2
          go_region
          have hmx : (if longP (likeB l1 l2) n m (i + 1) j < longP (likeB l1 l2) n m i (j + 1) then (longP (likeB l1 l2) n m i (j + 1) : Int) else (longP (likeB l1 l2) n m (i + 1) j : Int)) = ((max (longP (likeB l1 l2) n m (i + 1) j) (longP (likeB l1 l2) n m i (j + 1)) : Nat) : Int) := by split <;> omega
          rw [hmx]
          obtain ⟨V1, hV1⟩ : ∃ V1, V1 = (wr.setCell ⟨rb' i, j, none⟩ (.int .i64 ((max (longP (likeB l1 l2) n m (i + 1) j) (longP (likeB l1 l2) n m i (j + 1)) : Nat) : Int))).drew := ⟨_, rfl⟩
          rw [← hV1]
          have HB1 : Hid (Rws V1 w.heap.size w.heap.size (n + 1) (m + 1) i rb' (fun p q => if p = i ∧ q = j then .int .i64 ((max (longP (likeB l1 l2) n m (i + 1) j) (longP (likeB l1 l2) n m i (j + 1)) : Nat) : Int) else .int .i64 (partT (likeB l1 l2) n m (i + 1) (j + 1) p q : Int)) ∧ Below w.heap.size w V1) := by
            have h1 := HRR.out.1.set i j (Nat.le_refl _) (by omega) (by omega) (.int .i64 ((max (longP (likeB l1 l2) n m (i + 1) j) (longP (likeB l1 l2) n m i (j + 1)) : Nat) : Int))
            have h2 := HRR.out.2.setCell (p := ⟨rb' i, j, none⟩) (HRR.out.1.rge i (Nat.le_refl _) (by omega)) (.int .i64 ((max (longP (likeB l1 l2) n m (i + 1) j) (longP (likeB l1 l2) n m i (j + 1)) : Nat) : Int))
            rw [hV1]
            exact ⟨h1.drew, h2.drew⟩
          clear hV1 HRR T0 T1 X Y Z FR hmx bx by_
          obtain ⟨bo, x, rfl, hbl, hx, hc⟩ := H1.out.at hin
          obtain ⟨bo2, y, rfl, hbl2, hy, hc2⟩ := H2.out.at hjm
          have hlk0 : likeB l1 l2 i j = eqL (blkAt l1 x) (blkAt l2 y) := by unfold likeB; rw [hx, hy]
          have HPE := fun W (hW : Below w.heap.size w W) => peqB_calls a1 a2 n1 n2 c1 c2 l1 l2 x y W (TD1.out.below hW) (TD2.out.below hW) (tops_in TD1.out.2.1 hx) (tops_in TD2.out.2.1 hy)
          have HCC : Hid (∀ X, Below w.heap.size w X → (X.cell? ⟨bo, i * 2, none⟩ = some (.int .i64 (x : Int)) ∧ X.cell? ⟨bo, i * 2 + 1, none⟩ = some (.slice (partA a1 c1 x) (endE l1 x - x) (c1 - x))) ∧ (X.cell? ⟨bo2, j * 2, none⟩ = some (.int .i64 (y : Int)) ∧ X.cell? ⟨bo2, j * 2 + 1, none⟩ = some (.slice (partA a2 c2 y) (endE l2 y - y) (c2 - y)))) := fun X hX => ⟨hc X hX, hc2 X hX⟩
          rw [← hlk0] at HPE
          clear hc hc2 hx hy hlk0
          cases hlk : (likeB l1 l2) i j with
          | true =>
              rw [hlk] at HPE
              go_wp2_with fail
              refine wp_region_held_drew (S := fun X => Below V1.heap.size V1 X) hmx (Below.refl _ V1).drew (fun hS => ?_)
              refine takeD 0 (some 66) (v := ?_) rfl rfl (by kernel_rfl) (by kernel_rfl) (by kernel_rfl) (fun _ _ _ h => h) (Or.inl ⟨by rfl, ?_⟩) hS ?_
              rotate_left
              · intro w hSw
                try go_simp
                with_reducible rfl
              try simp only [Act.put, List.setIfInBounds_toArray, List.set_cons_zero, List.set_cons_succ]
              refine takeD 1 (some 67) (v := ?_) rfl rfl (by kernel_rfl) (by kernel_rfl) (by kernel_rfl) (fun _ _ _ h => h) (Or.inl ⟨by rfl, ?_⟩) hS ?_
              rotate_left
              · intro w hSw
                try go_simp
                with_reducible rfl
              try simp only [Act.put, List.setIfInBounds_toArray, List.set_cons_zero, List.set_cons_succ]
              refine takeD 2 (some 68) (v := ?_) rfl rfl (by kernel_rfl) (by kernel_rfl) (by kernel_rfl) (fun _ _ _ h => h) (Or.inl ⟨by rfl, ?_⟩) hS ?_
              rotate_left
              · intro w hSw
                try go_simp
                with_reducible rfl
              try simp only [Act.put, List.setIfInBounds_toArray, List.set_cons_zero, List.set_cons_succ]
              refine takeD 3 (some 69) (v := ?_) rfl rfl (by kernel_rfl) (by kernel_rfl) (by kernel_rfl) (fun _ _ _ h => h) (Or.inl ⟨by rfl, ?_⟩) hS ?_
              rotate_left
              · intro w hSw
                go_simp
                with_reducible rfl
              try simp only [Act.put, List.setIfInBounds_toArray, List.set_cons_zero, List.set_cons_succ]
              refine takeD 4 (some 70) (v := ?_) rfl rfl (by kernel_rfl) (by kernel_rfl) (by kernel_rfl) (fun _ _ _ h => h) (Or.inl ⟨by rfl, ?_⟩) hS ?_
              rotate_left
              · intro w hSw
                obtain ⟨⟨x0, x1⟩, ⟨y0, y1⟩⟩ := HCC.out _ (HB1.out.2.trans (hSw.mono HB1.out.2.size))
                go_simp
                with_reducible rfl
              try simp only [Act.put, List.setIfInBounds_toArray, List.set_cons_zero, List.set_cons_succ]
              refine takeD 5 (some 71) (v := ?_) rfl rfl (by kernel_rfl) (by kernel_rfl) (by kernel_rfl) (fun _ _ _ h => h) (Or.inl ⟨by rfl, ?_⟩) hS ?_
              rotate_left
              · intro w hSw
                try go_simp
                with_reducible rfl
              try simp only [Act.put, List.setIfInBounds_toArray, List.set_cons_zero, List.set_cons_succ]
              refine takeD 6 (some 72) (v := ?_) rfl rfl (by kernel_rfl) (by kernel_rfl) (by kernel_rfl) (fun _ _ _ h => h) (Or.inl ⟨by rfl, ?_⟩) hS ?_
              rotate_left
              · intro w hSw
                try go_simp
                with_reducible rfl
              try simp only [Act.put, List.setIfInBounds_toArray, List.set_cons_zero, List.set_cons_succ]
              refine takeD 7 (some 73) (v := ?_) rfl rfl (by kernel_rfl) (by kernel_rfl) (by kernel_rfl) (fun _ _ _ h => h) (Or.inl ⟨by rfl, ?_⟩) hS ?_
              rotate_left
              · intro w hSw
                go_simp
                with_reducible rfl
              try simp only [Act.put, List.setIfInBounds_toArray, List.set_cons_zero, List.set_cons_succ]
              refine takeD 8 (some 74) (v := ?_) rfl rfl (by kernel_rfl) (by kernel_rfl) (by kernel_rfl) (fun _ _ _ h => h) (Or.inl ⟨by rfl, ?_⟩) hS ?_
              rotate_left
              · intro w hSw
                obtain ⟨⟨x0, x1⟩, ⟨y0, y1⟩⟩ := HCC.out _ (HB1.out.2.trans (hSw.mono HB1.out.2.size))
                go_simp
                with_reducible rfl
              try simp only [Act.put, List.setIfInBounds_toArray, List.set_cons_zero, List.set_cons_succ]
              refine callD 9 (by kernel_rfl) rfl (fun K hK => ?_)
              rw [if_pos (by rfl)]
              go_simp
              refine (HPE _ (HB1.out.2.trans (hS.mono HB1.out.2.size))).mono ?_
              rintro e Y ⟨rfl, bY⟩
              have hY := hS.trans (bY.mono hS.size)
              clear bY
              refine hK.out _ _ hY (fun _ => ?_)
              clear hK K
              try simp only [Act.put, List.setIfInBounds_toArray, List.set_cons_zero, List.set_cons_succ]
              refine wpAnyH_done (by kernel_rfl) ?_ _
              have HB2 : Hid (Rws Y w.heap.size w.heap.size (n + 1) (m + 1) i rb' _ ∧ Below w.heap.size w Y) := ⟨HB1.out.1.below hY, HB1.out.2.trans (hY.mono HB1.out.2.size)⟩
              clear hY hS HB1 HPE HCC
              have T0 := HB2.out.1.top i (Nat.le_refl _) (by omega)
              have T1 := HB2.out.1.top (i + 1) (by omega) (by omega)
              have Z := HB2.out.1.row i j (Nat.le_refl _) (by omega) (by omega)
              have Q := HB2.out.1.row (i + 1) (j + 1) (by omega) (by omega) (by omega)
              have FR := HB2.out.1.fro i j (Nat.le_refl _) (by omega)
              try simp only at Z Q
              rw [if_pos ⟨trivial, trivial⟩] at Z
              rw [if_neg (by omega), show partT (likeB l1 l2) n m (i + 1) (j + 1) (i + 1) (j + 1) = longP (likeB l1 l2) n m (i + 1) (j + 1) from by unfold partT; rw [if_pos (.inl (Nat.le_refl _))]] at Q
              have hhit := longP_hit (n := n) (m := m) (by omega) (by omega) hlk
              have bq := longP_le (likeB l1 l2) n m (i + 1) (j + 1)
              have HHIT := hide_ hhit
              clear hhit hlk
              go_wp2
              go_region
              obtain ⟨V2, hV2⟩ : ∃ V2, V2 = (Y.setCell ⟨rb' i, j, none⟩ (.int .i64 (1 + (longP (likeB l1 l2) n m (i + 1) (j + 1) : Int)))).drew := ⟨_, rfl⟩
              rw [← hV2]
              have HN : Hid (Rws V2 w.heap.size w.heap.size (n + 1) (m + 1) i rb' (fun p q => .int .i64 (partT (likeB l1 l2) n m (i + 1) j p q : Int)) ∧ Below w.heap.size w V2) := by
                have h1 := HB2.out.1.set i j (Nat.le_refl _) (by omega) (by omega) (.int .i64 (1 + (longP (likeB l1 l2) n m (i + 1) (j + 1) : Int)))
                have h2 := HB2.out.2.setCell (p := ⟨rb' i, j, none⟩) (HB2.out.1.rge i (Nat.le_refl _) (by omega)) (.int .i64 (1 + (longP (likeB l1 l2) n m (i + 1) (j + 1) : Int)))
                rw [hV2]
                refine ⟨h1.drew.congr (fun p q hp1 hp2 hp3 => ?_), h2.drew⟩
                try dsimp only
                by_cases e : p = i ∧ q = j
                · rw [if_pos e]
                  obtain ⟨rfl, rfl⟩ := e
                  have : partT (likeB l1 l2) n m (p + 1) q p q = 1 + longP (likeB l1 l2) n m (p + 1) (q + 1) := by
                    unfold partT
                    rw [if_pos (.inr ⟨rfl, Nat.le_refl _⟩), HHIT.out]
                  rw [this]
                  simp
                · rw [if_neg e, if_neg e]
                  have : partT (likeB l1 l2) n m (i + 1) (j + 1) p q = partT (likeB l1 l2) n m (i + 1) j p q := by
                    unfold partT
                    by_cases h1 : i + 1 ≤ p ∨ (p + 1 = i + 1 ∧ j + 1 ≤ q)
                    · rw [if_pos h1, if_pos (by omega)]
                    · rw [if_neg h1, if_neg (by omega)]
                  rw [this]
              clear hV2 HB2 HHIT T0 T1 Z Q FR
              go_wp2
              go_roundg (j + 1)
              case measure => omega
              case rel => exact ⟨j, by first | rfl | go_num, by omega, by omega, HN⟩
          | false =>
              rw [hlk] at HPE
              go_wp2_with fail
              refine wp_region_held_drew (S := fun X => Below V1.heap.size V1 X) hmx (Below.refl _ V1).drew (fun hS => ?_)
              refine takeD 0 (some 66) (v := ?_) rfl rfl (by kernel_rfl) (by kernel_rfl) (by kernel_rfl) (fun _ _ _ h => h) (Or.inl ⟨by rfl, ?_⟩) hS ?_
              rotate_left
              · intro w hSw
                try go_simp
                with_reducible rfl
              try simp only [Act.put, List.setIfInBounds_toArray, List.set_cons_zero, List.set_cons_succ]
              refine takeD 1 (some 67) (v := ?_) rfl rfl (by kernel_rfl) (by kernel_rfl) (by kernel_rfl) (fun _ _ _ h => h) (Or.inl ⟨by rfl, ?_⟩) hS ?_
              rotate_left
              · intro w hSw
                try go_simp
                with_reducible rfl
              try simp only [Act.put, List.setIfInBounds_toArray, List.set_cons_zero, List.set_cons_succ]
              refine takeD 2 (some 68) (v := ?_) rfl rfl (by kernel_rfl) (by kernel_rfl) (by kernel_rfl) (fun _ _ _ h => h) (Or.inl ⟨by rfl, ?_⟩) hS ?_
              rotate_left
              · intro w hSw
                try go_simp
                with_reducible rfl
              try simp only [Act.put, List.setIfInBounds_toArray, List.set_cons_zero, List.set_cons_succ]
              refine takeD 3 (some 69) (v := ?_) rfl rfl (by kernel_rfl) (by kernel_rfl) (by kernel_rfl) (fun _ _ _ h => h) (Or.inl ⟨by rfl, ?_⟩) hS ?_
              rotate_left
              · intro w hSw
                go_simp
                with_reducible rfl
              try simp only [Act.put, List.setIfInBounds_toArray, List.set_cons_zero, List.set_cons_succ]
              refine takeD 4 (some 70) (v := ?_) rfl rfl (by kernel_rfl) (by kernel_rfl) (by kernel_rfl) (fun _ _ _ h => h) (Or.inl ⟨by rfl, ?_⟩) hS ?_
              rotate_left
              · intro w hSw
                obtain ⟨⟨x0, x1⟩, ⟨y0, y1⟩⟩ := HCC.out _ (HB1.out.2.trans (hSw.mono HB1.out.2.size))
                go_simp
                with_reducible rfl
              try simp only [Act.put, List.setIfInBounds_toArray, List.set_cons_zero, List.set_cons_succ]
              refine takeD 5 (some 71) (v := ?_) rfl rfl (by kernel_rfl) (by kernel_rfl) (by kernel_rfl) (fun _ _ _ h => h) (Or.inl ⟨by rfl, ?_⟩) hS ?_
              rotate_left
              · intro w hSw
                try go_simp
                with_reducible rfl
              try simp only [Act.put, List.setIfInBounds_toArray, List.set_cons_zero, List.set_cons_succ]
              refine takeD 6 (some 72) (v := ?_) rfl rfl (by kernel_rfl) (by kernel_rfl) (by kernel_rfl) (fun _ _ _ h => h) (Or.inl ⟨by rfl, ?_⟩) hS ?_
              rotate_left
              · intro w hSw
                try go_simp
                with_reducible rfl
              try simp only [Act.put, List.setIfInBounds_toArray, List.set_cons_zero, List.set_cons_succ]
              refine takeD 7 (some 73) (v := ?_) rfl rfl (by kernel_rfl) (by kernel_rfl) (by kernel_rfl) (fun _ _ _ h => h) (Or.inl ⟨by rfl, ?_⟩) hS ?_
              rotate_left
              · intro w hSw
                go_simp
                with_reducible rfl
              try simp only [Act.put, List.setIfInBounds_toArray, List.set_cons_zero, List.set_cons_succ]
              refine takeD 8 (some 74) (v := ?_) rfl rfl (by kernel_rfl) (by kernel_rfl) (by kernel_rfl) (fun _ _ _ h => h) (Or.inl ⟨by rfl, ?_⟩) hS ?_
              rotate_left
              · intro w hSw
                obtain ⟨⟨x0, x1⟩, ⟨y0, y1⟩⟩ := HCC.out _ (HB1.out.2.trans (hSw.mono HB1.out.2.size))
                go_simp
                with_reducible rfl
              try simp only [Act.put, List.setIfInBounds_toArray, List.set_cons_zero, List.set_cons_succ]
              refine callD 9 (by kernel_rfl) rfl (fun K hK => ?_)
              rw [if_pos (by rfl)]
              go_simp
              refine (HPE _ (HB1.out.2.trans (hS.mono HB1.out.2.size))).mono ?_
              rintro e Y ⟨rfl, bY⟩
              have hY := hS.trans (bY.mono hS.size)
              clear bY
              refine hK.out _ _ hY (fun _ => ?_)
              clear hK K
              try simp only [Act.put, List.setIfInBounds_toArray, List.set_cons_zero, List.set_cons_succ]
              refine wpAnyH_done (by kernel_rfl) ?_ _
              have HN : Hid (Rws Y w.heap.size w.heap.size (n + 1) (m + 1) i rb' (fun p q => .int .i64 (partT (likeB l1 l2) n m (i + 1) j p q : Int)) ∧ Below w.heap.size w Y) := by
                refine ⟨(HB1.out.1.below hY).congr (fun p q hp1 hp2 hp3 => ?_), HB1.out.2.trans (hY.mono HB1.out.2.size)⟩
                try dsimp only
                have hmiss := longP_miss (n := n) (m := m) (by omega) (by omega) hlk
                by_cases e : p = i ∧ q = j
                · rw [if_pos e]
                  obtain ⟨rfl, rfl⟩ := e
                  have : partT (likeB l1 l2) n m (p + 1) q p q = max (longP (likeB l1 l2) n m (p + 1) q) (longP (likeB l1 l2) n m p (q + 1)) := by
                    unfold partT
                    rw [if_pos (.inr ⟨rfl, Nat.le_refl _⟩), hmiss]
                  rw [this]
                · rw [if_neg e]
                  have : partT (likeB l1 l2) n m (i + 1) (j + 1) p q = partT (likeB l1 l2) n m (i + 1) j p q := by
                    unfold partT
                    by_cases h1 : i + 1 ≤ p ∨ (p + 1 = i + 1 ∧ j + 1 ≤ q)
                    · rw [if_pos h1, if_pos (by omega)]
                    · rw [if_neg h1, if_neg (by omega)]
                  rw [this]
              clear hY hS HB1 HPE HCC hlk
              go_wp2
              go_roundg (j + 1)
              case measure => omega
              case rel => exact ⟨j, by first | rfl | go_num, by omega, by omega, HN⟩
end Go.Proofs.Ytgpopploimeeaaa
