/-
  PROVED HERE: the statement PosRows: any place through any maps, one behind the other, with any mirrors, comes where the document says; no condition.
-/
import Derived.Test.YtiadcpbaopafgaaPrs
import Derived.Test.YtiadcpbaopafgaaAddP
import Derived.Test.YtiadcpbaopafgaaMMap
import Derived.Test.YtiadcpbaopafgaaFitR
namespace Go.Proofs.Ytiadcpbaopafgaa.posRows
open Go.ChangeShapes Go.WideShapes Go.ChangeAt Go.RowKit

set_option maxRecDepth 100000 in
set_option maxHeartbeats 4000000 in
theorem walk (a : Option Addr) (len cap : Nat) (xs : List Rw) (am : Option Addr) (lm cm : Nat) (ys : List (Int × Int)) (from' p side : Int) (w : World) (hx : Rws w a len xs) (_hlen : len ≤ 9223372036854775807) (hy : Prs w am lm ys) (_hlm : lm ≤ 9223372036854775807) :
    Calls Try.prog 5 #[.slice a len cap, .slice am lm cm, .int .i64 from', .int .i64 p, .int .i64 side] w fun e w' => e = .returned (.bool true) ∧ Below w.heap.size w w' := by
  have HX : Hid (∀ k, k < len → ∃ b o x, a = some ⟨b, o, none⟩ ∧ b < w.heap.size ∧ xs[k]? = some x ∧ ∀ X, Below w.heap.size w X → X.cell? ⟨b, o + k, none⟩ = some (.slice x.a x.len x.cap) ∧ RwOk X x) := fun k hk => hx.at_ hk
  have HY : Hid (∀ k, k < lm → ∃ b o, ∃ x y : Int, am = some ⟨b, o, none⟩ ∧ b < w.heap.size ∧ ∀ X, Below w.heap.size w X → X.cell? ⟨b, o + k * 2, none⟩ = some (.int .i64 x) ∧ X.cell? ⟨b, o + k * 2 + 1, none⟩ = some (.int .i64 y)) := fun k hk => hy.at_ hk
  have cn := new_calls w w.heap.size (Nat.le_refl _)
  clear hx hy
  go_enter Try.func5, Try.ntmps5
  go_wp2_with fail
  refine cn.mono ?_
  rintro e W1 ⟨rfl, hM0, hW1⟩
  have hB1 : Below w.heap.size w W1 := by rw [hW1]; exact (Below.refl _ _).alloc (Nat.le_refl _) _
  have HST : Hid (MapP (W1.alloc (.cells #[.slice none 0 0] 49)) w.heap.size w.heap.size [] ∧ MapR (W1.alloc (.cells #[.slice none 0 0] 49)) w.heap.size W1.heap.size []) := ⟨hM0.below ((Below.refl _ _).alloc (Nat.le_refl _) _) hB1.size, .slice none 0 0, World.alloc_heap_new W1 _, hB1.size, ⟨rfl, .inl ⟨rfl, rfl⟩⟩, by simp⟩
  have hB2 : ∀ ob, Below w.heap.size w (W1.alloc ob) := fun ob => hB1.alloc hB1.size _
  clear hM0 hW1 cn
  go_wp2_with fail
  go_loopw [13] (fun i w' => ∃ (k : Nat) (MP MR : List Lk), i = .int .i64 (k : Int) ∧ k ≤ 50 ∧ MP.length ≤ k ∧ (∀ x ∈ MP, x.m = -1) ∧ like MP MR ∧ MapP w' w.heap.size w.heap.size MP ∧ MapR w' w.heap.size W1.heap.size MR ∧ Below w.heap.size w w') (fun i _ => 50 - (intOf i).toNat)
  case atStart => exact ⟨0, [], [], rfl, by omega, by simp, by simp, rfl, HST.out.1, HST.out.2, hB2 _⟩
  case round =>
    clear HST
    obtain ⟨k, MP, MR, rfl, hk50, hMl, hMm, hlike, hMP, hMR, hB⟩ := hrel
    have HMP := Hid.mk_ hMP
    have HMR := Hid.mk_ hMR
    have hll := hlike.len
    clear hMP hMR
    by_cases hlt : k < len
    · by_cases hlt50 : k < 50
      · obtain ⟨b, o, x, rfl, hbl, _, hc⟩ := HX.out k hlt
        have HC : Hid (∀ X, Below w.heap.size w X → X.cell? ⟨b, o + k, none⟩ = some (.slice x.a x.len x.cap)) := fun X hX => (hc X hX).1
        have hold : x.len = 0 ∨ ∃ b o, x.a = some ⟨b, o, none⟩ ∧ b < w.heap.size := (hc w (Below.refl _ _)).2.1.2.imp id (fun ⟨b, o, e1, e2, _⟩ => ⟨b, o, e1, e2⟩)
        have HADD : Hid (∀ Xd, MapP Xd w.heap.size w.heap.size MP ∧ MapR Xd w.heap.size (W1.heap.size) MR → Below w.heap.size w Xd → Calls Try.prog 20 #[.pointer (some ⟨w.heap.size, 0, none⟩), .slice x.a x.len x.cap] Xd fun e Y => ∃ c : Int, e = .returned (.int .i64 c) ∧ Below w.heap.size Xd Y ∧ Hid (Calls Try.prog 21 #[.pointer (some ⟨W1.heap.size, 0, none⟩), .slice x.a x.len x.cap] Y fun e Z => e = .returned (.int .i64 c) ∧ Below w.heap.size Y Z ∧ Hid (∃ MP' MR', MP'.length ≤ k + 1 ∧ (∀ x ∈ MP', x.m = -1) ∧ like MP' MR' ∧ MapP Z w.heap.size w.heap.size MP' ∧ MapR Z w.heap.size (W1.heap.size) MR'))) := fun Xd hM hXd => by
          have hok := (hc Xd hXd).2
          refine (add_calls w.heap.size w.heap.size MP x.a x.len x.cap x.l Xd hM.1 hok.1 hok.2.1 hok.2.2.1 (Nat.le_trans hok.2.2.1 hok.2.2.2) (by omega) hXd.size).mono ?_
          rintro e Y (⟨hr, rfl, hY⟩ | ⟨hr, rfl, a1, c1, hMY, hKY⟩)
          · refine ⟨4, rfl, hY.mono hXd.size, ?_⟩
            have hXY : Below w.heap.size w Y := hXd.trans (hY.mono hXd.size)
            have hokY := (hc Y hXY).2
            have hPY : MapP Y w.heap.size w.heap.size MP := hM.1.below hY hXd.size
            have hRY : MapR Y w.heap.size (W1.heap.size) MR := hM.2.below hY hXd.size
            refine Hid.mk_ ((refadd_calls w.heap.size (W1.heap.size) MR x.a x.len x.cap x.l Y hRY hokY.1 (Nat.le_trans hokY.2.2.1 hokY.2.2.2) hold (by omega) hXY.size).mono ?_)
            rintro e Z (⟨_, rfl, hZ⟩ | ⟨hr', _⟩)
            · exact ⟨rfl, hZ.mono hXY.size, MP, MR, by omega, hMm, hlike, hPY.below hZ hXY.size, hRY.below hZ hXY.size⟩
            · rw [hr] at hr'; cases hr'
          · refine ⟨0, rfl, hKY.1, ?_⟩
            have hXY : Below w.heap.size w Y := hXd.trans hKY.1
            have hokY := (hc Y hXY).2
            have hRY : MapR Y w.heap.size (W1.heap.size) MR := MapIn.keep hM.2 hKY (by decide) (by decide) (by decide) (by decide) (by decide) (by decide)
            refine Hid.mk_ ((refadd_calls w.heap.size (W1.heap.size) MR x.a x.len x.cap x.l Y hRY hokY.1 (Nat.le_trans hokY.2.2.1 hokY.2.2.2) hold (by omega) hXY.size).mono ?_)
            rintro e Z (⟨hr', _⟩ | ⟨_, rfl, hMZ, hKZ⟩)
            · rw [hr] at hr'; cases hr'
            · have hPZ : MapP Z w.heap.size w.heap.size (MP ++ [⟨a1, x.len, c1, x.l, -1⟩]) := MapIn.keep hMY hKZ (by decide) (by decide) (by decide) (by decide) (by decide) (by decide)
              refine ⟨rfl, hKZ.1, MP ++ [⟨a1, x.len, c1, x.l, -1⟩], MR ++ [⟨x.a, x.len, x.cap, x.l, -1⟩], by simp; omega, fun y hy => ?_, hlike.snoc _ _ rfl rfl, hPZ, hMZ⟩
              rcases List.mem_append.1 hy with h | h
              · exact hMm y h
              · obtain rfl : y = ⟨a1, x.len, c1, x.l, -1⟩ := by simpa using h
                rfl
        have hMd : MapP wr.drew w.heap.size w.heap.size MP ∧ MapR wr.drew w.heap.size (W1.heap.size) MR := ⟨HMP.out.below (Below.refl _ _).drew hB.size, HMR.out.below (Below.refl _ _).drew hB.size⟩
        clear hc hMm HMP HMR
        obtain ⟨xa, xl, xc, xll⟩ := x
        simp only at *
        go_wp2_with fail
        refine wp_region_held_drew (S := fun X => Below w.heap.size w X) mixed hB.drew (fun hS => ?_)
        generalize wr.drew = Xd at *
        refine takeD 0 (some 34) (v := ?_) rfl rfl (by kernel_rfl) (by kernel_rfl) (by kernel_rfl) (fun _ _ _ h => h) (Or.inl ⟨by rfl, ?_⟩) hS ?_
        rotate_left
        · intro w hSw
          try go_simp
          with_reducible rfl
        try simp only [Act.put, List.setIfInBounds_toArray, List.set_cons_zero, List.set_cons_succ]
        refine takeD 1 (some 35) (v := ?_) rfl rfl (by kernel_rfl) (by kernel_rfl) (by kernel_rfl) (fun _ _ _ h => h) (Or.inl ⟨by rfl, ?_⟩) hS ?_
        rotate_left
        · intro w hSw
          try go_simp
          with_reducible rfl
        try simp only [Act.put, List.setIfInBounds_toArray, List.set_cons_zero, List.set_cons_succ]
        refine takeD 2 (some 36) (v := ?_) rfl rfl (by kernel_rfl) (by kernel_rfl) (by kernel_rfl) (fun _ _ _ h => h) (Or.inl ⟨by rfl, ?_⟩) hS ?_
        rotate_left
        · intro w hSw
          try go_simp
          with_reducible rfl
        try simp only [Act.put, List.setIfInBounds_toArray, List.set_cons_zero, List.set_cons_succ]
        refine takeD 3 (some 37) (v := ?_) rfl rfl (by kernel_rfl) (by kernel_rfl) (by kernel_rfl) (fun _ _ _ h => h) (Or.inl ⟨by rfl, ?_⟩) hS ?_
        rotate_left
        · intro w hSw
          go_simp
          with_reducible rfl
        try simp only [Act.put, List.setIfInBounds_toArray, List.set_cons_zero, List.set_cons_succ]
        refine takeD 4 (some 38) (v := ?_) rfl rfl (by kernel_rfl) (by kernel_rfl) (by kernel_rfl) (fun _ _ _ h => h) (Or.inl ⟨by rfl, ?_⟩) hS ?_
        rotate_left
        · intro w hSw
          have c0 := HC.out _ hSw
          go_simp
          with_reducible rfl
        try simp only [Act.put, List.setIfInBounds_toArray, List.set_cons_zero, List.set_cons_succ]
        refine takeD 6 (some 40) (v := ?_) rfl rfl (by kernel_rfl) (by kernel_rfl) (by kernel_rfl) (fun _ _ _ h => h) (Or.inl ⟨by rfl, ?_⟩) hS ?_
        rotate_left
        · intro w hSw
          try go_simp
          with_reducible rfl
        try simp only [Act.put, List.setIfInBounds_toArray, List.set_cons_zero, List.set_cons_succ]
        refine takeD 7 (some 41) (v := ?_) rfl rfl (by kernel_rfl) (by kernel_rfl) (by kernel_rfl) (fun _ _ _ h => h) (Or.inl ⟨by rfl, ?_⟩) hS ?_
        rotate_left
        · intro w hSw
          try go_simp
          with_reducible rfl
        try simp only [Act.put, List.setIfInBounds_toArray, List.set_cons_zero, List.set_cons_succ]
        refine takeD 8 (some 42) (v := ?_) rfl rfl (by kernel_rfl) (by kernel_rfl) (by kernel_rfl) (fun _ _ _ h => h) (Or.inl ⟨by rfl, ?_⟩) hS ?_
        rotate_left
        · intro w hSw
          try go_simp
          with_reducible rfl
        try simp only [Act.put, List.setIfInBounds_toArray, List.set_cons_zero, List.set_cons_succ]
        refine takeD 9 (some 43) (v := ?_) rfl rfl (by kernel_rfl) (by kernel_rfl) (by kernel_rfl) (fun _ _ _ h => h) (Or.inl ⟨by rfl, ?_⟩) hS ?_
        rotate_left
        · intro w hSw
          go_simp
          with_reducible rfl
        try simp only [Act.put, List.setIfInBounds_toArray, List.set_cons_zero, List.set_cons_succ]
        refine takeD 10 (some 44) (v := ?_) rfl rfl (by kernel_rfl) (by kernel_rfl) (by kernel_rfl) (fun _ _ _ h => h) (Or.inl ⟨by rfl, ?_⟩) hS ?_
        rotate_left
        · intro w hSw
          have c0 := HC.out _ hSw
          go_simp
          with_reducible rfl
        try simp only [Act.put, List.setIfInBounds_toArray, List.set_cons_zero, List.set_cons_succ]
        refine callD 5 (by kernel_rfl) rfl (fun K hK => ?_)
        go_simp
        refine (HADD.out Xd hMd hS).mono ?_
        rintro e Y HY
        obtain ⟨c, rfl, hYB, HNX⟩ := HY
        have hY := hS.trans hYB
        refine hK.out _ _ hY (fun _ => ?_)
        clear hK K
        try simp only [Act.put, List.setIfInBounds_toArray, List.set_cons_zero, List.set_cons_succ]
        refine callD 11 (by kernel_rfl) rfl (fun K hK => ?_)
        go_simp
        refine HNX.out.mono ?_
        rintro e Z ⟨rfl, hZB, HEND⟩
        have hZ := hY.trans hZB
        refine hK.out _ _ hZ (fun _ => ?_)
        clear hK K
        try simp only [Act.put, List.setIfInBounds_toArray, List.set_cons_zero, List.set_cons_succ]
        refine takeD 12 (some 46) (v := ?_) rfl rfl (by kernel_rfl) (by kernel_rfl) (by kernel_rfl) (fun _ _ _ h => h) (Or.inl ⟨by rfl, ?_⟩) hZ ?_
        rotate_left
        · intro w hSw
          go_simp
          with_reducible rfl
        try simp only [Act.put, List.setIfInBounds_toArray, List.set_cons_zero, List.set_cons_succ]
        refine wpAnyH_done (by kernel_rfl) ?_ _
        have ec : (c != c) = false := by simp
        obtain ⟨MP', MR', n1, n2, n3, n4, n5⟩ := HEND.out
        have N4 := Hid.mk_ n4
        have N5 := Hid.mk_ n5
        have N2 := Hid.mk_ n2
        have N3 := Hid.mk_ n3
        clear n2 n3 n4 n5 HEND HNX HADD
        go_wp2
        go_roundw
        case rel => exact ⟨k + 1, MP', MR', by go_num, by omega, by omega, N2.out, N3.out, N4.out, N5.out, hZ⟩
        case measure => simp [intOf]; omega
      · have hnl : ¬ ((k : Int) < 50) := by omega
        have HFIT : Hid (mirFit MP) := mirFit_none hMm
        have HLK : Hid (like MP MR) := hlike
        clear hMm hlike
        go_wp2_with fail
        go_loopw [14] (fun i w' => ∃ (k : Nat) (MP MR : List Lk), i = .int .i64 (k : Int) ∧ k ≤ 50 ∧ MP.length ≤ 50 ∧ mirFit MP ∧ like MP MR ∧ MapP w' w.heap.size w.heap.size MP ∧ MapR w' w.heap.size W1.heap.size MR ∧ Below w.heap.size w w') (fun i _ => 50 - (intOf i).toNat)
        case atStart => exact ⟨0, MP, MR, rfl, by omega, by omega, HFIT.out, HLK.out, HMP.out, HMR.out, hB⟩
        case round =>
          clear HFIT HLK HMP HMR hB
          obtain ⟨k, MP, MR, rfl, hk50, hMl, hfit, hlike, hMP, hMR, hB⟩ := hrel
          have HMP := Hid.mk_ hMP
          have HMR := Hid.mk_ hMR
          have hll := hlike.len
          clear hMP hMR
          by_cases hlt : k < lm
          · by_cases hlt50 : k < 50
            · obtain ⟨b, o, x, y, rfl, hbl, hc⟩ := HY.out k hlt
              have HC : Hid (∀ X, Below w.heap.size w X → X.cell? ⟨b, o + k * 2, none⟩ = some (.int .i64 x) ∧ X.cell? ⟨b, o + k * 2 + 1, none⟩ = some (.int .i64 y)) := hc
              have HMIR : Hid (∀ Xd, MapP Xd w.heap.size w.heap.size MP ∧ MapR Xd w.heap.size (W1.heap.size) MR → Below w.heap.size w Xd → Calls Try.prog 22 #[.pointer (some ⟨w.heap.size, 0, none⟩), .int .i64 x, .int .i64 y] Xd fun e Y => ∃ c : Int, e = .returned (.int .i64 c) ∧ Below w.heap.size Xd Y ∧ Hid (Calls Try.prog 23 #[.pointer (some ⟨W1.heap.size, 0, none⟩), .int .i64 x, .int .i64 y] Y fun e Z => e = .returned (.int .i64 c) ∧ Below w.heap.size Y Z ∧ Hid (∃ MP' MR', MP'.length ≤ 50 ∧ mirFit MP' ∧ like MP' MR' ∧ MapP Z w.heap.size w.heap.size MP' ∧ MapR Z w.heap.size (W1.heap.size) MR'))) := fun Xd hM hXd => by
                have hge : ∀ k, k < MR.length → -1 ≤ mirAt MR k := fun k hk => by rw [← hlike.mir]; exact (hfit k (by rw [hlike.len]; exact hk)).1
                have hOK : mirOk MP x y ↔ mirOk MR x y := by unfold mirOk; rw [hlike.len, hlike.mir, hlike.mir]
                have hll := hlike.len
                refine (mirror_calls w.heap.size w.heap.size MP x y Xd hM.1 (by omega)).mono ?_
                rintro e Y (⟨hr, rfl, rfl⟩ | ⟨hr, rfl, hMY, hKY⟩)
                · refine ⟨1, rfl, Below.refl _ _, ?_⟩
                  refine Hid.mk_ ((refset_calls w.heap.size (W1.heap.size) MR x y _ hM.2 hge (by omega)).mono ?_)
                  rintro e Z (⟨_, rfl, rfl⟩ | ⟨hr', _⟩)
                  · exact ⟨rfl, Below.refl _ _, MP, MR, hMl, hfit, hlike, hM.1, hM.2⟩
                  · exact absurd (hOK.2 hr') hr
                · refine ⟨0, rfl, hKY.1, ?_⟩
                  have hRY : MapR Y w.heap.size (W1.heap.size) MR := MapIn.keep hM.2 hKY (by decide) (by decide) (by decide) (by decide) (by decide) (by decide)
                  refine Hid.mk_ ((refset_calls w.heap.size (W1.heap.size) MR x y Y hRY hge (by omega)).mono ?_)
                  rintro e Z (⟨hr', _⟩ | ⟨_, rfl, hMZ, hKZ⟩)
                  · exact absurd (hOK.1 hr) hr'
                  · have hPZ : MapP Z w.heap.size w.heap.size (setM (setM MP x.toNat y) y.toNat x) := MapIn.keep hMY hKZ (by decide) (by decide) (by decide) (by decide) (by decide) (by decide)
                    exact ⟨rfl, hKZ.1, _, _, by rw [setM_length, setM_length]; exact hMl, mirFit_set hfit hr, (hlike.set_ _ _).set_ _ _, hPZ, hMZ⟩
              have hMd : MapP wr.drew w.heap.size w.heap.size MP ∧ MapR wr.drew w.heap.size (W1.heap.size) MR := ⟨HMP.out.below (Below.refl _ _).drew hB.size, HMR.out.below (Below.refl _ _).drew hB.size⟩
              clear hc HMP HMR
              go_wp2_with fail
              refine wp_region_held_drew (S := fun X => Below w.heap.size w X) mixed hB.drew (fun hS => ?_)
              generalize wr.drew = Xd at *
              refine takeD 0 (some 57) (v := ?_) rfl rfl (by kernel_rfl) (by kernel_rfl) (by kernel_rfl) (fun _ _ _ h => h) (Or.inl ⟨by rfl, ?_⟩) hS ?_
              rotate_left
              · intro w hSw
                try go_simp
                with_reducible rfl
              try simp only [Act.put, List.setIfInBounds_toArray, List.set_cons_zero, List.set_cons_succ]
              refine takeD 1 (some 58) (v := ?_) rfl rfl (by kernel_rfl) (by kernel_rfl) (by kernel_rfl) (fun _ _ _ h => h) (Or.inl ⟨by rfl, ?_⟩) hS ?_
              rotate_left
              · intro w hSw
                try go_simp
                with_reducible rfl
              try simp only [Act.put, List.setIfInBounds_toArray, List.set_cons_zero, List.set_cons_succ]
              refine takeD 2 (some 59) (v := ?_) rfl rfl (by kernel_rfl) (by kernel_rfl) (by kernel_rfl) (fun _ _ _ h => h) (Or.inl ⟨by rfl, ?_⟩) hS ?_
              rotate_left
              · intro w hSw
                try go_simp
                with_reducible rfl
              try simp only [Act.put, List.setIfInBounds_toArray, List.set_cons_zero, List.set_cons_succ]
              refine takeD 3 (some 60) (v := ?_) rfl rfl (by kernel_rfl) (by kernel_rfl) (by kernel_rfl) (fun _ _ _ h => h) (Or.inl ⟨by rfl, ?_⟩) hS ?_
              rotate_left
              · intro w hSw
                go_simp
                with_reducible rfl
              try simp only [Act.put, List.setIfInBounds_toArray, List.set_cons_zero, List.set_cons_succ]
              refine takeD 4 (some 61) (v := ?_) rfl rfl (by kernel_rfl) (by kernel_rfl) (by kernel_rfl) (fun _ _ _ h => h) (Or.inl ⟨by rfl, ?_⟩) hS ?_
              rotate_left
              · intro w hSw
                go_simp
                with_reducible rfl
              try simp only [Act.put, List.setIfInBounds_toArray, List.set_cons_zero, List.set_cons_succ]
              refine takeD 5 (some 62) (v := ?_) rfl rfl (by kernel_rfl) (by kernel_rfl) (by kernel_rfl) (fun _ _ _ h => h) (Or.inl ⟨by rfl, ?_⟩) hS ?_
              rotate_left
              · intro w hSw
                obtain ⟨c0, c1⟩ := HC.out _ hSw
                go_simp
                with_reducible rfl
              try simp only [Act.put, List.setIfInBounds_toArray, List.set_cons_zero, List.set_cons_succ]
              refine takeD 6 (some 63) (v := ?_) rfl rfl (by kernel_rfl) (by kernel_rfl) (by kernel_rfl) (fun _ _ _ h => h) (Or.inl ⟨by rfl, ?_⟩) hS ?_
              rotate_left
              · intro w hSw
                try go_simp
                with_reducible rfl
              try simp only [Act.put, List.setIfInBounds_toArray, List.set_cons_zero, List.set_cons_succ]
              refine takeD 7 (some 64) (v := ?_) rfl rfl (by kernel_rfl) (by kernel_rfl) (by kernel_rfl) (fun _ _ _ h => h) (Or.inl ⟨by rfl, ?_⟩) hS ?_
              rotate_left
              · intro w hSw
                try go_simp
                with_reducible rfl
              try simp only [Act.put, List.setIfInBounds_toArray, List.set_cons_zero, List.set_cons_succ]
              refine takeD 8 (some 65) (v := ?_) rfl rfl (by kernel_rfl) (by kernel_rfl) (by kernel_rfl) (fun _ _ _ h => h) (Or.inl ⟨by rfl, ?_⟩) hS ?_
              rotate_left
              · intro w hSw
                go_simp
                with_reducible rfl
              try simp only [Act.put, List.setIfInBounds_toArray, List.set_cons_zero, List.set_cons_succ]
              refine takeD 9 (some 66) (v := ?_) rfl rfl (by kernel_rfl) (by kernel_rfl) (by kernel_rfl) (fun _ _ _ h => h) (Or.inl ⟨by rfl, ?_⟩) hS ?_
              rotate_left
              · intro w hSw
                go_simp
                with_reducible rfl
              try simp only [Act.put, List.setIfInBounds_toArray, List.set_cons_zero, List.set_cons_succ]
              refine takeD 10 (some 67) (v := ?_) rfl rfl (by kernel_rfl) (by kernel_rfl) (by kernel_rfl) (fun _ _ _ h => h) (Or.inl ⟨by rfl, ?_⟩) hS ?_
              rotate_left
              · intro w hSw
                obtain ⟨c0, c1⟩ := HC.out _ hSw
                go_simp
                with_reducible rfl
              try simp only [Act.put, List.setIfInBounds_toArray, List.set_cons_zero, List.set_cons_succ]
              refine takeD 12 (some 69) (v := ?_) rfl rfl (by kernel_rfl) (by kernel_rfl) (by kernel_rfl) (fun _ _ _ h => h) (Or.inl ⟨by rfl, ?_⟩) hS ?_
              rotate_left
              · intro w hSw
                try go_simp
                with_reducible rfl
              try simp only [Act.put, List.setIfInBounds_toArray, List.set_cons_zero, List.set_cons_succ]
              refine takeD 13 (some 70) (v := ?_) rfl rfl (by kernel_rfl) (by kernel_rfl) (by kernel_rfl) (fun _ _ _ h => h) (Or.inl ⟨by rfl, ?_⟩) hS ?_
              rotate_left
              · intro w hSw
                try go_simp
                with_reducible rfl
              try simp only [Act.put, List.setIfInBounds_toArray, List.set_cons_zero, List.set_cons_succ]
              refine takeD 14 (some 71) (v := ?_) rfl rfl (by kernel_rfl) (by kernel_rfl) (by kernel_rfl) (fun _ _ _ h => h) (Or.inl ⟨by rfl, ?_⟩) hS ?_
              rotate_left
              · intro w hSw
                try go_simp
                with_reducible rfl
              try simp only [Act.put, List.setIfInBounds_toArray, List.set_cons_zero, List.set_cons_succ]
              refine takeD 15 (some 72) (v := ?_) rfl rfl (by kernel_rfl) (by kernel_rfl) (by kernel_rfl) (fun _ _ _ h => h) (Or.inl ⟨by rfl, ?_⟩) hS ?_
              rotate_left
              · intro w hSw
                go_simp
                with_reducible rfl
              try simp only [Act.put, List.setIfInBounds_toArray, List.set_cons_zero, List.set_cons_succ]
              refine takeD 16 (some 73) (v := ?_) rfl rfl (by kernel_rfl) (by kernel_rfl) (by kernel_rfl) (fun _ _ _ h => h) (Or.inl ⟨by rfl, ?_⟩) hS ?_
              rotate_left
              · intro w hSw
                go_simp
                with_reducible rfl
              try simp only [Act.put, List.setIfInBounds_toArray, List.set_cons_zero, List.set_cons_succ]
              refine takeD 17 (some 74) (v := ?_) rfl rfl (by kernel_rfl) (by kernel_rfl) (by kernel_rfl) (fun _ _ _ h => h) (Or.inl ⟨by rfl, ?_⟩) hS ?_
              rotate_left
              · intro w hSw
                obtain ⟨c0, c1⟩ := HC.out _ hSw
                go_simp
                with_reducible rfl
              try simp only [Act.put, List.setIfInBounds_toArray, List.set_cons_zero, List.set_cons_succ]
              refine takeD 18 (some 75) (v := ?_) rfl rfl (by kernel_rfl) (by kernel_rfl) (by kernel_rfl) (fun _ _ _ h => h) (Or.inl ⟨by rfl, ?_⟩) hS ?_
              rotate_left
              · intro w hSw
                try go_simp
                with_reducible rfl
              try simp only [Act.put, List.setIfInBounds_toArray, List.set_cons_zero, List.set_cons_succ]
              refine takeD 19 (some 76) (v := ?_) rfl rfl (by kernel_rfl) (by kernel_rfl) (by kernel_rfl) (fun _ _ _ h => h) (Or.inl ⟨by rfl, ?_⟩) hS ?_
              rotate_left
              · intro w hSw
                try go_simp
                with_reducible rfl
              try simp only [Act.put, List.setIfInBounds_toArray, List.set_cons_zero, List.set_cons_succ]
              refine takeD 20 (some 77) (v := ?_) rfl rfl (by kernel_rfl) (by kernel_rfl) (by kernel_rfl) (fun _ _ _ h => h) (Or.inl ⟨by rfl, ?_⟩) hS ?_
              rotate_left
              · intro w hSw
                go_simp
                with_reducible rfl
              try simp only [Act.put, List.setIfInBounds_toArray, List.set_cons_zero, List.set_cons_succ]
              refine takeD 21 (some 78) (v := ?_) rfl rfl (by kernel_rfl) (by kernel_rfl) (by kernel_rfl) (fun _ _ _ h => h) (Or.inl ⟨by rfl, ?_⟩) hS ?_
              rotate_left
              · intro w hSw
                go_simp
                with_reducible rfl
              try simp only [Act.put, List.setIfInBounds_toArray, List.set_cons_zero, List.set_cons_succ]
              refine takeD 22 (some 79) (v := ?_) rfl rfl (by kernel_rfl) (by kernel_rfl) (by kernel_rfl) (fun _ _ _ h => h) (Or.inl ⟨by rfl, ?_⟩) hS ?_
              rotate_left
              · intro w hSw
                obtain ⟨c0, c1⟩ := HC.out _ hSw
                go_simp
                with_reducible rfl
              try simp only [Act.put, List.setIfInBounds_toArray, List.set_cons_zero, List.set_cons_succ]
              refine callD 11 (by kernel_rfl) rfl (fun K hK => ?_)
              go_simp
              refine (HMIR.out Xd hMd hS).mono ?_
              rintro e Y HY
              obtain ⟨c, rfl, hYB, HNX⟩ := HY
              have hY := hS.trans hYB
              refine hK.out _ _ hY (fun _ => ?_)
              clear hK K
              try simp only [Act.put, List.setIfInBounds_toArray, List.set_cons_zero, List.set_cons_succ]
              refine callD 23 (by kernel_rfl) rfl (fun K hK => ?_)
              go_simp
              refine HNX.out.mono ?_
              rintro e Z ⟨rfl, hZB, HEND⟩
              have hZ := hY.trans hZB
              refine hK.out _ _ hZ (fun _ => ?_)
              clear hK K
              try simp only [Act.put, List.setIfInBounds_toArray, List.set_cons_zero, List.set_cons_succ]
              refine takeD 24 (some 81) (v := ?_) rfl rfl (by kernel_rfl) (by kernel_rfl) (by kernel_rfl) (fun _ _ _ h => h) (Or.inl ⟨by rfl, ?_⟩) hZ ?_
              rotate_left
              · intro w hSw
                go_simp
                with_reducible rfl
              try simp only [Act.put, List.setIfInBounds_toArray, List.set_cons_zero, List.set_cons_succ]
              refine wpAnyH_done (by kernel_rfl) ?_ _
              have ec : (c != c) = false := by simp
              obtain ⟨MP', MR', n1, n2, n3, n4, n5⟩ := HEND.out
              have N4 := Hid.mk_ n4
              have N5 := Hid.mk_ n5
              have N2 := Hid.mk_ n2
              have N3 := Hid.mk_ n3
              clear n2 n3 n4 n5 HEND HNX HMIR
              go_wp2
              go_roundw
              case rel => exact ⟨k + 1, MP', MR', by go_num, by omega, by omega, N2.out, N3.out, N4.out, N5.out, hZ⟩
              case measure => simp [intOf]; omega
            · have hnl : ¬ ((k : Int) < 50) := by omega
              have hll := hlike.len
              have cP := mmap_calls w.heap.size w.heap.size MP from' p side wr HMP.out (by omega) (fun i hi => (hfit i hi).2.1) hB.size
              have HR : Hid (∀ X, Below wr.heap.size wr X → Calls Try.prog 25 #[.pointer (some ⟨W1.heap.size, 0, none⟩), .int .i64 from', .int .i64 p, .int .i64 side] X fun e w' => e = .returned (mmV (mmR MP from' p side)) ∧ Below X.heap.size X w') := fun X hX => by
                rw [hlike.mm]
                exact refmm_calls w.heap.size (W1.heap.size) MR from' p side X (HMR.out.below hX hB.size) (by omega) (fun i hi => by
                  have := hfit i (by omega)
                  rw [← hlike.mir]
                  omega) (Nat.le_trans hB.size hX.size)
              have HLEN : Hid (∀ X, Below wr.heap.size wr X → Calls Try.prog 26 #[.pointer (some ⟨w.heap.size, 0, none⟩)] X fun e w' => e = .returned (.int .i64 (MP.length : Int)) ∧ w' = X) := fun X hX => len_calls w.heap.size w.heap.size MP X (HMP.out.below hX hB.size)
              obtain ⟨aB, cB, hBB⟩ := HMR.out.len_
              rw [← hll] at hBB
              have HL : Hid (∀ X, Below wr.heap.size wr X → X.cell? ⟨W1.heap.size, 0, none⟩ = some (.slice aB MP.length cB)) := fun X hX => cell_of_row X (W1.heap.size) 0 _ _ _ ((hX.block _ (Array.getElem?_eq_some_iff.1 hBB).1).trans hBB)
              obtain ⟨s0, s1, s2, s3, e1, hmv⟩ : ∃ s0 s1 s2 s3 e1, mmV (mmR MP from' p side) = .tuple #[.agg #[.int .i64 s0, .bool s1, .int .i64 s2, .int .i64 s3], .int .i64 e1] := by
                cases mmR MP from' p side with
                | none => exact ⟨_, _, _, _, _, rfl⟩
                | some r => obtain ⟨q, g⟩ := r; exact ⟨_, _, _, _, _, rfl⟩
              rw [hmv] at cP HR
              generalize MP.length = n at *
              clear hmv hBB hfit hlike HMP HMR hll hMl
              have hg := fun (x y : Operand) (xs ys : Array Value) (W : World) => spot_eqGuard .eql x y xs ys W
              have hq := fun W => spot_self s0 s1 s2 s3 W
              have he : (e1 == e1) = true := by simp
              have hn : ((n : Int) == (n : Int)) = true := by simp
              go_wp2_with fail
              refine cP.mono ?_
              rintro e U1 ⟨rfl, hB1⟩
              obtain ⟨V1, hV1⟩ : ∃ V1, U1.alloc (.cells #[.int .i64 s0, .bool s1, .int .i64 s2, .int .i64 s3] 24) = V1 := ⟨_, rfl⟩
              have hC1 : Below wr.heap.size wr V1 := by rw [← hV1]; exact hB1.alloc hB1.size _
              have m1 : V1.heap[U1.heap.size]? = some (.cells #[.int .i64 s0, .bool s1, .int .i64 s2, .int .i64 s3] 24 (0, 0)) := by rw [← hV1]; exact World.alloc_heap_new U1 _
              have l1 : U1.heap.size < V1.heap.size := (Array.getElem?_eq_some_iff.1 m1).1
              have HV1 : Hid (U1.alloc (.cells #[.int .i64 s0, .bool s1, .int .i64 s2, .int .i64 s3] 24) = V1) := hV1
              clear hV1 cP
              go_wp2_with fail
              rw [HV1.out]
              refine (HR.out _ hC1).mono ?_
              rintro e U2 ⟨rfl, hB2⟩
              have m2 := (hB2.block _ l1).trans m1
              have l2 : U1.heap.size < U2.heap.size := Nat.lt_of_lt_of_le l1 hB2.size
              have hC2 := hC1.trans (hB2.mono hC1.size)
              obtain ⟨V2, hV2⟩ : ∃ V2, U2.alloc (.cells #[.int .i64 s0, .bool s1, .int .i64 s2, .int .i64 s3] 24) = V2 := ⟨_, rfl⟩
              have hB2a : Below U2.heap.size U2 V2 := by rw [← hV2]; exact (Below.refl _ _).alloc (Nat.le_refl _) _
              have hC2a : Below wr.heap.size wr V2 := hC2.trans (hB2a.mono hC2.size)
              have m3 : V2.heap[U2.heap.size]? = some (.cells #[.int .i64 s0, .bool s1, .int .i64 s2, .int .i64 s3] 24 (0, 0)) := by rw [← hV2]; exact World.alloc_heap_new U2 _
              have m2' := (hB2a.block _ l2).trans m2
              have l4 : U1.heap.size < V2.heap.size := (Array.getElem?_eq_some_iff.1 m2').1
              have l5 : U2.heap.size < V2.heap.size := (Array.getElem?_eq_some_iff.1 m3).1
              have HK17 : Hid (∀ Y, Below V2.heap.size V2 Y → _) := fun Y (hY : Below V2.heap.size V2 Y) => (⟨cells4 ((hY.block _ l4).trans m2'), cells4 ((hY.block _ l5).trans m3), HL.out Y (hC2a.trans (hY.mono hC2a.size))⟩ : (_ ∧ _ ∧ _ ∧ _) ∧ (_ ∧ _ ∧ _ ∧ _) ∧ _)
              have hCw : Below w.heap.size w V2 := hB.trans (hC2a.mono hB.size)
              have HV2 : Hid (U2.alloc (.cells #[.int .i64 s0, .bool s1, .int .i64 s2, .int .i64 s3] 24) = V2) := hV2
              clear hV2 m1 m2 m3 m2' HR HV1 HL
              go_wp2_with fail
              rw [HV2.out]
              refine wp_region_held_drew (S := fun Y => Below V2.heap.size V2 Y) mixed (Below.refl _ _).drew (fun hS => ?_)
              generalize V2.drew = Xd at *
              refine takeD 0 (some 98) (v := ?_) rfl rfl (by kernel_rfl) (by kernel_rfl) (by kernel_rfl) (fun _ _ _ h => h) (Or.inl ⟨by rfl, ?_⟩) hS ?_
              rotate_left
              · intro w hSw
                obtain ⟨⟨j0, j1, j2, j3⟩, ⟨i0, i1, i2, i3⟩, lc⟩ := HK17.out _ hSw
                go_simp
                with_reducible rfl
              try simp only [Act.put, List.setIfInBounds_toArray, List.set_cons_zero, List.set_cons_succ]
              refine takeD 1 (some 99) (v := ?_) rfl rfl (by kernel_rfl) (by kernel_rfl) (by kernel_rfl) (fun _ _ _ h => h) (Or.inl ⟨by rfl, ?_⟩) hS ?_
              rotate_left
              · intro w hSw
                obtain ⟨⟨j0, j1, j2, j3⟩, ⟨i0, i1, i2, i3⟩, lc⟩ := HK17.out _ hSw
                go_simp
                with_reducible rfl
              try simp only [Act.put, List.setIfInBounds_toArray, List.set_cons_zero, List.set_cons_succ]
              refine takeD 2 (some 100) (v := ?_) rfl rfl (by kernel_rfl) (by kernel_rfl) (by kernel_rfl) (fun _ _ _ h => h) (Or.inl ⟨by rfl, ?_⟩) hS ?_
              rotate_left
              · intro w hSw
                go_simp
                try simp only [hg, hq, he, hn]
                with_reducible rfl
              try simp only [Act.put, List.setIfInBounds_toArray, List.set_cons_zero, List.set_cons_succ]
              refine takeD 3 (some 101) (v := ?_) rfl rfl (by kernel_rfl) (by kernel_rfl) (by kernel_rfl) (fun _ _ _ h => h) (Or.inl ⟨by rfl, ?_⟩) hS ?_
              rotate_left
              · intro w hSw
                try go_simp
                with_reducible rfl
              try simp only [Act.put, List.setIfInBounds_toArray, List.set_cons_zero, List.set_cons_succ]
              refine takeD 4 (some 102) (v := ?_) rfl rfl (by kernel_rfl) (by kernel_rfl) (by kernel_rfl) (fun _ _ _ h => h) (Or.inl ⟨by rfl, ?_⟩) hS ?_
              rotate_left
              · intro w hSw
                try go_simp
                with_reducible rfl
              try simp only [Act.put, List.setIfInBounds_toArray, List.set_cons_zero, List.set_cons_succ]
              refine takeD 5 (some 103) (v := ?_) rfl rfl (by kernel_rfl) (by kernel_rfl) (by kernel_rfl) (fun _ _ _ h => h) (Or.inl ⟨by rfl, ?_⟩) hS ?_
              rotate_left
              · intro w hSw
                try go_simp
                with_reducible rfl
              try simp only [Act.put, List.setIfInBounds_toArray, List.set_cons_zero, List.set_cons_succ]
              refine takeD 6 (some 104) (v := ?_) rfl rfl (by kernel_rfl) (by kernel_rfl) (by kernel_rfl) (fun _ _ _ h => h) (Or.inl ⟨by rfl, ?_⟩) hS ?_
              rotate_left
              · intro w hSw
                go_simp
                try simp only [hg, hq, he, hn]
                with_reducible rfl
              try simp only [Act.put, List.setIfInBounds_toArray, List.set_cons_zero, List.set_cons_succ]
              refine takeD 7 (some 105) (v := ?_) rfl rfl (by kernel_rfl) (by kernel_rfl) (by kernel_rfl) (fun _ _ _ h => h) (Or.inl ⟨by rfl, ?_⟩) hS ?_
              rotate_left
              · intro w hSw
                go_simp
                with_reducible rfl
              try simp only [Act.put, List.setIfInBounds_toArray, List.set_cons_zero, List.set_cons_succ]
              refine takeD 8 (some 106) (v := ?_) rfl rfl (by kernel_rfl) (by kernel_rfl) (by kernel_rfl) (fun _ _ _ h => h) (Or.inl ⟨by rfl, ?_⟩) hS ?_
              rotate_left
              · intro w hSw
                try go_simp
                with_reducible rfl
              try simp only [Act.put, List.setIfInBounds_toArray, List.set_cons_zero, List.set_cons_succ]
              refine takeD 9 (some 107) (v := ?_) rfl rfl (by kernel_rfl) (by kernel_rfl) (by kernel_rfl) (fun _ _ _ h => h) (Or.inl ⟨by rfl, ?_⟩) hS ?_
              rotate_left
              · intro w hSw
                try go_simp
                with_reducible rfl
              try simp only [Act.put, List.setIfInBounds_toArray, List.set_cons_zero, List.set_cons_succ]
              refine takeD 11 (some 109) (v := ?_) rfl rfl (by kernel_rfl) (by kernel_rfl) (by kernel_rfl) (fun _ _ _ h => h) (Or.inl ⟨by rfl, ?_⟩) hS ?_
              rotate_left
              · intro w hSw
                try go_simp
                with_reducible rfl
              try simp only [Act.put, List.setIfInBounds_toArray, List.set_cons_zero, List.set_cons_succ]
              refine takeD 12 (some 110) (v := ?_) rfl rfl (by kernel_rfl) (by kernel_rfl) (by kernel_rfl) (fun _ _ _ h => h) (Or.inl ⟨by rfl, ?_⟩) hS ?_
              rotate_left
              · intro w hSw
                go_simp
                with_reducible rfl
              try simp only [Act.put, List.setIfInBounds_toArray, List.set_cons_zero, List.set_cons_succ]
              refine takeD 13 (some 111) (v := ?_) rfl rfl (by kernel_rfl) (by kernel_rfl) (by kernel_rfl) (fun _ _ _ h => h) (Or.inl ⟨by rfl, ?_⟩) hS ?_
              rotate_left
              · intro w hSw
                go_simp
                with_reducible rfl
              try simp only [Act.put, List.setIfInBounds_toArray, List.set_cons_zero, List.set_cons_succ]
              refine takeD 14 (some 112) (v := ?_) rfl rfl (by kernel_rfl) (by kernel_rfl) (by kernel_rfl) (fun _ _ _ h => h) (Or.inl ⟨by rfl, ?_⟩) hS ?_
              rotate_left
              · intro w hSw
                obtain ⟨⟨j0, j1, j2, j3⟩, ⟨i0, i1, i2, i3⟩, lc⟩ := HK17.out _ hSw
                go_simp
                with_reducible rfl
              try simp only [Act.put, List.setIfInBounds_toArray, List.set_cons_zero, List.set_cons_succ]
              refine takeD 15 (some 113) (v := ?_) rfl rfl (by kernel_rfl) (by kernel_rfl) (by kernel_rfl) (fun _ _ _ h => h) (Or.inl ⟨by rfl, ?_⟩) hS ?_
              rotate_left
              · intro w hSw
                go_simp
                with_reducible rfl
              try simp only [Act.put, List.setIfInBounds_toArray, List.set_cons_zero, List.set_cons_succ]
              refine callD 10 (by kernel_rfl) rfl (fun K hK => ?_)
              rw [if_pos (by rfl)]
              go_simp
              refine (HLEN.out Xd (hC2a.trans (hS.mono hC2a.size))).mono ?_
              rintro e Y ⟨rfl, hY⟩
              rw [hY]
              clear hY Y
              refine hK.out _ _ hS (fun _ => ?_)
              clear hK K
              try simp only [Act.put, List.setIfInBounds_toArray, List.set_cons_zero, List.set_cons_succ]
              refine takeD 16 (some 114) (v := ?_) rfl rfl (by kernel_rfl) (by kernel_rfl) (by kernel_rfl) (fun _ _ _ h => h) (Or.inl ⟨by rfl, ?_⟩) hS ?_
              rotate_left
              · intro w hSw
                go_simp
                try simp only [hg, hq, he, hn]
                with_reducible rfl
              try simp only [Act.put, List.setIfInBounds_toArray, List.set_cons_zero, List.set_cons_succ]
              refine takeD 17 (some 115) (v := ?_) rfl rfl (by kernel_rfl) (by kernel_rfl) (by kernel_rfl) (fun _ _ _ h => h) (Or.inl ⟨by rfl, ?_⟩) hS ?_
              rotate_left
              · intro w hSw
                go_simp
                with_reducible rfl
              try simp only [Act.put, List.setIfInBounds_toArray, List.set_cons_zero, List.set_cons_succ]
              refine takeD 18 (some 116) (v := ?_) rfl rfl (by kernel_rfl) (by kernel_rfl) (by kernel_rfl) (fun _ _ _ h => h) (Or.inl ⟨by rfl, ?_⟩) hS ?_
              rotate_left
              · intro w hSw
                try go_simp
                with_reducible rfl
              try simp only [Act.put, List.setIfInBounds_toArray, List.set_cons_zero, List.set_cons_succ]
              refine callD 19 (by kernel_rfl) rfl (fun K hK => ?_)
              rw [if_pos (by rfl)]
              go_simp
              refine (awake_calls _).mono ?_
              rintro e W9 ⟨rfl, hB9⟩
              have hS9 := hS.trans (hB9.mono hS.size)
              refine hK.out _ _ hS9 (fun _ => ?_)
              clear hK K
              try simp only [Act.put, List.setIfInBounds_toArray, List.set_cons_zero, List.set_cons_succ]
              refine takeD 20 (some 118) (v := ?_) rfl rfl (by kernel_rfl) (by kernel_rfl) (by kernel_rfl) (fun _ _ _ h => h) (Or.inl ⟨by rfl, ?_⟩) hS9 ?_
              rotate_left
              · intro w hSw
                go_simp
                with_reducible rfl
              try simp only [Act.put, List.setIfInBounds_toArray, List.set_cons_zero, List.set_cons_succ]
              refine takeD 21 (some 10) (v := ?_) rfl rfl (by kernel_rfl) (by kernel_rfl) (by kernel_rfl) (fun _ _ _ h => h) (Or.inl ⟨by rfl, ?_⟩) hS9 ?_
              rotate_left
              · intro w hSw
                try go_simp
                with_reducible rfl
              try simp only [Act.put, List.setIfInBounds_toArray, List.set_cons_zero, List.set_cons_succ]
              refine wpAnyH_done (by kernel_rfl) ?_ _
              go_wp2
              go_ret
              exact ⟨rfl, hCw.trans (hS9.mono hCw.size)⟩
          · have hnl : ¬ ((k : Int) < (lm : Int)) := by omega
            have hll := hlike.len
            have cP := mmap_calls w.heap.size w.heap.size MP from' p side wr HMP.out (by omega) (fun i hi => (hfit i hi).2.1) hB.size
            have HR : Hid (∀ X, Below wr.heap.size wr X → Calls Try.prog 25 #[.pointer (some ⟨W1.heap.size, 0, none⟩), .int .i64 from', .int .i64 p, .int .i64 side] X fun e w' => e = .returned (mmV (mmR MP from' p side)) ∧ Below X.heap.size X w') := fun X hX => by
              rw [hlike.mm]
              exact refmm_calls w.heap.size (W1.heap.size) MR from' p side X (HMR.out.below hX hB.size) (by omega) (fun i hi => by
                have := hfit i (by omega)
                rw [← hlike.mir]
                omega) (Nat.le_trans hB.size hX.size)
            have HLEN : Hid (∀ X, Below wr.heap.size wr X → Calls Try.prog 26 #[.pointer (some ⟨w.heap.size, 0, none⟩)] X fun e w' => e = .returned (.int .i64 (MP.length : Int)) ∧ w' = X) := fun X hX => len_calls w.heap.size w.heap.size MP X (HMP.out.below hX hB.size)
            obtain ⟨aB, cB, hBB⟩ := HMR.out.len_
            rw [← hll] at hBB
            have HL : Hid (∀ X, Below wr.heap.size wr X → X.cell? ⟨W1.heap.size, 0, none⟩ = some (.slice aB MP.length cB)) := fun X hX => cell_of_row X (W1.heap.size) 0 _ _ _ ((hX.block _ (Array.getElem?_eq_some_iff.1 hBB).1).trans hBB)
            obtain ⟨s0, s1, s2, s3, e1, hmv⟩ : ∃ s0 s1 s2 s3 e1, mmV (mmR MP from' p side) = .tuple #[.agg #[.int .i64 s0, .bool s1, .int .i64 s2, .int .i64 s3], .int .i64 e1] := by
              cases mmR MP from' p side with
              | none => exact ⟨_, _, _, _, _, rfl⟩
              | some r => obtain ⟨q, g⟩ := r; exact ⟨_, _, _, _, _, rfl⟩
            rw [hmv] at cP HR
            generalize MP.length = n at *
            clear hmv hBB hfit hlike HMP HMR hll hMl
            have hg := fun (x y : Operand) (xs ys : Array Value) (W : World) => spot_eqGuard .eql x y xs ys W
            have hq := fun W => spot_self s0 s1 s2 s3 W
            have he : (e1 == e1) = true := by simp
            have hn : ((n : Int) == (n : Int)) = true := by simp
            go_wp2_with fail
            refine cP.mono ?_
            rintro e U1 ⟨rfl, hB1⟩
            obtain ⟨V1, hV1⟩ : ∃ V1, U1.alloc (.cells #[.int .i64 s0, .bool s1, .int .i64 s2, .int .i64 s3] 24) = V1 := ⟨_, rfl⟩
            have hC1 : Below wr.heap.size wr V1 := by rw [← hV1]; exact hB1.alloc hB1.size _
            have m1 : V1.heap[U1.heap.size]? = some (.cells #[.int .i64 s0, .bool s1, .int .i64 s2, .int .i64 s3] 24 (0, 0)) := by rw [← hV1]; exact World.alloc_heap_new U1 _
            have l1 : U1.heap.size < V1.heap.size := (Array.getElem?_eq_some_iff.1 m1).1
            have HV1 : Hid (U1.alloc (.cells #[.int .i64 s0, .bool s1, .int .i64 s2, .int .i64 s3] 24) = V1) := hV1
            clear hV1 cP
            go_wp2_with fail
            rw [HV1.out]
            refine (HR.out _ hC1).mono ?_
            rintro e U2 ⟨rfl, hB2⟩
            have m2 := (hB2.block _ l1).trans m1
            have l2 : U1.heap.size < U2.heap.size := Nat.lt_of_lt_of_le l1 hB2.size
            have hC2 := hC1.trans (hB2.mono hC1.size)
            obtain ⟨V2, hV2⟩ : ∃ V2, U2.alloc (.cells #[.int .i64 s0, .bool s1, .int .i64 s2, .int .i64 s3] 24) = V2 := ⟨_, rfl⟩
            have hB2a : Below U2.heap.size U2 V2 := by rw [← hV2]; exact (Below.refl _ _).alloc (Nat.le_refl _) _
            have hC2a : Below wr.heap.size wr V2 := hC2.trans (hB2a.mono hC2.size)
            have m3 : V2.heap[U2.heap.size]? = some (.cells #[.int .i64 s0, .bool s1, .int .i64 s2, .int .i64 s3] 24 (0, 0)) := by rw [← hV2]; exact World.alloc_heap_new U2 _
            have m2' := (hB2a.block _ l2).trans m2
            have l4 : U1.heap.size < V2.heap.size := (Array.getElem?_eq_some_iff.1 m2').1
            have l5 : U2.heap.size < V2.heap.size := (Array.getElem?_eq_some_iff.1 m3).1
            have HK17 : Hid (∀ Y, Below V2.heap.size V2 Y → _) := fun Y (hY : Below V2.heap.size V2 Y) => (⟨cells4 ((hY.block _ l4).trans m2'), cells4 ((hY.block _ l5).trans m3), HL.out Y (hC2a.trans (hY.mono hC2a.size))⟩ : (_ ∧ _ ∧ _ ∧ _) ∧ (_ ∧ _ ∧ _ ∧ _) ∧ _)
            have hCw : Below w.heap.size w V2 := hB.trans (hC2a.mono hB.size)
            have HV2 : Hid (U2.alloc (.cells #[.int .i64 s0, .bool s1, .int .i64 s2, .int .i64 s3] 24) = V2) := hV2
            clear hV2 m1 m2 m3 m2' HR HV1 HL
            go_wp2_with fail
            rw [HV2.out]
            refine wp_region_held_drew (S := fun Y => Below V2.heap.size V2 Y) mixed (Below.refl _ _).drew (fun hS => ?_)
            generalize V2.drew = Xd at *
            refine takeD 0 (some 98) (v := ?_) rfl rfl (by kernel_rfl) (by kernel_rfl) (by kernel_rfl) (fun _ _ _ h => h) (Or.inl ⟨by rfl, ?_⟩) hS ?_
            rotate_left
            · intro w hSw
              obtain ⟨⟨j0, j1, j2, j3⟩, ⟨i0, i1, i2, i3⟩, lc⟩ := HK17.out _ hSw
              go_simp
              with_reducible rfl
            try simp only [Act.put, List.setIfInBounds_toArray, List.set_cons_zero, List.set_cons_succ]
            refine takeD 1 (some 99) (v := ?_) rfl rfl (by kernel_rfl) (by kernel_rfl) (by kernel_rfl) (fun _ _ _ h => h) (Or.inl ⟨by rfl, ?_⟩) hS ?_
            rotate_left
            · intro w hSw
              obtain ⟨⟨j0, j1, j2, j3⟩, ⟨i0, i1, i2, i3⟩, lc⟩ := HK17.out _ hSw
              go_simp
              with_reducible rfl
            try simp only [Act.put, List.setIfInBounds_toArray, List.set_cons_zero, List.set_cons_succ]
            refine takeD 2 (some 100) (v := ?_) rfl rfl (by kernel_rfl) (by kernel_rfl) (by kernel_rfl) (fun _ _ _ h => h) (Or.inl ⟨by rfl, ?_⟩) hS ?_
            rotate_left
            · intro w hSw
              go_simp
              try simp only [hg, hq, he, hn]
              with_reducible rfl
            try simp only [Act.put, List.setIfInBounds_toArray, List.set_cons_zero, List.set_cons_succ]
            refine takeD 3 (some 101) (v := ?_) rfl rfl (by kernel_rfl) (by kernel_rfl) (by kernel_rfl) (fun _ _ _ h => h) (Or.inl ⟨by rfl, ?_⟩) hS ?_
            rotate_left
            · intro w hSw
              try go_simp
              with_reducible rfl
            try simp only [Act.put, List.setIfInBounds_toArray, List.set_cons_zero, List.set_cons_succ]
            refine takeD 4 (some 102) (v := ?_) rfl rfl (by kernel_rfl) (by kernel_rfl) (by kernel_rfl) (fun _ _ _ h => h) (Or.inl ⟨by rfl, ?_⟩) hS ?_
            rotate_left
            · intro w hSw
              try go_simp
              with_reducible rfl
            try simp only [Act.put, List.setIfInBounds_toArray, List.set_cons_zero, List.set_cons_succ]
            refine takeD 5 (some 103) (v := ?_) rfl rfl (by kernel_rfl) (by kernel_rfl) (by kernel_rfl) (fun _ _ _ h => h) (Or.inl ⟨by rfl, ?_⟩) hS ?_
            rotate_left
            · intro w hSw
              try go_simp
              with_reducible rfl
            try simp only [Act.put, List.setIfInBounds_toArray, List.set_cons_zero, List.set_cons_succ]
            refine takeD 6 (some 104) (v := ?_) rfl rfl (by kernel_rfl) (by kernel_rfl) (by kernel_rfl) (fun _ _ _ h => h) (Or.inl ⟨by rfl, ?_⟩) hS ?_
            rotate_left
            · intro w hSw
              go_simp
              try simp only [hg, hq, he, hn]
              with_reducible rfl
            try simp only [Act.put, List.setIfInBounds_toArray, List.set_cons_zero, List.set_cons_succ]
            refine takeD 7 (some 105) (v := ?_) rfl rfl (by kernel_rfl) (by kernel_rfl) (by kernel_rfl) (fun _ _ _ h => h) (Or.inl ⟨by rfl, ?_⟩) hS ?_
            rotate_left
            · intro w hSw
              go_simp
              with_reducible rfl
            try simp only [Act.put, List.setIfInBounds_toArray, List.set_cons_zero, List.set_cons_succ]
            refine takeD 8 (some 106) (v := ?_) rfl rfl (by kernel_rfl) (by kernel_rfl) (by kernel_rfl) (fun _ _ _ h => h) (Or.inl ⟨by rfl, ?_⟩) hS ?_
            rotate_left
            · intro w hSw
              try go_simp
              with_reducible rfl
            try simp only [Act.put, List.setIfInBounds_toArray, List.set_cons_zero, List.set_cons_succ]
            refine takeD 9 (some 107) (v := ?_) rfl rfl (by kernel_rfl) (by kernel_rfl) (by kernel_rfl) (fun _ _ _ h => h) (Or.inl ⟨by rfl, ?_⟩) hS ?_
            rotate_left
            · intro w hSw
              try go_simp
              with_reducible rfl
            try simp only [Act.put, List.setIfInBounds_toArray, List.set_cons_zero, List.set_cons_succ]
            refine takeD 11 (some 109) (v := ?_) rfl rfl (by kernel_rfl) (by kernel_rfl) (by kernel_rfl) (fun _ _ _ h => h) (Or.inl ⟨by rfl, ?_⟩) hS ?_
            rotate_left
            · intro w hSw
              try go_simp
              with_reducible rfl
            try simp only [Act.put, List.setIfInBounds_toArray, List.set_cons_zero, List.set_cons_succ]
            refine takeD 12 (some 110) (v := ?_) rfl rfl (by kernel_rfl) (by kernel_rfl) (by kernel_rfl) (fun _ _ _ h => h) (Or.inl ⟨by rfl, ?_⟩) hS ?_
            rotate_left
            · intro w hSw
              go_simp
              with_reducible rfl
            try simp only [Act.put, List.setIfInBounds_toArray, List.set_cons_zero, List.set_cons_succ]
            refine takeD 13 (some 111) (v := ?_) rfl rfl (by kernel_rfl) (by kernel_rfl) (by kernel_rfl) (fun _ _ _ h => h) (Or.inl ⟨by rfl, ?_⟩) hS ?_
            rotate_left
            · intro w hSw
              go_simp
              with_reducible rfl
            try simp only [Act.put, List.setIfInBounds_toArray, List.set_cons_zero, List.set_cons_succ]
            refine takeD 14 (some 112) (v := ?_) rfl rfl (by kernel_rfl) (by kernel_rfl) (by kernel_rfl) (fun _ _ _ h => h) (Or.inl ⟨by rfl, ?_⟩) hS ?_
            rotate_left
            · intro w hSw
              obtain ⟨⟨j0, j1, j2, j3⟩, ⟨i0, i1, i2, i3⟩, lc⟩ := HK17.out _ hSw
              go_simp
              with_reducible rfl
            try simp only [Act.put, List.setIfInBounds_toArray, List.set_cons_zero, List.set_cons_succ]
            refine takeD 15 (some 113) (v := ?_) rfl rfl (by kernel_rfl) (by kernel_rfl) (by kernel_rfl) (fun _ _ _ h => h) (Or.inl ⟨by rfl, ?_⟩) hS ?_
            rotate_left
            · intro w hSw
              go_simp
              with_reducible rfl
            try simp only [Act.put, List.setIfInBounds_toArray, List.set_cons_zero, List.set_cons_succ]
            refine callD 10 (by kernel_rfl) rfl (fun K hK => ?_)
            rw [if_pos (by rfl)]
            go_simp
            refine (HLEN.out Xd (hC2a.trans (hS.mono hC2a.size))).mono ?_
            rintro e Y ⟨rfl, hY⟩
            rw [hY]
            clear hY Y
            refine hK.out _ _ hS (fun _ => ?_)
            clear hK K
            try simp only [Act.put, List.setIfInBounds_toArray, List.set_cons_zero, List.set_cons_succ]
            refine takeD 16 (some 114) (v := ?_) rfl rfl (by kernel_rfl) (by kernel_rfl) (by kernel_rfl) (fun _ _ _ h => h) (Or.inl ⟨by rfl, ?_⟩) hS ?_
            rotate_left
            · intro w hSw
              go_simp
              try simp only [hg, hq, he, hn]
              with_reducible rfl
            try simp only [Act.put, List.setIfInBounds_toArray, List.set_cons_zero, List.set_cons_succ]
            refine takeD 17 (some 115) (v := ?_) rfl rfl (by kernel_rfl) (by kernel_rfl) (by kernel_rfl) (fun _ _ _ h => h) (Or.inl ⟨by rfl, ?_⟩) hS ?_
            rotate_left
            · intro w hSw
              go_simp
              with_reducible rfl
            try simp only [Act.put, List.setIfInBounds_toArray, List.set_cons_zero, List.set_cons_succ]
            refine takeD 18 (some 116) (v := ?_) rfl rfl (by kernel_rfl) (by kernel_rfl) (by kernel_rfl) (fun _ _ _ h => h) (Or.inl ⟨by rfl, ?_⟩) hS ?_
            rotate_left
            · intro w hSw
              try go_simp
              with_reducible rfl
            try simp only [Act.put, List.setIfInBounds_toArray, List.set_cons_zero, List.set_cons_succ]
            refine callD 19 (by kernel_rfl) rfl (fun K hK => ?_)
            rw [if_pos (by rfl)]
            go_simp
            refine (awake_calls _).mono ?_
            rintro e W9 ⟨rfl, hB9⟩
            have hS9 := hS.trans (hB9.mono hS.size)
            refine hK.out _ _ hS9 (fun _ => ?_)
            clear hK K
            try simp only [Act.put, List.setIfInBounds_toArray, List.set_cons_zero, List.set_cons_succ]
            refine takeD 20 (some 118) (v := ?_) rfl rfl (by kernel_rfl) (by kernel_rfl) (by kernel_rfl) (fun _ _ _ h => h) (Or.inl ⟨by rfl, ?_⟩) hS9 ?_
            rotate_left
            · intro w hSw
              go_simp
              with_reducible rfl
            try simp only [Act.put, List.setIfInBounds_toArray, List.set_cons_zero, List.set_cons_succ]
            refine takeD 21 (some 10) (v := ?_) rfl rfl (by kernel_rfl) (by kernel_rfl) (by kernel_rfl) (fun _ _ _ h => h) (Or.inl ⟨by rfl, ?_⟩) hS9 ?_
            rotate_left
            · intro w hSw
              try go_simp
              with_reducible rfl
            try simp only [Act.put, List.setIfInBounds_toArray, List.set_cons_zero, List.set_cons_succ]
            refine wpAnyH_done (by kernel_rfl) ?_ _
            go_wp2
            go_ret
            exact ⟨rfl, hCw.trans (hS9.mono hCw.size)⟩
    · have hnl : ¬ ((k : Int) < (len : Int)) := by omega
      have HFIT : Hid (mirFit MP) := mirFit_none hMm
      have HLK : Hid (like MP MR) := hlike
      clear hMm hlike
      go_wp2_with fail
      go_loopw [14] (fun i w' => ∃ (k : Nat) (MP MR : List Lk), i = .int .i64 (k : Int) ∧ k ≤ 50 ∧ MP.length ≤ 50 ∧ mirFit MP ∧ like MP MR ∧ MapP w' w.heap.size w.heap.size MP ∧ MapR w' w.heap.size W1.heap.size MR ∧ Below w.heap.size w w') (fun i _ => 50 - (intOf i).toNat)
      case atStart => exact ⟨0, MP, MR, rfl, by omega, by omega, HFIT.out, HLK.out, HMP.out, HMR.out, hB⟩
      case round =>
        clear HFIT HLK HMP HMR hB
        obtain ⟨k, MP, MR, rfl, hk50, hMl, hfit, hlike, hMP, hMR, hB⟩ := hrel
        have HMP := Hid.mk_ hMP
        have HMR := Hid.mk_ hMR
        have hll := hlike.len
        clear hMP hMR
        by_cases hlt : k < lm
        · by_cases hlt50 : k < 50
          · obtain ⟨b, o, x, y, rfl, hbl, hc⟩ := HY.out k hlt
            have HC : Hid (∀ X, Below w.heap.size w X → X.cell? ⟨b, o + k * 2, none⟩ = some (.int .i64 x) ∧ X.cell? ⟨b, o + k * 2 + 1, none⟩ = some (.int .i64 y)) := hc
            have HMIR : Hid (∀ Xd, MapP Xd w.heap.size w.heap.size MP ∧ MapR Xd w.heap.size (W1.heap.size) MR → Below w.heap.size w Xd → Calls Try.prog 22 #[.pointer (some ⟨w.heap.size, 0, none⟩), .int .i64 x, .int .i64 y] Xd fun e Y => ∃ c : Int, e = .returned (.int .i64 c) ∧ Below w.heap.size Xd Y ∧ Hid (Calls Try.prog 23 #[.pointer (some ⟨W1.heap.size, 0, none⟩), .int .i64 x, .int .i64 y] Y fun e Z => e = .returned (.int .i64 c) ∧ Below w.heap.size Y Z ∧ Hid (∃ MP' MR', MP'.length ≤ 50 ∧ mirFit MP' ∧ like MP' MR' ∧ MapP Z w.heap.size w.heap.size MP' ∧ MapR Z w.heap.size (W1.heap.size) MR'))) := fun Xd hM hXd => by
              have hge : ∀ k, k < MR.length → -1 ≤ mirAt MR k := fun k hk => by rw [← hlike.mir]; exact (hfit k (by rw [hlike.len]; exact hk)).1
              have hOK : mirOk MP x y ↔ mirOk MR x y := by unfold mirOk; rw [hlike.len, hlike.mir, hlike.mir]
              have hll := hlike.len
              refine (mirror_calls w.heap.size w.heap.size MP x y Xd hM.1 (by omega)).mono ?_
              rintro e Y (⟨hr, rfl, rfl⟩ | ⟨hr, rfl, hMY, hKY⟩)
              · refine ⟨1, rfl, Below.refl _ _, ?_⟩
                refine Hid.mk_ ((refset_calls w.heap.size (W1.heap.size) MR x y _ hM.2 hge (by omega)).mono ?_)
                rintro e Z (⟨_, rfl, rfl⟩ | ⟨hr', _⟩)
                · exact ⟨rfl, Below.refl _ _, MP, MR, hMl, hfit, hlike, hM.1, hM.2⟩
                · exact absurd (hOK.2 hr') hr
              · refine ⟨0, rfl, hKY.1, ?_⟩
                have hRY : MapR Y w.heap.size (W1.heap.size) MR := MapIn.keep hM.2 hKY (by decide) (by decide) (by decide) (by decide) (by decide) (by decide)
                refine Hid.mk_ ((refset_calls w.heap.size (W1.heap.size) MR x y Y hRY hge (by omega)).mono ?_)
                rintro e Z (⟨hr', _⟩ | ⟨_, rfl, hMZ, hKZ⟩)
                · exact absurd (hOK.1 hr) hr'
                · have hPZ : MapP Z w.heap.size w.heap.size (setM (setM MP x.toNat y) y.toNat x) := MapIn.keep hMY hKZ (by decide) (by decide) (by decide) (by decide) (by decide) (by decide)
                  exact ⟨rfl, hKZ.1, _, _, by rw [setM_length, setM_length]; exact hMl, mirFit_set hfit hr, (hlike.set_ _ _).set_ _ _, hPZ, hMZ⟩
            have hMd : MapP wr.drew w.heap.size w.heap.size MP ∧ MapR wr.drew w.heap.size (W1.heap.size) MR := ⟨HMP.out.below (Below.refl _ _).drew hB.size, HMR.out.below (Below.refl _ _).drew hB.size⟩
            clear hc HMP HMR
            go_wp2_with fail
            refine wp_region_held_drew (S := fun X => Below w.heap.size w X) mixed hB.drew (fun hS => ?_)
            generalize wr.drew = Xd at *
            refine takeD 0 (some 57) (v := ?_) rfl rfl (by kernel_rfl) (by kernel_rfl) (by kernel_rfl) (fun _ _ _ h => h) (Or.inl ⟨by rfl, ?_⟩) hS ?_
            rotate_left
            · intro w hSw
              try go_simp
              with_reducible rfl
            try simp only [Act.put, List.setIfInBounds_toArray, List.set_cons_zero, List.set_cons_succ]
            refine takeD 1 (some 58) (v := ?_) rfl rfl (by kernel_rfl) (by kernel_rfl) (by kernel_rfl) (fun _ _ _ h => h) (Or.inl ⟨by rfl, ?_⟩) hS ?_
            rotate_left
            · intro w hSw
              try go_simp
              with_reducible rfl
            try simp only [Act.put, List.setIfInBounds_toArray, List.set_cons_zero, List.set_cons_succ]
            refine takeD 2 (some 59) (v := ?_) rfl rfl (by kernel_rfl) (by kernel_rfl) (by kernel_rfl) (fun _ _ _ h => h) (Or.inl ⟨by rfl, ?_⟩) hS ?_
            rotate_left
            · intro w hSw
              try go_simp
              with_reducible rfl
            try simp only [Act.put, List.setIfInBounds_toArray, List.set_cons_zero, List.set_cons_succ]
            refine takeD 3 (some 60) (v := ?_) rfl rfl (by kernel_rfl) (by kernel_rfl) (by kernel_rfl) (fun _ _ _ h => h) (Or.inl ⟨by rfl, ?_⟩) hS ?_
            rotate_left
            · intro w hSw
              go_simp
              with_reducible rfl
            try simp only [Act.put, List.setIfInBounds_toArray, List.set_cons_zero, List.set_cons_succ]
            refine takeD 4 (some 61) (v := ?_) rfl rfl (by kernel_rfl) (by kernel_rfl) (by kernel_rfl) (fun _ _ _ h => h) (Or.inl ⟨by rfl, ?_⟩) hS ?_
            rotate_left
            · intro w hSw
              go_simp
              with_reducible rfl
            try simp only [Act.put, List.setIfInBounds_toArray, List.set_cons_zero, List.set_cons_succ]
            refine takeD 5 (some 62) (v := ?_) rfl rfl (by kernel_rfl) (by kernel_rfl) (by kernel_rfl) (fun _ _ _ h => h) (Or.inl ⟨by rfl, ?_⟩) hS ?_
            rotate_left
            · intro w hSw
              obtain ⟨c0, c1⟩ := HC.out _ hSw
              go_simp
              with_reducible rfl
            try simp only [Act.put, List.setIfInBounds_toArray, List.set_cons_zero, List.set_cons_succ]
            refine takeD 6 (some 63) (v := ?_) rfl rfl (by kernel_rfl) (by kernel_rfl) (by kernel_rfl) (fun _ _ _ h => h) (Or.inl ⟨by rfl, ?_⟩) hS ?_
            rotate_left
            · intro w hSw
              try go_simp
              with_reducible rfl
            try simp only [Act.put, List.setIfInBounds_toArray, List.set_cons_zero, List.set_cons_succ]
            refine takeD 7 (some 64) (v := ?_) rfl rfl (by kernel_rfl) (by kernel_rfl) (by kernel_rfl) (fun _ _ _ h => h) (Or.inl ⟨by rfl, ?_⟩) hS ?_
            rotate_left
            · intro w hSw
              try go_simp
              with_reducible rfl
            try simp only [Act.put, List.setIfInBounds_toArray, List.set_cons_zero, List.set_cons_succ]
            refine takeD 8 (some 65) (v := ?_) rfl rfl (by kernel_rfl) (by kernel_rfl) (by kernel_rfl) (fun _ _ _ h => h) (Or.inl ⟨by rfl, ?_⟩) hS ?_
            rotate_left
            · intro w hSw
              go_simp
              with_reducible rfl
            try simp only [Act.put, List.setIfInBounds_toArray, List.set_cons_zero, List.set_cons_succ]
            refine takeD 9 (some 66) (v := ?_) rfl rfl (by kernel_rfl) (by kernel_rfl) (by kernel_rfl) (fun _ _ _ h => h) (Or.inl ⟨by rfl, ?_⟩) hS ?_
            rotate_left
            · intro w hSw
              go_simp
              with_reducible rfl
            try simp only [Act.put, List.setIfInBounds_toArray, List.set_cons_zero, List.set_cons_succ]
            refine takeD 10 (some 67) (v := ?_) rfl rfl (by kernel_rfl) (by kernel_rfl) (by kernel_rfl) (fun _ _ _ h => h) (Or.inl ⟨by rfl, ?_⟩) hS ?_
            rotate_left
            · intro w hSw
              obtain ⟨c0, c1⟩ := HC.out _ hSw
              go_simp
              with_reducible rfl
            try simp only [Act.put, List.setIfInBounds_toArray, List.set_cons_zero, List.set_cons_succ]
            refine takeD 12 (some 69) (v := ?_) rfl rfl (by kernel_rfl) (by kernel_rfl) (by kernel_rfl) (fun _ _ _ h => h) (Or.inl ⟨by rfl, ?_⟩) hS ?_
            rotate_left
            · intro w hSw
              try go_simp
              with_reducible rfl
            try simp only [Act.put, List.setIfInBounds_toArray, List.set_cons_zero, List.set_cons_succ]
            refine takeD 13 (some 70) (v := ?_) rfl rfl (by kernel_rfl) (by kernel_rfl) (by kernel_rfl) (fun _ _ _ h => h) (Or.inl ⟨by rfl, ?_⟩) hS ?_
            rotate_left
            · intro w hSw
              try go_simp
              with_reducible rfl
            try simp only [Act.put, List.setIfInBounds_toArray, List.set_cons_zero, List.set_cons_succ]
            refine takeD 14 (some 71) (v := ?_) rfl rfl (by kernel_rfl) (by kernel_rfl) (by kernel_rfl) (fun _ _ _ h => h) (Or.inl ⟨by rfl, ?_⟩) hS ?_
            rotate_left
            · intro w hSw
              try go_simp
              with_reducible rfl
            try simp only [Act.put, List.setIfInBounds_toArray, List.set_cons_zero, List.set_cons_succ]
            refine takeD 15 (some 72) (v := ?_) rfl rfl (by kernel_rfl) (by kernel_rfl) (by kernel_rfl) (fun _ _ _ h => h) (Or.inl ⟨by rfl, ?_⟩) hS ?_
            rotate_left
            · intro w hSw
              go_simp
              with_reducible rfl
            try simp only [Act.put, List.setIfInBounds_toArray, List.set_cons_zero, List.set_cons_succ]
            refine takeD 16 (some 73) (v := ?_) rfl rfl (by kernel_rfl) (by kernel_rfl) (by kernel_rfl) (fun _ _ _ h => h) (Or.inl ⟨by rfl, ?_⟩) hS ?_
            rotate_left
            · intro w hSw
              go_simp
              with_reducible rfl
            try simp only [Act.put, List.setIfInBounds_toArray, List.set_cons_zero, List.set_cons_succ]
            refine takeD 17 (some 74) (v := ?_) rfl rfl (by kernel_rfl) (by kernel_rfl) (by kernel_rfl) (fun _ _ _ h => h) (Or.inl ⟨by rfl, ?_⟩) hS ?_
            rotate_left
            · intro w hSw
              obtain ⟨c0, c1⟩ := HC.out _ hSw
              go_simp
              with_reducible rfl
            try simp only [Act.put, List.setIfInBounds_toArray, List.set_cons_zero, List.set_cons_succ]
            refine takeD 18 (some 75) (v := ?_) rfl rfl (by kernel_rfl) (by kernel_rfl) (by kernel_rfl) (fun _ _ _ h => h) (Or.inl ⟨by rfl, ?_⟩) hS ?_
            rotate_left
            · intro w hSw
              try go_simp
              with_reducible rfl
            try simp only [Act.put, List.setIfInBounds_toArray, List.set_cons_zero, List.set_cons_succ]
            refine takeD 19 (some 76) (v := ?_) rfl rfl (by kernel_rfl) (by kernel_rfl) (by kernel_rfl) (fun _ _ _ h => h) (Or.inl ⟨by rfl, ?_⟩) hS ?_
            rotate_left
            · intro w hSw
              try go_simp
              with_reducible rfl
            try simp only [Act.put, List.setIfInBounds_toArray, List.set_cons_zero, List.set_cons_succ]
            refine takeD 20 (some 77) (v := ?_) rfl rfl (by kernel_rfl) (by kernel_rfl) (by kernel_rfl) (fun _ _ _ h => h) (Or.inl ⟨by rfl, ?_⟩) hS ?_
            rotate_left
            · intro w hSw
              go_simp
              with_reducible rfl
            try simp only [Act.put, List.setIfInBounds_toArray, List.set_cons_zero, List.set_cons_succ]
            refine takeD 21 (some 78) (v := ?_) rfl rfl (by kernel_rfl) (by kernel_rfl) (by kernel_rfl) (fun _ _ _ h => h) (Or.inl ⟨by rfl, ?_⟩) hS ?_
            rotate_left
            · intro w hSw
              go_simp
              with_reducible rfl
            try simp only [Act.put, List.setIfInBounds_toArray, List.set_cons_zero, List.set_cons_succ]
            refine takeD 22 (some 79) (v := ?_) rfl rfl (by kernel_rfl) (by kernel_rfl) (by kernel_rfl) (fun _ _ _ h => h) (Or.inl ⟨by rfl, ?_⟩) hS ?_
            rotate_left
            · intro w hSw
              obtain ⟨c0, c1⟩ := HC.out _ hSw
              go_simp
              with_reducible rfl
            try simp only [Act.put, List.setIfInBounds_toArray, List.set_cons_zero, List.set_cons_succ]
            refine callD 11 (by kernel_rfl) rfl (fun K hK => ?_)
            go_simp
            refine (HMIR.out Xd hMd hS).mono ?_
            rintro e Y HY
            obtain ⟨c, rfl, hYB, HNX⟩ := HY
            have hY := hS.trans hYB
            refine hK.out _ _ hY (fun _ => ?_)
            clear hK K
            try simp only [Act.put, List.setIfInBounds_toArray, List.set_cons_zero, List.set_cons_succ]
            refine callD 23 (by kernel_rfl) rfl (fun K hK => ?_)
            go_simp
            refine HNX.out.mono ?_
            rintro e Z ⟨rfl, hZB, HEND⟩
            have hZ := hY.trans hZB
            refine hK.out _ _ hZ (fun _ => ?_)
            clear hK K
            try simp only [Act.put, List.setIfInBounds_toArray, List.set_cons_zero, List.set_cons_succ]
            refine takeD 24 (some 81) (v := ?_) rfl rfl (by kernel_rfl) (by kernel_rfl) (by kernel_rfl) (fun _ _ _ h => h) (Or.inl ⟨by rfl, ?_⟩) hZ ?_
            rotate_left
            · intro w hSw
              go_simp
              try simp only [hg, hq, he, hn]
              with_reducible rfl
            try simp only [Act.put, List.setIfInBounds_toArray, List.set_cons_zero, List.set_cons_succ]
            refine wpAnyH_done (by kernel_rfl) ?_ _
            have ec : (c != c) = false := by simp
            obtain ⟨MP', MR', n1, n2, n3, n4, n5⟩ := HEND.out
            have N4 := Hid.mk_ n4
            have N5 := Hid.mk_ n5
            have N2 := Hid.mk_ n2
            have N3 := Hid.mk_ n3
            clear n2 n3 n4 n5 HEND HNX HMIR
            go_wp2
            go_roundw
            case rel => exact ⟨k + 1, MP', MR', by go_num, by omega, by omega, N2.out, N3.out, N4.out, N5.out, hZ⟩
            case measure => simp [intOf]; omega
          · have hnl : ¬ ((k : Int) < 50) := by omega
            have hll := hlike.len
            have cP := mmap_calls w.heap.size w.heap.size MP from' p side wr HMP.out (by omega) (fun i hi => (hfit i hi).2.1) hB.size
            have HR : Hid (∀ X, Below wr.heap.size wr X → Calls Try.prog 25 #[.pointer (some ⟨W1.heap.size, 0, none⟩), .int .i64 from', .int .i64 p, .int .i64 side] X fun e w' => e = .returned (mmV (mmR MP from' p side)) ∧ Below X.heap.size X w') := fun X hX => by
              rw [hlike.mm]
              exact refmm_calls w.heap.size (W1.heap.size) MR from' p side X (HMR.out.below hX hB.size) (by omega) (fun i hi => by
                have := hfit i (by omega)
                rw [← hlike.mir]
                omega) (Nat.le_trans hB.size hX.size)
            have HLEN : Hid (∀ X, Below wr.heap.size wr X → Calls Try.prog 26 #[.pointer (some ⟨w.heap.size, 0, none⟩)] X fun e w' => e = .returned (.int .i64 (MP.length : Int)) ∧ w' = X) := fun X hX => len_calls w.heap.size w.heap.size MP X (HMP.out.below hX hB.size)
            obtain ⟨aB, cB, hBB⟩ := HMR.out.len_
            rw [← hll] at hBB
            have HL : Hid (∀ X, Below wr.heap.size wr X → X.cell? ⟨W1.heap.size, 0, none⟩ = some (.slice aB MP.length cB)) := fun X hX => cell_of_row X (W1.heap.size) 0 _ _ _ ((hX.block _ (Array.getElem?_eq_some_iff.1 hBB).1).trans hBB)
            obtain ⟨s0, s1, s2, s3, e1, hmv⟩ : ∃ s0 s1 s2 s3 e1, mmV (mmR MP from' p side) = .tuple #[.agg #[.int .i64 s0, .bool s1, .int .i64 s2, .int .i64 s3], .int .i64 e1] := by
              cases mmR MP from' p side with
              | none => exact ⟨_, _, _, _, _, rfl⟩
              | some r => obtain ⟨q, g⟩ := r; exact ⟨_, _, _, _, _, rfl⟩
            rw [hmv] at cP HR
            generalize MP.length = n at *
            clear hmv hBB hfit hlike HMP HMR hll hMl
            have hg := fun (x y : Operand) (xs ys : Array Value) (W : World) => spot_eqGuard .eql x y xs ys W
            have hq := fun W => spot_self s0 s1 s2 s3 W
            have he : (e1 == e1) = true := by simp
            have hn : ((n : Int) == (n : Int)) = true := by simp
            go_wp2_with fail
            refine cP.mono ?_
            rintro e U1 ⟨rfl, hB1⟩
            obtain ⟨V1, hV1⟩ : ∃ V1, U1.alloc (.cells #[.int .i64 s0, .bool s1, .int .i64 s2, .int .i64 s3] 24) = V1 := ⟨_, rfl⟩
            have hC1 : Below wr.heap.size wr V1 := by rw [← hV1]; exact hB1.alloc hB1.size _
            have m1 : V1.heap[U1.heap.size]? = some (.cells #[.int .i64 s0, .bool s1, .int .i64 s2, .int .i64 s3] 24 (0, 0)) := by rw [← hV1]; exact World.alloc_heap_new U1 _
            have l1 : U1.heap.size < V1.heap.size := (Array.getElem?_eq_some_iff.1 m1).1
            have HV1 : Hid (U1.alloc (.cells #[.int .i64 s0, .bool s1, .int .i64 s2, .int .i64 s3] 24) = V1) := hV1
            clear hV1 cP
            go_wp2_with fail
            rw [HV1.out]
            refine (HR.out _ hC1).mono ?_
            rintro e U2 ⟨rfl, hB2⟩
            have m2 := (hB2.block _ l1).trans m1
            have l2 : U1.heap.size < U2.heap.size := Nat.lt_of_lt_of_le l1 hB2.size
            have hC2 := hC1.trans (hB2.mono hC1.size)
            obtain ⟨V2, hV2⟩ : ∃ V2, U2.alloc (.cells #[.int .i64 s0, .bool s1, .int .i64 s2, .int .i64 s3] 24) = V2 := ⟨_, rfl⟩
            have hB2a : Below U2.heap.size U2 V2 := by rw [← hV2]; exact (Below.refl _ _).alloc (Nat.le_refl _) _
            have hC2a : Below wr.heap.size wr V2 := hC2.trans (hB2a.mono hC2.size)
            have m3 : V2.heap[U2.heap.size]? = some (.cells #[.int .i64 s0, .bool s1, .int .i64 s2, .int .i64 s3] 24 (0, 0)) := by rw [← hV2]; exact World.alloc_heap_new U2 _
            have m2' := (hB2a.block _ l2).trans m2
            have l4 : U1.heap.size < V2.heap.size := (Array.getElem?_eq_some_iff.1 m2').1
            have l5 : U2.heap.size < V2.heap.size := (Array.getElem?_eq_some_iff.1 m3).1
            have HK17 : Hid (∀ Y, Below V2.heap.size V2 Y → _) := fun Y (hY : Below V2.heap.size V2 Y) => (⟨cells4 ((hY.block _ l4).trans m2'), cells4 ((hY.block _ l5).trans m3), HL.out Y (hC2a.trans (hY.mono hC2a.size))⟩ : (_ ∧ _ ∧ _ ∧ _) ∧ (_ ∧ _ ∧ _ ∧ _) ∧ _)
            have hCw : Below w.heap.size w V2 := hB.trans (hC2a.mono hB.size)
            have HV2 : Hid (U2.alloc (.cells #[.int .i64 s0, .bool s1, .int .i64 s2, .int .i64 s3] 24) = V2) := hV2
            clear hV2 m1 m2 m3 m2' HR HV1 HL
            go_wp2_with fail
            rw [HV2.out]
            refine wp_region_held_drew (S := fun Y => Below V2.heap.size V2 Y) mixed (Below.refl _ _).drew (fun hS => ?_)
            generalize V2.drew = Xd at *
            refine takeD 0 (some 98) (v := ?_) rfl rfl (by kernel_rfl) (by kernel_rfl) (by kernel_rfl) (fun _ _ _ h => h) (Or.inl ⟨by rfl, ?_⟩) hS ?_
            rotate_left
            · intro w hSw
              obtain ⟨⟨j0, j1, j2, j3⟩, ⟨i0, i1, i2, i3⟩, lc⟩ := HK17.out _ hSw
              go_simp
              with_reducible rfl
            try simp only [Act.put, List.setIfInBounds_toArray, List.set_cons_zero, List.set_cons_succ]
            refine takeD 1 (some 99) (v := ?_) rfl rfl (by kernel_rfl) (by kernel_rfl) (by kernel_rfl) (fun _ _ _ h => h) (Or.inl ⟨by rfl, ?_⟩) hS ?_
            rotate_left
            · intro w hSw
              obtain ⟨⟨j0, j1, j2, j3⟩, ⟨i0, i1, i2, i3⟩, lc⟩ := HK17.out _ hSw
              go_simp
              with_reducible rfl
            try simp only [Act.put, List.setIfInBounds_toArray, List.set_cons_zero, List.set_cons_succ]
            refine takeD 2 (some 100) (v := ?_) rfl rfl (by kernel_rfl) (by kernel_rfl) (by kernel_rfl) (fun _ _ _ h => h) (Or.inl ⟨by rfl, ?_⟩) hS ?_
            rotate_left
            · intro w hSw
              go_simp
              try simp only [hg, hq, he, hn]
              with_reducible rfl
            try simp only [Act.put, List.setIfInBounds_toArray, List.set_cons_zero, List.set_cons_succ]
            refine takeD 3 (some 101) (v := ?_) rfl rfl (by kernel_rfl) (by kernel_rfl) (by kernel_rfl) (fun _ _ _ h => h) (Or.inl ⟨by rfl, ?_⟩) hS ?_
            rotate_left
            · intro w hSw
              try go_simp
              with_reducible rfl
            try simp only [Act.put, List.setIfInBounds_toArray, List.set_cons_zero, List.set_cons_succ]
            refine takeD 4 (some 102) (v := ?_) rfl rfl (by kernel_rfl) (by kernel_rfl) (by kernel_rfl) (fun _ _ _ h => h) (Or.inl ⟨by rfl, ?_⟩) hS ?_
            rotate_left
            · intro w hSw
              try go_simp
              with_reducible rfl
            try simp only [Act.put, List.setIfInBounds_toArray, List.set_cons_zero, List.set_cons_succ]
            refine takeD 5 (some 103) (v := ?_) rfl rfl (by kernel_rfl) (by kernel_rfl) (by kernel_rfl) (fun _ _ _ h => h) (Or.inl ⟨by rfl, ?_⟩) hS ?_
            rotate_left
            · intro w hSw
              try go_simp
              with_reducible rfl
            try simp only [Act.put, List.setIfInBounds_toArray, List.set_cons_zero, List.set_cons_succ]
            refine takeD 6 (some 104) (v := ?_) rfl rfl (by kernel_rfl) (by kernel_rfl) (by kernel_rfl) (fun _ _ _ h => h) (Or.inl ⟨by rfl, ?_⟩) hS ?_
            rotate_left
            · intro w hSw
              go_simp
              try simp only [hg, hq, he, hn]
              with_reducible rfl
            try simp only [Act.put, List.setIfInBounds_toArray, List.set_cons_zero, List.set_cons_succ]
            refine takeD 7 (some 105) (v := ?_) rfl rfl (by kernel_rfl) (by kernel_rfl) (by kernel_rfl) (fun _ _ _ h => h) (Or.inl ⟨by rfl, ?_⟩) hS ?_
            rotate_left
            · intro w hSw
              go_simp
              with_reducible rfl
            try simp only [Act.put, List.setIfInBounds_toArray, List.set_cons_zero, List.set_cons_succ]
            refine takeD 8 (some 106) (v := ?_) rfl rfl (by kernel_rfl) (by kernel_rfl) (by kernel_rfl) (fun _ _ _ h => h) (Or.inl ⟨by rfl, ?_⟩) hS ?_
            rotate_left
            · intro w hSw
              try go_simp
              with_reducible rfl
            try simp only [Act.put, List.setIfInBounds_toArray, List.set_cons_zero, List.set_cons_succ]
            refine takeD 9 (some 107) (v := ?_) rfl rfl (by kernel_rfl) (by kernel_rfl) (by kernel_rfl) (fun _ _ _ h => h) (Or.inl ⟨by rfl, ?_⟩) hS ?_
            rotate_left
            · intro w hSw
              try go_simp
              with_reducible rfl
            try simp only [Act.put, List.setIfInBounds_toArray, List.set_cons_zero, List.set_cons_succ]
            refine takeD 11 (some 109) (v := ?_) rfl rfl (by kernel_rfl) (by kernel_rfl) (by kernel_rfl) (fun _ _ _ h => h) (Or.inl ⟨by rfl, ?_⟩) hS ?_
            rotate_left
            · intro w hSw
              try go_simp
              with_reducible rfl
            try simp only [Act.put, List.setIfInBounds_toArray, List.set_cons_zero, List.set_cons_succ]
            refine takeD 12 (some 110) (v := ?_) rfl rfl (by kernel_rfl) (by kernel_rfl) (by kernel_rfl) (fun _ _ _ h => h) (Or.inl ⟨by rfl, ?_⟩) hS ?_
            rotate_left
            · intro w hSw
              go_simp
              with_reducible rfl
            try simp only [Act.put, List.setIfInBounds_toArray, List.set_cons_zero, List.set_cons_succ]
            refine takeD 13 (some 111) (v := ?_) rfl rfl (by kernel_rfl) (by kernel_rfl) (by kernel_rfl) (fun _ _ _ h => h) (Or.inl ⟨by rfl, ?_⟩) hS ?_
            rotate_left
            · intro w hSw
              go_simp
              with_reducible rfl
            try simp only [Act.put, List.setIfInBounds_toArray, List.set_cons_zero, List.set_cons_succ]
            refine takeD 14 (some 112) (v := ?_) rfl rfl (by kernel_rfl) (by kernel_rfl) (by kernel_rfl) (fun _ _ _ h => h) (Or.inl ⟨by rfl, ?_⟩) hS ?_
            rotate_left
            · intro w hSw
              obtain ⟨⟨j0, j1, j2, j3⟩, ⟨i0, i1, i2, i3⟩, lc⟩ := HK17.out _ hSw
              go_simp
              with_reducible rfl
            try simp only [Act.put, List.setIfInBounds_toArray, List.set_cons_zero, List.set_cons_succ]
            refine takeD 15 (some 113) (v := ?_) rfl rfl (by kernel_rfl) (by kernel_rfl) (by kernel_rfl) (fun _ _ _ h => h) (Or.inl ⟨by rfl, ?_⟩) hS ?_
            rotate_left
            · intro w hSw
              go_simp
              with_reducible rfl
            try simp only [Act.put, List.setIfInBounds_toArray, List.set_cons_zero, List.set_cons_succ]
            refine callD 10 (by kernel_rfl) rfl (fun K hK => ?_)
            rw [if_pos (by rfl)]
            go_simp
            refine (HLEN.out Xd (hC2a.trans (hS.mono hC2a.size))).mono ?_
            rintro e Y ⟨rfl, hY⟩
            rw [hY]
            clear hY Y
            refine hK.out _ _ hS (fun _ => ?_)
            clear hK K
            try simp only [Act.put, List.setIfInBounds_toArray, List.set_cons_zero, List.set_cons_succ]
            refine takeD 16 (some 114) (v := ?_) rfl rfl (by kernel_rfl) (by kernel_rfl) (by kernel_rfl) (fun _ _ _ h => h) (Or.inl ⟨by rfl, ?_⟩) hS ?_
            rotate_left
            · intro w hSw
              go_simp
              try simp only [hg, hq, he, hn]
              with_reducible rfl
            try simp only [Act.put, List.setIfInBounds_toArray, List.set_cons_zero, List.set_cons_succ]
            refine takeD 17 (some 115) (v := ?_) rfl rfl (by kernel_rfl) (by kernel_rfl) (by kernel_rfl) (fun _ _ _ h => h) (Or.inl ⟨by rfl, ?_⟩) hS ?_
            rotate_left
            · intro w hSw
              go_simp
              with_reducible rfl
            try simp only [Act.put, List.setIfInBounds_toArray, List.set_cons_zero, List.set_cons_succ]
            refine takeD 18 (some 116) (v := ?_) rfl rfl (by kernel_rfl) (by kernel_rfl) (by kernel_rfl) (fun _ _ _ h => h) (Or.inl ⟨by rfl, ?_⟩) hS ?_
            rotate_left
            · intro w hSw
              try go_simp
              with_reducible rfl
            try simp only [Act.put, List.setIfInBounds_toArray, List.set_cons_zero, List.set_cons_succ]
            refine callD 19 (by kernel_rfl) rfl (fun K hK => ?_)
            rw [if_pos (by rfl)]
            go_simp
            refine (awake_calls _).mono ?_
            rintro e W9 ⟨rfl, hB9⟩
            have hS9 := hS.trans (hB9.mono hS.size)
            refine hK.out _ _ hS9 (fun _ => ?_)
            clear hK K
            try simp only [Act.put, List.setIfInBounds_toArray, List.set_cons_zero, List.set_cons_succ]
            refine takeD 20 (some 118) (v := ?_) rfl rfl (by kernel_rfl) (by kernel_rfl) (by kernel_rfl) (fun _ _ _ h => h) (Or.inl ⟨by rfl, ?_⟩) hS9 ?_
            rotate_left
            · intro w hSw
              go_simp
              with_reducible rfl
            try simp only [Act.put, List.setIfInBounds_toArray, List.set_cons_zero, List.set_cons_succ]
            refine takeD 21 (some 10) (v := ?_) rfl rfl (by kernel_rfl) (by kernel_rfl) (by kernel_rfl) (fun _ _ _ h => h) (Or.inl ⟨by rfl, ?_⟩) hS9 ?_
            rotate_left
            · intro w hSw
              try go_simp
              with_reducible rfl
            try simp only [Act.put, List.setIfInBounds_toArray, List.set_cons_zero, List.set_cons_succ]
            refine wpAnyH_done (by kernel_rfl) ?_ _
            go_wp2
            go_ret
            exact ⟨rfl, hCw.trans (hS9.mono hCw.size)⟩
        · have hnl : ¬ ((k : Int) < (lm : Int)) := by omega
          have hll := hlike.len
          have cP := mmap_calls w.heap.size w.heap.size MP from' p side wr HMP.out (by omega) (fun i hi => (hfit i hi).2.1) hB.size
          have HR : Hid (∀ X, Below wr.heap.size wr X → Calls Try.prog 25 #[.pointer (some ⟨W1.heap.size, 0, none⟩), .int .i64 from', .int .i64 p, .int .i64 side] X fun e w' => e = .returned (mmV (mmR MP from' p side)) ∧ Below X.heap.size X w') := fun X hX => by
            rw [hlike.mm]
            exact refmm_calls w.heap.size (W1.heap.size) MR from' p side X (HMR.out.below hX hB.size) (by omega) (fun i hi => by
              have := hfit i (by omega)
              rw [← hlike.mir]
              omega) (Nat.le_trans hB.size hX.size)
          have HLEN : Hid (∀ X, Below wr.heap.size wr X → Calls Try.prog 26 #[.pointer (some ⟨w.heap.size, 0, none⟩)] X fun e w' => e = .returned (.int .i64 (MP.length : Int)) ∧ w' = X) := fun X hX => len_calls w.heap.size w.heap.size MP X (HMP.out.below hX hB.size)
          obtain ⟨aB, cB, hBB⟩ := HMR.out.len_
          rw [← hll] at hBB
          have HL : Hid (∀ X, Below wr.heap.size wr X → X.cell? ⟨W1.heap.size, 0, none⟩ = some (.slice aB MP.length cB)) := fun X hX => cell_of_row X (W1.heap.size) 0 _ _ _ ((hX.block _ (Array.getElem?_eq_some_iff.1 hBB).1).trans hBB)
          obtain ⟨s0, s1, s2, s3, e1, hmv⟩ : ∃ s0 s1 s2 s3 e1, mmV (mmR MP from' p side) = .tuple #[.agg #[.int .i64 s0, .bool s1, .int .i64 s2, .int .i64 s3], .int .i64 e1] := by
            cases mmR MP from' p side with
            | none => exact ⟨_, _, _, _, _, rfl⟩
            | some r => obtain ⟨q, g⟩ := r; exact ⟨_, _, _, _, _, rfl⟩
          rw [hmv] at cP HR
          generalize MP.length = n at *
          clear hmv hBB hfit hlike HMP HMR hll hMl
          have hg := fun (x y : Operand) (xs ys : Array Value) (W : World) => spot_eqGuard .eql x y xs ys W
          have hq := fun W => spot_self s0 s1 s2 s3 W
          have he : (e1 == e1) = true := by simp
          have hn : ((n : Int) == (n : Int)) = true := by simp
          go_wp2_with fail
          refine cP.mono ?_
          rintro e U1 ⟨rfl, hB1⟩
          obtain ⟨V1, hV1⟩ : ∃ V1, U1.alloc (.cells #[.int .i64 s0, .bool s1, .int .i64 s2, .int .i64 s3] 24) = V1 := ⟨_, rfl⟩
          have hC1 : Below wr.heap.size wr V1 := by rw [← hV1]; exact hB1.alloc hB1.size _
          have m1 : V1.heap[U1.heap.size]? = some (.cells #[.int .i64 s0, .bool s1, .int .i64 s2, .int .i64 s3] 24 (0, 0)) := by rw [← hV1]; exact World.alloc_heap_new U1 _
          have l1 : U1.heap.size < V1.heap.size := (Array.getElem?_eq_some_iff.1 m1).1
          have HV1 : Hid (U1.alloc (.cells #[.int .i64 s0, .bool s1, .int .i64 s2, .int .i64 s3] 24) = V1) := hV1
          clear hV1 cP
          go_wp2_with fail
          rw [HV1.out]
          refine (HR.out _ hC1).mono ?_
          rintro e U2 ⟨rfl, hB2⟩
          have m2 := (hB2.block _ l1).trans m1
          have l2 : U1.heap.size < U2.heap.size := Nat.lt_of_lt_of_le l1 hB2.size
          have hC2 := hC1.trans (hB2.mono hC1.size)
          obtain ⟨V2, hV2⟩ : ∃ V2, U2.alloc (.cells #[.int .i64 s0, .bool s1, .int .i64 s2, .int .i64 s3] 24) = V2 := ⟨_, rfl⟩
          have hB2a : Below U2.heap.size U2 V2 := by rw [← hV2]; exact (Below.refl _ _).alloc (Nat.le_refl _) _
          have hC2a : Below wr.heap.size wr V2 := hC2.trans (hB2a.mono hC2.size)
          have m3 : V2.heap[U2.heap.size]? = some (.cells #[.int .i64 s0, .bool s1, .int .i64 s2, .int .i64 s3] 24 (0, 0)) := by rw [← hV2]; exact World.alloc_heap_new U2 _
          have m2' := (hB2a.block _ l2).trans m2
          have l4 : U1.heap.size < V2.heap.size := (Array.getElem?_eq_some_iff.1 m2').1
          have l5 : U2.heap.size < V2.heap.size := (Array.getElem?_eq_some_iff.1 m3).1
          have HK17 : Hid (∀ Y, Below V2.heap.size V2 Y → _) := fun Y (hY : Below V2.heap.size V2 Y) => (⟨cells4 ((hY.block _ l4).trans m2'), cells4 ((hY.block _ l5).trans m3), HL.out Y (hC2a.trans (hY.mono hC2a.size))⟩ : (_ ∧ _ ∧ _ ∧ _) ∧ (_ ∧ _ ∧ _ ∧ _) ∧ _)
          have hCw : Below w.heap.size w V2 := hB.trans (hC2a.mono hB.size)
          have HV2 : Hid (U2.alloc (.cells #[.int .i64 s0, .bool s1, .int .i64 s2, .int .i64 s3] 24) = V2) := hV2
          clear hV2 m1 m2 m3 m2' HR HV1 HL
          go_wp2_with fail
          rw [HV2.out]
          refine wp_region_held_drew (S := fun Y => Below V2.heap.size V2 Y) mixed (Below.refl _ _).drew (fun hS => ?_)
          generalize V2.drew = Xd at *
          refine takeD 0 (some 98) (v := ?_) rfl rfl (by kernel_rfl) (by kernel_rfl) (by kernel_rfl) (fun _ _ _ h => h) (Or.inl ⟨by rfl, ?_⟩) hS ?_
          rotate_left
          · intro w hSw
            obtain ⟨⟨j0, j1, j2, j3⟩, ⟨i0, i1, i2, i3⟩, lc⟩ := HK17.out _ hSw
            go_simp
            with_reducible rfl
          try simp only [Act.put, List.setIfInBounds_toArray, List.set_cons_zero, List.set_cons_succ]
          refine takeD 1 (some 99) (v := ?_) rfl rfl (by kernel_rfl) (by kernel_rfl) (by kernel_rfl) (fun _ _ _ h => h) (Or.inl ⟨by rfl, ?_⟩) hS ?_
          rotate_left
          · intro w hSw
            obtain ⟨⟨j0, j1, j2, j3⟩, ⟨i0, i1, i2, i3⟩, lc⟩ := HK17.out _ hSw
            go_simp
            with_reducible rfl
          try simp only [Act.put, List.setIfInBounds_toArray, List.set_cons_zero, List.set_cons_succ]
          refine takeD 2 (some 100) (v := ?_) rfl rfl (by kernel_rfl) (by kernel_rfl) (by kernel_rfl) (fun _ _ _ h => h) (Or.inl ⟨by rfl, ?_⟩) hS ?_
          rotate_left
          · intro w hSw
            go_simp
            try simp only [hg, hq, he, hn]
            with_reducible rfl
          try simp only [Act.put, List.setIfInBounds_toArray, List.set_cons_zero, List.set_cons_succ]
          refine takeD 3 (some 101) (v := ?_) rfl rfl (by kernel_rfl) (by kernel_rfl) (by kernel_rfl) (fun _ _ _ h => h) (Or.inl ⟨by rfl, ?_⟩) hS ?_
          rotate_left
          · intro w hSw
            try go_simp
            with_reducible rfl
          try simp only [Act.put, List.setIfInBounds_toArray, List.set_cons_zero, List.set_cons_succ]
          refine takeD 4 (some 102) (v := ?_) rfl rfl (by kernel_rfl) (by kernel_rfl) (by kernel_rfl) (fun _ _ _ h => h) (Or.inl ⟨by rfl, ?_⟩) hS ?_
          rotate_left
          · intro w hSw
            try go_simp
            with_reducible rfl
          try simp only [Act.put, List.setIfInBounds_toArray, List.set_cons_zero, List.set_cons_succ]
          refine takeD 5 (some 103) (v := ?_) rfl rfl (by kernel_rfl) (by kernel_rfl) (by kernel_rfl) (fun _ _ _ h => h) (Or.inl ⟨by rfl, ?_⟩) hS ?_
          rotate_left
          · intro w hSw
            try go_simp
            with_reducible rfl
          try simp only [Act.put, List.setIfInBounds_toArray, List.set_cons_zero, List.set_cons_succ]
          refine takeD 6 (some 104) (v := ?_) rfl rfl (by kernel_rfl) (by kernel_rfl) (by kernel_rfl) (fun _ _ _ h => h) (Or.inl ⟨by rfl, ?_⟩) hS ?_
          rotate_left
          · intro w hSw
            go_simp
            try simp only [hg, hq, he, hn]
            with_reducible rfl
          try simp only [Act.put, List.setIfInBounds_toArray, List.set_cons_zero, List.set_cons_succ]
          refine takeD 7 (some 105) (v := ?_) rfl rfl (by kernel_rfl) (by kernel_rfl) (by kernel_rfl) (fun _ _ _ h => h) (Or.inl ⟨by rfl, ?_⟩) hS ?_
          rotate_left
          · intro w hSw
            go_simp
            with_reducible rfl
          try simp only [Act.put, List.setIfInBounds_toArray, List.set_cons_zero, List.set_cons_succ]
          refine takeD 8 (some 106) (v := ?_) rfl rfl (by kernel_rfl) (by kernel_rfl) (by kernel_rfl) (fun _ _ _ h => h) (Or.inl ⟨by rfl, ?_⟩) hS ?_
          rotate_left
          · intro w hSw
            try go_simp
            with_reducible rfl
          try simp only [Act.put, List.setIfInBounds_toArray, List.set_cons_zero, List.set_cons_succ]
          refine takeD 9 (some 107) (v := ?_) rfl rfl (by kernel_rfl) (by kernel_rfl) (by kernel_rfl) (fun _ _ _ h => h) (Or.inl ⟨by rfl, ?_⟩) hS ?_
          rotate_left
          · intro w hSw
            try go_simp
            with_reducible rfl
          try simp only [Act.put, List.setIfInBounds_toArray, List.set_cons_zero, List.set_cons_succ]
          refine takeD 11 (some 109) (v := ?_) rfl rfl (by kernel_rfl) (by kernel_rfl) (by kernel_rfl) (fun _ _ _ h => h) (Or.inl ⟨by rfl, ?_⟩) hS ?_
          rotate_left
          · intro w hSw
            try go_simp
            with_reducible rfl
          try simp only [Act.put, List.setIfInBounds_toArray, List.set_cons_zero, List.set_cons_succ]
          refine takeD 12 (some 110) (v := ?_) rfl rfl (by kernel_rfl) (by kernel_rfl) (by kernel_rfl) (fun _ _ _ h => h) (Or.inl ⟨by rfl, ?_⟩) hS ?_
          rotate_left
          · intro w hSw
            go_simp
            with_reducible rfl
          try simp only [Act.put, List.setIfInBounds_toArray, List.set_cons_zero, List.set_cons_succ]
          refine takeD 13 (some 111) (v := ?_) rfl rfl (by kernel_rfl) (by kernel_rfl) (by kernel_rfl) (fun _ _ _ h => h) (Or.inl ⟨by rfl, ?_⟩) hS ?_
          rotate_left
          · intro w hSw
            go_simp
            with_reducible rfl
          try simp only [Act.put, List.setIfInBounds_toArray, List.set_cons_zero, List.set_cons_succ]
          refine takeD 14 (some 112) (v := ?_) rfl rfl (by kernel_rfl) (by kernel_rfl) (by kernel_rfl) (fun _ _ _ h => h) (Or.inl ⟨by rfl, ?_⟩) hS ?_
          rotate_left
          · intro w hSw
            obtain ⟨⟨j0, j1, j2, j3⟩, ⟨i0, i1, i2, i3⟩, lc⟩ := HK17.out _ hSw
            go_simp
            with_reducible rfl
          try simp only [Act.put, List.setIfInBounds_toArray, List.set_cons_zero, List.set_cons_succ]
          refine takeD 15 (some 113) (v := ?_) rfl rfl (by kernel_rfl) (by kernel_rfl) (by kernel_rfl) (fun _ _ _ h => h) (Or.inl ⟨by rfl, ?_⟩) hS ?_
          rotate_left
          · intro w hSw
            go_simp
            with_reducible rfl
          try simp only [Act.put, List.setIfInBounds_toArray, List.set_cons_zero, List.set_cons_succ]
          refine callD 10 (by kernel_rfl) rfl (fun K hK => ?_)
          rw [if_pos (by rfl)]
          go_simp
          refine (HLEN.out Xd (hC2a.trans (hS.mono hC2a.size))).mono ?_
          rintro e Y ⟨rfl, hY⟩
          rw [hY]
          clear hY Y
          refine hK.out _ _ hS (fun _ => ?_)
          clear hK K
          try simp only [Act.put, List.setIfInBounds_toArray, List.set_cons_zero, List.set_cons_succ]
          refine takeD 16 (some 114) (v := ?_) rfl rfl (by kernel_rfl) (by kernel_rfl) (by kernel_rfl) (fun _ _ _ h => h) (Or.inl ⟨by rfl, ?_⟩) hS ?_
          rotate_left
          · intro w hSw
            go_simp
            try simp only [hg, hq, he, hn]
            with_reducible rfl
          try simp only [Act.put, List.setIfInBounds_toArray, List.set_cons_zero, List.set_cons_succ]
          refine takeD 17 (some 115) (v := ?_) rfl rfl (by kernel_rfl) (by kernel_rfl) (by kernel_rfl) (fun _ _ _ h => h) (Or.inl ⟨by rfl, ?_⟩) hS ?_
          rotate_left
          · intro w hSw
            go_simp
            with_reducible rfl
          try simp only [Act.put, List.setIfInBounds_toArray, List.set_cons_zero, List.set_cons_succ]
          refine takeD 18 (some 116) (v := ?_) rfl rfl (by kernel_rfl) (by kernel_rfl) (by kernel_rfl) (fun _ _ _ h => h) (Or.inl ⟨by rfl, ?_⟩) hS ?_
          rotate_left
          · intro w hSw
            try go_simp
            with_reducible rfl
          try simp only [Act.put, List.setIfInBounds_toArray, List.set_cons_zero, List.set_cons_succ]
          refine callD 19 (by kernel_rfl) rfl (fun K hK => ?_)
          rw [if_pos (by rfl)]
          go_simp
          refine (awake_calls _).mono ?_
          rintro e W9 ⟨rfl, hB9⟩
          have hS9 := hS.trans (hB9.mono hS.size)
          refine hK.out _ _ hS9 (fun _ => ?_)
          clear hK K
          try simp only [Act.put, List.setIfInBounds_toArray, List.set_cons_zero, List.set_cons_succ]
          refine takeD 20 (some 118) (v := ?_) rfl rfl (by kernel_rfl) (by kernel_rfl) (by kernel_rfl) (fun _ _ _ h => h) (Or.inl ⟨by rfl, ?_⟩) hS9 ?_
          rotate_left
          · intro w hSw
            go_simp
            with_reducible rfl
          try simp only [Act.put, List.setIfInBounds_toArray, List.set_cons_zero, List.set_cons_succ]
          refine takeD 21 (some 10) (v := ?_) rfl rfl (by kernel_rfl) (by kernel_rfl) (by kernel_rfl) (fun _ _ _ h => h) (Or.inl ⟨by rfl, ?_⟩) hS9 ?_
          rotate_left
          · intro w hSw
            try go_simp
            with_reducible rfl
          try simp only [Act.put, List.setIfInBounds_toArray, List.set_cons_zero, List.set_cons_succ]
          refine wpAnyH_done (by kernel_rfl) ?_ _
          go_wp2
          go_ret
          exact ⟨rfl, hCw.trans (hS9.mono hCw.size)⟩

theorem own : ownKnob Try.prog.godebug = none := by kernel_rfl
theorem laidOut : laidOutB Try.prog = true := by kernel_rfl

theorem contract (H : Type) (enc : TypeId × Value → H) (W : World) (base : Nat) (args : Array Value) (ds gs : List (DataW H)) (before : List MemPlace)
    (hval : ∀ (j : Nat) t v, Try.f5.params[j]? = some t → args[j]? = some v → Value.okWide Try.prog W .any base t v)
    (hW : DataW.Whole enc Try.prog Try.f5.params.toList Rows.posRowsSpec.vars false W args.toList ds gs before) (hsz0 : (DataW.weightsEach Try.prog (Try.f5.params.toList ++ Rows.posRowsSpec.plain.varTypes Try.prog) (ds ++ gs)).all (· ≤ reachBytes) = true) :
    Calls Try.prog 5 args W fun e W' => ∃ v, e = .returned v ∧ Rows.posRowsSpec.post enc Try.prog Try.f5 false true false false W args v W' := by
  have hW' := hW
  obtain ⟨p, q, hA0, hV, rfl, hfz, hnd⟩ := hW'
  have hA : DataW.TrodAll enc Try.prog W 0 (fun _ => true) true Try.f5.params.toList args.toList ds p := hA0
  rw [Try.params5] at hA hval
  obtain ⟨v0, vs0, d0, ds0, p0, q0, hargs, rfl, rfl, h0, r0⟩ := trodAll_cons hA
  obtain ⟨v1, vs1, d1, ds1, p1, q1, rfl, rfl, rfl, h1, r1⟩ := trodAll_cons r0
  obtain ⟨v2, vs2, d2, ds2, p2, q2, rfl, rfl, rfl, h2, r2⟩ := trodAll_cons r1
  obtain ⟨v3, vs3, d3, ds3, p3, q3, rfl, rfl, rfl, h3, r3⟩ := trodAll_cons r2
  obtain ⟨v4, vs4, d4, ds4, p4, q4, rfl, rfl, rfl, h4, r4⟩ := trodAll_cons r3
  obtain ⟨rfl, rfl, rfl⟩ := trodAll_nil r4
  obtain rfl : args = #[v0, v1, v2, v3, v4] := by cases args; simp_all
  obtain ⟨rfl, rfl⟩ := trodVars_none hV
  obtain ⟨a0, len0, cap0, rfl⟩ := okWide_slice Try.underlying42 (hval 0 42 v0 rfl rfl)
  have lt0 : ∀ x ∈ p0, x.block < W.heap.size := by obtain ⟨m, hm⟩ := h0; exact DataW.trod_lt m _ _ _ hm
  obtain ⟨l0, w0, s0⟩ := open_rows h0
  obtain ⟨a1, len1, cap1, rfl⟩ := okWide_slice Try.underlying43 (hval 1 43 v1 rfl rfl)
  have lt1 : ∀ x ∈ p1, x.block < W.heap.size := by obtain ⟨m, hm⟩ := h1; exact DataW.trod_lt m _ _ _ hm
  obtain ⟨l1, w1, s1⟩ := open_pairs h1
  obtain ⟨a2, rfl, rfl, rfl, w2⟩ := open_int Try.underlying3 (hval 2 3 v2 rfl rfl) h2
  obtain ⟨a3, rfl, rfl, rfl, w3⟩ := open_int Try.underlying3 (hval 3 3 v3 rfl rfl) h3
  obtain ⟨a4, rfl, rfl, rfl, w4⟩ := open_int Try.underlying3 (hval 4 3 v4 rfl rfl) h4
  clear hA0 hsz0
  refine (walk a0 len0 cap0 l0 a1 len1 cap1 l1 a2 a3 a4 W w0 s0 w1 s1).mono fun e W' ⟨he, bel⟩ => ?_
  subst he
  exact ⟨_, rfl, _, _, _, [], _, [], hW, trodAll_mk1 (shut_bool Try.underlying4 _), (trodAll_cons_mk (Below.trod laidOut (by kernel_rfl) (of_decide_eq_true (by kernel_rfl)) h0 bel lt0) (trodAll_cons_mk (Below.trod laidOut (by kernel_rfl) (of_decide_eq_true (by kernel_rfl)) h1 bel lt1) (trodAll_cons_mk (shut_int Try.underlying3 w2) (trodAll_cons_mk (shut_int Try.underlying3 w3) (trodAll_cons_mk (shut_int Try.underlying3 w4) trodAll_mk0))))), rfl, bel.frame _, fun h => by cases h⟩

set_option maxRecDepth 100000 in
theorem lifted (os : Os) (started : os.Started) (H : Type) (enc : TypeId × Value → H) :
    ReturnsInHanded {} Try.checked os 5 .any (Rows.posRowsSpec.pre6 enc Try.prog Try.f5 Rows.posRowsRow.domain false) (Rows.posRowsSpec.post enc Try.prog Try.f5 false true false false) := by
  refine returnsInHanded_of_change_sized (C := Try.checked) own started (by kernel_rfl) Try.func5
    (ChangeSpec.witness6 (enc := enc) (C := Try.checked) false ⟨#[], #[.slice none 0 0, .slice none 0 0, .int .i64 0, .int .i64 0, .int .i64 0], []⟩ 8 (by kernel_rfl) (by kernel_rfl) (by kernel_rfl) (by kernel_rfl)) ?_
  intro W base args ds gs before hval hW _ hsz _
  exact contract H enc W base args ds gs before hval hW hsz

theorem proved : Rows.PosRowsSaid :=
  OpenClaim.holds_of_wide 5 Try.f5 rfl rfl rfl rfl rfl rfl rfl ⟨rfl, rfl, rfl, rfl, rfl⟩ rfl rfl rfl rfl rfl (by kernel_rfl) Try.func5 (by kernel_rfl)
    (of_decide_eq_true (by kernel_rfl)) (by unfold Func.isWrapper; first | (rw [if_pos (by decide +kernel)]; kernel_rfl) | (rw [if_neg (by decide +kernel)]; exact ⟨rfl, rfl⟩))
    (fun os started H enc _ => lifted os started H enc)
end Go.Proofs.Ytiadcpbaopafgaa.posRows
namespace Go.Proofs.Ytiadcpbaopafgaa
theorem PosRows_holds : Rows.PosRowsSaid := posRows.proved
end Go.Proofs.Ytiadcpbaopafgaa
