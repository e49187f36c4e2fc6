/-
  PROVED HERE: the body of DiskCopies: at any bytes it answers true; nothing that lay before has turned.
-/
import Derived.Test.YtgbpfbpfoobhhaaDCopy
import Derived.Test.YtgbpfbpfoobhhaaDKee
namespace Go.Proofs.Ytgbpfbpfoobhhaa
open Go.ChangeShapes Go.WideShapes Go.ChangeAt Go.RowKit

/-- A cell of a row of the call's own is written. -/
theorem row_set {W : World} {g len : Nat} {bs : List Int} (h : Row .u8 W (some ⟨g, 0, none⟩) len bs) (i : Nat) (hi : i < len) (c : Int) :
    Row .u8 (W.setCell ⟨g, i, none⟩ (.int .u8 c)) (some ⟨g, 0, none⟩) len (bs.set i c) := by
  obtain ⟨hl, h0 | ⟨b, o, hbo, hlt, hc⟩⟩ := h
  · omega
  · cases hbo
    refine ⟨by rw [List.length_set]; exact hl, .inr ⟨g, 0, rfl, by simpa [World.setCell] using hlt, fun j hj => ?_⟩⟩
    rw [List.getD_eq_getElem?_getD, List.getElem?_set]
    by_cases e : i = j
    · subst e
      rw [if_pos rfl, if_pos (by omega), Nat.zero_add]
      have := hc i hj
      rw [Nat.zero_add] at this
      exact World.cell?_setCell_same _ _ _ this
    · rw [if_neg e, World.cell?_setCell_other _ _ _ _ (by simp), ← List.getD_eq_getElem?_getD]
      exact hc j hj
theorem row_cell {k : IntKind} {W : World} {b o len : Nat} {bs : List Int} (h : Row k W (some ⟨b, o, none⟩) len bs) (i : Nat) (hi : i < len) : W.cell? ⟨b, o + i, none⟩ = some (.int k (bs.getD i 0)) := by
  obtain ⟨hl, h0 | ⟨b', o', hbo, hlt, hc⟩⟩ := h
  · omega
  · cases hbo
    exact hc i hi
/-- Bytes of the call's own, that it may write. -/
def Wrt (W : World) (g n : Nat) : Prop := ∃ cur zs, W.heap[g]? = some (.cells cur 5 (0, 0)) ∧ Row .u8 W (some ⟨g, 0, none⟩) n zs
theorem Wrt.cell {W : World} {g n : Nat} (h : Wrt W g n) (i : Nat) (hi : i < n) : ∃ x, W.cell? ⟨g, i, none⟩ = some (.int .u8 x) := by
  obtain ⟨cur, zs, _, hr⟩ := h
  have := row_cell hr i hi
  rw [Nat.zero_add] at this
  exact ⟨_, this⟩
theorem Wrt.frozen {W : World} {g n : Nat} (h : Wrt W g n) (i : Nat) : W.frozen? ⟨g, i, none⟩ = false := by
  obtain ⟨cur, zs, hb, _⟩ := h
  simp [World.frozen?, hb]
theorem Wrt.set {W : World} {g n : Nat} (h : Wrt W g n) (i : Nat) (hi : i < n) (c : Int) : Wrt (W.setCell ⟨g, i, none⟩ (.int .u8 c)) g n := by
  obtain ⟨cur, zs, hb, hr⟩ := h
  exact ⟨_, _, heap_setCell_row W g i cur 5 _ hb, row_set hr i hi c⟩

theorem cut_none (bs : List Int) : cutE bs 0 = 0 ∧ cutL bs 0 = [] := by
  unfold cutE cutL
  rw [if_neg (by omega), if_neg (by omega)]
  exact ⟨rfl, rfl⟩

set_option maxRecDepth 100000 in
set_option maxHeartbeats 4000000 in
theorem copies_long (a0 : Option Addr) (len0 cap0 : Nat) (a1 : Option Addr) (len1 cap1 : Nat) (w : World) (s0 : len0 ≤ 140737488351232) (s1 : len1 ≤ 140737488351232) (hl : 10000 < len0 ∨ 10000 < len1) :
    Calls Try.prog 5 #[.slice a0 len0 cap0, .slice a1 len1 cap1] w fun e w' => e = .returned (.bool true) ∧ Below w.heap.size w w' := by
  have hB := hide_ ((Below.refl w.heap.size w).alloc (Nat.le_refl _) (.cells #[.slice none 0 0, .int .i64 0, .int .i64 20000, .bool true] 48))
  by_cases h0 : (10000 : Int) < (len0 : Int)
  · clear hl
    go_enter Try.func5, Try.ntmps5
    go_wp2_with fail
    refine (new_good 20000 w (by omega)).mono ?_
    rintro e W1 ⟨rfl, hW1⟩
    rw [← hW1] at hB
    clear hW1
    go_wp2_with fail
    refine (awake_calls _).mono ?_
    rintro e W2 ⟨rfl, h2⟩
    go_wp2
    go_ret
    exact ⟨rfl, hB.out.trans (h2.mono hB.out.size)⟩
  · have h1 : (10000 : Int) < (len1 : Int) := by omega
    clear hl
    go_enter Try.func5, Try.ntmps5
    go_wp2_with fail
    refine (new_good 20000 w (by omega)).mono ?_
    rintro e W1 ⟨rfl, hW1⟩
    rw [← hW1] at hB
    clear hW1
    go_wp2_with fail
    refine (awake_calls _).mono ?_
    rintro e W2 ⟨rfl, h2⟩
    go_wp2
    go_ret
    exact ⟨rfl, hB.out.trans (h2.mono hB.out.size)⟩

set_option maxRecDepth 100000 in
set_option maxHeartbeats 4000000 in
theorem copies_walk (a0 : Option Addr) (len0 cap0 : Nat) (z0 : List Int) (a1 : Option Addr) (len1 cap1 : Nat) (z1 : List Int) (w : World) (w0 : Row .u8 w a0 len0 z0) (u0 : Bytes z0) (w1 : Row .u8 w a1 len1 z1) (u1 : Bytes z1)
    (s0 : len0 ≤ 140737488351232) (s1 : len1 ≤ 140737488351232) (c0 : len0 ≤ cap0 ∧ cap0 ≤ 9223372036854775807 ∧ (a0 = none → cap0 = 0)) (c1 : len1 ≤ cap1 ∧ cap1 ≤ 9223372036854775807 ∧ (a1 = none → cap1 = 0)) :
    Calls Try.prog 5 #[.slice a0 len0 cap0, .slice a1 len1 cap1] w fun e w' => e = .returned (.bool true) ∧ Below w.heap.size w w' := by
  by_cases hl : 10000 < len0 ∨ 10000 < len1
  · exact copies_long a0 len0 cap0 a1 len1 cap1 w s0 s1 hl
  have hmx : Try.prog.follows .mixedOrders = true := by kernel_rfl
  have l0 := w0.1
  have l1 := w1.1
  have hn0 : ¬ ((10000 : Int) < (len0 : Int)) := by omega
  have hn1 : ¬ ((10000 : Int) < (len1 : Int)) := by omega
  obtain ⟨e1, e2⟩ := app_fits [] z0 20000 (by simp; omega)
  rw [List.nil_append] at e2
  obtain ⟨e3, e4⟩ := app_fits z0 z1 20000 (by omega)
  obtain ⟨e5, e6⟩ := cut_none (z0 ++ z1)
  have HA1 : Hid (∀ X v, Dk X w.heap.size w.heap.size v [] 0 20000 → Below w.heap.size w X → Calls Try.prog 10 #[.pointer (some ⟨w.heap.size, 0, none⟩), .slice a0 len0 cap0] X fun e w' => e = .returned (.int .i64 0) ∧ Done X w' w.heap.size w.heap.size v z0 0 20000) := fun X v hk hb => by
    have := append_calls w.heap.size w.heap.size v [] 0 20000 a0 len0 cap0 z0 X hk (w0.below hb) u0 c0.2.2
    rw [e1, e2] at this
    exact this
  have HA2 : Hid (∀ X B b v, Dk X B b v z0 0 20000 → Below w.heap.size w X → Calls Try.prog 10 #[.pointer (some ⟨b, 0, none⟩), .slice a1 len1 cap1] X fun e w' => e = .returned (.int .i64 0) ∧ Done X w' B b v (z0 ++ z1) 0 20000) := fun X B b v hk hb => by
    have := append_calls B b v z0 0 20000 a1 len1 cap1 z1 X hk (w1.below hb) u1 c1.2.2
    rw [e3, e4] at this
    exact this
  have HC : Hid (∀ X B b v, Dk X B b v (z0 ++ z1) ((z0 ++ z1).length : Int) 20000 → Calls Try.prog 16 #[.pointer (some ⟨b, 0, none⟩), .int .i64 0] X fun e w' => e = .returned (.int .i64 0) ∧ Done X w' B b v [] (cutS (z0 ++ z1) ((z0 ++ z1).length : Int) 0) 20000) := fun X B b v hk => by
    have := cut_calls B b v (z0 ++ z1) ((z0 ++ z1).length : Int) 20000 0 X hk
    rw [e5, e6] at this
    exact this
  have HK0 := hide_ (dk_new w 20000 (by omega))
  have HB0 := hide_ ((Below.refl w.heap.size w).alloc (Nat.le_refl _) (.cells #[.slice none 0 0, .int .i64 0, .int .i64 20000, .bool true] 48))
  have HV0 : Hid (∀ X, Below w.heap.size w X → (convert 22 9 (.slice a0 len0 cap0)).run Try.prog X = .ok (.string (strOfNums z0)) X) := fun X hX => conv_row (w0.below hX)
  have HL0 := hide_ l0
  have hk10 : len0 ≤ 10000 := by omega
  clear e1 e2 e3 e4 e5 e6 w0 w1 u0 u1 l0 l1 c0 c1 hl
  go_enter Try.func5, Try.ntmps5
  go_wp2_with fail
  refine (new_good 20000 w (by omega)).mono ?_
  rintro e W1 ⟨rfl, hW1⟩
  rw [← hW1] at HK0 HB0
  clear hW1
  have k1 := HK0
  have b1 := HB0
  clear HK0 HB0
  go_wp2_with fail
  refine (HA1.out _ _ k1.out b1.out).mono ?_
  rintro e W2 ⟨rfl, hD⟩
  have b2 := hide_ (b1.out.trans (hD.to_below k1.out (Nat.le_refl _)))
  obtain ⟨v2, k2', _, _⟩ := hD
  have k2 := hide_ k2'
  clear k1 b1 k2' HA1
  go_wp2_with fail
  refine (copy_calls _ _ _ _ _ _ W2 k2.out).mono ?_
  rintro e W3 ⟨b', v3, rfl, k3', q3⟩
  have k3 := hide_ k3'
  have B3 := hide_ q3
  clear k3' q3
  go_wp2_with fail
  refine (bytes_calls _ _ _ _ _ _ W3 (k2.out.below B3.out)).mono ?_
  rintro e W4 ⟨rfl, ho4, q4⟩
  have B4 := hide_ q4
  have T4 : Hid (Wrt W4 W3.heap.size len0) := by
    obtain ⟨g, cap, cur, eg, _, _, _, hb, hr⟩ := row_of_owns2 ho4 (by simp)
    cases eg
    rw [HL0.out] at hr
    exact ⟨cur, z0, hb, hr⟩
  clear ho4 q4
  have hL0 := HL0.out
  rw [hL0]
  clear hL0
  go_wp2
  go_loopw [10] (fun i w' => (∃ k : Nat, i = .int .i64 (k : Int) ∧ k ≤ len0) ∧ Wrt w' W3.heap.size len0 ∧ Below W3.heap.size W3 w') (fun i _ => len0 - (intOf i).toNat)
  case atStart => exact ⟨⟨0, rfl, Nat.zero_le _⟩, T4.out, B4.out⟩
  case round =>
    obtain ⟨⟨i, rfl, hi⟩, hw, hb⟩ := hrel
    by_cases hlt : i < len0
    · obtain ⟨x, hx⟩ := hw.cell i hlt
      have hf := hw.frozen i
      have HS := hide_ (fun c => hw.set i hlt c)
      have HBB := hide_ (fun c => hb.setCell (p := ⟨W3.heap.size, i, none⟩) (Nat.le_refl _) (.int .u8 c))
      clear hw hb
      go_wp2
      go_roundw
      case rel => exact ⟨⟨i + 1, by go_num, by omega⟩, HS.out _, HBB.out _⟩
      case measure => simp [intOf]; omega
    · have hi0 : i = len0 := by omega
      subst hi0
      have B5 := hide_ hb
      clear hw hb
      have k5 := hide_ (k3.out.below B5.out)
      have b5 := hide_ ((b2.out.trans (B3.out.mono b2.out.size)).trans (B5.out.mono (Nat.le_trans b2.out.size B3.out.size)))
      have B5' := hide_ (B3.out.trans (B5.out.mono B3.out.size))
      go_wp2_with fail
      refine (HA2.out _ _ _ _ k5.out b5.out).mono ?_
      rintro e W6 ⟨rfl, hD⟩
      have B6 := hide_ (B5'.out.trans (hD.to_below k5.out (Nat.le_refl _)))
      obtain ⟨v6, k6', _, _⟩ := hD
      have k6 := hide_ k6'
      clear k5 B5' k6' HA2
      go_wp2_with fail
      refine (sync_calls _ _ _ _ _ _ W6 k6.out).mono ?_
      rintro e W7 ⟨rfl, hD⟩
      have B7 := hide_ (B6.out.trans (hD.to_below k6.out (Nat.le_refl _)))
      obtain ⟨v7, k7', _, _⟩ := hD
      have k7 := hide_ k7'
      clear k6 B6 k7'
      go_wp2_with fail
      refine (HC.out _ _ _ _ k7.out).mono ?_
      rintro e W8 ⟨rfl, hD⟩
      have B8 := hide_ (B7.out.trans (hD.to_below k7.out (Nat.le_refl _)))
      obtain ⟨v8, k8', _, _⟩ := hD
      have k8 := hide_ k8'
      clear k7 B7 k8' HC
      have kd := hide_ (k2.out.below B8.out)
      have b8 := hide_ (b2.out.trans (B8.out.mono b2.out.size))
      have HBY : Hid (∀ X, Below W8.heap.size W8 X → _) := fun X hX => bytes_calls _ _ _ _ _ _ X (kd.out.below hX)
      have HSU : Hid (∀ X, Below W8.heap.size W8 X → _) := fun X hX => sure_calls _ _ _ _ _ _ X (kd.out.below hX)
      have HLE : Hid (∀ X, Below W8.heap.size W8 X → _) := fun X hX => len_calls _ _ _ _ _ _ X (k8.out.below hX)
      clear k8 kd
      rw [HL0.out] at HBY
      go_wp2_with fail
      refine wp_region_held_drew (S := fun X => Below W8.heap.size W8 X) hmx (Below.refl _ _).drew (fun hS => ?_)
      refine takeD 0 (some 73) (v := ?_) rfl rfl (by kernel_rfl) (by kernel_rfl) (by kernel_rfl) (fun _ _ _ h => h) (Or.inl ⟨by rfl, ?_⟩) hS ?_
      rotate_left
      · intro w hSw
        try go_simp
        with_reducible rfl
      try simp only [Act.put, List.setIfInBounds_toArray, List.set_cons_zero, List.set_cons_succ]
      refine takeD 1 (some 74) (v := ?_) rfl rfl (by kernel_rfl) (by kernel_rfl) (by kernel_rfl) (fun _ _ _ h => h) (Or.inl ⟨by rfl, ?_⟩) hS ?_
      rotate_left
      · intro w hSw
        go_simp
        with_reducible rfl
      try simp only [Act.put, List.setIfInBounds_toArray, List.set_cons_zero, List.set_cons_succ]
      refine takeD 2 (some 75) (v := ?_) rfl rfl (by kernel_rfl) (by kernel_rfl) (by kernel_rfl) (fun _ _ _ h => h) (Or.inl ⟨by rfl, ?_⟩) hS ?_
      rotate_left
      · intro w hSw
        try go_simp
        with_reducible rfl
      try simp only [Act.put, List.setIfInBounds_toArray, List.set_cons_zero, List.set_cons_succ]
      refine takeD 3 (some 76) (v := ?_) rfl rfl (by kernel_rfl) (by kernel_rfl) (by kernel_rfl) (fun _ _ _ h => h) (Or.inl ⟨by rfl, ?_⟩) hS ?_
      rotate_left
      · intro w hSw
        try go_simp
        with_reducible rfl
      try simp only [Act.put, List.setIfInBounds_toArray, List.set_cons_zero, List.set_cons_succ]
      refine takeD 4 (some 77) (v := ?_) rfl rfl (by kernel_rfl) (by kernel_rfl) (by kernel_rfl) (fun _ _ _ h => h) (Or.inl ⟨by rfl, ?_⟩) hS ?_
      rotate_left
      · intro w hSw
        go_simp
        with_reducible rfl
      try simp only [Act.put, List.setIfInBounds_toArray, List.set_cons_zero, List.set_cons_succ]
      refine takeD 5 (some 78) (v := ?_) rfl rfl (by kernel_rfl) (by kernel_rfl) (by kernel_rfl) (fun _ _ _ h => h) (Or.inl ⟨by rfl, ?_⟩) hS ?_
      rotate_left
      · intro w hSw
        go_simp
        with_reducible rfl
      try simp only [Act.put, List.setIfInBounds_toArray, List.set_cons_zero, List.set_cons_succ]
      refine takeD 6 (some 79) (v := ?_) rfl rfl (by kernel_rfl) (by kernel_rfl) (by kernel_rfl) (fun _ _ _ h => h) (Or.inl ⟨by rfl, ?_⟩) hS ?_
      rotate_left
      · intro w hSw
        try go_simp
        with_reducible rfl
      try simp only [Act.put, List.setIfInBounds_toArray, List.set_cons_zero, List.set_cons_succ]
      refine takeD 7 (some 80) (v := ?_) rfl rfl (by kernel_rfl) (by kernel_rfl) (by kernel_rfl) (fun _ _ _ h => h) (Or.inl ⟨by rfl, ?_⟩) hS ?_
      rotate_left
      · intro w hSw
        try go_simp
        with_reducible rfl
      try simp only [Act.put, List.setIfInBounds_toArray, List.set_cons_zero, List.set_cons_succ]
      refine takeD 8 (some 81) (v := ?_) rfl rfl (by kernel_rfl) (by kernel_rfl) (by kernel_rfl) (fun _ _ _ h => h) (Or.inl ⟨by rfl, ?_⟩) hS ?_
      rotate_left
      · intro w hSw
        go_simp
        with_reducible rfl
      try simp only [Act.put, List.setIfInBounds_toArray, List.set_cons_zero, List.set_cons_succ]
      refine takeD 9 (some 82) (v := ?_) rfl rfl (by kernel_rfl) (by kernel_rfl) (by kernel_rfl) (fun _ _ _ h => h) (Or.inl ⟨by rfl, ?_⟩) hS ?_
      rotate_left
      · intro w hSw
        go_simp
        with_reducible rfl
      try simp only [Act.put, List.setIfInBounds_toArray, List.set_cons_zero, List.set_cons_succ]
      refine takeD 10 (some 83) (v := ?_) rfl rfl (by kernel_rfl) (by kernel_rfl) (by kernel_rfl) (fun _ _ _ h => h) (Or.inl ⟨by rfl, ?_⟩) hS ?_
      rotate_left
      · intro w hSw
        try go_simp
        with_reducible rfl
      try simp only [Act.put, List.setIfInBounds_toArray, List.set_cons_zero, List.set_cons_succ]
      refine takeD 11 (some 84) (v := ?_) rfl rfl (by kernel_rfl) (by kernel_rfl) (by kernel_rfl) (fun _ _ _ h => h) (Or.inl ⟨by rfl, ?_⟩) hS ?_
      rotate_left
      · intro w hSw
        try go_simp
        with_reducible rfl
      try simp only [Act.put, List.setIfInBounds_toArray, List.set_cons_zero, List.set_cons_succ]
      refine takeD 14 (some 87) (v := ?_) rfl rfl (by kernel_rfl) (by kernel_rfl) (by kernel_rfl) (fun _ _ _ h => h) (Or.inl ⟨by rfl, ?_⟩) hS ?_
      rotate_left
      · intro w hSw
        try go_simp
        with_reducible rfl
      try simp only [Act.put, List.setIfInBounds_toArray, List.set_cons_zero, List.set_cons_succ]
      refine takeD 15 (some 88) (v := ?_) rfl rfl (by kernel_rfl) (by kernel_rfl) (by kernel_rfl) (fun _ _ _ h => h) (Or.inl ⟨by rfl, ?_⟩) hS ?_
      rotate_left
      · intro w hSw
        have hX1 : Below W8.heap.size W8 w := hSw
        have y0 := HV0.out _ (b8.out.trans (hX1.mono b8.out.size))
        go_simp
        with_reducible rfl
      try simp only [Act.put, List.setIfInBounds_toArray, List.set_cons_zero, List.set_cons_succ]
      refine callD 12 (by kernel_rfl) rfl (fun K hK => ?_)
      rw [if_pos (by rfl)]
      go_simp
      refine (HBY.out _ hS).mono ?_
      rintro e W9 ⟨rfl, ho9, h9⟩
      have hs9 := hS.trans (h9.mono hS.size)
      obtain ⟨_, _, eg, _, _, _, hr9⟩ := row_of_owns ho9 (by simp)
      cases eg
      have HV9 : Hid (∀ X, Below W9.heap.size W9 X → (convert 22 9 (.slice (some ⟨W8.heap.size, 0, none⟩) i i)).run Try.prog X = .ok (.string (strOfNums z0)) X) := fun X hX => conv_row (cap := i) (hr9.below hX)
      clear ho9 hr9
      refine hK.out _ _ hs9 (fun _ => ?_)
      refine wpAnyH_strong (S' := fun X => Below W9.heap.size W9 X) (fun X hX => hs9.trans (hX.mono hs9.size)) _ _ _ _ ?_
      have hT := Below.refl W9.heap.size W9
      clear hK K
      try simp only [Act.put, List.setIfInBounds_toArray, List.set_cons_zero, List.set_cons_succ]
      refine takeD 13 (some 86) (v := ?_) rfl rfl (by kernel_rfl) (by kernel_rfl) (by kernel_rfl) (fun _ _ _ h => h) (Or.inl ⟨by rfl, ?_⟩) hT ?_
      rotate_left
      · intro w hSw
        have hX1 : Below W8.heap.size W8 w := hs9.trans (hSw.mono hs9.size)
        have y0 := HV0.out _ (b8.out.trans (hX1.mono b8.out.size))
        have y2 := HV9.out _ hSw
        go_simp
        with_reducible rfl
      try simp only [Act.put, List.setIfInBounds_toArray, List.set_cons_zero, List.set_cons_succ]
      refine takeD 16 (some 89) (v := ?_) rfl rfl (by kernel_rfl) (by kernel_rfl) (by kernel_rfl) (fun _ _ _ h => h) (Or.inl ⟨by rfl, ?_⟩) hT ?_
      rotate_left
      · intro w hSw
        go_simp
        with_reducible rfl
      try simp only [Act.put, List.setIfInBounds_toArray, List.set_cons_zero, List.set_cons_succ]
      refine takeD 17 (some 90) (v := ?_) rfl rfl (by kernel_rfl) (by kernel_rfl) (by kernel_rfl) (fun _ _ _ h => h) (Or.inl ⟨by rfl, ?_⟩) hT ?_
      rotate_left
      · intro w hSw
        go_simp
        with_reducible rfl
      try simp only [Act.put, List.setIfInBounds_toArray, List.set_cons_zero, List.set_cons_succ]
      refine takeD 18 (some 91) (v := ?_) rfl rfl (by kernel_rfl) (by kernel_rfl) (by kernel_rfl) (fun _ _ _ h => h) (Or.inl ⟨by rfl, ?_⟩) hT ?_
      rotate_left
      · intro w hSw
        try go_simp
        with_reducible rfl
      try simp only [Act.put, List.setIfInBounds_toArray, List.set_cons_zero, List.set_cons_succ]
      refine takeD 19 (some 92) (v := ?_) rfl rfl (by kernel_rfl) (by kernel_rfl) (by kernel_rfl) (fun _ _ _ h => h) (Or.inl ⟨by rfl, ?_⟩) hT ?_
      rotate_left
      · intro w hSw
        try go_simp
        with_reducible rfl
      try simp only [Act.put, List.setIfInBounds_toArray, List.set_cons_zero, List.set_cons_succ]
      refine callD 20 (by kernel_rfl) rfl (fun K hK => ?_)
      rw [if_pos (by rfl)]
      go_simp
      refine (HSU.out _ (hs9.trans (hT.mono hs9.size))).mono ?_
      rintro e W10 ⟨rfl, rfl⟩
      refine hK.out _ _ hT (fun _ => ?_)
      clear hK K
      try simp only [Act.put, List.setIfInBounds_toArray, List.set_cons_zero, List.set_cons_succ]
      refine takeD 21 (some 94) (v := ?_) rfl rfl (by kernel_rfl) (by kernel_rfl) (by kernel_rfl) (fun _ _ _ h => h) (Or.inl ⟨by rfl, ?_⟩) hT ?_
      rotate_left
      · intro w hSw
        go_simp
        with_reducible rfl
      try simp only [Act.put, List.setIfInBounds_toArray, List.set_cons_zero, List.set_cons_succ]
      refine takeD 22 (some 95) (v := ?_) rfl rfl (by kernel_rfl) (by kernel_rfl) (by kernel_rfl) (fun _ _ _ h => h) (Or.inl ⟨by rfl, ?_⟩) hT ?_
      rotate_left
      · intro w hSw
        go_simp
        with_reducible rfl
      try simp only [Act.put, List.setIfInBounds_toArray, List.set_cons_zero, List.set_cons_succ]
      refine takeD 23 (some 96) (v := ?_) rfl rfl (by kernel_rfl) (by kernel_rfl) (by kernel_rfl) (fun _ _ _ h => h) (Or.inl ⟨by rfl, ?_⟩) hT ?_
      rotate_left
      · intro w hSw
        try go_simp
        with_reducible rfl
      try simp only [Act.put, List.setIfInBounds_toArray, List.set_cons_zero, List.set_cons_succ]
      refine takeD 24 (some 97) (v := ?_) rfl rfl (by kernel_rfl) (by kernel_rfl) (by kernel_rfl) (fun _ _ _ h => h) (Or.inl ⟨by rfl, ?_⟩) hT ?_
      rotate_left
      · intro w hSw
        try go_simp
        with_reducible rfl
      try simp only [Act.put, List.setIfInBounds_toArray, List.set_cons_zero, List.set_cons_succ]
      refine callD 25 (by kernel_rfl) rfl (fun K hK => ?_)
      rw [if_pos (by rfl)]
      go_simp
      refine (HLE.out _ (hs9.trans (hT.mono hs9.size))).mono ?_
      rintro e W11 ⟨rfl, rfl⟩
      refine hK.out _ _ hT (fun _ => ?_)
      clear hK K
      try simp only [Act.put, List.setIfInBounds_toArray, List.set_cons_zero, List.set_cons_succ]
      refine takeD 26 (some 99) (v := ?_) rfl rfl (by kernel_rfl) (by kernel_rfl) (by kernel_rfl) (fun _ _ _ h => h) (Or.inl ⟨by rfl, ?_⟩) hT ?_
      rotate_left
      · intro w hSw
        go_simp
        with_reducible rfl
      try simp only [Act.put, List.setIfInBounds_toArray, List.set_cons_zero, List.set_cons_succ]
      refine takeD 27 (some 100) (v := ?_) rfl rfl (by kernel_rfl) (by kernel_rfl) (by kernel_rfl) (fun _ _ _ h => h) (Or.inl ⟨by rfl, ?_⟩) hT ?_
      rotate_left
      · intro w hSw
        go_simp
        with_reducible rfl
      try simp only [Act.put, List.setIfInBounds_toArray, List.set_cons_zero, List.set_cons_succ]
      refine takeD 28 (some 101) (v := ?_) rfl rfl (by kernel_rfl) (by kernel_rfl) (by kernel_rfl) (fun _ _ _ h => h) (Or.inl ⟨by rfl, ?_⟩) hT ?_
      rotate_left
      · intro w hSw
        try go_simp
        with_reducible rfl
      try simp only [Act.put, List.setIfInBounds_toArray, List.set_cons_zero, List.set_cons_succ]
      refine callD 29 (by kernel_rfl) rfl (fun K hK => ?_)
      rw [if_pos (by rfl)]
      go_simp
      refine (awake_calls _).mono ?_
      rintro e W12 ⟨rfl, hA⟩
      have hU := hT.trans (hA.mono hT.size)
      refine hK.out _ _ hU (fun _ => ?_)
      clear hK K
      try simp only [Act.put, List.setIfInBounds_toArray, List.set_cons_zero, List.set_cons_succ]
      refine takeD 30 (some 103) (v := ?_) rfl rfl (by kernel_rfl) (by kernel_rfl) (by kernel_rfl) (fun _ _ _ h => h) (Or.inl ⟨by rfl, ?_⟩) hU ?_
      rotate_left
      · intro w hSw
        go_simp
        with_reducible rfl
      try simp only [Act.put, List.setIfInBounds_toArray, List.set_cons_zero, List.set_cons_succ]
      refine takeD 31 (some 4) (v := ?_) rfl rfl (by kernel_rfl) (by kernel_rfl) (by kernel_rfl) (fun _ _ _ h => h) (Or.inl ⟨by rfl, ?_⟩) hU ?_
      rotate_left
      · intro w hSw
        try go_simp
        with_reducible rfl
      try simp only [Act.put, List.setIfInBounds_toArray, List.set_cons_zero, List.set_cons_succ]
      refine wpAnyH_done (by kernel_rfl) ?_ _
      go_wp2
      go_ret
      exact ⟨rfl, b8.out.trans ((hs9.trans (hU.mono hs9.size)).mono b8.out.size)⟩
end Go.Proofs.Ytgbpfbpfoobhhaa
