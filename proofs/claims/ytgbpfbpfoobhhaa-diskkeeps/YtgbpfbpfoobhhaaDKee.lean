/-
  PROVED HERE: the body of DiskKeeps: at any bytes and any number it answers true; nothing that lay before has turned.
-/
import Derived.Test.YtgbpfbpfoobhhaaDAwk
import Derived.Test.YtgbpfbpfoobhhaaDCrash
import Derived.Test.YtgbpfbpfoobhhaaDArg
namespace Go.Proofs.Ytgbpfbpfoobhhaa
open Go.ChangeShapes Go.WideShapes Go.ChangeAt Go.RowKit

theorem app_fits (bs xs : List Int) (m : Int) (h : (bs.length : Int) + (xs.length : Int) ≤ m) : appE bs xs m = 0 ∧ appL bs xs m = bs ++ xs := by
  unfold appE appL
  rw [if_neg (by omega), if_neg (by omega)]
  exact ⟨rfl, rfl⟩

theorem crash_keeps (a b : List Int) (keep : Int) (n : Nat) (h : 0 ≤ keep) (hn : (n : Int) = min keep (b.length : Int)) : crashE keep = 0 ∧ crashL (a ++ b) (a.length : Int) keep = a ++ b.take n ∧ crashS (a ++ b) (a.length : Int) keep = ((a ++ b.take n).length : Int) := by
  have e : crashN (a ++ b) (a.length : Int) keep = ((a.length + n : Nat) : Int) := by
    unfold crashN
    rw [List.length_append]
    omega
  unfold crashE crashL crashS
  rw [if_neg (by omega), if_neg (by omega), if_neg (by omega), e]
  refine ⟨rfl, ?_, ?_⟩
  · rw [Int.toNat_natCast, List.take_append, List.take_of_length_le (by omega), show a.length + n - a.length = n by omega]
  · rw [List.length_append, List.length_take]
    omega

set_option maxRecDepth 100000 in
set_option maxHeartbeats 4000000 in
theorem keeps_long (a0 : Option Addr) (len0 cap0 : Nat) (a1 : Option Addr) (len1 cap1 : Nat) (a2 : Int) (w : World) (s0 : len0 ≤ 140737488351232) (s1 : len1 ≤ 140737488351232) (hl : 10000 < len0 + len1) :
    Calls Try.prog 4 #[.slice a0 len0 cap0, .slice a1 len1 cap1, .int .u16 a2] w fun e w' => e = .returned (.bool true) ∧ Below w.heap.size w w' := by
  have hgt : (10000 : Int) < (len0 : Int) + (len1 : Int) := by omega
  have hB := hide_ ((Below.refl w.heap.size w).alloc (Nat.le_refl _) (.cells #[.slice none 0 0, .int .i64 0, .int .i64 262144, .bool true] 48))
  clear hl
  go_enter Try.func4, Try.ntmps4
  go_wp2_with fail
  refine (new_good 262144 w (by omega)).mono ?_
  rintro e W1 ⟨rfl, hW1⟩
  rw [← hW1] at hB
  clear hW1
  go_wp2_with fail
  refine (awake_calls _).mono ?_
  rintro e W2 ⟨rfl, h2⟩
  go_wp2
  go_ret
  exact ⟨rfl, hB.out.trans (h2.mono hB.out.size)⟩

set_option maxRecDepth 100000 in
set_option maxHeartbeats 4000000 in
theorem keeps_walk (a0 : Option Addr) (len0 cap0 : Nat) (z0 : List Int) (a1 : Option Addr) (len1 cap1 : Nat) (z1 : List Int) (a2 : Int) (w : World) (w0 : Row .u8 w a0 len0 z0) (u0 : Bytes z0) (w1 : Row .u8 w a1 len1 z1) (u1 : Bytes z1) (w2 : (Lit.int .u16 a2).wf = true)
    (s0 : len0 ≤ 140737488351232) (s1 : len1 ≤ 140737488351232) (c0 : len0 ≤ cap0 ∧ cap0 ≤ 9223372036854775807 ∧ (a0 = none → cap0 = 0)) (c1 : len1 ≤ cap1 ∧ cap1 ≤ 9223372036854775807 ∧ (a1 = none → cap1 = 0)) :
    Calls Try.prog 4 #[.slice a0 len0 cap0, .slice a1 len1 cap1, .int .u16 a2] w fun e w' => e = .returned (.bool true) ∧ Below w.heap.size w w' := by
  by_cases hl : 10000 < len0 + len1
  · exact keeps_long a0 len0 cap0 a1 len1 cap1 a2 w s0 s1 hl
  obtain ⟨p2, q2⟩ := of_wf_u16 w2
  have hmx : Try.prog.follows .mixedOrders = true := by kernel_rfl
  have l0 := w0.1
  have l1 := w1.1
  have hng : ¬ ((10000 : Int) < (len0 : Int) + (len1 : Int)) := by omega
  obtain ⟨n, hn⟩ : ∃ n : Nat, (n : Int) = min a2 (len1 : Int) := ⟨(min a2 (len1 : Int)).toNat, by omega⟩
  have hn1 : n ≤ len1 := by omega
  have hnc : n ≤ cap1 := by omega
  obtain ⟨e1, e2⟩ := app_fits [] z0 262144 (by simp; omega)
  rw [List.nil_append] at e2
  obtain ⟨e3, e4⟩ := app_fits z0 z1 262144 (by omega)
  obtain ⟨e5, e6, e7⟩ := crash_keeps z0 z1 a2 n p2 (by rw [l1]; exact hn)
  have HA1 : Hid (∀ X v, Dk X w.heap.size w.heap.size v [] 0 262144 → Below w.heap.size w X → Calls Try.prog 10 #[.pointer (some ⟨w.heap.size, 0, none⟩), .slice a0 len0 cap0] X fun e w' => e = .returned (.int .i64 0) ∧ Done X w' w.heap.size w.heap.size v z0 0 262144) := fun X v hk hb => by
    have := append_calls w.heap.size w.heap.size v [] 0 262144 a0 len0 cap0 z0 X hk (w0.below hb) u0 c0.2.2
    rw [e1, e2] at this
    exact this
  have HA2 : Hid (∀ X v, Dk X w.heap.size w.heap.size v z0 (z0.length : Int) 262144 → Below w.heap.size w X → Calls Try.prog 10 #[.pointer (some ⟨w.heap.size, 0, none⟩), .slice a1 len1 cap1] X fun e w' => e = .returned (.int .i64 0) ∧ Done X w' w.heap.size w.heap.size v (z0 ++ z1) (z0.length : Int) 262144) := fun X v hk hb => by
    have := append_calls w.heap.size w.heap.size v z0 (z0.length : Int) 262144 a1 len1 cap1 z1 X hk (w1.below hb) u1 c1.2.2
    rw [e3, e4] at this
    exact this
  have HC : Hid (∀ X v, Dk X w.heap.size w.heap.size v (z0 ++ z1) (z0.length : Int) 262144 → Calls Try.prog 14 #[.pointer (some ⟨w.heap.size, 0, none⟩), .int .i64 a2] X fun e w' => e = .returned (.int .i64 0) ∧ Done X w' w.heap.size w.heap.size v (z0 ++ z1.take n) ((z0 ++ z1.take n).length : Int) 262144) := fun X v hk => by
    have := crash_calls w.heap.size w.heap.size v (z0 ++ z1) (z0.length : Int) 262144 a2 X hk (by omega)
    rw [e5, e6, e7] at this
    exact this
  have HK0 := hide_ (dk_new w 262144 (by omega))
  have HB0 := hide_ ((Below.refl w.heap.size w).alloc (Nat.le_refl _) (.cells #[.slice none 0 0, .int .i64 0, .int .i64 262144, .bool true] 48))
  have hlL : (z0 ++ z1.take n).length ≤ 10000 := by rw [List.length_append, List.length_take]; omega
  have HV0 : Hid (∀ X, Below w.heap.size w X → (convert 22 9 (.slice a0 len0 cap0)).run Try.prog X = .ok (.string (strOfNums z0)) X) := fun X hX => conv_row (w0.below hX)
  have HV1 : Hid (∀ X, Below w.heap.size w X → (convert 22 9 (.slice a1 n cap1)).run Try.prog X = .ok (.string (strOfNums (z1.take n))) X) := fun X hX => conv_row (row_take (w1.below hX) n hn1)
  have HAD : Hid (∀ X, (Op.stringOp .add (strOfNums z0) (strOfNums (z1.take n))).run Try.prog X = .ok (.string (strOfNums (z0 ++ z1.take n))) X) := fun X => str_add z0 (z1.take n) (by rw [List.length_take]; omega) X
  have HM : Hid ((if (len1 : Int) < a2 then (len1 : Int) else a2) = (n : Int)) := by show _ = _; rw [hn]; split <;> omega
  have HM2 : Hid (min a2 (len1 : Int) = (n : Int)) := hn.symm
  have hcm := c1.2.1
  clear hn
  clear e1 e2 e3 e4 e5 e6 e7 w0 w1 u0 u1 l0 l1 c0 c1 hl w2
  generalize hL : z0 ++ z1.take n = L at *
  clear hL
  generalize z1.take n = T at *
  have hlL' : (L.length : Int) ≤ 10000 := by omega
  go_enter Try.func4, Try.ntmps4
  go_wp2_with fail
  refine (new_good 262144 w (by omega)).mono ?_
  rintro e W1 ⟨rfl, hW1⟩
  rw [← hW1] at HK0 HB0
  clear hW1
  have k1 := HK0
  have b1 := HB0
  clear HK0 HB0
  go_wp2_with fail
  refine (HA1.out _ _ k1.out b1.out).mono ?_
  rintro e W2 ⟨rfl, hD⟩
  have b2 := hide_ (b1.out.trans (hD.to_below k1.out (Nat.le_refl _)))
  obtain ⟨v2, k2', _, _⟩ := hD
  have k2 := hide_ k2'
  clear k1 b1 k2'
  go_wp2_with fail
  refine (sync_calls _ _ _ _ _ _ W2 k2.out).mono ?_
  rintro e W3 ⟨rfl, hD⟩
  have b3 := hide_ (b2.out.trans (hD.to_below k2.out (Nat.le_refl _)))
  obtain ⟨v3, k3', _, _⟩ := hD
  have k3 := hide_ k3'
  clear k2 b2 k3'
  go_wp2_with fail
  refine (HA2.out _ _ k3.out b3.out).mono ?_
  rintro e W4 ⟨rfl, hD⟩
  have b4 := hide_ (b3.out.trans (hD.to_below k3.out (Nat.le_refl _)))
  obtain ⟨v4, k4', _, _⟩ := hD
  have k4 := hide_ k4'
  clear k3 b3 k4'
  go_wp2_with fail
  refine (HC.out _ _ k4.out).mono ?_
  rintro e W5 ⟨rfl, hD⟩
  have b5 := hide_ (b4.out.trans (hD.to_below k4.out (Nat.le_refl _)))
  obtain ⟨v5, k5', _, _⟩ := hD
  have k5 := hide_ k5'
  clear k4 b4 k5' HA1 HA2 HC
  have HBY : Hid (∀ X, Below W5.heap.size W5 X → _) := fun X hX => bytes_calls _ _ _ _ _ _ X (k5.out.below hX)
  have HSU : Hid (∀ X, Below W5.heap.size W5 X → _) := fun X hX => sure_calls _ _ _ _ _ _ X (k5.out.below hX)
  have HLE : Hid (∀ X, Below W5.heap.size W5 X → _) := fun X hX => len_calls _ _ _ _ _ _ X (k5.out.below hX)
  clear k5
  generalize L.length = k at *
  go_wp2_with fail
  rw [HM2.out]
  refine wp_region_held_drew (S := fun X => Below W5.heap.size W5 X) hmx (Below.refl _ _).drew (fun hS => ?_)
  refine takeD 0 (some 54) (v := ?_) rfl rfl (by kernel_rfl) (by kernel_rfl) (by kernel_rfl) (fun _ _ _ h => h) (Or.inl ⟨by rfl, ?_⟩) hS ?_
  rotate_left
  · intro w hSw
    try go_simp
    with_reducible rfl
  try simp only [Act.put, List.setIfInBounds_toArray, List.set_cons_zero, List.set_cons_succ]
  refine takeD 1 (some 55) (v := ?_) rfl rfl (by kernel_rfl) (by kernel_rfl) (by kernel_rfl) (fun _ _ _ h => h) (Or.inl ⟨by rfl, ?_⟩) hS ?_
  rotate_left
  · intro w hSw
    have y3 := HAD.out w
    go_simp
    with_reducible rfl
  try simp only [Act.put, List.setIfInBounds_toArray, List.set_cons_zero, List.set_cons_succ]
  refine takeD 2 (some 56) (v := ?_) rfl rfl (by kernel_rfl) (by kernel_rfl) (by kernel_rfl) (fun _ _ _ h => h) (Or.inl ⟨by rfl, ?_⟩) hS ?_
  rotate_left
  · intro w hSw
    try go_simp
    with_reducible rfl
  try simp only [Act.put, List.setIfInBounds_toArray, List.set_cons_zero, List.set_cons_succ]
  refine takeD 3 (some 57) (v := ?_) rfl rfl (by kernel_rfl) (by kernel_rfl) (by kernel_rfl) (fun _ _ _ h => h) (Or.inl ⟨by rfl, ?_⟩) hS ?_
  rotate_left
  · intro w hSw
    try go_simp
    with_reducible rfl
  try simp only [Act.put, List.setIfInBounds_toArray, List.set_cons_zero, List.set_cons_succ]
  refine takeD 4 (some 58) (v := ?_) rfl rfl (by kernel_rfl) (by kernel_rfl) (by kernel_rfl) (fun _ _ _ h => h) (Or.inl ⟨by rfl, ?_⟩) hS ?_
  rotate_left
  · intro w hSw
    have y3 := HAD.out w
    go_simp
    with_reducible rfl
  try simp only [Act.put, List.setIfInBounds_toArray, List.set_cons_zero, List.set_cons_succ]
  refine takeD 5 (some 59) (v := ?_) rfl rfl (by kernel_rfl) (by kernel_rfl) (by kernel_rfl) (fun _ _ _ h => h) (Or.inl ⟨by rfl, ?_⟩) hS ?_
  rotate_left
  · intro w hSw
    go_simp
    with_reducible rfl
  try simp only [Act.put, List.setIfInBounds_toArray, List.set_cons_zero, List.set_cons_succ]
  refine takeD 6 (some 60) (v := ?_) rfl rfl (by kernel_rfl) (by kernel_rfl) (by kernel_rfl) (fun _ _ _ h => h) (Or.inl ⟨by rfl, ?_⟩) hS ?_
  rotate_left
  · intro w hSw
    try go_simp
    with_reducible rfl
  try simp only [Act.put, List.setIfInBounds_toArray, List.set_cons_zero, List.set_cons_succ]
  refine takeD 7 (some 61) (v := ?_) rfl rfl (by kernel_rfl) (by kernel_rfl) (by kernel_rfl) (fun _ _ _ h => h) (Or.inl ⟨by rfl, ?_⟩) hS ?_
  rotate_left
  · intro w hSw
    try go_simp
    with_reducible rfl
  try simp only [Act.put, List.setIfInBounds_toArray, List.set_cons_zero, List.set_cons_succ]
  refine takeD 8 (some 62) (v := ?_) rfl rfl (by kernel_rfl) (by kernel_rfl) (by kernel_rfl) (fun _ _ _ h => h) (Or.inl ⟨by rfl, ?_⟩) hS ?_
  rotate_left
  · intro w hSw
    have y3 := HAD.out w
    go_simp
    with_reducible rfl
  try simp only [Act.put, List.setIfInBounds_toArray, List.set_cons_zero, List.set_cons_succ]
  refine takeD 9 (some 63) (v := ?_) rfl rfl (by kernel_rfl) (by kernel_rfl) (by kernel_rfl) (fun _ _ _ h => h) (Or.inl ⟨by rfl, ?_⟩) hS ?_
  rotate_left
  · intro w hSw
    go_simp
    with_reducible rfl
  try simp only [Act.put, List.setIfInBounds_toArray, List.set_cons_zero, List.set_cons_succ]
  refine takeD 10 (some 64) (v := ?_) rfl rfl (by kernel_rfl) (by kernel_rfl) (by kernel_rfl) (fun _ _ _ h => h) (Or.inl ⟨by rfl, ?_⟩) hS ?_
  rotate_left
  · intro w hSw
    try go_simp
    with_reducible rfl
  try simp only [Act.put, List.setIfInBounds_toArray, List.set_cons_zero, List.set_cons_succ]
  refine takeD 11 (some 65) (v := ?_) rfl rfl (by kernel_rfl) (by kernel_rfl) (by kernel_rfl) (fun _ _ _ h => h) (Or.inl ⟨by rfl, ?_⟩) hS ?_
  rotate_left
  · intro w hSw
    try go_simp
    with_reducible rfl
  try simp only [Act.put, List.setIfInBounds_toArray, List.set_cons_zero, List.set_cons_succ]
  refine takeD 12 (some 66) (v := ?_) rfl rfl (by kernel_rfl) (by kernel_rfl) (by kernel_rfl) (fun _ _ _ h => h) (Or.inl ⟨by rfl, ?_⟩) hS ?_
  rotate_left
  · intro w hSw
    have y3 := HAD.out w
    go_simp
    with_reducible rfl
  try simp only [Act.put, List.setIfInBounds_toArray, List.set_cons_zero, List.set_cons_succ]
  refine takeD 13 (some 67) (v := ?_) rfl rfl (by kernel_rfl) (by kernel_rfl) (by kernel_rfl) (fun _ _ _ h => h) (Or.inl ⟨by rfl, ?_⟩) hS ?_
  rotate_left
  · intro w hSw
    go_simp
    with_reducible rfl
  try simp only [Act.put, List.setIfInBounds_toArray, List.set_cons_zero, List.set_cons_succ]
  refine takeD 14 (some 68) (v := ?_) rfl rfl (by kernel_rfl) (by kernel_rfl) (by kernel_rfl) (fun _ _ _ h => h) (Or.inl ⟨by rfl, ?_⟩) hS ?_
  rotate_left
  · intro w hSw
    try go_simp
    with_reducible rfl
  try simp only [Act.put, List.setIfInBounds_toArray, List.set_cons_zero, List.set_cons_succ]
  refine takeD 15 (some 69) (v := ?_) rfl rfl (by kernel_rfl) (by kernel_rfl) (by kernel_rfl) (fun _ _ _ h => h) (Or.inl ⟨by rfl, ?_⟩) hS ?_
  rotate_left
  · intro w hSw
    try go_simp
    with_reducible rfl
  try simp only [Act.put, List.setIfInBounds_toArray, List.set_cons_zero, List.set_cons_succ]
  refine takeD 18 (some 72) (v := ?_) rfl rfl (by kernel_rfl) (by kernel_rfl) (by kernel_rfl) (fun _ _ _ h => h) (Or.inl ⟨by rfl, ?_⟩) hS ?_
  rotate_left
  · intro w hSw
    try go_simp
    with_reducible rfl
  try simp only [Act.put, List.setIfInBounds_toArray, List.set_cons_zero, List.set_cons_succ]
  refine takeD 19 (some 73) (v := ?_) rfl rfl (by kernel_rfl) (by kernel_rfl) (by kernel_rfl) (fun _ _ _ h => h) (Or.inl ⟨by rfl, ?_⟩) hS ?_
  rotate_left
  · intro w hSw
    have hX1 : Below W5.heap.size W5 w := hSw
    have y0 := HV0.out _ (b5.out.trans (hX1.mono b5.out.size))
    have y1 := HV1.out _ (b5.out.trans (hX1.mono b5.out.size))
    go_simp
    with_reducible rfl
  try simp only [Act.put, List.setIfInBounds_toArray, List.set_cons_zero, List.set_cons_succ]
  refine takeD 20 (some 74) (v := ?_) rfl rfl (by kernel_rfl) (by kernel_rfl) (by kernel_rfl) (fun _ _ _ h => h) (Or.inl ⟨by rfl, ?_⟩) hS ?_
  rotate_left
  · intro w hSw
    try go_simp
    with_reducible rfl
  try simp only [Act.put, List.setIfInBounds_toArray, List.set_cons_zero, List.set_cons_succ]
  refine takeD 21 (some 75) (v := ?_) rfl rfl (by kernel_rfl) (by kernel_rfl) (by kernel_rfl) (fun _ _ _ h => h) (Or.inl ⟨by rfl, ?_⟩) hS ?_
  rotate_left
  · intro w hSw
    try go_simp
    with_reducible rfl
  try simp only [Act.put, List.setIfInBounds_toArray, List.set_cons_zero, List.set_cons_succ]
  refine takeD 22 (some 76) (v := ?_) rfl rfl (by kernel_rfl) (by kernel_rfl) (by kernel_rfl) (fun _ _ _ h => h) (Or.inl ⟨by rfl, ?_⟩) hS ?_
  rotate_left
  · intro w hSw
    go_simp
    with_reducible rfl
  try simp only [Act.put, List.setIfInBounds_toArray, List.set_cons_zero, List.set_cons_succ]
  refine takeD 23 (some 77) (v := ?_) rfl rfl (by kernel_rfl) (by kernel_rfl) (by kernel_rfl) (fun _ _ _ h => h) (Or.inl ⟨by rfl, ?_⟩) hS ?_
  rotate_left
  · intro w hSw
    have hX1 : Below W5.heap.size W5 w := hSw
    have y0 := HV0.out _ (b5.out.trans (hX1.mono b5.out.size))
    have y1 := HV1.out _ (b5.out.trans (hX1.mono b5.out.size))
    go_simp
    with_reducible rfl
  try simp only [Act.put, List.setIfInBounds_toArray, List.set_cons_zero, List.set_cons_succ]
  refine takeD 24 (some 78) (v := ?_) rfl rfl (by kernel_rfl) (by kernel_rfl) (by kernel_rfl) (fun _ _ _ h => h) (Or.inl ⟨by rfl, ?_⟩) hS ?_
  rotate_left
  · intro w hSw
    have y3 := HAD.out w
    go_simp
    with_reducible rfl
  try simp only [Act.put, List.setIfInBounds_toArray, List.set_cons_zero, List.set_cons_succ]
  refine callD 16 (by kernel_rfl) rfl (fun K hK => ?_)
  rw [if_pos (by rfl)]
  go_simp
  refine (HBY.out _ hS).mono ?_
  rintro e W6 ⟨rfl, ho6, h6⟩
  have hs6 := hS.trans (h6.mono hS.size)
  obtain ⟨_, _, eg, _, _, _, hr6⟩ := row_of_owns ho6 (by simp)
  cases eg
  have HV6 : Hid (∀ X, Below W6.heap.size W6 X → (convert 22 9 (.slice (some ⟨W5.heap.size, 0, none⟩) k k)).run Try.prog X = .ok (.string (strOfNums L)) X) := fun X hX => conv_row (cap := k) (hr6.below hX)
  clear ho6 hr6
  refine hK.out _ _ hs6 (fun _ => ?_)
  refine wpAnyH_strong (S' := fun X => Below W6.heap.size W6 X) (fun X hX => hs6.trans (hX.mono hs6.size)) _ _ _ _ ?_
  have hT := Below.refl W6.heap.size W6
  clear hK K
  try simp only [Act.put, List.setIfInBounds_toArray, List.set_cons_zero, List.set_cons_succ]
  refine takeD 17 (some 71) (v := ?_) rfl rfl (by kernel_rfl) (by kernel_rfl) (by kernel_rfl) (fun _ _ _ h => h) (Or.inl ⟨by rfl, ?_⟩) hT ?_
  rotate_left
  · intro w hSw
    have hX1 : Below W5.heap.size W5 w := hs6.trans (hSw.mono hs6.size)
    have y0 := HV0.out _ (b5.out.trans (hX1.mono b5.out.size))
    have y1 := HV1.out _ (b5.out.trans (hX1.mono b5.out.size))
    have y2 := HV6.out _ hSw
    go_simp
    with_reducible rfl
  try simp only [Act.put, List.setIfInBounds_toArray, List.set_cons_zero, List.set_cons_succ]
  refine takeD 25 (some 79) (v := ?_) rfl rfl (by kernel_rfl) (by kernel_rfl) (by kernel_rfl) (fun _ _ _ h => h) (Or.inl ⟨by rfl, ?_⟩) hT ?_
  rotate_left
  · intro w hSw
    have y3 := HAD.out w
    go_simp
    with_reducible rfl
  try simp only [Act.put, List.setIfInBounds_toArray, List.set_cons_zero, List.set_cons_succ]
  refine takeD 26 (some 80) (v := ?_) rfl rfl (by kernel_rfl) (by kernel_rfl) (by kernel_rfl) (fun _ _ _ h => h) (Or.inl ⟨by rfl, ?_⟩) hT ?_
  rotate_left
  · intro w hSw
    go_simp
    with_reducible rfl
  try simp only [Act.put, List.setIfInBounds_toArray, List.set_cons_zero, List.set_cons_succ]
  refine takeD 27 (some 81) (v := ?_) rfl rfl (by kernel_rfl) (by kernel_rfl) (by kernel_rfl) (fun _ _ _ h => h) (Or.inl ⟨by rfl, ?_⟩) hT ?_
  rotate_left
  · intro w hSw
    try go_simp
    with_reducible rfl
  try simp only [Act.put, List.setIfInBounds_toArray, List.set_cons_zero, List.set_cons_succ]
  refine takeD 28 (some 82) (v := ?_) rfl rfl (by kernel_rfl) (by kernel_rfl) (by kernel_rfl) (fun _ _ _ h => h) (Or.inl ⟨by rfl, ?_⟩) hT ?_
  rotate_left
  · intro w hSw
    try go_simp
    with_reducible rfl
  try simp only [Act.put, List.setIfInBounds_toArray, List.set_cons_zero, List.set_cons_succ]
  refine takeD 30 (some 84) (v := ?_) rfl rfl (by kernel_rfl) (by kernel_rfl) (by kernel_rfl) (fun _ _ _ h => h) (Or.inl ⟨by rfl, ?_⟩) hT ?_
  rotate_left
  · intro w hSw
    try go_simp
    with_reducible rfl
  try simp only [Act.put, List.setIfInBounds_toArray, List.set_cons_zero, List.set_cons_succ]
  refine callD 29 (by kernel_rfl) rfl (fun K hK => ?_)
  rw [if_pos (by rfl)]
  go_simp
  refine (HSU.out _ (hs6.trans (hT.mono hs6.size))).mono ?_
  rintro e W7 ⟨rfl, rfl⟩
  refine hK.out _ _ hT (fun _ => ?_)
  clear hK K
  try simp only [Act.put, List.setIfInBounds_toArray, List.set_cons_zero, List.set_cons_succ]
  refine callD 31 (by kernel_rfl) rfl (fun K hK => ?_)
  rw [if_pos (by rfl)]
  go_simp
  refine (HLE.out _ (hs6.trans (hT.mono hs6.size))).mono ?_
  rintro e W8 ⟨rfl, rfl⟩
  refine hK.out _ _ hT (fun _ => ?_)
  clear hK K
  try simp only [Act.put, List.setIfInBounds_toArray, List.set_cons_zero, List.set_cons_succ]
  refine takeD 32 (some 86) (v := ?_) rfl rfl (by kernel_rfl) (by kernel_rfl) (by kernel_rfl) (fun _ _ _ h => h) (Or.inl ⟨by rfl, ?_⟩) hT ?_
  rotate_left
  · intro w hSw
    have y3 := HAD.out w
    go_simp
    with_reducible rfl
  try simp only [Act.put, List.setIfInBounds_toArray, List.set_cons_zero, List.set_cons_succ]
  refine takeD 33 (some 87) (v := ?_) rfl rfl (by kernel_rfl) (by kernel_rfl) (by kernel_rfl) (fun _ _ _ h => h) (Or.inl ⟨by rfl, ?_⟩) hT ?_
  rotate_left
  · intro w hSw
    go_simp
    with_reducible rfl
  try simp only [Act.put, List.setIfInBounds_toArray, List.set_cons_zero, List.set_cons_succ]
  refine takeD 34 (some 88) (v := ?_) rfl rfl (by kernel_rfl) (by kernel_rfl) (by kernel_rfl) (fun _ _ _ h => h) (Or.inl ⟨by rfl, ?_⟩) hT ?_
  rotate_left
  · intro w hSw
    try go_simp
    with_reducible rfl
  try simp only [Act.put, List.setIfInBounds_toArray, List.set_cons_zero, List.set_cons_succ]
  refine callD 35 (by kernel_rfl) rfl (fun K hK => ?_)
  rw [if_pos (by rfl)]
  go_simp
  refine (awake_calls _).mono ?_
  rintro e W9 ⟨rfl, h9⟩
  have hU := hT.trans (h9.mono hT.size)
  refine hK.out _ _ hU (fun _ => ?_)
  clear hK K
  try simp only [Act.put, List.setIfInBounds_toArray, List.set_cons_zero, List.set_cons_succ]
  refine takeD 36 (some 90) (v := ?_) rfl rfl (by kernel_rfl) (by kernel_rfl) (by kernel_rfl) (fun _ _ _ h => h) (Or.inl ⟨by rfl, ?_⟩) hU ?_
  rotate_left
  · intro w hSw
    go_simp
    with_reducible rfl
  try simp only [Act.put, List.setIfInBounds_toArray, List.set_cons_zero, List.set_cons_succ]
  refine takeD 37 (some 6) (v := ?_) rfl rfl (by kernel_rfl) (by kernel_rfl) (by kernel_rfl) (fun _ _ _ h => h) (Or.inl ⟨by rfl, ?_⟩) hU ?_
  rotate_left
  · intro w hSw
    try go_simp
    with_reducible rfl
  try simp only [Act.put, List.setIfInBounds_toArray, List.set_cons_zero, List.set_cons_succ]
  refine wpAnyH_done (by kernel_rfl) ?_ _
  go_wp2
  go_ret
  exact ⟨rfl, b5.out.trans ((hs6.trans (hU.mono hs6.size)).mono b5.out.size)⟩
end Go.Proofs.Ytgbpfbpfoobhhaa
