/-
  PROVED HERE: expr's own same and Same at every two trees: what they return; nothing that lay before is turned.
-/
import Derived.Test.YtafidabopcgkhaaDoorSame
namespace Go.Proofs.YtafidabopcgkhaaDoor
open Go.RowKit

set_option maxRecDepth 100000 in
set_option maxHeartbeats 16000000 in
theorem psame_calls : ∀ (n n' : Nat) (t1 t2 : DataW Unit) (v1 v2 : Value) (w : World) (D : Bool) (d : Int), 1 ≤ d → d + n ≤ 65537 → Ex w n t1 v1 → Ex w n' t2 v2 → (D = true ↔ t1 = t2) →
    Calls Tryd.prog 30 #[v1, v2, .int .i64 d] w fun e w' => e = .returned (.bool D) ∧ Below w.heap.size w w' := by
  have hmx : Tryd.prog.follows .mixedOrders = true := by kernel_rfl
  intro n
  induction n with
  | zero => intro n' t1 t2 v1 v2 w D d _ _ h; exact h.elim
  | succ n ih =>
    intro n' t1 t2 v1 v2 w D d hd0 hd1 h1 h2 hD
    have hdn : ¬ ((65536 : Int) < d) := by omega
    have hdm : decide ((65536 : Int) < d) = false := by simpa using hdn
    have hdw : IntKind.i64.wrap (d + 1) = d + 1 := by rw [IntKind.wrap_i64]; omega
    cases n' with
    | zero => exact h2.elim
    | succ n' =>
      obtain ⟨k, s, a, len, cap, ts, rfl, rfl, hl, hz, hk⟩ := h1
      obtain ⟨k', s', a', len', cap', us, rfl, rfl, hl', hz', hk'⟩ := h2
      rw [node_inj] at hD
      have HB0 : Hid (∀ o o', Below w.heap.size w ((w.alloc o).alloc o')) := fun o o' => ((Below.refl _ w).alloc (Nat.le_refl _) _).alloc (by simp) _
      by_cases e1 : k = k'
      · subst e1
        by_cases e2 : s = s'
        · subst e2
          by_cases e3 : len = len'
          · subst e3
            have HD : Hid (D = true ↔ ts = us) := by
              show D = true ↔ ts = us
              rw [hD]
              simp
            clear hD
            go_enter Tryd.func30, Tryd.ntmps30
            go_wp2
            go_loopw [36] (fun u w' => ∃ i : Nat, i ≤ len ∧ u = .int .i64 (i : Int) ∧ ts.take i = us.take i ∧ Below ((w.alloc (.cells #[.int .i64 k, .string s, .slice a len cap] 24)).alloc (.cells #[.int .i64 k, .string s, .slice a' len cap'] 24)).heap.size ((w.alloc (.cells #[.int .i64 k, .string s, .slice a len cap] 24)).alloc (.cells #[.int .i64 k, .string s, .slice a' len cap'] 24)) w') (fun u _ => len - (intOf u).toNat)
            case atStart => exact ⟨0, by omega, rfl, rfl, Below.refl _ _⟩
            case round =>
              obtain ⟨i, hi, rfl, hT, hB⟩ := hrel
              obtain ⟨b0, b1, hBw⟩ := two_kept hB
              have HT : Hid (ts.take i = us.take i) := hT
              clear hT
              by_cases hlt : i < len
              · obtain ⟨b, o, x, kx, sx, ax, lx, cx, rfl, _, hx, hcx⟩ := kid_at hl hk hlt
                obtain ⟨b', o', y, ky, sy, ay, ly, cy, rfl, _, hy, hcy⟩ := kid_at hl' hk' hlt
                have f0 : ∀ W : World, Below wr.heap.size wr W → W.cell? ⟨w.heap.size, 2, none⟩ = some (.slice (some ⟨b, o, none⟩) len cap) := fun W hW => (hW.cell (p := ⟨w.heap.size, 2, none⟩) (by have := hB.size; simp only [World.size_alloc] at this; show w.heap.size < wr.heap.size; omega)).trans b0
                have f1 : ∀ W : World, Below wr.heap.size wr W → W.cell? ⟨w.heap.size + 1, 2, none⟩ = some (.slice (some ⟨b', o', none⟩) len cap') := fun W hW => (hW.cell (p := ⟨w.heap.size + 1, 2, none⟩) (by have := hB.size; simp only [World.size_alloc] at this; show w.heap.size + 1 < wr.heap.size; omega)).trans b1
                have f2 : ∀ W : World, Below wr.heap.size wr W → W.cell? ⟨b, o + i * 3, none⟩ = some (.int .i64 kx) := fun W hW => (hcx W (hBw.trans (hW.mono hBw.size))).1
                have f3 : ∀ W : World, Below wr.heap.size wr W → W.cell? ⟨b, o + i * 3 + 1, none⟩ = some (.string sx) := fun W hW => (hcx W (hBw.trans (hW.mono hBw.size))).2.1
                have f4 : ∀ W : World, Below wr.heap.size wr W → W.cell? ⟨b, o + i * 3 + 2, none⟩ = some (.slice ax lx cx) := fun W hW => (hcx W (hBw.trans (hW.mono hBw.size))).2.2.1
                have g2 : ∀ W : World, Below wr.heap.size wr W → W.cell? ⟨b', o' + i * 3, none⟩ = some (.int .i64 ky) := fun W hW => (hcy W (hBw.trans (hW.mono hBw.size))).1
                have g3 : ∀ W : World, Below wr.heap.size wr W → W.cell? ⟨b', o' + i * 3 + 1, none⟩ = some (.string sy) := fun W hW => (hcy W (hBw.trans (hW.mono hBw.size))).2.1
                have g4 : ∀ W : World, Below wr.heap.size wr W → W.cell? ⟨b', o' + i * 3 + 2, none⟩ = some (.slice ay ly cy) := fun W hW => (hcy W (hBw.trans (hW.mono hBw.size))).2.2.1
                have p3 := (hcx wr hBw).2.2.2
                have q3 := (hcy wr hBw).2.2.2
                have hi0 : (0 : Int) ≤ (i : Int) := by omega
                have hi1 : (i : Int) < (len : Int) := by omega
                clear hcx hcy hk hk'
                by_cases exy : x = y
                · have HS : Hid (ts.take (i + 1) = us.take (i + 1)) := take_same HT.out hx (by rw [hy, exy])
                  have HR : Hid (∀ W : World, Below wr.heap.size wr W → Calls Tryd.prog 30 #[.agg #[.int .i64 kx, .string sx, .slice ax lx cx], .agg #[.int .i64 ky, .string sy, .slice ay ly cy], .int .i64 (d + 1)] W fun e w' => e = .returned (.bool true) ∧ Below W.heap.size W w') := fun W hW => ih n' x y _ _ W true (d + 1) (by omega) (by omega) (Ex.below hW _ _ _ p3) (Ex.below hW _ _ _ q3) (by simp [exy])
                  clear p3 q3 hx hy ih HD
                  go_wp2_with fail
                  refine wp_region_held_drew (S := fun w' => Below wr.heap.size wr w') hmx (Below.refl _ _).drew (fun hS => ?_)
                  refine takeD 0 (some 39) (v := ?_) rfl rfl (by kernel_rfl) (by kernel_rfl) (by kernel_rfl) (fun _ _ _ h => h) (Or.inl ⟨by rfl, ?_⟩) hS ?_
                  rotate_left
                  · intro w hSw
                    go_simp
                    with_reducible rfl
                  try simp only [Act.put, List.setIfInBounds_toArray, List.set_cons_zero, List.set_cons_succ]
                  refine takeD 1 (some 40) (v := ?_) rfl rfl (by kernel_rfl) (by kernel_rfl) (by kernel_rfl) (fun _ _ _ h => h) (Or.inl ⟨by rfl, ?_⟩) hS ?_
                  rotate_left
                  · intro w hSw
                    go_simp
                    with_reducible rfl
                  try simp only [Act.put, List.setIfInBounds_toArray, List.set_cons_zero, List.set_cons_succ]
                  refine takeD 2 (some 41) (v := ?_) rfl rfl (by kernel_rfl) (by kernel_rfl) (by kernel_rfl) (fun _ _ _ h => h) (Or.inl ⟨by rfl, ?_⟩) hS ?_
                  rotate_left
                  · intro w hSw
                    go_simp
                    with_reducible rfl
                  try simp only [Act.put, List.setIfInBounds_toArray, List.set_cons_zero, List.set_cons_succ]
                  refine takeD 3 (some 42) (v := ?_) rfl rfl (by kernel_rfl) (by kernel_rfl) (by kernel_rfl) (fun _ _ _ h => h) (Or.inl ⟨by rfl, ?_⟩) hS ?_
                  rotate_left
                  · intro w hSw
                    go_simp
                    with_reducible rfl
                  try simp only [Act.put, List.setIfInBounds_toArray, List.set_cons_zero, List.set_cons_succ]
                  refine takeD 4 (some 43) (v := ?_) rfl rfl (by kernel_rfl) (by kernel_rfl) (by kernel_rfl) (fun _ _ _ h => h) (Or.inl ⟨by rfl, ?_⟩) hS ?_
                  rotate_left
                  · intro w hSw
                    go_simp
                    with_reducible rfl
                  try simp only [Act.put, List.setIfInBounds_toArray, List.set_cons_zero, List.set_cons_succ]
                  refine takeD 5 (some 44) (v := ?_) rfl rfl (by kernel_rfl) (by kernel_rfl) (by kernel_rfl) (fun _ _ _ h => h) (Or.inl ⟨by rfl, ?_⟩) hS ?_
                  rotate_left
                  · intro w hSw
                    go_simp
                    with_reducible rfl
                  try simp only [Act.put, List.setIfInBounds_toArray, List.set_cons_zero, List.set_cons_succ]
                  refine takeD 6 (some 45) (v := ?_) rfl rfl (by kernel_rfl) (by kernel_rfl) (by kernel_rfl) (fun _ _ _ h => h) (Or.inl ⟨by rfl, ?_⟩) hS ?_
                  rotate_left
                  · intro w hSw
                    go_simp
                    with_reducible rfl
                  try simp only [Act.put, List.setIfInBounds_toArray, List.set_cons_zero, List.set_cons_succ]
                  refine takeD 7 (some 46) (v := ?_) rfl rfl (by kernel_rfl) (by kernel_rfl) (by kernel_rfl) (fun _ _ _ h => h) (Or.inl ⟨by rfl, ?_⟩) hS ?_
                  rotate_left
                  · intro w hSw
                    go_simp
                    with_reducible rfl
                  try simp only [Act.put, List.setIfInBounds_toArray, List.set_cons_zero, List.set_cons_succ]
                  refine takeD 8 (some 47) (v := ?_) rfl rfl (by kernel_rfl) (by kernel_rfl) (by kernel_rfl) (fun _ _ _ h => h) (Or.inl ⟨by rfl, ?_⟩) hS ?_
                  rotate_left
                  · intro w hSw
                    go_simp
                    with_reducible rfl
                  try simp only [Act.put, List.setIfInBounds_toArray, List.set_cons_zero, List.set_cons_succ]
                  refine takeD 9 (some 48) (v := ?_) rfl rfl (by kernel_rfl) (by kernel_rfl) (by kernel_rfl) (fun _ _ _ h => h) (Or.inl ⟨by rfl, ?_⟩) hS ?_
                  rotate_left
                  · intro w hSw
                    go_simp
                    with_reducible rfl
                  try simp only [Act.put, List.setIfInBounds_toArray, List.set_cons_zero, List.set_cons_succ]
                  refine takeD 10 (some 49) (v := ?_) rfl rfl (by kernel_rfl) (by kernel_rfl) (by kernel_rfl) (fun _ _ _ h => h) (Or.inl ⟨by rfl, ?_⟩) hS ?_
                  rotate_left
                  · intro w hSw
                    go_simp
                    with_reducible rfl
                  try simp only [Act.put, List.setIfInBounds_toArray, List.set_cons_zero, List.set_cons_succ]
                  refine takeD 11 (some 50) (v := ?_) rfl rfl (by kernel_rfl) (by kernel_rfl) (by kernel_rfl) (fun _ _ _ h => h) (Or.inl ⟨by rfl, ?_⟩) hS ?_
                  rotate_left
                  · intro w hSw
                    go_simp
                    with_reducible rfl
                  try simp only [Act.put, List.setIfInBounds_toArray, List.set_cons_zero, List.set_cons_succ]
                  refine callD 12 (by kernel_rfl) rfl (fun K hK => ?_)
                  go_simp
                  refine (HR.out _ hS).mono ?_
                  rintro e W3 ⟨rfl, hB3⟩
                  have hS3 : Below wr.heap.size wr W3 := hS.trans (hB3.mono hS.size)
                  refine hK.out _ _ hS3 (fun _ => ?_)
                  clear hK K
                  try simp only [Act.put, List.setIfInBounds_toArray, List.set_cons_zero, List.set_cons_succ]
                  refine takeD 13 (some 52) (v := ?_) rfl rfl (by kernel_rfl) (by kernel_rfl) (by kernel_rfl) (fun _ _ _ h => h) (Or.inl ⟨by rfl, ?_⟩) hS3 ?_
                  rotate_left
                  · intro w hSw
                    go_simp
                    with_reducible rfl
                  try simp only [Act.put, List.setIfInBounds_toArray, List.set_cons_zero, List.set_cons_succ]
                  refine wpAnyH_done (by kernel_rfl) ?_ _
                  go_wp2
                  go_roundw
                  case rel => exact ⟨i + 1, by omega, rfl, HS.out, hB.trans (hS3.mono hB.size)⟩
                  case measure => simp [intOf]; omega
                · have HF : Hid (D = false) := not_same HD.out (by intro e; rw [e, hy] at hx; exact exy (Option.some.inj hx).symm)
                  have HR : Hid (∀ W : World, Below wr.heap.size wr W → Calls Tryd.prog 30 #[.agg #[.int .i64 kx, .string sx, .slice ax lx cx], .agg #[.int .i64 ky, .string sy, .slice ay ly cy], .int .i64 (d + 1)] W fun e w' => e = .returned (.bool false) ∧ Below W.heap.size W w') := fun W hW => ih n' x y _ _ W false (d + 1) (by omega) (by omega) (Ex.below hW _ _ _ p3) (Ex.below hW _ _ _ q3) (by simp [exy])
                  clear p3 q3 hx hy ih HD
                  go_wp2_with fail
                  refine wp_region_held_drew (S := fun w' => Below wr.heap.size wr w') hmx (Below.refl _ _).drew (fun hS => ?_)
                  refine takeD 0 (some 39) (v := ?_) rfl rfl (by kernel_rfl) (by kernel_rfl) (by kernel_rfl) (fun _ _ _ h => h) (Or.inl ⟨by rfl, ?_⟩) hS ?_
                  rotate_left
                  · intro w hSw
                    go_simp
                    with_reducible rfl
                  try simp only [Act.put, List.setIfInBounds_toArray, List.set_cons_zero, List.set_cons_succ]
                  refine takeD 1 (some 40) (v := ?_) rfl rfl (by kernel_rfl) (by kernel_rfl) (by kernel_rfl) (fun _ _ _ h => h) (Or.inl ⟨by rfl, ?_⟩) hS ?_
                  rotate_left
                  · intro w hSw
                    go_simp
                    with_reducible rfl
                  try simp only [Act.put, List.setIfInBounds_toArray, List.set_cons_zero, List.set_cons_succ]
                  refine takeD 2 (some 41) (v := ?_) rfl rfl (by kernel_rfl) (by kernel_rfl) (by kernel_rfl) (fun _ _ _ h => h) (Or.inl ⟨by rfl, ?_⟩) hS ?_
                  rotate_left
                  · intro w hSw
                    go_simp
                    with_reducible rfl
                  try simp only [Act.put, List.setIfInBounds_toArray, List.set_cons_zero, List.set_cons_succ]
                  refine takeD 3 (some 42) (v := ?_) rfl rfl (by kernel_rfl) (by kernel_rfl) (by kernel_rfl) (fun _ _ _ h => h) (Or.inl ⟨by rfl, ?_⟩) hS ?_
                  rotate_left
                  · intro w hSw
                    go_simp
                    with_reducible rfl
                  try simp only [Act.put, List.setIfInBounds_toArray, List.set_cons_zero, List.set_cons_succ]
                  refine takeD 4 (some 43) (v := ?_) rfl rfl (by kernel_rfl) (by kernel_rfl) (by kernel_rfl) (fun _ _ _ h => h) (Or.inl ⟨by rfl, ?_⟩) hS ?_
                  rotate_left
                  · intro w hSw
                    go_simp
                    with_reducible rfl
                  try simp only [Act.put, List.setIfInBounds_toArray, List.set_cons_zero, List.set_cons_succ]
                  refine takeD 5 (some 44) (v := ?_) rfl rfl (by kernel_rfl) (by kernel_rfl) (by kernel_rfl) (fun _ _ _ h => h) (Or.inl ⟨by rfl, ?_⟩) hS ?_
                  rotate_left
                  · intro w hSw
                    go_simp
                    with_reducible rfl
                  try simp only [Act.put, List.setIfInBounds_toArray, List.set_cons_zero, List.set_cons_succ]
                  refine takeD 6 (some 45) (v := ?_) rfl rfl (by kernel_rfl) (by kernel_rfl) (by kernel_rfl) (fun _ _ _ h => h) (Or.inl ⟨by rfl, ?_⟩) hS ?_
                  rotate_left
                  · intro w hSw
                    go_simp
                    with_reducible rfl
                  try simp only [Act.put, List.setIfInBounds_toArray, List.set_cons_zero, List.set_cons_succ]
                  refine takeD 7 (some 46) (v := ?_) rfl rfl (by kernel_rfl) (by kernel_rfl) (by kernel_rfl) (fun _ _ _ h => h) (Or.inl ⟨by rfl, ?_⟩) hS ?_
                  rotate_left
                  · intro w hSw
                    go_simp
                    with_reducible rfl
                  try simp only [Act.put, List.setIfInBounds_toArray, List.set_cons_zero, List.set_cons_succ]
                  refine takeD 8 (some 47) (v := ?_) rfl rfl (by kernel_rfl) (by kernel_rfl) (by kernel_rfl) (fun _ _ _ h => h) (Or.inl ⟨by rfl, ?_⟩) hS ?_
                  rotate_left
                  · intro w hSw
                    go_simp
                    with_reducible rfl
                  try simp only [Act.put, List.setIfInBounds_toArray, List.set_cons_zero, List.set_cons_succ]
                  refine takeD 9 (some 48) (v := ?_) rfl rfl (by kernel_rfl) (by kernel_rfl) (by kernel_rfl) (fun _ _ _ h => h) (Or.inl ⟨by rfl, ?_⟩) hS ?_
                  rotate_left
                  · intro w hSw
                    go_simp
                    with_reducible rfl
                  try simp only [Act.put, List.setIfInBounds_toArray, List.set_cons_zero, List.set_cons_succ]
                  refine takeD 10 (some 49) (v := ?_) rfl rfl (by kernel_rfl) (by kernel_rfl) (by kernel_rfl) (fun _ _ _ h => h) (Or.inl ⟨by rfl, ?_⟩) hS ?_
                  rotate_left
                  · intro w hSw
                    go_simp
                    with_reducible rfl
                  try simp only [Act.put, List.setIfInBounds_toArray, List.set_cons_zero, List.set_cons_succ]
                  refine takeD 11 (some 50) (v := ?_) rfl rfl (by kernel_rfl) (by kernel_rfl) (by kernel_rfl) (fun _ _ _ h => h) (Or.inl ⟨by rfl, ?_⟩) hS ?_
                  rotate_left
                  · intro w hSw
                    go_simp
                    with_reducible rfl
                  try simp only [Act.put, List.setIfInBounds_toArray, List.set_cons_zero, List.set_cons_succ]
                  refine callD 12 (by kernel_rfl) rfl (fun K hK => ?_)
                  go_simp
                  refine (HR.out _ hS).mono ?_
                  rintro e W3 ⟨rfl, hB3⟩
                  have hS3 : Below wr.heap.size wr W3 := hS.trans (hB3.mono hS.size)
                  refine hK.out _ _ hS3 (fun _ => ?_)
                  clear hK K
                  try simp only [Act.put, List.setIfInBounds_toArray, List.set_cons_zero, List.set_cons_succ]
                  refine takeD 13 (some 52) (v := ?_) rfl rfl (by kernel_rfl) (by kernel_rfl) (by kernel_rfl) (fun _ _ _ h => h) (Or.inl ⟨by rfl, ?_⟩) hS3 ?_
                  rotate_left
                  · intro w hSw
                    go_simp
                    with_reducible rfl
                  try simp only [Act.put, List.setIfInBounds_toArray, List.set_cons_zero, List.set_cons_succ]
                  refine wpAnyH_done (by kernel_rfl) ?_ _
                  go_wp2
                  go_ret
                  exact ⟨by rw [HF.out]; rfl, hBw.trans (hS3.mono hBw.size)⟩
              · obtain rfl : i = len := by omega
                have HF : Hid (D = true) := HD.out.2 (by
                  have := HT.out
                  rwa [List.take_of_length_le (Nat.le_of_eq hl), List.take_of_length_le (Nat.le_of_eq hl')] at this)
                clear hk hk' ih HD
                go_wp2
                go_ret
                exact ⟨by rw [HF.out]; rfl, hBw⟩
          · obtain rfl := not_same hD (fun h => e3 (by rw [← hl, ← hl', h.2.2]))
            have e4 : ((len : Int) == (len' : Int)) = false := by rw [beq_eq_false_iff_ne]; omega
            have e5 : ((len : Int) != (len' : Int)) = true := by rw [bne_iff_ne]; omega
            clear hk hk' ih hD
            go_enter Tryd.func30, Tryd.ntmps30
            go_wp2
            go_ret
            exact ⟨rfl, HB0.out _ _⟩
        · obtain rfl := not_same hD (fun h => e2 h.2.1)
          have e4 : (s.toList == s'.toList) = false := str_ne e2
          clear hk hk' ih hD
          go_enter Tryd.func30, Tryd.ntmps30
          go_wp2
          go_ret
          exact ⟨rfl, HB0.out _ _⟩
      · obtain rfl := not_same hD (fun h => e1 h.1)
        have e4 : (k == k') = false := by rw [beq_eq_false_iff_ne]; exact e1
        have e5 : (k != k') = true := by rw [bne_iff_ne]; exact e1
        clear hk hk' ih hD
        go_enter Tryd.func30, Tryd.ntmps30
        go_wp2
        go_ret
        exact ⟨rfl, HB0.out _ _⟩

set_option maxRecDepth 100000 in
theorem fsame_calls (n n' : Nat) (t1 t2 : DataW Unit) (v1 v2 : Value) (w : World) (D : Bool) (hn : n ≤ 65536) (h1 : Ex w n t1 v1) (h2 : Ex w n' t2 v2) (hD : D = true ↔ t1 = t2) :
    Calls Tryd.prog 17 #[v1, v2] w fun e w' => e = .returned (.bool D) ∧ Below w.heap.size w w' := by
  have HR : Hid (∀ W : World, Below w.heap.size w W → Calls Tryd.prog 30 #[v1, v2, .int .i64 1] W fun e w' => e = .returned (.bool D) ∧ Below W.heap.size W w') := fun W hW => psame_calls n n' t1 t2 v1 v2 W D 1 (by omega) (by omega) (Ex.below hW _ _ _ h1) (Ex.below hW _ _ _ h2) hD
  have HB0 : Hid (∀ o o', Below w.heap.size w ((w.alloc o).alloc o')) := fun o o' => ((Below.refl _ w).alloc (Nat.le_refl _) _).alloc (by simp) _
  obtain ⟨k, s, a, len, cap, rfl⟩ : ∃ k s a len cap, v1 = .agg #[.int .i64 k, .string s, .slice a len cap] := by
    cases n with
    | zero => exact h1.elim
    | succ n => obtain ⟨k, s, a, len, cap, ts, _, rfl, _⟩ := h1; exact ⟨k, s, a, len, cap, rfl⟩
  obtain ⟨k', s', a', len', cap', rfl⟩ : ∃ k s a len cap, v2 = .agg #[.int .i64 k, .string s, .slice a len cap] := by
    cases n' with
    | zero => exact h2.elim
    | succ n => obtain ⟨k, s, a, len, cap, ts, _, rfl, _⟩ := h2; exact ⟨k, s, a, len, cap, rfl⟩
  clear h1 h2 hD
  go_enter Tryd.func17, Tryd.ntmps17
  go_wp2_with fail
  refine (HR.out _ (HB0.out _ _)).mono ?_
  rintro e W ⟨rfl, hW⟩
  go_wp2
  go_ret
  exact ⟨rfl, (HB0.out _ _).trans (hW.mono (HB0.out _ _).size)⟩
end Go.Proofs.YtafidabopcgkhaaDoor
