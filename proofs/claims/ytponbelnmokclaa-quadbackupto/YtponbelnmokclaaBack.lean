/-
  PROVED HERE: the statement QuadBack in its second form: numbers that are written are read, bytes that are read as numbers are written so; where what comes in is of bulk at most 1048576.
-/
import Derived.Test.YtponbelnmokclaaAll
import Derived.JoinedCond
namespace Go.Proofs.Ytponbelnmokclaa.quadBack
open Go.ChangeShapes Go.WideShapes Go.ChangeAt Go.RowKit

set_option maxRecDepth 100000 in
set_option maxHeartbeats 2000000 in
theorem walk (a0 : Option Addr) (len0 cap0 : Nat) (z0 : List Int) (a1 : Option Addr) (len1 cap1 : Nat) (z1 : List Int) (w : World) (w0 : Row .u64 w a0 len0 z0) (u0 : U64 z0) (w1 : Row .u8 w a1 len1 z1) (b1 : Bytes z1)
    (s0 : len0 ≤ 1048576) (s1 : len1 ≤ 1048576) :
    Calls Try.prog 5 #[.slice a0 len0 cap0, .slice a1 len1 cap1] w fun e w' => e = .returned (.bool true) ∧ Below w.heap.size w w' := by
  have hmx : Try.prog.follows .mixedOrders = true := by kernel_rfl
  have hll := lebs_length z0 u0
  rw [w0.1] at hll
  have hlb := allA_lebs z0 u0
  have hbk := allA_back z1 b1
  go_enter Try.func5, Try.ntmps5
  go_wp2_with fail
  refine (put_any none a0 0 0 len0 cap0 [] z0 w (row_nil _ _) w0 u0 (by omega)).mono ?_
  rw [List.nil_append]
  rintro e W1 ⟨g1, c1, rfl, _, _, _, _, hr1, hB1⟩
  have hall := all_calls (some ⟨g1, 0, none⟩) (lebs z0).length c1 (lebs z0) W1 hr1 (bytes_lebs z0) (by omega)
  rw [hlb] at hall
  have HQ : Hid (∀ k, qsum (z0.take k) = (lebs (z0.take k)).length) := fun _ => rfl
  have HT : Hid ((lebs z0).length = qsum z0) := rfl
  simp only at hall
  rw [HT.out] at hall ⊢
  have hqs : qsum z0 ≤ 10 * len0 := by rw [← HT.out]; exact hll
  clear hlb hll hr1
  have HA : Hid (Calls Try.prog 16 #[.slice (some ⟨g1, 0, none⟩) (qsum z0) c1] W1 fun e w' => ∃ v, e = .returned (.tuple #[v, .int .i64 (qsum z0 : Int), .int .i64 0]) ∧ w'.ownsRow W1.heap.size 25 1 v z0.length (z0.map (Value.int .u64)) ∧ Below W1.heap.size W1 w') := hall
  clear hall
  go_wp2_with fail
  refine HA.out.mono ?_
  rintro e W2 ⟨v, rfl, hown, hB2⟩
  obtain ⟨ax, cx, rfl, hrx⟩ := row_of_owns_any hown
  have hB2' : Below w.heap.size w W2 := hB1.trans (hB2.mono hB1.size)
  have hz : z0.length = len0 := w0.1
  rw [hz] at hrx ⊢
  clear hown HA
  have hnum := numbers_calls ax a0 len0 cx cap0 z0 W2 hrx (w0.below hB2') (by omega)
  have HN : Hid (Calls Try.prog 18 #[.slice ax len0 cx, .slice a0 len0 cap0] W2 fun e w' => e = .returned (.bool true) ∧ Below W2.heap.size W2 w') := hnum
  clear hnum hrx
  go_wp2_with fail
  refine HN.out.mono ?_
  rintro e W3 ⟨rfl, hB3⟩
  have hB3' : Below w.heap.size w W3 := hB2'.trans (hB3.mono hB2'.size)
  clear HN hB1 hB2 hB3 hB2'
  go_wp2
  go_loopw [8, 9] (fun s i w' => ∃ k : Nat, k ≤ len0 ∧ i = .int .i64 (k : Int) ∧ s = .int .i64 (qsum (z0.take k) : Int) ∧ w' = W3) (fun _ i _ => len0 - (intOf i).toNat)
  case atStart => exact ⟨0, Nat.zero_le _, rfl, rfl, rfl⟩
  case round =>
    obtain ⟨k, hk, rfl, rfl, rfl⟩ := hrel
    by_cases hlt : k < len0
    · obtain ⟨b, o, rfl, hbl, hcl⟩ : ∃ b o, a0 = some ⟨b, o, none⟩ ∧ b < wr.heap.size ∧ ∀ i, i < len0 → wr.cell? ⟨b, o + i, none⟩ = some (.int .u64 (z0.getD i 0)) := by
        rcases (w0.below hB3').2 with h | h
        · omega
        · exact h
      have hck := hcl k hlt
      have hxk := u0.get (k := k) (by omega)
      have hq := qlen_le (z0.getD k 0) hxk.1 hxk.2
      have hs : Hid (qsum (z0.take (k + 1)) = qsum (z0.take k) + qlen (z0.getD k 0).toNat) := by
        show qsum (z0.take (k + 1)) = _
        rw [take_snocD z0 k (by omega), qsum_snoc _ _ hxk.1 hxk.2]
      have hql : qsum (z0.take k) ≤ 10 * k := by
        have := lebs_length (z0.take k) (u0.take k)
        unfold qsum
        rw [List.length_take] at this
        omega
      clear hcl w0 w1 hbk
      generalize z0.getD k 0 = x at *
      generalize qsum (z0.take k) = q at *
      go_wp2_with (go_at_call 9; refine (len_calls x _ hxk.1 hxk.2).mono ?_; rintro e w' ⟨rfl, rfl⟩)
      go_roundw
      case rel => exact ⟨k + 1, by omega, by go_num, by rw [hs.out]; go_num, trivial⟩
      case measure => simp [intOf]; omega
    · rw [show z0.take k = z0 from List.take_of_length_le (by omega)]
      generalize qsum z0 = T at *
      have hall2 := all_calls a1 len1 cap1 z1 wr (w1.below hB3') b1 (by omega)
      have hw1 := w1
      by_cases hz0 : (allA z1).2.2 = 0
      · obtain ⟨hbk1, hbk2⟩ := hbk
        obtain ⟨hbk3, _⟩ := hbk2 hz0
        rw [hz0] at hall2
        have hyl : (allA z1).1.length ≤ len1 := by
          have h := lebs_len_ge _ hbk1
          rw [hbk3, w1.1] at h
          exact h
        generalize (allA z1).1 = ys at *
        generalize (allA z1).2.1 = py at *
        have HB : Hid (lebs ys = z1) := hbk3
        have HA : Hid (Calls Try.prog 16 #[.slice a1 len1 cap1] wr fun e w' => ∃ v, e = .returned (.tuple #[v, .int .i64 py, .int .i64 0]) ∧ w'.ownsRow wr.heap.size 25 1 v ys.length (ys.map (Value.int .u64)) ∧ Below wr.heap.size wr w') := hall2
        clear hall2 hbk2 hbk3 hz0
        go_wp2_with fail
        refine HA.out.mono ?_
        rintro e W4 ⟨v, rfl, hown, hB4⟩
        have hB4' : Below w.heap.size w W4 := hB3'.trans (hB4.mono hB3'.size)
        obtain ⟨ay, cy, rfl, hry⟩ := row_of_owns_any hown
        generalize ys.length = ny at *
        have k1 : ∀ w', Below W4.heap.size W4 w' → (convert 22 9 (.slice a1 len1 cap1)).run Try.prog w' = .ok (.string (strOfNums z1)) w' := fun w' h => conv_row ((w1.below hB4').below h)
        clear hown HA w0 w1 u0
        go_wp2
        refine wp_region_held_drew (S := fun w' => Below W4.heap.size W4 w') hmx (Below.refl _ _).drew (fun hS => ?_)
        refine takeD 0 (some 47) (v := ?_) rfl rfl (by kernel_rfl) (by kernel_rfl) (by kernel_rfl) (fun _ _ _ h => h) (Or.inl ⟨by rfl, ?_⟩) hS ?_
        rotate_left
        · intro w hSw
          go_simp
          with_reducible rfl
        simp only [Act.put, List.setIfInBounds_toArray, List.set_cons_zero, List.set_cons_succ]
        refine takeD 1 (some 48) (v := ?_) rfl rfl (by kernel_rfl) (by kernel_rfl) (by kernel_rfl) (fun _ _ _ h => h) (Or.inl ⟨by rfl, ?_⟩) hS ?_
        rotate_left
        · intro w hSw
          go_simp
          with_reducible rfl
        simp only [Act.put, List.setIfInBounds_toArray, List.set_cons_zero, List.set_cons_succ]
        refine takeD 2 (some 49) (v := ?_) rfl rfl (by kernel_rfl) (by kernel_rfl) (by kernel_rfl) (fun _ _ _ h => h) (Or.inl ⟨by rfl, ?_⟩) hS ?_
        rotate_left
        · intro w hSw
          go_simp
          with_reducible rfl
        simp only [Act.put, List.setIfInBounds_toArray, List.set_cons_zero, List.set_cons_succ]
        refine takeD 3 (some 50) (v := ?_) rfl rfl (by kernel_rfl) (by kernel_rfl) (by kernel_rfl) (fun _ _ _ h => h) (Or.inl ⟨by rfl, ?_⟩) hS ?_
        rotate_left
        · intro w hSw
          go_simp
          with_reducible rfl
        simp only [Act.put, List.setIfInBounds_toArray, List.set_cons_zero, List.set_cons_succ]
        refine takeD 4 (some 51) (v := ?_) rfl rfl (by kernel_rfl) (by kernel_rfl) (by kernel_rfl) (fun _ _ _ h => h) (Or.inl ⟨by rfl, ?_⟩) hS ?_
        rotate_left
        · intro w hSw
          go_simp
          with_reducible rfl
        simp only [Act.put, List.setIfInBounds_toArray, List.set_cons_zero, List.set_cons_succ]
        refine takeD 5 (some 52) (v := ?_) rfl rfl (by kernel_rfl) (by kernel_rfl) (by kernel_rfl) (fun _ _ _ h => h) (Or.inl ⟨by rfl, ?_⟩) hS ?_
        rotate_left
        · intro w hSw
          go_simp
          with_reducible rfl
        simp only [Act.put, List.setIfInBounds_toArray, List.set_cons_zero, List.set_cons_succ]
        refine takeD 6 (some 53) (v := ?_) rfl rfl (by kernel_rfl) (by kernel_rfl) (by kernel_rfl) (fun _ _ _ h => h) (Or.inl ⟨by rfl, ?_⟩) hS ?_
        rotate_left
        · intro w hSw
          go_simp
          with_reducible rfl
        simp only [Act.put, List.setIfInBounds_toArray, List.set_cons_zero, List.set_cons_succ]
        refine takeD 7 (some 54) (v := ?_) rfl rfl (by kernel_rfl) (by kernel_rfl) (by kernel_rfl) (fun _ _ _ h => h) (Or.inl ⟨by rfl, ?_⟩) hS ?_
        rotate_left
        · intro w hSw
          go_simp
          with_reducible rfl
        simp only [Act.put, List.setIfInBounds_toArray, List.set_cons_zero, List.set_cons_succ]
        refine takeD 10 (some 57) (v := ?_) rfl rfl (by kernel_rfl) (by kernel_rfl) (by kernel_rfl) (fun _ _ _ h => h) (Or.inl ⟨by rfl, ?_⟩) hS ?_
        rotate_left
        · intro w hSw
          go_simp
          with_reducible rfl
        simp only [Act.put, List.setIfInBounds_toArray, List.set_cons_zero, List.set_cons_succ]
        refine takeD 11 (some 58) (v := ?_) rfl rfl (by kernel_rfl) (by kernel_rfl) (by kernel_rfl) (fun _ _ _ h => h) (Or.inl ⟨by rfl, ?_⟩) hS ?_
        rotate_left
        · intro w hSw
          go_simp
          with_reducible rfl
        simp only [Act.put, List.setIfInBounds_toArray, List.set_cons_zero, List.set_cons_succ]
        refine callD 8 (by kernel_rfl) rfl (fun K hK => ?_)
        go_simp
        refine (put_any none ay 0 0 ny cy [] ys _ (row_nil _ _) (hry.below hS) hbk1 (by omega)).mono ?_
        rw [List.nil_append, HB.out]
        generalize z1.length = n5
        rintro e W5 ⟨g5, c5, rfl, _, _, _, _, hr5, hb5⟩
        have hS5 : Below W4.heap.size W4 W5 := hS.trans (hb5.mono hS.size)
        have k5 : ∀ w', Below W5.heap.size W5 w' → (convert 22 9 (.slice (some ⟨g5, 0, none⟩) n5 c5)).run Try.prog w' = .ok (.string (strOfNums z1)) w' := fun w' h => conv_row (hr5.below h)
        refine hK.out _ _ hS5 (fun _ => wpAnyH_strong (S' := fun w' => Below W5.heap.size W5 w') (fun w h => hS5.trans (h.mono hS5.size)) _ _ _ _ ?_)
        clear hK K
        have hT : Below W5.heap.size W5 W5 := Below.refl _ _
        try simp only [Act.put, List.setIfInBounds_toArray, List.set_cons_zero, List.set_cons_succ]
        refine takeD 9 (some 56) (v := ?_) rfl rfl (by kernel_rfl) (by kernel_rfl) (by kernel_rfl) (fun _ _ _ h => h) (Or.inl ⟨by rfl, ?_⟩) hT ?_
        rotate_left
        · intro w hSw
          go_simp
          with_reducible rfl
        simp only [Act.put, List.setIfInBounds_toArray, List.set_cons_zero, List.set_cons_succ]
        refine takeD 12 (some 59) (v := ?_) rfl rfl (by kernel_rfl) (by kernel_rfl) (by kernel_rfl) (fun _ _ _ h => h) (Or.inl ⟨by rfl, ?_⟩) hT ?_
        rotate_left
        · intro w hSw
          go_simp
          with_reducible rfl
        simp only [Act.put, List.setIfInBounds_toArray, List.set_cons_zero, List.set_cons_succ]
        refine takeD 13 (some 60) (v := ?_) rfl rfl (by kernel_rfl) (by kernel_rfl) (by kernel_rfl) (fun _ _ _ h => h) (Or.inl ⟨by rfl, ?_⟩) hT ?_
        rotate_left
        · intro w hSw
          go_simp
          with_reducible rfl
        simp only [Act.put, List.setIfInBounds_toArray, List.set_cons_zero, List.set_cons_succ]
        refine takeD 14 (some 61) (v := ?_) rfl rfl (by kernel_rfl) (by kernel_rfl) (by kernel_rfl) (fun _ _ _ h => h) (Or.inl ⟨by rfl, ?_⟩) hT ?_
        rotate_left
        · intro w hSw
          go_simp
          with_reducible rfl
        simp only [Act.put, List.setIfInBounds_toArray, List.set_cons_zero, List.set_cons_succ]
        refine takeD 15 (some 62) (v := ?_) rfl rfl (by kernel_rfl) (by kernel_rfl) (by kernel_rfl) (fun _ _ _ h => h) (Or.inl ⟨by rfl, ?_⟩) hT ?_
        rotate_left
        · intro w hSw
          go_simp
          with_reducible rfl
        simp only [Act.put, List.setIfInBounds_toArray, List.set_cons_zero, List.set_cons_succ]
        refine callD 16 (by kernel_rfl) rfl (fun K hK => ?_)
        go_simp
        refine (awake_calls _).mono ?_
        rintro e w' ⟨rfl, rfl⟩
        refine hK.out _ _ hT (fun _ => ?_)
        clear hK K
        try simp only [Act.put, List.setIfInBounds_toArray, List.set_cons_zero, List.set_cons_succ]
        refine takeD 17 (some 64) (v := ?_) rfl rfl (by kernel_rfl) (by kernel_rfl) (by kernel_rfl) (fun _ _ _ h => h) (Or.inl ⟨by rfl, ?_⟩) hT ?_
        rotate_left
        · intro w hSw
          go_simp
          with_reducible rfl
        simp only [Act.put, List.setIfInBounds_toArray, List.set_cons_zero, List.set_cons_succ]
        refine takeD 18 (some 4) (v := ?_) rfl rfl (by kernel_rfl) (by kernel_rfl) (by kernel_rfl) (fun _ _ _ h => h) (Or.inl ⟨by rfl, ?_⟩) hT ?_
        rotate_left
        · intro w hSw
          go_simp
          with_reducible rfl
        simp only [Act.put, List.setIfInBounds_toArray, List.set_cons_zero, List.set_cons_succ]
        refine wpAnyH_done (by kernel_rfl) ?_ _
        go_wp2
        go_ret
        exact ⟨rfl, hB4'.trans (hS5.mono hB4'.size)⟩
      · generalize (allA z1).1 = ys at *
        generalize (allA z1).2.1 = py at *
        generalize (allA z1).2.2 = pz at *
        have hne : (pz != 0) = true := by simpa using hz0
        have HA : Hid (Calls Try.prog 16 #[.slice a1 len1 cap1] wr fun e w' => ∃ v, e = .returned (.tuple #[v, .int .i64 py, .int .i64 pz]) ∧ w'.ownsRow wr.heap.size 25 1 v ys.length (ys.map (Value.int .u64)) ∧ Below wr.heap.size wr w') := hall2
        clear hall2 hbk hz0
        go_wp2_with fail
        refine HA.out.mono ?_
        rintro e W4 ⟨v, rfl, hown, hB4⟩
        have hB4' : Below w.heap.size w W4 := hB3'.trans (hB4.mono hB3'.size)
        clear hown HA w0 w1 u0
        go_wp2
        refine wp_region_held_drew (S := fun w' => Below W4.heap.size W4 w') hmx (Below.refl _ _).drew (fun hS => ?_)
        refine takeD 0 (some 47) (v := ?_) rfl rfl (by kernel_rfl) (by kernel_rfl) (by kernel_rfl) (fun _ _ _ h => h) (Or.inl ⟨by rfl, ?_⟩) hS ?_
        rotate_left
        · intro w hSw
          go_simp
          with_reducible rfl
        simp only [Act.put, List.setIfInBounds_toArray, List.set_cons_zero, List.set_cons_succ]
        refine takeD 1 (some 48) (v := ?_) rfl rfl (by kernel_rfl) (by kernel_rfl) (by kernel_rfl) (fun _ _ _ h => h) (Or.inl ⟨by rfl, ?_⟩) hS ?_
        rotate_left
        · intro w hSw
          go_simp
          with_reducible rfl
        simp only [Act.put, List.setIfInBounds_toArray, List.set_cons_zero, List.set_cons_succ]
        refine takeD 2 (some 49) (v := ?_) rfl rfl (by kernel_rfl) (by kernel_rfl) (by kernel_rfl) (fun _ _ _ h => h) (Or.inl ⟨by rfl, ?_⟩) hS ?_
        rotate_left
        · intro w hSw
          go_simp
          with_reducible rfl
        simp only [Act.put, List.setIfInBounds_toArray, List.set_cons_zero, List.set_cons_succ]
        refine takeD 3 (some 50) (v := ?_) rfl rfl (by kernel_rfl) (by kernel_rfl) (by kernel_rfl) (fun _ _ _ h => h) (Or.inl ⟨by rfl, ?_⟩) hS ?_
        rotate_left
        · intro w hSw
          go_simp
          with_reducible rfl
        simp only [Act.put, List.setIfInBounds_toArray, List.set_cons_zero, List.set_cons_succ]
        refine takeD 4 (some 51) (v := ?_) rfl rfl (by kernel_rfl) (by kernel_rfl) (by kernel_rfl) (fun _ _ _ h => h) (Or.inl ⟨by rfl, ?_⟩) hS ?_
        rotate_left
        · intro w hSw
          go_simp
          with_reducible rfl
        simp only [Act.put, List.setIfInBounds_toArray, List.set_cons_zero, List.set_cons_succ]
        refine takeD 5 (some 52) (v := ?_) rfl rfl (by kernel_rfl) (by kernel_rfl) (by kernel_rfl) (fun _ _ _ h => h) (Or.inl ⟨by rfl, ?_⟩) hS ?_
        rotate_left
        · intro w hSw
          go_simp
          with_reducible rfl
        simp only [Act.put, List.setIfInBounds_toArray, List.set_cons_zero, List.set_cons_succ]
        refine takeD 6 (some 53) (v := ?_) rfl rfl (by kernel_rfl) (by kernel_rfl) (by kernel_rfl) (fun _ _ _ h => h) (Or.inl ⟨by rfl, ?_⟩) hS ?_
        rotate_left
        · intro w hSw
          go_simp
          with_reducible rfl
        simp only [Act.put, List.setIfInBounds_toArray, List.set_cons_zero, List.set_cons_succ]
        refine takeD 7 (some 54) (v := undef) rfl rfl (by kernel_rfl) (by kernel_rfl) (by kernel_rfl) (fun _ _ _ h => h) (Or.inr ⟨by rfl, rfl⟩) hS ?_
        simp only [Act.put, List.setIfInBounds_toArray, List.set_cons_zero, List.set_cons_succ]
        refine takeD 8 (some 55) (v := undef) rfl rfl (by kernel_rfl) (by kernel_rfl) (by kernel_rfl) (fun _ _ _ h => h) (Or.inr ⟨by rfl, rfl⟩) hS ?_
        simp only [Act.put, List.setIfInBounds_toArray, List.set_cons_zero, List.set_cons_succ]
        refine takeD 9 (some 56) (v := undef) rfl rfl (by kernel_rfl) (by kernel_rfl) (by kernel_rfl) (fun _ _ _ h => h) (Or.inr ⟨by rfl, rfl⟩) hS ?_
        simp only [Act.put, List.setIfInBounds_toArray, List.set_cons_zero, List.set_cons_succ]
        refine takeD 10 (some 57) (v := undef) rfl rfl (by kernel_rfl) (by kernel_rfl) (by kernel_rfl) (fun _ _ _ h => h) (Or.inr ⟨by rfl, rfl⟩) hS ?_
        simp only [Act.put, List.setIfInBounds_toArray, List.set_cons_zero, List.set_cons_succ]
        refine takeD 11 (some 58) (v := undef) rfl rfl (by kernel_rfl) (by kernel_rfl) (by kernel_rfl) (fun _ _ _ h => h) (Or.inr ⟨by rfl, rfl⟩) hS ?_
        simp only [Act.put, List.setIfInBounds_toArray, List.set_cons_zero, List.set_cons_succ]
        refine takeD 12 (some 59) (v := undef) rfl rfl (by kernel_rfl) (by kernel_rfl) (by kernel_rfl) (fun _ _ _ h => h) (Or.inr ⟨by rfl, rfl⟩) hS ?_
        simp only [Act.put, List.setIfInBounds_toArray, List.set_cons_zero, List.set_cons_succ]
        refine takeD 13 (some 60) (v := ?_) rfl rfl (by kernel_rfl) (by kernel_rfl) (by kernel_rfl) (fun _ _ _ h => h) (Or.inl ⟨by rfl, ?_⟩) hS ?_
        rotate_left
        · intro w hSw
          go_simp
          with_reducible rfl
        simp only [Act.put, List.setIfInBounds_toArray, List.set_cons_zero, List.set_cons_succ]
        refine takeD 14 (some 61) (v := ?_) rfl rfl (by kernel_rfl) (by kernel_rfl) (by kernel_rfl) (fun _ _ _ h => h) (Or.inl ⟨by rfl, ?_⟩) hS ?_
        rotate_left
        · intro w hSw
          go_simp
          with_reducible rfl
        simp only [Act.put, List.setIfInBounds_toArray, List.set_cons_zero, List.set_cons_succ]
        refine takeD 15 (some 62) (v := ?_) rfl rfl (by kernel_rfl) (by kernel_rfl) (by kernel_rfl) (fun _ _ _ h => h) (Or.inl ⟨by rfl, ?_⟩) hS ?_
        rotate_left
        · intro w hSw
          go_simp
          with_reducible rfl
        simp only [Act.put, List.setIfInBounds_toArray, List.set_cons_zero, List.set_cons_succ]
        refine callD 16 (by kernel_rfl) rfl (fun K hK => ?_)
        go_simp
        refine (awake_calls _).mono ?_
        rintro e w' ⟨rfl, rfl⟩
        refine hK.out _ _ hS (fun _ => ?_)
        clear hK K
        try simp only [Act.put, List.setIfInBounds_toArray, List.set_cons_zero, List.set_cons_succ]
        refine takeD 17 (some 64) (v := ?_) rfl rfl (by kernel_rfl) (by kernel_rfl) (by kernel_rfl) (fun _ _ _ h => h) (Or.inl ⟨by rfl, ?_⟩) hS ?_
        rotate_left
        · intro w hSw
          go_simp
          with_reducible rfl
        simp only [Act.put, List.setIfInBounds_toArray, List.set_cons_zero, List.set_cons_succ]
        refine takeD 18 (some 4) (v := ?_) rfl rfl (by kernel_rfl) (by kernel_rfl) (by kernel_rfl) (fun _ _ _ h => h) (Or.inl ⟨by rfl, ?_⟩) hS ?_
        rotate_left
        · intro w hSw
          go_simp
          with_reducible rfl
        simp only [Act.put, List.setIfInBounds_toArray, List.set_cons_zero, List.set_cons_succ]
        refine wpAnyH_done (by kernel_rfl) ?_ _
        go_wp2
        go_ret
        exact ⟨rfl, hB4'.trans (hS.mono hB4'.size)⟩

theorem own : ownKnob Try.prog.godebug = none := by kernel_rfl
theorem laidOut : laidOutB Try.prog = true := by kernel_rfl

theorem contract (H : Type) (enc : TypeId × Value → H) (W : World) (base : Nat) (args : Array Value) (ds gs : List (DataW H)) (before : List MemPlace)
    (hval : ∀ (j : Nat) t v, Try.f5.params[j]? = some t → args[j]? = some v → Value.okWide Try.prog W .any base t v)
    (hW : DataW.Whole enc Try.prog Try.f5.params.toList Rows.quadBackSpec.vars false W args.toList ds gs before) (hk : Rows.uptoSmall H (ds ++ gs) = true) :
    Calls Try.prog 5 args W fun e W' => ∃ v, e = .returned v ∧ Rows.quadBackSpec.post enc Try.prog Try.f5 false true false false W args v W' := by
  have hW' := hW
  obtain ⟨p, q, hA0, hV, rfl, hfz, hnd⟩ := hW
  have hA : DataW.TrodAll enc Try.prog W 0 (fun _ => true) true Try.f5.params.toList args.toList ds p := hA0
  rw [Try.params5] at hA hval
  obtain ⟨v0, vs0, d0, ds0, p0, q0, hargs, rfl, rfl, h0, r0⟩ := trodAll_cons hA
  obtain ⟨v1, vs1, d1, ds1, p1, q1, rfl, rfl, rfl, h1, r1⟩ := trodAll_cons r0
  obtain ⟨rfl, rfl, rfl⟩ := trodAll_nil r1
  obtain rfl : args = #[v0, v1] := by cases args; simp_all
  obtain ⟨rfl, rfl⟩ := trodVars_none hV
  have hk' : Rows.uptoBulkAll ([d0, d1] ++ []) ≤ 1048576 := of_decide_eq_true hk
  simp only [List.append_nil, Rows.uptoBulkAll] at hk'
  obtain ⟨a0, len0, cap0, rfl⟩ := okWide_slice Try.underlying23 (hval 0 23 v0 rfl rfl)
  have k0 := h0
  have lt0 : ∀ x ∈ p0, x.block < W.heap.size := by obtain ⟨m, hm⟩ := k0; exact DataW.trod_lt m _ _ _ hm
  obtain ⟨z0, w0, f0, l0⟩ := open_arg Try.underlying23 Try.underlying25 (by kernel_rfl) h0
  obtain ⟨a1, len1, cap1, rfl⟩ := okWide_slice Try.underlying22 (hval 1 22 v1 rfl rfl)
  have k1 := h1
  have lt1 : ∀ x ∈ p1, x.block < W.heap.size := by obtain ⟨m, hm⟩ := k1; exact DataW.trod_lt m _ _ _ hm
  obtain ⟨z1, w1, f1, l1⟩ := open_arg Try.underlying22 Try.underlying5 (by kernel_rfl) h1
  clear hA0
  refine (walk a0 len0 cap0 z0 a1 len1 cap1 z1 W w0 (u64_of_wf f0) w1 (bytes_of_wf f1) (by omega) (by omega)).mono fun e W' ⟨he, bel⟩ => ?_
  subst he
  exact ⟨_, rfl, _, _, _, [], _, [], hW', trodAll_mk1 (shut_bool Try.underlying4 _), (trodAll_cons_mk (Below.trod laidOut (by kernel_rfl) (of_decide_eq_true (by kernel_rfl)) k0 bel lt0) (trodAll_cons_mk (Below.trod laidOut (by kernel_rfl) (of_decide_eq_true (by kernel_rfl)) k1 bel lt1) trodAll_mk0)), rfl, bel.frame _, fun h => by cases h⟩

set_option maxRecDepth 100000 in
theorem lifted (os : Os) (started : os.Started) (H : Type) (enc : TypeId × Value → H) (F : Stop.Interp) :
    ReturnsInHanded {} Try.checked os 5 .any ((Rows.OpenSpec.upto Rows.quadBackSpec).pre6 enc Try.prog Try.f5 Rows.quadBackUptoRow.domain false) (((Rows.OpenSpec.upto Rows.quadBackSpec).at F).post enc Try.prog Try.f5 false true false false) := by
  refine returnsInHanded_of_cond (C := Try.checked) (s := Rows.OpenSpec.upto Rows.quadBackSpec) (k := Rows.uptoSmall) rfl own started (by kernel_rfl) Try.func5
    (OpenSpec.witness (enc := enc) (C := Try.checked) (s := Rows.OpenSpec.upto Rows.quadBackSpec) (k := Rows.uptoSmall) rfl false ⟨#[], #[.slice none 0 0, .slice none 0 0], []⟩ 8 (by kernel_rfl) (by kernel_rfl) (by kernel_rfl)
      (x := ([.nil, .nil], [], [])) (by kernel_rfl) rfl (by kernel_rfl)) ?_
  intro W base args ds gs before hval hW _ hk _
  exact contract H enc W base args ds gs before hval hW hk

theorem proved : Rows.QuadBackUptoSaid :=
  OpenClaim.holds_of_cond 5 Try.f5 rfl rfl rfl rfl rfl rfl rfl ⟨rfl, rfl, rfl, rfl, rfl⟩ rfl rfl rfl rfl rfl (by kernel_rfl) Try.func5 (by kernel_rfl)
    (of_decide_eq_true (by kernel_rfl)) (by unfold Func.isWrapper; first | (rw [if_pos (by decide +kernel)]; kernel_rfl) | (rw [if_neg (by decide +kernel)]; exact ⟨rfl, rfl⟩))
    (fun os started H enc _ F => lifted os started H enc F)
end Go.Proofs.Ytponbelnmokclaa.quadBack
namespace Go.Proofs.Ytponbelnmokclaa
theorem QuadBack_holds : Rows.QuadBackUptoSaid := quadBack.proved
end Go.Proofs.Ytponbelnmokclaa
