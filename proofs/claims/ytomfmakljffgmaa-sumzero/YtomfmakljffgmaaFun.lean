/-
  PROVED HERE: sum.rest, sum.parts, sum.whole, sum.Join and the document's own Join at every number: what they return; they leave the world as it was.
-/
import Derived.Test.YtomfmakljffgmaaNum
import Derived.WalkKit
import Derived.Laws.BitsAllLaws
import Derived.Deep.Light
namespace Go.Proofs.Ytomfmakljffgmaa
open Go.RowKit

theorem ret_int {k : IntKind} {a b : Int} (h : a = b) : Ending.returned (.int k a) = .returned (.int k b) := by rw [h]

set_option maxHeartbeats 400000 in
theorem rest32_calls (x : Int) (w : World) (h0 : 0 ≤ x) (h1 : x ≤ 4294967295) :
    Calls Try.prog 19 #[.int .u32 x] w fun e w' => e = .returned (.int .u32 (x % 65521)) ∧ w' = w := by
  go_enter Try.func19, Try.ntmps19
  go_wp2
  go_ret
  exact ⟨rfl, rfl⟩
set_option maxHeartbeats 400000 in
theorem rest64_calls (x : Int) (w : World) (h0 : 0 ≤ x) (h1 : x ≤ 18446744073709551615) :
    Calls Try.prog 20 #[.int .u64 x] w fun e w' => e = .returned (.int .u32 (x % 65521)) ∧ w' = w := by
  go_enter Try.func20, Try.ntmps20
  go_wp2
  go_ret
  exact ⟨rfl, rfl⟩
set_option maxHeartbeats 400000 in
theorem restInt_calls (x : Int) (w : World) (h0 : 0 ≤ x) (h1 : x ≤ 9223372036854775807) :
    Calls Try.prog 17 #[.int .i64 x] w fun e w' => e = .returned (.int .u32 (x % 65521)) ∧ w' = w := by
  go_enter Try.func17, Try.ntmps17
  go_wp2
  go_ret
  exact ⟨rfl, rfl⟩
theorem and_low (s : Int) (h0 : 0 ≤ s) (h1 : s ≤ 4294967295) : bits BinOp.and IntKind.u32 s 65535 = s % 65536 := by
  obtain ⟨m, rfl⟩ := Int.eq_ofNat_of_zero_le h0
  have := u32_and_nat m 65535 (by omega) (by omega)
  rw [show m &&& 65535 = m % 65536 from Nat.and_two_pow_sub_one_eq_mod m 16] at this
  exact this
theorem or_high (a b : Int) (h0 : 0 ≤ a) (h1 : a ≤ 65535) (h2 : 0 ≤ b) (h3 : b ≤ 65535) : bits BinOp.or IntKind.u32 (b * 65536) a = whole (a, b) := by
  obtain ⟨m, rfl⟩ := Int.eq_ofNat_of_zero_le h0
  obtain ⟨n, rfl⟩ := Int.eq_ofNat_of_zero_le h2
  have := u32_or_nat (n * 65536) m (by omega) (by omega)
  have h4 : n * 65536 ||| m = n * 65536 + m := by
    have h5 := Nat.shiftLeft_add_eq_or_of_lt (b := m) (i := 16) (by omega) n
    rw [Nat.shiftLeft_eq] at h5
    have h7 : 2 ^ 16 = 65536 := rfl
    rw [h7] at h5
    exact h5.symm
  rw [h4] at this
  unfold whole
  simp only
  rw [show ((n : Int) * 65536) = ((n * 65536 : Nat) : Int) from by omega, this]
  omega

set_option maxHeartbeats 400000 in
theorem parts_calls (s : Int) (w : World) (h0 : 0 ≤ s) (h1 : s ≤ 4294967295) :
    Calls Try.prog 16 #[.int .u32 s] w fun e w' => e = .returned (.tuple #[.int .u32 (parts s).1, .int .u32 (parts s).2]) ∧ w' = w := by
  have ha := and_low s h0 h1
  go_enter Try.func16, Try.ntmps16
  go_wp2_with fail
  refine (rest32_calls (s % 65536) w (by omega) (by omega)).mono ?_
  rintro e w' ⟨rfl, rfl⟩
  go_wp2_with fail
  refine (rest32_calls (s / 65536) w' (by omega) (by omega)).mono ?_
  rintro e w' ⟨rfl, rfl⟩
  go_wp2
  go_ret2
  exact ⟨rfl, rfl⟩
set_option maxHeartbeats 400000 in
theorem whole_calls (a b : Int) (w : World) (h0 : 0 ≤ a) (h1 : a ≤ 65535) (h2 : 0 ≤ b) (h3 : b ≤ 65535) :
    Calls Try.prog 18 #[.int .u32 a, .int .u32 b] w fun e w' => e = .returned (.int .u32 (whole (a, b))) ∧ w' = w := by
  go_enter Try.func18, Try.ntmps18
  go_wp2
  go_ret
  exact ⟨ret_int (or_high a b h0 h1 h2 h3), rfl⟩

/-- n below 0: an error; else the sums, joined. -/
def joinA (s t n : Int) : Int × Int := if n < 0 then (0, 1) else (join s t n, 0)

theorem lacks (n a : Int) (a0 : 0 ≤ a) (a1 : a < 65521) : ∃ m, n % 65521 * (a + 65520) = m ∧ 0 ≤ m ∧ m ≤ 8586000000 := by
  refine ⟨_, rfl, Int.mul_nonneg (by omega) (by omega), ?_⟩
  have h1 : n % 65521 * (a + 65520) ≤ 65520 * (a + 65520) := Int.mul_le_mul_of_nonneg_right (by omega) (by omega)
  omega
set_option maxHeartbeats 1000000 in
theorem join_calls (s t n : Int) (w : World) (h0 : 0 ≤ s) (h1 : s ≤ 4294967295) (h2 : 0 ≤ t) (h3 : t ≤ 4294967295) (_h4 : -9223372036854775808 ≤ n) (h5 : n ≤ 9223372036854775807) :
    Calls Try.prog 13 #[.int .u32 s, .int .u32 t, .int .i64 n] w fun e w' => e = .returned (.tuple #[.int .u32 (joinA s t n).1, .int .i64 (joinA s t n).2]) ∧ w' = w := by
  by_cases hn : n < 0
  · unfold joinA
    rw [if_pos hn]
    go_enter Try.func13, Try.ntmps13
    go_wp2
    go_ret2
    exact ⟨rfl, rfl⟩
  · unfold joinA
    rw [if_neg hn]
    obtain ⟨a0, a1, b0, b1⟩ := rests_parts s
    obtain ⟨c0, c1, d0, d1⟩ := rests_parts t
    have hp := parts_calls s w h0 h1
    have hq := parts_calls t w h2 h3
    unfold join
    generalize (parts s).1 = a at *
    generalize (parts s).2 = b at *
    generalize (parts t).1 = c at *
    generalize (parts t).2 = d at *
    go_enter Try.func13, Try.ntmps13
    go_wp2_with fail
    refine hp.mono ?_
    rintro e w' ⟨rfl, rfl⟩
    go_wp2_with fail
    refine hq.mono ?_
    rintro e w' ⟨rfl, rfl⟩
    obtain ⟨m, hm, m0, m1⟩ := lacks n a a0 a1
    have hr : ∀ w' : World, Calls Try.prog 17 #[.int .i64 n] w' fun e w'' => e = .returned (.int .u32 (n % 65521)) ∧ w'' = w' := fun w' => restInt_calls n w' (by omega) (by omega)
    have hw : IntKind.u64.wrap (n % 65521 * (a + 65521 - 1)) = m := by
      rw [show a + 65521 - 1 = a + 65520 from by omega, hm]
      rw [IntKind.wrap_u64]
      omega
    have HM : Hid (n % 65521 * (a + 65520) = m) := hm
    clear hm
    go_wp2_with fail
    refine (hr w').mono ?_
    rintro e w' ⟨rfl, rfl⟩
    go_wp2_with fail
    refine (rest32_calls (a + 65521 - 1 + c) w' (by omega) (by omega)).mono ?_
    rintro e w' ⟨rfl, rfl⟩
    go_wp2_with fail
    refine (rest64_calls (b + d + m) w' (by omega) (by omega)).mono ?_
    rintro e w' ⟨rfl, rfl⟩
    go_wp2_with fail
    refine (whole_calls _ _ w' (by omega) (by omega) (by omega) (by omega)).mono ?_
    rintro e w' ⟨rfl, rfl⟩
    go_wp2
    go_ret2
    rw [HM.out, show a + 65521 - 1 + c = a + c + 65520 from by omega]
    exact ⟨rfl, rfl⟩

set_option maxHeartbeats 1000000 in
theorem refJoin_calls (s t n : Int) (w : World) (h0 : 0 ≤ s) (h1 : s ≤ 4294967295) (h2 : 0 ≤ t) (h3 : t ≤ 4294967295) (h4 : -9223372036854775808 ≤ n) (h5 : n ≤ 9223372036854775807) :
    Calls Try.prog 14 #[.int .u32 s, .int .u32 t, .int .i64 n] w fun e w' => e = .returned (.tuple #[.int .u32 (joinA s t n).1, .int .i64 (joinA s t n).2]) ∧ w' = w := by
  by_cases hn : n < 0
  · unfold joinA
    rw [if_pos hn]
    go_enter Try.func14, Try.ntmps14
    go_wp2
    go_ret2
    exact ⟨rfl, rfl⟩
  · unfold joinA
    rw [if_neg hn]
    obtain ⟨a0, a1, b0, b1⟩ := rests_parts s
    obtain ⟨c0, c1, d0, d1⟩ := rests_parts t
    have ea : s % 65536 % 65521 = (parts s).1 := rfl
    have eb : s / 65536 % 65521 = (parts s).2 := rfl
    have ec : t % 65536 % 65521 = (parts t).1 := rfl
    have ed : t / 65536 % 65521 = (parts t).2 := rfl
    unfold join
    generalize (parts s).1 = a at *
    generalize (parts s).2 = b at *
    generalize (parts t).1 = c at *
    generalize (parts t).2 = d at *
    obtain ⟨m, hm, m0, m1⟩ := lacks n a a0 a1
    have hw : IntKind.u64.wrap (n % 65521 * (a + 65521 - 1)) = m := by
      rw [show a + 65521 - 1 = a + 65520 from by omega, hm]
      rw [IntKind.wrap_u64]
      omega
    have HM : Hid (n % 65521 * (a + 65520) = m) := hm
    clear hm
    go_enter Try.func14, Try.ntmps14
    go_wp2_with fail
    go_ret2
    rw [HM.out, show a + c + 65520 = a + c + 65521 - 1 from by omega]
    exact ⟨rfl, rfl⟩
end Go.Proofs.Ytomfmakljffgmaa
