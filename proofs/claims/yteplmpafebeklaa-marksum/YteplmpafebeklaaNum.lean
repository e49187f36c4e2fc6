/-
  PROVED HERE: sets of marks as plain numbers: what is within others, which marks a set has, its list; no program in it.
-/
import Derived.Laws.BitsAllLaws
namespace Go.Proofs.Yteplmpafebeklaa

/-- Is a set right? -/
def right (s : Int) : Bool := decide (0 ≤ s) && decide (s ≤ 4)
/-- Is it a mark? -/
def isMark (m : Int) : Bool := m == 1 || m == 2 || m == 4
/-- The marks of a set that others have too. -/
def both (s t : Int) : Int := ((s.toNat &&& (t % 8).toNat : Nat) : Int)
def within (s t : Int) : Int := if right s = true then both s t else 0
def has (s m : Int) : Bool := isMark m && right s && (both s m != 0)

theorem right_iff (s : Int) : right s = true ↔ 0 ≤ s ∧ s ≤ 4 := by simp [right]

theorem wrap_small (x : Int) (h0 : 0 ≤ x) (h1 : x < 1000) : IntKind.i64.wrap x = x := by
  simp [IntKind.wrap, IntKind.bits, IntKind.signed]
  omega

theorem ofInt_low (s : Nat) (hs : s < 8) (t : Int) : s &&& (BitVec.ofInt 64 t).toNat = s &&& (t % 8).toNat := by
  have h1 : s = s &&& 7 := by
    rw [Nat.and_two_pow_sub_one_eq_mod s 3]
    omega
  rw [h1, Nat.and_assoc, Nat.and_assoc]
  have h2 : ∀ n, 7 &&& n = n % 8 := fun n => by rw [Nat.and_comm]; exact Nat.and_two_pow_sub_one_eq_mod n 3
  rw [h2, h2, BitVec.toNat_ofInt]
  have h3 : ((t % ((2 ^ 64 : Nat) : Int)).toNat) % 8 = (t % 8).toNat % 8 := by
    have : ((2 ^ 64 : Nat) : Int) = 18446744073709551616 := rfl
    rw [this]
    omega
  rw [h3]

theorem and_both (s t : Int) (h0 : 0 ≤ s) (h1 : s ≤ 4) : bits BinOp.and IntKind.i64 s t = both s t := by
  obtain ⟨n, rfl⟩ := Int.eq_ofNat_of_zero_le h0
  show IntKind.i64.wrap ((BitVec.ofInt 64 (n : Int) &&& BitVec.ofInt 64 t).toNat : Int) = _
  have hn : n ≤ 4 := by omega
  rw [BitVec.toNat_and, ofInt_u64 n (by omega), ofInt_low n (by omega) t]
  have hle : n &&& (t % 8).toNat ≤ n := Nat.and_le_left
  rw [wrap_small _ (by omega) (by omega)]
  rfl

theorem five (s : Int) (h0 : 0 ≤ s) (h1 : s ≤ 4) : s = 0 ∨ s = 1 ∨ s = 2 ∨ s = 3 ∨ s = 4 := by omega
theorem eight (t : Int) : ∃ r : Nat, r < 8 ∧ (t % 8).toNat = r := ⟨_, by omega, rfl⟩

theorem fin1 : ∀ s < 5, ∀ r < 8, (s &&& r) ≤ s ∧ (s &&& r) &&& r = s &&& r ∧ (s &&& r) &&& s = s &&& r ∧ s &&& 7 = s := by decide +kernel

theorem both_nonneg (s t : Int) : 0 ≤ both s t := by unfold both; omega
theorem both_le (s t : Int) (h0 : 0 ≤ s) : both s t ≤ s := by
  have : s.toNat &&& (t % 8).toNat ≤ s.toNat := Nat.and_le_left
  unfold both
  omega
theorem within_fits (s t : Int) : 0 ≤ within s t ∧ within s t ≤ 4 := by
  unfold within
  split
  · rename_i h
    have h := (right_iff s).1 h
    have h1 := both_nonneg s t
    have h2 := both_le s t h.1
    omega
  · omega
theorem within_right (s t : Int) : right (within s t) = true := (right_iff _).2 (within_fits s t)

theorem within_of_right {s : Int} (h : right s = true) (t : Int) : within s t = both s t := by unfold within; rw [if_pos h]
theorem within_again (s t : Int) : within (within s t) t = within s t := by
  rw [within_of_right (within_right s t)]
  unfold within
  split
  · rename_i hs
    have hs := (right_iff s).1 hs
    obtain ⟨r, hr, e⟩ := eight t
    have := (fin1 s.toNat (by omega) r hr).2.1
    unfold both
    rw [e, Int.toNat_natCast, this]
  · simp [both]
theorem within_set (s t : Int) : within (within s t) s = within s t := by
  rw [within_of_right (within_right s t)]
  unfold within
  split
  · rename_i hs
    have hs := (right_iff s).1 hs
    obtain ⟨r, hr, e⟩ := eight t
    have := (fin1 s.toNat (by omega) r hr).2.2.1
    unfold both
    rw [e, Int.toNat_natCast, show s % 8 = s from by omega, this]
  · simp [both]
theorem within_seven (s t : Int) : within s t ≤ within s 7 := by
  unfold within
  split
  · rename_i hs
    have hs := (right_iff s).1 hs
    have h1 := both_le s t hs.1
    have h2 := (fin1 s.toNat (by omega) 7 (by omega)).2.2.2
    have h3 : both s 7 = s := by
      unfold both
      rw [show ((7 : Int) % 8).toNat = 7 from rfl, h2]
      omega
    omega
  · omega

theorem fin2 : ∀ s < 5, ∀ r < 8, ∀ m < 8, ((s &&& r) &&& m) ≠ 0 → s &&& m ≠ 0 := by decide +kernel
theorem has_within (s t m : Int) (h : has (within s t) m = true) : has s m = true := by
  unfold has at h ⊢
  simp only [Bool.and_eq_true, bne_iff_ne] at h ⊢
  obtain ⟨⟨hm, _⟩, hb⟩ := h
  unfold within at hb
  by_cases hs : right s = true
  · rw [if_pos hs] at hb
    have hs' := (right_iff s).1 hs
    obtain ⟨r, hr, e⟩ := eight t
    obtain ⟨k, hk, e2⟩ := eight m
    have := fin2 s.toNat (by omega) r hr k hk
    unfold both at hb ⊢
    rw [e, e2, Int.toNat_natCast] at hb
    rw [e2]
    refine ⟨⟨hm, hs⟩, fun h => this (fun h' => hb (by rw [h']; rfl)) (by omega)⟩
  · rw [if_neg hs] at hb
    exact absurd (by simp [both]) hb

/-- The first k marks. -/
def markAt (k : Nat) : Int := (2 ^ k : Nat)
/-- The marks of a set among the first k. -/
def marks (s : Int) : Nat → List Int
  | 0 => []
  | k + 1 => marks s k ++ (if has s (markAt k) = true then [markAt k] else [])
theorem marks_length (s : Int) (k : Nat) : (marks s k).length ≤ k := by
  induction k with
  | zero => simp [marks]
  | succ k ih => simp only [marks, List.length_append]; split <;> simp <;> omega
theorem marks_has (s : Int) (k : Nat) : ∀ x ∈ marks s k, has s x = true := by
  induction k with
  | zero => intro x hx; cases hx
  | succ k ih =>
    intro x hx
    simp only [marks, List.mem_append] at hx
    rcases hx with hx | hx
    · exact ih x hx
    · split at hx
      · rename_i h
        obtain rfl : x = markAt k := by simpa using hx
        exact h
      · cases hx
theorem marks_not (s : Int) (k : Nat) (h : right s = false) : marks s k = [] := by
  induction k with
  | zero => rfl
  | succ k ih => rw [marks, ih, if_neg (by simp [has, h])]; rfl
theorem marks_sum (s : Int) (h : right s = true) : (marks s 3).sum = s := by
  have h := (right_iff s).1 h
  rcases five s h.1 h.2 with rfl | rfl | rfl | rfl | rfl <;> decide +kernel
theorem has_mark {s m : Int} (h : has s m = true) : 1 ≤ m ∧ m ≤ 4 := by
  unfold has isMark at h
  simp only [Bool.and_eq_true, Bool.or_eq_true, beq_iff_eq] at h
  omega
end Go.Proofs.Yteplmpafebeklaa
