/-
  PROVED HERE: plain mathematics of reading a number: the number that the rounds of quad.Get put together is the sum of its groups; what Get answers, as a function of the bytes.
-/
import Derived.Test.YtppiklgkpicfeaaQGet0
import Derived.Laws.BitsAllLaws
namespace Go.Proofs.Ytppiklgkpicfeaa
open Go.RowKit

/-- The number of the first k groups. -/
def num (bs : List Int) (p : Int) : Nat → Nat
  | 0 => 0
  | k + 1 => num bs p k + (byteAt bs p k % 128).toNat * 2 ^ (7 * k)

theorem num_lt (bs : List Int) (p : Int) (k : Nat) : num bs p k < 2 ^ (7 * k) := by
  induction k with
  | zero => simp [num]
  | succ k ih =>
    have h : (byteAt bs p k % 128).toNat ≤ 127 := by omega
    have h2 : 2 ^ (7 * (k + 1)) = 128 * 2 ^ (7 * k) := by
      rw [Nat.mul_add, Nat.pow_add, Nat.mul_comm]
    have h3 : (byteAt bs p k % 128).toNat * 2 ^ (7 * k) ≤ 127 * 2 ^ (7 * k) := Nat.mul_le_mul_right _ h
    unfold num
    omega

theorem or_mul (a b i : Nat) (h : a < 2 ^ i) : a ||| (b * 2 ^ i) = a + b * 2 ^ i := by
  rw [Nat.or_comm, ← Nat.shiftLeft_eq, ← Nat.shiftLeft_add_eq_or_of_lt h, Nat.add_comm]

/-- One round: the bits are put beside one another. -/
theorem or_step (n k : Nat) (b : Int) (hn : n < 2 ^ (7 * k)) (hk : k ≤ 9) (h9 : k = 9 → b % 128 ≤ 1) :
    bits BinOp.or IntKind.u64 (n : Int) (shlv b k) = ((n + (b % 128).toNat * 2 ^ (7 * k) : Nat) : Int) := by
  have hp : 2 ^ (7 * k) ≤ 2 ^ 63 := Nat.pow_le_pow_right (by decide) (by omega)
  have hq : (b % 128).toNat * 2 ^ (7 * k) < 18446744073709551616 := by
    rcases Nat.lt_or_ge k 9 with h | h
    · have h1 : 2 ^ (7 * k) ≤ 2 ^ 56 := Nat.pow_le_pow_right (by decide) (by omega)
      have h2 : (b % 128).toNat * 2 ^ (7 * k) ≤ 127 * 2 ^ 56 := Nat.mul_le_mul (by omega) h1
      exact Nat.lt_of_le_of_lt h2 (by decide)
    · have h2 : (b % 128).toNat * 2 ^ (7 * k) ≤ 1 * 2 ^ 63 := Nat.mul_le_mul (by have := h9 (by omega); omega) hp
      exact Nat.lt_of_le_of_lt h2 (by decide)
  have hs : shlv b k = (((b % 128).toNat * 2 ^ (7 * k) : Nat) : Int) := by
    unfold shlv
    rw [show min (7 * k) 64 = 7 * k from by omega]
    have e1 : b % 128 = (((b % 128).toNat : Nat) : Int) := by omega
    have e2 : ((2 : Int) ^ (7 * k)) = ((2 ^ (7 * k) : Nat) : Int) := by simp
    rw [e2]
    rw [e1, ← Int.natCast_mul]
    have e3 : ((((b % 128).toNat : Nat) : Int)).toNat = (b % 128).toNat := by omega
    rw [e3]
    generalize (b % 128).toNat * 2 ^ (7 * k) = q at hq
    rw [IntKind.wrap_u64]
    omega
  rw [hs, u64_or_nat n _ (Nat.lt_of_lt_of_le hn (Nat.le_trans hp (by decide))) hq, or_mul _ _ _ hn]

theorem acc_num {N : Nat} (bs : List Int) (p : Int) : ∀ k, k ≤ N → k ≤ 9 → acc bs p ((List.finRange N).take k) = (num bs p k : Int)
  | 0, _, _ => by simp [acc, num]
  | k + 1, hN, h9 => by
    rw [take_fin (by omega), acc_snoc, acc_num bs p k (by omega) (by omega)]
    exact or_step (num bs p k) k (byteAt bs p k) (num_lt bs p k) (by omega) (by omega)

theorem acc_last {N : Nat} (bs : List Int) (p : Int) (k : Nat) (hN : k < N) (h9 : k ≤ 9) (hl : k = 9 → byteAt bs p k % 128 ≤ 1) : acc bs p ((List.finRange N).take (k + 1)) = (num bs p (k + 1) : Int) := by
  rw [take_fin hN, acc_snoc, acc_num bs p k (by omega) (by omega)]
  exact or_step (num bs p k) k (byteAt bs p k) (num_lt bs p k) h9 hl

/-- What Get answers at the bytes r, i groups having been read. -/
def getL : List Int → Nat → Int → Nat → Int × Int × Int
  | [], _, pl, _ => (0, pl, 3)
  | c :: r, i, pl, n => if goesB (i : Int) c = false then (0, pl, 4) else if c < 128 then (((n + c.toNat * 2 ^ (7 * i) : Nat) : Int), pl + 1, 0) else getL r (i + 1) (pl + 1) (n + (c % 128).toNat * 2 ^ (7 * i))

/-- What Get answers. -/
def getA (bs : List Int) (p : Int) : Int × Int × Int := if p < 0 ∨ bs.length < p then (0, 0, 1) else getL (bs.drop p.toNat) 0 p 0

theorem drop_byte (bs : List Int) (p : Int) (k : Nat) (h : p.toNat + k < bs.length) : bs.drop (p.toNat + k) = byteAt bs p k :: bs.drop (p.toNat + (k + 1)) := by
  rw [List.drop_eq_getElem_cons h]
  unfold byteAt
  rw [List.getD_eq_getElem?_getD, List.getElem?_eq_getElem h]
  rfl

theorem getL_went {N : Nat} (bs : List Int) (p : Int) (hN : p.toNat + N = bs.length) : ∀ k, k ≤ N → Went bs p ((List.finRange N).take k) → getL (bs.drop p.toNat) 0 p 0 = getL (bs.drop (p.toNat + k)) k (p + (k : Int)) (num bs p k)
  | 0, _, _ => by simp [num]
  | k + 1, hk, hw => by
    rw [take_fin (by omega)] at hw
    have h0 := getL_went bs p hN k (by omega) (fun i hi => hw i (List.mem_append.2 (.inl hi)))
    obtain ⟨h1, h2⟩ := hw ⟨k, by omega⟩ (by simp)
    simp only at h1 h2
    rw [h0, drop_byte bs p k (by omega), getL, if_neg (by rw [h1]; simp), if_neg (by omega)]
    rw [show p + (k : Int) + 1 = p + ((k + 1 : Nat) : Int) from by omega]
    rfl

theorem went_nine {N : Nat} {bs : List Int} {p : Int} {k : Nat} (hk : k ≤ N) (h : Went bs p ((List.finRange N).take k)) : k ≤ 9 := by
  rcases Nat.lt_or_ge 9 k with h9 | h9
  · have hm : (⟨9, by omega⟩ : Fin N) ∈ (List.finRange N).take k := by
      rw [List.mem_take_iff_getElem]
      exact ⟨9, by simp; omega, by simp⟩
    obtain ⟨h1, h2⟩ := h _ hm
    simp only at h1 h2
    simp [goesB] at h1
    omega
  · exact h9

/-- The loop ran out: the bytes ended. -/
theorem getL_done {N : Nat} {bs : List Int} {p : Int} (hp : 0 ≤ p) (hN : p.toNat + N = bs.length) (h : Went bs p (List.finRange N)) : getL (bs.drop p.toNat) 0 p 0 = (0, (bs.length : Int), 3) := by
  have hw : Went bs p ((List.finRange N).take N) := by rw [List.take_of_length_le (by simp)]; exact h
  rw [getL_went bs p hN N (Nat.le_refl _) hw, List.drop_of_length_le (by omega), getL]
  rw [show p + (N : Int) = (bs.length : Int) from by omega]

/-- A round left the loop. -/
theorem getL_stop {N : Nat} {bs : List Int} {p : Int} (hN : p.toNat + N = bs.length) (hb : Bytes bs) {pre : List (Fin N)} {i : Fin N} {x y z : Int} (hpre : pre ++ [i] <+: List.finRange N) (h : Went bs p pre) (ho : Out bs p pre i x y z) :
    getL (bs.drop p.toNat) 0 p 0 = (x, y, z) := by
  obtain ⟨suf, hs⟩ := hpre
  have hlen : pre.length + 1 + suf.length = N := by
    have := congrArg List.length hs
    simp at this
    omega
  have hp : pre = (List.finRange N).take pre.length := by
    rw [← hs]
    simp
  have hi : i.val = pre.length := by
    have h1 : (List.finRange N)[pre.length]? = some i := by
      rw [← hs]
      simp
    rw [List.getElem?_eq_getElem (by simp; omega)] at h1
    simp at h1
    rw [← h1]
  obtain ⟨k, hk⟩ : ∃ k, k = pre.length := ⟨_, rfl⟩
  rw [← hk] at hlen hp hi
  clear hs hk
  subst hp
  obtain ⟨iv, hiv⟩ := i
  have hi' : k = iv := hi.symm
  clear hi
  subst hi'
  have h9 := went_nine (by omega) h
  have hby := byteAt_byte hb p k
  rw [getL_went bs p hN k (by omega) h, drop_byte bs p k (by omega), getL]
  rcases ho with ⟨h1, rfl, rfl, rfl⟩ | ⟨h1, h2, rfl, rfl, rfl⟩
  · simp only at h1
    rw [if_pos h1]
  · simp only at h1 h2
    have h91 : k = 9 → byteAt bs p k % 128 ≤ 1 := by
      rintro rfl
      simp [goesB] at h1
      omega
    rw [if_neg (by rw [h1]; simp), if_pos h2]
    rw [← take_fin (by omega), acc_last bs p k (by omega) h9 h91]
    have e : num bs p (k + 1) = num bs p k + (byteAt bs p k).toNat * 2 ^ (7 * k) := by
      show num bs p k + (byteAt bs p k % 128).toNat * 2 ^ (7 * k) = _
      rw [show byteAt bs p k % 128 = byteAt bs p k from by omega]
    rw [e]
end Go.Proofs.Ytppiklgkpicfeaa
