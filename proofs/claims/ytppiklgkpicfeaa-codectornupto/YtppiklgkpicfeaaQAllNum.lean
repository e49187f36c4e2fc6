/-
  PROVED HERE: plain mathematics of reading all numbers: what is written is read, what is read is written so, and where reading ends.
-/
import Derived.Test.YtppiklgkpicfeaaQNum
namespace Go.Proofs.Ytppiklgkpicfeaa

theorem goes_last (i m : Nat) (hm : m < 128) (hb : m * 2 ^ (7 * i) < 18446744073709551616) (h0 : 0 < i → 0 < m) : goesB (i : Int) (m : Int) = true := by
  unfold goesB
  by_cases h9 : i = 9
  · subst h9
    have h1 : m ≤ 1 := by
      have : m * 2 ^ 63 < 18446744073709551616 := hb
      omega
    have h2 := h0 (by omega)
    have e1 : decide ((1 : Int) < (m : Int)) = false := by rw [decide_eq_false_iff_not]; omega
    have e2 : ((m : Int) == 0) = false := by rw [beq_eq_false_iff_ne]; omega
    rw [e1, e2]
    simp
  · have e1 : ((i : Int) == 9) = false := by rw [beq_eq_false_iff_ne]; omega
    rw [e1]
    by_cases hi : i = 0
    · subst hi
      simp
    · have h2 := h0 (by omega)
      have e2 : ((m : Int) == 0) = false := by rw [beq_eq_false_iff_ne]; omega
      rw [e2]
      simp

theorem goes_more (i : Nat) (c : Int) (hc : 128 ≤ c) (hi : i ≠ 9) : goesB (i : Int) c = true := by
  unfold goesB
  have e1 : ((i : Int) == 9) = false := by rw [beq_eq_false_iff_ne]; omega
  have e2 : (c == 0) = false := by rw [beq_eq_false_iff_ne]; omega
  rw [e1, e2]
  simp

theorem pow7 (i : Nat) : 2 ^ (7 * (i + 1)) = 128 * 2 ^ (7 * i) := by
  rw [Nat.mul_add, Nat.pow_add, Nat.mul_comm]

/-- A number that is written is read. -/
theorem getL_leb (m : Nat) : ∀ (i : Nat) (p : Int) (n : Nat) (rest : List Int), m * 2 ^ (7 * i) < 18446744073709551616 → (0 < i → 0 < m) →
    getL (leb m ++ rest) i p n = (((n + m * 2 ^ (7 * i) : Nat) : Int), p + ((leb m).length : Int), 0) := by
  induction m using Nat.strongRecOn with
  | _ m ih =>
    intro i p n rest hb h0
    by_cases h : m < 128
    · rw [leb_lt h, List.cons_append, getL, if_neg (by rw [goes_last i m h hb h0]; simp), if_pos (by omega)]
      simp
    · have hge : 128 ≤ m := by omega
      have h9 : i ≠ 9 := by
        rintro rfl
        have : m * 2 ^ 63 < 18446744073709551616 := hb
        omega
      have e : m * 2 ^ (7 * i) = m % 128 * 2 ^ (7 * i) + m / 128 * 2 ^ (7 * (i + 1)) := by
        rw [pow7, ← Nat.mul_assoc, ← Nat.add_mul]
        congr 1
        omega
      rw [leb_ge hge, List.cons_append, getL, if_neg (by rw [goes_more i _ (by omega) h9]; simp), if_neg (by omega), ih (m / 128) (by omega) (i + 1) _ _ rest (by omega) (by omega)]
      have e2 : (((m % 128 + 128 : Nat) : Int) % 128).toNat = m % 128 := by omega
      rw [e2, e]
      simp only [List.length_cons]
      congr 2
      · omega
      · omega

theorem getA_leb (bs : List Int) (p : Int) (x : Int) (rest : List Int) (hp0 : 0 ≤ p) (hp1 : p ≤ bs.length) (hx0 : 0 ≤ x) (hx1 : x ≤ 18446744073709551615) (h : bs.drop p.toNat = leb x.toNat ++ rest) :
    getA bs p = (x, p + ((leb x.toNat).length : Int), 0) := by
  unfold getA
  rw [if_neg (by omega), h, getL_leb x.toNat 0 p 0 rest (by simp; omega) (by omega)]
  simp
  omega

/-- A number that is read is written so. -/
theorem getL_back : ∀ (r : List Int) (i : Nat) (p : Int) (n : Nat) (x y : Int), Bytes r → getL r i p n = (x, y, 0) →
    ∃ (m : Nat) (rest : List Int), r = leb m ++ rest ∧ x = ((n + m * 2 ^ (7 * i) : Nat) : Int) ∧ y = p + ((leb m).length : Int) ∧ (0 < i → 0 < m)
  | [], i, p, n, x, y, _, h => by simp [getL] at h
  | c :: r, i, p, n, x, y, hb, h => by
    have hc := hb c (by simp)
    rw [getL] at h
    by_cases hg : goesB (i : Int) c = false
    · rw [if_pos hg] at h
      simp at h
    · rw [if_neg hg] at h
      have hg' : goesB (i : Int) c = true := by simpa using hg
      by_cases h1 : c < 128
      · rw [if_pos h1] at h
        obtain ⟨rfl, hy⟩ := Prod.mk.inj h
        obtain ⟨rfl, _⟩ := Prod.mk.inj hy
        refine ⟨c.toNat, r, ?_, rfl, ?_, ?_⟩
        · rw [leb_lt (by omega), show ((c.toNat : Nat) : Int) = c from by omega]
          rfl
        · rw [leb_lt (by omega)]
          simp
        · intro hi
          simp [goesB] at hg'
          omega
      · rw [if_neg h1] at h
        obtain ⟨m, rest, hr, hx, hy, hm⟩ := getL_back r (i + 1) (p + 1) _ x y (fun d hd => hb d (by simp [hd])) h
        have hm' := hm (by omega)
        have hl : leb (c.toNat % 128 + 128 * m) = c :: leb m := by
          rw [leb_ge (by omega), show (c.toNat % 128 + 128 * m) % 128 = c.toNat % 128 from by omega, show (c.toNat % 128 + 128 * m) / 128 = m from by omega]
          congr 1
          omega
        refine ⟨c.toNat % 128 + 128 * m, rest, ?_, ?_, ?_, ?_⟩
        · rw [hl, hr]
          rfl
        · rw [hx, pow7, show (c % 128).toNat = c.toNat % 128 from by omega, Nat.add_mul, ← Nat.mul_assoc, Nat.mul_comm m 128, Nat.add_assoc]
        · rw [hl, hy, List.length_cons]
          omega
        · intro _
          omega

theorem lebs_len_ge (l : List Int) (hu : U64 l) : l.length ≤ (lebs l).length := by
  induction l with
  | nil => simp
  | cons x l ih =>
    have hx := hu x (by simp)
    have h1 : 1 ≤ (leb x.toNat).length := by
      rw [leb_length _ (by omega)]
      exact (qlen_le x hx.1 hx.2).1
    have h2 := ih (fun y hy => hu y (by simp [hy]))
    have e : lebs (x :: l) = leb x.toNat ++ lebs l := by simp [lebs]
    rw [e, List.length_append, List.length_cons]
    omega

/-- Where reading a number ends well: behind its place; the number is a uint64. -/
theorem getL_fits : ∀ (r : List Int) (i : Nat) (p : Int) (n : Nat) (x y : Int), Bytes r → n < 2 ^ (7 * i) → i ≤ 9 → getL r i p n = (x, y, 0) → 0 ≤ x ∧ x ≤ 18446744073709551615 ∧ p < y ∧ y ≤ p + (r.length : Int)
  | [], i, p, n, x, y, _, _, _, h => by simp [getL] at h
  | c :: r, i, p, n, x, y, hb, hn, hi, h => by
    have hc := hb c (by simp)
    rw [getL] at h
    by_cases hg : goesB (i : Int) c = false
    · rw [if_pos hg] at h
      simp at h
    · rw [if_neg hg] at h
      have hg' : goesB (i : Int) c = true := by simpa using hg
      have h9 : i = 9 → c ≤ 1 := by
        rintro rfl
        simp [goesB] at hg'
        omega
      have hp : 2 ^ (7 * i) ≤ 2 ^ 63 := Nat.pow_le_pow_right (by decide) (by omega)
      by_cases h1 : c < 128
      · rw [if_pos h1] at h
        obtain ⟨rfl, hy⟩ := Prod.mk.inj h
        obtain ⟨rfl, _⟩ := Prod.mk.inj hy
        have hq : n + c.toNat * 2 ^ (7 * i) < 18446744073709551616 := by
          rcases Nat.lt_or_ge i 9 with h8 | h8
          · have h2 : 2 ^ (7 * i) ≤ 2 ^ 56 := Nat.pow_le_pow_right (by decide) (by omega)
            have h3 : c.toNat * 2 ^ (7 * i) ≤ 127 * 2 ^ 56 := Nat.mul_le_mul (by omega) h2
            have h4 : n < 2 ^ 56 := Nat.lt_of_lt_of_le hn h2
            omega
          · have h3 : c.toNat * 2 ^ (7 * i) ≤ 1 * 2 ^ 63 := Nat.mul_le_mul (by have := h9 (by omega); omega) hp
            have h4 : n < 2 ^ 63 := Nat.lt_of_lt_of_le hn hp
            omega
        rw [List.length_cons]
        omega
      · rw [if_neg h1] at h
        have hi8 : i ≠ 9 := fun e => by have := h9 e; omega
        have hn' : n + (c % 128).toNat * 2 ^ (7 * i) < 2 ^ (7 * (i + 1)) := by
          have h3 : (c % 128).toNat * 2 ^ (7 * i) ≤ 127 * 2 ^ (7 * i) := Nat.mul_le_mul_right _ (by omega)
          rw [pow7]
          omega
        obtain ⟨k1, k2, k3, k4⟩ := getL_fits r (i + 1) (p + 1) _ x y (fun d hd => hb d (by simp [hd])) hn' (by omega) h
        rw [List.length_cons]
        omega

theorem getA_fits (bs : List Int) (p : Int) (hb : Bytes bs) (hp0 : 0 ≤ p) (hp1 : p ≤ bs.length) (h : (getA bs p).2.2 = 0) : 0 ≤ (getA bs p).1 ∧ (getA bs p).1 ≤ 18446744073709551615 ∧ p < (getA bs p).2.1 ∧ (getA bs p).2.1 ≤ (bs.length : Int) := by
  have e : getA bs p = getL (bs.drop p.toNat) 0 p 0 := by unfold getA; rw [if_neg (by omega)]
  have hg : getL (bs.drop p.toNat) 0 p 0 = ((getA bs p).1, (getA bs p).2.1, 0) := by rw [← e, ← h]
  have hf := getL_fits (bs.drop p.toNat) 0 p 0 _ _ (fun c hc => hb c (List.mem_of_mem_drop hc)) (by simp) (by omega) hg
  rw [List.length_drop] at hf
  omega

theorem getA_back (bs : List Int) (p : Int) (hb : Bytes bs) (hp0 : 0 ≤ p) (hp1 : p ≤ bs.length) (h : (getA bs p).2.2 = 0) :
    ∃ rest, bs.drop p.toNat = leb (getA bs p).1.toNat ++ rest ∧ (getA bs p).2.1 = p + ((leb (getA bs p).1.toNat).length : Int) := by
  have e : getA bs p = getL (bs.drop p.toNat) 0 p 0 := by unfold getA; rw [if_neg (by omega)]
  have hg : getL (bs.drop p.toNat) 0 p 0 = ((getA bs p).1, (getA bs p).2.1, 0) := by rw [← e, ← h]
  obtain ⟨m, rest, h1, h2, h3, _⟩ := getL_back (bs.drop p.toNat) 0 p 0 _ _ (fun c hc => hb c (List.mem_of_mem_drop hc)) hg
  have hm : (getA bs p).1.toNat = m := by rw [h2]; simp
  rw [hm]
  exact ⟨rest, h1, h3⟩

/-- All numbers of bs from p on, behind those of l; f: how many rounds at most. -/
def allL (bs : List Int) : Nat → Int → List Int → List Int × Int × Int
  | 0, p, l => (l, p, 0)
  | f + 1, p, l => if p < bs.length then (if (getA bs p).2.2 = 0 then allL bs f (getA bs p).2.1 (l ++ [(getA bs p).1]) else ([], (getA bs p).2.1, (getA bs p).2.2)) else (l, p, 0)
/-- What All answers. -/
def allA (bs : List Int) : List Int × Int × Int := allL bs bs.length 0 []

theorem allL_end (bs : List Int) (f : Nat) (p : Int) (l : List Int) (h : ¬ p < bs.length) : allL bs f p l = (l, p, 0) := by
  cases f with
  | zero => rfl
  | succ f => rw [allL, if_neg h]

/-- What is written is read. -/
theorem allL_lebs (bs : List Int) : ∀ (rest : List Int) (f : Nat) (p : Int) (l : List Int), U64 rest → 0 ≤ p → p ≤ bs.length → bs.drop p.toNat = lebs rest → bs.length - p.toNat ≤ f → allL bs f p l = (l ++ rest, (bs.length : Int), 0)
  | [], f, p, l, _, h0, h1, hd, _ => by
    have hl : bs.length ≤ p.toNat := by
      have := congrArg List.length hd
      rw [List.length_drop, lebs_nil, List.length_nil] at this
      omega
    rw [allL_end bs f p l (by omega), List.append_nil, show p = (bs.length : Int) from by omega]
  | x :: rest, f, p, l, hu, h0, h1, hd, hf => by
    have hx := hu x (by simp)
    have hd' : bs.drop p.toNat = leb x.toNat ++ lebs rest := by rw [hd]; simp [lebs]
    have hg := getA_leb bs p x (lebs rest) h0 h1 hx.1 hx.2 hd'
    have hlen := congrArg List.length hd'
    rw [List.length_drop, List.length_append] at hlen
    have hpos : 1 ≤ (leb x.toNat).length := by
      rw [leb_length _ (by omega)]
      exact (qlen_le x hx.1 hx.2).1
    obtain ⟨f, rfl⟩ : ∃ f', f = f' + 1 := ⟨f - 1, by omega⟩
    rw [allL, if_pos (by omega), hg]
    simp only [if_true]
    rw [allL_lebs bs rest f _ _ (fun y hy => hu y (by simp [hy])) (by omega) (by omega) ?_ (by omega)]
    · simp
    · rw [show (p + ((leb x.toNat).length : Int)).toNat = p.toNat + (leb x.toNat).length from by omega, ← List.drop_drop, hd', List.drop_left]

theorem allA_lebs (l : List Int) (hu : U64 l) : allA (lebs l) = (l, ((lebs l).length : Int), 0) := by
  unfold allA
  rw [allL_lebs (lebs l) l _ 0 [] hu (by omega) (by omega) (by simp) (by simp)]
  simp

/-- What is read is written so; all of it are uint64; reading ends at the end. -/
theorem allL_back (bs : List Int) (hb : Bytes bs) : ∀ (f : Nat) (p : Int) (l : List Int), U64 l → 0 ≤ p → p ≤ bs.length → bs.length - p.toNat ≤ f → lebs l = bs.take p.toNat →
    U64 (allL bs f p l).1 ∧ ((allL bs f p l).2.2 = 0 → lebs (allL bs f p l).1 = bs ∧ (allL bs f p l).2.1 = (bs.length : Int))
  | 0, p, l, hu, h0, h1, hf, hl => by
    refine ⟨hu, fun _ => ⟨?_, ?_⟩⟩
    · show lebs l = bs
      rw [hl, List.take_of_length_le (by omega)]
    · show p = _
      omega
  | f + 1, p, l, hu, h0, h1, hf, hl => by
    rw [allL]
    by_cases hp : p < bs.length
    · rw [if_pos hp]
      by_cases he : (getA bs p).2.2 = 0
      · rw [if_pos he]
        have hf1 := getA_fits bs p hb h0 h1 he
        obtain ⟨rest, hr, hy⟩ := getA_back bs p hb h0 h1 he
        refine allL_back bs hb f _ _ (fun y hy => ?_) (by omega) (by omega) (by omega) ?_
        · rcases List.mem_append.1 hy with hy | hy
          · exact hu y hy
          · simp at hy
            subst hy
            exact ⟨hf1.1, hf1.2.1⟩
        · rw [lebs_snoc, hl, hy, show (p + ((leb (getA bs p).1.toNat).length : Int)).toNat = p.toNat + (leb (getA bs p).1.toNat).length from by omega, List.take_add, hr, List.take_left]
      · rw [if_neg he]
        exact ⟨by intro y hy; simp at hy, fun h => absurd h he⟩
    · rw [if_neg hp]
      refine ⟨hu, fun _ => ⟨?_, ?_⟩⟩
      · show lebs l = bs
        rw [hl, List.take_of_length_le (by omega)]
      · show p = _
        omega

theorem allA_back (bs : List Int) (hb : Bytes bs) : U64 (allA bs).1 ∧ ((allA bs).2.2 = 0 → lebs (allA bs).1 = bs ∧ (allA bs).2.1 = (bs.length : Int)) :=
  allL_back bs hb bs.length 0 [] (by intro y hy; simp at hy) (by omega) (by omega) (by simp) (by simp [lebs])
end Go.Proofs.Ytppiklgkpicfeaa
