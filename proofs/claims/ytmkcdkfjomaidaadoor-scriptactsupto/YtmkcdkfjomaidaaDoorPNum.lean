/-
  PROVED HERE, plain: which texts are numbers: just those that Itoa writes of a number of at most nine digits; by strconv's way and by the document's.
-/
import Derived.Lib.AtoiTie
import Derived.Lib.ItoaMem
namespace Go.Proofs.YtmkcdkfjomaidaaDoor
open Go.Lib

/-- The number that a word is, by the program. -/
def pnum (l : List UInt8) : Option Int := match atoiAll l with
  | .ok v => if itoa v = l ∧ -999999999 ≤ v ∧ v ≤ 999999999 then some v else none
  | .«syntax» => none
  | .range => none

/-- The digits' value, by the document: behind what stood before. -/
def digs (acc : Nat) : List UInt8 → Option Nat
  | [] => some acc
  | c :: r => if c.toNat < 48 ∨ 57 < c.toNat then none else digs (10 * acc + (c.toNat - 48)) r

/-- Behind the sign. -/
def unsign : List UInt8 → List UInt8
  | [] => []
  | c :: r => if c.toNat = 45 then r else c :: r

def isNeg : List UInt8 → Bool
  | [] => false
  | c :: _ => c.toNat = 45

/-- No number by its look: no digits, too many, or a 0 ahead. -/
def badLook (l : List UInt8) : Prop := unsign l = [] ∨ 9 < (unsign l).length ∨ ((unsign l).head?.map (·.toNat) = some 48 ∧ 1 < l.length)

theorem decFrom_digs : ∀ (l : List UInt8) (acc : Nat), digs acc l = decFrom acc l
  | [], _ => rfl
  | c :: r, acc => by
    simp only [digs, decFrom, digitVal]
    by_cases h : 48 ≤ c.toNat ∧ c.toNat ≤ 57
    · rw [if_neg (by omega), if_pos h]
      show _ = decFrom (acc * 10 + (c.toNat - 48)) r
      rw [decFrom_digs r, Nat.mul_comm]
    · rw [if_pos (by omega), if_neg h]

theorem decFrom_app : ∀ (a b : List UInt8) (acc : Nat), decFrom acc (a ++ b) = (decFrom acc a).bind fun n => decFrom n b
  | [], _, _ => rfl
  | c :: a, b, acc => by
    simp only [List.cons_append, decFrom]
    cases digitVal c with
    | none => rfl
    | some d => exact decFrom_app a b _

theorem digitVal_ofNat {d : Nat} (h : d < 10) : digitVal (UInt8.ofNat (48 + d)) = some d := by
  have : (UInt8.ofNat (48 + d)).toNat = 48 + d := by simp; omega
  unfold digitVal
  rw [this, if_pos (by omega)]
  congr 1
  omega

theorem decDigits_step {u : Nat} (h : ¬ u < 10) : decDigits u = decDigits (u / 10) ++ [UInt8.ofNat (48 + u % 10)] := by
  rw [decDigits, dif_neg h]

theorem decFrom_dec (u : Nat) : decFrom 0 (decDigits u) = some u := by
  induction u using Nat.strongRecOn with
  | ind u ih =>
    by_cases h : u < 10
    · rw [decDigits_one h]
      unfold decFrom
      rw [digitVal_ofNat h]
      show some (0 * 10 + u) = some u
      rw [Nat.zero_mul, Nat.zero_add]
    · rw [decDigits_step h, decFrom_app, ih (u / 10) (by omega)]
      show decFrom (u / 10) [UInt8.ofNat (48 + u % 10)] = some u
      unfold decFrom
      rw [digitVal_ofNat (Nat.mod_lt u (by decide : 0 < 10))]
      show some (u / 10 * 10 + u % 10) = some u
      congr 1
      omega

theorem decDigits_ne (u : Nat) : decDigits u ≠ [] := by
  intro h
  have := decDigits_length u
  rw [h] at this
  have := nDigits_pos u
  simp at *
  omega

/-- The first digit of what is more than nothing is no 0. -/
theorem dec_head : ∀ (k u : Nat), u < 10 ^ k → 1 ≤ u → ∃ c r, decDigits u = c :: r ∧ 49 ≤ c.toNat ∧ c.toNat ≤ 57
  | 0, u, h, h1 => by simp at h; omega
  | k + 1, u, h, h1 => by
    by_cases h10 : u < 10
    · refine ⟨UInt8.ofNat (48 + u), [], decDigits_one h10, ?_⟩
      have : (UInt8.ofNat (48 + u)).toNat = 48 + u := by simp; omega
      omega
    · obtain ⟨c, r, e, hc⟩ := dec_head k (u / 10) (by rw [Nat.pow_succ] at h; omega) (by omega)
      exact ⟨c, r ++ [UInt8.ofNat (48 + u % 10)], by rw [decDigits_step h10, e]; rfl, hc⟩

theorem dec_first (u : Nat) : ∃ c r, decDigits u = c :: r ∧ 48 ≤ c.toNat ∧ c.toNat ≤ 57 ∧ (c.toNat = 48 → u = 0) := by
  by_cases h : u = 0
  · subst h
    exact ⟨48, [], by rw [decDigits_one (by decide)]; rfl, by decide, by decide, fun _ => rfl⟩
  · obtain ⟨c, r, e, h1, h2⟩ := dec_head (nDigits u) u (lt_pow_nDigits u) (by omega)
    exact ⟨c, r, e, by omega, h2, fun h3 => by omega⟩

theorem nDigits_nine {u : Nat} : nDigits u ≤ 9 ↔ u ≤ 999999999 := by
  constructor
  · intro h
    have h1 := lt_pow_nDigits u
    have h2 := Nat.pow_le_pow_right (n := 10) (by decide) h
    have : (10 : Nat) ^ 9 = 1000000000 := by decide
    omega
  · intro h
    rcases Nat.lt_or_ge 9 (nDigits u) with h9 | h9
    · exfalso
      by_cases hu : u < 10
      · rw [nDigits_small hu] at h9; omega
      · have key : ∀ (k v : Nat), k < nDigits v → 1 ≤ k → 10 ^ k ≤ v := by
          intro k
          induction k with
          | zero => intro v _ h; omega
          | succ k ih =>
            intro v hv _
            by_cases hv10 : v < 10
            · rw [nDigits_small hv10] at hv; omega
            · rw [nDigits_big hv10] at hv
              rcases Nat.eq_zero_or_pos k with h0 | h0
              · subst h0; simp; omega
              · have := ih (v / 10) (by omega) h0
                rw [Nat.pow_succ]
                omega
        have := key 9 u h9 (by decide)
        have : (10 : Nat) ^ 9 = 1000000000 := by decide
        omega
    · exact h9

theorem atoi_itoa {v : Int} (h0 : -999999999 ≤ v) (h1 : v ≤ 999999999) : atoiAll (itoa v) = .ok v := by
  have hl : (itoa v).length ≤ 18 := by
    rcases Int.lt_or_le v 0 with h | h
    · obtain ⟨u, rfl⟩ : ∃ u : Nat, v = -(u : Int) := ⟨v.natAbs, by omega⟩
      rw [itoa_neg u (by omega), List.length_cons, decDigits_length]
      have := (nDigits_nine (u := u)).2 (by omega)
      omega
    · obtain ⟨u, rfl⟩ : ∃ u : Nat, v = u := ⟨v.toNat, by omega⟩
      rw [itoa_nonneg, decDigits_length]
      have := (nDigits_nine (u := u)).2 (by omega)
      omega
  rw [atoiAll_short _ hl]
  rcases Int.lt_or_le v 0 with h | h
  · obtain ⟨u, rfl⟩ : ∃ u : Nat, v = -(u : Int) := ⟨v.natAbs, by omega⟩
    rw [itoa_neg u (by omega)]
    have e : decNat (decDigits u) = some u := by
      unfold decNat
      rw [if_neg (by simp [decDigits_ne]), decFrom_dec]
    have e2 : atoi (45 :: decDigits u) = (decNat (decDigits u)).map fun (m : Nat) => -(m : Int) := by
      unfold atoi
      exact if_pos (by decide)
    rw [e2, e]
    rfl
  · obtain ⟨u, rfl⟩ : ∃ u : Nat, v = u := ⟨v.toNat, by omega⟩
    rw [itoa_nonneg]
    have e : decNat (decDigits u) = some u := by
      unfold decNat
      rw [if_neg (by simp [decDigits_ne]), decFrom_dec]
    obtain ⟨c, r, ec, h1, h2, _⟩ := dec_first u
    rw [ec] at e ⊢
    have e2 : atoi (c :: r) = (decNat (c :: r)).map fun (m : Nat) => (m : Int) := by
      show (if (c == 45) = true then (decNat r).map fun (m : Nat) => -(m : Int) else if (c == 43) = true then (decNat r).map fun (m : Nat) => (m : Int) else (decNat (c :: r)).map fun (m : Nat) => (m : Int)) = _
      rw [if_neg (by intro x; rw [beq_iff_eq.1 x] at h1; exact absurd h1 (by decide)), if_neg (by intro x; rw [beq_iff_eq.1 x] at h1; exact absurd h1 (by decide))]
    rw [e2, e]
    rfl

theorem pnum_iff {l : List UInt8} {v : Int} : pnum l = some v ↔ l = itoa v ∧ -999999999 ≤ v ∧ v ≤ 999999999 := by
  constructor
  · intro h
    unfold pnum at h
    split at h
    · rename_i u hu
      split at h
      · rename_i hc
        cases h
        exact ⟨hc.1.symm, hc.2⟩
      · cases h
    · cases h
    · cases h
  · rintro ⟨rfl, h0, h1⟩
    unfold pnum
    rw [atoi_itoa h0 h1]
    exact if_pos ⟨rfl, h0, h1⟩

/-- The number that a text is, by the document. -/
noncomputable def rnum (l : List UInt8) : Option Int := by
  classical
  exact if badLook l then none else (digs 0 (unsign l)).map fun (n : Nat) => (if isNeg l then -(n : Int) else (n : Int))

theorem dec_of_digs : ∀ (l : List UInt8), l ≠ [] → ∀ n, decFrom 0 l = some n → (l.head?.map (·.toNat) = some 48 → l.length = 1) → l = decDigits n := by
  intro l
  -- from behind
  induction hk : l.length using Nat.strongRecOn generalizing l with
  | ind k ih =>
    intro hne n hn h0
    subst hk
    rcases List.eq_nil_or_concat l with h | ⟨a, b, rfl⟩
    · exact absurd h hne
    · rw [List.concat_eq_append] at *
      rw [decFrom_app] at hn
      cases ha : decFrom 0 a with
      | none => rw [ha] at hn; cases hn
      | some m =>
        rw [ha] at hn
        simp only [Option.bind_some, decFrom] at hn
        cases hb : digitVal b with
        | none => rw [hb] at hn; cases hn
        | some d =>
          rw [hb] at hn
          simp only [Option.some.injEq] at hn
          obtain ⟨h1, h2, h3⟩ := digitVal_eq hb
          have eb : b = UInt8.ofNat (48 + d) := by
            apply UInt8.toNat_inj.1
            simp
            omega
          by_cases hae : a = []
          · subst hae
            simp only [decFrom, Option.some.injEq] at ha
            subst ha
            have : n = d := by omega
            subst this
            rw [decDigits_one (by omega), eb]
            rfl
          · have h0a : a.head?.map (·.toNat) = some 48 → a.length = 1 := by
              intro h
              have := h0 (by cases a with | nil => exact absurd rfl hae | cons x t => simpa using h)
              simp at this
              exact absurd this hae
            have hm := ih a.length (by simp) a rfl hae m ha h0a
            have hmp : 1 ≤ m := by
              rcases Nat.eq_zero_or_pos m with hm0 | hm0
              · exfalso
                subst hm0
                rw [decDigits_one (by decide)] at hm
                have := h0 (by rw [hm]; simp)
                simp at this
                exact hae this
              · exact hm0
            have hn10 : ¬ n < 10 := by omega
            rw [decDigits_step hn10, show n / 10 = m by omega, show n % 10 = d by omega, ← hm, eb]

theorem rnum_iff {l : List UInt8} {v : Int} : rnum l = some v ↔ l = itoa v ∧ -999999999 ≤ v ∧ v ≤ 999999999 := by
  unfold rnum
  constructor
  · intro h
    split at h
    · cases h
    · rename_i hb
      have hb1 : unsign l ≠ [] := fun e => hb (.inl e)
      have hb2 : (unsign l).length ≤ 9 := by
        rcases Nat.lt_or_ge 9 (unsign l).length with h | h
        · exact absurd (.inr (.inl h)) hb
        · exact h
      have hb3 : (unsign l).head?.map (·.toNat) = some 48 → l.length ≤ 1 := fun e => by
        rcases Nat.lt_or_ge 1 l.length with h | h
        · exact absurd (.inr (.inr ⟨e, h⟩)) hb
        · exact h
      clear hb
      cases hd : digs 0 (unsign l) with
      | none => rw [hd] at h; cases h
      | some n =>
        rw [hd] at h
        simp only [Option.map_some, Option.some.injEq] at h
        rw [decFrom_digs] at hd
        have hlen : (unsign l).length ≤ l.length := by
          cases l with
          | nil => exact Nat.le_refl _
          | cons c r =>
            by_cases hc : c.toNat = 45
            · simp [unsign, hc]
            · simp [unsign, hc]
        have hpos : 1 ≤ (unsign l).length := by
          rcases Nat.eq_zero_or_pos (unsign l).length with h | h
          · exact absurd (List.length_eq_zero_iff.1 h) hb1
          · exact h
        have he := dec_of_digs _ hb1 n hd (fun e => by have := hb3 e; omega)
        have hn : n ≤ 999999999 := by
          rw [he, decDigits_length] at hb2
          exact nDigits_nine.1 hb2
        cases l with
        | nil => exact absurd rfl hb1
        | cons c r =>
          by_cases hc : c.toNat = 45
          · have e1 : unsign (c :: r) = r := by simp [unsign, hc]
            have e2 : isNeg (c :: r) = true := by simp [isNeg, hc]
            rw [e1] at hb1 hb2 hb3 hd hlen hpos he
            rw [e2, if_pos rfl] at h
            subst h
            have hn1 : 1 ≤ n := by
              rcases Nat.eq_zero_or_pos n with h0 | h0
              · exfalso
                subst h0
                rw [decDigits_one (by decide)] at he
                have := hb3 (by rw [he]; rfl)
                rw [he] at this
                simp at this
              · exact h0
            refine ⟨?_, by omega, by omega⟩
            rw [itoa_neg n hn1, ← he]
            congr 1
            exact UInt8.toNat_inj.1 (by rw [hc]; rfl)
          · have e1 : unsign (c :: r) = c :: r := by simp [unsign, hc]
            have e2 : isNeg (c :: r) = false := by simp [isNeg, hc]
            rw [e1] at hb1 hb2 hb3 hd hlen hpos he
            rw [e2] at h
            simp only [Bool.false_eq_true, if_false] at h
            subst h
            exact ⟨by rw [itoa_nonneg]; exact he, by omega, by omega⟩
  · rintro ⟨rfl, h0, h1⟩
    rcases Int.lt_or_le v 0 with h | h
    · obtain ⟨u, rfl⟩ : ∃ u : Nat, v = -(u : Int) := ⟨v.natAbs, by omega⟩
      rw [itoa_neg u (by omega)]
      obtain ⟨c, r, ec, k1, k2, k3⟩ := dec_first u
      have e1 : unsign (45 :: decDigits u) = decDigits u := rfl
      have e2 : isNeg (45 :: decDigits u) = true := rfl
      rw [if_neg, e1, e2, decFrom_digs, decFrom_dec]
      · rfl
      · rintro (h | h | ⟨h, _⟩)
        · rw [e1] at h; exact decDigits_ne u h
        · rw [e1, decDigits_length] at h
          have := (nDigits_nine (u := u)).2 (by omega)
          omega
        · rw [e1, ec] at h
          have := k3 (by simpa using h)
          omega
    · obtain ⟨u, rfl⟩ : ∃ u : Nat, v = u := ⟨v.toNat, by omega⟩
      rw [itoa_nonneg]
      obtain ⟨c, r, ec, k1, k2, k3⟩ := dec_first u
      have e1 : unsign (decDigits u) = decDigits u := by rw [ec]; simp [unsign]; omega
      have e2 : isNeg (decDigits u) = false := by rw [ec]; simp [isNeg]; omega
      rw [if_neg, e1, e2, decFrom_digs, decFrom_dec]
      · rfl
      · rintro (h | h | ⟨h, h'⟩)
        · rw [e1] at h; exact decDigits_ne u h
        · rw [e1, decDigits_length] at h
          have := (nDigits_nine (u := u)).2 (by omega)
          omega
        · rw [e1, ec] at h
          have := k3 (by simpa using h)
          subst this
          rw [decDigits_one (by decide)] at h'
          simp at h'

theorem rnum_pnum (l : List UInt8) : rnum l = pnum l := by
  cases h : pnum l with
  | some v => exact rnum_iff.2 (pnum_iff.1 h)
  | none =>
    cases h' : rnum l with
    | none => rfl
    | some v =>
      have := pnum_iff.2 (rnum_iff.1 h')
      rw [h] at this
      cases this
end Go.Proofs.YtmkcdkfjomaidaaDoor
