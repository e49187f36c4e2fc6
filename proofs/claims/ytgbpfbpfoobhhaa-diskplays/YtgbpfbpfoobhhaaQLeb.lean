/-
  PROVED HERE: plain mathematics of the bytes of a number: how many they are, that they tell the number, that they lie between 0 and 255.
-/
import Derived.Test.YtgbpfbpfoobhhaaQLen
namespace Go.Proofs.Ytgbpfbpfoobhhaa

/-- The bytes of a number, in at most f + 1 of them. -/
def lebF : Nat → Nat → List Int
  | 0, n => [(n : Int)]
  | f + 1, n => if n < 128 then [(n : Int)] else ((n % 128 + 128 : Nat) : Int) :: lebF f (n / 128)

theorem lebF_fuel : ∀ (f g n : Nat), n ≤ f → n ≤ g → lebF f n = lebF g n
  | 0, 0, _, _, _ => rfl
  | 0, g + 1, n, hf, _ => by rw [lebF, lebF, if_pos (by omega)]
  | f + 1, 0, n, _, hg => by rw [lebF, lebF, if_pos (by omega)]
  | f + 1, g + 1, n, hf, hg => by
    rw [lebF, lebF]
    by_cases h : n < 128
    · rw [if_pos h, if_pos h]
    · rw [if_neg h, if_neg h, lebF_fuel f g (n / 128) (by omega) (by omega)]

/-- The bytes of a number, the lowest group of seven bits first; each but the last bears 128. -/
def leb (n : Nat) : List Int := lebF n n

theorem leb_lt {n : Nat} (h : n < 128) : leb n = [(n : Int)] := by
  unfold leb
  cases n with
  | zero => rfl
  | succ n => rw [lebF, if_pos h]
theorem leb_ge {n : Nat} (h : 128 ≤ n) : leb n = ((n % 128 + 128 : Nat) : Int) :: leb (n / 128) := by
  unfold leb
  obtain ⟨m, rfl⟩ : ∃ m, n = m + 1 := ⟨n - 1, by omega⟩
  rw [lebF, if_neg (by omega), lebF_fuel m ((m + 1) / 128) ((m + 1) / 128) (by omega) (by omega)]

theorem bitLen_pos {n : Nat} (h : 1 ≤ n) (hn : n < 18446744073709551616) : 1 ≤ Lib.bitLen n := by
  have := Lib.bitLen_half n (by omega) hn
  omega

theorem leb_length (n : Nat) (hn : n < 18446744073709551616) : (leb n).length = qlen n := by
  induction n using Nat.strongRecOn with
  | _ n ih =>
    by_cases h : n < 128
    · rw [leb_lt h]
      have := Lib.bitLen_le n 7 (by decide) (by exact h)
      unfold qlen
      simp
      omega
    · rw [leb_ge (by omega), List.length_cons, ih (n / 128) (by omega) (by omega)]
      have h1 := Lib.bitLen_shift 7 n (by show 128 ≤ n; omega) hn
      have h2 : Lib.bitLen n = 7 + Lib.bitLen (n / 128) := h1
      have h3 := bitLen_pos (n := n / 128) (by omega) (by omega)
      unfold qlen
      rw [h2]
      omega

theorem leb_byte (n : Nat) : ∀ c ∈ leb n, 0 ≤ c ∧ c ≤ 255 := by
  induction n using Nat.strongRecOn with
  | _ n ih =>
    by_cases h : n < 128
    · rw [leb_lt h]
      intro c hc
      simp at hc
      omega
    · rw [leb_ge (by omega)]
      intro c hc
      rcases List.mem_cons.1 hc with hc | hc
      · omega
      · exact ih (n / 128) (by omega) c hc

theorem leb_inj (a : Nat) : ∀ b, leb a = leb b → a = b := by
  induction a using Nat.strongRecOn with
  | _ a ih =>
    intro b h
    by_cases ha : a < 128
    · by_cases hb : b < 128
      · rw [leb_lt ha, leb_lt hb] at h
        simp at h
        omega
      · rw [leb_lt ha, leb_ge (by omega)] at h
        simp at h
        omega
    · by_cases hb : b < 128
      · rw [leb_ge (by omega), leb_lt hb] at h
        simp at h
        omega
      · rw [leb_ge (n := a) (by omega), leb_ge (n := b) (by omega)] at h
        obtain ⟨h1, h2⟩ := List.cons.inj h
        have := ih (a / 128) (by omega) _ h2
        omega

theorem qlen_mono (a b : Nat) (h : a ≤ b) (hb : b < 18446744073709551616) : (leb a).length ≤ (leb b).length := by
  induction a using Nat.strongRecOn generalizing b with
  | _ a ih =>
    by_cases ha : a < 128
    · rw [leb_lt ha]
      by_cases hb : b < 128
      · rw [leb_lt hb]; simp
      · rw [leb_ge (by omega)]; simp
    · rw [leb_ge (by omega), leb_ge (n := b) (by omega), List.length_cons, List.length_cons]
      have := ih (a / 128) (by omega) (b / 128) (by omega) (by omega)
      omega

/-- The bytes of many numbers, one behind the other. -/
def lebs (l : List Int) : List Int := l.flatMap fun x => leb x.toNat

theorem lebs_nil : lebs [] = [] := rfl
theorem lebs_snoc (l : List Int) (x : Int) : lebs (l ++ [x]) = lebs l ++ leb x.toNat := by simp [lebs]
theorem lebs_one (x : Int) : lebs [x] = leb x.toNat := by simp [lebs]
theorem lebs_append (l m : List Int) : lebs (l ++ m) = lebs l ++ lebs m := by simp [lebs]

/-- Each number is a uint64. -/
def U64 (l : List Int) : Prop := ∀ x ∈ l, 0 ≤ x ∧ x ≤ 18446744073709551615

theorem U64.take {l : List Int} (h : U64 l) (k : Nat) : U64 (l.take k) := fun x hx => h x (List.mem_of_mem_take hx)
theorem U64.get {l : List Int} (h : U64 l) {k : Nat} (hk : k < l.length) : 0 ≤ l.getD k 0 ∧ l.getD k 0 ≤ 18446744073709551615 := by
  rw [List.getD_eq_getElem?_getD, List.getElem?_eq_getElem hk]
  exact h _ (List.getElem_mem hk)

theorem lebs_length (l : List Int) (h : U64 l) : (lebs l).length ≤ 10 * l.length := by
  induction l with
  | nil => simp [lebs]
  | cons x l ih =>
    have hx := h x (by simp)
    have h1 := qlen_le x hx.1 hx.2
    have h2 := leb_length x.toNat (by omega)
    have h3 := ih (fun y hy => h y (by simp [hy]))
    have e : lebs (x :: l) = leb x.toNat ++ lebs l := by simp [lebs]
    rw [e, List.length_append, List.length_cons]
    omega

theorem take_snocD (l : List Int) (k : Nat) (h : k < l.length) : l.take (k + 1) = l.take k ++ [l.getD k 0] := by
  rw [List.take_succ_eq_append_getElem h, List.getD_eq_getElem?_getD, List.getElem?_eq_getElem h]
  rfl
end Go.Proofs.Ytgbpfbpfoobhhaa
