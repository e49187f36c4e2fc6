/-
  PROVED HERE: what the texts Listed6, Nexts6 say (each has its own words below).
-/
import Derived.Test.YtgkplmnhmobnnaaGreatDoorSM24
import Derived.Test.YtgkplmnhmobnnaaGreatDoorSM22
/- Listed6: reg's listed at every set: its types, rising; nothing that lay before is turned. -/
namespace Go.Proofs.YtgkplmnhmobnnaaGreatDoor
open Go.RowKit

/-- How far the list is: of m the bits of r are left. -/
structure ListI (m r : Nat) (xs : List Int) : Prop where
  lt : r < 65536
  mem : ∀ j : Nat, m.testBit j = true ↔ (r.testBit j = true ∨ (j : Int) ∈ xs)
  nat : ∀ x ∈ xs, ∃ j : Nat, x = (j : Int)
  rise : xs.Pairwise (· < ·)
  low : ∀ x ∈ xs, ∀ j : Nat, r.testBit j = true → x < (j : Int)
  few : ∀ j : Nat, r.testBit j = true → xs.length ≤ j
theorem bit_small {m j : Nat} (h : m < 65536) (hj : m.testBit j = true) : j < 16 := by
  rcases Nat.lt_or_ge j 16 with e | e
  · exact e
  · have : m < 2 ^ j := Nat.lt_of_lt_of_le h (Nat.pow_le_pow_right (n := 2) (by decide) e)
    rw [Nat.testBit_lt_two_pow this] at hj
    cases hj
theorem ListI.on {m k q : Nat} {xs : List Int} (h : ListI m (2 ^ k * (2 * q + 1)) xs) : ListI m ((2 ^ k * (2 * q + 1)) &&& (2 ^ k * (2 * q + 1) - 1)) (xs ++ [(k : Int)]) ∧ xs.length < 16 := by
  have hk := low_is k q
  have hb : ∀ j, ((2 ^ k * (2 * q + 1)) &&& (2 ^ k * (2 * q + 1) - 1)).testBit j = true ↔ ((2 ^ k * (2 * q + 1)).testBit j = true ∧ j ≠ k) := fun j => by
    rw [struck, Bool.and_eq_true, Bool.not_eq_true', decide_eq_false_iff_not]
  have hgt : ∀ j, ((2 ^ k * (2 * q + 1)) &&& (2 ^ k * (2 * q + 1) - 1)).testBit j = true → k < j := fun j hj => by
    obtain ⟨h1, h2⟩ := (hb j).1 hj
    rcases Nat.lt_or_ge j k with e | e
    · rw [low_none k q j e] at h1
      cases h1
    · omega
  refine ⟨⟨Nat.lt_of_le_of_lt Nat.and_le_left h.lt, fun j => ?_, fun x hx => ?_, ?_, fun x hx j hj => ?_, fun j hj => ?_⟩, ?_⟩
  · rw [h.mem, hb, List.mem_append, List.mem_singleton]
    constructor
    · rintro (e | e)
      · by_cases hjk : j = k
        · exact .inr (.inr (by rw [hjk]))
        · exact .inl ⟨e, hjk⟩
      · exact .inr (.inl e)
    · rintro (⟨e, _⟩ | e | e)
      · exact .inl e
      · exact .inr e
      · have : j = k := by omega
        rw [this]
        exact .inl hk
  · rcases List.mem_append.1 hx with e | e
    · exact h.nat x e
    · exact ⟨k, List.mem_singleton.1 e⟩
  · rw [List.pairwise_append]
    refine ⟨h.rise, List.pairwise_singleton _ _, fun x hx y hy => ?_⟩
    rw [List.mem_singleton.1 hy]
    exact h.low x hx k hk
  · have := hgt j hj
    rcases List.mem_append.1 hx with e | e
    · exact h.low x e j ((hb j).1 hj).1
    · rw [List.mem_singleton.1 e]
      omega
  · have h1 := hgt j hj
    have h2 := h.few k hk
    rw [List.length_append, List.length_singleton]
    omega
  · have h1 := h.few k hk
    have h2 := bit_small h.lt hk
    omega
theorem ListI.start {m : Nat} (h : m < 65536) : ListI m m [] := ⟨h, fun j => (by simp), fun x hx => (by cases hx), List.Pairwise.nil, fun x hx => (by cases hx), fun j _ => Nat.zero_le _⟩
end Go.Proofs.YtgkplmnhmobnnaaGreatDoor

/- Nexts6: reg's Begins and Nexts at every right tree, all groups and every word; nothing that lay before is turned. -/
namespace Go.Proofs.YtgkplmnhmobnnaaGreatDoor
open Go.RowKit

/-- The word leads somewhere. -/
def PreD (gs : List Grp) (n : Nat) (t : DataW Unit) (zs : List Int) : Prop := ∃ q, afterS (planF gs n t) (startS (planF gs n t) (firstF gs n t)) zs q
/-- How long the longest beginning is that leads somewhere. -/
def LongD (gs : List Grp) (n : Nat) (t : DataW Unit) (zs : List Int) (i : Nat) : Prop := i ≤ zs.length ∧ PreD gs n t (zs.take i) ∧ (i < zs.length → ¬ PreD gs n t (zs.take (i + 1)))
theorem pre_less {gs : List Grp} {n : Nat} {t : DataW Unit} {xs ys : List Int} (h : PreD gs n t (xs ++ ys)) : PreD gs n t xs := by
  unfold PreD at h ⊢
  obtain ⟨q, hq⟩ := h
  apply Classical.byContradiction
  intro hn
  have : ∀ p, ¬ afterS (planF gs n t) (startS (planF gs n t) (firstF gs n t)) xs p := fun p hp => hn ⟨p, hp⟩
  have h2 := afterS_empty (F := planF gs n t) this ys q
  unfold afterS at hq h2
  rw [List.foldl_append] at hq
  exact h2 hq
theorem long_all {gs : List Grp} {n : Nat} {t : DataW Unit} {zs : List Int} {i : Nat} (h : LongD gs n t zs i) (hp : PreD gs n t zs) : i = zs.length := by
  obtain ⟨h1, _, h3⟩ := h
  rcases Nat.lt_or_ge i zs.length with e | e
  · refine absurd ?_ (h3 e)
    rw [← List.take_append_drop (i + 1) zs] at hp
    exact pre_less hp
  · omega
theorem long_of {gs : List Grp} {n : Nat} {t : DataW Unit} {zs : List Int} {i : Nat} (h : LongD gs n t zs i) (hp : i = zs.length) : PreD gs n t zs := by
  have := h.2.1
  rwa [hp, List.take_of_length_le (Nat.le_refl _)] at this
set_option maxRecDepth 100000 in
set_option maxHeartbeats 1000000 in
theorem begins_calls (n : Nat) (t : DataW Unit) (v : Value) (ga : Option Addr) (gl gc : Nat) (gs : List Grp) (za : Option Addr) (zl zc : Nat) (zs : List Int) (w : World) (h : Ex w n t v) (hN : named n t) (hG : Groups w ga gl gs) (hZ : Ints w za zl zs) (hc : chk n t gs = 0) :
    Calls Tryz.prog 122 #[v, .slice ga gl gc, .slice za zl zc] w fun e w' => ∃ i : Nat, e = .returned (.int .i64 (i : Int)) ∧ LongD gs n t zs i ∧ Below w.heap.size w w' := by
  have hb0 : ∀ o, Below w.heap.size w (w.alloc o) := fun o => (Below.refl _ w).alloc (Nat.le_refl _) _
  have HW : Hid (∀ o, Calls Tryz.prog 77 #[v, .slice ga gl gc, .slice za zl zc] (w.alloc o) fun e w' => ∃ (Bw : Nat) (i : Nat), e = .returned (.tuple #[.pointer (some ⟨Bw, 0, none⟩), .int .i64 (i : Int)]) ∧ LongD gs n t zs i ∧ Below w.heap.size w w') := fun o => by
    refine (walked_calls n t v ga gl gc gs za zl zc zs (w.alloc o) (Ex.below (hb0 o) _ _ _ h) hN (hG.below (hb0 o)) (hZ.below (hb0 o)) hc).mono ?_
    rintro e W ⟨Bw, S, i, rfl, _, ⟨r1, r2, r3⟩, hB⟩
    refine ⟨Bw, i, rfl, ⟨r1, r2, fun hi hp => ?_⟩, (hb0 o).trans (hB.mono (by simp))⟩
    rcases r3 with ⟨e, _⟩ | ⟨_, _, e⟩
    · omega
    · obtain ⟨q, hq⟩ := hp
      exact e q hq
  obtain ⟨k, s, a, len, cap, rfl⟩ : ∃ k s a len cap, v = .agg #[.int .i64 k, .string s, .slice a len cap] := by
    cases n with
    | zero => exact h.elim
    | succ n => obtain ⟨k, s, a, len, cap, ts, _, rfl, _⟩ := h; exact ⟨k, s, a, len, cap, rfl⟩
  clear h hN hG hZ hc hb0
  go_enter Tryz.func122, Tryz.ntmps122
  go_wp2_with fail
  refine (HW.out _).mono ?_
  rintro e W ⟨Bw, i, rfl, hL, hB⟩
  have HE : Hid (LongD gs n t zs i ∧ Below w.heap.size w W) := ⟨hL, hB⟩
  clear hL hB HW
  go_wp2
  go_ret
  exact ⟨i, rfl, HE.out⟩
theorem takes_bit {m : Nat} (hm : m < 65536) (x : Int) : takes m x = true ↔ ∃ j : Nat, x = (j : Int) ∧ m.testBit j = true := by
  have htk : takes m x = (isTy x && m.testBit x.toNat) := by unfold takes isTy; rfl
  rw [htk, Bool.and_eq_true]
  constructor
  · rintro ⟨h1, h2⟩
    refine ⟨x.toNat, ?_, h2⟩
    unfold isTy at h1
    simp at h1
    omega
  · rintro ⟨j, rfl, hj⟩
    have := bit_small hm hj
    refine ⟨by unfold isTy; simp; omega, by simpa using hj⟩
/-- What a set of places takes on leads somewhere. -/
theorem pre_snoc {gs : List Grp} {n : Nat} {t : DataW Unit} {zs : List Int} {S : Nat → Bool} (hF : Sound1 (planF gs n t) (planF gs n t).length) (hS : ∀ q, S q = true ↔ afterS (planF gs n t) (startS (planF gs n t) (firstF gs n t)) zs q) (x : Int) :
    PreD gs n t (zs ++ [x]) ↔ ∃ j : Nat, x = (j : Int) ∧ ∃ (p : Nat) (y : Place), S p = true ∧ (planF gs n t)[p]? = some y ∧ y.1.testBit j = true := by
  unfold PreD
  rw [afterS_snoc]
  constructor
  · rintro ⟨q, a, y, r, k, h1, h2, h3, h4, h5⟩
    obtain ⟨j, rfl, hj⟩ := (takes_bit (hF.mask a y h2) x).1 h3
    exact ⟨j, rfl, a, y, (hS a).2 h1, h2, hj⟩
  · rintro ⟨j, rfl, p, y, h1, h2, h3⟩
    have h0 : y.1 ≠ 0 := fun e => by rw [e] at h3; simp at h3
    obtain ⟨q, e, _⟩ := hF.step h2 h0
    exact ⟨q, p, y, q, 0, (hS p).1 h1, h2, (takes_bit (hF.mask p y h2) _).2 ⟨j, rfl, h3⟩, by rw [e]; rfl, rfl⟩
end Go.Proofs.YtgkplmnhmobnnaaGreatDoor
