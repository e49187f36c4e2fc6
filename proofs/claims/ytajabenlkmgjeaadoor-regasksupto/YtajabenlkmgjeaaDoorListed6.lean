/-
  PROVED HERE: reg's listed at every set: its types, rising; nothing that lay before is turned.
-/
import Derived.Test.YtajabenlkmgjeaaDoorTz6
import Derived.Test.YtajabenlkmgjeaaDoorApd
namespace Go.Proofs.YtajabenlkmgjeaaDoor
open Go.RowKit

/-- How far the list is: of m the bits of r are left. -/
structure ListI (m r : Nat) (xs : List Int) : Prop where
  lt : r < 65536
  mem : ∀ j : Nat, m.testBit j = true ↔ (r.testBit j = true ∨ (j : Int) ∈ xs)
  nat : ∀ x ∈ xs, ∃ j : Nat, x = (j : Int)
  rise : xs.Pairwise (· < ·)
  low : ∀ x ∈ xs, ∀ j : Nat, r.testBit j = true → x < (j : Int)
  few : ∀ j : Nat, r.testBit j = true → xs.length ≤ j
theorem bit_small {m j : Nat} (h : m < 65536) (hj : m.testBit j = true) : j < 16 := by
  rcases Nat.lt_or_ge j 16 with e | e
  · exact e
  · have : m < 2 ^ j := Nat.lt_of_lt_of_le h (Nat.pow_le_pow_right (n := 2) (by decide) e)
    rw [Nat.testBit_lt_two_pow this] at hj
    cases hj
theorem ListI.on {m k q : Nat} {xs : List Int} (h : ListI m (2 ^ k * (2 * q + 1)) xs) : ListI m ((2 ^ k * (2 * q + 1)) &&& (2 ^ k * (2 * q + 1) - 1)) (xs ++ [(k : Int)]) ∧ xs.length < 16 := by
  have hk := low_is k q
  have hb : ∀ j, ((2 ^ k * (2 * q + 1)) &&& (2 ^ k * (2 * q + 1) - 1)).testBit j = true ↔ ((2 ^ k * (2 * q + 1)).testBit j = true ∧ j ≠ k) := fun j => by
    rw [struck, Bool.and_eq_true, Bool.not_eq_true', decide_eq_false_iff_not]
  have hgt : ∀ j, ((2 ^ k * (2 * q + 1)) &&& (2 ^ k * (2 * q + 1) - 1)).testBit j = true → k < j := fun j hj => by
    obtain ⟨h1, h2⟩ := (hb j).1 hj
    rcases Nat.lt_or_ge j k with e | e
    · rw [low_none k q j e] at h1
      cases h1
    · omega
  refine ⟨⟨Nat.lt_of_le_of_lt Nat.and_le_left h.lt, fun j => ?_, fun x hx => ?_, ?_, fun x hx j hj => ?_, fun j hj => ?_⟩, ?_⟩
  · rw [h.mem, hb, List.mem_append, List.mem_singleton]
    constructor
    · rintro (e | e)
      · by_cases hjk : j = k
        · exact .inr (.inr (by rw [hjk]))
        · exact .inl ⟨e, hjk⟩
      · exact .inr (.inl e)
    · rintro (⟨e, _⟩ | e | e)
      · exact .inl e
      · exact .inr e
      · have : j = k := by omega
        rw [this]
        exact .inl hk
  · rcases List.mem_append.1 hx with e | e
    · exact h.nat x e
    · exact ⟨k, List.mem_singleton.1 e⟩
  · rw [List.pairwise_append]
    refine ⟨h.rise, List.pairwise_singleton _ _, fun x hx y hy => ?_⟩
    rw [List.mem_singleton.1 hy]
    exact h.low x hx k hk
  · have := hgt j hj
    rcases List.mem_append.1 hx with e | e
    · exact h.low x e j ((hb j).1 hj).1
    · rw [List.mem_singleton.1 e]
      omega
  · have h1 := hgt j hj
    have h2 := h.few k hk
    rw [List.length_append, List.length_singleton]
    omega
  · have h1 := h.few k hk
    have h2 := bit_small h.lt hk
    omega
theorem ListI.start {m : Nat} (h : m < 65536) : ListI m m [] := ⟨h, fun j => (by simp), fun x hx => (by cases hx), List.Pairwise.nil, fun x hx => (by cases hx), fun j _ => Nat.zero_le _⟩
set_option maxRecDepth 100000 in
set_option maxHeartbeats 4000000 in
theorem listed_calls (m : Nat) (hm : m < 65536) (w : World) (hT : Tab w) (hw0 : 0 < w.heap.size) :
    Calls Tryd.prog 28 #[.int .u16 (m : Int)] w fun e w' => ∃ (a : Option Addr) (c : Nat) (xs : List Int), e = .returned (.slice a xs.length c) ∧ Ints w' a xs.length xs ∧ (∀ x : Int, x ∈ xs ↔ ∃ j : Nat, x = (j : Int) ∧ m.testBit j = true) ∧ xs.Pairwise (· < ·) ∧ xs.length ≤ 16 ∧ Below w.heap.size w w' := by
  have HT : Hid (∀ W : World, Below w.heap.size w W → ∀ k q : Nat, 2 ^ k * (2 * q + 1) < 65536 → Calls Tryd.prog 35 #[.int .u16 ((2 ^ k * (2 * q + 1) : Nat) : Int)] W fun e w' => e = .returned (.int .i64 (k : Int)) ∧ w' = W) := fun W hW k q h => tz_calls k q W h (hT.below hW hw0)
  have hI0 := ListI.start hm
  have hown0 : w.ownsRow w.heap.size 3 1 (.slice none 0 0) 0 (intsV []) := World.ownsRow_nil ..
  have HI0 : Hid (ListI m m [] ∧ w.ownsRow w.heap.size 3 1 (.slice none 0 0) 0 (intsV [])) := ⟨hI0, hown0⟩
  clear hI0 hown0 hT hw0 hm
  go_enter Tryd.func28, Tryd.ntmps28
  go_wp2
  go_loopw [0, 3] (fun u v wr => ∃ (r : Nat) (xs : List Int), u = .int .u16 (r : Int) ∧ ListI m r xs ∧ wr.ownsRow w.heap.size 3 1 v xs.length (intsV xs) ∧ xs.length ≤ 16 ∧ Below w.heap.size w wr) (fun u _ _ => (intOf u).toNat)
  case atStart => exact ⟨m, [], rfl, HI0.out.1, HI0.out.2, Nat.zero_le _, Below.refl _ _⟩
  case round =>
    obtain ⟨r, xs, rfl, hI, hown, hln, hB⟩ := hrel
    clear HI0
    by_cases hr : r = 0
    · have hne : ((r : Int) == 0) = true := by rw [hr]; rfl
      have hne2 : ((r : Int) != 0) = false := by rw [hr]; rfl
      obtain ⟨a, c, rfl, hints⟩ := owned_ints hown (by omega)
      have HE : Hid (Ints wr a xs.length xs ∧ (∀ x : Int, x ∈ xs ↔ ∃ j : Nat, x = (j : Int) ∧ m.testBit j = true) ∧ xs.Pairwise (· < ·) ∧ xs.length ≤ 16 ∧ Below w.heap.size w wr) := by
        refine ⟨hints, fun x => ?_, hI.rise, hln, hB⟩
        constructor
        · intro hx
          obtain ⟨j, rfl⟩ := hI.nat x hx
          exact ⟨j, rfl, (hI.mem j).2 (.inr hx)⟩
        · rintro ⟨j, rfl, hj⟩
          rcases (hI.mem j).1 hj with e | e
          · rw [hr] at e
            simp at e
          · exact e
      clear hI hown hB hints hr HT
      go_wp2
      go_ret
      exact ⟨a, c, xs, rfl, HE.out⟩
    · have hne : ((r : Int) == 0) = false := by rw [beq_eq_false_iff_ne]; omega
      have hne2 : ((r : Int) != 0) = true := by simp [bne, hne]
      obtain ⟨k, q, hkq⟩ := low_bit r r (Nat.le_refl _) hr
      have hTZ : Calls Tryd.prog 35 #[.int .u16 (r : Int)] wr fun e w' => e = .returned (.int .i64 (k : Int)) ∧ w' = wr := by
        have := HT.out wr hB k q (by rw [← hkq]; exact hI.lt)
        rwa [← hkq] at this
      obtain ⟨hI2, hlt⟩ : ListI m (r &&& (r - 1)) (xs ++ [(k : Int)]) ∧ xs.length < 16 := by
        rw [hkq] at hI ⊢
        exact hI.on
      have HI2 : Hid (ListI m (r &&& (r - 1)) (xs ++ [(k : Int)])) := hI2
      have hrl : r < 65536 := hI.lt
      have hand := u16_and_nat r (r - 1) hrl (by omega)
      have hle : r &&& (r - 1) < r := Nat.lt_of_le_of_lt Nat.and_le_right (by omega)
      have hsub : ((r - 1 : Nat) : Int) = (r : Int) - 1 := by omega
      rw [hsub] at hand
      have hr1 : (0 : Int) ≤ (r : Int) - 1 := by omega
      have hr2 : (r : Int) - 1 < 65536 := by omega
      have hints := Ints.one (World.alloc_heap_new wr (.cells #[.int .i64 (k : Int)] 3))
      have hown2 := hown.alloc (.cells #[.int .i64 (k : Int)] 3)
      have hbase : w.heap.size ≤ (wr.alloc (.cells #[.int .i64 (k : Int)] 3)).heap.size := by have := hB.size; simp; omega
      have HB2 : Hid (Below w.heap.size w (wr.alloc (.cells #[.int .i64 (k : Int)] 3))) := hB.alloc hB.size _
      have hs1 : xs.length + 1 ≤ 1000000 := by omega
      clear hI hI2 hown hB HT hkq
      go_wp2_with fail
      refine hTZ.mono ?_
      rintro e W ⟨rfl, rfl⟩
      clear hTZ
      go_wp2_with (first
        | (at_builtin; refine wpList_append_ints rfl (.tmp 10) (.tmp 13) rfl w.heap.size _ xs.length xs rfl hown2 _ 1 1 [(k : Int)] rfl (fun e => by cases e) hints hs1 hbase ?_; intro v1 W3 hown3 hB3)
        | fail)
      go_roundw
      case rel => exact ⟨r &&& (r - 1), xs ++ [(k : Int)], by first | rfl | rw [hand] | simp, HI2.out, by simpa using hown3, by rw [List.length_append, List.length_singleton]; omega, HB2.out.trans hB3⟩
      case measure => simp [intOf]; omega
end Go.Proofs.YtajabenlkmgjeaaDoor
