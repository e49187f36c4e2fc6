/-
  PROVED HERE: the document's own digits of a number.
-/
import Derived.Test.YtmkcdkfjomaidaaDoorSBase
import Derived.Laws.BytesArg
namespace Go.Proofs.YtmkcdkfjomaidaaDoor
open Go.RowKit

def digit (u : Nat) : UInt8 := UInt8.ofNat (48 + u % 10)

theorem conv_one (W : World) (u : Nat) : (convert 22 9 (.slice (some ⟨W.heap.size, 0, none⟩) 1 1)).run Tryd.prog (W.alloc (.cells #[.int .u8 (48 + (u : Int) % 10)] 5)) = .ok (.string ⟨#[digit u]⟩) (W.alloc (.cells #[.int .u8 (48 + (u : Int) % 10)] 5)) := by
  have h := run_convert_bytes_back (P := Tryd.prog) (W.alloc (.cells #[.int .u8 (48 + (u : Int) % 10)] 5)) 22 9 5 ⟨W.heap.size, 0, none⟩ 1 [digit u] Tryd.underlying22 Tryd.underlying5 Tryd.underlying9 (fun j hj => by
    have hj0 : j = 0 := by simpa using hj
    subst hj0
    rw [Lib.add_plain, World.cell?_alloc_new]
    have h1 : (digit u).toNat = 48 + u % 10 := by unfold digit; simp; omega
    have h2 : 48 + (u : Int) % 10 = ((digit u).toNat : Int) := by rw [h1]; omega
    rw [h2]
    rfl)
  exact h

theorem told_wrap (u : Nat) : 0 ≤ 48 + (u : Int) % 10 ∧ 48 + (u : Int) % 10 ≤ 255 := by omega

set_option maxRecDepth 100000 in
set_option maxHeartbeats 1000000 in
theorem told_small (u : Nat) (h : u < 10) (w : World) : Calls Tryd.prog 22 #[.int .i64 (u : Int)] w fun e w' => e = .returned (.string ⟨(Lib.decDigits u).toArray⟩) ∧ Below w.heap.size w w' := by
  have hc := conv_one w u
  have hd : (⟨(Lib.decDigits u).toArray⟩ : ByteArray) = ⟨#[digit u]⟩ := by rw [Lib.decDigits_one h]; unfold digit; rw [Nat.mod_eq_of_lt h]
  have HB : Hid (∀ o, Below w.heap.size w (w.alloc o)) := fun o => (Below.refl _ w).alloc (Nat.le_refl _) o
  have h0 : ¬ ((u : Int) < 0) := by omega
  have h1 : ¬ ((10 : Int) ≤ (u : Int)) := by omega
  rw [hd]
  clear hd h
  go_enter Tryd.func22, Tryd.ntmps22
  go_wp2
  go_ret
  exact ⟨rfl, HB.out _⟩

set_option maxRecDepth 100000 in
set_option maxHeartbeats 1000000 in
theorem told_nat : ∀ (f u : Nat), u ≤ f → u ≤ 999999999 → ∀ w : World, Calls Tryd.prog 22 #[.int .i64 (u : Int)] w fun e w' => e = .returned (.string ⟨(Lib.decDigits u).toArray⟩) ∧ Below w.heap.size w w'
  | 0, u, hf, _, w => told_small u (by omega) w
  | f + 1, u, hf, hu, w => by
    by_cases h : u < 10
    · exact told_small u h w
    · have hc := conv_one w u
      have HB : Hid (∀ o, Below w.heap.size w (w.alloc o)) := fun o => (Below.refl _ w).alloc (Nat.le_refl _) o
      have h0 : ¬ ((u : Int) < 0) := by omega
      have h1 : (10 : Int) ≤ (u : Int) := by omega
      have hu9 : (u : Int) ≤ 999999999 := by omega
      have hq : (u : Int) / 10 = ((u / 10 : Nat) : Int) := by omega
      have HT : Hid (∀ W : World, Calls Tryd.prog 22 #[.int .i64 ((u : Int) / 10)] W fun e w' => e = .returned (.string ⟨(Lib.decDigits (u / 10)).toArray⟩) ∧ Below W.heap.size W w') := fun W => by
        rw [hq]
        exact told_nat f (u / 10) (by omega) (by omega) W
      have hl : (Lib.decDigits (u / 10)).length ≤ 9 := by rw [Lib.decDigits_length]; exact nDigits_nine.2 (by omega)
      have hadd : ∀ W, (Op.stringOp .add ⟨(Lib.decDigits (u / 10)).toArray⟩ ⟨#[digit u]⟩).run Tryd.prog W = .ok (.string ((⟨(Lib.decDigits (u / 10)).toArray⟩ : ByteArray) ++ ⟨#[digit u]⟩)) W := fun W => run_string_add_sum W _ _ (by show (Lib.decDigits (u / 10)).toArray.size + 1 ≤ _; rw [List.size_toArray]; omega)
      have HD : Hid ((⟨(Lib.decDigits u).toArray⟩ : ByteArray) = (⟨(Lib.decDigits (u / 10)).toArray⟩ : ByteArray) ++ ⟨#[digit u]⟩) := by
        show _ = _
        apply ByteArray.ext
        rw [decDigits_step h]
        simp [ByteArray.data_append, digit]
      generalize Lib.decDigits (u / 10) = A at *
      generalize Lib.decDigits u = B at *
      clear hq h hf hu
      go_enter Tryd.func22, Tryd.ntmps22
      go_wp2_with fail
      refine (HT.out _).mono ?_
      rintro e W1 ⟨rfl, hB1⟩
      have HB1 := hide_ ((HB.out _).trans (hB1.mono (HB.out _).size))
      clear hB1
      go_wp2_with fail
      go_ret
      exact ⟨by rw [HD.out]; rfl, HB1.out⟩

set_option maxRecDepth 100000 in
set_option maxHeartbeats 1000000 in
theorem told_calls (z : Int) (h0 : -999999999 ≤ z) (h1 : z ≤ 999999999) (w : World) : Calls Tryd.prog 22 #[.int .i64 z] w fun e w' => e = .returned (.string ⟨(Lib.itoa z).toArray⟩) ∧ Below w.heap.size w w' := by
  rcases Int.lt_or_le z 0 with h | h
  · obtain ⟨u, rfl⟩ : ∃ u : Nat, z = -(u : Int) := ⟨z.natAbs, by omega⟩
    have HT : Hid (∀ W : World, Calls Tryd.prog 22 #[.int .i64 (u : Int)] W fun e w' => e = .returned (.string ⟨(Lib.decDigits u).toArray⟩) ∧ Below W.heap.size W w') := fun W => told_nat u u (Nat.le_refl _) (by omega) W
    have hl : (Lib.decDigits u).length ≤ 9 := by rw [Lib.decDigits_length]; exact nDigits_nine.2 (by omega)
    rw [Lib.itoa_neg u (by omega)]
    have hadd : ∀ W, (Op.stringOp .add ⟨#[45]⟩ ⟨(Lib.decDigits u).toArray⟩).run Tryd.prog W = .ok (.string ((⟨#[45]⟩ : ByteArray) ++ ⟨(Lib.decDigits u).toArray⟩)) W := fun W => run_string_add_sum W _ _ (by show 1 + (Lib.decDigits u).toArray.size ≤ _; rw [List.size_toArray]; omega)
    have HD : Hid ((⟨(45 :: Lib.decDigits u).toArray⟩ : ByteArray) = (⟨#[45]⟩ : ByteArray) ++ ⟨(Lib.decDigits u).toArray⟩) := by
      show _ = _
      apply ByteArray.ext
      simp [ByteArray.data_append]
    have hu : (u : Int) ≤ 999999999 := by omega
    have hu1 : (1 : Int) ≤ (u : Int) := by omega
    generalize hB : (⟨(45 :: Lib.decDigits u).toArray⟩ : ByteArray) = B at *
    clear hB
    generalize Lib.decDigits u = A at *
    clear h0 h1 h
    go_enter Tryd.func22, Tryd.ntmps22
    go_wp2_with fail
    refine (HT.out _).mono ?_
    rintro e W1 ⟨rfl, hB1⟩
    have HB1 := hide_ hB1
    clear hB1
    go_wp2_with fail
    go_ret
    exact ⟨by rw [HD.out]; rfl, HB1.out⟩
  · obtain ⟨u, rfl⟩ : ∃ u : Nat, z = u := ⟨z.toNat, by omega⟩
    rw [Lib.itoa_nonneg]
    exact told_nat u u (Nat.le_refl _) (by omega) w
end Go.Proofs.YtmkcdkfjomaidaaDoor
