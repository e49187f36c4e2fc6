/-
  PROVED HERE: the document's own Letters at every text: what it returns; the world is as it was.
-/
import Derived.Test.YtafidabopcgkhaaDoorTree
namespace Go.Proofs.YtafidabopcgkhaaDoor
open Go.RowKit

def letter (c : UInt8) : Bool := decide (97 ≤ c.toNat) && decide (c.toNat ≤ 122)
def letters (s : ByteArray) : Bool := s.toList.all letter && !s.toList.isEmpty
theorem toList_at (s : ByteArray) (i : Nat) (h : i < s.size) : s.toList[i]? = some (s[i]'h) := by
  rw [ByteArray.toList_eq, Array.getElem?_toList]
  exact Array.getElem?_eq_getElem h
theorem toList_length (s : ByteArray) : s.toList.length = s.size := by
  rw [ByteArray.toList_eq, Array.length_toList]
  rfl
theorem all_take {s : ByteArray} {i : Nat} (h : i < s.size) : (s.toList.take (i + 1)).all letter = ((s.toList.take i).all letter && letter (s[i]'h)) := by
  rw [List.take_add_one, toList_at s i h, List.all_append]
  simp

set_option maxRecDepth 100000 in
set_option maxHeartbeats 2000000 in
theorem letters_calls (s : ByteArray) (w : World) (hs : s.size ≤ 1152921504606846976) : Calls Tryd.prog 41 #[.string s] w fun e w' => e = .returned (.bool (letters s)) ∧ w' = w := by
  obtain ⟨R, hR⟩ : ∃ R, letters s = R := ⟨_, rfl⟩
  rw [hR]
  have HR : Hid (letters s = R) := hR
  clear hR
  go_enter Tryd.func41, Tryd.ntmps41
  go_wp2
  go_loop [3] (fun u => ∃ j : Nat, j ≤ s.size ∧ u = .int .i64 (j : Int) ∧ (s.toList.take j).all letter = true) (fun u => s.size - (intOf u).toNat)
  case atStart => exact ⟨0, by omega, rfl, rfl⟩
  case round =>
    obtain ⟨i, hi, rfl, hT⟩ := hrel
    by_cases hlt : i < s.size
    · have hat := all_take hlt
      rw [hT, Bool.true_and] at hat
      cases hc : letter (s[i]'hlt) with
      | true =>
        rw [hc] at hat
        have HT : Hid ((s.toList.take (i + 1)).all letter = true) := hat
        simp only [letter, Bool.and_eq_true, decide_eq_true_eq] at hc
        have h1 : decide (((s[i]'hlt).toNat : Int) < 97) = false := by simp; omega
        have h2 : decide ((122 : Int) < ((s[i]'hlt).toNat : Int)) = false := by simp; omega
        have h3 : ¬ (((s[i]'hlt).toNat : Int) < 97) := by omega
        have h4 : ¬ ((122 : Int) < ((s[i]'hlt).toNat : Int)) := by omega
        clear hat hT hc
        go_wp2
        go_round
        case rel => exact ⟨i + 1, by omega, rfl, HT.out⟩
        case measure => simp [intOf]; omega
      | false =>
        have HF : Hid (R = false) := by
          show R = false
          rw [← HR.out]
          unfold letters
          have : s.toList.all letter = false := by
            cases ha : s.toList.all letter with
            | false => rfl
            | true =>
              have := List.all_eq_true.1 ha (s[i]'hlt) (List.mem_of_getElem? (toList_at s i hlt))
              rw [hc] at this
              cases this
          rw [this]
          rfl
        have hd : ((s[i]'hlt).toNat : Int) < 97 ∨ (decide (((s[i]'hlt).toNat : Int) < 97) = false ∧ (122 : Int) < ((s[i]'hlt).toNat : Int)) := by
          simp only [letter, Bool.and_eq_false_iff, decide_eq_false_iff_not] at hc
          by_cases h : (s[i]'hlt).toNat < 97
          · exact .inl (by omega)
          · exact .inr ⟨by simp; omega, by omega⟩
        clear hat hT hc
        rcases hd with hd | ⟨hd, hd2⟩
        all_goals
          go_wp2
          go_ret
          exact ⟨by rw [HF.out]; rfl, rfl⟩
    · obtain rfl : i = s.size := by omega
      have HF : Hid (R = !s.toList.isEmpty) := by
        show R = _
        rw [← HR.out]
        unfold letters
        rw [List.take_of_length_le (by rw [toList_length]; exact Nat.le_refl _)] at hT
        rw [hT, Bool.true_and]
      clear hT
      go_wp2
      go_ret
      exact ⟨by rw [HF.out]; rfl, rfl⟩
end Go.Proofs.YtafidabopcgkhaaDoor
