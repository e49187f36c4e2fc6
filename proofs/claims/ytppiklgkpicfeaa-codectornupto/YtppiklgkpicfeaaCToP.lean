/-
  PROVED HERE, of plain lists: a frame is read whatever stands ahead and behind; cut short it is short; with a byte changed it is none, or not of these bytes.
-/
import Derived.Test.YtppiklgkpicfeaaCArg
namespace Go.Proofs.Ytppiklgkpicfeaa
open Go.RowKit

theorem getL_short (m : Nat) : ∀ (i : Nat) (p : Int) (n k : Nat), m * 2 ^ (7 * i) < 18446744073709551616 → (0 < i → 0 < m) → k < (leb m).length → (getL ((leb m).take k) i p n).2.2 = 3 := by
  induction m using Nat.strongRecOn with
  | ind m ih =>
    intro i p n k hb h0 hk
    cases k with
    | zero => simp [getL]
    | succ k =>
      by_cases h1 : m < 128
      · rw [leb_lt h1] at hk
        simp at hk
      · have hge : 128 ≤ m := by omega
        rw [leb_ge hge] at hk ⊢
        have hi : i ≠ 9 := by
          rintro rfl
          have : m * 2 ^ (7 * 9) ≥ 128 * 2 ^ (7 * 9) := Nat.mul_le_mul_right _ hge
          omega
        rw [List.take_succ_cons, getL, if_neg (by rw [goes_more i _ (by omega) hi]; decide), if_neg (by omega)]
        refine ih (m / 128) (by omega) (i + 1) _ _ k ?_ (fun _ => by omega) (by simpa using hk)
        rw [pow7, ← Nat.mul_assoc]
        refine Nat.lt_of_le_of_lt (Nat.mul_le_mul_right _ ?_) hb
        omega

theorem frame_len (b : List Int) : (frameL b).length = (leb b.length).length + b.length + 4 := by
  simp [frameL, be_length]
  omega
theorem leb_pos (n : Nat) (h : n < 18446744073709551616) : 1 ≤ (leb n).length := by
  rw [leb_length n h]
  have := qlen_le (n : Int) (by omega) (by omega)
  simpa using this.1

theorem getA_frame (l : List Int) (P : Nat) (b rest : List Int) (hb : b.length ≤ 65536) (h : l.drop P = leb b.length ++ rest) (hP : P ≤ l.length) : getA l P = ((b.length : Int), (P : Int) + ((leb b.length).length : Int), 0) := by
  have := getA_leb l P b.length rest (by omega) (by omega) (by omega) (by omega) (by simpa using h)
  simpa using this

theorem torn_whole (b front back : List Int) (hb : b.length ≤ 65536) :
    opE (front ++ frameL b ++ back) front.length = 0 ∧ opX (front ++ frameL b ++ back) front.length = b ∧ opAt (front ++ frameL b ++ back) front.length = ((front.length + (frameL b).length : Nat) : Int) := by
  have hl : (front ++ frameL b ++ back).length = front.length + (frameL b).length + back.length := by simp; omega
  have hd : (front ++ frameL b ++ back).drop front.length = leb b.length ++ (b ++ be (more 1 b) ++ back) := by
    rw [List.append_assoc, List.drop_left]
    simp [frameL]
  have hg := getA_frame _ front.length b _ hb hd (by omega)
  have hf := frame_len b
  have hx : frX (front ++ frameL b ++ back) front.length = b := by
    unfold frX
    rw [hg]
    simp only
    rw [show ((front.length : Int) + ((leb b.length).length : Int)).toNat = front.length + (leb b.length).length from by omega, Int.toNat_natCast, ← List.drop_drop, hd, List.drop_left, List.append_assoc, List.take_left]
  have he : frE (front ++ frameL b ++ back) front.length = 0 := by
    unfold frE
    rw [hx, hg]
    simp only
    rw [if_neg (by decide), if_neg (by omega), if_neg (by rw [hl]; omega), if_pos]
    rw [show ((front.length : Int) + ((leb b.length).length : Int) + (b.length : Int)).toNat = front.length + ((leb b.length).length + b.length) from by omega, ← List.drop_drop, hd, ← List.drop_drop, List.drop_left, List.append_assoc, List.drop_left]
    exact List.take_left' (be_length _)
  have e0 : opE (front ++ frameL b ++ back) front.length = 0 := by
    unfold opE
    rw [if_neg (by rw [hl]; omega), he]
  refine ⟨e0, ?_, ?_⟩
  · unfold opX
    rw [e0, if_pos rfl, hx]
  · unfold opAt
    rw [e0, if_pos rfl, hg]
    simp only
    omega

theorem torn_short (b : List Int) (k : Nat) (hb : b.length ≤ 65536) (hk : k < (frameL b).length) : opE ((frameL b).take k) 0 = 3 ∧ opX ((frameL b).take k) 0 = [] ∧ opAt ((frameL b).take k) 0 = 0 := by
  have hf := frame_len b
  have hl : ((frameL b).take k).length = k := by rw [List.length_take]; omega
  have he : frE ((frameL b).take k) 0 = 3 := by
    by_cases h1 : k < (leb b.length).length
    · have e : (frameL b).take k = (leb b.length).take k := by
        unfold frameL
        rw [List.append_assoc, List.take_append_of_le_length (by omega)]
      have hs := getL_short b.length 0 0 0 k (by simp; omega) (by omega) h1
      have hg : (getA ((leb b.length).take k) 0).2.2 = 3 := by
        unfold getA
        rw [if_neg (by omega)]
        simpa using hs
      unfold frE
      rw [e, hg]
      exact if_pos (by decide)
    · have hd : ((frameL b).take k).drop 0 = leb b.length ++ (b ++ be (more 1 b)).take (k - (leb b.length).length) := by
        rw [List.drop_zero]
        unfold frameL
        rw [List.append_assoc, List.take_append, List.take_of_length_le (by omega)]
      have hg := getA_frame _ 0 b _ hb hd (by omega)
      have hg' : getA ((frameL b).take k) 0 = ((b.length : Int), ((leb b.length).length : Int), 0) := by simpa using hg
      unfold frE
      rw [hg']
      simp only
      rw [if_neg (by decide), if_neg (by omega), if_pos (by rw [hl]; omega)]
  have e0 : opE ((frameL b).take k) 0 = 3 := by
    unfold opE
    rw [if_neg (by omega), he]
  exact ⟨e0, by unfold opX; rw [e0, if_neg (by decide)], by unfold opAt; rw [e0, if_neg (by decide)]⟩

theorem torn_changed (b : List Int) (k : Nat) (c : Int) (_hb : b.length ≤ 65536) (hbb : Bytes b) (hc : 0 ≤ c ∧ c ≤ 255) (hk : k < (frameL b).length) (hne : c ≠ (frameL b).getD k 0) :
    (opE ((frameL b).set k c) 0 ≠ 0 ∧ opAt ((frameL b).set k c) 0 = 0) ∨ (opE ((frameL b).set k c) 0 = 0 ∧ opX ((frameL b).set k c) 0 ≠ b) := by
  have hf := frame_len b
  by_cases h0 : opE ((frameL b).set k c) 0 = 0
  · right
    refine ⟨h0, fun hX => ?_⟩
    have hbd : Bytes ((frameL b).set k c) := by
      intro x hx
      rcases List.mem_or_eq_of_mem_set hx with h | rfl
      · have : Bytes (frameL b) := ((bytes_leb _).append hbb).append (bytes_be _ (more_fits 1 b).1 (more_fits 1 b).2)
        exact this x h
      · exact hc
    have hl : ((frameL b).set k c).length = (frameL b).length := List.length_set
    generalize hD : (frameL b).set k c = D at *
    have he : frE D 0 = 0 := by
      unfold opE at h0
      rwa [if_neg (by omega)] at h0
    have hx : frX D 0 = b := by
      unfold opX at hX
      rwa [h0, if_pos rfl] at hX
    unfold frE at he
    by_cases z0 : (getA D 0).2.2 = 0
    · rw [if_neg (by simp [z0])] at he
      obtain ⟨rest, hr, hy⟩ := getA_back D 0 hbd (by omega) (by omega) z0
      have hp := getA_pos D 0
      obtain ⟨x, y, z, hg⟩ : ∃ x y z, getA D 0 = (x, y, z) := ⟨_, _, _, rfl⟩
      unfold frX at hx
      rw [hg] at he hr hy hp
      simp only at he hr hy hp
      have hx' : (D.drop y.toNat).take x.toNat = b := by rw [hg] at hx; exact hx
      have hx2 : frX D 0 = b := by unfold frX; rw [hg]; exact hx'
      rw [hx2] at he
      obtain ⟨N, rfl⟩ := Int.eq_ofNat_of_zero_le hp
      simp only [Int.toNat_natCast, Int.toNat_zero, List.drop_zero, Int.zero_add] at hr hy hx' he
      subst hy
      simp only [Int.toNat_natCast] at hx'
      by_cases t1 : (65536 : Int) < (N : Int)
      · rw [if_pos t1] at he
        cases he
      rw [if_neg t1] at he
      by_cases t2 : (D.length : Int) < ((leb N).length : Int) + (N : Int) + 4
      · rw [if_pos t2] at he
        cases he
      rw [if_neg t2] at he
      by_cases t3 : (D.drop (((leb N).length : Int) + (N : Int)).toNat).take 4 = be (more 1 b)
      · rw [show (((leb N).length : Int) + (N : Int)).toNat = (leb N).length + N from by omega] at t3
        have hN : N = b.length := by
          rw [← hx', List.length_take, List.length_drop]
          omega
        subst hN
        rw [hr, List.drop_left] at hx'
        rw [hr, ← List.drop_drop, List.drop_left] at t3
        have hrl : rest.length = b.length + 4 := by
          have := congrArg List.length hr
          rw [List.length_append] at this
          omega
        have hr2 : rest = b ++ be (more 1 b) := by
          rw [← List.take_append_drop b.length rest, hx']
          rw [List.take_of_length_le (by rw [List.length_drop]; omega)] at t3
          rw [t3]
        have hDF : D = frameL b := by
          rw [hr, hr2]
          simp [frameL]
        rw [← hD] at hDF
        apply hne
        have := congrArg (fun l : List Int => l.getD k 0) hDF
        rw [← this, List.getD_eq_getElem?_getD, List.getElem?_set_self (by omega)]
        rfl
      · rw [if_neg t3] at he
        cases he
    · rw [if_pos z0] at he
      exact z0 he
  · left
    exact ⟨h0, by unfold opAt; rw [if_neg h0]⟩
end Go.Proofs.Ytppiklgkpicfeaa
