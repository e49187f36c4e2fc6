/-
  PROVED HERE: the document's own number at every word: the number that it is, and whether it is one.
-/
import Derived.Test.YtmkcdkfjomaidaaDoorSBase
namespace Go.Proofs.YtmkcdkfjomaidaaDoor
open Go.RowKit

/-- A text without a sign ahead. -/
def bare (s : ByteArray) : ByteArray := if isNeg s.data.toList then s.extract 1 s.size else s

theorem extract_one (s : ByteArray) : (s.extract 1 s.size).data.toList = s.data.toList.drop 1 := Lib.extract_to_end s 1
theorem bare_data (s : ByteArray) : (bare s).data.toList = unsign s.data.toList := by
  unfold bare
  cases h : s.data.toList with
  | nil =>
    have : isNeg ([] : List UInt8) = false := rfl
    rw [this]
    exact h
  | cons c r =>
    by_cases hc : c.toNat = 45
    · have e1 : isNeg (c :: r) = true := by simp [isNeg, hc]
      have e2 : unsign (c :: r) = r := by simp [unsign, hc]
      rw [e1, e2, if_pos rfl, extract_one, h]
      rfl
    · have e1 : isNeg (c :: r) = false := by simp [isNeg, hc]
      have e2 : unsign (c :: r) = c :: r := by simp [unsign, hc]
      rw [e1, e2]
      exact h

theorem digs_le : ∀ (l : List UInt8) (acc n : Nat), digs acc l = some n → n < (acc + 1) * 10 ^ l.length := fun l acc n h => Lib.decFrom_lt l acc n (by rw [← decFrom_digs]; exact h)

theorem rnum_bad {l : List UInt8} (h : badLook l) : pnum l = none := by
  rw [← rnum_pnum]
  unfold rnum
  exact if_pos h
theorem rnum_good {l : List UInt8} (h : ¬ badLook l) : pnum l = (digs 0 (unsign l)).map fun (n : Nat) => (if isNeg l then -(n : Int) else (n : Int)) := by
  rw [← rnum_pnum]
  unfold rnum
  exact if_neg h

theorem get_of_data {s : ByteArray} {c : UInt8} {r : List UInt8} (h : s.data.toList = c :: r) : ∃ h0 : 0 < s.size, s[0]'h0 = c := by
  have hl : s.data.toList.length = s.size := rfl
  rw [h, List.length_cons] at hl
  refine ⟨by omega, ?_⟩
  have e : s.data.toList[0]? = some (s[0]'(by omega)) := by
    rw [Array.getElem?_toList]
    exact Array.getElem?_eq_getElem (by show 0 < s.size; omega)
  rw [h] at e
  exact (Option.some.inj e).symm

set_option maxRecDepth 100000 in
set_option maxHeartbeats 1000000 in
theorem rnumber_empty (s : ByteArray) (h0 : s.data.toList = []) (po : Option Int) (hp : pnum s.data.toList = po) (w : World) : Calls Tryd.prog 27 #[.string s] w fun e w' => ∃ n : Int, e = .returned (.tuple #[.int .i64 n, .bool po.isSome]) ∧ (∀ v, po = some v → n = v) ∧ w' = w := by
  have h1 : s.toList = [] := by rw [ByteArray.toList_eq]; exact h0
  rw [rnum_bad (.inl (by rw [h0]; rfl))] at hp
  subst hp
  clear h0
  go_enter Tryd.func27, Tryd.ntmps27
  go_wp2
  go_ret2
  exact ⟨0, rfl, fun v e => (by cases e), rfl⟩

theorem at_data {s : ByteArray} {i : Nat} (h : i < s.size) : s.data.toList.drop i = (s[i]'h) :: s.data.toList.drop (i + 1) := by
  have e : i < s.data.toList.length := h
  rw [List.drop_eq_getElem_cons e]
  rfl
theorem drop_end {s : ByteArray} : s.data.toList.drop s.size = [] := List.drop_eq_nil_of_le (Nat.le_refl _)
theorem digs_no {c : UInt8} {r : List UInt8} {n : Nat} (h : c.toNat < 48 ∨ 57 < c.toNat) : digs n (c :: r) = none := by rw [digs, if_pos h]
theorem digs_yes {c : UInt8} {r : List UInt8} {n : Nat} (h : ¬ (c.toNat < 48 ∨ 57 < c.toNat)) : digs n (c :: r) = digs (10 * n + (c.toNat - 48)) r := by rw [digs, if_neg h]
theorem nines {i n : Nat} (h : n < 10 ^ i) (hi : i ≤ 8) : n ≤ 99999999 := by
  have := Nat.pow_le_pow_right (n := 10) (by decide) hi
  have e : (10 : Nat) ^ 8 = 100000000 := by decide
  omega
theorem nines9 {i n : Nat} (h : n < 10 ^ i) (hi : i ≤ 9) : n ≤ 999999999 := by
  have := Nat.pow_le_pow_right (n := 10) (by decide) hi
  have e : (10 : Nat) ^ 9 = 1000000000 := by decide
  omega

set_option maxRecDepth 100000 in
set_option maxHeartbeats 2000000 in
theorem rnumber_neg (s : ByteArray) (hs : s.size ≤ 281474976710656) (c0 : UInt8) (r : List UInt8) (h0 : s.data.toList = c0 :: r) (hc0 : c0.toNat = 45) (po : Option Int) (hp : pnum s.data.toList = po) (w : World) : Calls Tryd.prog 27 #[.string s] w fun e w' => ∃ n : Int, e = .returned (.tuple #[.int .i64 n, .bool po.isSome]) ∧ (∀ v, po = some v → n = v) ∧ w' = w := by
  obtain ⟨hlt, hget⟩ := get_of_data h0
  have h1 : s.toList.isEmpty = false := by rw [ByteArray.toList_eq, h0]; rfl
  have hz : (0 : Int) < (s.size : Int) := by omega
  have h1z : (1 : Int) ≤ (s.size : Int) := by omega
  have hg2 : (s[0]'hlt).toNat = 45 := by rw [hget]; exact hc0
  obtain ⟨D, hD⟩ : ∃ D, s.extract 1 s.size = D := ⟨_, rfl⟩
  have hDd : unsign s.data.toList = D.data.toList := by rw [← hD, extract_one, h0]; simp [unsign, hc0]
  have hneg : isNeg s.data.toList = true := by rw [h0]; simp [isNeg, hc0]
  have hDs : D.size = s.size - 1 := by rw [← hD, ByteArray.size_extract]; omega
  have hDn : (D.toList == s.toList) = false := by
    rw [beq_eq_false_iff_ne]
    intro e
    have := congrArg List.length e
    rw [ByteArray.toList_eq, ByteArray.toList_eq] at this
    have e1 : D.data.toList.length = D.size := rfl
    have e2 : s.data.toList.length = s.size := rfl
    omega
  clear hget hc0
  by_cases hA : D.data.toList = []
  · have HBAD : badLook s.data.toList := .inl (by rw [hDd]; exact hA)
    have hA1 : D.toList.isEmpty = true := by rw [ByteArray.toList_eq, hA]; rfl
    clear h0 hDd hneg hDs hDn hA
    rw [rnum_bad HBAD] at hp
    subst hp
    clear HBAD
    go_enter Tryd.func27, Tryd.ntmps27
    go_wp2
    go_ret2
    first | exact ⟨0, rfl, fun v e => (by cases e), rfl⟩ | exact ⟨⟨0, rfl⟩, rfl⟩
  have hA1 : D.toList.isEmpty = false := by rw [ByteArray.toList_eq]; cases h : D.data.toList with | nil => exact absurd h hA | cons _ _ => rfl
  have hDl : 0 < D.size := by cases h : D.data.toList with | nil => exact absurd h hA | cons _ _ => exact (get_of_data h).1
  have hDz : (0 : Int) < (D.size : Int) := by omega
  by_cases hB : 9 < D.size
  · have HBAD : badLook s.data.toList := .inr (.inl (by rw [hDd]; exact hB))
    have hB1 : (9 : Int) < (D.size : Int) := by omega
    clear h0 hDd hneg hB hDs hDn hA
    rw [rnum_bad HBAD] at hp
    subst hp
    clear HBAD
    go_enter Tryd.func27, Tryd.ntmps27
    go_wp2
    go_ret2
    first | exact ⟨0, rfl, fun v e => (by cases e), rfl⟩ | exact ⟨⟨0, rfl⟩, rfl⟩
  have hB1 : ¬ ((9 : Int) < (D.size : Int)) := by omega
  have hd0 : D.data.toList = (D[0]'hDl) :: D.data.toList.drop 1 := at_data hDl
  by_cases hC : (D[0]'hDl).toNat = 48
  · by_cases hC2 : 1 < s.size
    · have HBAD : badLook s.data.toList := .inr (.inr ⟨by rw [hDd, hd0]; simp [hC], hC2⟩)
      have hC3 : (1 : Int) < (s.size : Int) := by omega
      clear h0 hDd hneg hB hd0 hDs hDn hA
      rw [rnum_bad HBAD] at hp
      subst hp
      clear HBAD
      go_enter Tryd.func27, Tryd.ntmps27
      go_wp2
      go_ret2
      first | exact ⟨0, rfl, fun v e => (by cases e), rfl⟩ | exact ⟨⟨0, rfl⟩, rfl⟩
    · exact absurd (show 1 < s.size by omega) hC2
  · have HGOOD : ¬ badLook s.data.toList := by
      rintro (e | e | ⟨e, _⟩)
      · rw [hDd, hd0] at e; cases e
      · rw [hDd] at e; exact hB e
      · rw [hDd, hd0] at e; exact hC (by simpa using e)
    have hC3 : (((D[0]'hDl).toNat : Int) = 48) = False := by simp; omega
    rw [rnum_good HGOOD, hDd, hneg] at hp
    have HP : Hid (po = (digs 0 D.data.toList).map fun (n : Nat) => -(n : Int)) := hp.symm
    have hD9 : D.size ≤ 9 := by omega
    clear HGOOD hp h0 hDd hneg hd0 hA
    go_enter Tryd.func27, Tryd.ntmps27
    go_wp2
    go_loopg [5, 6] (D.size + 1) (fun gk u v wr => ∃ (i n : Nat), u = .int .i64 (n : Int) ∧ v = .int .i64 (i : Int) ∧ i ≤ D.size ∧ D.size < i + gk ∧ wr = w ∧ Hid (n < 10 ^ i ∧ digs 0 D.data.toList = digs n (D.data.toList.drop i)))
    case atStart => exact ⟨0, 0, rfl, rfl, Nat.zero_le _, by omega, rfl, by decide, rfl⟩
    case round =>
      obtain ⟨i, n, rfl, rfl, hi, hgk, rfl, HR⟩ := hrel
      have hi0 : (0 : Int) ≤ (i : Int) := by omega
      by_cases hlt2 : i < D.size
      · have hii : (i : Int) < (D.size : Int) := by omega
        have hn8 := nines HR.out.1 (by omega)
        have hn0 : (0 : Int) ≤ (n : Int) := by omega
        have hn9 : (n : Int) ≤ 99999999 := by omega
        have hcb : (D[i]'hlt2).toNat < 256 := UInt8.toNat_lt _
        have HQ : Hid (digs 0 D.data.toList = digs n ((D[i]'hlt2) :: D.data.toList.drop (i + 1))) := by have := HR.out.2; rw [at_data hlt2] at this; exact this
        have HN := hide_ HR.out.1
        clear HR
        by_cases k1 : (D[i]'hlt2).toNat < 48
        · have HE : Hid (po = none) := by have := HP.out; rw [HQ.out, digs_no (.inl k1)] at this; exact this
          have k1z : ((D[i]'hlt2).toNat : Int) < 48 := by omega
          clear HP HQ HN
          go_wp2
          go_ret2
          rw [HE.out]
          exact ⟨0, rfl, fun v e => (by cases e), rfl⟩
        · by_cases k2 : 57 < (D[i]'hlt2).toNat
          · have HE : Hid (po = none) := by have := HP.out; rw [HQ.out, digs_no (.inr k2)] at this; exact this
            have k1z : ¬ (((D[i]'hlt2).toNat : Int) < 48) := by omega
            have k2z : (57 : Int) < ((D[i]'hlt2).toNat : Int) := by omega
            clear HP HQ HN
            go_wp2
            go_ret2
            rw [HE.out]
            exact ⟨0, rfl, fun v e => (by cases e), rfl⟩
          · have HE : Hid (digs 0 D.data.toList = digs (10 * n + ((D[i]'hlt2).toNat - 48)) (D.data.toList.drop (i + 1)) ∧ 10 * n + ((D[i]'hlt2).toNat - 48) < 10 ^ (i + 1)) := by
              refine ⟨by rw [HQ.out, digs_yes (by omega)], ?_⟩
              have := HN.out
              rw [Nat.pow_succ]
              omega
            have k1z : ¬ (((D[i]'hlt2).toNat : Int) < 48) := by omega
            have k2z : ¬ ((57 : Int) < ((D[i]'hlt2).toNat : Int)) := by omega
            generalize hcc : (D[i]'hlt2).toNat = cc at *
            clear HQ HN
            go_wp2
            go_roundg (D.size - i)
            case measure => omega
            case rel => exact ⟨i + 1, 10 * n + (cc - 48), by first | rfl | (congr 1; omega) | go_num, by first | rfl | go_num, by omega, by omega, rfl, HE.out.2, HE.out.1⟩
      · obtain rfl : i = D.size := by omega
        have HE : Hid (po = some (-(n : Int))) := by have := HP.out; rw [HR.out.2, drop_end] at this; exact this
        have hn9 := nines9 HR.out.1 hD9
        have hn0 : (0 : Int) ≤ (n : Int) := by omega
        have hn9z : (n : Int) ≤ 999999999 := by omega
        clear HP HR
        go_wp2
        go_ret2
        rw [HE.out]
        exact ⟨-(n : Int), rfl, fun v e => Option.some.inj e, rfl⟩

set_option maxRecDepth 100000 in
set_option maxHeartbeats 2000000 in
theorem rnumber_pos (s : ByteArray) (hs : s.size ≤ 281474976710656) (c0 : UInt8) (r : List UInt8) (h0 : s.data.toList = c0 :: r) (hc0 : c0.toNat ≠ 45) (po : Option Int) (hp : pnum s.data.toList = po) (w : World) : Calls Tryd.prog 27 #[.string s] w fun e w' => ∃ n : Int, e = .returned (.tuple #[.int .i64 n, .bool po.isSome]) ∧ (∀ v, po = some v → n = v) ∧ w' = w := by
  obtain ⟨hlt, hget⟩ := get_of_data h0
  have h1 : s.toList.isEmpty = false := by rw [ByteArray.toList_eq, h0]; rfl
  have hz : (0 : Int) < (s.size : Int) := by omega
  have h1z : (1 : Int) ≤ (s.size : Int) := by omega
  have hg2 : ((s[0]'hlt).toNat : Int) ≠ 45 := by rw [hget]; omega
  have hDd : unsign s.data.toList = s.data.toList := by rw [h0]; simp [unsign, hc0]
  have hneg : isNeg s.data.toList = false := by rw [h0]; simp [isNeg, hc0]
  clear hget hc0
  have hDl := hlt
  by_cases hB : 9 < s.size
  · have HBAD : badLook s.data.toList := .inr (.inl (by rw [hDd]; exact hB))
    have hB1 : (9 : Int) < (s.size : Int) := by omega
    clear h0 hDd hneg hB
    rw [rnum_bad HBAD] at hp
    subst hp
    clear HBAD
    go_enter Tryd.func27, Tryd.ntmps27
    go_wp2
    go_ret2
    first | exact ⟨0, rfl, fun v e => (by cases e), rfl⟩ | exact ⟨⟨0, rfl⟩, rfl⟩
  have hB1 : ¬ ((9 : Int) < (s.size : Int)) := by omega
  have hd0 : s.data.toList = (s[0]'hDl) :: s.data.toList.drop 1 := at_data hDl
  by_cases hC : (s[0]'hDl).toNat = 48
  · by_cases hC2 : 1 < s.size
    · have HBAD : badLook s.data.toList := .inr (.inr ⟨by rw [hDd, hd0]; simp [hC], hC2⟩)
      have hC3 : (1 : Int) < (s.size : Int) := by omega
      clear h0 hDd hneg hB hd0
      rw [rnum_bad HBAD] at hp
      subst hp
      clear HBAD
      go_enter Tryd.func27, Tryd.ntmps27
      go_wp2
      go_ret2
      first | exact ⟨0, rfl, fun v e => (by cases e), rfl⟩ | exact ⟨⟨0, rfl⟩, rfl⟩
    · have HGOOD : ¬ badLook s.data.toList := by
        rintro (e | e | ⟨_, e⟩)
        · rw [hDd, hd0] at e; cases e
        · rw [hDd] at e; exact hB e
        · exact hC2 e
      have hC3 : ¬ ((1 : Int) < (s.size : Int)) := by omega
      rw [rnum_good HGOOD, hDd, hneg] at hp
      have HP : Hid (po = (digs 0 s.data.toList).map fun (n : Nat) => (n : Int)) := hp.symm
      have hD9 : s.size ≤ 9 := by omega
      clear HGOOD hp h0 hDd hneg hd0
      go_enter Tryd.func27, Tryd.ntmps27
      go_wp2
      go_loopg [5, 6] (s.size + 1) (fun gk u v wr => ∃ (i n : Nat), u = .int .i64 (n : Int) ∧ v = .int .i64 (i : Int) ∧ i ≤ s.size ∧ s.size < i + gk ∧ wr = w ∧ Hid (n < 10 ^ i ∧ digs 0 s.data.toList = digs n (s.data.toList.drop i)))
      case atStart => exact ⟨0, 0, rfl, rfl, Nat.zero_le _, by omega, rfl, by decide, rfl⟩
      case round =>
        obtain ⟨i, n, rfl, rfl, hi, hgk, rfl, HR⟩ := hrel
        have hi0 : (0 : Int) ≤ (i : Int) := by omega
        by_cases hlt2 : i < s.size
        · have hii : (i : Int) < (s.size : Int) := by omega
          have hn8 := nines HR.out.1 (by omega)
          have hn0 : (0 : Int) ≤ (n : Int) := by omega
          have hn9 : (n : Int) ≤ 99999999 := by omega
          have hcb : (s[i]'hlt2).toNat < 256 := UInt8.toNat_lt _
          have HQ : Hid (digs 0 s.data.toList = digs n ((s[i]'hlt2) :: s.data.toList.drop (i + 1))) := by have := HR.out.2; rw [at_data hlt2] at this; exact this
          have HN := hide_ HR.out.1
          clear HR
          by_cases k1 : (s[i]'hlt2).toNat < 48
          · have HE : Hid (po = none) := by have := HP.out; rw [HQ.out, digs_no (.inl k1)] at this; exact this
            have k1z : ((s[i]'hlt2).toNat : Int) < 48 := by omega
            clear HP HQ HN
            go_wp2
            go_ret2
            rw [HE.out]
            exact ⟨0, rfl, fun v e => (by cases e), rfl⟩
          · by_cases k2 : 57 < (s[i]'hlt2).toNat
            · have HE : Hid (po = none) := by have := HP.out; rw [HQ.out, digs_no (.inr k2)] at this; exact this
              have k1z : ¬ (((s[i]'hlt2).toNat : Int) < 48) := by omega
              have k2z : (57 : Int) < ((s[i]'hlt2).toNat : Int) := by omega
              clear HP HQ HN
              go_wp2
              go_ret2
              rw [HE.out]
              exact ⟨0, rfl, fun v e => (by cases e), rfl⟩
            · have HE : Hid (digs 0 s.data.toList = digs (10 * n + ((s[i]'hlt2).toNat - 48)) (s.data.toList.drop (i + 1)) ∧ 10 * n + ((s[i]'hlt2).toNat - 48) < 10 ^ (i + 1)) := by
                refine ⟨by rw [HQ.out, digs_yes (by omega)], ?_⟩
                have := HN.out
                rw [Nat.pow_succ]
                omega
              have k1z : ¬ (((s[i]'hlt2).toNat : Int) < 48) := by omega
              have k2z : ¬ ((57 : Int) < ((s[i]'hlt2).toNat : Int)) := by omega
              generalize hcc : (s[i]'hlt2).toNat = cc at *
              clear HQ HN
              go_wp2
              go_roundg (s.size - i)
              case measure => omega
              case rel => exact ⟨i + 1, 10 * n + (cc - 48), by first | rfl | (congr 1; omega) | go_num, by first | rfl | go_num, by omega, by omega, rfl, HE.out.2, HE.out.1⟩
        · obtain rfl : i = s.size := by omega
          have HE : Hid (po = some ((n : Int))) := by have := HP.out; rw [HR.out.2, drop_end] at this; exact this
          have hn9 := nines9 HR.out.1 hD9
          have hn0 : (0 : Int) ≤ (n : Int) := by omega
          have hn9z : (n : Int) ≤ 999999999 := by omega
          clear HP HR
          go_wp2
          go_ret2
          rw [HE.out]
          exact ⟨(n : Int), rfl, fun v e => Option.some.inj e, rfl⟩
  · have HGOOD : ¬ badLook s.data.toList := by
      rintro (e | e | ⟨e, _⟩)
      · rw [hDd, hd0] at e; cases e
      · rw [hDd] at e; exact hB e
      · rw [hDd, hd0] at e; exact hC (by simpa using e)
    have hC3 : (((s[0]'hDl).toNat : Int) = 48) = False := by simp; omega
    rw [rnum_good HGOOD, hDd, hneg] at hp
    have HP : Hid (po = (digs 0 s.data.toList).map fun (n : Nat) => (n : Int)) := hp.symm
    have hD9 : s.size ≤ 9 := by omega
    clear HGOOD hp h0 hDd hneg hd0
    go_enter Tryd.func27, Tryd.ntmps27
    go_wp2
    go_loopg [5, 6] (s.size + 1) (fun gk u v wr => ∃ (i n : Nat), u = .int .i64 (n : Int) ∧ v = .int .i64 (i : Int) ∧ i ≤ s.size ∧ s.size < i + gk ∧ wr = w ∧ Hid (n < 10 ^ i ∧ digs 0 s.data.toList = digs n (s.data.toList.drop i)))
    case atStart => exact ⟨0, 0, rfl, rfl, Nat.zero_le _, by omega, rfl, by decide, rfl⟩
    case round =>
      obtain ⟨i, n, rfl, rfl, hi, hgk, rfl, HR⟩ := hrel
      have hi0 : (0 : Int) ≤ (i : Int) := by omega
      by_cases hlt2 : i < s.size
      · have hii : (i : Int) < (s.size : Int) := by omega
        have hn8 := nines HR.out.1 (by omega)
        have hn0 : (0 : Int) ≤ (n : Int) := by omega
        have hn9 : (n : Int) ≤ 99999999 := by omega
        have hcb : (s[i]'hlt2).toNat < 256 := UInt8.toNat_lt _
        have HQ : Hid (digs 0 s.data.toList = digs n ((s[i]'hlt2) :: s.data.toList.drop (i + 1))) := by have := HR.out.2; rw [at_data hlt2] at this; exact this
        have HN := hide_ HR.out.1
        clear HR
        by_cases k1 : (s[i]'hlt2).toNat < 48
        · have HE : Hid (po = none) := by have := HP.out; rw [HQ.out, digs_no (.inl k1)] at this; exact this
          have k1z : ((s[i]'hlt2).toNat : Int) < 48 := by omega
          clear HP HQ HN
          go_wp2
          go_ret2
          rw [HE.out]
          exact ⟨0, rfl, fun v e => (by cases e), rfl⟩
        · by_cases k2 : 57 < (s[i]'hlt2).toNat
          · have HE : Hid (po = none) := by have := HP.out; rw [HQ.out, digs_no (.inr k2)] at this; exact this
            have k1z : ¬ (((s[i]'hlt2).toNat : Int) < 48) := by omega
            have k2z : (57 : Int) < ((s[i]'hlt2).toNat : Int) := by omega
            clear HP HQ HN
            go_wp2
            go_ret2
            rw [HE.out]
            exact ⟨0, rfl, fun v e => (by cases e), rfl⟩
          · have HE : Hid (digs 0 s.data.toList = digs (10 * n + ((s[i]'hlt2).toNat - 48)) (s.data.toList.drop (i + 1)) ∧ 10 * n + ((s[i]'hlt2).toNat - 48) < 10 ^ (i + 1)) := by
              refine ⟨by rw [HQ.out, digs_yes (by omega)], ?_⟩
              have := HN.out
              rw [Nat.pow_succ]
              omega
            have k1z : ¬ (((s[i]'hlt2).toNat : Int) < 48) := by omega
            have k2z : ¬ ((57 : Int) < ((s[i]'hlt2).toNat : Int)) := by omega
            generalize hcc : (s[i]'hlt2).toNat = cc at *
            clear HQ HN
            go_wp2
            go_roundg (s.size - i)
            case measure => omega
            case rel => exact ⟨i + 1, 10 * n + (cc - 48), by first | rfl | (congr 1; omega) | go_num, by first | rfl | go_num, by omega, by omega, rfl, HE.out.2, HE.out.1⟩
      · obtain rfl : i = s.size := by omega
        have HE : Hid (po = some ((n : Int))) := by have := HP.out; rw [HR.out.2, drop_end] at this; exact this
        have hn9 := nines9 HR.out.1 hD9
        have hn0 : (0 : Int) ≤ (n : Int) := by omega
        have hn9z : (n : Int) ≤ 999999999 := by omega
        clear HP HR
        go_wp2
        go_ret2
        rw [HE.out]
        exact ⟨(n : Int), rfl, fun v e => Option.some.inj e, rfl⟩

theorem rnumber_calls (s : ByteArray) (hs : s.size ≤ 281474976710656) (w : World) :
    Calls Tryd.prog 27 #[.string s] w fun e w' => ∃ n : Int, e = .returned (.tuple #[.int .i64 n, .bool (pnum s.data.toList).isSome]) ∧ (∀ v, pnum s.data.toList = some v → n = v) ∧ w' = w := by
  cases h : s.data.toList with
  | nil =>
    rw [← h]
    exact rnumber_empty s h _ rfl w
  | cons c r =>
    rw [← h]
    by_cases hc : c.toNat = 45
    · exact rnumber_neg s hs c r h hc _ rfl w
    · exact rnumber_pos s hs c r h hc _ rfl w
end Go.Proofs.YtmkcdkfjomaidaaDoor
