/-
  PROVED HERE: script.number at every word: the number that it is, and whether it is one.
-/
import Derived.Test.YtmkcdkfjomaidaaDoorSBase
namespace Go.Proofs.YtmkcdkfjomaidaaDoor
open Go.RowKit

theorem arr_beq (l : List UInt8) (s : ByteArray) : (l == s.toList) = decide (l = s.data.toList) := by
  rw [ByteArray.toList_eq]
  by_cases h : l = s.data.toList <;> simp [h]

set_option maxRecDepth 100000 in
set_option maxHeartbeats 1000000 in
theorem number_calls (s : ByteArray) (hs : s.size ≤ 281474976710656) (w : World) (hE : Env w) :
    Calls Tryd.prog 25 #[.string s] w fun e w' => ∃ n : Int, e = .returned (.tuple #[.int .i64 n, .bool (pnum s.data.toList).isSome]) ∧ (∀ v, pnum s.data.toList = some v → n = v) ∧ Below w.heap.size w w' := by
  by_cases hok : ∃ v, Lib.atoiAll s.data.toList = .ok v
  · obtain ⟨v, hv⟩ := hok
    obtain ⟨b0, b1⟩ := Lib.atoiAll_bounds hv
    have HA := atoi_ok s hs v hv w
    have HE := hide_ hE
    have HP : Hid (pnum s.data.toList = if Lib.itoa v = s.data.toList ∧ -999999999 ≤ v ∧ v ≤ 999999999 then some v else none) := by
      show pnum _ = _
      unfold pnum
      rw [hv]
    have hb := arr_beq (Lib.itoa v) s
    clear hs hv hE
    by_cases h : Lib.itoa v = s.data.toList
    · rw [decide_eq_true h] at hb
      by_cases h0 : -999999999 ≤ v
      · by_cases h1 : v ≤ 999999999
        · have HQ : Hid (pnum s.data.toList = some v) := by have := HP.out; rw [if_pos ⟨h, h0, h1⟩] at this; exact this
          clear HP h
          generalize pnum s.data.toList = po at HQ ⊢
          go_enter Tryd.func25, Tryd.ntmps25
          go_wp2_with fail
          refine HA.mono ?_
          rintro e W1 ⟨rfl, hB1⟩
          go_wp2_with fail
          refine (itoa_calls v b0 b1 W1 (HE.out.new hB1)).mono ?_
          rintro e W2 ⟨rfl, hB2⟩
          go_wp2
          go_ret2
          rw [HQ.out]
          exact ⟨v, rfl, (fun u hu => Option.some.inj hu), hB1.trans (hB2.mono hB1.size)⟩
        · have HQ : Hid (pnum s.data.toList = none) := by have := HP.out; rw [if_neg (fun e => h1 e.2.2)] at this; exact this
          clear HP h
          generalize pnum s.data.toList = po at HQ ⊢
          go_enter Tryd.func25, Tryd.ntmps25
          go_wp2_with fail
          refine HA.mono ?_
          rintro e W1 ⟨rfl, hB1⟩
          go_wp2_with fail
          refine (itoa_calls v b0 b1 W1 (HE.out.new hB1)).mono ?_
          rintro e W2 ⟨rfl, hB2⟩
          go_wp2
          go_ret2
          rw [HQ.out]
          exact ⟨v, (by first | rfl | simp [h1]), (fun u hu => (by cases hu)), hB1.trans (hB2.mono hB1.size)⟩
      · have HQ : Hid (pnum s.data.toList = none) := by have := HP.out; rw [if_neg (fun e => h0 e.2.1)] at this; exact this
        clear HP h
        generalize pnum s.data.toList = po at HQ ⊢
        go_enter Tryd.func25, Tryd.ntmps25
        go_wp2_with fail
        refine HA.mono ?_
        rintro e W1 ⟨rfl, hB1⟩
        go_wp2_with fail
        refine (itoa_calls v b0 b1 W1 (HE.out.new hB1)).mono ?_
        rintro e W2 ⟨rfl, hB2⟩
        go_wp2
        go_ret2
        rw [HQ.out]
        exact ⟨v, rfl, (fun u hu => (by cases hu)), hB1.trans (hB2.mono hB1.size)⟩
    · rw [decide_eq_false h] at hb
      have HQ : Hid (pnum s.data.toList = none) := by have := HP.out; rw [if_neg (fun e => h e.1)] at this; exact this
      clear HP h
      generalize pnum s.data.toList = po at HQ ⊢
      go_enter Tryd.func25, Tryd.ntmps25
      go_wp2_with fail
      refine HA.mono ?_
      rintro e W1 ⟨rfl, hB1⟩
      go_wp2_with fail
      refine (itoa_calls v b0 b1 W1 (HE.out.new hB1)).mono ?_
      rintro e W2 ⟨rfl, hB2⟩
      go_wp2
      go_ret2
      rw [HQ.out]
      exact ⟨v, rfl, (fun u hu => (by cases hu)), hB1.trans (hB2.mono hB1.size)⟩
  · have hno : ∀ v, Lib.atoiAll s.data.toList ≠ .ok v := fun v e => hok ⟨v, e⟩
    have HA := atoi_no s hs hno w hE
    have HQ : Hid (pnum s.data.toList = none) := by
      show pnum _ = none
      unfold pnum
      split
      · rename_i v hv
        exact absurd hv (hno v)
      · rfl
      · rfl
    clear hs hno hE hok
    generalize pnum s.data.toList = po at HQ ⊢
    go_enter Tryd.func25, Tryd.ntmps25
    go_wp2_with fail
    refine HA.mono ?_
    rintro e W1 ⟨n, t, p, rfl, hB1⟩
    go_wp2
    go_ret2
    rw [HQ.out]
    exact ⟨n, rfl, (fun u hu => (by cases hu)), hB1⟩
end Go.Proofs.YtmkcdkfjomaidaaDoor
