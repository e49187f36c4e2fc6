/-
  PROVED HERE: mark.List and the document's own List at every number: a slice in new memory, or none, that holds the marks of the set, rising; nothing that lay before is turned.
-/
import Derived.Test.YteplmpafebeklaaFun
import Derived.Below
import Derived.OwnWalkIn
import Derived.Maps.AppendAt
import Derived.ProofKit
namespace Go.Proofs.Yteplmpafebeklaa
open Go.RowKit

theorem info3 : (Try.prog.info? 3).map (fun i => (i.zero, i.size, i.bytes)) = some (some (.int .i64 0), 1, 8) := by kernel_rfl

/-- A slice's elements are the integers zs. -/
def Row (k : IntKind) (w : World) (a : Option Addr) (len : Nat) (zs : List Int) : Prop :=
  zs.length = len ∧ (len = 0 ∨ ∃ b o, a = some ⟨b, o, none⟩ ∧ b < w.heap.size ∧ ∀ i, i < len → w.cell? ⟨b, o + i, none⟩ = some (.int k (zs.getD i 0)))

theorem Row.below {k : IntKind} {w w' : World} {a : Option Addr} {len : Nat} {zs : List Int} (h : Row k w a len zs) (hb : Below w.heap.size w w') : Row k w' a len zs := by
  obtain ⟨h1, h2⟩ := h
  refine ⟨h1, ?_⟩
  rcases h2 with h2 | ⟨b, o, rfl, hlt, hc⟩
  · exact .inl h2
  · exact .inr ⟨b, o, rfl, Nat.lt_of_lt_of_le hlt hb.size, fun i hi => (hb.cell (p := ⟨b, o + i, none⟩) hlt).trans (hc i hi)⟩

/-- What a slice owns, read. -/
theorem row_of_owns {W : World} {base : Nat} {e : TypeId} {k : IntKind} {v : Value} {n : Nat} {bs : List Int} (h : W.ownsRow base e 1 v n (bs.map (Value.int k))) : ∃ a cap, v = .slice a n cap ∧ Row k W a n bs := by
  obtain ⟨hl, ⟨h1, h2⟩ | ⟨g, cap, cur, rfl, hb, hg, hc1, hc2, hc3, hc4⟩⟩ := h
  · subst h2
    exact ⟨none, 0, h1, by simpa using hl, .inl rfl⟩
  · have hl' : bs.length = n := by simpa using hl
    refine ⟨_, cap, rfl, hl', ?_⟩
    rcases Nat.eq_zero_or_pos n with h0 | h0
    · exact .inl h0
    · refine .inr ⟨g, 0, rfl, (Array.getElem?_eq_some_iff.1 hg).1, fun i hi => ?_⟩
      have : cur.toList[i]? = some (.int k (bs.getD i 0)) := by
        have h2 := congrArg (·[i]?) hc4
        simp only [Nat.mul_one] at h2
        rw [List.getElem?_take, if_pos hi] at h2
        rw [h2, List.getElem?_map, List.getElem?_eq_getElem (by omega), List.getD_eq_getElem?_getD, List.getElem?_eq_getElem (by omega)]
        rfl
      rw [Array.getElem?_toList] at this
      simp [World.cell?, hg, this]

/-- What lies below stays, where a slice of the call's own is appended to. -/
theorem below_append {base : Nat} {e : TypeId} {W w1 w2 : World} {u : Value} {k : Nat} {ys : List Value} {tmp : Obj} (hB : Below base W w1) (hrow : w1.ownsRow base e 1 u k ys) (hbase : base ≤ w1.heap.size) (hgrow : (w1.alloc tmp).grownBy w2 u.ownBlock) : Below base W w2 := by
  refine (hB.alloc hbase tmp).grown hgrow (by simp; omega) fun j ej => ?_
  rcases hrow.2 with ⟨rfl, _⟩ | ⟨g, cap, cur, rfl, hb, _, _⟩
  · simp [Value.ownBlock] at ej
  · obtain rfl : g = j := by simpa [Value.ownBlock] using ej
    exact hb

set_option maxRecDepth 100000 in
set_option maxHeartbeats 1000000 in
/-- mark.List. -/
theorem list_calls (s : Int) (w : World) :
    Calls Try.prog 6 #[.int .i64 s] w fun e w' => ∃ a cap, e = .returned (.slice a (marks s 3).length cap) ∧ Row .i64 w' a (marks s 3).length (marks s 3) ∧ Below w.heap.size w w' := by
  obtain ⟨i0, hi, hz0, hz1, hz2⟩ := info_parts info3
  go_enter Try.func6, Try.ntmps6
  go_wp2
  go_loopw [3, 4] (fun u m w' => ∃ k : Nat, k ≤ 3 ∧ m = .int .i64 (markAt k) ∧ w'.ownsRow w.heap.size 3 1 u (marks s k).length ((marks s k).map (Value.int .i64)) ∧ Below w.heap.size w w') (fun _ m _ => 8 - (intOf m).toNat)
  case atStart => exact ⟨0, by omega, rfl, World.ownsRow_nil _ _ _ _, Below.refl _ _⟩
  case round =>
    obtain ⟨k, hk, rfl, hrow, hB⟩ := hrel
    have hlen := marks_length s k
    rcases (show k = 0 ∨ k = 1 ∨ k = 2 ∨ k = 3 from by omega) with rfl | rfl | rfl | rfl
    · have hc := fun W => has_calls s 1 W
      have hm : marks s 1 = marks s 0 ++ (if has s 1 = true then [1] else []) := rfl
      have HM : Hid (marks s 1 = marks s 0 ++ (if has s 1 = true then [1] else [])) := hm
      clear hm
      rw [show markAt 0 = 1 from rfl] at *
      generalize has s 1 = p at *
      generalize marks s 0 = l at *
      generalize hn : l.length = n at *
      have HN : Hid (l.length = n) := hn
      clear hn
      have HC : Hid (∀ W : World, Calls Try.prog 11 #[.int .i64 s, .int .i64 1] W fun e w' => e = .returned (.bool p) ∧ w' = W) := hc
      clear hc
      cases p
      · go_wp2_with fail
        refine (HC.out _).mono ?_
        rintro e w' ⟨rfl, rfl⟩
        go_wp2
        go_roundw
        case rel => exact ⟨1, by omega, rfl, by rw [HM.out]; simpa [HN.out] using hrow, hB⟩
        case measure => simp [intOf]
      · go_wp2_with fail
        refine (HC.out _).mono ?_
        rintro e w' ⟨rfl, rfl⟩
        go_wp2_with (at_builtin; refine wpList_append_own _ rfl _ _ 22 rfl w.heap.size 3 i0 (.int .i64 0) 1 8 Try.underlying22 hi hz0 hz1 hz2 rfl (by decide) _ _ _ rfl (hrow.alloc _) ⟨w'.heap.size, 0, none⟩ 1 1 [.int .i64 1] rfl rfl (cell_one_new _ _ _) (by simp [Value.oneCell']) (by unfold maxLen; omega) (by omega) (by have := hB.size; simp; omega) ?_; intro v2 w2 hown2 hgrow hnil2)
        go_roundw
        case rel => exact ⟨1, by omega, rfl, by rw [HM.out]; simpa [HN.out] using hown2, below_append hB hrow hB.size hgrow⟩
        case measure => simp [intOf]
    · have hc := fun W => has_calls s 2 W
      have hm : marks s 2 = marks s 1 ++ (if has s 2 = true then [2] else []) := rfl
      have HM : Hid (marks s 2 = marks s 1 ++ (if has s 2 = true then [2] else [])) := hm
      clear hm
      rw [show markAt 1 = 2 from rfl] at *
      generalize has s 2 = p at *
      generalize marks s 1 = l at *
      generalize hn : l.length = n at *
      have HN : Hid (l.length = n) := hn
      clear hn
      have HC : Hid (∀ W : World, Calls Try.prog 11 #[.int .i64 s, .int .i64 2] W fun e w' => e = .returned (.bool p) ∧ w' = W) := hc
      clear hc
      cases p
      · go_wp2_with fail
        refine (HC.out _).mono ?_
        rintro e w' ⟨rfl, rfl⟩
        go_wp2
        go_roundw
        case rel => exact ⟨2, by omega, rfl, by rw [HM.out]; simpa [HN.out] using hrow, hB⟩
        case measure => simp [intOf]
      · go_wp2_with fail
        refine (HC.out _).mono ?_
        rintro e w' ⟨rfl, rfl⟩
        go_wp2_with (at_builtin; refine wpList_append_own _ rfl _ _ 22 rfl w.heap.size 3 i0 (.int .i64 0) 1 8 Try.underlying22 hi hz0 hz1 hz2 rfl (by decide) _ _ _ rfl (hrow.alloc _) ⟨w'.heap.size, 0, none⟩ 1 1 [.int .i64 2] rfl rfl (cell_one_new _ _ _) (by simp [Value.oneCell']) (by unfold maxLen; omega) (by omega) (by have := hB.size; simp; omega) ?_; intro v2 w2 hown2 hgrow hnil2)
        go_roundw
        case rel => exact ⟨2, by omega, rfl, by rw [HM.out]; simpa [HN.out] using hown2, below_append hB hrow hB.size hgrow⟩
        case measure => simp [intOf]
    · have hc := fun W => has_calls s 4 W
      have hm : marks s 3 = marks s 2 ++ (if has s 4 = true then [4] else []) := rfl
      have HM : Hid (marks s 3 = marks s 2 ++ (if has s 4 = true then [4] else [])) := hm
      clear hm
      rw [show markAt 2 = 4 from rfl] at *
      generalize has s 4 = p at *
      generalize marks s 2 = l at *
      generalize hn : l.length = n at *
      have HN : Hid (l.length = n) := hn
      clear hn
      have HC : Hid (∀ W : World, Calls Try.prog 11 #[.int .i64 s, .int .i64 4] W fun e w' => e = .returned (.bool p) ∧ w' = W) := hc
      clear hc
      cases p
      · go_wp2_with fail
        refine (HC.out _).mono ?_
        rintro e w' ⟨rfl, rfl⟩
        go_wp2
        go_roundw
        case rel => exact ⟨3, by omega, rfl, by rw [HM.out]; simpa [HN.out] using hrow, hB⟩
        case measure => simp [intOf]
      · go_wp2_with fail
        refine (HC.out _).mono ?_
        rintro e w' ⟨rfl, rfl⟩
        go_wp2_with (at_builtin; refine wpList_append_own _ rfl _ _ 22 rfl w.heap.size 3 i0 (.int .i64 0) 1 8 Try.underlying22 hi hz0 hz1 hz2 rfl (by decide) _ _ _ rfl (hrow.alloc _) ⟨w'.heap.size, 0, none⟩ 1 1 [.int .i64 4] rfl rfl (cell_one_new _ _ _) (by simp [Value.oneCell']) (by unfold maxLen; omega) (by omega) (by have := hB.size; simp; omega) ?_; intro v2 w2 hown2 hgrow hnil2)
        go_roundw
        case rel => exact ⟨3, by omega, rfl, by rw [HM.out]; simpa [HN.out] using hown2, below_append hB hrow hB.size hgrow⟩
        case measure => simp [intOf]
    · rw [show markAt 3 = 8 from rfl] at *
      obtain ⟨a, cap, hu, hr⟩ := row_of_owns hrow
      generalize hn : (marks s 3).length = n at hu hr
      have HN : Hid ((marks s 3).length = n) := hn
      clear hn hrow hlen
      subst hu
      go_wp2
      go_ret
      exact ⟨a, cap, by rw [HN.out]; rfl, by rw [HN.out]; exact hr, hB⟩

set_option maxRecDepth 100000 in
set_option maxHeartbeats 1000000 in
/-- emenderref03.List. -/
theorem refList_calls (s : Int) (w : World) :
    Calls Try.prog 7 #[.int .i64 s] w fun e w' => ∃ a cap, e = .returned (.slice a (marks s 3).length cap) ∧ Row .i64 w' a (marks s 3).length (marks s 3) ∧ Below w.heap.size w w' := by
  obtain ⟨i0, hi, hz0, hz1, hz2⟩ := info_parts info3
  go_enter Try.func7, Try.ntmps7
  go_wp2
  go_loopw [3, 4] (fun u m w' => ∃ k : Nat, k ≤ 3 ∧ m = .int .i64 (markAt k) ∧ w'.ownsRow w.heap.size 3 1 u (marks s k).length ((marks s k).map (Value.int .i64)) ∧ Below w.heap.size w w') (fun _ m _ => 8 - (intOf m).toNat)
  case atStart => exact ⟨0, by omega, rfl, World.ownsRow_nil _ _ _ _, Below.refl _ _⟩
  case round =>
    obtain ⟨k, hk, rfl, hrow, hB⟩ := hrel
    have hlen := marks_length s k
    rcases (show k = 0 ∨ k = 1 ∨ k = 2 ∨ k = 3 from by omega) with rfl | rfl | rfl | rfl
    · have hc := fun W => refHas_calls s 1 W
      have hm : marks s 1 = marks s 0 ++ (if has s 1 = true then [1] else []) := rfl
      have HM : Hid (marks s 1 = marks s 0 ++ (if has s 1 = true then [1] else [])) := hm
      clear hm
      rw [show markAt 0 = 1 from rfl] at *
      generalize has s 1 = p at *
      generalize marks s 0 = l at *
      generalize hn : l.length = n at *
      have HN : Hid (l.length = n) := hn
      clear hn
      have HC : Hid (∀ W : World, Calls Try.prog 13 #[.int .i64 s, .int .i64 1] W fun e w' => e = .returned (.bool p) ∧ w' = W) := hc
      clear hc
      cases p
      · go_wp2_with fail
        refine (HC.out _).mono ?_
        rintro e w' ⟨rfl, rfl⟩
        go_wp2
        go_roundw
        case rel => exact ⟨1, by omega, rfl, by rw [HM.out]; simpa [HN.out] using hrow, hB⟩
        case measure => simp [intOf]
      · go_wp2_with fail
        refine (HC.out _).mono ?_
        rintro e w' ⟨rfl, rfl⟩
        go_wp2_with (at_builtin; refine wpList_append_own _ rfl _ _ 22 rfl w.heap.size 3 i0 (.int .i64 0) 1 8 Try.underlying22 hi hz0 hz1 hz2 rfl (by decide) _ _ _ rfl (hrow.alloc _) ⟨w'.heap.size, 0, none⟩ 1 1 [.int .i64 1] rfl rfl (cell_one_new _ _ _) (by simp [Value.oneCell']) (by unfold maxLen; omega) (by omega) (by have := hB.size; simp; omega) ?_; intro v2 w2 hown2 hgrow hnil2)
        go_roundw
        case rel => exact ⟨1, by omega, rfl, by rw [HM.out]; simpa [HN.out] using hown2, below_append hB hrow hB.size hgrow⟩
        case measure => simp [intOf]
    · have hc := fun W => refHas_calls s 2 W
      have hm : marks s 2 = marks s 1 ++ (if has s 2 = true then [2] else []) := rfl
      have HM : Hid (marks s 2 = marks s 1 ++ (if has s 2 = true then [2] else [])) := hm
      clear hm
      rw [show markAt 1 = 2 from rfl] at *
      generalize has s 2 = p at *
      generalize marks s 1 = l at *
      generalize hn : l.length = n at *
      have HN : Hid (l.length = n) := hn
      clear hn
      have HC : Hid (∀ W : World, Calls Try.prog 13 #[.int .i64 s, .int .i64 2] W fun e w' => e = .returned (.bool p) ∧ w' = W) := hc
      clear hc
      cases p
      · go_wp2_with fail
        refine (HC.out _).mono ?_
        rintro e w' ⟨rfl, rfl⟩
        go_wp2
        go_roundw
        case rel => exact ⟨2, by omega, rfl, by rw [HM.out]; simpa [HN.out] using hrow, hB⟩
        case measure => simp [intOf]
      · go_wp2_with fail
        refine (HC.out _).mono ?_
        rintro e w' ⟨rfl, rfl⟩
        go_wp2_with (at_builtin; refine wpList_append_own _ rfl _ _ 22 rfl w.heap.size 3 i0 (.int .i64 0) 1 8 Try.underlying22 hi hz0 hz1 hz2 rfl (by decide) _ _ _ rfl (hrow.alloc _) ⟨w'.heap.size, 0, none⟩ 1 1 [.int .i64 2] rfl rfl (cell_one_new _ _ _) (by simp [Value.oneCell']) (by unfold maxLen; omega) (by omega) (by have := hB.size; simp; omega) ?_; intro v2 w2 hown2 hgrow hnil2)
        go_roundw
        case rel => exact ⟨2, by omega, rfl, by rw [HM.out]; simpa [HN.out] using hown2, below_append hB hrow hB.size hgrow⟩
        case measure => simp [intOf]
    · have hc := fun W => refHas_calls s 4 W
      have hm : marks s 3 = marks s 2 ++ (if has s 4 = true then [4] else []) := rfl
      have HM : Hid (marks s 3 = marks s 2 ++ (if has s 4 = true then [4] else [])) := hm
      clear hm
      rw [show markAt 2 = 4 from rfl] at *
      generalize has s 4 = p at *
      generalize marks s 2 = l at *
      generalize hn : l.length = n at *
      have HN : Hid (l.length = n) := hn
      clear hn
      have HC : Hid (∀ W : World, Calls Try.prog 13 #[.int .i64 s, .int .i64 4] W fun e w' => e = .returned (.bool p) ∧ w' = W) := hc
      clear hc
      cases p
      · go_wp2_with fail
        refine (HC.out _).mono ?_
        rintro e w' ⟨rfl, rfl⟩
        go_wp2
        go_roundw
        case rel => exact ⟨3, by omega, rfl, by rw [HM.out]; simpa [HN.out] using hrow, hB⟩
        case measure => simp [intOf]
      · go_wp2_with fail
        refine (HC.out _).mono ?_
        rintro e w' ⟨rfl, rfl⟩
        go_wp2_with (at_builtin; refine wpList_append_own _ rfl _ _ 22 rfl w.heap.size 3 i0 (.int .i64 0) 1 8 Try.underlying22 hi hz0 hz1 hz2 rfl (by decide) _ _ _ rfl (hrow.alloc _) ⟨w'.heap.size, 0, none⟩ 1 1 [.int .i64 4] rfl rfl (cell_one_new _ _ _) (by simp [Value.oneCell']) (by unfold maxLen; omega) (by omega) (by have := hB.size; simp; omega) ?_; intro v2 w2 hown2 hgrow hnil2)
        go_roundw
        case rel => exact ⟨3, by omega, rfl, by rw [HM.out]; simpa [HN.out] using hown2, below_append hB hrow hB.size hgrow⟩
        case measure => simp [intOf]
    · rw [show markAt 3 = 8 from rfl] at *
      obtain ⟨a, cap, hu, hr⟩ := row_of_owns hrow
      generalize hn : (marks s 3).length = n at hu hr
      have HN : Hid ((marks s 3).length = n) := hn
      clear hn hrow hlen
      subst hu
      go_wp2
      go_ret
      exact ⟨a, cap, by rw [HN.out]; rfl, by rw [HN.out]; exact hr, hB⟩

end Go.Proofs.Yteplmpafebeklaa
