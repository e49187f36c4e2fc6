/-
  PROVED HERE: what leave, Sync, Cut, Append do to a disk.
-/
import Derived.Test.YtgbpfbpfoobhhaaDOwn
import Derived.Deep.QuietTactic
import Derived.BigQuiet
namespace Go.Proofs.Ytgbpfbpfoobhhaa
open Go.RowKit

/-- What a call leaves of a disk: other bytes, as many of them sure. -/
def Done (w w' : World) (base b : Nat) (v : Value) (bs : List Int) (s m : Int) : Prop := ∃ v', Dk w' base b v' bs s m ∧ But (Dm b v) w w' ∧ Nw w v v'

theorem Done.same {w : World} {base b : Nat} {v : Value} {bs : List Int} {s m : Int} (h : Dk w base b v bs s m) : Done w w base b v bs s m := ⟨v, h, But.refl _ _, fun _ e => .inl e⟩

theorem dk_cut {w : World} {base b : Nat} {a : Option Addr} {cap : Nat} {bs : List Int} {s m : Int} (h : Dk w base b (.slice a bs.length cap) bs s m) (n : Nat) (hn : n ≤ bs.length) :
    Done w ((w.setCell ⟨b, 0, none⟩ (.slice a n cap)).setCell ⟨b, 1, none⟩ (.int .i64 (n : Int))) base b (.slice a bs.length cap) (bs.take n) (n : Int) m := by
  have e1 := heap_setCell_row w b 0 _ _ (.slice a n cap) h.blk
  have e2 := heap_setCell_row _ b 1 _ _ (.int .i64 (n : Int)) e1
  have hl : (bs.take n).length = n := by rw [List.length_take]; omega
  have hne := h.own_ne
  have hm0 := h.m0
  refine ⟨.slice a n cap, ⟨by rw [e2]; rfl, ?_, h.ge, fun c hc => h.byt c (List.mem_of_mem_take hc), by omega, by omega, by omega, h.m1⟩, ?_, fun k e => .inl (by cases a with | none => exact absurd e (by simp [Value.ownBlock]) | some p => simpa [Value.ownBlock] using e)⟩
  · rw [hl]
    refine owns_later (owns_take h.own n hn) (fun k e => ?_)
    have hk : k ≠ b := by
      rintro rfl
      apply hne
      cases a with
      | none => exact absurd e (by simp [Value.ownBlock])
      | some p => simpa [Value.ownBlock] using e
    rw [Below.heap_setCell _ _ _ _ hk, Below.heap_setCell _ _ _ _ hk]
  · exact (But.setCell _ w ⟨b, 0, none⟩ _ (.inl rfl)).trans (But.setCell _ _ ⟨b, 1, none⟩ _ (.inl rfl)) (fun _ _ e => e)

set_option maxRecDepth 100000 in
set_option maxHeartbeats 1000000 in
theorem leave_calls (base b : Nat) (v : Value) (bs : List Int) (s m : Int) (n : Nat) (w : World) (h : Dk w base b v bs s m) (hn : n ≤ bs.length) :
    Calls Try.prog 23 #[.pointer (some ⟨b, 0, none⟩), .int .i64 (n : Int)] w fun e w' => e = .returned (.tuple #[]) ∧ Done w w' base b v (bs.take n) (n : Int) m := by
  have c0 := h.cell0
  have c1 := h.cell1
  have f0 := h.frozen 0
  have f1 := h.frozen 1
  have hm0 := h.m0
  have hm1 := h.m1
  obtain ⟨a, cap, rfl, hcap, hcm, _, _⟩ := h.row
  have HD := hide_ (dk_cut h n hn)
  have hcm' : cap ≤ 9223372036854775807 := by unfold maxLen at hcm; omega
  have hnc : n ≤ cap := by omega
  clear h hcm hcap
  generalize bs.take n = X at *
  generalize bs.length = len at *
  go_enter Try.func23, Try.ntmps23
  go_wp2
  go_end0
  exact ⟨rfl, HD.out⟩
theorem Done.to {w w' : World} {base b : Nat} {v : Value} {bs bs' : List Int} {s s' m : Int} (h : Done w w' base b v bs s m) (e : bs = bs') (es : s = s') : Done w w' base b v bs' s' m := by
  subst e es
  exact h

set_option maxRecDepth 100000 in
set_option maxHeartbeats 1000000 in
theorem sync_calls (base b : Nat) (v : Value) (bs : List Int) (s m : Int) (w : World) (h : Dk w base b v bs s m) :
    Calls Try.prog 13 #[.pointer (some ⟨b, 0, none⟩)] w fun e w' => e = .returned (.int .i64 0) ∧ Done w w' base b v bs (bs.length : Int) m := by
  have HM := hide_ (made_calls b true w h.cell3)
  have c0 := h.cell0
  have HL := leave_calls base b v bs s m bs.length w h (Nat.le_refl _)
  rw [List.take_of_length_le (Nat.le_refl _)] at HL
  obtain ⟨a, cap, rfl, hcap, hcm, _, _⟩ := h.row
  have HL' := hide_ HL
  clear h HL
  generalize bs.length = n at *
  go_enter Try.func13, Try.ntmps13
  go_wp2_with fail
  refine HM.out.mono ?_
  rintro e W1 ⟨rfl, rfl⟩
  go_wp2_with fail
  refine HL'.out.mono ?_
  rintro e W2 ⟨rfl, hD⟩
  go_wp2
  go_ret
  exact ⟨rfl, hD⟩

/-- What Cut answers. -/
def cutE (bs : List Int) (n : Int) : Int := if n < 0 ∨ (bs.length : Int) < n then 1 else 0
def cutL (bs : List Int) (n : Int) : List Int := if n < 0 ∨ (bs.length : Int) < n then bs else bs.take n.toNat
def cutS (bs : List Int) (s n : Int) : Int := if n < 0 ∨ (bs.length : Int) < n then s else n

set_option maxRecDepth 100000 in
set_option maxHeartbeats 1000000 in
theorem cut_bad (base b : Nat) (v : Value) (bs : List Int) (s m n : Int) (w : World) (h : Dk w base b v bs s m) (hn : n < 0 ∨ (bs.length : Int) < n) :
    Calls Try.prog 16 #[.pointer (some ⟨b, 0, none⟩), .int .i64 n] w fun e w' => e = .returned (.int .i64 1) ∧ w' = w := by
  have HM := hide_ (made_calls b true w h.cell3)
  have c0 := h.cell0
  obtain ⟨a, cap, rfl, hcap, hcm, _, _⟩ := h.row
  clear h
  generalize bs.length = k at *
  by_cases h0 : n < 0
  · clear hn
    go_enter Try.func16, Try.ntmps16
    go_wp2_with fail
    refine HM.out.mono ?_
    rintro e W1 ⟨rfl, rfl⟩
    go_wp2
    go_ret
    exact ⟨rfl, rfl⟩
  · have h1 : (k : Int) < n := hn.resolve_left h0
    clear hn
    go_enter Try.func16, Try.ntmps16
    go_wp2_with fail
    refine HM.out.mono ?_
    rintro e W1 ⟨rfl, rfl⟩
    go_wp2
    go_ret
    exact ⟨rfl, rfl⟩

set_option maxRecDepth 100000 in
set_option maxHeartbeats 1000000 in
theorem cut_good (base b : Nat) (v : Value) (bs : List Int) (s m : Int) (n : Nat) (w : World) (h : Dk w base b v bs s m) (hn : n ≤ bs.length) :
    Calls Try.prog 16 #[.pointer (some ⟨b, 0, none⟩), .int .i64 (n : Int)] w fun e w' => e = .returned (.int .i64 0) ∧ Done w w' base b v (bs.take n) (n : Int) m := by
  have HM := hide_ (made_calls b true w h.cell3)
  have c0 := h.cell0
  have HL := hide_ (leave_calls base b v bs s m n w h hn)
  obtain ⟨a, cap, rfl, hcap, hcm, _, _⟩ := h.row
  clear h
  generalize bs.take n = X at *
  generalize bs.length = k at *
  have h0 : ¬ ((n : Int) < 0) := by omega
  have h1 : ¬ ((k : Int) < (n : Int)) := by omega
  go_enter Try.func16, Try.ntmps16
  go_wp2_with fail
  refine HM.out.mono ?_
  rintro e W1 ⟨rfl, rfl⟩
  go_wp2_with fail
  refine HL.out.mono ?_
  rintro e W2 ⟨rfl, hD⟩
  go_wp2
  go_ret
  exact ⟨rfl, hD⟩

theorem cut_calls (base b : Nat) (v : Value) (bs : List Int) (s m n : Int) (w : World) (h : Dk w base b v bs s m) :
    Calls Try.prog 16 #[.pointer (some ⟨b, 0, none⟩), .int .i64 n] w fun e w' => e = .returned (.int .i64 (cutE bs n)) ∧ Done w w' base b v (cutL bs n) (cutS bs s n) m := by
  by_cases hn : n < 0 ∨ (bs.length : Int) < n
  · refine (cut_bad base b v bs s m n w h hn).mono ?_
    rintro e W1 ⟨rfl, rfl⟩
    unfold cutE cutL cutS
    rw [if_pos hn, if_pos hn, if_pos hn]
    exact ⟨rfl, .same h⟩
  · have e : n = (n.toNat : Int) := by omega
    have := cut_good base b v bs s m n.toNat w h (by omega)
    rw [← e] at this
    refine this.mono ?_
    rintro e W1 ⟨rfl, hD⟩
    unfold cutE cutL cutS
    rw [if_neg hn, if_neg hn, if_neg hn]
    exact ⟨rfl, hD⟩

/-- What Append answers. -/
def appE (bs xs : List Int) (m : Int) : Int := if m - (bs.length : Int) < (xs.length : Int) then 12 else 0
def appL (bs xs : List Int) (m : Int) : List Int := if m - (bs.length : Int) < (xs.length : Int) then bs else bs ++ xs
end Go.Proofs.Ytgbpfbpfoobhhaa
