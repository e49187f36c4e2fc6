/-
  PROVED HERE: the document's own peek at every text and place: what it returns and leaves; nothing else is turned.
-/
import Derived.Test.YtafidabopcgkhaaDoorLetters
import Derived.Laws.Rows
import Derived.WalkSmall
import Derived.Deep.LoopGhost
namespace Go.Proofs.YtafidabopcgkhaaDoor
open Go.RowKit

/-- The byte at a place. -/
def byteAt (s : ByteArray) (i : Nat) : Nat := (s.toList.getD i 0).toNat
theorem byteAt_get (s : ByteArray) (i : Nat) (h : i < s.size) : (s[i]'h).toNat = byteAt s i := by
  unfold byteAt
  rw [List.getD_eq_getElem?_getD, toList_at s i h]
  rfl
/-- The next place that holds no blank. -/
def skipF (s : ByteArray) : Nat → Nat → Nat
  | 0, i => i
  | f + 1, i => if byteAt s i = 32 then skipF s f (i + 1) else i
def skip (s : ByteArray) (i : Nat) : Nat := skipF s (s.size - i) i
theorem skip_step {s : ByteArray} {i : Nat} (h : i < s.size) (h1 : byteAt s i = 32) : skip s i = skip s (i + 1) := by
  unfold skip
  rw [show s.size - i = (s.size - (i + 1)) + 1 from by omega, skipF, if_pos h1]
theorem skip_stay {s : ByteArray} {i : Nat} (h : i < s.size) (h1 : byteAt s i ≠ 32) : skip s i = i := by
  unfold skip
  rw [show s.size - i = (s.size - (i + 1)) + 1 from by omega, skipF, if_neg h1]
theorem skip_end (s : ByteArray) : skip s s.size = s.size := by
  unfold skip
  rw [Nat.sub_self]
  rfl
theorem skipF_le (s : ByteArray) (f i : Nat) : i ≤ skipF s f i ∧ skipF s f i ≤ i + f := by
  induction f generalizing i with
  | zero => exact ⟨Nat.le_refl _, Nat.le_refl _⟩
  | succ f ih =>
    rw [skipF]
    split
    · have := ih (i + 1); omega
    · omega
theorem skip_le {s : ByteArray} {i : Nat} (h : i ≤ s.size) : i ≤ skip s i ∧ skip s i ≤ s.size := by
  have := skipF_le s (s.size - i) i
  unfold skip
  omega
def peekC (s : ByteArray) (i : Nat) (e : Bool) : Int := if e = true ∨ i = s.size then 0 else max (byteAt s i : Int) 1
/-- A text that is read. -/
def PAt (w : World) (g : Nat) (s : ByteArray) (i : Nat) (e : Bool) : Prop := w.heap[g]? = some (.cells #[.string s, .int .i64 (i : Int), .bool e] 52 (0, 0))
/-- Nothing but the block g is turned. -/
structure Only (g : Nat) (w w' : World) : Prop where
  os : w'.os = w.os
  tape : w'.tape = w.tape
  output : w'.output = w.output
  size : w'.heap.size = w.heap.size
  block : ∀ k, k ≠ g → w'.heap[k]? = w.heap[k]?
theorem Only.refl (g : Nat) (w : World) : Only g w w := ⟨rfl, rfl, rfl, rfl, fun _ _ => rfl⟩
theorem Only.drewN {g : Nat} {w w' : World} (h : Only g w w') (n : Nat) : Only g w (w'.drewN n) := ⟨h.os, h.tape, h.output, h.size, h.block⟩
theorem Only.setCell {g : Nat} {w w' : World} (h : Only g w w') (j : Nat) (u : Value) : Only g w (w'.setCell ⟨g, j, none⟩ u) := ⟨h.os, h.tape, h.output, by simpa using h.size, fun k hk => (Below.heap_setCell w' _ u k hk).trans (h.block k hk)⟩
theorem PAt.cells {w : World} {g : Nat} {s : ByteArray} {i : Nat} {e : Bool} (h : PAt w g s i e) : w.cell? ⟨g, 0, none⟩ = some (.string s) ∧ w.cell? ⟨g, 1, none⟩ = some (.int .i64 (i : Int)) ∧ w.cell? ⟨g, 2, none⟩ = some (.bool e) ∧ w.frozen? ⟨g, 1, none⟩ = false ∧ w.frozen? ⟨g, 2, none⟩ = false := by
  have hc := fun j => cell_of_row w g j _ _ _ h
  refine ⟨hc 0, hc 1, hc 2, ?_, ?_⟩
  · simp [World.frozen?, show w.heap[g]? = _ from h]
  · simp [World.frozen?, show w.heap[g]? = _ from h]
theorem PAt.next {w : World} {g : Nat} {s : ByteArray} {i : Nat} {e : Bool} (h : PAt w g s i e) (j : Nat) : PAt (w.setCell ⟨g, 1, none⟩ (.int .i64 (j : Int))) g s j e := heap_setCell_same w g 1 _ _ _ h

set_option maxRecDepth 100000 in
set_option maxHeartbeats 2000000 in
theorem peek_calls (g : Nat) (s : ByteArray) (i : Nat) (e : Bool) (w : World) (hP : PAt w g s i e) (hi : i ≤ s.size) (hs : s.size ≤ 1152921504606846976) :
    Calls Tryd.prog 20 #[.pointer (some ⟨g, 0, none⟩)] w fun r w' => r = .returned (.int .u8 (peekC s (skip s i) e)) ∧ PAt w' g s (skip s i) e ∧ Only g w w' := by
  obtain ⟨T, hT⟩ : ∃ T, skip s i = T := ⟨_, rfl⟩
  rw [hT]
  have HT : Hid (skip s i = T) := hT
  obtain ⟨C, hC⟩ : ∃ C, peekC s T e = C := ⟨_, rfl⟩
  rw [hC]
  have HC : Hid (peekC s T e = C) := hC
  clear hT hC
  go_enter Tryd.func20, Tryd.ntmps20
  go_wp2
  go_loopg [] (s.size + 1) (fun f w' => ∃ j : Nat, j ≤ s.size ∧ s.size + 1 ≤ j + f ∧ skip s j = T ∧ PAt w' g s j e ∧ Only g w w')
  case atStart => exact ⟨i, hi, by omega, HT.out, hP, Only.refl _ _⟩
  case round =>
    obtain ⟨j, hj, hf, hsk, hPj, hO⟩ := hrel
    obtain ⟨c0, c1, c2, f1, -⟩ := hPj.cells
    clear HT hP
    by_cases hlt : j < s.size
    · have hb := byteAt_get s j hlt
      have l1 : (j : Int) < (s.size : Int) := by omega
      by_cases h32 : byteAt s j = 32
      · have HS : Hid (skip s (j + 1) = T) := by show _ = _; rw [← skip_step hlt h32]; exact hsk
        have hv : ((s[j]'hlt).toNat : Int) = 32 := by omega
        have HN : Hid (∀ q, PAt ((wr.setCell ⟨g, 1, none⟩ (.int .i64 ((j : Int) + 1))).drewN q) g s (j + 1) e) := fun q => hPj.next (j + 1)
        clear hb hsk hPj
        go_wp2_with fail
        go_quiet (fail)
        go_wp2
        go_roundg (gk - 1)
        case measure => omega
        case rel => exact ⟨j + 1, by omega, by omega, HS.out, HN.out _, (hO.setCell _ _).drewN _⟩
      · have hT := hsk
        rw [skip_stay hlt h32] at hT
        subst hT
        have hv1 : (((s[j]'hlt).toNat : Int) == 32) = false := by rw [beq_eq_false_iff_ne]; omega
        have HD : Hid (PAt wr g s j e) := hPj
        clear hsk hPj
        cases e
        · have hc : C = max (byteAt s j : Int) 1 := by rw [← HC.out]; unfold peekC; rw [if_neg (by simp; omega)]
          have hcc : (((s[j]'hlt).toNat : Int) < 1 ∧ C = 1) ∨ (¬ (((s[j]'hlt).toNat : Int) < 1) ∧ C = ((s[j]'hlt).toNat : Int)) := by rw [hc, hb]; omega
          have ne : ((j : Int) == (s.size : Int)) = false := by rw [beq_eq_false_iff_ne]; omega
          clear hc HC hb
          rcases hcc with ⟨hm, hcc⟩ | ⟨hm, hcc⟩
          all_goals
            have HCc : Hid (C = _) := hcc
            clear hcc
            go_wp2_with fail
            go_quiet (fail)
            go_wp2_with fail
            go_quiet (fail)
            go_wp2_with fail
            go_quiet (fail)
            go_wp2
            go_ret
            exact ⟨by rw [HCc.out]; rfl, HD.out, ⟨hO.os, hO.tape, hO.output, hO.size, hO.block⟩⟩
        · have HCc : Hid (C = 0) := by show C = 0; rw [← HC.out]; unfold peekC; rw [if_pos (.inl rfl)]
          clear HC hb
          go_wp2_with fail
          go_quiet (fail)
          go_wp2_with fail
          go_quiet (fail)
          go_wp2
          go_ret
          exact ⟨by rw [HCc.out]; rfl, HD.out, ⟨hO.os, hO.tape, hO.output, hO.size, hO.block⟩⟩
    · obtain rfl : j = s.size := by omega
      have hT := hsk
      rw [skip_end] at hT
      subst hT
      have HD : Hid (PAt wr g s s.size e) := hPj
      have HCc : Hid (C = 0) := by show C = 0; rw [← HC.out]; unfold peekC; rw [if_pos (.inr rfl)]
      have l1 : decide ((s.size : Int) < (s.size : Int)) = false := by simp
      clear hsk hPj HC
      cases e
      all_goals
        go_wp2_with fail
        go_quiet (fail)
        go_wp2_with fail
        go_quiet (fail)
        go_wp2
        go_ret
        exact ⟨by rw [HCc.out]; rfl, HD.out, ⟨hO.os, hO.tape, hO.output, hO.size, hO.block⟩⟩
end Go.Proofs.YtafidabopcgkhaaDoor
