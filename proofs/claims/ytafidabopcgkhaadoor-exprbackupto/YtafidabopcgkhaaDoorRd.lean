/-
  PROVED HERE: expr's reader: peek, pass, refuse, isLetter, passBar, atPart, nameLen at every text and place: what they return and leave; nothing else is turned.
-/
import Derived.Test.YtafidabopcgkhaaDoorKept
namespace Go.Proofs.YtafidabopcgkhaaDoor
open Go.RowKit

/-- A text that is read, and the place. -/
def RAt (w : World) (g : Nat) (s : ByteArray) (i : Nat) : Prop := w.heap[g]? = some (.cells #[.string s, .int .i64 (i : Int)] 67 (0, 0))
theorem RAt.cells {w : World} {g : Nat} {s : ByteArray} {i : Nat} (h : RAt w g s i) : w.cell? ⟨g, 0, none⟩ = some (.string s) ∧ w.cell? ⟨g, 1, none⟩ = some (.int .i64 (i : Int)) ∧ w.frozen? ⟨g, 1, none⟩ = false := by
  have hc := fun j => cell_of_row w g j _ _ _ h
  refine ⟨hc 0, hc 1, ?_⟩
  simp [World.frozen?, show w.heap[g]? = _ from h]
theorem RAt.lt {w : World} {g : Nat} {s : ByteArray} {i : Nat} (h : RAt w g s i) : g < w.heap.size := (Array.getElem?_eq_some_iff.1 h).1
theorem RAt.next {w : World} {g : Nat} {s : ByteArray} {i : Nat} (h : RAt w g s i) (j : Nat) : RAt (w.setCell ⟨g, 1, none⟩ (.int .i64 (j : Int))) g s j := heap_setCell_same w g 1 _ _ _ h
/-- In a later world that keeps what lay. -/
theorem RAt.below {w w' : World} {g : Nat} {s : ByteArray} {i : Nat} (h : RAt w g s i) (hB : Below w.heap.size w w') : RAt w' g s i := (hB.block g h.lt).trans h
/-- What stands at a place; 0 at the end. -/
def pk (s : ByteArray) (i : Nat) : Int := if i = s.size then 0 else (byteAt s i : Int)
theorem pk_end (s : ByteArray) : pk s s.size = 0 := by unfold pk; rw [if_pos rfl]
theorem pk_at {s : ByteArray} {i : Nat} (h : i < s.size) : pk s i = ((s[i]'h).toNat : Int) := by
  unfold pk
  rw [if_neg (by omega), byteAt_get s i h]
theorem pk_range {s : ByteArray} {i : Nat} (h : i ≤ s.size) : 0 ≤ pk s i ∧ pk s i < 256 := by
  rcases Nat.lt_or_ge i s.size with h1 | h1
  · rw [pk_at h1]
    have := (s[i]'h1).toNat_lt
    omega
  · obtain rfl : i = s.size := by omega
    rw [pk_end]
    omega
set_option maxRecDepth 100000 in
set_option maxHeartbeats 2000000 in
theorem rpeek_calls (g : Nat) (s : ByteArray) (i : Nat) (w : World) (hP : RAt w g s i) (hi : i ≤ s.size) (_hs : s.size ≤ 1152921504606846976) :
    Calls Tryd.prog 54 #[.pointer (some ⟨g, 0, none⟩)] w fun r w' => r = .returned (.int .u8 (pk s i)) ∧ RAt w' g s i ∧ Only g w w' := by
  obtain ⟨c0, c1, f1⟩ := hP.cells
  have HP : Hid (∀ q, RAt (w.drewN q) g s i) := fun q => hP
  have HO : Hid (∀ q, Only g w (w.drewN q)) := fun q => (Only.refl g w).drewN q
  clear hP
  rcases Nat.lt_or_ge i s.size with h1 | h1
  · have hp := pk_at h1
    have HC : Hid (pk s i = ((s[i]'h1).toNat : Int)) := hp
    generalize pk s i = C at *
    have ne : ((i : Int) == (s.size : Int)) = false := by rw [beq_eq_false_iff_ne]; omega
    clear hp
    go_enter Tryd.func54, Tryd.ntmps54
    go_wp2_with fail
    go_quiet (fail)
    go_wp2_with fail
    go_quiet (fail)
    go_wp2
    go_ret
    exact ⟨by rw [HC.out]; rfl, HP.out 0, (HO.out _).drewN _⟩
  · obtain rfl : i = s.size := by omega
    rw [pk_end]
    go_enter Tryd.func54, Tryd.ntmps54
    go_wp2_with fail
    go_quiet (fail)
    go_wp2
    go_ret
    exact ⟨rfl, HP.out _, HO.out _⟩
theorem Only.trans {g : Nat} {w w' w'' : World} (h : Only g w w') (h' : Only g w' w'') : Only g w w'' :=
  ⟨h'.os.trans h.os, h'.tape.trans h.tape, h'.output.trans h.output, h'.size.trans h.size, fun k hk => (h'.block k hk).trans (h.block k hk)⟩
set_option maxRecDepth 100000 in
set_option maxHeartbeats 2000000 in
theorem pass_calls (g : Nat) (s : ByteArray) (i n : Nat) (w : World) (hP : RAt w g s i) (hi : i + n ≤ s.size) (hs : s.size ≤ 1152921504606846976) :
    Calls Tryd.prog 42 #[.pointer (some ⟨g, 0, none⟩), .int .i64 (n : Int)] w fun r w' => r = .returned (.tuple #[]) ∧ RAt w' g s (skip s (i + n)) ∧ Only g w w' := by
  obtain ⟨T, hT⟩ : ∃ T, skip s (i + n) = T := ⟨_, rfl⟩
  rw [hT]
  have HT : Hid (skip s (i + n) = T) := hT
  clear hT
  obtain ⟨c0, c1, f1⟩ := hP.cells
  have HP : Hid (RAt (w.setCell ⟨g, 1, none⟩ (.int .i64 ((i : Int) + (n : Int)))) g s (i + n)) := by
    have := hP.next (i + n)
    rwa [Int.natCast_add] at this
  have HO : Hid (Only g w (w.setCell ⟨g, 1, none⟩ (.int .i64 ((i : Int) + (n : Int))))) := (Only.refl g w).setCell 1 _
  clear hP
  go_enter Tryd.func42, Tryd.ntmps42
  go_wp2
  go_loopg [] (s.size + 1) (fun f w' => ∃ j : Nat, j ≤ s.size ∧ s.size + 1 ≤ j + f ∧ skip s j = T ∧ RAt w' g s j ∧ Only g w w')
  case atStart => exact ⟨i + n, hi, by omega, HT.out, HP.out, HO.out⟩
  case round =>
    obtain ⟨j, hj, hf, hsk, hPj, hO⟩ := hrel
    clear HT HP HO c0 c1 f1
    have hpk := rpeek_calls g s j wr hPj hj hs
    by_cases hlt : j < s.size
    · have hb := byteAt_get s j hlt
      by_cases h32 : byteAt s j = 32
      · have HS : Hid (skip s (j + 1) = T) := by show _ = _; rw [← skip_step hlt h32]; exact hsk
        have hv : pk s j = 32 := by rw [pk_at hlt, hb, h32]; rfl
        rw [hv] at hpk
        have HK : Hid (Calls Tryd.prog 54 #[.pointer (some ⟨g, 0, none⟩)] wr fun r w' => r = .returned (.int .u8 32) ∧ RAt w' g s j ∧ Only g wr w') := hpk
        clear hb hsk hPj hpk hv
        go_wp2_with fail
        refine HK.out.mono ?_
        rintro e W ⟨rfl, hPW, hOW⟩
        obtain ⟨c0, c1, f1⟩ := hPW.cells
        have HN : Hid (RAt (W.setCell ⟨g, 1, none⟩ (.int .i64 ((j : Int) + 1))) g s (j + 1)) := hPW.next (j + 1)
        have HO2 : Hid (Only g w (W.setCell ⟨g, 1, none⟩ (.int .i64 ((j : Int) + 1)))) := (hO.trans hOW).setCell 1 _
        clear hPW hOW HK
        go_wp2
        go_roundg (gk - 1)
        case measure => omega
        case rel => exact ⟨j + 1, by omega, by omega, HS.out, HN.out, HO2.out⟩
      · have hT := hsk
        rw [skip_stay hlt h32] at hT
        subst hT
        have hv : pk s j ≠ 32 := by rw [pk_at hlt, hb]; omega
        have HK : Hid (Calls Tryd.prog 54 #[.pointer (some ⟨g, 0, none⟩)] wr fun r w' => r = .returned (.int .u8 (pk s j)) ∧ RAt w' g s j ∧ Only g wr w') := hpk
        generalize pk s j = C at *
        have hv1 : (C == 32) = false := by rw [beq_eq_false_iff_ne]; omega
        clear hb hsk hPj hpk
        go_wp2_with fail
        refine HK.out.mono ?_
        rintro e W ⟨rfl, hPW, hOW⟩
        go_wp2
        go_end0
        exact ⟨rfl, hPW, hO.trans hOW⟩
    · obtain rfl : j = s.size := by omega
      have hT := hsk
      rw [skip_end] at hT
      subst hT
      rw [pk_end] at hpk
      have HK : Hid (Calls Tryd.prog 54 #[.pointer (some ⟨g, 0, none⟩)] wr fun r w' => r = .returned (.int .u8 0) ∧ RAt w' g s s.size ∧ Only g wr w') := hpk
      clear hsk hPj hpk
      go_wp2_with fail
      refine HK.out.mono ?_
      rintro e W ⟨rfl, hPW, hOW⟩
      go_wp2
      go_end0
      exact ⟨rfl, hPW, hO.trans hOW⟩
/-- A refusal at a place. -/
def refV (i : Nat) (n : Int) : Value := .iface 65 (.agg #[.int .i64 (i : Int), .iface 25 (.int .i64 n)])
set_option maxRecDepth 100000 in
set_option maxHeartbeats 2000000 in
theorem refuse_calls (g : Nat) (s : ByteArray) (i : Nat) (w : World) (hP : RAt w g s i) :
    Calls Tryd.prog 44 #[.pointer (some ⟨g, 0, none⟩)] w fun r w' => r = .returned (refV i 4) ∧ w' = w := by
  obtain ⟨c0, c1, f1⟩ := hP.cells
  go_enter Tryd.func44, Tryd.ntmps44
  go_wp2
  go_ret
  exact ⟨rfl, rfl⟩
def lett (c : Int) : Bool := decide (97 ≤ c) && decide (c ≤ 122)
set_option maxRecDepth 100000 in
set_option maxHeartbeats 2000000 in
theorem isletter_calls (c : Int) (w : World) : Calls Tryd.prog 63 #[.int .u8 c] w fun r w' => r = .returned (.bool (lett c)) ∧ w' = w := by
  unfold lett
  by_cases h1 : 97 ≤ c
  · go_enter Tryd.func63, Tryd.ntmps63
    go_wp2
    go_ret
    exact ⟨by first | rfl | simp [h1], rfl⟩
  · have h2 : decide (97 ≤ c) = false := by simpa using h1
    go_enter Tryd.func63, Tryd.ntmps63
    go_wp2
    go_ret
    exact ⟨by first | rfl | simp [h1], rfl⟩
set_option maxRecDepth 100000 in
set_option maxHeartbeats 2000000 in
theorem passbar_calls (g : Nat) (s : ByteArray) (i : Nat) (w : World) (hP : RAt w g s i) (hi : i ≤ s.size) (hs : s.size ≤ 1152921504606846976) :
    Calls Tryd.prog 57 #[.pointer (some ⟨g, 0, none⟩)] w fun r w' => Only g w w' ∧ ((pk s i = 124 ∧ r = .returned (.bool true) ∧ RAt w' g s (skip s (i + 1))) ∨ (pk s i ≠ 124 ∧ r = .returned (.bool false) ∧ RAt w' g s i)) := by
  have hpk := rpeek_calls g s i w hP hi hs
  by_cases hc : pk s i = 124
  · have hlt : i < s.size := by
      rcases Nat.lt_or_ge i s.size with h | h
      · exact h
      · obtain rfl : i = s.size := by omega
        rw [pk_end] at hc
        cases hc
    rw [hc] at hpk ⊢
    have HK : Hid (Calls Tryd.prog 54 #[.pointer (some ⟨g, 0, none⟩)] w fun r w' => r = .returned (.int .u8 124) ∧ RAt w' g s i ∧ Only g w w') := hpk
    have HP : Hid (∀ W, RAt W g s i → Calls Tryd.prog 42 #[.pointer (some ⟨g, 0, none⟩), .int .i64 1] W fun r w' => r = .returned (.tuple #[]) ∧ RAt w' g s (skip s (i + 1)) ∧ Only g W w') := fun W h => pass_calls g s i 1 W h (by omega) hs
    clear hpk hc hP
    go_enter Tryd.func57, Tryd.ntmps57
    go_wp2_with fail
    refine HK.out.mono ?_
    rintro e W ⟨rfl, hPW, hOW⟩
    go_wp2_with fail
    refine (HP.out W hPW).mono ?_
    rintro e W2 ⟨rfl, hPW2, hOW2⟩
    go_wp2
    go_ret
    exact ⟨hOW.trans hOW2, .inl ⟨trivial, rfl, hPW2⟩⟩
  · have HK : Hid (Calls Tryd.prog 54 #[.pointer (some ⟨g, 0, none⟩)] w fun r w' => r = .returned (.int .u8 (pk s i)) ∧ RAt w' g s i ∧ Only g w w') := hpk
    generalize pk s i = C at *
    have e1 : (C == 124) = false := by rw [beq_eq_false_iff_ne]; exact hc
    have e2 : (C != 124) = true := by rw [bne_iff_ne]; exact hc
    have HC : Hid (C ≠ 124) := hc
    clear hpk hc hP
    go_enter Tryd.func57, Tryd.ntmps57
    go_wp2_with fail
    refine HK.out.mono ?_
    rintro e W ⟨rfl, hPW, hOW⟩
    go_wp2
    go_ret
    exact ⟨hOW, .inr ⟨HC.out, rfl, hPW⟩⟩
set_option maxRecDepth 100000 in
set_option maxHeartbeats 2000000 in
theorem atpart_calls (g : Nat) (s : ByteArray) (i : Nat) (w : World) (hP : RAt w g s i) (hi : i ≤ s.size) (hs : s.size ≤ 1152921504606846976) :
    Calls Tryd.prog 65 #[.pointer (some ⟨g, 0, none⟩)] w fun r w' => r = .returned (.bool (lett (pk s i) || pk s i == 40)) ∧ RAt w' g s i ∧ Only g w w' := by
  have HK : Hid (∀ W, RAt W g s i → Calls Tryd.prog 54 #[.pointer (some ⟨g, 0, none⟩)] W fun r w' => r = .returned (.int .u8 (pk s i)) ∧ RAt w' g s i ∧ Only g W w') := fun W h => rpeek_calls g s i W h hi hs
  have HL : Hid (∀ c W, Calls Tryd.prog 63 #[.int .u8 c] W fun r w' => r = .returned (.bool (lett c)) ∧ w' = W) := fun c W => isletter_calls c W
  have HP : Hid (RAt w g s i) := hP
  generalize pk s i = C at *
  obtain ⟨b, hb⟩ : ∃ b, lett C = b := ⟨_, rfl⟩
  clear hP
  cases b with
  | true =>
    rw [hb]
    go_enter Tryd.func65, Tryd.ntmps65
    go_wp2_with fail
    refine (HK.out w HP.out).mono ?_
    rintro e W ⟨rfl, hPW, hOW⟩
    go_wp2_with fail
    refine (HL.out C W).mono ?_
    rintro e W' ⟨rfl, hW⟩
    subst hW
    rw [hb]
    go_wp2
    go_ret
    exact ⟨rfl, hPW, hOW⟩
  | false =>
    rw [hb]
    go_enter Tryd.func65, Tryd.ntmps65
    go_wp2_with fail
    refine (HK.out w HP.out).mono ?_
    rintro e W ⟨rfl, hPW, hOW⟩
    go_wp2_with fail
    refine (HL.out C W).mono ?_
    rintro e W' ⟨rfl, hW⟩
    subst hW
    rw [hb]
    go_wp2_with fail
    refine (HK.out _ hPW).mono ?_
    rintro e W2 ⟨rfl, hPW2, hOW2⟩
    go_wp2
    go_ret
    exact ⟨rfl, hPW2, hOW.trans hOW2⟩
end Go.Proofs.YtafidabopcgkhaaDoor
