/-
  PROVED HERE: strings.SplitN at five words with a blank between, at every text: one block of its own with the words.
-/
import Derived.Test.YtmkcdkfjomaidaaDoorSBase
import Derived.Lib.SplitLaws
import Derived.Deep.OwnRows
import Derived.Deep.LoopGhost
namespace Go.Proofs.YtmkcdkfjomaidaaDoor
open Go.RowKit

/-- How many words there is room for. -/
def room (s : ByteArray) : Nat := min 5 (s.size + 1)
/-- The words of a line: five at most, the last one is what is left. -/
def five (s : ByteArray) : List ByteArray := Lib.splitB ⟨#[32]⟩ 0 (room s - 1) s

theorem info_str : (Tryd.prog.info? 9).map (fun i => (i.zero, i.size, i.bytes)) = some (some (.string ByteArray.empty), 1, 16) := by kernel_rfl

theorem index_blank : ∀ l : List UInt8, Lib.index l [32] = Lib.indexByte l 32
  | [] => rfl
  | b :: l => by
    have ih := index_blank l
    unfold Lib.indexByte
    by_cases h : (b == 32) = true
    · rw [if_pos h]
      obtain rfl : b = 32 := by simpa using h
      exact Lib.index_first (i := 0) (Nat.zero_le _) (by simp [Lib.occAt]) (fun _ h => absurd h (Nat.not_lt_zero _))
    · rw [if_neg h, ← ih, Lib.index]
      have h' : (32 == b) = false := by
        rw [beq_eq_false_iff_ne]
        intro e
        exact h (by rw [← e]; rfl)
      have h2 : ¬ (32 = b) := by simpa using h'
      simp [h2]
theorem indexB_blank (s : ByteArray) : Lib.indexB s ⟨#[32]⟩ = Lib.indexByte s.data.toList 32 := index_blank _

set_option maxRecDepth 1000000 in
set_option maxHeartbeats 4000000 in
theorem gensplit_calls (s : ByteArray) (hs : s.size ≤ 281474976710656) (w : World) :
    Calls Tryd.prog 29 #[.string s, .string ⟨#[32]⟩, .int .i64 0, .int .i64 5] w fun e w' =>
      e = .returned (.slice (some ⟨w.heap.size, 0, none⟩) (five s).length (room s)) ∧ w' = w.alloc (.cells (Lib.cellsOf (five s) (room s)) 9) := by
  have hmk : ∀ n : Nat, n ≤ 5 → ∀ W : World, (Instr.makeSlice 38 (.int .i64 (n : Int)) (.int .i64 (n : Int))).run Tryd.prog W = .ok (.slice (some ⟨W.heap.size, 0, none⟩) n n) (W.alloc (.cells (madeCells #[.string ByteArray.empty] n) 9)) := fun n hn W => run_make_row' (P := Tryd.prog) 38 9 (.string ByteArray.empty) 16 Tryd.underlying38 info_str rfl .i64 .i64 n (by omega) (by omega) W
  have hmin : min (5 : Int) ((s.size : Int) + 1) = (room s : Int) := by unfold room; omega
  have hr1 : 1 ≤ room s := by unfold room; omega
  have hr5 : room s ≤ 5 := by unfold room; omega
  have HM := hmk (room s) hr5
  clear hmk
  have hmin2 := hmin
  have HF : Hid (five s = Lib.splitB ⟨#[32]⟩ 0 (room s - 1) s) := rfl
  have hri : (room s : Int) ≤ 5 := by omega
  generalize five s = ws at *
  generalize room s = N at *
  clear hmin2
  have HI : Hid (∀ (x : ByteArray) (W : World), Calls Tryd.prog 34 #[.string x, .string ⟨#[32]⟩] W fun e w' => e = .returned (.int .i64 (Lib.indexB x ⟨#[32]⟩)) ∧ w' = W) := fun x W => by
    rw [indexB_blank]
    exact Any.strings_Index_one { slays with } x 32 W
  go_enter Tryd.func29, Tryd.ntmps29
  go_wp2_with fail
  go_loopg [0, 10] (N - 1) (fun g s0 s10 wr => ∃ (had : List ByteArray) (x : ByteArray), s0 = .string x ∧ s10 = .int .i64 (had.length : Int) ∧ had.length + 1 + g = N ∧ x.size ≤ s.size ∧ wr = w.alloc (.cells (Lib.cellsOf had N) 9) ∧ Hid (ws = had ++ Lib.splitB ⟨#[32]⟩ 0 g x))
  case atStart => exact ⟨[], s, rfl, rfl, by simp; omega, Nat.le_refl _, by rw [Lib.cellsOf_nil], HF.out⟩
  case round =>
    obtain ⟨had, x, rfl, rfl, hg, hx, rfl, HW⟩ := hrel
    have hnext : (Lib.cellsOf had N)[had.length]? = some (.string ByteArray.empty) := Lib.cellsOf_next (by omega)
    have HL : Hid (Lib.splitB ⟨#[32]⟩ 0 gk x = [x] → ws.length = had.length + 1 ∧ (Lib.cellsOf had N).setIfInBounds had.length (.string x) = Lib.cellsOf ws N) := fun e => by
      have := HW.out
      rw [e] at this
      subst this
      exact ⟨by simp, Lib.cellsOf_set (by omega) x⟩
    have hlt2 : (had.length : Int) < (N : Int) := by omega
    have HX := hide_ (HI.out x (w.alloc (.cells (Lib.cellsOf had N) 9)))
    have HS : Hid (had.length + 1 + gk = N) := hg
    clear HF HM hmin
    rcases Nat.eq_zero_or_pos gk with h0 | h0
    · subst h0
      have hlt : ¬ ((had.length : Int) < (N : Int) - 1) := by omega
      clear hg
      go_wp2_with fail
      go_ret
      obtain ⟨e1, e2⟩ := HL.out rfl
      rw [e1, ← e2]
      exact ⟨rfl, rfl⟩
    · have hlt : ((had.length : Int) < (N : Int) - 1) := by omega
      rcases Lib.indexB_cases x ⟨#[32]⟩ with hix | ⟨i, hix, hroom⟩
      · have HE := hide_ (HL.out (Lib.splitB_miss _ _ _ _ hix))
        rw [hix] at HX
        clear hg hix
        go_wp2_with fail
        refine HX.out.mono ?_
        rintro e W ⟨rfl, rfl⟩
        go_wp2_with fail
        go_ret
        obtain ⟨e1, e2⟩ := HE.out
        rw [e1, ← e2]
        exact ⟨rfl, rfl⟩
      · have hroom' : i + 1 ≤ x.size := hroom
        have HT : Hid (∃ g, gk = g + 1 ∧ ws = (had ++ [x.extract 0 i]) ++ Lib.splitB ⟨#[32]⟩ 0 g (x.extract (i + 1) x.size)) := by
          obtain ⟨g, rfl⟩ : ∃ g, gk = g + 1 := ⟨gk - 1, by omega⟩
          refine ⟨g, rfl, ?_⟩
          rw [HW.out, Lib.splitB_hit _ _ _ _ i hix]
          simp
          rfl
        rw [hix] at HX
        have c0 : ¬ ((i : Int) < 0) := by omega
        have c1 : (i : Int) ≤ x.size := by omega
        have c2 : (i : Int) + 1 ≤ x.size := by omega
        clear hg hix hroom HL HW
        go_wp2_with fail
        refine HX.out.mono ?_
        rintro e W ⟨rfl, rfl⟩
        go_wp2_with fail
        go_roundg (gk - 1)
        case measure => omega
        case rel =>
          obtain ⟨g, rfl, e⟩ := HT.out
          have := HS.out
          exact ⟨had ++ [x.extract 0 i], x.extract (i + 1) x.size, rfl, by simp, by simp; omega, by rw [ByteArray.size_extract]; omega, by rw [← Lib.cellsOf_set (by omega)], e⟩

set_option maxRecDepth 100000 in
set_option maxHeartbeats 1000000 in
theorem splitn_calls (s : ByteArray) (hs : s.size ≤ 281474976710656) (w : World) :
    Calls Tryd.prog 24 #[.string s, .string ⟨#[32]⟩, .int .i64 5] w fun e w' =>
      e = .returned (.slice (some ⟨w.heap.size, 0, none⟩) (five s).length (room s)) ∧ w' = w.alloc (.cells (Lib.cellsOf (five s) (room s)) 9) := by
  have H := hide_ (gensplit_calls s hs w)
  clear hs
  go_enter Tryd.func24, Tryd.ntmps24
  go_wp2_with fail
  refine H.out.mono ?_
  rintro e W ⟨rfl, hW⟩
  go_wp2_with fail
  go_ret
  exact ⟨rfl, rfl⟩

theorem five_cons (s : ByteArray) : ∃ x r, five s = x :: r := by
  unfold five
  cases room s - 1 with
  | zero => exact ⟨_, _, rfl⟩
  | succ k =>
    unfold Lib.splitB
    split
    · exact ⟨_, _, rfl⟩
    · exact ⟨_, _, rfl⟩
theorem five_room (s : ByteArray) : (five s).length ≤ room s := by
  have := Lib.splitB_length_le ⟨#[32]⟩ 0 (room s - 1) s
  have h1 : 1 ≤ room s := by unfold room; omega
  unfold five
  omega

/-- Words in memory, in the block b. -/
def Strs (W : World) (b : Nat) (a : Option Addr) (ws : List ByteArray) : Prop := ∃ o C T, a = some ⟨b, o, none⟩ ∧ W.heap[b]? = some (.cells C T (0, 0)) ∧ ∀ i x, ws[i]? = some x → C[o + i]? = some (.string x)
theorem Strs.later {W W' : World} {b : Nat} {a : Option Addr} {ws : List ByteArray} (h : Strs W b a ws) (hb : W'.heap[b]? = W.heap[b]?) : Strs W' b a ws := by
  obtain ⟨o, C, T, e, h1, h2⟩ := h
  exact ⟨o, C, T, e, hb.trans h1, h2⟩
theorem Strs.lt {W : World} {b : Nat} {a : Option Addr} {ws : List ByteArray} (h : Strs W b a ws) : b < W.heap.size := by
  obtain ⟨o, C, T, e, h1, h2⟩ := h
  exact (Array.getElem?_eq_some_iff.1 h1).1
theorem cellsOf_at (l : List ByteArray) (N i : Nat) (x : ByteArray) (h : l[i]? = some x) : (Lib.cellsOf l N)[i]? = some (.string x) := by
  have hlt : i < l.length := (List.getElem?_eq_some_iff.1 h).1
  unfold Lib.cellsOf
  rw [List.getElem?_toArray, List.getElem?_append_left (by simpa using hlt), List.getElem?_map, h]
  rfl

set_option maxRecDepth 100000 in
set_option maxHeartbeats 1000000 in
theorem split_calls (s : ByteArray) (hs : s.size ≤ 281474976710656) (x : ByteArray) (r : List ByteArray) (h : five s = x :: r) (w : World) :
    Calls Tryd.prog 11 #[.string s] w fun e w' =>
      ∃ a cap, e = .returned (.tuple #[.string x, .slice a r.length cap]) ∧ Strs w' w.heap.size a r ∧ Below w.heap.size w w' := by
  have H := hide_ (splitn_calls s hs w)
  have hr := five_room s
  rw [h] at H hr
  have hr5 : room s ≤ 5 := by unfold room; omega
  clear hs h
  generalize room s = N at *
  rw [List.length_cons] at H hr
  have hc : (Lib.cellsOf (x :: r) N)[0]? = some (.string x) := rfl
  have HC : Hid (∀ i y, r[i]? = some y → (Lib.cellsOf (x :: r) N)[1 + i]? = some (.string y)) := fun i y hy => cellsOf_at _ _ _ _ (by rw [Nat.add_comm, List.getElem?_cons_succ]; exact hy)
  have HN : Hid (N = 1 → r = []) := fun e => List.length_eq_zero_iff.1 (by omega)
  generalize Lib.cellsOf (x :: r) N = C at *
  have h1 : (0 : Int) < (r.length : Int) + 1 := by omega
  have h2 : (1 : Int) ≤ (r.length : Int) + 1 := by omega
  have h3 : (r.length : Int) + 1 ≤ (N : Int) := by omega
  go_enter Tryd.func11, Tryd.ntmps11
  go_wp2_with fail
  refine H.out.mono ?_
  rintro e W ⟨rfl, rfl⟩
  go_wp2_with fail
  go_quiet (fail)
  have HB : Below w.heap.size w ((w.alloc (.cells C 9)).drewN nq) := below_drewN ((Below.refl _ w).alloc (Nat.le_refl _) _) nq
  have HH : ((w.alloc (.cells C 9)).drewN nq).heap[w.heap.size]? = some (.cells C 9 (0, 0)) := World.alloc_heap_new w _
  have HB := hide_ HB
  have HH := hide_ HH
  generalize (w.alloc (.cells C 9)).drewN nq = W2 at *
  by_cases hN : N = 1
  · have hr0 := HN.out hN
    subst hr0 hN
    go_wp2
    go_ret2
    exact ⟨_, ⟨_, rfl⟩, ⟨0, C, _, rfl, HH.out, (fun i y hy => by simp at hy)⟩, HB.out⟩
  · go_wp2
    go_ret2
    exact ⟨_, ⟨_, rfl⟩, ⟨1, C, _, rfl, HH.out, HC.out⟩, HB.out⟩
end Go.Proofs.YtmkcdkfjomaidaaDoor
