/-
  PROVED HERE: codec.sumOf, bytes.Equal, bytes.Clone, slices.Grow of no slice: what they answer at any bytes; nothing that lay before has turned.
-/
import Derived.Test.YtppiklgkpicfeaaQRefPut
import Derived.Lib.AppendZeros
import Derived.Laws.Build
import Derived.Laws.Cover3
namespace Go.Proofs.Ytppiklgkpicfeaa
open Go.RowKit

/-- A sum's four bytes, the highest first. -/
def be (s : Int) : List Int := [s / 16777216, s / 65536 % 256, s / 256 % 256, s % 256]

theorem bytes_be (s : Int) (h0 : 0 ≤ s) (h1 : s ≤ 4294967295) : Bytes (be s) := by
  intro c hc
  simp [be] at hc
  omega
theorem be_length (s : Int) : (be s).length = 4 := rfl

theorem row_four (W : World) (t : TypeId) (c0 c1 c2 c3 : Int) : Row .u8 (W.alloc (.cells #[.int .u8 c0, .int .u8 c1, .int .u8 c2, .int .u8 c3] t)) (some ⟨W.heap.size, 0, none⟩) 4 [c0, c1, c2, c3] := by
  refine ⟨rfl, .inr ⟨W.heap.size, 0, rfl, by simp, fun i hi => ?_⟩⟩
  have : i = 0 ∨ i = 1 ∨ i = 2 ∨ i = 3 := by omega
  have hg := World.alloc_heap_new W (.cells #[.int .u8 c0, .int .u8 c1, .int .u8 c2, .int .u8 c3] t)
  rcases this with rfl | rfl | rfl | rfl <;> (simp only [World.cell?]; rw [hg]; rfl)

set_option maxHeartbeats 1000000 in
theorem sumOf_calls (a : Option Addr) (len cap : Nat) (bs : List Int) (w : World) (hrow : Row .u8 w a len bs) (hbs : Bytes bs) (hlen : len ≤ 140737488355328) :
    Calls Try.prog 12 #[.slice a len cap] w fun e w' => ∃ g, e = .returned (.slice (some ⟨g, 0, none⟩) 4 4) ∧ Row .u8 w' (some ⟨g, 0, none⟩) 4 (be (more 1 bs)) ∧ Below w.heap.size w w' := by
  have hO := of_calls a len cap bs w hrow hbs hlen
  obtain ⟨m0, m1⟩ := more_fits 1 bs
  generalize more 1 bs = s at *
  go_enter Try.func12, Try.ntmps12
  go_wp2_with fail
  refine hO.mono ?_
  rintro e W1 ⟨rfl, hb⟩
  go_wp2
  go_ret
  refine ⟨W1.heap.size, rfl, ?_, hb.alloc hb.size _⟩
  have := row_four W1 5 (s / 16777216) (s / 65536 % 256) (s / 256 % 256) (s % 256)
  exact this

set_option maxHeartbeats 1000000 in
theorem equal_calls (a a' : Option Addr) (len cap len' cap' : Nat) (bs bs' : List Int) (w : World) (h1 : Row .u8 w a len bs) (h2 : Row .u8 w a' len' bs') (hb : Bytes bs) (hb' : Bytes bs') :
    Calls Try.prog 28 #[.slice a len cap, .slice a' len' cap'] w fun e w' => e = .returned (.bool (decide (bs = bs'))) ∧ w' = w := by
  have k1 := conv_row (cap := cap) h1
  have k2 := conv_row (cap := cap') h2
  have k3 := str_beq hb hb'
  generalize decide (bs = bs') = D at *
  go_enter Try.func28, Try.ntmps28
  go_wp2
  go_ret
  exact ⟨rfl, rfl⟩

theorem eq_nil (W : World) (a : Option Addr) (l c : Nat) : (binOp BinOp.eql 22 (.slice a l c) (.slice none 0 0)).run Try.prog W = .ok (.bool a.isNone) W := by
  unfold binOp
  simp [run_equal_slice_nil W 22 _ a l c Try.underlying22]

set_option maxRecDepth 100000 in
set_option maxHeartbeats 1000000 in
theorem bclone_calls (a : Option Addr) (len cap : Nat) (bs : List Int) (w : World) (hr : Row .u8 w a len bs) (hsz : len ≤ 140737488355328) :
    Calls Try.prog 29 #[.slice a len cap] w fun e w' => ∃ a' cap', e = .returned (.slice a' len cap') ∧ Row .u8 w' a' len bs ∧ Below w.heap.size w w' := by
  cases a with
  | none =>
    have h0 : len = 0 := by
      rcases hr.2 with h | ⟨b, o, h, _⟩
      · exact h
      · cases h
    subst h0
    obtain rfl : bs = [] := List.length_eq_zero_iff.1 hr.1
    have hn := eq_nil w none 0 cap
    go_enter Try.func29, Try.ntmps29
    go_wp2
    go_ret
    exact ⟨_, _, rfl, row_nil _ _, Below.refl _ _⟩
  | some p =>
    obtain ⟨v0, W1, hrun, hown, hv0, hB1⟩ := clone_own (some p) len cap bs w hr hsz
    have hn := eq_nil w (some p) len cap
    obtain ⟨g, cap', rfl, _, _, _, hrow⟩ := row_of_owns hown hv0
    clear hown hv0
    go_enter Try.func29, Try.ntmps29
    go_wp2_with (at_builtin; refine wpList_append_run rfl _ _ 22 rfl _ _ _ _ rfl rfl hrun ?_)
    go_ret
    exact ⟨_, _, rfl, hrow, hB1⟩

set_option maxRecDepth 100000 in
set_option maxHeartbeats 1000000 in
theorem grow_calls (n : Nat) (w : World) (h0 : 0 < n) (hn : n ≤ 140737488355328) :
    Calls Try.prog 19 #[.slice none 0 0, .int .i64 (n : Int)] w fun e w' => ∃ v, e = .returned v ∧ w'.ownsRow w.heap.size 5 1 v 0 (([] : List Int).map (Value.int .u8)) ∧ v ≠ .slice none 0 0 ∧ Below w.heap.size w w' := by
  obtain ⟨i0, hi, hz0, hz1, hz2⟩ := info_parts info5
  have hr : ∀ ty, (Builtin.append_ #[22, 3] ty #[.slice none 0 0, .int .i64 (n : Int)]).run Try.prog w = _ := fun ty => Lib.run_append_nil_zeros w 22 3 ty 5 i0 (.int .u8 0) .i64 .i64 Try.underlying22 Try.underlying3 hi hz0 n h0 (by rw [hz1]; decide) (by omega) (by rw [hz2]; omega)
  have hG : n ≤ grownCap w n 0 5 := grownCap_ge w _ _ _
  have hG2 := grownCap_le_maxLen w n 0 5 (by unfold maxLen; omega)
  generalize grownCap w n 0 5 = G at *
  have hG3 : G ≤ 9223372036854775807 := by unfold maxLen at hG2; omega
  have hp : ((n : Int) > 0) := by omega
  go_enter Try.func19, Try.ntmps19
  go_wp2_with (at_builtin; refine Lib.wpList_append_run _ rfl _ _ _ _ rfl _ _ rfl rfl _ _ (hr _) ?_)
  go_ret
  refine ⟨_, rfl, ⟨rfl, .inr ⟨w.heap.size, G, _, rfl, Nat.le_refl _, World.alloc_heap_new w.drew _, Nat.zero_le _, hG2, ?_, by simp⟩⟩, by simp, ((Below.refl _ w).drew).alloc (Nat.le_refl _) _⟩
  simp [Builtin.zeroCells]
  omega
end Go.Proofs.Ytppiklgkpicfeaa
