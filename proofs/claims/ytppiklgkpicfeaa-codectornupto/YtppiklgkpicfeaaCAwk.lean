/-
  PROVED HERE: codec.PutDoc of no tokens answers one byte; so the law's own awake answers true; nothing that lay before has turned.
-/
import Derived.Test.YtppiklgkpicfeaaCWrap
namespace Go.Proofs.Ytppiklgkpicfeaa
open Go.RowKit

theorem info64 : (Try.prog.info? 38).map (fun i => (i.zero, i.size, i.bytes)) = some (some (.int .u64 0), 1, 8) := by kernel_rfl

set_option maxRecDepth 100000 in
set_option maxHeartbeats 1000000 in
theorem add_zero (Bw Bi : Nat) (w : World) (hw : Boxed w Bw 81 (.slice none 0 0)) (hi : w.cell? ⟨Bi, 0, none⟩ = some (.int .i64 0)) (hb : Bw < w.heap.size) :
    Calls Try.prog 39 #[.pointer (some ⟨Bw, 0, none⟩), .slice (some ⟨Bi, 0, none⟩) 1 1] w fun e w' => e = .returned (.tuple #[]) ∧ ∃ g cap, Boxed w' Bw 81 (.slice (some ⟨g, 0, none⟩) 1 cap) ∧ Row .u64 w' (some ⟨g, 0, none⟩) 1 [0] ∧ Below Bw w w' := by
  obtain ⟨i0, hi0, hz0, hz1, hz2⟩ := info_parts info64
  go_enter Try.func39, Try.ntmps39
  go_wp2
  go_loopw [8] (fun i w' => (i = .int .i64 ((0 : Nat) : Int) ∧ w' = w) ∨ (i = .int .i64 ((1 : Nat) : Int) ∧ ∃ g cap, Boxed w' Bw 81 (.slice (some ⟨g, 0, none⟩) 1 cap) ∧ Row .u64 w' (some ⟨g, 0, none⟩) 1 [0] ∧ Below Bw w w'))
    (fun i _ => 1 - (intOf i).toNat)
  case atStart => exact .inl ⟨rfl, rfl⟩
  case round =>
    rcases hrel with ⟨rfl, rfl⟩ | ⟨rfl, g, cap, h1, h2, h3⟩
    · have c1 := hw.cell
      have f1 := hw.frozen
      go_wp2_with (at_builtin; refine wpList_append_own _ rfl _ _ 54 rfl wr.heap.size 38 i0 (.int .u64 0) 1 8 Try.underlying54 hi0 hz0 hz1 hz2 rfl (by decide) _ _ _ rfl ((World.ownsRow_nil wr wr.heap.size 38 1).alloc _) ⟨wr.heap.size, 0, none⟩ 1 1 [.int .u64 0] rfl rfl (cell_one_new _ _ _) (by simp [Value.oneCell']) (by unfold maxLen; omega) (by omega) (by simp) ?_; intro v2 w2 hown2 hgrow hnil2; have hb2 := below_append (Below.refl wr.heap.size wr) (World.ownsRow_nil wr wr.heap.size 38 1) (Nat.le_refl _) hgrow; have k2 : Boxed w2 Bw 81 (.slice none 0 0) := (hb2.block Bw hb).trans hw; have c2 := k2.cell; have f2 := k2.frozen; obtain ⟨g, cap, rfl, hg, _, _, hr⟩ := row_of_owns (bs := [0]) hown2 (fun e => by have := hnil2.1 e; simp at this); clear hgrow hnil2 hown2)
      go_roundw
      case rel =>
        refine .inr ⟨by go_num, g, cap, k2.set _, ?_, (hb2.mono (Nat.le_of_lt hb)).setCell (p := ⟨Bw, 0, none⟩) (Nat.le_refl _) _⟩
        obtain ⟨r1, r2 | ⟨b, o, r2, r3, r4⟩⟩ := hr
        · omega
        · cases r2
          refine ⟨rfl, .inr ⟨g, 0, rfl, by simpa using r3, fun i hi => ?_⟩⟩
          rw [World.cell?_of_block (w := w2) (Below.heap_setCell w2 ⟨Bw, 0, none⟩ _ g (by show g ≠ Bw; omega))]
          exact r4 i hi
      case measure => simp [intOf]
    · go_wp2
      go_end0
      exact ⟨rfl, g, cap, h1, h2, h3⟩

set_option maxRecDepth 100000 in
set_option maxHeartbeats 1000000 in
theorem tokens_none (Bw : Nat) (w : World) (hw : Boxed w Bw 81 (.slice none 0 0)) (hb : Bw < w.heap.size) :
    Calls Try.prog 32 #[.pointer (some ⟨Bw, 0, none⟩), .slice none 0 0] w fun e w' => e = .returned (.tuple #[]) ∧ ∃ g cap, Boxed w' Bw 81 (.slice (some ⟨g, 0, none⟩) 1 cap) ∧ Row .u64 w' (some ⟨g, 0, none⟩) 1 [0] ∧ Below Bw w w' := by
  have hA := add_zero Bw w.heap.size (w.alloc (.cells #[.int .i64 0] 3)) (hw.alloc _) (Boxed.new w 3 (.int .i64 0)).cell (by simp; omega)
  have HA := hide_ hA
  clear hA
  have b0 : Below Bw w (w.alloc (.cells #[.int .i64 0] 3)) := (Below.refl _ _).alloc (Nat.le_of_lt hb) _
  go_enter Try.func32, Try.ntmps32
  go_wp2_with fail
  refine HA.out.mono ?_
  rintro e W1 ⟨rfl, g, cap, h1, h2, h3⟩
  go_wp2
  go_loopw [13] (fun i w' => i = .int .i64 ((0 : Nat) : Int) ∧ w' = W1) (fun _ _ => 0)
  case atStart => exact ⟨rfl, rfl⟩
  case round =>
    obtain ⟨rfl, rfl⟩ := hrel
    go_wp2
    go_end0
    exact ⟨rfl, g, cap, h1, h2, b0.trans h3⟩

set_option maxRecDepth 100000 in
set_option maxHeartbeats 1000000 in
theorem checkDoc_none (w : World) : Calls Try.prog 31 #[.slice none 0 0] w fun e w' => e = .returned (.int .i64 0) ∧ w' = w := by
  go_enter Try.func31, Try.ntmps31
  go_wp2
  go_loopw [10] (fun i w' => i = .int .i64 ((0 : Nat) : Int) ∧ w' = w) (fun _ _ => 0)
  case atStart => exact ⟨rfl, rfl⟩
  case round =>
    obtain ⟨rfl, rfl⟩ := hrel
    go_wp2
    go_ret
    exact ⟨rfl, rfl⟩

theorem leb_zero : (leb (0 : Int).toNat).length = 1 := by decide +kernel

set_option maxRecDepth 100000 in
set_option maxHeartbeats 1000000 in
theorem put_none (w : World) :
    Calls Try.prog 30 #[.slice none 0 0, .func (.func 31) #[] #[], .func (.func 32) #[] #[]] w fun e w' => ∃ g cap, e = .returned (.tuple #[.slice (some ⟨g, 0, none⟩) 1 cap, .int .i64 0]) ∧ Below w.heap.size w w' := by
  have hT := tokens_none w.heap.size (w.alloc (.cells #[.slice none 0 0] 81)) (Boxed.new w 81 _) (by simp)
  have HT := hide_ hT
  clear hT
  have b0 : Below w.heap.size w (w.alloc (.cells #[.slice none 0 0] 81)) := (Below.refl _ _).alloc (Nat.le_refl _) _
  go_enter Try.func30, Try.ntmps30
  go_wp2_with fail
  refine (checkDoc_none w).mono ?_
  rintro e W0 ⟨rfl, rfl⟩
  go_wp2_with fail
  refine HT.out.mono ?_
  rintro e W1 ⟨rfl, g, cap, h1, h2, h3⟩
  have c1 := h1.cell
  have hP := put_any none (some ⟨g, 0, none⟩) 0 0 1 cap [] [0] W1 (row_nil _ _) h2 (fun y hy => by simp at hy; omega) (by omega)
  rw [List.nil_append, lebs_one, leb_zero] at hP
  have HP := hide_ hP
  clear hP h1 h2
  go_wp2_with fail
  refine HP.out.mono ?_
  rintro e W2 ⟨g2, cap2, rfl, _, _, _, _, _, hb2⟩
  go_wp2
  go_ret2
  have b1 := (b0.trans h3).trans (hb2.mono (b0.trans h3).size)
  first | exact ⟨g2, cap2, rfl, b1⟩ | exact ⟨⟨g2, cap2, rfl⟩, b1⟩ | exact ⟨⟨g2, ⟨cap2, rfl⟩⟩, b1⟩

set_option maxRecDepth 100000 in
set_option maxHeartbeats 1000000 in
theorem putDoc_none (w : World) : Calls Try.prog 18 #[.slice none 0 0] w fun e w' => ∃ g cap, e = .returned (.tuple #[.slice (some ⟨g, 0, none⟩) 1 cap, .int .i64 0]) ∧ Below w.heap.size w w' := by
  go_enter Try.func18, Try.ntmps18
  go_wp2_with fail
  refine (put_none w).mono ?_
  rintro e W1 ⟨g, cap, rfl, hb⟩
  go_wp2
  go_ret2
  first | exact ⟨g, cap, rfl, hb⟩ | exact ⟨⟨g, cap, rfl⟩, hb⟩ | exact ⟨⟨g, ⟨cap, rfl⟩⟩, hb⟩

set_option maxRecDepth 100000 in
set_option maxHeartbeats 1000000 in
theorem awake_calls (w : World) : Calls Try.prog 9 #[] w fun e w' => e = .returned (.bool true) ∧ Below w.heap.size w w' := by
  go_enter Try.func9, Try.ntmps9
  go_wp2_with fail
  refine (putDoc_none w).mono ?_
  rintro e W1 ⟨g, cap, rfl, hb⟩
  go_wp2
  go_ret
  exact ⟨rfl, hb⟩
end Go.Proofs.Ytppiklgkpicfeaa
