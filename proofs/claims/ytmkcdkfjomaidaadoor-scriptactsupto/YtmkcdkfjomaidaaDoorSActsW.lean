/-
  PROVED HERE: the statement's own function, emenderlaw22.ScriptActs, answers true at every line of at most 2^20 signs and every act.
-/
import Derived.Test.YtmkcdkfjomaidaaDoorPActs
import Derived.Test.YtmkcdkfjomaidaaDoorRPrint
namespace Go.Proofs.YtmkcdkfjomaidaaDoor
open Go.RowKit

/-- One line is read as the same act by both. -/
theorem both_act (s : ByteArray) (hs : s.size ≤ 1048576) : ∃ k a b c d n cd : Int,
    (∀ w : World, Env w → Calls Tryd.prog 5 #[.string s] w fun e w' => e = .returned (.tuple #[.agg #[.int .i64 k, .int .i64 a, .int .i64 b, .int .i64 c, .int .i64 d, .int .i64 n, .slice none 0 0], .int .i64 cd]) ∧ Below w.heap.size w w') ∧
    (∀ w : World, Calls Tryd.prog 6 #[.string s] w fun e w' => e = .returned (.tuple #[.agg #[.int .i64 k, .int .i64 a, .int .i64 b, .int .i64 c, .int .i64 d, .int .i64 n, .slice none 0 0], .int .i64 cd]) ∧ Below w.heap.size w w') := by
  have hq := act_same s
  cases h : actW (five s) with
  | none =>
    rw [h] at hq
    refine ⟨0, 0, 0, 0, 0, 0, 4, fun w hE => ?_, fun w => ?_⟩
    · refine (act_calls s (by omega) w hE).mono ?_
      rintro e w' ⟨_, h2, h3⟩
      exact ⟨h2 h, h3⟩
    · refine (ract_calls s hs w).mono ?_
      rintro e w' ⟨_, h2, h3⟩
      exact ⟨h2 hq.symm, h3⟩
  | some cs =>
    obtain ⟨k, a, b, c, d, n, rfl⟩ := actW_act h
    rw [h] at hq
    refine ⟨k, a, b, c, d, n, 0, fun w hE => ?_, fun w => ?_⟩
    · refine (act_calls s (by omega) w hE).mono ?_
      rintro e w' ⟨h1, _, h3⟩
      exact ⟨h1 _ _ _ _ _ _ h, h3⟩
    · refine (ract_calls s hs w).mono ?_
      rintro e w' ⟨h1, _, h3⟩
      exact ⟨h1 _ _ _ _ _ _ hq.symm, h3⟩

/-- One act is written as the same line by both. -/
theorem both_print (k a b c d n : Int) (bp : Option Addr) (bl bc : Nat) (ha : I64 a) (hc : I64 c) (hd : I64 d) (hn : I64 n) : ∃ (t : ByteArray) (cd : Int),
    (∀ w : World, Env w → Calls Tryd.prog 7 #[.agg #[.int .i64 k, .int .i64 a, .int .i64 b, .int .i64 c, .int .i64 d, .int .i64 n, .slice bp bl bc]] w fun e w' => e = .returned (.tuple #[.string t, .int .i64 cd]) ∧ Below w.heap.size w w') ∧
    (∀ w : World, Calls Tryd.prog 8 #[.agg #[.int .i64 k, .int .i64 a, .int .i64 b, .int .i64 c, .int .i64 d, .int .i64 n, .slice bp bl bc]] w fun e w' => e = .returned (.tuple #[.string t, .int .i64 cd]) ∧ Below w.heap.size w w') := by
  by_cases hit : ∃ t ∈ tab, t.k = k ∧ (k = 0 → t.b = b)
  · obtain ⟨t, ht, hk, hb⟩ := hit
    obtain ⟨p1, p2⟩ := print_hit (bl := bl) (a := a) (c := c) (d := d) (n := n) ht hk hb
    by_cases hok : OkR t k a b c d n bl
    · refine ⟨lineS t a c d n, 0, fun w hE => ?_, fun w => ?_⟩
      · refine (print_calls k a b c d n bp bl bc ha hc hd hn w hE).mono ?_
        rintro e w' ⟨h1, _, h3⟩
        exact ⟨h1 _ (p1 hok), h3⟩
      · refine (rprint_hit t ht k a b c d n hk hb bp bl bc w).mono ?_
        rintro e w' ⟨h1, _, h3⟩
        exact ⟨h1 hok, h3⟩
    · refine ⟨⟨#[]⟩, 1, fun w hE => ?_, fun w => ?_⟩
      · refine (print_calls k a b c d n bp bl bc ha hc hd hn w hE).mono ?_
        rintro e w' ⟨_, h2, h3⟩
        exact ⟨h2 (p2 hok), h3⟩
      · refine (rprint_hit t ht k a b c d n hk hb bp bl bc w).mono ?_
        rintro e w' ⟨_, h2, h3⟩
        exact ⟨h2 hok, h3⟩
  · have hno : NoWord k b := fun t ht e => hit ⟨t, ht, e⟩
    refine ⟨⟨#[]⟩, 1, fun w hE => ?_, fun w => ?_⟩
    · refine (print_calls k a b c d n bp bl bc ha hc hd hn w hE).mono ?_
      rintro e w' ⟨_, h2, h3⟩
      exact ⟨h2 (print_miss hno), h3⟩
    · refine (rprint_miss k a b c d n bp bl bc hno w).mono ?_
      rintro e w' ⟨h1, h3⟩
      exact ⟨h1, h3⟩

set_option maxRecDepth 100000 in
set_option maxHeartbeats 4000000 in
theorem acts_calls (s : ByteArray) (hs : s.size ≤ 1048576) (k a b c d n : Int) (bp : Option Addr) (bl bc : Nat) (ha : I64 a) (hc : I64 c) (hd : I64 d) (hn : I64 n) (w : World) (hE : Env w) :
    Calls Tryd.prog 3 #[.string s, .agg #[.int .i64 k, .int .i64 a, .int .i64 b, .int .i64 c, .int .i64 d, .int .i64 n, .slice bp bl bc]] w fun e w' => e = .returned (.bool true) ∧ Below w.heap.size w w' := by
  obtain ⟨k1, a1, b1, c1, d1, n1, cd1, A1, A2⟩ := both_act s hs
  obtain ⟨t, cd2, P1, P2⟩ := both_print k a b c d n bp bl bc ha hc hd hn
  have HA1 := hide_ A1
  have HA2 := hide_ A2
  have HP1 := hide_ P1
  have HP2 := hide_ P2
  have HE := hide_ hE
  have HB0 : Hid (∀ o, Below w.heap.size w (w.alloc o)) := fun o => (Below.refl _ w).alloc (Nat.le_refl _) o
  have HR0 : Hid (∀ o, (w.alloc o).heap[w.heap.size]? = some o) := fun o => World.alloc_heap_new w o
  clear A1 A2 P1 P2 hE ha hc hd hn hs
  go_enter Tryd.func3, Tryd.ntmps3
  go_wp2_with fail
  refine (HA1.out _ (HE.out.new (HB0.out _))).mono ?_
  rintro e W1 ⟨rfl, hB1⟩
  have HB1 := hide_ ((HB0.out _).trans (hB1.mono (HB0.out _).size))
  have HR1 := hide_ ((hB1.block _ (by simp)).trans (HR0.out (.cells #[.int .i64 k, .int .i64 a, .int .i64 b, .int .i64 c, .int .i64 d, .int .i64 n, .slice bp bl bc] 24)))
  clear hB1
  go_wp2_with fail
  have hl1 : w.heap.size < W1.heap.size := (Array.getElem?_eq_some_iff.1 HR1.out).1
  have HW1a : Hid (Below w.heap.size w (W1.alloc (.cells #[.int .i64 k1, .int .i64 a1, .int .i64 b1, .int .i64 c1, .int .i64 d1, .int .i64 n1, .slice none 0 0] 24)) ∧ (W1.alloc (.cells #[.int .i64 k1, .int .i64 a1, .int .i64 b1, .int .i64 c1, .int .i64 d1, .int .i64 n1, .slice none 0 0] 24)).heap[w.heap.size]? = some (.cells #[.int .i64 k, .int .i64 a, .int .i64 b, .int .i64 c, .int .i64 d, .int .i64 n, .slice bp bl bc] 24 (0, 0)) ∧ (W1.alloc (.cells #[.int .i64 k1, .int .i64 a1, .int .i64 b1, .int .i64 c1, .int .i64 d1, .int .i64 n1, .slice none 0 0] 24)).heap[W1.heap.size]? = some (.cells #[.int .i64 k1, .int .i64 a1, .int .i64 b1, .int .i64 c1, .int .i64 d1, .int .i64 n1, .slice none 0 0] 24 (0, 0)) ∧ (W1.alloc (.cells #[.int .i64 k1, .int .i64 a1, .int .i64 b1, .int .i64 c1, .int .i64 d1, .int .i64 n1, .slice none 0 0] 24)).heap.size = W1.heap.size + 1) :=
    ⟨HB1.out.alloc HB1.out.size _, (Below.heap_alloc W1 _ _ hl1).trans HR1.out, World.alloc_heap_new W1 _, World.size_alloc _ _⟩
  refine (HA2.out _).mono ?_
  rintro e W2 ⟨rfl, hB2⟩
  have hs2 := hB2.size
  rw [HW1a.out.2.2.2] at hs2
  have r2x := (hB2.block _ (by rw [HW1a.out.2.2.2]; omega)).trans HW1a.out.2.1
  have r2a := (hB2.block _ (by rw [HW1a.out.2.2.2]; omega)).trans HW1a.out.2.2.1
  have HB2 := hide_ (HW1a.out.1.trans (hB2.mono HW1a.out.1.size))
  have hl2 : w.heap.size < W2.heap.size := by omega
  have m0 : W2.cell? ⟨w.heap.size, 0, none⟩ = some (.int .i64 k) := cell_of_row W2 (w.heap.size) 0 _ _ _ r2x
  have m1 : W2.cell? ⟨w.heap.size, 1, none⟩ = some (.int .i64 a) := cell_of_row W2 (w.heap.size) 1 _ _ _ r2x
  have m2 : W2.cell? ⟨w.heap.size, 2, none⟩ = some (.int .i64 b) := cell_of_row W2 (w.heap.size) 2 _ _ _ r2x
  have m3 : W2.cell? ⟨w.heap.size, 3, none⟩ = some (.int .i64 c) := cell_of_row W2 (w.heap.size) 3 _ _ _ r2x
  have m4 : W2.cell? ⟨w.heap.size, 4, none⟩ = some (.int .i64 d) := cell_of_row W2 (w.heap.size) 4 _ _ _ r2x
  have m5 : W2.cell? ⟨w.heap.size, 5, none⟩ = some (.int .i64 n) := cell_of_row W2 (w.heap.size) 5 _ _ _ r2x
  have m6 : W2.cell? ⟨w.heap.size, 6, none⟩ = some (.slice bp bl bc) := cell_of_row W2 (w.heap.size) 6 _ _ _ r2x
  have HW2a : Hid (Below w.heap.size w (W2.alloc (.cells #[.int .i64 k1, .int .i64 a1, .int .i64 b1, .int .i64 c1, .int .i64 d1, .int .i64 n1, .slice none 0 0] 24)) ∧ (W2.alloc (.cells #[.int .i64 k1, .int .i64 a1, .int .i64 b1, .int .i64 c1, .int .i64 d1, .int .i64 n1, .slice none 0 0] 24)).heap[w.heap.size]? = some (.cells #[.int .i64 k, .int .i64 a, .int .i64 b, .int .i64 c, .int .i64 d, .int .i64 n, .slice bp bl bc] 24 (0, 0)) ∧ (W2.alloc (.cells #[.int .i64 k1, .int .i64 a1, .int .i64 b1, .int .i64 c1, .int .i64 d1, .int .i64 n1, .slice none 0 0] 24)).heap[W1.heap.size]? = some (.cells #[.int .i64 k1, .int .i64 a1, .int .i64 b1, .int .i64 c1, .int .i64 d1, .int .i64 n1, .slice none 0 0] 24 (0, 0)) ∧ (W2.alloc (.cells #[.int .i64 k1, .int .i64 a1, .int .i64 b1, .int .i64 c1, .int .i64 d1, .int .i64 n1, .slice none 0 0] 24)).heap[W2.heap.size]? = some (.cells #[.int .i64 k1, .int .i64 a1, .int .i64 b1, .int .i64 c1, .int .i64 d1, .int .i64 n1, .slice none 0 0] 24 (0, 0)) ∧ (W2.alloc (.cells #[.int .i64 k1, .int .i64 a1, .int .i64 b1, .int .i64 c1, .int .i64 d1, .int .i64 n1, .slice none 0 0] 24)).heap.size = W2.heap.size + 1 ∧ W1.heap.size < W2.heap.size) :=
    ⟨HB2.out.alloc HB2.out.size _, (Below.heap_alloc W2 _ _ hl2).trans r2x, (Below.heap_alloc W2 _ _ (by omega)).trans r2a, World.alloc_heap_new W2 _, World.size_alloc _ _, by omega⟩
  clear hB2 hs2 r2x r2a HW1a
  go_wp2_with fail
  refine (HP1.out _ (HE.out.new HW2a.out.1)).mono ?_
  rintro e W3 ⟨rfl, hB3⟩
  have hsz := HW2a.out.2.2.2.2.1
  have hlt := HW2a.out.2.2.2.2.2
  have r3x := (hB3.block _ (by rw [hsz]; omega)).trans HW2a.out.2.1
  have r3a := (hB3.block _ (by rw [hsz]; omega)).trans HW2a.out.2.2.1
  have r3b := (hB3.block _ (by rw [hsz]; omega)).trans HW2a.out.2.2.2.1
  have HB3 := hide_ (HW2a.out.1.trans (hB3.mono HW2a.out.1.size))
  have HR3 : Hid (W3.heap[W1.heap.size]? = some (.cells #[.int .i64 k1, .int .i64 a1, .int .i64 b1, .int .i64 c1, .int .i64 d1, .int .i64 n1, .slice none 0 0] 24 (0, 0)) ∧ W3.heap[W2.heap.size]? = some (.cells #[.int .i64 k1, .int .i64 a1, .int .i64 b1, .int .i64 c1, .int .i64 d1, .int .i64 n1, .slice none 0 0] 24 (0, 0))) := ⟨r3a, r3b⟩
  clear m0 m1 m2 m3 m4 m5 m6
  have m0 : W3.cell? ⟨w.heap.size, 0, none⟩ = some (.int .i64 k) := cell_of_row W3 (w.heap.size) 0 _ _ _ r3x
  have m1 : W3.cell? ⟨w.heap.size, 1, none⟩ = some (.int .i64 a) := cell_of_row W3 (w.heap.size) 1 _ _ _ r3x
  have m2 : W3.cell? ⟨w.heap.size, 2, none⟩ = some (.int .i64 b) := cell_of_row W3 (w.heap.size) 2 _ _ _ r3x
  have m3 : W3.cell? ⟨w.heap.size, 3, none⟩ = some (.int .i64 c) := cell_of_row W3 (w.heap.size) 3 _ _ _ r3x
  have m4 : W3.cell? ⟨w.heap.size, 4, none⟩ = some (.int .i64 d) := cell_of_row W3 (w.heap.size) 4 _ _ _ r3x
  have m5 : W3.cell? ⟨w.heap.size, 5, none⟩ = some (.int .i64 n) := cell_of_row W3 (w.heap.size) 5 _ _ _ r3x
  have m6 : W3.cell? ⟨w.heap.size, 6, none⟩ = some (.slice bp bl bc) := cell_of_row W3 (w.heap.size) 6 _ _ _ r3x
  clear hB3 r3x r3a r3b hsz hlt
  go_wp2_with fail
  refine (HP2.out W3).mono ?_
  rintro e W4 ⟨rfl, hB4⟩
  have r4a := (hB4.block _ (Array.getElem?_eq_some_iff.1 HR3.out.1).1).trans HR3.out.1
  have r4b := (hB4.block _ (Array.getElem?_eq_some_iff.1 HR3.out.2).1).trans HR3.out.2
  have HB4 := hide_ (HB3.out.trans (hB4.mono HB3.out.size))
  clear m0 m1 m2 m3 m4 m5 m6
  have p0 : W4.cell? ⟨W1.heap.size, 0, none⟩ = some (.int .i64 k1) := cell_of_row W4 (W1.heap.size) 0 _ _ _ r4a
  have p1 : W4.cell? ⟨W1.heap.size, 1, none⟩ = some (.int .i64 a1) := cell_of_row W4 (W1.heap.size) 1 _ _ _ r4a
  have p2 : W4.cell? ⟨W1.heap.size, 2, none⟩ = some (.int .i64 b1) := cell_of_row W4 (W1.heap.size) 2 _ _ _ r4a
  have p3 : W4.cell? ⟨W1.heap.size, 3, none⟩ = some (.int .i64 c1) := cell_of_row W4 (W1.heap.size) 3 _ _ _ r4a
  have p4 : W4.cell? ⟨W1.heap.size, 4, none⟩ = some (.int .i64 d1) := cell_of_row W4 (W1.heap.size) 4 _ _ _ r4a
  have p5 : W4.cell? ⟨W1.heap.size, 5, none⟩ = some (.int .i64 n1) := cell_of_row W4 (W1.heap.size) 5 _ _ _ r4a
  have p6 : W4.cell? ⟨W1.heap.size, 6, none⟩ = some (.slice none 0 0) := cell_of_row W4 (W1.heap.size) 6 _ _ _ r4a
  have q0 : W4.cell? ⟨W2.heap.size, 0, none⟩ = some (.int .i64 k1) := cell_of_row W4 (W2.heap.size) 0 _ _ _ r4b
  have q1 : W4.cell? ⟨W2.heap.size, 1, none⟩ = some (.int .i64 a1) := cell_of_row W4 (W2.heap.size) 1 _ _ _ r4b
  have q2 : W4.cell? ⟨W2.heap.size, 2, none⟩ = some (.int .i64 b1) := cell_of_row W4 (W2.heap.size) 2 _ _ _ r4b
  have q3 : W4.cell? ⟨W2.heap.size, 3, none⟩ = some (.int .i64 c1) := cell_of_row W4 (W2.heap.size) 3 _ _ _ r4b
  have q4 : W4.cell? ⟨W2.heap.size, 4, none⟩ = some (.int .i64 d1) := cell_of_row W4 (W2.heap.size) 4 _ _ _ r4b
  have q5 : W4.cell? ⟨W2.heap.size, 5, none⟩ = some (.int .i64 n1) := cell_of_row W4 (W2.heap.size) 5 _ _ _ r4b
  have q6 : W4.cell? ⟨W2.heap.size, 6, none⟩ = some (.slice none 0 0) := cell_of_row W4 (W2.heap.size) 6 _ _ _ r4b
  clear hB4 r4a r4b
  go_wp2_with fail
  refine (same_calls k1 a1 b1 c1 d1 n1 none none 0 0 W4).mono ?_
  rintro e W5 ⟨rfl, hB5⟩
  have HB5 := hide_ (HB4.out.trans (hB5.mono HB4.out.size))
  clear hB5
  go_wp2_with fail
  refine (awake_calls W5 (HE.out.new HB5.out)).mono ?_
  rintro e W6 ⟨rfl, hB6⟩
  have HB6 := hide_ (HB5.out.trans (hB6.mono HB5.out.size))
  clear hB6
  go_wp2_with fail
  go_ret
  exact ⟨rfl, HB6.out⟩
end Go.Proofs.YtmkcdkfjomaidaaDoor
