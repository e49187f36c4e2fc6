/-
  PROVED HERE: what the texts LayRest, LayAll, Lang, Sets0, Sets, Srch, Takes, TakeI say (each has its own words below).
-/
import Derived.Test.YtofkiaeocfpkeaaGreatDoorSW7
import Derived.Maps.RangeWalk
import Derived.Laws.EntriesVeiled
/- LayRest: reg's lay behind a sign, if lay does as it should with what the sign stands behind; and at nothing: what it returns and leaves; nothing else is turned. -/
namespace Go.Proofs.YtofkiaeocfpkeaaGreatDoor
open Go.RowKit

set_option maxRecDepth 100000 in
set_option maxHeartbeats 2000000 in
theorem laynone_calls (W0 : World) (ga : Option Addr) (gl gc : Nat) (k : Int) (hk : k < 1 ∨ 6 < k) (s : ByteArray) (a : Option Addr) (len cap : Nat) (w : World) (next : Nat) (A : Nat → Prop) (B : Nat) (L : List Place) (hB : Below W0.heap.size W0 w) (hP : PlanIn A w B (.slice ga gl gc) L) :
    Calls Tryz.prog 89 #[.pointer (some ⟨B, 0, none⟩), .agg #[.int .i64 k, .string s, .slice a len cap], .int .i64 (next : Int)] w fun e w' => e = .returned (.int .i64 (next : Int)) ∧ ∃ A', PlanIn A' w' B (.slice ga gl gc) L ∧ Fr A w A' w' := by
  have hbase := hB.size
  have HE : Hid (∃ A', PlanIn A' (laid3 w B k s a len cap next) B (.slice ga gl gc) L ∧ Fr A w A' (laid3 w B k s a len cap next)) := ⟨A, hP.kept (fun _ h => h) fun b hb _ => (laid3_below ..).block b hb, Fr.of_below (laid3_below ..)⟩
  have e1 : (k == 1) = false := by rw [beq_eq_false_iff_ne]; omega
  have e2 : (k == 2) = false := by rw [beq_eq_false_iff_ne]; omega
  have e3 : (k == 3) = false := by rw [beq_eq_false_iff_ne]; omega
  have e4 : (k == 4) = false := by rw [beq_eq_false_iff_ne]; omega
  have e5 : (k == 5) = false := by rw [beq_eq_false_iff_ne]; omega
  have e6 : (k == 6) = false := by rw [beq_eq_false_iff_ne]; omega
  unfold laid3 at HE
  clear hP hB hk
  go_enter Tryz.func89, Tryz.ntmps89
  go_wp2
  go_ret
  exact ⟨rfl, HE.out⟩
/-- The first within, where it lies. -/
theorem kid_one {W0 : World} {n : Nat} {k : Int} {s : ByteArray} {x : DataW Unit} {a : Option Addr} {len cap : Nat} (hE : Ex W0 (n + 1) (node k s [x]) (.agg #[.int .i64 k, .string s, .slice a len cap])) : len = 1 ∧ ∃ b o kx sx ax lx cx, a = some ⟨b, o, none⟩ ∧ Ex W0 n x (.agg #[.int .i64 kx, .string sx, .slice ax lx cx]) ∧
    ∀ W : World, Below W0.heap.size W0 W → W.cell? ⟨b, o, none⟩ = some (.int .i64 kx) ∧ W.cell? ⟨b, o + 1, none⟩ = some (.string sx) ∧ W.cell? ⟨b, o + 2, none⟩ = some (.slice ax lx cx) := by
  obtain ⟨k', s', a', len', cap', ts', hnode, hv, hl, hz, hk⟩ := hE
  obtain ⟨rfl, rfl, rfl⟩ := node_inj.1 hnode
  obtain ⟨rfl, rfl, rfl⟩ : a = a' ∧ len = len' ∧ cap = cap' := by
    have := Array.toList_inj.2 (Value.agg.inj hv)
    simp only [List.cons.injEq, Value.slice.injEq, and_true, true_and] at this
    exact this
  have hlen : len = 1 := by simpa using hl.symm
  obtain ⟨b, o, y, kx, sx, ax, lx, cx, e, hlt, hy, hc⟩ := kid_at hl hk (i := 0) (by omega)
  obtain rfl : x = y := by simpa using hy
  refine ⟨hlen, b, o, kx, sx, ax, lx, cx, e, (hc W0 (Below.refl _ _)).2.2.2, fun W hW => ?_⟩
  obtain ⟨c0, c1, c2, _⟩ := hc W hW
  simp only [Nat.zero_mul, Nat.add_zero] at c0 c1 c2
  exact ⟨c0, c1, c2⟩
set_option maxRecDepth 100000 in
set_option maxHeartbeats 2000000 in
theorem laystar_calls (W0 : World) (gs : List Grp) (ga : Option Addr) (gl gc n : Nat) (hlay : LayC W0 gs ga gl gc n) (s : ByteArray) (a : Option Addr) (len cap : Nat) (x : DataW Unit) (w : World) (next : Nat) (A : Nat → Prop) (B : Nat) (L : List Place)
    (hE : Ex W0 (n + 1) (node 4 s [x]) (.agg #[.int .i64 4, .string s, .slice a len cap])) (hS : SaneD gs n x) (hB : Below W0.heap.size W0 w) (hA : ∀ b, A b → W0.heap.size ≤ b)
    (hP : PlanIn A w B (.slice ga gl gc) L) (hwf : wf L) (hn : next < L.length) (hlen : L.length + (2 + need subs n x) ≤ 1000000000) :
    Calls Tryz.prog 89 #[.pointer (some ⟨B, 0, none⟩), .agg #[.int .i64 4, .string s, .slice a len cap], .int .i64 (next : Int)] w fun e w' => e = .returned (.int .i64 ((layLoop (layD gs n) [x] next L).2.1 : Int)) ∧ ∃ A', PlanIn A' w' B (.slice ga gl gc) (layLoop (layD gs n) [x] next L).1 ∧ Fr A w A' w' := by
  have hbase := hB.size
  obtain ⟨w3, hw3⟩ : ∃ w3, w3 = laid3 w B 4 s a len cap next := ⟨_, rfl⟩
  have hs3 : w3.heap.size = w.heap.size + 3 := by rw [hw3, laid3_size]
  have hb3 : Below w.heap.size w w3 := by rw [hw3]; exact laid3_below ..
  have hP3 : PlanIn (fun b => A b ∧ b < w.heap.size) w3 B (.slice ga gl gc) L := hP.tight.kept (fun _ h => h) fun b hb _ => hb3.block b hb
  have hB3 : Below W0.heap.size W0 w3 := hB.trans (hb3.mono hbase)
  have hA3 : ∀ b, A b ∧ b < w.heap.size → W0.heap.size ≤ b := fun b h => hA b h.1
  obtain ⟨rfl, b, o, kx, sx, ax, lx, cx, rfl, hEx, hkid⟩ := kid_one hE
  have HL : Hid (Calls Tryz.prog 136 #[.pointer (some ⟨B, 0, none⟩), .agg #[.int .i64 kx, .string sx, .slice ax lx cx], .int .i64 (next : Int)] w3.drew fun e w' => e = .returned (.tuple #[.int .i64 ((layLoop (layD gs n) [x] next L).2.1 : Int), .int .i64 ((layLoop (layD gs n) [x] next L).2.2 : Int)]) ∧ ∃ A', PlanIn A' w' B (.slice ga gl gc) (layLoop (layD gs n) [x] next L).1 ∧ Fr (fun b => A b ∧ b < w.heap.size) w3.drew A' w') :=
    loop_calls W0 gs ga gl gc n hlay x _ w3.drew next (fun b => A b ∧ b < w.heap.size) B L hEx hS hB3.drew hA3 (hP3.kept (fun _ h => h) fun _ _ _ => rfl) hwf hn (by omega)
  have HS : Hid (∀ (W : World) (A' : Nat → Prop), Fr (fun b => A b ∧ b < w.heap.size) w3.drew A' W → (W.cell? ⟨w.heap.size, 0, none⟩ = some (.pointer (some ⟨B, 0, none⟩)) ∧ W.cell? ⟨w.heap.size + 1, 2, none⟩ = some (.slice (some ⟨b, o, none⟩) 1 cap) ∧ W.cell? ⟨w.heap.size + 2, 0, none⟩ = some (.int .i64 (next : Int)) ∧ W.cell? ⟨b, o, none⟩ = some (.int .i64 kx) ∧ W.cell? ⟨b, o + 1, none⟩ = some (.string sx) ∧ W.cell? ⟨b, o + 2, none⟩ = some (.slice ax lx cx)) ∧ Fr A w A' W) := by
    intro W A' hF
    obtain ⟨d0, _, _, d3, d4⟩ := laid3_cells (w := w) (X := W) (B := B) (k := 4) (s := s) (a := some ⟨b, o, none⟩) (len := 1) (cap := cap) (next := next) (fun j hj => by
      rw [← hw3]
      exact hF.same _ (by show _ < w3.heap.size; omega) (fun h => by have := h.2; omega))
    obtain ⟨c0, c1, c2⟩ := hkid W (hB3.drew.trans (hF.toBelow (base := W0.heap.size) (by show _ ≤ w3.heap.size; omega) (fun k hk h => by have := hA3 k h; omega)))
    refine ⟨⟨d0, d3, d4, c0, c1, c2⟩, ((Fr.of_below (A := A) hb3.drew).trans (hF.wide (A := A) fun k h => h.1))⟩
  have hw3' : Hid (((w.alloc (.cells #[.pointer (some ⟨B, 0, none⟩)] 149)).alloc (.cells #[.int .i64 4, .string s, .slice (some ⟨b, o, none⟩) 1 cap] 26)).alloc (.cells #[.int .i64 (next : Int)] 3) = w3) := hw3.symm
  generalize layLoop (layD gs n) [x] next L = r at *
  obtain ⟨R, f1, f2⟩ := r
  simp only at *
  have hS0 := (HS.out _ _ (Fr.refl _ _)).1
  clear hP hP3 hB hB3 hE hS hlay hwf hA hA3 hEx hkid hw3 hb3
  go_enter Tryz.func89, Tryz.ntmps89
  go_wp2_with fail
  rw [hw3'.out]
  refine wp_region_held_drew (S := fun W => W.cell? ⟨w.heap.size, 0, none⟩ = some (.pointer (some ⟨B, 0, none⟩)) ∧ W.cell? ⟨w.heap.size + 1, 2, none⟩ = some (.slice (some ⟨b, o, none⟩) 1 cap) ∧ W.cell? ⟨w.heap.size + 2, 0, none⟩ = some (.int .i64 (next : Int)) ∧ W.cell? ⟨b, o, none⟩ = some (.int .i64 kx) ∧ W.cell? ⟨b, o + 1, none⟩ = some (.string sx) ∧ W.cell? ⟨b, o + 2, none⟩ = some (.slice ax lx cx)) hmx hS0 (fun hS => ?_)
  refine takeD 0 (some 88) (v := ?_) rfl rfl (by kernel_rfl) (by kernel_rfl) (by kernel_rfl) (fun _ _ _ h => h) (Or.inl ⟨by rfl, ?_⟩) hS ?_
  rotate_left
  · intro w hSw
    obtain ⟨s1, s2, s3, s4, s5, s6⟩ := hSw
    go_simp
    with_reducible rfl
  try simp only [Act.put, List.setIfInBounds_toArray, List.set_cons_zero, List.set_cons_succ]
  refine takeD 1 (some 89) (v := ?_) rfl rfl (by kernel_rfl) (by kernel_rfl) (by kernel_rfl) (fun _ _ _ h => h) (Or.inl ⟨by rfl, ?_⟩) hS ?_
  rotate_left
  · intro w hSw
    obtain ⟨s1, s2, s3, s4, s5, s6⟩ := hSw
    go_simp
    with_reducible rfl
  try simp only [Act.put, List.setIfInBounds_toArray, List.set_cons_zero, List.set_cons_succ]
  refine takeD 2 (some 90) (v := ?_) rfl rfl (by kernel_rfl) (by kernel_rfl) (by kernel_rfl) (fun _ _ _ h => h) (Or.inl ⟨by rfl, ?_⟩) hS ?_
  rotate_left
  · intro w hSw
    obtain ⟨s1, s2, s3, s4, s5, s6⟩ := hSw
    go_simp
    with_reducible rfl
  try simp only [Act.put, List.setIfInBounds_toArray, List.set_cons_zero, List.set_cons_succ]
  refine takeD 3 (some 91) (v := ?_) rfl rfl (by kernel_rfl) (by kernel_rfl) (by kernel_rfl) (fun _ _ _ h => h) (Or.inl ⟨by rfl, ?_⟩) hS ?_
  rotate_left
  · intro w hSw
    obtain ⟨s1, s2, s3, s4, s5, s6⟩ := hSw
    go_simp
    with_reducible rfl
  try simp only [Act.put, List.setIfInBounds_toArray, List.set_cons_zero, List.set_cons_succ]
  refine takeD 4 (some 92) (v := ?_) rfl rfl (by kernel_rfl) (by kernel_rfl) (by kernel_rfl) (fun _ _ _ h => h) (Or.inl ⟨by rfl, ?_⟩) hS ?_
  rotate_left
  · intro w hSw
    obtain ⟨s1, s2, s3, s4, s5, s6⟩ := hSw
    go_simp
    with_reducible rfl
  try simp only [Act.put, List.setIfInBounds_toArray, List.set_cons_zero, List.set_cons_succ]
  refine takeD 5 (some 93) (v := ?_) rfl rfl (by kernel_rfl) (by kernel_rfl) (by kernel_rfl) (fun _ _ _ h => h) (Or.inl ⟨by rfl, ?_⟩) hS ?_
  rotate_left
  · intro w hSw
    obtain ⟨s1, s2, s3, s4, s5, s6⟩ := hSw
    go_simp
    with_reducible rfl
  try simp only [Act.put, List.setIfInBounds_toArray, List.set_cons_zero, List.set_cons_succ]
  refine callD 6 (by kernel_rfl) rfl (fun K hK => ?_)
  go_simp
  refine HL.out.mono ?_
  rintro e W ⟨rfl, A', hP', hF'⟩
  obtain ⟨hSW, hFw⟩ := HS.out W A' hF'
  refine hK.out _ _ hSW (fun _ => ?_)
  clear hK K
  try simp only [Act.put, List.setIfInBounds_toArray, List.set_cons_zero, List.set_cons_succ]
  refine takeD 7 (some 87) (v := ?_) rfl rfl (by kernel_rfl) (by kernel_rfl) (by kernel_rfl) (fun _ _ _ h => h) (Or.inl ⟨by rfl, ?_⟩) hSW ?_
  rotate_left
  · intro w hSw
    obtain ⟨s1, s2, s3, s4, s5, s6⟩ := hSw
    try go_simp
    with_reducible rfl
  try simp only [Act.put, List.setIfInBounds_toArray, List.set_cons_zero, List.set_cons_succ]
  refine takeD 8 (some 95) (v := ?_) rfl rfl (by kernel_rfl) (by kernel_rfl) (by kernel_rfl) (fun _ _ _ h => h) (Or.inl ⟨by rfl, ?_⟩) hSW ?_
  rotate_left
  · intro w hSw
    obtain ⟨s1, s2, s3, s4, s5, s6⟩ := hSw
    go_simp
    with_reducible rfl
  try simp only [Act.put, List.setIfInBounds_toArray, List.set_cons_zero, List.set_cons_succ]
  refine takeD 9 (some 96) (v := ?_) rfl rfl (by kernel_rfl) (by kernel_rfl) (by kernel_rfl) (fun _ _ _ h => h) (Or.inl ⟨by rfl, ?_⟩) hSW ?_
  rotate_left
  · intro w hSw
    obtain ⟨s1, s2, s3, s4, s5, s6⟩ := hSw
    go_simp
    with_reducible rfl
  try simp only [Act.put, List.setIfInBounds_toArray, List.set_cons_zero, List.set_cons_succ]
  refine takeD 10 (some 12) (v := ?_) rfl rfl (by kernel_rfl) (by kernel_rfl) (by kernel_rfl) (fun _ _ _ h => h) (Or.inl ⟨by rfl, ?_⟩) hSW ?_
  rotate_left
  · intro w hSw
    obtain ⟨s1, s2, s3, s4, s5, s6⟩ := hSw
    try go_simp
    with_reducible rfl
  try simp only [Act.put, List.setIfInBounds_toArray, List.set_cons_zero, List.set_cons_succ]
  refine takeD 11 (some 13) (v := ?_) rfl rfl (by kernel_rfl) (by kernel_rfl) (by kernel_rfl) (fun _ _ _ h => h) (Or.inl ⟨by rfl, ?_⟩) hSW ?_
  rotate_left
  · intro w hSw
    obtain ⟨s1, s2, s3, s4, s5, s6⟩ := hSw
    try go_simp
    with_reducible rfl
  try simp only [Act.put, List.setIfInBounds_toArray, List.set_cons_zero, List.set_cons_succ]
  refine wpAnyH_done (by kernel_rfl) ?_ _
  go_wp2
  go_ret
  exact ⟨rfl, A', hP', hFw⟩
set_option maxRecDepth 100000 in
set_option maxHeartbeats 2000000 in
theorem layplus_calls (W0 : World) (gs : List Grp) (ga : Option Addr) (gl gc n : Nat) (hlay : LayC W0 gs ga gl gc n) (s : ByteArray) (a : Option Addr) (len cap : Nat) (x : DataW Unit) (w : World) (next : Nat) (A : Nat → Prop) (B : Nat) (L : List Place)
    (hE : Ex W0 (n + 1) (node 5 s [x]) (.agg #[.int .i64 5, .string s, .slice a len cap])) (hS : SaneD gs n x) (hB : Below W0.heap.size W0 w) (hA : ∀ b, A b → W0.heap.size ≤ b)
    (hP : PlanIn A w B (.slice ga gl gc) L) (hwf : wf L) (hn : next < L.length) (hlen : L.length + (2 + need subs n x) ≤ 1000000000) :
    Calls Tryz.prog 89 #[.pointer (some ⟨B, 0, none⟩), .agg #[.int .i64 5, .string s, .slice a len cap], .int .i64 (next : Int)] w fun e w' => e = .returned (.int .i64 ((layLoop (layD gs n) [x] next L).2.2 : Int)) ∧ ∃ A', PlanIn A' w' B (.slice ga gl gc) (layLoop (layD gs n) [x] next L).1 ∧ Fr A w A' w' := by
  have hbase := hB.size
  obtain ⟨w3, hw3⟩ : ∃ w3, w3 = laid3 w B 5 s a len cap next := ⟨_, rfl⟩
  have hs3 : w3.heap.size = w.heap.size + 3 := by rw [hw3, laid3_size]
  have hb3 : Below w.heap.size w w3 := by rw [hw3]; exact laid3_below ..
  have hP3 : PlanIn (fun b => A b ∧ b < w.heap.size) w3 B (.slice ga gl gc) L := hP.tight.kept (fun _ h => h) fun b hb _ => hb3.block b hb
  have hB3 : Below W0.heap.size W0 w3 := hB.trans (hb3.mono hbase)
  have hA3 : ∀ b, A b ∧ b < w.heap.size → W0.heap.size ≤ b := fun b h => hA b h.1
  obtain ⟨rfl, b, o, kx, sx, ax, lx, cx, rfl, hEx, hkid⟩ := kid_one hE
  have HL : Hid (Calls Tryz.prog 136 #[.pointer (some ⟨B, 0, none⟩), .agg #[.int .i64 kx, .string sx, .slice ax lx cx], .int .i64 (next : Int)] w3.drew fun e w' => e = .returned (.tuple #[.int .i64 ((layLoop (layD gs n) [x] next L).2.1 : Int), .int .i64 ((layLoop (layD gs n) [x] next L).2.2 : Int)]) ∧ ∃ A', PlanIn A' w' B (.slice ga gl gc) (layLoop (layD gs n) [x] next L).1 ∧ Fr (fun b => A b ∧ b < w.heap.size) w3.drew A' w') :=
    loop_calls W0 gs ga gl gc n hlay x _ w3.drew next (fun b => A b ∧ b < w.heap.size) B L hEx hS hB3.drew hA3 (hP3.kept (fun _ h => h) fun _ _ _ => rfl) hwf hn (by omega)
  have HS : Hid (∀ (W : World) (A' : Nat → Prop), Fr (fun b => A b ∧ b < w.heap.size) w3.drew A' W → (W.cell? ⟨w.heap.size, 0, none⟩ = some (.pointer (some ⟨B, 0, none⟩)) ∧ W.cell? ⟨w.heap.size + 1, 2, none⟩ = some (.slice (some ⟨b, o, none⟩) 1 cap) ∧ W.cell? ⟨w.heap.size + 2, 0, none⟩ = some (.int .i64 (next : Int)) ∧ W.cell? ⟨b, o, none⟩ = some (.int .i64 kx) ∧ W.cell? ⟨b, o + 1, none⟩ = some (.string sx) ∧ W.cell? ⟨b, o + 2, none⟩ = some (.slice ax lx cx)) ∧ Fr A w A' W) := by
    intro W A' hF
    obtain ⟨d0, _, _, d3, d4⟩ := laid3_cells (w := w) (X := W) (B := B) (k := 5) (s := s) (a := some ⟨b, o, none⟩) (len := 1) (cap := cap) (next := next) (fun j hj => by
      rw [← hw3]
      exact hF.same _ (by show _ < w3.heap.size; omega) (fun h => by have := h.2; omega))
    obtain ⟨c0, c1, c2⟩ := hkid W (hB3.drew.trans (hF.toBelow (base := W0.heap.size) (by show _ ≤ w3.heap.size; omega) (fun k hk h => by have := hA3 k h; omega)))
    refine ⟨⟨d0, d3, d4, c0, c1, c2⟩, ((Fr.of_below (A := A) hb3.drew).trans (hF.wide (A := A) fun k h => h.1))⟩
  have hw3' : Hid (((w.alloc (.cells #[.pointer (some ⟨B, 0, none⟩)] 149)).alloc (.cells #[.int .i64 5, .string s, .slice (some ⟨b, o, none⟩) 1 cap] 26)).alloc (.cells #[.int .i64 (next : Int)] 3) = w3) := hw3.symm
  generalize layLoop (layD gs n) [x] next L = r at *
  obtain ⟨R, f1, f2⟩ := r
  simp only at *
  have hS0 := (HS.out _ _ (Fr.refl _ _)).1
  clear hP hP3 hB hB3 hE hS hlay hwf hA hA3 hEx hkid hw3 hb3
  go_enter Tryz.func89, Tryz.ntmps89
  go_wp2_with fail
  rw [hw3'.out]
  refine wp_region_held_drew (S := fun W => W.cell? ⟨w.heap.size, 0, none⟩ = some (.pointer (some ⟨B, 0, none⟩)) ∧ W.cell? ⟨w.heap.size + 1, 2, none⟩ = some (.slice (some ⟨b, o, none⟩) 1 cap) ∧ W.cell? ⟨w.heap.size + 2, 0, none⟩ = some (.int .i64 (next : Int)) ∧ W.cell? ⟨b, o, none⟩ = some (.int .i64 kx) ∧ W.cell? ⟨b, o + 1, none⟩ = some (.string sx) ∧ W.cell? ⟨b, o + 2, none⟩ = some (.slice ax lx cx)) hmx hS0 (fun hS => ?_)
  refine takeD 0 (some 101) (v := ?_) rfl rfl (by kernel_rfl) (by kernel_rfl) (by kernel_rfl) (fun _ _ _ h => h) (Or.inl ⟨by rfl, ?_⟩) hS ?_
  rotate_left
  · intro w hSw
    obtain ⟨s1, s2, s3, s4, s5, s6⟩ := hSw
    go_simp
    with_reducible rfl
  try simp only [Act.put, List.setIfInBounds_toArray, List.set_cons_zero, List.set_cons_succ]
  refine takeD 1 (some 102) (v := ?_) rfl rfl (by kernel_rfl) (by kernel_rfl) (by kernel_rfl) (fun _ _ _ h => h) (Or.inl ⟨by rfl, ?_⟩) hS ?_
  rotate_left
  · intro w hSw
    obtain ⟨s1, s2, s3, s4, s5, s6⟩ := hSw
    go_simp
    with_reducible rfl
  try simp only [Act.put, List.setIfInBounds_toArray, List.set_cons_zero, List.set_cons_succ]
  refine takeD 2 (some 103) (v := ?_) rfl rfl (by kernel_rfl) (by kernel_rfl) (by kernel_rfl) (fun _ _ _ h => h) (Or.inl ⟨by rfl, ?_⟩) hS ?_
  rotate_left
  · intro w hSw
    obtain ⟨s1, s2, s3, s4, s5, s6⟩ := hSw
    go_simp
    with_reducible rfl
  try simp only [Act.put, List.setIfInBounds_toArray, List.set_cons_zero, List.set_cons_succ]
  refine takeD 3 (some 104) (v := ?_) rfl rfl (by kernel_rfl) (by kernel_rfl) (by kernel_rfl) (fun _ _ _ h => h) (Or.inl ⟨by rfl, ?_⟩) hS ?_
  rotate_left
  · intro w hSw
    obtain ⟨s1, s2, s3, s4, s5, s6⟩ := hSw
    go_simp
    with_reducible rfl
  try simp only [Act.put, List.setIfInBounds_toArray, List.set_cons_zero, List.set_cons_succ]
  refine takeD 4 (some 105) (v := ?_) rfl rfl (by kernel_rfl) (by kernel_rfl) (by kernel_rfl) (fun _ _ _ h => h) (Or.inl ⟨by rfl, ?_⟩) hS ?_
  rotate_left
  · intro w hSw
    obtain ⟨s1, s2, s3, s4, s5, s6⟩ := hSw
    go_simp
    with_reducible rfl
  try simp only [Act.put, List.setIfInBounds_toArray, List.set_cons_zero, List.set_cons_succ]
  refine takeD 5 (some 106) (v := ?_) rfl rfl (by kernel_rfl) (by kernel_rfl) (by kernel_rfl) (fun _ _ _ h => h) (Or.inl ⟨by rfl, ?_⟩) hS ?_
  rotate_left
  · intro w hSw
    obtain ⟨s1, s2, s3, s4, s5, s6⟩ := hSw
    go_simp
    with_reducible rfl
  try simp only [Act.put, List.setIfInBounds_toArray, List.set_cons_zero, List.set_cons_succ]
  refine callD 6 (by kernel_rfl) rfl (fun K hK => ?_)
  go_simp
  refine HL.out.mono ?_
  rintro e W ⟨rfl, A', hP', hF'⟩
  obtain ⟨hSW, hFw⟩ := HS.out W A' hF'
  refine hK.out _ _ hSW (fun _ => ?_)
  clear hK K
  try simp only [Act.put, List.setIfInBounds_toArray, List.set_cons_zero, List.set_cons_succ]
  refine takeD 7 (some 100) (v := ?_) rfl rfl (by kernel_rfl) (by kernel_rfl) (by kernel_rfl) (fun _ _ _ h => h) (Or.inl ⟨by rfl, ?_⟩) hSW ?_
  rotate_left
  · intro w hSw
    obtain ⟨s1, s2, s3, s4, s5, s6⟩ := hSw
    try go_simp
    with_reducible rfl
  try simp only [Act.put, List.setIfInBounds_toArray, List.set_cons_zero, List.set_cons_succ]
  refine takeD 8 (some 108) (v := ?_) rfl rfl (by kernel_rfl) (by kernel_rfl) (by kernel_rfl) (fun _ _ _ h => h) (Or.inl ⟨by rfl, ?_⟩) hSW ?_
  rotate_left
  · intro w hSw
    obtain ⟨s1, s2, s3, s4, s5, s6⟩ := hSw
    go_simp
    with_reducible rfl
  try simp only [Act.put, List.setIfInBounds_toArray, List.set_cons_zero, List.set_cons_succ]
  refine takeD 9 (some 109) (v := ?_) rfl rfl (by kernel_rfl) (by kernel_rfl) (by kernel_rfl) (fun _ _ _ h => h) (Or.inl ⟨by rfl, ?_⟩) hSW ?_
  rotate_left
  · intro w hSw
    obtain ⟨s1, s2, s3, s4, s5, s6⟩ := hSw
    go_simp
    with_reducible rfl
  try simp only [Act.put, List.setIfInBounds_toArray, List.set_cons_zero, List.set_cons_succ]
  refine takeD 10 (some 14) (v := ?_) rfl rfl (by kernel_rfl) (by kernel_rfl) (by kernel_rfl) (fun _ _ _ h => h) (Or.inl ⟨by rfl, ?_⟩) hSW ?_
  rotate_left
  · intro w hSw
    obtain ⟨s1, s2, s3, s4, s5, s6⟩ := hSw
    try go_simp
    with_reducible rfl
  try simp only [Act.put, List.setIfInBounds_toArray, List.set_cons_zero, List.set_cons_succ]
  refine takeD 11 (some 15) (v := ?_) rfl rfl (by kernel_rfl) (by kernel_rfl) (by kernel_rfl) (fun _ _ _ h => h) (Or.inl ⟨by rfl, ?_⟩) hSW ?_
  rotate_left
  · intro w hSw
    obtain ⟨s1, s2, s3, s4, s5, s6⟩ := hSw
    try go_simp
    with_reducible rfl
  try simp only [Act.put, List.setIfInBounds_toArray, List.set_cons_zero, List.set_cons_succ]
  refine wpAnyH_done (by kernel_rfl) ?_ _
  go_wp2
  go_ret
  exact ⟨rfl, A', hP', hFw⟩
set_option maxRecDepth 100000 in
set_option maxHeartbeats 2000000 in
theorem layopt_calls (W0 : World) (gs : List Grp) (ga : Option Addr) (gl gc n : Nat) (hlay : LayC W0 gs ga gl gc n) (s : ByteArray) (a : Option Addr) (len cap : Nat) (x : DataW Unit) (w : World) (next : Nat) (A : Nat → Prop) (B : Nat) (L : List Place)
    (hE : Ex W0 (n + 1) (node 6 s [x]) (.agg #[.int .i64 6, .string s, .slice a len cap])) (hS : SaneD gs n x) (hB : Below W0.heap.size W0 w) (hA : ∀ b, A b → W0.heap.size ≤ b)
    (hP : PlanIn A w B (.slice ga gl gc) L) (hwf : wf L) (hn : next < L.length) (hlen : L.length + (2 + need subs n x) ≤ 1000000000) :
    Calls Tryz.prog 89 #[.pointer (some ⟨B, 0, none⟩), .agg #[.int .i64 6, .string s, .slice a len cap], .int .i64 (next : Int)] w fun e w' => e = .returned (.int .i64 ((layOpt (layD gs n) [x] next L).2 : Int)) ∧ ∃ A', PlanIn A' w' B (.slice ga gl gc) (layOpt (layD gs n) [x] next L).1 ∧ Fr A w A' w' := by
  have hbase := hB.size
  obtain ⟨w3, hw3⟩ : ∃ w3, w3 = laid3 w B 6 s a len cap next := ⟨_, rfl⟩
  have hs3 : w3.heap.size = w.heap.size + 3 := by rw [hw3, laid3_size]
  have hb3 : Below w.heap.size w w3 := by rw [hw3]; exact laid3_below ..
  have hP3 : PlanIn (fun b => A b ∧ b < w.heap.size) w3 B (.slice ga gl gc) L := hP.tight.kept (fun _ h => h) fun b hb _ => hb3.block b hb
  have hB3 : Below W0.heap.size W0 w3 := hB.trans (hb3.mono hbase)
  have hA3 : ∀ b, A b ∧ b < w.heap.size → W0.heap.size ≤ b := fun b h => hA b h.1
  obtain ⟨rfl, b, o, kx, sx, ax, lx, cx, rfl, hEx, hkid⟩ := kid_one hE
  obtain ⟨a1, a2, a3, a4, a5, a6⟩ := layD_good gs n x hS next L hwf hn
  have hsn := size_need subs n x
  have HL : Hid (Calls Tryz.prog 89 #[.pointer (some ⟨B, 0, none⟩), .agg #[.int .i64 kx, .string sx, .slice ax lx cx], .int .i64 (next : Int)] w3.drew fun e w' => e = .returned (.int .i64 ((layD gs n x next L).2 : Int)) ∧ ∃ A', PlanIn A' w' B (.slice ga gl gc) (layD gs n x next L).1 ∧ Fr (fun b => A b ∧ b < w.heap.size) w3.drew A' w') :=
    hlay x _ w3.drew next (fun b => A b ∧ b < w.heap.size) B L hEx hS hB3.drew hA3 (hP3.kept (fun _ h => h) fun _ _ _ => rfl) hwf hn (by omega)
  have HS : Hid (∀ (W : World) (A1 A' : Nat → Prop), (∀ k, A1 k → (A k ∧ k < w.heap.size) ∨ w3.heap.size ≤ k) → Fr A1 w3.drew A' W → (W.cell? ⟨w.heap.size, 0, none⟩ = some (.pointer (some ⟨B, 0, none⟩)) ∧ W.cell? ⟨w.heap.size + 1, 2, none⟩ = some (.slice (some ⟨b, o, none⟩) 1 cap) ∧ W.cell? ⟨w.heap.size + 2, 0, none⟩ = some (.int .i64 (next : Int)) ∧ W.cell? ⟨b, o, none⟩ = some (.int .i64 kx) ∧ W.cell? ⟨b, o + 1, none⟩ = some (.string sx) ∧ W.cell? ⟨b, o + 2, none⟩ = some (.slice ax lx cx)) ∧ Fr A w A' W) := by
    intro W A1 A' hA1 hF
    have hnot : ∀ k, k < w3.heap.size → ¬ (A k ∧ k < w.heap.size) → ¬ A1 k := fun k hk h h1 => by
      rcases hA1 k h1 with h2 | h2
      · exact h h2
      · omega
    obtain ⟨d0, _, _, d3, d4⟩ := laid3_cells (w := w) (X := W) (B := B) (k := 6) (s := s) (a := some ⟨b, o, none⟩) (len := 1) (cap := cap) (next := next) (fun j hj => by
      rw [← hw3]
      exact hF.same _ (by show _ < w3.heap.size; omega) (hnot _ (by omega) (fun h => by have := h.2; omega)))
    obtain ⟨c0, c1, c2⟩ := hkid W (hB3.drew.trans (hF.toBelow (base := W0.heap.size) (by show _ ≤ w3.heap.size; omega) (fun k hk => hnot k (by omega) (fun h => by have := hA3 k h; omega))))
    refine ⟨⟨d0, d3, d4, c0, c1, c2⟩, (Fr.of_below (A := A) hb3.drew).trans (hF.less fun k h => ?_)⟩
    rcases hA1 k h with h2 | h2
    · exact .inl h2.1
    · exact .inr h2
  have HF : Hid (∀ (W : World) (A' : Nat → Prop), PlanIn A' W B (.slice ga gl gc) (layD gs n x next L).1 → Fr (fun b => A b ∧ b < w.heap.size) w3.drew A' W →
      Fr (fun b => A b ∧ b < w.heap.size) w3.drew A' (W.alloc (.cells #[.int .i64 (next : Int), .int .i64 ((layD gs n x next L).2 : Int)] 3)) ∧
      Calls Tryz.prog 135 #[.pointer (some ⟨B, 0, none⟩), .slice (some ⟨W.heap.size, 0, none⟩) 2 2] (W.alloc (.cells #[.int .i64 (next : Int), .int .i64 ((layD gs n x next L).2 : Int)] 3)) fun e w' => e = .returned (.int .i64 ((layOpt (layD gs n) [x] next L).2 : Int)) ∧ ∃ A1 A'', (∀ k, A1 k → (A k ∧ k < w.heap.size) ∨ w3.heap.size ≤ k) ∧ PlanIn A'' w' B (.slice ga gl gc) (layOpt (layD gs n) [x] next L).1 ∧ Fr A1 w3.drew A'' w') := by
    intro W A' hP' hF'
    have hFa := hF'.alloc (.cells #[.int .i64 (next : Int), .int .i64 ((layD gs n x next L).2 : Int)] 3)
    refine ⟨hFa, ?_⟩
    have hsz : w3.heap.size ≤ W.heap.size := hF'.below.size
    have := fork_calls (fun k => A' k ∧ k < W.heap.size) B (.slice ga gl gc) (layD gs n x next L).1 (W.alloc (.cells #[.int .i64 (next : Int), .int .i64 ((layD gs n x next L).2 : Int)] 3)) [next, (layD gs n x next L).2] _ 2 2
      (hP'.tight.kept (fun _ h => h) fun k hk _ => Below.heap_alloc W _ k hk) (owns_new2 W next (layD gs n x next L).2) (fun g hg h => by have := own_some hg; have := h.2; omega) (by omega) (by simp) (fun q hq => by
        simp at hq
        rcases hq with rfl | rfl
        · omega
        · exact a2) (by simp) (fun p => by have := a1.least_lt p; omega)
    refine this.mono ?_
    rintro e W2 ⟨rfl, A'', hP'', hF''⟩
    refine ⟨rfl, fun k => (A k ∧ k < w.heap.size) ∨ w3.heap.size ≤ k, A'', fun k h => h, hP'', ?_⟩
    refine (Fr.trans (A' := fun k => (A' k ∧ k < W.heap.size) ∨ (Value.slice (some ⟨W.heap.size, 0, none⟩) 2 2).ownBlock = some k) (w' := W.alloc (.cells #[.int .i64 (next : Int), .int .i64 ((layD gs n x next L).2 : Int)] 3)) ?_ hF'')
    refine ⟨hFa.below, fun k hk hn => hFa.same k hk (fun h => hn (.inl h)), fun k hk => ?_⟩
    rcases hk with h | h
    · rcases hFa.sub k h.1 with h1 | h1
      · exact .inl (.inl h1)
      · exact .inr h1
    · have := own_some h
      exact .inr (by show w3.heap.size ≤ k; omega)
  have hw3' : Hid (((w.alloc (.cells #[.pointer (some ⟨B, 0, none⟩)] 149)).alloc (.cells #[.int .i64 6, .string s, .slice (some ⟨b, o, none⟩) 1 cap] 26)).alloc (.cells #[.int .i64 (next : Int)] 3) = w3) := hw3.symm
  generalize layOpt (layD gs n) [x] next L = r at *
  generalize ((layD gs n x next L).2 : Int) = f1 at *
  obtain ⟨R, f2⟩ := r
  simp only at *
  have hS0 := (HS.out _ _ _ (fun k h => .inl h) (Fr.refl (fun b => A b ∧ b < w.heap.size) w3.drew)).1
  clear hP hP3 hB hB3 hE hS hlay hwf hA hA3 hEx hkid hw3 hb3 a1 a2 a3 a4 a5 a6 hsn
  go_enter Tryz.func89, Tryz.ntmps89
  go_wp2_with fail
  rw [hw3'.out]
  refine wp_region_held_drew (S := fun W => W.cell? ⟨w.heap.size, 0, none⟩ = some (.pointer (some ⟨B, 0, none⟩)) ∧ W.cell? ⟨w.heap.size + 1, 2, none⟩ = some (.slice (some ⟨b, o, none⟩) 1 cap) ∧ W.cell? ⟨w.heap.size + 2, 0, none⟩ = some (.int .i64 (next : Int)) ∧ W.cell? ⟨b, o, none⟩ = some (.int .i64 kx) ∧ W.cell? ⟨b, o + 1, none⟩ = some (.string sx) ∧ W.cell? ⟨b, o + 2, none⟩ = some (.slice ax lx cx)) hmx hS0 (fun hS => ?_)
  refine takeD 0 (some 74) (v := ?_) rfl rfl (by kernel_rfl) (by kernel_rfl) (by kernel_rfl) (fun _ _ _ h => h) (Or.inl ⟨by rfl, ?_⟩) hS ?_
  rotate_left
  · intro w hSw
    obtain ⟨s1, s2, s3, s4, s5, s6⟩ := hSw
    go_simp
    with_reducible rfl
  try simp only [Act.put, List.setIfInBounds_toArray, List.set_cons_zero, List.set_cons_succ]
  refine takeD 1 (some 75) (v := ?_) rfl rfl (by kernel_rfl) (by kernel_rfl) (by kernel_rfl) (fun _ _ _ h => h) (Or.inl ⟨by rfl, ?_⟩) hS ?_
  rotate_left
  · intro w hSw
    obtain ⟨s1, s2, s3, s4, s5, s6⟩ := hSw
    go_simp
    with_reducible rfl
  try simp only [Act.put, List.setIfInBounds_toArray, List.set_cons_zero, List.set_cons_succ]
  refine takeD 2 (some 76) (v := ?_) rfl rfl (by kernel_rfl) (by kernel_rfl) (by kernel_rfl) (fun _ _ _ h => h) (Or.inl ⟨by rfl, ?_⟩) hS ?_
  rotate_left
  · intro w hSw
    obtain ⟨s1, s2, s3, s4, s5, s6⟩ := hSw
    go_simp
    with_reducible rfl
  try simp only [Act.put, List.setIfInBounds_toArray, List.set_cons_zero, List.set_cons_succ]
  refine takeD 3 (some 77) (v := ?_) rfl rfl (by kernel_rfl) (by kernel_rfl) (by kernel_rfl) (fun _ _ _ h => h) (Or.inl ⟨by rfl, ?_⟩) hS ?_
  rotate_left
  · intro w hSw
    obtain ⟨s1, s2, s3, s4, s5, s6⟩ := hSw
    go_simp
    with_reducible rfl
  try simp only [Act.put, List.setIfInBounds_toArray, List.set_cons_zero, List.set_cons_succ]
  refine takeD 4 (some 78) (v := ?_) rfl rfl (by kernel_rfl) (by kernel_rfl) (by kernel_rfl) (fun _ _ _ h => h) (Or.inl ⟨by rfl, ?_⟩) hS ?_
  rotate_left
  · intro w hSw
    obtain ⟨s1, s2, s3, s4, s5, s6⟩ := hSw
    go_simp
    with_reducible rfl
  try simp only [Act.put, List.setIfInBounds_toArray, List.set_cons_zero, List.set_cons_succ]
  refine takeD 5 (some 79) (v := ?_) rfl rfl (by kernel_rfl) (by kernel_rfl) (by kernel_rfl) (fun _ _ _ h => h) (Or.inl ⟨by rfl, ?_⟩) hS ?_
  rotate_left
  · intro w hSw
    obtain ⟨s1, s2, s3, s4, s5, s6⟩ := hSw
    go_simp
    with_reducible rfl
  try simp only [Act.put, List.setIfInBounds_toArray, List.set_cons_zero, List.set_cons_succ]
  refine takeD 6 (some 80) (v := ?_) rfl rfl (by kernel_rfl) (by kernel_rfl) (by kernel_rfl) (fun _ _ _ h => h) (Or.inl ⟨by rfl, ?_⟩) hS ?_
  rotate_left
  · intro w hSw
    obtain ⟨s1, s2, s3, s4, s5, s6⟩ := hSw
    go_simp
    with_reducible rfl
  try simp only [Act.put, List.setIfInBounds_toArray, List.set_cons_zero, List.set_cons_succ]
  refine takeD 7 (some 81) (v := ?_) rfl rfl (by kernel_rfl) (by kernel_rfl) (by kernel_rfl) (fun _ _ _ h => h) (Or.inl ⟨by rfl, ?_⟩) hS ?_
  rotate_left
  · intro w hSw
    obtain ⟨s1, s2, s3, s4, s5, s6⟩ := hSw
    go_simp
    with_reducible rfl
  try simp only [Act.put, List.setIfInBounds_toArray, List.set_cons_zero, List.set_cons_succ]
  refine callD 8 (by kernel_rfl) rfl (fun K hK => ?_)
  go_simp
  refine HL.out.mono ?_
  rintro e W ⟨rfl, A', hP', hF'⟩
  obtain ⟨hFa, HFK⟩ := HF.out W A' hP' hF'
  have hSW := (HS.out W _ A' (fun k h => .inl h) hF').1
  have hSa := (HS.out _ _ A' (fun k h => .inl h) hFa).1
  refine hK.out _ _ hSW (fun _ => ?_)
  clear hK K
  try simp only [Act.put, List.setIfInBounds_toArray, List.set_cons_zero, List.set_cons_succ]
  refine callD 9 (by kernel_rfl) rfl (fun K hK => ?_)
  go_simp
  refine hK.out _ _ hSa (fun _ => ?_)
  clear hK K
  try simp only [Act.put, List.setIfInBounds_toArray, List.set_cons_zero, List.set_cons_succ]
  refine callD 10 (by kernel_rfl) rfl (fun K hK => ?_)
  go_simp
  refine HFK.mono ?_
  rintro e W2 ⟨rfl, A1, A'', hA1, hP2, hF2⟩
  obtain ⟨hS2, hFw⟩ := HS.out W2 A1 A'' hA1 hF2
  refine hK.out _ _ hS2 (fun _ => ?_)
  clear hK K
  try simp only [Act.put, List.setIfInBounds_toArray, List.set_cons_zero, List.set_cons_succ]
  refine takeD 11 (some 6) (v := ?_) rfl rfl (by kernel_rfl) (by kernel_rfl) (by kernel_rfl) (fun _ _ _ h => h) (Or.inl ⟨by rfl, ?_⟩) hS2 ?_
  rotate_left
  · intro w hSw
    obtain ⟨s1, s2, s3, s4, s5, s6⟩ := hSw
    try go_simp
    with_reducible rfl
  try simp only [Act.put, List.setIfInBounds_toArray, List.set_cons_zero, List.set_cons_succ]
  refine wpAnyH_done (by kernel_rfl) ?_ _
  go_wp2
  go_ret
  exact ⟨rfl, A'', hP2, hFw⟩
end Go.Proofs.YtofkiaeocfpkeaaGreatDoor

/- LayAll: reg's lay at every right tree: what it returns and leaves; nothing else is turned. -/
namespace Go.Proofs.YtofkiaeocfpkeaaGreatDoor
open Go.RowKit

theorem layD_node (gs : List Grp) (n : Nat) (k : Int) (s : ByteArray) (ts : List (DataW Unit)) (next : Nat) (L : List Place) : layD gs (n + 1) (node k s ts) next L =
    if k = 1 then (L ++ [(maskG gs s, [next], leastAt L next + 1)], L.length)
    else if k = 2 then laySeq (layD gs n) ts.reverse next L
    else if k = 3 then forkL (layAlt (layD gs n) next ts L []).1 (layAlt (layD gs n) next ts L []).2
    else if k = 4 then ((layLoop (layD gs n) ts next L).1, (layLoop (layD gs n) ts next L).2.1)
    else if k = 5 then ((layLoop (layD gs n) ts next L).1, (layLoop (layD gs n) ts next L).2.2)
    else if k = 6 then layOpt (layD gs n) ts next L
    else (L, next) := by
  unfold layD
  rw [lay, kindT_node, subs_node, nameT_node]
theorem saneD_node {gs : List Grp} {n : Nat} {k : Int} {s : ByteArray} {ts : List (DataW Unit)} (h : SaneD gs (n + 1) (node k s ts)) : (k = 1 → maskG gs s ≠ 0) ∧ (k = 2 ∨ k = 3 → ts ≠ []) ∧ (k = 4 ∨ k = 5 ∨ k = 6 → ∃ x, ts = [x]) ∧ ∀ x ∈ ts, SaneD gs n x := by
  unfold SaneD at h
  rw [Sane, kindT_node, subs_node, nameT_node] at h
  exact h
theorem need_node (n : Nat) (k : Int) (s : ByteArray) (x : DataW Unit) : 2 + need subs n x ≤ need subs (n + 1) (node k s [x]) := by
  rw [need, subs_node]
  simp
  omega
theorem len_need (n : Nat) (k : Int) (s : ByteArray) (ts : List (DataW Unit)) {gs : List Grp} (h : ∀ x ∈ ts, SaneD gs n x) : ts.length ≤ need subs (n + 1) (node k s ts) := by
  rw [need, subs_node]
  cases n with
  | zero =>
    cases ts with
    | nil => simp
    | cons x r => exact (h x (List.mem_cons_self ..)).elim
  | succ n =>
    have : ∀ l : List (DataW Unit), l.length ≤ (l.map (need subs (n + 1))).sum := by
      intro l
      induction l with
      | nil => exact Nat.le_refl _
      | cons x r ih =>
        have h1 : 3 ≤ need subs (n + 1) x := by rw [need]; omega
        rw [List.map_cons, List.sum_cons, List.length_cons]
        omega
    have := this ts
    omega
theorem lay_calls (W0 : World) (gs : List Grp) (ga : Option Addr) (gl gc : Nat) (hG : Groups W0 ga gl gs) (hgr : rightG gs = true) : ∀ n, LayC W0 gs ga gl gc n := by
  intro n
  induction n with
  | zero => intro t v w next A B L hE; exact hE.elim
  | succ n ih =>
    intro t v w next A B L hE hS hB hA hP hwf hn hlen
    have hE' := hE
    obtain ⟨k, s, a, len, cap, ts, rfl, rfl, hl, hz, hk⟩ := hE
    obtain ⟨s1, s3, s4, sk⟩ := saneD_node hS
    have hln := len_need n k s ts sk
    rw [layD_node]
    by_cases k1 : k = 1
    · subst k1
      rw [if_pos rfl]
      exact layname_calls W0 gs ga gl gc hG hgr s a len cap w next A B L hB hA hP hwf hn (by omega)
    rw [if_neg k1]
    by_cases k2 : k = 2
    · subst k2
      rw [if_pos rfl]
      exact layseq_calls W0 gs ga gl gc n ih s a len cap ts w next A B L hE' (s3 (.inl rfl)) sk hB hA hP hwf hn hlen
    rw [if_neg k2]
    by_cases k3 : k = 3
    · subst k3
      rw [if_pos rfl]
      exact layalt_calls W0 gs ga gl gc n ih s a len cap ts w next A B L hE' (s3 (.inr rfl)) sk hB hA hP hwf hn hlen (by omega)
    rw [if_neg k3]
    by_cases k4 : k = 4
    · subst k4
      rw [if_pos rfl]
      obtain ⟨x, rfl⟩ := s4 (.inl rfl)
      have := need_node n 4 s x
      exact laystar_calls W0 gs ga gl gc n ih s a len cap x w next A B L hE' (sk x (List.mem_singleton.2 rfl)) hB hA hP hwf hn (by omega)
    rw [if_neg k4]
    by_cases k5 : k = 5
    · subst k5
      rw [if_pos rfl]
      obtain ⟨x, rfl⟩ := s4 (.inr (.inl rfl))
      have := need_node n 5 s x
      exact layplus_calls W0 gs ga gl gc n ih s a len cap x w next A B L hE' (sk x (List.mem_singleton.2 rfl)) hB hA hP hwf hn (by omega)
    rw [if_neg k5]
    by_cases k6 : k = 6
    · subst k6
      rw [if_pos rfl]
      obtain ⟨x, rfl⟩ := s4 (.inr (.inr rfl))
      have := need_node n 6 s x
      exact layopt_calls W0 gs ga gl gc n ih s a len cap x w next A B L hE' (sk x (List.mem_singleton.2 rfl)) hB hA hP hwf hn (by omega)
    rw [if_neg k6]
    exact laynone_calls W0 ga gl gc k (by omega) s a len cap w next A B L hB hP
end Go.Proofs.YtofkiaeocfpkeaaGreatDoor

/- Lang: the words that lead from where a tree is laid to the end are its own words, one behind the other with those from what comes behind. -/
namespace Go.Proofs.YtofkiaeocfpkeaaGreatDoor

section
variable {T : Type} (K : T → Int) (M : T → Nat) (U : T → List T)

def LSeq (f : T → List Int → Prop) : List T → List Int → Prop
  | [], w => w = []
  | x :: r, w => ∃ u v, w = u ++ v ∧ f x u ∧ LSeq f r v
def LPow (f : List Int → Prop) : Nat → List Int → Prop
  | 0, w => w = []
  | m + 1, w => ∃ u v, w = u ++ v ∧ f u ∧ LPow f m v
/-- The words of a tree. -/
def Lang : Nat → T → List Int → Prop
  | 0, _, _ => False
  | n + 1, t, w =>
    if K t = 1 then ∃ a, w = [a] ∧ takes (M t) a = true
    else if K t = 2 then LSeq (Lang n) (U t) w
    else if K t = 3 then ∃ x ∈ U t, Lang n x w
    else if K t = 4 then ∃ m, LPow (fun v => ∃ x ∈ U t, Lang n x v) m w
    else if K t = 5 then ∃ m, LPow (fun v => ∃ x ∈ U t, Lang n x v) (m + 1) w
    else if K t = 6 then w = [] ∨ ∃ x ∈ U t, Lang n x w
    else w = []

/-- F is as L from place a on, up to place b. -/
def Like (F L : List Place) (a b : Nat) : Prop := ∀ p, a ≤ p → p < b → F[p]? = L[p]?
/-- From where x is laid one reads a word of g, then what leads on. -/
def Sound (f : T → Nat → List Place → List Place × Nat) (g : T → List Int → Prop) (F : List Place) (x : T) : Prop :=
  ∀ next L, wf L → next < L.length → Like F (f x next L).1 L.length (f x next L).1.length → ∀ k w, Reads F k (f x next L).2 w → ∃ u v k', k' ≤ k ∧ w = u ++ v ∧ g x u ∧ Reads F k' next v
def Full (f : T → Nat → List Place → List Place × Nat) (g : T → List Int → Prop) (F : List Place) (x : T) : Prop :=
  ∀ next L, wf L → next < L.length → Like F (f x next L).1 L.length (f x next L).1.length → ∀ u v k, g x u → Reads F k next v → ∃ k', Reads F k' (f x next L).2 (u ++ v)

theorem LSeq_snoc (f : T → List Int → Prop) : ∀ (l : List T) (x : T) (w : List Int), LSeq f (l ++ [x]) w ↔ ∃ u v, w = u ++ v ∧ LSeq f l u ∧ f x v := by
  intro l
  induction l with
  | nil =>
    intro x w
    constructor
    · rintro ⟨u, v, rfl, h1, h2⟩
      rw [LSeq] at h2
      subst h2
      exact ⟨[], u, by simp, rfl, h1⟩
    · rintro ⟨u, v, rfl, h1, h2⟩
      rw [LSeq] at h1
      subst h1
      exact ⟨v, [], by simp, h2, rfl⟩
  | cons y r ih =>
    intro x w
    constructor
    · rintro ⟨u, v, rfl, h1, h2⟩
      obtain ⟨a, b, rfl, h3, h4⟩ := (ih x v).1 h2
      exact ⟨u ++ a, b, by simp, ⟨u, a, rfl, h1, h3⟩, h4⟩
    · rintro ⟨u, v, rfl, ⟨a, b, rfl, h1, h2⟩, h3⟩
      exact ⟨a, b ++ v, by simp, h1, (ih x (b ++ v)).2 ⟨b, v, rfl, h2, h3⟩⟩

variable {f : T → Nat → List Place → List Place × Nat} {g : T → List Int → Prop} {sz : T → Nat} {F : List Place}

theorem Reads.at_fork {k p : Nat} {w : List Int} {x : Place} (hp : 0 < p) (hx : F[p]? = some x) (h0 : x.1 = 0) (h : Reads F k p w) : ∃ q ∈ x.2.1, ∃ k', k' < k ∧ Reads F k' q w := by
  cases k with
  | zero => obtain ⟨rfl, _⟩ := h; omega
  | succ k =>
    rcases h with ⟨rfl, _⟩ | ⟨y, hy, h⟩
    · omega
    · rw [hx] at hy
      cases hy
      rcases h with ⟨_, q, hq, hr⟩ | ⟨h1, _⟩
      · exact ⟨q, hq, k, Nat.lt_succ_self _, hr⟩
      · exact absurd h0 h1
theorem Reads.by_fork {k p q : Nat} {w : List Int} {x : Place} (hx : F[p]? = some x) (h0 : x.1 = 0) (hq : q ∈ x.2.1) (h : Reads F k q w) : Reads F (k + 1) p w :=
  .inr ⟨x, hx, .inl ⟨h0, q, hq, h⟩⟩

theorem laySeq_sound : ∀ (l : List T), (∀ x ∈ l, Good f sz x) → (∀ x ∈ l, Sound f g F x) → ∀ next L, wf L → next < L.length → Like F (laySeq f l next L).1 L.length (laySeq f l next L).1.length →
    ∀ k w, Reads F k (laySeq f l next L).2 w → ∃ u v k', k' ≤ k ∧ w = u ++ v ∧ LSeq g l.reverse u ∧ Reads F k' next v := by
  intro l
  induction l with
  | nil => intro _ _ next L _ _ _ k w h; exact ⟨[], w, k, Nat.le_refl _, rfl, rfl, h⟩
  | cons x r ih =>
    intro hg hs next L hL hn hF k w h
    obtain ⟨a1, a2, a3, a4, a5, a6⟩ := hg x (List.mem_cons_self ..) next L hL hn
    obtain ⟨b1, b2, b3, b4, b5, b6⟩ := laySeq_good r (fun y hy => hg y (List.mem_cons_of_mem _ hy)) (f x next L).2 (f x next L).1 a1 a2
    rw [laySeq] at hF h
    obtain ⟨u, v, k', hk, rfl, hu, hv⟩ := ih (fun y hy => hg y (List.mem_cons_of_mem _ hy)) (fun y hy => hs y (List.mem_cons_of_mem _ hy)) _ _ a1 a2 (fun p h1 h2 => hF p (by omega) h2) k w h
    obtain ⟨u', v', k'', hk', rfl, hu', hv'⟩ := hs x (List.mem_cons_self ..) next L hL hn (fun p h1 h2 => (hF p h1 (by omega)).trans (b4 p h2)) k' v hv
    rw [List.reverse_cons]
    exact ⟨u ++ u', v', k'', by omega, by simp, (LSeq_snoc g _ _ _).2 ⟨u, u', rfl, hu, hu'⟩, hv'⟩
theorem laySeq_full : ∀ (l : List T), (∀ x ∈ l, Good f sz x) → (∀ x ∈ l, Full f g F x) → ∀ next L, wf L → next < L.length → Like F (laySeq f l next L).1 L.length (laySeq f l next L).1.length →
    ∀ u v k, LSeq g l.reverse u → Reads F k next v → ∃ k', Reads F k' (laySeq f l next L).2 (u ++ v) := by
  intro l
  induction l with
  | nil => intro _ _ next L _ _ _ u v k hu hv; rw [List.reverse_nil, LSeq] at hu; subst hu; exact ⟨k, hv⟩
  | cons x r ih =>
    intro hg hs next L hL hn hF u v k hu hv
    obtain ⟨a1, a2, a3, a4, a5, a6⟩ := hg x (List.mem_cons_self ..) next L hL hn
    obtain ⟨b1, b2, b3, b4, b5, b6⟩ := laySeq_good r (fun y hy => hg y (List.mem_cons_of_mem _ hy)) (f x next L).2 (f x next L).1 a1 a2
    rw [laySeq] at hF ⊢
    rw [List.reverse_cons] at hu
    obtain ⟨u1, u2, rfl, h1, h2⟩ := (LSeq_snoc g _ _ _).1 hu
    obtain ⟨k1, hk1⟩ := hs x (List.mem_cons_self ..) next L hL hn (fun p h1 h2 => (hF p h1 (by omega)).trans (b4 p h2)) u2 v k h2 hv
    obtain ⟨k2, hk2⟩ := ih (fun y hy => hg y (List.mem_cons_of_mem _ hy)) (fun y hy => hs y (List.mem_cons_of_mem _ hy)) _ _ a1 a2 (fun p h1 h2 => hF p (by omega) h2) u1 (u2 ++ v) k1 h1 hk1
    exact ⟨k2, by rw [List.append_assoc]; exact hk2⟩
theorem layAlt_mem (next : Nat) : ∀ (l : List T), (∀ x ∈ l, Good f sz x) → ∀ (L : List Place) (ways : List Nat), wf L → next < L.length → Like F (layAlt f next l L ways).1 L.length (layAlt f next l L ways).1.length →
    (∀ q ∈ (layAlt f next l L ways).2, q ∈ ways ∨ ∃ x ∈ l, ∃ L', wf L' ∧ next < L'.length ∧ Like F (f x next L').1 L'.length (f x next L').1.length ∧ q = (f x next L').2) ∧
    (∀ q ∈ ways, q ∈ (layAlt f next l L ways).2) ∧ (∀ x ∈ l, ∃ L', wf L' ∧ next < L'.length ∧ Like F (f x next L').1 L'.length (f x next L').1.length ∧ (f x next L').2 ∈ (layAlt f next l L ways).2) := by
  intro l
  induction l with
  | nil => intro _ L ways _ _ _; exact ⟨fun q hq => .inl hq, fun q hq => hq, fun x hx => by cases hx⟩
  | cons x r ih =>
    intro hg L ways hL hn hF
    obtain ⟨a1, a2, a3, a4, a5, a6⟩ := hg x (List.mem_cons_self ..) next L hL hn
    rw [layAlt] at hF ⊢
    have hlen : (f x next L).1.length ≤ (layAlt f next r (f x next L).1 (ways ++ [(f x next L).2])).1.length ∧ ∀ p, p < (f x next L).1.length → (layAlt f next r (f x next L).1 (ways ++ [(f x next L).2])).1[p]? = (f x next L).1[p]? := by
      have : ∀ (l : List T), (∀ y ∈ l, Good f sz y) → ∀ (L : List Place) (ws : List Nat), wf L → next < L.length → L.length ≤ (layAlt f next l L ws).1.length ∧ ∀ p, p < L.length → (layAlt f next l L ws).1[p]? = L[p]? := by
        intro l
        induction l with
        | nil => intro _ L ws _ _; exact ⟨Nat.le_refl _, fun _ _ => rfl⟩
        | cons y r ih2 =>
          intro hg L ws hL hn
          obtain ⟨a1, a2, a3, a4, a5, a6⟩ := hg y (List.mem_cons_self ..) next L hL hn
          rw [layAlt]
          obtain ⟨c1, c2⟩ := ih2 (fun z hz => hg z (List.mem_cons_of_mem _ hz)) (f y next L).1 (ws ++ [(f y next L).2]) a1 (by omega)
          exact ⟨by omega, fun p hp => (c2 p (by omega)).trans (a4 p hp)⟩
      exact this r (fun y hy => hg y (List.mem_cons_of_mem _ hy)) _ _ a1 (by omega)
    obtain ⟨l1, l2⟩ := hlen
    have hFx : Like F (f x next L).1 L.length (f x next L).1.length := fun p h1 h2 => (hF p h1 (by omega)).trans (l2 p h2)
    obtain ⟨b1, b2, b3⟩ := ih (fun y hy => hg y (List.mem_cons_of_mem _ hy)) (f x next L).1 (ways ++ [(f x next L).2]) a1 (by omega) (fun p h1 h2 => hF p (by omega) h2)
    refine ⟨fun q hq => ?_, fun q hq => b2 q (List.mem_append_left _ hq), fun y hy => ?_⟩
    · rcases b1 q hq with h | ⟨y, hy, h⟩
      · rcases List.mem_append.1 h with h | h
        · exact .inl h
        · simp at h
          exact .inr ⟨x, List.mem_cons_self .., L, hL, hn, hFx, h⟩
      · exact .inr ⟨y, List.mem_cons_of_mem _ hy, h⟩
    · rcases List.mem_cons.1 hy with rfl | hy
      · exact ⟨L, hL, hn, hFx, b2 _ (by simp)⟩
      · exact b3 y hy
/-- The places of a loop, in F. -/
theorem loop_like {x : T} (hg : Good f sz x) {next : Nat} {L : List Place} (hL : wf L) (hn : next < L.length) (hF : Like F (layLoop f [x] next L).1 L.length (layLoop f [x] next L).1.length) :
    wf (forkL L [next]).1 ∧ L.length < (forkL L [next]).1.length ∧ Like F (f x L.length (forkL L [next]).1).1 (forkL L [next]).1.length (f x L.length (forkL L [next]).1).1.length ∧ F[L.length]? = some (0, [next, (f x L.length (forkL L [next]).1).2], forkLeast L [next]) := by
  obtain ⟨c1, c2, c3, c4, c5⟩ := forkL_ok hL (ways := [next]) (by simp) (by simpa using hn) (m := leastAt L next) (by simp)
  obtain ⟨a1, a2, a3, a4, a5, a6⟩ := hg L.length (forkL L [next]).1 c1 (by omega)
  rw [layLoop] at hF
  refine ⟨c1, by omega, fun p h1 h2 => ?_, ?_⟩
  · rw [hF p (by omega) (by rw [addNext_length]; exact h2)]
    exact addNext_ne (by omega)
  · rw [hF L.length (Nat.le_refl _) (by rw [addNext_length]; omega)]
    exact addNext_eq ((a4 _ (by omega)).trans get_snoc_eq)
theorem loop_sound {x : T} (hg : Good f sz x) (hs : Sound f g F x) {next : Nat} {L : List Place} (hL : wf L) (hn : next < L.length) (hF : Like F (layLoop f [x] next L).1 L.length (layLoop f [x] next L).1.length) :
    ∀ k w, Reads F k L.length w → ∃ m u v k', k' ≤ k ∧ w = u ++ v ∧ LPow (g x) m u ∧ Reads F k' next v := by
  obtain ⟨c1, c2, c3, c4⟩ := loop_like hg hL hn hF
  have hpos := hL.pos
  intro k
  induction k using Nat.strongRecOn with
  | _ k ih =>
    intro w h
    obtain ⟨q, hq, k1, hk1, hr⟩ := h.at_fork hpos c4 rfl
    simp at hq
    rcases hq with rfl | rfl
    · exact ⟨0, [], w, k1, by omega, rfl, rfl, hr⟩
    · obtain ⟨u, v, k2, hk2, rfl, hu, hv⟩ := hs L.length _ c1 c2 c3 k1 w hr
      obtain ⟨m, u', v', k3, hk3, rfl, hu', hv'⟩ := ih k2 (by omega) v hv
      exact ⟨m + 1, u ++ u', v', k3, by omega, by simp, ⟨u, u', rfl, hu, hu'⟩, hv'⟩
theorem loop_full {x : T} (hg : Good f sz x) (hs : Full f g F x) {next : Nat} {L : List Place} (hL : wf L) (hn : next < L.length) (hF : Like F (layLoop f [x] next L).1 L.length (layLoop f [x] next L).1.length) :
    ∀ m u v k, LPow (g x) m u → Reads F k next v → ∃ k', Reads F k' L.length (u ++ v) := by
  obtain ⟨c1, c2, c3, c4⟩ := loop_like hg hL hn hF
  intro m
  induction m with
  | zero =>
    intro u v k hu hv
    rw [LPow] at hu
    subst hu
    exact ⟨k + 1, Reads.by_fork (q := next) c4 rfl (by simp) hv⟩
  | succ m ih =>
    rintro u v k ⟨u1, u2, rfl, h1, h2⟩ hv
    obtain ⟨k1, hk1⟩ := ih u2 v k h2 hv
    obtain ⟨k2, hk2⟩ := hs L.length _ c1 c2 c3 u1 (u2 ++ v) k1 h1 hk1
    exact ⟨k2 + 1, Reads.by_fork (q := (f x L.length (forkL L [next]).1).2) c4 rfl (by simp) (by rw [List.append_assoc]; exact hk2)⟩
theorem one_ex {x : T} {p : T → Prop} : (∃ y ∈ [x], p y) ↔ p x := by simp
theorem lay_sound : ∀ (n : Nat) (t : T), Sane K M U n t → Sound (lay K M U n) (Lang K M U n) F t := by
  intro n
  induction n with
  | zero => intro t h; exact h.elim
  | succ n ih =>
    intro t hS next L hL hn hF k w hr
    have hG := lay_good K M U (n + 1) t hS next L hL hn
    obtain ⟨s1, s3, s4, sk⟩ := hS
    have hk : ∀ x ∈ U t, Good (lay K M U n) (size U n) x := fun x hx => lay_good K M U n x (sk x hx)
    have hs : ∀ x ∈ U t, Sound (lay K M U n) (Lang K M U n) F x := fun x hx => ih x (sk x hx)
    have hpos := hL.pos
    rw [lay] at hF hr hG
    simp only [Lang]
    by_cases k1 : K t = 1
    · rw [if_pos k1] at hF hr hG
      simp only [if_pos k1]
      have hx : F[L.length]? = some (M t, [next], leastAt L next + 1) := (hF L.length (Nat.le_refl _) (by simp)).trans get_snoc_eq
      cases k with
      | zero => obtain ⟨e, _⟩ := hr; simp at e; simp [e] at hpos
      | succ k =>
        rcases hr with ⟨e, _⟩ | ⟨y, hy, h⟩
        · simp at e; simp [e] at hpos
        · have hy' : F[L.length]? = some y := hy
          rw [hx] at hy'
          cases hy'
          rcases h with ⟨h0, _⟩ | ⟨_, a, v, q, rfl, ha, hq, hv⟩
          · exact absurd h0 (s1 k1)
          · simp at hq
            subst hq
            exact ⟨[a], v, k, Nat.le_succ _, rfl, ⟨a, rfl, ha⟩, hv⟩
    rw [if_neg k1] at hF hr hG
    simp only [if_neg k1]
    by_cases k2 : K t = 2
    · rw [if_pos k2] at hF hr hG
      simp only [if_pos k2]
      obtain ⟨u, v, k', h1, h2, h3, h4⟩ := laySeq_sound (U t).reverse (fun x hx => hk x (List.mem_reverse.1 hx)) (fun x hx => hs x (List.mem_reverse.1 hx)) next L hL hn hF k w hr
      rw [List.reverse_reverse] at h3
      exact ⟨u, v, k', h1, h2, h3, h4⟩
    rw [if_neg k2] at hF hr hG
    simp only [if_neg k2]
    by_cases k3 : K t = 3
    · rw [if_pos k3] at hF hr hG
      simp only [if_pos k3]
      obtain ⟨b1, b2, b3, b4, b5, b6⟩ := layAlt_good next (U t) hk L [] hL hn (fun q hq => by cases hq)
      have hlen : (forkL (layAlt (lay K M U n) next (U t) L []).1 (layAlt (lay K M U n) next (U t) L []).2).1.length = (layAlt (lay K M U n) next (U t) L []).1.length + 1 := by simp [forkL]
      have hx : F[(layAlt (lay K M U n) next (U t) L []).1.length]? = some (0, (layAlt (lay K M U n) next (U t) L []).2, forkLeast (layAlt (lay K M U n) next (U t) L []).1 (layAlt (lay K M U n) next (U t) L []).2) := (hF _ (by omega) (by omega)).trans get_snoc_eq
      obtain ⟨q, hq, k1', hk1, hr'⟩ := Reads.at_fork (p := (layAlt (lay K M U n) next (U t) L []).1.length) (by omega) hx rfl hr
      have hF' : Like F (layAlt (lay K M U n) next (U t) L []).1 L.length (layAlt (lay K M U n) next (U t) L []).1.length := fun p h1 h2 => (hF p h1 (by omega)).trans (get_snoc_lt h2)
      rcases (layAlt_mem next (U t) hk L [] hL hn hF').1 q hq with h | ⟨x, hx, L', d1, d2, d3, rfl⟩
      · cases h
      · obtain ⟨u, v, k', h1, h2, h3, h4⟩ := hs x hx next L' d1 d2 d3 k1' w hr'
        exact ⟨u, v, k', by omega, h2, ⟨x, hx, h3⟩, h4⟩
    rw [if_neg k3] at hF hr hG
    simp only [if_neg k3]
    by_cases k4 : K t = 4
    · rw [if_pos k4] at hF hr hG
      simp only [if_pos k4]
      obtain ⟨x, hx⟩ := s4 (.inl k4)
      rw [hx] at hF hr hG hk hs ⊢
      simp only [one_ex]
      obtain ⟨m, u, v, k', h1, h2, h3, h4⟩ := loop_sound (hk x (List.mem_singleton.2 rfl)) (hs x (List.mem_singleton.2 rfl)) hL hn hF k w hr
      exact ⟨u, v, k', h1, h2, ⟨m, h3⟩, h4⟩
    rw [if_neg k4] at hF hr hG
    simp only [if_neg k4]
    by_cases k5 : K t = 5
    · rw [if_pos k5] at hF hr hG
      simp only [if_pos k5]
      obtain ⟨x, hx⟩ := s4 (.inr (.inl k5))
      rw [hx] at hF hr hG hk hs ⊢
      simp only [one_ex]
      obtain ⟨c1, c2, c3, c4⟩ := loop_like (hk x (List.mem_singleton.2 rfl)) hL hn hF
      obtain ⟨u, v, k1', hk1, rfl, hu, hv⟩ := hs x (List.mem_singleton.2 rfl) L.length _ c1 c2 c3 k w hr
      obtain ⟨m, u', v', k', h1, rfl, h3, h4⟩ := loop_sound (hk x (List.mem_singleton.2 rfl)) (hs x (List.mem_singleton.2 rfl)) hL hn hF k1' v hv
      exact ⟨u ++ u', v', k', by omega, by simp, ⟨m, u, u', rfl, hu, h3⟩, h4⟩
    rw [if_neg k5] at hF hr hG
    simp only [if_neg k5]
    by_cases k6 : K t = 6
    · rw [if_pos k6] at hF hr hG
      simp only [if_pos k6]
      obtain ⟨x, hx⟩ := s4 (.inr (.inr k6))
      rw [hx] at hF hr hG hk hs ⊢
      simp only [one_ex]
      rw [layOpt] at hF hr
      obtain ⟨a1, a2, a3, a4, a5, a6⟩ := hk x (List.mem_singleton.2 rfl) next L hL hn
      have hlen : (forkL (lay K M U n x next L).1 [next, (lay K M U n x next L).2]).1.length = (lay K M U n x next L).1.length + 1 := by simp [forkL]
      have hat : F[(lay K M U n x next L).1.length]? = some (0, [next, (lay K M U n x next L).2], forkLeast (lay K M U n x next L).1 [next, (lay K M U n x next L).2]) := (hF _ (by omega) (by omega)).trans get_snoc_eq
      obtain ⟨q, hq, k1', hk1, hr'⟩ := Reads.at_fork (p := (lay K M U n x next L).1.length) (by omega) hat rfl hr
      simp at hq
      rcases hq with rfl | rfl
      · exact ⟨[], w, k1', by omega, rfl, .inl rfl, hr'⟩
      · obtain ⟨u, v, k', h1, h2, h3, h4⟩ := hs x (List.mem_singleton.2 rfl) next L hL hn (fun p h1 h2 => (hF p h1 (by omega)).trans (get_snoc_lt h2)) k1' w hr'
        exact ⟨u, v, k', by omega, h2, .inr h3, h4⟩
    rw [if_neg k6] at hF hr hG
    simp only [if_neg k6]
    exact ⟨[], w, k, Nat.le_refl _, rfl, rfl, hr⟩
theorem lay_full : ∀ (n : Nat) (t : T), Sane K M U n t → Full (lay K M U n) (Lang K M U n) F t := by
  intro n
  induction n with
  | zero => intro t h; exact h.elim
  | succ n ih =>
    intro t hS next L hL hn hF u v k hu hv
    have hG := lay_good K M U (n + 1) t hS next L hL hn
    obtain ⟨s1, s3, s4, sk⟩ := hS
    have hk : ∀ x ∈ U t, Good (lay K M U n) (size U n) x := fun x hx => lay_good K M U n x (sk x hx)
    have hs : ∀ x ∈ U t, Full (lay K M U n) (Lang K M U n) F x := fun x hx => ih x (sk x hx)
    have hpos := hL.pos
    rw [lay] at hF hG ⊢
    rw [Lang] at hu
    by_cases k1 : K t = 1
    · rw [if_pos k1] at hF hG hu ⊢
      obtain ⟨a, rfl, ha⟩ := hu
      exact ⟨k + 1, .inr ⟨_, (hF L.length (Nat.le_refl _) (by simp)).trans get_snoc_eq, .inr ⟨s1 k1, a, v, next, rfl, ha, rfl, hv⟩⟩⟩
    rw [if_neg k1] at hF hG hu ⊢
    by_cases k2 : K t = 2
    · rw [if_pos k2] at hF hG hu ⊢
      exact laySeq_full (U t).reverse (fun x hx => hk x (List.mem_reverse.1 hx)) (fun x hx => hs x (List.mem_reverse.1 hx)) next L hL hn hF u v k (by rw [List.reverse_reverse]; exact hu) hv
    rw [if_neg k2] at hF hG hu ⊢
    by_cases k3 : K t = 3
    · rw [if_pos k3] at hF hG hu ⊢
      obtain ⟨b1, b2, b3, b4, b5, b6⟩ := layAlt_good next (U t) hk L [] hL hn (fun q hq => by cases hq)
      have hlen : (forkL (layAlt (lay K M U n) next (U t) L []).1 (layAlt (lay K M U n) next (U t) L []).2).1.length = (layAlt (lay K M U n) next (U t) L []).1.length + 1 := by simp [forkL]
      have hx : F[(layAlt (lay K M U n) next (U t) L []).1.length]? = some (0, (layAlt (lay K M U n) next (U t) L []).2, forkLeast (layAlt (lay K M U n) next (U t) L []).1 (layAlt (lay K M U n) next (U t) L []).2) := (hF _ (by omega) (by omega)).trans get_snoc_eq
      have hF' : Like F (layAlt (lay K M U n) next (U t) L []).1 L.length (layAlt (lay K M U n) next (U t) L []).1.length := fun p h1 h2 => (hF p h1 (by omega)).trans (get_snoc_lt h2)
      obtain ⟨x, hxm, hxu⟩ := hu
      obtain ⟨L', d1, d2, d3, d4⟩ := (layAlt_mem next (U t) hk L [] hL hn hF').2.2 x hxm
      obtain ⟨k1', hk1⟩ := hs x hxm next L' d1 d2 d3 u v k hxu hv
      exact ⟨k1' + 1, Reads.by_fork hx rfl d4 hk1⟩
    rw [if_neg k3] at hF hG hu ⊢
    by_cases k4 : K t = 4
    · rw [if_pos k4] at hF hG hu ⊢
      obtain ⟨x, hx⟩ := s4 (.inl k4)
      rw [hx] at hF hG hk hs hu ⊢
      simp only [one_ex] at hu
      obtain ⟨m, hm⟩ := hu
      exact loop_full (hk x (List.mem_singleton.2 rfl)) (hs x (List.mem_singleton.2 rfl)) hL hn hF m u v k hm hv
    rw [if_neg k4] at hF hG hu ⊢
    by_cases k5 : K t = 5
    · rw [if_pos k5] at hF hG hu ⊢
      obtain ⟨x, hx⟩ := s4 (.inr (.inl k5))
      rw [hx] at hF hG hk hs hu ⊢
      simp only [one_ex] at hu
      obtain ⟨m, u1, u2, rfl, h1, h2⟩ := hu
      obtain ⟨c1, c2, c3, c4⟩ := loop_like (hk x (List.mem_singleton.2 rfl)) hL hn hF
      obtain ⟨k1', hk1⟩ := loop_full (hk x (List.mem_singleton.2 rfl)) (hs x (List.mem_singleton.2 rfl)) hL hn hF m u2 v k h2 hv
      rw [List.append_assoc]
      exact hs x (List.mem_singleton.2 rfl) L.length _ c1 c2 c3 u1 (u2 ++ v) k1' h1 hk1
    rw [if_neg k5] at hF hG hu ⊢
    by_cases k6 : K t = 6
    · rw [if_pos k6] at hF hG hu ⊢
      obtain ⟨x, hx⟩ := s4 (.inr (.inr k6))
      rw [hx] at hF hG hk hs hu ⊢
      simp only [one_ex] at hu
      rw [layOpt] at hF ⊢
      obtain ⟨a1, a2, a3, a4, a5, a6⟩ := hk x (List.mem_singleton.2 rfl) next L hL hn
      have hlen : (forkL (lay K M U n x next L).1 [next, (lay K M U n x next L).2]).1.length = (lay K M U n x next L).1.length + 1 := by simp [forkL]
      have hat : F[(lay K M U n x next L).1.length]? = some (0, [next, (lay K M U n x next L).2], forkLeast (lay K M U n x next L).1 [next, (lay K M U n x next L).2]) := (hF _ (by omega) (by omega)).trans get_snoc_eq
      rcases hu with rfl | hu
      · exact ⟨k + 1, Reads.by_fork (q := next) hat rfl (by simp) hv⟩
      · obtain ⟨k1', hk1⟩ := hs x (List.mem_singleton.2 rfl) next L hL hn (fun p h1 h2 => (hF p h1 (by omega)).trans (get_snoc_lt h2)) u v k hu hv
        exact ⟨k1' + 1, Reads.by_fork (q := (lay K M U n x next L).2) hat rfl (by simp) hk1⟩
    rw [if_neg k6] at hF hG hu ⊢
    subst hu
    exact ⟨k, hv⟩
end
end Go.Proofs.YtofkiaeocfpkeaaGreatDoor

/- Sets0: plain facts on sets of places: what forks reach, what is reached behind a type, behind a word. -/
namespace Go.Proofs.YtofkiaeocfpkeaaGreatDoor

/-- From p forks lead to q, in at most k moves. -/
def Via (F : List Place) : Nat → Nat → Nat → Prop
  | 0, p, q => p = q
  | k + 1, p, q => p = q ∨ ∃ x, F[p]? = some x ∧ x.1 = 0 ∧ ∃ r ∈ x.2.1, Via F k r q
theorem Via.up {F : List Place} : ∀ {k p q : Nat}, Via F k p q → Via F (k + 1) p q := by
  intro k
  induction k with
  | zero => intro p q h; exact .inl h
  | succ k ih =>
    intro p q h
    rcases h with h | ⟨x, hx, h0, r, hr, h⟩
    · exact .inl h
    · exact .inr ⟨x, hx, h0, r, hr, ih h⟩
theorem Via.upto {F : List Place} {k m p q : Nat} (h : k ≤ m) (hr : Via F k p q) : Via F m p q := by
  induction h with
  | refl => exact hr
  | step _ ih => exact Via.up ih
theorem Via.trans {F : List Place} : ∀ {k p q : Nat}, Via F k p q → ∀ {m r : Nat}, Via F m q r → Via F (k + m) p r := by
  intro k
  induction k with
  | zero =>
    rintro p q rfl m r h
    simpa using h
  | succ k ih =>
    intro p q h m r h'
    rw [show k + 1 + m = k + m + 1 from by omega]
    rcases h with rfl | ⟨x, hx, h0, s, hs, h⟩
    · exact Via.upto (by omega) h'
    · exact .inr ⟨x, hx, h0, s, hs, ih h h'⟩
theorem Via.one {F : List Place} {p q : Nat} {x : Place} (hx : F[p]? = some x) (h0 : x.1 = 0) (hq : q ∈ x.2.1) : Via F 1 p q := .inr ⟨x, hx, h0, q, hq, rfl⟩
/-- All that forks reach is in it. -/
def Shut1 (F : List Place) (S : Nat → Prop) : Prop := ∀ p x, S p → F[p]? = some x → x.1 = 0 → ∀ q ∈ x.2.1, S q
theorem Shut1.via {F : List Place} {S : Nat → Prop} (h : Shut1 F S) : ∀ {k p q : Nat}, S p → Via F k p q → S q := by
  intro k
  induction k with
  | zero => rintro p q hp rfl; exact hp
  | succ k ih =>
    intro p q hp hv
    rcases hv with rfl | ⟨x, hx, h0, r, hr, hv⟩
    · exact hp
    · exact ih (h p x hp hx h0 r hr) hv
/-- What is reached from p without a type. -/
def startS (F : List Place) (p : Nat) : Nat → Prop := fun q => ∃ k, Via F k p q
theorem startS_shut (F : List Place) (p : Nat) : Shut1 F (startS F p) := fun _q _x ⟨_, hk⟩ hx h0 _ hr => ⟨_, hk.trans (Via.one hx h0 hr)⟩
/-- What is reached behind the type t. -/
def stepS (F : List Place) (S : Nat → Prop) (t : Int) : Nat → Prop := fun q => ∃ a x r k, S a ∧ F[a]? = some x ∧ takes x.1 t = true ∧ x.2.1[0]? = some r ∧ Via F k r q
theorem stepS_shut (F : List Place) (S : Nat → Prop) (t : Int) : Shut1 F (stepS F S t) := fun _q _x ⟨a, y, r, _, h1, h2, h3, h4, hk⟩ hx h0 _ hr => ⟨a, y, r, _, h1, h2, h3, h4, hk.trans (Via.one hx h0 hr)⟩
/-- What is reached behind a word. -/
def afterS (F : List Place) (S : Nat → Prop) (w : List Int) : Nat → Prop := w.foldl (stepS F) S
theorem afterS_shut {F : List Place} {S : Nat → Prop} (h : Shut1 F S) : ∀ w, Shut1 F (afterS F S w) := by
  intro w
  induction w generalizing S with
  | nil => exact h
  | cons t r ih => exact ih (stepS_shut F S t)
theorem afterS_snoc (F : List Place) (S : Nat → Prop) (w : List Int) (t : Int) : afterS F S (w ++ [t]) = stepS F (afterS F S w) t := by unfold afterS; rw [List.foldl_append]; rfl
theorem afterS_empty {F : List Place} {S : Nat → Prop} (h : ∀ p, ¬ S p) : ∀ w p, ¬ afterS F S w p := by
  intro w
  induction w generalizing S with
  | nil => exact h
  | cons t r ih => exact ih (fun p ⟨a, _, _, _, h1, _⟩ => h a h1)
/-- What reads a word to the end is what comes to the end. -/
theorem reads_after {F : List Place} (_h0 : F[0]? = some (0, [], 0)) : ∀ (w : List Int) (S : Nat → Prop), Shut1 F S → ((∃ a k, S a ∧ Reads F k a w) ↔ afterS F S w 0) := by
  intro w
  induction w with
  | nil =>
    intro S hS
    constructor
    · rintro ⟨a, k, ha, hr⟩
      show S 0
      induction k generalizing a with
      | zero => obtain ⟨rfl, _⟩ := hr; exact ha
      | succ k ih =>
        rcases hr with ⟨rfl, _⟩ | ⟨x, hx, ⟨hz, q, hq, hr⟩ | ⟨_, t, v, q, e, _⟩⟩
        · exact ha
        · exact ih q (hS a x ha hx hz q hq) hr
        · cases e
    · intro h
      exact ⟨0, 0, h, rfl, rfl⟩
  | cons t v ih =>
    intro S hS
    rw [show afterS F S (t :: v) = afterS F (stepS F S t) v from rfl, ← ih _ (stepS_shut F S t)]
    constructor
    · rintro ⟨a, k, ha, hr⟩
      induction k generalizing a with
      | zero => obtain ⟨_, e⟩ := hr; cases e
      | succ k ihk =>
        rcases hr with ⟨_, e⟩ | ⟨x, hx, ⟨hz, q, hq, hr⟩ | ⟨hz, t', v', q, e, ht, hq, hr⟩⟩
        · cases e
        · exact ihk q (hS a x ha hx hz q hq) hr
        · cases e
          exact ⟨q, k, ⟨a, x, q, 0, ha, hx, ht, hq, rfl⟩, hr⟩
    · rintro ⟨b, k, ⟨a, x, r, m, ha, hx, ht, hr, hv⟩, hR⟩
      have hlift : ∀ {m p : Nat}, Via F m p b → Reads F (m + k) p v := by
        intro m
        induction m with
        | zero => rintro p rfl; simpa using hR
        | succ m ihm =>
          intro p hp
          rw [show m + 1 + k = m + k + 1 from by omega]
          rcases hp with rfl | ⟨y, hy, hz, s, hs, hp⟩
          · exact Reads.upto (by omega) hR
          · exact .inr ⟨y, hy, .inl ⟨hz, s, hs, ihm hp⟩⟩
      refine ⟨a, m + k + 1, ha, .inr ⟨x, hx, .inr ⟨fun e => ?_, t, v, r, rfl, ht, hr, hlift hv⟩⟩⟩
      rw [e, takes_zero] at ht
      cases ht
/-- What a search from p adds to a set. -/
def Grown (F : List Place) (S S' : Nat → Bool) (p : Nat) : Prop :=
  (∀ q, S q = true → S' q = true) ∧ S' p = true ∧ (∀ q, S' q = true → S q = true ∨ ∃ k, Via F k p q) ∧ ∀ q x, S' q = true → S q = false → F[q]? = some x → x.1 = 0 → ∀ r ∈ x.2.1, S' r = true
def GrownS (F : List Place) (S S' : Nat → Bool) (p : Nat) (l : List Nat) : Prop :=
  (∀ q, S q = true → S' q = true) ∧ S' p = true ∧ (∀ q ∈ l, S' q = true) ∧ (∀ q, S' q = true → S q = true ∨ ∃ k, Via F k p q) ∧ ∀ q x, S' q = true → S q = false → q ≠ p → F[q]? = some x → x.1 = 0 → ∀ r ∈ x.2.1, S' r = true
theorem GrownS.step {F : List Place} {S S1 S2 : Nat → Bool} {p q : Nat} {l : List Nat} {x : Place} (hx : F[p]? = some x) (h0 : x.1 = 0) (hq : q ∈ x.2.1) (h : GrownS F S S1 p l) (g : Grown F S1 S2 q) : GrownS F S S2 p (l ++ [q]) := by
  obtain ⟨h1, h2, h3, h4, h5⟩ := h
  obtain ⟨g1, g2, g3, g4⟩ := g
  refine ⟨fun r hr => g1 r (h1 r hr), g1 p h2, fun r hr => ?_, fun r hr => ?_, fun r y hr hn hne hy hz s hs => ?_⟩
  · rcases List.mem_append.1 hr with hr | hr
    · exact g1 r (h3 r hr)
    · simp at hr; rw [hr]; exact g2
  · rcases g3 r hr with h | ⟨k, h⟩
    · exact h4 r h
    · exact .inr ⟨_, (Via.one hx h0 hq).trans h⟩
  · cases hc : S1 r with
    | true => exact g1 s (h5 r y hc hn hne hy hz s hs)
    | false => exact g4 r y hr hc hy hz s hs
theorem GrownS.done {F : List Place} {S S' : Nat → Bool} {p : Nat} {x : Place} (hx : F[p]? = some x) (h : GrownS F S S' p x.2.1) : Grown F S S' p := by
  obtain ⟨h1, h2, h3, h4, h5⟩ := h
  refine ⟨h1, h2, h4, fun q y hq hn hy hz r hr => ?_⟩
  by_cases e : q = p
  · subst e
    rw [hx] at hy
    cases hy
    exact h3 r hr
  · exact h5 q y hq hn e hy hz r hr
theorem Grown.refl {F : List Place} {S : Nat → Bool} {p : Nat} (h : S p = true) : Grown F S S p := ⟨fun _ h => h, h, fun _ h => .inl h, fun q _ h1 h2 => by rw [h1] at h2; cases h2⟩
/-- With p alone. -/
def putS (S : Nat → Bool) (p : Nat) : Nat → Bool := fun q => S q || (q == p)
theorem GrownS.start (F : List Place) (S : Nat → Bool) (p : Nat) : GrownS F S (putS S p) p [] := by
  refine ⟨fun q h => by simp [putS, h], by simp [putS], fun q hq => (by cases hq), fun q h => ?_, fun q x h hn hne => ?_⟩
  · simp [putS] at h
    rcases h with h | h
    · exact .inl h
    · exact .inr ⟨0, h.symm⟩
  · simp [putS, hn] at h
    exact absurd h hne
/-- A search from p in a set that is shut: what is in it then. -/
theorem Grown.iff {F : List Place} {S S' : Nat → Bool} {p : Nat} (h : Grown F S S' p) (hS : Shut1 F (fun q => S q = true)) : Shut1 F (fun q => S' q = true) ∧ ∀ q, S' q = true ↔ (S q = true ∨ startS F p q) := by
  obtain ⟨h1, h2, h3, h4⟩ := h
  have hsh : Shut1 F (fun q => S' q = true) := fun q x hq hx hz r hr => by
    cases hc : S q with
    | true => exact h1 r (hS q x hc hx hz r hr)
    | false => exact h4 q x hq hc hx hz r hr
  refine ⟨hsh, fun q => ⟨fun h => h3 q h, fun h => ?_⟩⟩
  rcases h with h | ⟨k, h⟩
  · exact h1 q h
  · exact hsh.via h2 h
/-- How many are not in it. -/
def outS (S : Nat → Bool) (N : Nat) : Nat := ((List.range N).filter (fun p => !S p)).length
theorem filter_le {α : Type} {p q : α → Bool} : ∀ l : List α, (∀ x, p x = true → q x = true) → (l.filter p).length ≤ (l.filter q).length := by
  intro l h
  induction l with
  | nil => exact Nat.le_refl _
  | cons x r ih =>
    rw [List.filter_cons, List.filter_cons]
    cases hp : p x with
    | true => rw [h x hp]; simpa using ih
    | false =>
      cases q x with
      | true => simp; omega
      | false => simpa using ih
theorem filter_lt {α : Type} {p q : α → Bool} {a : α} : ∀ l : List α, (∀ x, p x = true → q x = true) → a ∈ l → p a = false → q a = true → (l.filter p).length < (l.filter q).length := by
  intro l h ha hp hq
  induction l with
  | nil => cases ha
  | cons x r ih =>
    rw [List.filter_cons, List.filter_cons]
    rcases List.mem_cons.1 ha with rfl | ha
    · rw [hp, hq]
      have := filter_le r h
      simp
      omega
    · have := ih ha
      cases hpx : p x with
      | true => rw [h x hpx]; simpa using this
      | false =>
        cases q x with
        | true => simp; omega
        | false => simpa using this
theorem outS_le {S S' : Nat → Bool} {N : Nat} (h : ∀ q, S q = true → S' q = true) : outS S' N ≤ outS S N := filter_le _ fun x hx => by
  cases hc : S x with
  | false => rfl
  | true => rw [h x hc] at hx; exact hx
theorem outS_lt {S S' : Nat → Bool} {N p : Nat} (h : ∀ q, S q = true → S' q = true) (hp : p < N) (h1 : S p = false) (h2 : S' p = true) : outS S' N < outS S N := filter_lt _ (fun x hx => by
  cases hc : S x with
  | false => rfl
  | true => rw [h x hc] at hx; exact hx) (List.mem_range.2 hp) (by rw [h2]; rfl) (by rw [h1]; rfl)
end Go.Proofs.YtofkiaeocfpkeaaGreatDoor

/- Sets: sets of places in memory; reg's reach, and the search that it hands back: what they return and leave; nothing else is turned. -/
namespace Go.Proofs.YtofkiaeocfpkeaaGreatDoor
open Go.RowKit Go.Maps

theorem lawI : Keyed Tryz.prog 3 := int_keyed Tryz.underlying3
theorem zeroU (w : World) : (zeroValue 198).run Tryz.prog w = .ok (.agg #[]) w := by kernel_rfl
theorem wfN {p : Nat} (h : p < 9223372036854775808) : (Lit.int .i64 (p : Int)).wf = true := WalkArith.wf_i64 (by omega)
/-- A map is the set S of places below N. -/
def SetAt (w : World) (b N : Nat) (S : Nat → Bool) : Prop := ∃ D : DataW Unit, w.ownsMap Tryz.prog 3 unitElem b N D ∧ (∀ p, S p = true → p < N) ∧ ∀ kl, Maps.has D kl = true ↔ ∃ p : Nat, kl = .int .i64 (p : Int) ∧ S p = true
theorem has_iff {D : DataW Unit} {S : Nat → Bool} (h : ∀ kl, Maps.has D kl = true ↔ ∃ p : Nat, kl = .int .i64 (p : Int) ∧ S p = true) (p : Nat) : Maps.has D (.int .i64 (p : Int)) = S p := by
  rw [Bool.eq_iff_iff, h]
  constructor
  · rintro ⟨q, e, hq⟩
    have : (p : Int) = (q : Int) := by injection e
    rw [show p = q from by omega]
    exact hq
  · intro hp
    exact ⟨p, rfl, hp⟩
theorem size_bound {D : DataW Unit} (hD : Tidy D) {N : Nat} (h : ∀ kl, Maps.has D kl = true → ∃ p : Nat, kl = .int .i64 (p : Int) ∧ p < N) (hk : ∀ es, D = .map es → ∀ e ∈ es, WideAt.IsKeyLit e.1) : Maps.size D ≤ N := by
  obtain ⟨es, rfl, hp⟩ := hD
  show es.length ≤ N
  have hex : ∀ e ∈ es, ∃ p : Nat, e.1 = .int .i64 (p : Int) ∧ p < N := fun e he => h e.1 (List.any_eq_true.2 ⟨e, he, WideAt.sameKey_self (hk es rfl e he)⟩)
  clear h hk
  induction N generalizing es with
  | zero =>
    cases es with
    | nil => exact Nat.le_refl _
    | cons e r => obtain ⟨p, _, hp⟩ := hex e (List.mem_cons_self ..); omega
  | succ N ih =>
    have hsplit : (es.filter (fun e => !(e.1.sameKey (.int .i64 (N : Int))))).length + 1 ≥ es.length := by
      have := Maps.length_strike (k := .int .i64 (N : Int)) es hp
      split at this <;> omega
    have := ih (es.filter (fun e => !(e.1.sameKey (.int .i64 (N : Int))))) (hp.filter _) (fun e he => by
      rw [List.mem_filter] at he
      obtain ⟨p, e1, hp⟩ := hex e he.1
      refine ⟨p, e1, ?_⟩
      rcases Nat.lt_or_ge p N with hlt | hge
      · exact hlt
      · exfalso
        obtain rfl : p = N := by omega
        have h2 := he.2
        rw [e1, WideAt.sameKey_self (by trivial)] at h2
        cases h2)
    omega
theorem owns_size {w : World} {b n : Nat} {D : DataW Unit} (h : w.ownsMap Tryz.prog 3 unitElem b n D) {N : Nat} (hN : Maps.size D ≤ N) : w.ownsMap Tryz.prog 3 unitElem b N D := by
  obtain ⟨es, clock, hb, F, hs, rfl⟩ := h
  refine ⟨es, clock, hb, F, ?_, rfl⟩
  simpa [Maps.size, length_sorted] using hN
theorem set_of {w : World} {b n N : Nat} {D : DataW Unit} {S : Nat → Bool} (h : w.ownsMap Tryz.prog 3 unitElem b n D) (hS : ∀ p, S p = true → p < N) (hD : ∀ kl, Maps.has D kl = true ↔ ∃ p : Nat, kl = .int .i64 (p : Int) ∧ S p = true) : SetAt w b N S := by
  refine ⟨D, owns_size h (size_bound (h.tidy lawI) (fun kl hk => ?_) (fun es e x hx => ?_)), hS, hD⟩
  · obtain ⟨p, e, hp⟩ := (hD kl).1 hk
    exact ⟨p, e, hS p hp⟩
  · obtain ⟨es', e', _, hk⟩ := h.entries lawI
    rw [e] at e'
    cases e'
    exact hk x hx
theorem SetAt.kept {w w' : World} {row : Option Nat} {b N : Nat} {S : Nat → Bool} (h : SetAt w b N S) (hg : w.grownBy w' row) (hne : some b ≠ row) : SetAt w' b N S := by
  obtain ⟨D, h1, h2⟩ := h
  exact ⟨D, h1.kept hg hne, h2⟩
theorem SetAt.lt {w : World} {b N : Nat} {S : Nat → Bool} (h : SetAt w b N S) : b < w.heap.size := by
  obtain ⟨D, h1, _⟩ := h
  exact h1.lt
theorem SetAt.notCells {w : World} {b N : Nat} {S : Nat → Bool} (h : SetAt w b N S) {c : Array Value} {t : TypeId} {fz : Nat × Nat} : w.heap[b]? ≠ some (.cells c t fz) := by
  obtain ⟨D, ⟨es, clock, hb, _⟩, _⟩ := h
  rw [hb]
  intro e
  cases e
theorem SetAt.others {w w' : World} {b N : Nat} {S : Nat → Bool} (h : SetAt w b N S) (hg : w.grownBy w' (some b)) : ∀ (k : Nat) (c : Array Value) (t : TypeId), w.heap[k]? = some (.cells c t (0, 0)) → w'.heap[k]? = w.heap[k]? := fun k c t hk =>
  hg.block k (Array.getElem?_eq_some_iff.1 hk).1 (fun e => by cases e; exact h.notCells hk)
/-- Places that lie where a slice says. -/
def Places (w : World) (lv : Value) (F : List Place) : Prop := ∃ rs : List RawP, w.ownsRow 0 87 3 lv F.length (rowP rs) ∧ ∀ (i : Nat) (x : Place), F[i]? = some x → ∃ r, rs[i]? = some r ∧ r.1 = x.1 ∧ r.2.2 = x.2.2 ∧ w.ownsRow 0 3 1 r.2.1 x.2.1.length (numsV x.2.1)
theorem Places.others {w w' : World} {lv : Value} {F : List Place} (h : Places w lv F) (hs : ∀ (b : Nat) (c : Array Value) (t : TypeId), w.heap[b]? = some (.cells c t (0, 0)) → w'.heap[b]? = w.heap[b]?) : Places w' lv F := by
  obtain ⟨rs, h1, h2⟩ := h
  refine ⟨rs, owns_same h1 fun g hg => ?_, fun i x hx => ?_⟩
  · obtain ⟨_, c, hc⟩ := owns_lt h1 hg
    exact hs g _ _ hc
  · obtain ⟨r, r1, r2, r3, r4⟩ := h2 i x hx
    exact ⟨r, r1, r2, r3, owns_same r4 fun g hg => by
      obtain ⟨_, c, hc⟩ := owns_lt r4 hg
      exact hs g _ _ hc⟩
theorem PlanIn.places {A : Nat → Prop} {w : World} {B : Nat} {gv : Value} {L : List Place} (h : PlanIn A w B gv L) : ∃ lv, w.heap[B]? = some (.cells #[gv, lv] 151 (0, 0)) ∧ Places w lv L := by
  obtain ⟨v, rs, h⟩ := h
  refine ⟨v, h.plan, rs, h.row, fun i x hx => ?_⟩
  obtain ⟨r, h1, h2, h3, h4, _⟩ := h.each i x hx
  exact ⟨r, h1, h2, h3, h4⟩
theorem Places.slice {w : World} {lv : Value} {F : List Place} (h : Places w lv F) (h0 : 0 < F.length) : ∃ g cap, lv = .slice (some ⟨g, 0, none⟩) F.length cap ∧ ∀ (i : Nat) (x : Place), F[i]? = some x →
    w.cell? ⟨g, i * 3, none⟩ = some (.int .u16 (x.1 : Int)) ∧ w.cell? ⟨g, i * 3 + 2, none⟩ = some (.int .i64 (x.2.2 : Int)) ∧ ∃ a n c, w.cell? ⟨g, i * 3 + 1, none⟩ = some (.slice a n c) ∧ w.ownsRow 0 3 1 (.slice a n c) x.2.1.length (numsV x.2.1) := by
  obtain ⟨rs, h1, h2⟩ := h
  obtain ⟨g, cap, e, hc⟩ := owns_cell h1 h0
  refine ⟨g, cap, e, fun i x hx => ?_⟩
  obtain ⟨r, r1, r2, r3, r4⟩ := h2 i x hx
  obtain ⟨f0, f1, f2⟩ := rowP_at rs i r r1
  rw [r2] at f0
  rw [r3] at f2
  have hv : ∃ a n c, r.2.1 = .slice a n c := by
    rcases r4.2 with ⟨e, _⟩ | ⟨g', c', _, e, _⟩
    · exact ⟨_, _, _, e⟩
    · exact ⟨_, _, _, e⟩
  obtain ⟨a, n, c, e2⟩ := hv
  rw [e2] at f1 r4
  exact ⟨hc _ _ f0, hc _ _ f2, a, n, c, hc _ _ f1, r4⟩
/-- The three boxes of the search. -/
def Clo (w : World) (bs B1 B2 B3 : Nat) (lv : Value) : Prop := Boxed w B1 77 lv ∧ Boxed w B2 79 (.map (some bs)) ∧ Boxed w B3 89 (.func (.func 137) #[] #[.pointer (some ⟨B2, 0, none⟩), .pointer (some ⟨B1, 0, none⟩), .pointer (some ⟨B3, 0, none⟩)])
theorem Clo.others {w w' : World} {bs B1 B2 B3 : Nat} {lv : Value} (h : Clo w bs B1 B2 B3 lv) (hs : ∀ (b : Nat) (c : Array Value) (t : TypeId), w.heap[b]? = some (.cells c t (0, 0)) → w'.heap[b]? = w.heap[b]?) : Clo w' bs B1 B2 B3 lv :=
  ⟨(hs _ _ _ h.1).trans h.1, (hs _ _ _ h.2.1).trans h.2.1, (hs _ _ _ h.2.2).trans h.2.2⟩
set_option maxRecDepth 100000 in
set_option maxHeartbeats 1000000 in
theorem reach_calls (w : World) (a : Option Addr) (n c bs : Nat) :
    Calls Tryz.prog 90 #[.slice a n c, .map (some bs)] w fun e w' => e = .returned (.func (.func 137) #[] #[.pointer (some ⟨w.heap.size + 1, 0, none⟩), .pointer (some ⟨w.heap.size, 0, none⟩), .pointer (some ⟨w.heap.size + 1 + 1, 0, none⟩)]) ∧ Clo w' bs w.heap.size (w.heap.size + 1) (w.heap.size + 1 + 1) (.slice a n c) ∧ w.grownBy w' none := by
  have hmf : ∀ (fn : Fn) (first cap : Array Value) (w : World), (Instr.makeFunc fn first cap).run Tryz.prog w = .ok (.func fn first cap) w := fun _ _ _ _ => rfl
  obtain ⟨v, hv⟩ : ∃ v, v = Value.func (.func 137) #[] #[.pointer (some ⟨w.heap.size + 1, 0, none⟩), .pointer (some ⟨w.heap.size, 0, none⟩), .pointer (some ⟨w.heap.size + 1 + 1, 0, none⟩)] := ⟨_, rfl⟩
  have HE : Hid (Clo (((w.alloc (.cells #[.slice a n c] 77)).alloc (.cells #[.map (some bs)] 79)).alloc (.cells #[v] 89)) bs w.heap.size (w.heap.size + 1) (w.heap.size + 1 + 1) (.slice a n c) ∧ w.grownBy (((w.alloc (.cells #[.slice a n c] 77)).alloc (.cells #[.map (some bs)] 79)).alloc (.cells #[v] 89)) none) := by
    have b1 : Boxed ((w.alloc (.cells #[.slice a n c] 77)).alloc (.cells #[.map (some bs)] 79)) (w.heap.size + 1) 79 (.map (some bs)) := by
      have := Boxed.new (w.alloc (.cells #[.slice a n c] 77)) 79 (.map (some bs))
      rwa [World.size_alloc] at this
    have b2 : Boxed (((w.alloc (.cells #[.slice a n c] 77)).alloc (.cells #[.map (some bs)] 79)).alloc (.cells #[v] 89)) (w.heap.size + 1 + 1) 89 v := by
      have := Boxed.new ((w.alloc (.cells #[.slice a n c] 77)).alloc (.cells #[.map (some bs)] 79)) 89 v
      rwa [World.size_alloc, World.size_alloc] at this
    refine ⟨⟨((Boxed.new w 77 (.slice a n c)).alloc (.cells #[.map (some bs)] 79)).alloc (.cells #[v] 89), b1.alloc _, ?_⟩, ((World.grownBy_alloc w _ none).trans (World.grownBy_alloc _ _ none)).trans (World.grownBy_alloc _ _ none)⟩
    rw [← hv]
    exact b2
  have HV : Hid (v = Value.func (.func 137) #[] #[.pointer (some ⟨w.heap.size + 1, 0, none⟩), .pointer (some ⟨w.heap.size, 0, none⟩), .pointer (some ⟨w.heap.size + 1 + 1, 0, none⟩)]) := hv
  clear hv
  go_enter Tryz.func90, Tryz.ntmps90
  go_wp2
  go_ret
  exact ⟨rfl, by have := HE.out; rw [HV.out] at this; exact this⟩
end Go.Proofs.YtofkiaeocfpkeaaGreatDoor

/- Srch: the search that reg's reach hands back: it adds to the set all that forks reach from a place, and turns nothing else. -/
namespace Go.Proofs.YtofkiaeocfpkeaaGreatDoor
open Go.RowKit Go.Maps

theorem has_put {D : DataW Unit} {S : Nat → Bool} (hm : IsMap D) (h : ∀ kl, Maps.has D kl = true ↔ ∃ p : Nat, kl = .int .i64 (p : Int) ∧ S p = true) (p : Nat) (d : DataW Unit) : ∀ kl, Maps.has (D.put (.int .i64 (p : Int)) d) kl = true ↔ ∃ q : Nat, kl = .int .i64 (q : Int) ∧ putS S p q = true := by
  intro kl
  by_cases e : kl = .int .i64 (p : Int)
  · rw [e, has_put_same hm (by trivial)]
    exact ⟨fun _ => ⟨p, rfl, by simp [putS]⟩, fun _ => rfl⟩
  · rw [has_put_other e, h]
    constructor
    · rintro ⟨q, e1, hq⟩
      exact ⟨q, e1, by simp [putS, hq]⟩
    · rintro ⟨q, e1, hq⟩
      refine ⟨q, e1, ?_⟩
      simp [putS] at hq
      rcases hq with hq | hq
      · exact hq
      · exact absurd (by rw [e1, hq]) e
set_option maxRecDepth 100000 in
set_option maxHeartbeats 1000000 in
theorem grow_in (F : List Place) (lv : Value) (bs B1 B2 B3 N : Nat) (hN : N ≤ 1000000000) (p : Nat) (w : World) (S : Nat → Bool) (hS : SetAt w bs N S) (hC : Clo w bs B1 B2 B3 lv) (hp : p < N) (hSp : S p = true) :
    Calls Tryz.prog 137 #[.int .i64 (p : Int), .pointer (some ⟨B2, 0, none⟩), .pointer (some ⟨B1, 0, none⟩), .pointer (some ⟨B3, 0, none⟩)] w fun e w' => e = .returned (.tuple #[]) ∧ ∃ S', SetAt w' bs N S' ∧ Grown F S S' p ∧ w.grownBy w' (some bs) := by
  obtain ⟨D, hown, hlt, hD⟩ := id hS
  have hk1 : Maps.has D (.int .i64 (p : Int)) = true := by rw [has_iff hD p, hSp]
  have c2 := hC.2.1.cell
  have HE : Hid (∃ S', SetAt (w.alloc (.cells #[] 198)) bs N S' ∧ Grown F S S' p ∧ w.grownBy (w.alloc (.cells #[] 198)) (some bs)) := ⟨S, hS.kept (World.grownBy_alloc w _ none) (by simp), Grown.refl hSp, World.grownBy_alloc w _ _⟩
  clear hS hC hD
  go_enter Tryz.func137, Tryz.ntmps137
  go_wp2_with (first
    | (at_lookup; refine wpList_lookup_own_unit _ rfl _ _ 79 rfl 3 198 lawI Tryz.underlying79 (zeroU _) bs N D rfl hown _ _ rfl (keyOf_int_mk Tryz.underlying3 (wfN (by omega))) ?_; rw [hk1])
    | go_in)
  refine bodyPost_ret (results_none rfl _ _ _) rfl ?_
  exact ⟨rfl, HE.out⟩
set_option maxRecDepth 100000 in
set_option maxHeartbeats 1000000 in
theorem grow_calls (F : List Place) (lv : Value) (bs B1 B2 B3 N : Nat) (hFN : F.length = N) (hN : N ≤ 1000000000) (hnx : ∀ (i : Nat) (x : Place), F[i]? = some x → x.1 = 0 → ∀ q ∈ x.2.1, q < N) (hnl : ∀ (i : Nat) (x : Place), F[i]? = some x → x.2.1.length ≤ 2000000000) : ∀ (m p : Nat) (w : World) (S : Nat → Bool), outS S N ≤ m → SetAt w bs N S → Places w lv F → Clo w bs B1 B2 B3 lv → p < N →
    Calls Tryz.prog 137 #[.int .i64 (p : Int), .pointer (some ⟨B2, 0, none⟩), .pointer (some ⟨B1, 0, none⟩), .pointer (some ⟨B3, 0, none⟩)] w fun e w' => e = .returned (.tuple #[]) ∧ ∃ S', SetAt w' bs N S' ∧ Grown F S S' p ∧ w.grownBy w' (some bs) := by
  intro m
  induction m with
  | zero =>
    intro p w S hm hS hL hC hp
    have hSp : S p = true := by
      cases h : S p with
      | true => rfl
      | false =>
        exfalso
        have : p ∈ (List.range N).filter (fun p => !S p) := List.mem_filter.2 ⟨List.mem_range.2 hp, by rw [h]; rfl⟩
        have := List.length_pos_of_mem this
        unfold outS at hm
        omega
    exact grow_in F lv bs B1 B2 B3 N hN p w S hS hC hp hSp
  | succ m ih =>
    intro p w S hm hS hL hC hp
    cases hSp : S p with
    | true => exact grow_in F lv bs B1 B2 B3 N hN p w S hS hC hp hSp
    | false =>
      obtain ⟨D, hown, hltS, hD⟩ := id hS
      have hk1 : Maps.has D (.int .i64 (p : Int)) = false := by rw [has_iff hD p, hSp]
      have hout : outS (putS S p) N ≤ m := by
        have := outS_lt (S := S) (S' := putS S p) (fun q h => by simp [putS, h]) hp hSp (by simp [putS])
        omega
      obtain ⟨x, hx⟩ : ∃ x, F[p]? = some x := ⟨_, List.getElem?_eq_getElem (by omega)⟩
      obtain ⟨g, cap, rfl, hcell⟩ := hL.slice (by omega)
      obtain ⟨t0, _, ha, hnn, hc, t1, hrow⟩ := hcell p x hx
      -- in any world whose cells are as they were
      have HW : Hid (∀ W : World, (∀ (b : Nat) (c : Array Value) (t : TypeId), w.heap[b]? = some (.cells c t (0, 0)) → W.heap[b]? = w.heap[b]?) → (W.cell? ⟨B2, 0, none⟩ = some (.map (some bs)) ∧ W.cell? ⟨B1, 0, none⟩ = some (.slice (some ⟨g, 0, none⟩) F.length cap) ∧ W.cell? ⟨B3, 0, none⟩ = some (.func (.func 137) #[] #[.pointer (some ⟨B2, 0, none⟩), .pointer (some ⟨B1, 0, none⟩), .pointer (some ⟨B3, 0, none⟩)]) ∧
          W.cell? ⟨g, p * 3, none⟩ = some (.int .u16 (x.1 : Int)) ∧ W.cell? ⟨g, p * 3 + 1, none⟩ = some (.slice ha hnn hc)) ∧ Clo W bs B1 B2 B3 (.slice (some ⟨g, 0, none⟩) F.length cap) ∧ Places W (.slice (some ⟨g, 0, none⟩) F.length cap) F ∧ (∀ (j q : Nat), x.2.1[j]? = some q → ∃ hg, ha = some ⟨hg, 0, none⟩ ∧ hnn = x.2.1.length ∧ W.cell? ⟨hg, j, none⟩ = some (.int .i64 (q : Int)))) := by
        intro W hW
        have hC' := hC.others hW
        have hL' := hL.others hW
        have hg : W.heap[g]? = w.heap[g]? := by
          obtain ⟨rs, h1, _⟩ := id hL
          obtain ⟨_, c, hc⟩ := owns_lt h1 (g := g) rfl
          exact hW g _ _ hc
        refine ⟨⟨hC'.2.1.cell, hC'.1.cell, hC'.2.2.cell, (World.cell?_of_block (w := w) (a := ⟨g, p * 3, none⟩) hg).trans t0, (World.cell?_of_block (w := w) (a := ⟨g, p * 3 + 1, none⟩) hg).trans t1⟩, hC', hL', fun j q hq => ?_⟩
        have hpos : 0 < x.2.1.length := Nat.lt_of_le_of_lt (Nat.zero_le _) (List.getElem?_eq_some_iff.1 hq).1
        have hrow' : W.ownsRow 0 3 1 (.slice ha hnn hc) x.2.1.length (numsV x.2.1) := owns_same hrow fun k hk => by
          obtain ⟨_, c, hc⟩ := owns_lt hrow hk
          exact hW k _ _ hc
        obtain ⟨hg', hc', e, hcc⟩ := owns_cell hrow' hpos
        cases e
        exact ⟨hg', rfl, rfl, hcc j _ (numsV_at hq)⟩
      obtain ⟨⟨c2, c1, c3, d0, d1⟩, _⟩ := HW.out w (fun _ _ _ _ => rfl)
      have hlen0 : hnn = x.2.1.length := by
        rcases hrow.2 with ⟨e, h0⟩ | ⟨g', c', _, e, _⟩
        · cases e
          exact h0.symm
        · cases e
          rfl
      subst hlen0
      have hnlx := hnl p x hx
      have hnxx := hnx p x hx
      have HSET : Hid (∀ w2 : World, w2.ownsMap Tryz.prog 3 unitElem bs (N + 1) (D.put (.int .i64 (p : Int)) (.agg [])) → (w.alloc (.cells #[] 198)).grownBy w2 (some bs) → SetAt w2 bs N (putS S p) ∧ w.grownBy w2 (some bs) ∧ ∀ (b : Nat) (c : Array Value) (t : TypeId), w.heap[b]? = some (.cells c t (0, 0)) → w2.heap[b]? = w.heap[b]?) := by
        intro w2 h2 g2
        have hg : w.grownBy w2 (some bs) := (World.grownBy_alloc w _ (some bs)).trans g2
        refine ⟨set_of h2 (fun q hq => ?_) (has_put hown.isMap hD p _), hg, hS.others hg⟩
        simp [putS] at hq
        rcases hq with hq | hq
        · exact hltS q hq
        · omega
      have hown1 := hown.alloc (.cells #[] 198)
      have hb2 : B2 < w.heap.size := hC.2.1.lt
      have hb1 : B1 < w.heap.size := hC.1.lt
      obtain ⟨y, nx, ls⟩ := x
      simp only at *
      clear hC hL hrow hcell t0 t1
      by_cases hy : y = 0
      · subst hy
        have HSt := GrownS.start F S p
        have HD : Hid (∀ S', GrownS F S S' p nx → Grown F S S' p) := fun S' h => h.done hx
        have HStep : Hid (∀ (S1 S2 : Nat → Bool) (j q : Nat), nx[j]? = some q → GrownS F S S1 p (nx.take j) → Grown F S1 S2 q → GrownS F S S2 p (nx.take (j + 1))) := fun S1 S2 j q hq h g => by
          have := h.step hx rfl (List.mem_of_getElem? hq) g
          rw [List.take_add_one, hq]
          exact this
        have HSt' : Hid (GrownS F S (putS S p) p (nx.take 0)) := HSt
        have HNx : Hid (∀ q ∈ nx, q < N) := hnxx rfl
        have HIH : Hid (∀ (q : Nat) (W : World) (S1 : Nat → Bool), outS S1 N ≤ m → SetAt W bs N S1 → Places W (.slice (some ⟨g, 0, none⟩) F.length cap) F → Clo W bs B1 B2 B3 (.slice (some ⟨g, 0, none⟩) F.length cap) → q < N → Calls Tryz.prog 137 #[.int .i64 (q : Int), .pointer (some ⟨B2, 0, none⟩), .pointer (some ⟨B1, 0, none⟩), .pointer (some ⟨B3, 0, none⟩)] W fun e w' => e = .returned (.tuple #[]) ∧ ∃ S', SetAt w' bs N S' ∧ Grown F S1 S' q ∧ W.grownBy w' (some bs)) := ih
        clear ih HSt hnxx hx hnx hnl hD hS hSp hm
        have hpi : (p : Int) < (F.length : Int) := by omega
        have hp0 : (0 : Int) ≤ (p : Int) := by omega
        have hty : (((0 : Nat) : Int) == 0) = true := rfl
        go_enter Tryz.func137, Tryz.ntmps137
        go_wp2_with (first
          | (at_lookup; refine wpList_lookup_own_unit _ rfl _ _ 79 rfl 3 198 lawI Tryz.underlying79 (zeroU _) bs N D rfl hown _ _ rfl (keyOf_int_mk Tryz.underlying3 (wfN (by omega))) ?_; rw [hk1])
          | (at_mapUpdate; refine wpList_mapUpdate_own _ rfl _ _ _ 79 rfl 3 198 lawI Tryz.underlying79 _ bs N D rfl hown1 (by unfold maxLen; omega) _ _ _ rfl rfl (keyOf_int_mk Tryz.underlying3 (wfN (by omega))) _ [] unitElem_mk ?_; intro w2 hown2 hgrow2; obtain ⟨hS2, hg2, hcells2⟩ := HSET.out w2 hown2 hgrow2; obtain ⟨⟨c2', c1', c3', d0', d1'⟩, _⟩ := HW.out w2 hcells2)
          | go_in)
        have HC2 : Hid (∀ W : World, w2.grownBy W (some bs) → ∀ (b : Nat) (c : Array Value) (t : TypeId), w.heap[b]? = some (.cells c t (0, 0)) → W.heap[b]? = w.heap[b]?) := fun W hW b c t hb => (hS2.others hW b c t ((hcells2 b c t hb).trans hb)).trans (hcells2 b c t hb)
        have HG2 : Hid (w.grownBy w2 (some bs)) := hg2
        go_loopw [31] (fun i wr => ∃ (j : Nat) (S1 : Nat → Bool), j ≤ nx.length ∧ i = .int .i64 (j : Int) ∧ SetAt wr bs N S1 ∧ GrownS F S S1 p (nx.take j) ∧ outS S1 N ≤ m ∧ w2.grownBy wr (some bs)) (fun i _ => nx.length - (intOf i).toNat)
        case atStart => exact ⟨0, putS S p, Nat.zero_le _, rfl, hS2, HSt'.out, hout, ⟨rfl, rfl, rfl, Nat.le_refl _, fun _ _ _ => rfl⟩⟩
        case round =>
          obtain ⟨j, S1, hj, rfl, hS1, hGS, hou, hgw⟩ := hrel
          obtain ⟨⟨k2, k1, k3, k4, k5⟩, hC3, hL3, hkid⟩ := HW.out wr (HC2.out wr hgw)
          by_cases hlt : j < nx.length
          · have hq : nx[j]? = some nx[j] := List.getElem?_eq_getElem hlt
            obtain ⟨hg', e1, e2, hcq⟩ := hkid j _ hq
            subst e1
            have hqN := HNx.out _ (List.mem_of_getElem? hq)
            have HCALL := HIH.out nx[j] wr S1 hou hS1 hL3 hC3 hqN
            have HS3 : Hid (∀ S2, Grown F S1 S2 nx[j] → GrownS F S S2 p (nx.take (j + 1)) ∧ outS S2 N ≤ m) := fun S2 g => ⟨HStep.out S1 S2 j _ hq hGS g, Nat.le_trans (outS_le g.1) hou⟩
            have hji : (j : Int) < (nx.length : Int) := by omega
            have HGW : Hid (w2.grownBy wr (some bs)) := hgw
            clear hkid hq hS1 hGS hgw hC3 hL3 HC2 HW HSET
            generalize nx[j] = q at *
            go_wp2_with fail
            refine HCALL.mono ?_
            rintro e W ⟨rfl, S2, hS2', hG, hgW⟩
            obtain ⟨hGS', hou'⟩ := HS3.out S2 hG
            clear HCALL
            go_wp2
            go_roundw
            case rel => exact ⟨j + 1, S2, by omega, by first | rfl | go_num, hS2', hGS', hou', HGW.out.trans hgW⟩
            case measure => simp [intOf]; omega
          · obtain rfl : j = nx.length := by omega
            rw [List.take_of_length_le (Nat.le_refl _)] at hGS
            have HE : Hid (∃ S', SetAt wr bs N S' ∧ Grown F S S' p ∧ w.grownBy wr (some bs)) := ⟨S1, hS1, HD.out S1 hGS, HG2.out.trans hgw⟩
            clear hkid hS1 hGS hgw hC3 hL3 HC2 HW HSET HIH HStep
            go_wp2
            go_end0
            exact ⟨rfl, HE.out⟩
      · have hty : ((y : Int) == 0) = false := by rw [beq_eq_false_iff_ne]; omega
        have HD : Hid (Grown F S (putS S p) p) := by
          obtain ⟨h1, h2, h3, h4, h5⟩ := GrownS.start F S p
          refine ⟨h1, h2, h4, fun q z hq hn hz h0 r hr => ?_⟩
          by_cases e : q = p
          · subst e
            rw [hx] at hz
            cases hz
            exact absurd h0 hy
          · exact h5 q z hq hn e hz h0 r hr
        clear ih hnxx hx hnx hnl hD hS hSp hm
        have hpi : (p : Int) < (F.length : Int) := by omega
        have hp0 : (0 : Int) ≤ (p : Int) := by omega
        go_enter Tryz.func137, Tryz.ntmps137
        go_wp2_with (first
          | (at_lookup; refine wpList_lookup_own_unit _ rfl _ _ 79 rfl 3 198 lawI Tryz.underlying79 (zeroU _) bs N D rfl hown _ _ rfl (keyOf_int_mk Tryz.underlying3 (wfN (by omega))) ?_; rw [hk1])
          | (at_mapUpdate; refine wpList_mapUpdate_own _ rfl _ _ _ 79 rfl 3 198 lawI Tryz.underlying79 _ bs N D rfl hown1 (by unfold maxLen; omega) _ _ _ rfl rfl (keyOf_int_mk Tryz.underlying3 (wfN (by omega))) _ [] unitElem_mk ?_; intro w2 hown2 hgrow2; obtain ⟨hS2, hg2, hcells2⟩ := HSET.out w2 hown2 hgrow2; obtain ⟨⟨c2', c1', c3', d0', d1'⟩, _⟩ := HW.out w2 hcells2)
          | go_in)
        first | go_end0 | refine bodyPost_ret (results_none rfl _ _ _) rfl ?_
        exact ⟨rfl, _, hS2, HD.out, hg2⟩
end Go.Proofs.YtofkiaeocfpkeaaGreatDoor

/- Takes: reg's takes at every place and number: what it returns; nothing that lay before is turned. -/
namespace Go.Proofs.YtofkiaeocfpkeaaGreatDoor
open Go.RowKit Go.Maps

set_option maxRecDepth 100000 in
set_option maxHeartbeats 1000000 in
theorem takes_calls (m : Nat) (hm : m < 65536) (a : Option Addr) (n c : Nat) (l t : Int) (w : World) :
    Calls Tryz.prog 91 #[.agg #[.int .u16 (m : Int), .slice a n c, .int .i64 l], .int .i64 t] w fun e w' => e = .returned (.bool (takes m t)) ∧ w.grownBy w' none := by
  have HT : Hid (∀ W, Calls Tryz.prog 138 #[.int .i64 t] W fun e w' => e = .returned (.bool (isTy t)) ∧ w' = W) := fun W => istype_calls t W
  have HG : Hid (∀ o, w.grownBy (w.alloc o) none) := fun o => World.grownBy_alloc w o none
  have htk : takes m t = (isTy t && m.testBit t.toNat) := by unfold takes isTy; rfl
  rw [htk]
  cases hi : isTy t with
  | false =>
    rw [hi] at HT
    go_enter Tryz.func91, Tryz.ntmps91
    go_wp2_with fail
    refine (HT.out _).mono ?_
    rintro e W ⟨rfl, hW⟩
    rw [hW]
    go_wp2
    go_ret
    exact ⟨rfl, HG.out _⟩
  | true =>
    rw [hi] at HT
    have ht : 0 ≤ t ∧ t < 16 := by unfold isTy at hi; simpa using hi
    obtain ⟨t0, t1⟩ := ht
    have hb : (bits BinOp.and IntKind.u16 ((m : Int) / 2 ^ t.toNat) 1 != 0) = m.testBit t.toNat := by
      generalize t.toNat = k
      have e1 : ((m : Int) / 2 ^ k) = ((m / 2 ^ k : Nat) : Int) := by
        rw [Int.natCast_ediv]
        simp
      have hlt : m / 2 ^ k < 65536 := Nat.lt_of_le_of_lt (Nat.div_le_self _ _) hm
      have e2 := u16_and_nat (m / 2 ^ k) 1 hlt (by decide)
      rw [e1, show (1 : Int) = ((1 : Nat) : Int) from rfl, e2]
      unfold Nat.testBit
      rw [Nat.shiftRight_eq_div_pow, Nat.and_comm]
      rw [Bool.eq_iff_iff]
      simp
      omega
    go_enter Tryz.func91, Tryz.ntmps91
    go_wp2_with fail
    refine (HT.out _).mono ?_
    rintro e W ⟨rfl, hW⟩
    rw [hW]
    go_wp2
    go_ret
    exact ⟨rfl, HG.out _⟩
end Go.Proofs.YtofkiaeocfpkeaaGreatDoor

/- TakeI: reg's take at every walk and number: what it leaves; nothing else is turned. -/
namespace Go.Proofs.YtofkiaeocfpkeaaGreatDoor
open Go.RowKit Go.Maps

theorem Places.kinds {w w' : World} {lv : Value} {F : List Place} (h : Places w lv F) (hs : ∀ (b : Nat) (c : Array Value) (t : TypeId), w.heap[b]? = some (.cells c t (0, 0)) → (t = 87 ∨ t = 3) → w'.heap[b]? = w.heap[b]?) : Places w' lv F := by
  obtain ⟨rs, h1, h2⟩ := h
  refine ⟨rs, owns_same h1 fun g hg => ?_, fun i x hx => ?_⟩
  · obtain ⟨_, c, hc⟩ := owns_lt h1 hg
    exact hs g _ _ hc (.inl rfl)
  · obtain ⟨r, r1, r2, r3, r4⟩ := h2 i x hx
    exact ⟨r, r1, r2, r3, owns_same r4 fun g hg => by
      obtain ⟨_, c, hc⟩ := owns_lt r4 hg
      exact hs g _ _ hc (.inr rfl)⟩
/-- A walk: the places, where one may be, and an empty set. -/
structure WalkAt (w : World) (Bw : Nat) (lv : Value) (bh bs N : Nat) (F : List Place) (S : Nat → Bool) : Prop where
  blk : w.heap[Bw]? = some (.cells #[lv, .map (some bh), .map (some bs)] 81 (0, 0))
  here : SetAt w bh N S
  spare : SetAt w bs N (fun _ => false)
  ne : bh ≠ bs
  pl : Places w lv F
/-- What is known of places that were laid. -/
structure Sound1 (F : List Place) (N : Nat) : Prop where
  wf : wf F
  len : F.length = N
  small : N ≤ 1000000000
  mask : ∀ (i : Nat) (x : Place), F[i]? = some x → x.1 < 65536
  next : ∀ (i : Nat) (x : Place), F[i]? = some x → x.2.1.length ≤ 2000000000
theorem Sound1.lt {F : List Place} {N : Nat} (h : Sound1 F N) : ∀ (i : Nat) (x : Place), F[i]? = some x → x.1 = 0 → ∀ q ∈ x.2.1, q < N := by
  intro i x hx h0 q hq
  rcases Nat.eq_zero_or_pos i with rfl | hi
  · rw [h.wf.1] at hx
    cases hx
    cases hq
  · rcases h.wf.2 i x hi hx with ⟨h1, _⟩ | ⟨_, h2, _⟩
    · exact absurd h0 h1
    · rw [← h.len]
      exact (h2 q hq).1
theorem Sound1.step {F : List Place} {N : Nat} (h : Sound1 F N) {i : Nat} {x : Place} (hx : F[i]? = some x) (h0 : x.1 ≠ 0) : ∃ q, x.2.1 = [q] ∧ q < N := by
  have hi := (List.getElem?_eq_some_iff.1 hx).1
  rcases Nat.eq_zero_or_pos i with rfl | hp
  · rw [h.wf.1] at hx
    cases hx
    exact absurd rfl h0
  · rcases h.wf.2 i x hp hx with ⟨_, q, h2, h3, _⟩ | ⟨h1, _⟩
    · exact ⟨q, h2, by rw [← h.len]; omega⟩
    · exact absurd h1 h0
theorem cells3 {w : World} {B : Nat} {a b c : Value} {t : TypeId} (h : w.heap[B]? = some (.cells #[a, b, c] t (0, 0))) : w.cell? ⟨B, 0, none⟩ = some a ∧ w.cell? ⟨B, 1, none⟩ = some b ∧ w.cell? ⟨B, 2, none⟩ = some c ∧ w.frozen? ⟨B, 1, none⟩ = false ∧ w.frozen? ⟨B, 2, none⟩ = false := by
  have hc := fun j => cell_of_row w B j _ _ _ h
  exact ⟨hc 0, hc 1, hc 2, by simp [World.frozen?, h], by simp [World.frozen?, h]⟩
/-- What was reached so far by those that have come. -/
def Came (F : List Place) (Sh : Nat → Bool) (t : Int) (left : Lit → Bool) (q : Nat) : Prop := ∃ p x r k, Sh p = true ∧ left (.int .i64 (p : Int)) = false ∧ F[p]? = some x ∧ takes x.1 t = true ∧ x.2.1[0]? = some r ∧ Via F k r q
structure TakeI (F : List Place) (N : Nat) (lv : Value) (Sh : Nat → Bool) (t : Int) (bh bs rr : Nat) (W1 wr : World) (left : Lit → Bool) (cnt : Nat) (D1 : DataW Unit) (S1 : Nat → Bool) : Prop where
  rg : wr.ranges Tryz.prog 3 unitElem bh rr N D1 left cnt
  hs : ∀ kl, Maps.has D1 kl = left kl
  sub : ∀ kl, left kl = true → ∃ p : Nat, kl = .int .i64 (p : Int) ∧ Sh p = true
  sp : SetAt wr bs N S1
  sh : Shut1 F (fun q => S1 q = true)
  iff : ∀ q, S1 q = true ↔ Came F Sh t left q
  cl : ∀ (b : Nat) (c : Array Value) (ty : TypeId), W1.heap[b]? = some (.cells c ty (0, 0)) → wr.heap[b]? = W1.heap[b]?
  bel : Below 0 W1 wr
  same : ∀ k, k < W1.heap.size → k ≠ bh → k ≠ bs → wr.heap[k]? = W1.heap[k]?
theorem grownBy_below {w w' : World} {row : Option Nat} (h : w.grownBy w' row) : Below 0 w w' := ⟨h.os, h.tape, h.output, h.size, fun k hk => absurd hk (by omega)⟩
/-- The set as it was, one step on. -/
theorem TakeI.on {F : List Place} {N : Nat} {lv : Value} {Sh : Nat → Bool} {t : Int} {bh bs rr : Nat} {W1 wr : World} {left : Lit → Bool} {cnt : Nat} {D1 : DataW Unit} {S1 : Nat → Bool} (h : TakeI F N lv Sh t bh bs rr W1 wr left cnt D1 S1) (hr : W1.heap.size ≤ rr) (hne : bh ≠ bs) (hbsr : bs < W1.heap.size)
    {p : Nat} {x : Place} (hp : Sh p = true) (hx : F[p]? = some x) (hwf : (Lit.int .i64 (p : Int)).wf = true) {w1 w2 w3 w4 : World} {cnt2 : Nat} (g1 : wr.grownBy w1 (some rr)) (g2 : w1.grownBy w2 (some bh)) (hrg2 : w2.ranges Tryz.prog 3 unitElem bh rr N (D1.del (.int .i64 (p : Int))) (fun z => left z && !z.sameKey (.int .i64 (p : Int))) cnt2)
    (g3 : w2.grownBy w3 none) (g4 : w3.grownBy w4 (some bs)) {S2 : Nat → Bool} (hS2 : SetAt w4 bs N S2) (hG : (takes x.1 t = true ∧ ∃ r, x.2.1[0]? = some r ∧ Grown F S1 S2 r) ∨ (takes x.1 t = false ∧ S2 = S1)) (hlp : left (.int .i64 (p : Int)) = true) :
    TakeI F N lv Sh t bh bs rr W1 w4 (fun z => left z && !z.sameKey (.int .i64 (p : Int))) cnt2 (D1.del (.int .i64 (p : Int))) S2 := by
  have hrr : w3.ranges Tryz.prog 3 unitElem bh rr N (D1.del (.int .i64 (p : Int))) (fun z => left z && !z.sameKey (.int .i64 (p : Int))) cnt2 := hrg2.kept g3 (by simp) (by simp)
  have hrr4 : w4.ranges Tryz.prog 3 unitElem bh rr N (D1.del (.int .i64 (p : Int))) (fun z => left z && !z.sameKey (.int .i64 (p : Int))) cnt2 := hrr.kept g4 (by simp [hne]) (by simp; omega)
  have hkey : WideAt.IsKeyLit (.int .i64 (p : Int)) := by trivial
  have hsame : ∀ z : Lit, z.sameKey (.int .i64 (p : Int)) = true ↔ z = .int .i64 (p : Int) := fun z => ⟨fun e => WideAt.sameKey_eq e, fun e => by rw [e]; exact WideAt.sameKey_self hkey⟩
  have hcl : ∀ (b : Nat) (c : Array Value) (ty : TypeId), wr.heap[b]? = some (.cells c ty (0, 0)) → w4.heap[b]? = wr.heap[b]? := fun b c ty hb => by
    have hlt := (Array.getElem?_eq_some_iff.1 hb).1
    have e1 : w1.heap[b]? = wr.heap[b]? := g1.block b hlt (fun e => by
      cases e
      obtain ⟨es, clock, since, seen, c0, _, _, _, _, hri, _⟩ := h.rg
      rw [hb] at hri
      cases hri)
    have e2 : w2.heap[b]? = w1.heap[b]? := g2.block b (Nat.lt_of_lt_of_le hlt g1.size) (fun e => by
      cases e
      obtain ⟨es, clock, since, seen, c0, hbb, _⟩ := h.rg
      rw [hb] at hbb
      cases hbb)
    have hlt2 : b < w2.heap.size := Nat.lt_of_lt_of_le hlt (Nat.le_trans g1.size g2.size)
    have e3 : w3.heap[b]? = w2.heap[b]? := g3.block b hlt2 (by simp)
    have e4 : w4.heap[b]? = w3.heap[b]? := g4.block b (Nat.lt_of_lt_of_le hlt2 g3.size) (fun e => by
      cases e
      exact h.sp.notCells hb)
    rw [e4, e3, e2, e1]
  have hleft : ∀ q : Nat, (left (.int .i64 (q : Int)) && !(Lit.int .i64 (q : Int)).sameKey (.int .i64 (p : Int))) = false ↔ (left (.int .i64 (q : Int)) = false ∨ q = p) := fun q => by
    rw [Bool.and_eq_false_iff, Bool.not_eq_false', hsame]
    constructor
    · rintro (e | e)
      · exact .inl e
      · right
        have : (q : Int) = (p : Int) := by injection e
        omega
    · rintro (e | e)
      · exact .inl e
      · exact .inr (by rw [e])
  have hcame : ∀ q, Came F Sh t (fun z => left z && !z.sameKey (.int .i64 (p : Int))) q ↔ (Came F Sh t left q ∨ (takes x.1 t = true ∧ ∃ r k, x.2.1[0]? = some r ∧ Via F k r q)) := fun q => by
    constructor
    · rintro ⟨p', x', r, k, h1, h2, h3, h4, h5, h6⟩
      rcases (hleft p').1 h2 with e | e
      · exact .inl ⟨p', x', r, k, h1, e, h3, h4, h5, h6⟩
      · subst e
        rw [hx] at h3
        cases h3
        exact .inr ⟨h4, r, k, h5, h6⟩
    · rintro (⟨p', x', r, k, h1, h2, h3, h4, h5, h6⟩ | ⟨h4, r, k, h5, h6⟩)
      · exact ⟨p', x', r, k, h1, (hleft p').2 (.inl h2), h3, h4, h5, h6⟩
      · exact ⟨p, x, r, k, hp, (hleft p).2 (.inr rfl), hx, h4, h5, h6⟩
  refine ⟨hrr4, fun kl => ?_, fun kl hk => ?_, hS2, ?_, fun q => ?_, fun b c ty hb => ?_, ?_, fun k hk h1 h2 => ?_⟩
  · by_cases e : kl = .int .i64 (p : Int)
    · rw [e, has_del_same, (hsame _).2 rfl]
      simp
    · rw [has_del_other e, h.hs]
      have : kl.sameKey (.int .i64 (p : Int)) = false := by
        cases hc : kl.sameKey (.int .i64 (p : Int)) with
        | false => rfl
        | true => exact absurd ((hsame kl).1 hc) e
      rw [this]
      simp
  · simp only [Bool.and_eq_true] at hk
    exact h.sub kl hk.1
  · rcases hG with ⟨_, r, hr', hG⟩ | ⟨_, e⟩
    · exact (hG.iff h.sh).1
    · rw [e]; exact h.sh
  · rw [hcame]
    rcases hG with ⟨ht, r, hr', hG⟩ | ⟨ht, e⟩
    · rw [(hG.iff h.sh).2, h.iff]
      constructor
      · rintro (e | ⟨k, e⟩)
        · exact .inl e
        · exact .inr ⟨ht, r, k, hr', e⟩
      · rintro (e | ⟨_, r', k, e1, e2⟩)
        · exact .inl e
        · rw [hr'] at e1
          cases e1
          exact .inr ⟨k, e2⟩
    · rw [e, h.iff, ht]
      constructor
      · intro e; exact .inl e
      · rintro (e | ⟨e, _⟩)
        · exact e
        · cases e
  · rw [hcl b c ty ((h.cl b c ty hb).trans hb), h.cl b c ty hb]
  · exact h.bel.trans ((grownBy_below g1).trans ((grownBy_below g2).trans ((grownBy_below g3).trans (grownBy_below g4))))
  · have hb := h.bel.size
    rw [g4.block k (by have := g1.size; have := g2.size; have := g3.size; omega) (fun e => by cases e; exact h2 rfl), g3.block k (by have := g1.size; have := g2.size; omega) (by simp), g2.block k (by have := g1.size; omega) (fun e => by cases e; exact h1 rfl), g1.block k (by omega) (fun e => by cases e; omega), h.same k hk h1 h2]
end Go.Proofs.YtofkiaeocfpkeaaGreatDoor
