/-
  PROVED HERE: what the texts DBLayRest, DBLayAll say (each has its own words below).
-/
import Derived.Test.YtbkpehfaofhmaaaGreatDoorCB3
import Derived.Test.YtbkpehfaofhmaaaGreatDoorCB15
import Derived.Test.YtbkpehfaofhmaaaGreatDoorCB16
import Derived.Test.YtbkpehfaofhmaaaGreatDoorCB17
/- DBLayRest: reg's lay behind a sign, if lay does as it should with what the sign stands behind; and at nothing: what it returns and leaves; nothing else is turned. -/
namespace Go.Proofs.YtbkpehfaofhmaaaGreatDoor
open Go.RowKit
set_option maxRecDepth 100000 in
set_option maxHeartbeats 2000000 in
theorem laynone_calls (W0 : World) (ga : Option Addr) (gl gc : Nat) (k : Int) (hk : k < 1 \/ 6 < k) (s : ByteArray) (a : Option Addr) (len cap : Nat) (w : World) (next : Nat) (A : Nat -> Prop) (B : Nat) (L : List Place) (hB : Below W0.heap.size W0 w) (hP : PlanIn A w B (.slice ga gl gc) L) :
  Calls Tryz.prog 110 #[.pointer (some ⟨B, 0, none⟩), .agg #[.int .i64 k, .string s, .slice a len cap], .int .i64 (next : Int)] w fun e w' => e = .returned (.int .i64 (next : Int)) /\ ∃ A', PlanIn A' w' B (.slice ga gl gc) L /\ Fr A w A' w' := by
 have hbase := hB.size
 have HE : Hid (∃ A', PlanIn A' (laid3 w B k s a len cap next) B (.slice ga gl gc) L /\ Fr A w A' (laid3 w B k s a len cap next)) := ⟨A, hP.kept (fun _ h => h) fun b hb _ => (laid3_below ..).block b hb, Fr.of_below (laid3_below ..)⟩
 have e1 : (k == 1) = false := by rw [beq_eq_false_iff_ne]; omega
 have e2 : (k == 2) = false := by rw [beq_eq_false_iff_ne]; omega
 have e3 : (k == 3) = false := by rw [beq_eq_false_iff_ne]; omega
 have e4 : (k == 4) = false := by rw [beq_eq_false_iff_ne]; omega
 have e5 : (k == 5) = false := by rw [beq_eq_false_iff_ne]; omega
 have e6 : (k == 6) = false := by rw [beq_eq_false_iff_ne]; omega
 unfold laid3 at HE
 clear hP hB hk
 go_enter Tryz.func110, Tryz.ntmps110
 go_wp2
 go_ret
 exact ⟨rfl, HE.out⟩
theorem kid_one {W0 : World} {n : Nat} {k : Int} {s : ByteArray} {x : DataW Unit} {a : Option Addr} {len cap : Nat} (hE : Ex W0 (n + 1) (node k s [x]) (.agg #[.int .i64 k, .string s, .slice a len cap])) : len = 1 /\ ∃ b o kx sx ax lx cx, a = some ⟨b, o, none⟩ /\ Ex W0 n x (.agg #[.int .i64 kx, .string sx, .slice ax lx cx]) ∧
  ∀ W : World, Below W0.heap.size W0 W -> W.cell? ⟨b, o, none⟩ = some (.int .i64 kx) /\ W.cell? ⟨b, o + 1, none⟩ = some (.string sx) /\ W.cell? ⟨b, o + 2, none⟩ = some (.slice ax lx cx) := by
 obtain ⟨k', s', a', len', cap', ts', hnode, hv, hl, hz, hk⟩ := hE
 obtain ⟨rfl, rfl, rfl⟩ := node_inj.1 hnode
 obtain ⟨rfl, rfl, rfl⟩ : a = a' /\ len = len' /\ cap = cap' := by
  have := Array.toList_inj.2 (Value.agg.inj hv)
  simp only [List.cons.injEq, Value.slice.injEq, and_true, true_and] at this
  exact this
 have hlen : len = 1 := by simpa using hl.symm
 obtain ⟨b, o, y, kx, sx, ax, lx, cx, e, hlt, hy, hc⟩ := kid_at hl hk (i := 0) (by omega)
 obtain rfl : x = y := by simpa using hy
 refine ⟨hlen, b, o, kx, sx, ax, lx, cx, e, (hc W0 (Below.refl _ _)).2.2.2, fun W hW => ?_⟩
 obtain ⟨c0, c1, c2, _⟩ := hc W hW
 simp only [Nat.zero_mul, Nat.add_zero] at c0 c1 c2
 exact ⟨c0, c1, c2⟩
set_option maxRecDepth 100000 in
set_option maxHeartbeats 2000000 in
theorem laystar_calls (W0 : World) (gs : List Grp) (ga : Option Addr) (gl gc n : Nat) (hlay : LayC W0 gs ga gl gc n) (s : ByteArray) (a : Option Addr) (len cap : Nat) (x : DataW Unit) (w : World) (next : Nat) (A : Nat -> Prop) (B : Nat) (L : List Place)
  (hE : Ex W0 (n + 1) (node 4 s [x]) (.agg #[.int .i64 4, .string s, .slice a len cap])) (hS : SaneD gs n x) (hB : Below W0.heap.size W0 w) (hA : ∀ b, A b -> W0.heap.size <= b)
  (hP : PlanIn A w B (.slice ga gl gc) L) (hwf : wf L) (hn : next < L.length) (hlen : L.length + (2 + need subs n x) <= 1000000000) :
  Calls Tryz.prog 110 #[.pointer (some ⟨B, 0, none⟩), .agg #[.int .i64 4, .string s, .slice a len cap], .int .i64 (next : Int)] w fun e w' => e = .returned (.int .i64 ((layLoop (layD gs n) [x] next L).2.1 : Int)) /\ ∃ A', PlanIn A' w' B (.slice ga gl gc) (layLoop (layD gs n) [x] next L).1 /\ Fr A w A' w' := by
 have hbase := hB.size
 obtain ⟨w3, hw3⟩ : ∃ w3, w3 = laid3 w B 4 s a len cap next := ⟨_, rfl⟩
 have hs3 : w3.heap.size = w.heap.size + 3 := by rw [hw3, laid3_size]
 have hb3 : Below w.heap.size w w3 := by rw [hw3]; exact laid3_below ..
 have hP3 : PlanIn (fun b => A b /\ b < w.heap.size) w3 B (.slice ga gl gc) L := hP.tight.kept (fun _ h => h) fun b hb _ => hb3.block b hb
 have hB3 : Below W0.heap.size W0 w3 := hB.trans (hb3.mono hbase)
 have hA3 : ∀ b, A b /\ b < w.heap.size -> W0.heap.size <= b := fun b h => hA b h.1
 obtain ⟨rfl, b, o, kx, sx, ax, lx, cx, rfl, hEx, hkid⟩ := kid_one hE
 have HL : Hid (Calls Tryz.prog 145 #[.pointer (some ⟨B, 0, none⟩), .agg #[.int .i64 kx, .string sx, .slice ax lx cx], .int .i64 (next : Int)] w3.drew fun e w' => e = .returned (.tuple #[.int .i64 ((layLoop (layD gs n) [x] next L).2.1 : Int), .int .i64 ((layLoop (layD gs n) [x] next L).2.2 : Int)]) /\ ∃ A', PlanIn A' w' B (.slice ga gl gc) (layLoop (layD gs n) [x] next L).1 /\ Fr (fun b => A b /\ b < w.heap.size) w3.drew A' w') :=
  loop_calls W0 gs ga gl gc n hlay x _ w3.drew next (fun b => A b /\ b < w.heap.size) B L hEx hS hB3.drew hA3 (hP3.kept (fun _ h => h) fun _ _ _ => rfl) hwf hn (by omega)
 have HS : Hid (∀ (W : World) (A' : Nat -> Prop), Fr (fun b => A b /\ b < w.heap.size) w3.drew A' W -> (W.cell? ⟨w.heap.size, 0, none⟩ = some (.pointer (some ⟨B, 0, none⟩)) /\ W.cell? ⟨w.heap.size + 1, 2, none⟩ = some (.slice (some ⟨b, o, none⟩) 1 cap) /\ W.cell? ⟨w.heap.size + 2, 0, none⟩ = some (.int .i64 (next : Int)) /\ W.cell? ⟨b, o, none⟩ = some (.int .i64 kx) /\ W.cell? ⟨b, o + 1, none⟩ = some (.string sx) /\ W.cell? ⟨b, o + 2, none⟩ = some (.slice ax lx cx)) /\ Fr A w A' W) := by
  intro W A' hF
  obtain ⟨d0, _, _, d3, d4⟩ := laid3_cells (w := w) (X := W) (B := B) (k := 4) (s := s) (a := some ⟨b, o, none⟩) (len := 1) (cap := cap) (next := next) (fun j hj => by
   rw [<- hw3]
   exact hF.same _ (by show _ < w3.heap.size; omega) (fun h => by have := h.2; omega))
  obtain ⟨c0, c1, c2⟩ := hkid W (hB3.drew.trans (hF.toBelow (base := W0.heap.size) (by show _ <= w3.heap.size; omega) (fun k hk h => by have := hA3 k h; omega)))
  refine ⟨⟨d0, d3, d4, c0, c1, c2⟩, ((Fr.of_below (A := A) hb3.drew).trans (hF.wide (A := A) fun k h => h.1))⟩
 have hw3' : Hid (((w.alloc (.cells #[.pointer (some ⟨B, 0, none⟩)] 175)).alloc (.cells #[.int .i64 4, .string s, .slice (some ⟨b, o, none⟩) 1 cap] 90)).alloc (.cells #[.int .i64 (next : Int)] 3) = w3) := hw3.symm
 generalize layLoop (layD gs n) [x] next L = r at *
 obtain ⟨R, f1, f2⟩ := r
 simp only at *
 have hS0 := (HS.out _ _ (Fr.refl _ _)).1
 clear hP hP3 hB hB3 hE hS hlay hwf hA hA3 hEx hkid hw3 hb3
 go_enter Tryz.func110, Tryz.ntmps110
 go_wp2_with fail
 rw [hw3'.out]
 refine wp_region_held_drew (S := fun W => W.cell? ⟨w.heap.size, 0, none⟩ = some (.pointer (some ⟨B, 0, none⟩)) /\ W.cell? ⟨w.heap.size + 1, 2, none⟩ = some (.slice (some ⟨b, o, none⟩) 1 cap) /\ W.cell? ⟨w.heap.size + 2, 0, none⟩ = some (.int .i64 (next : Int)) /\ W.cell? ⟨b, o, none⟩ = some (.int .i64 kx) /\ W.cell? ⟨b, o + 1, none⟩ = some (.string sx) /\ W.cell? ⟨b, o + 2, none⟩ = some (.slice ax lx cx)) hmx hS0 (fun hS => ?_)
 refine takeF 0 (some 88) (v := ?_) hS ?_ ?_
 rotate_left
 ·intro w hSw
  obtain ⟨s1, s2, s3, s4, s5, s6⟩ := hSw
  go_simp
  with_reducible rfl
 try simp only [lay4]
 refine takeF 1 (some 89) (v := ?_) hS ?_ ?_
 rotate_left
 ·intro w hSw
  obtain ⟨s1, s2, s3, s4, s5, s6⟩ := hSw
  go_simp
  with_reducible rfl
 try simp only [lay4]
 refine takeF 2 (some 90) (v := ?_) hS ?_ ?_
 rotate_left
 ·intro w hSw
  obtain ⟨s1, s2, s3, s4, s5, s6⟩ := hSw
  go_simp
  with_reducible rfl
 try simp only [lay4]
 refine takeF 3 (some 91) (v := ?_) hS ?_ ?_
 rotate_left
 ·intro w hSw
  obtain ⟨s1, s2, s3, s4, s5, s6⟩ := hSw
  go_simp
  with_reducible rfl
 try simp only [lay4]
 refine takeF 4 (some 92) (v := ?_) hS ?_ ?_
 rotate_left
 ·intro w hSw
  obtain ⟨s1, s2, s3, s4, s5, s6⟩ := hSw
  go_simp
  with_reducible rfl
 try simp only [lay4]
 refine takeF 5 (some 93) (v := ?_) hS ?_ ?_
 rotate_left
 ·intro w hSw
  obtain ⟨s1, s2, s3, s4, s5, s6⟩ := hSw
  go_simp
  with_reducible rfl
 try simp only [lay4]
 refine callD 6 (by kernel_rfl) rfl (fun K hK => ?_)
 go_simp
 refine HL.out.mono ?_
 rintro e W ⟨rfl, A', hP', hF'⟩
 obtain ⟨hSW, hFw⟩ := HS.out W A' hF'
 refine hK.out _ _ hSW (fun _ => ?_)
 clear hK K
 try simp only [lay4]
 refine takeF 7 (some 87) (v := ?_) hSW ?_ ?_
 rotate_left
 ·intro w hSw
  obtain ⟨s1, s2, s3, s4, s5, s6⟩ := hSw
  try go_simp
  with_reducible rfl
 try simp only [lay4]
 refine takeF 8 (some 95) (v := ?_) hSW ?_ ?_
 rotate_left
 ·intro w hSw
  obtain ⟨s1, s2, s3, s4, s5, s6⟩ := hSw
  go_simp
  with_reducible rfl
 try simp only [lay4]
 refine takeF 9 (some 96) (v := ?_) hSW ?_ ?_
 rotate_left
 ·intro w hSw
  obtain ⟨s1, s2, s3, s4, s5, s6⟩ := hSw
  go_simp
  with_reducible rfl
 try simp only [lay4]
 refine takeF 10 (some 12) (v := ?_) hSW ?_ ?_
 rotate_left
 ·intro w hSw
  obtain ⟨s1, s2, s3, s4, s5, s6⟩ := hSw
  try go_simp
  with_reducible rfl
 try simp only [lay4]
 refine takeF 11 (some 13) (v := ?_) hSW ?_ ?_
 rotate_left
 ·intro w hSw
  obtain ⟨s1, s2, s3, s4, s5, s6⟩ := hSw
  try go_simp
  with_reducible rfl
 try simp only [lay4]
 refine wpAnyH_done (by kernel_rfl) ?_ _
 go_wp2
 go_ret
 exact ⟨rfl, A', hP', hFw⟩
set_option maxRecDepth 100000 in
set_option maxHeartbeats 2000000 in
theorem layplus_calls (W0 : World) (gs : List Grp) (ga : Option Addr) (gl gc n : Nat) (hlay : LayC W0 gs ga gl gc n) (s : ByteArray) (a : Option Addr) (len cap : Nat) (x : DataW Unit) (w : World) (next : Nat) (A : Nat -> Prop) (B : Nat) (L : List Place)
  (hE : Ex W0 (n + 1) (node 5 s [x]) (.agg #[.int .i64 5, .string s, .slice a len cap])) (hS : SaneD gs n x) (hB : Below W0.heap.size W0 w) (hA : ∀ b, A b -> W0.heap.size <= b)
  (hP : PlanIn A w B (.slice ga gl gc) L) (hwf : wf L) (hn : next < L.length) (hlen : L.length + (2 + need subs n x) <= 1000000000) :
  Calls Tryz.prog 110 #[.pointer (some ⟨B, 0, none⟩), .agg #[.int .i64 5, .string s, .slice a len cap], .int .i64 (next : Int)] w fun e w' => e = .returned (.int .i64 ((layLoop (layD gs n) [x] next L).2.2 : Int)) /\ ∃ A', PlanIn A' w' B (.slice ga gl gc) (layLoop (layD gs n) [x] next L).1 /\ Fr A w A' w' := by
 have hbase := hB.size
 obtain ⟨w3, hw3⟩ : ∃ w3, w3 = laid3 w B 5 s a len cap next := ⟨_, rfl⟩
 have hs3 : w3.heap.size = w.heap.size + 3 := by rw [hw3, laid3_size]
 have hb3 : Below w.heap.size w w3 := by rw [hw3]; exact laid3_below ..
 have hP3 : PlanIn (fun b => A b /\ b < w.heap.size) w3 B (.slice ga gl gc) L := hP.tight.kept (fun _ h => h) fun b hb _ => hb3.block b hb
 have hB3 : Below W0.heap.size W0 w3 := hB.trans (hb3.mono hbase)
 have hA3 : ∀ b, A b /\ b < w.heap.size -> W0.heap.size <= b := fun b h => hA b h.1
 obtain ⟨rfl, b, o, kx, sx, ax, lx, cx, rfl, hEx, hkid⟩ := kid_one hE
 have HL : Hid (Calls Tryz.prog 145 #[.pointer (some ⟨B, 0, none⟩), .agg #[.int .i64 kx, .string sx, .slice ax lx cx], .int .i64 (next : Int)] w3.drew fun e w' => e = .returned (.tuple #[.int .i64 ((layLoop (layD gs n) [x] next L).2.1 : Int), .int .i64 ((layLoop (layD gs n) [x] next L).2.2 : Int)]) /\ ∃ A', PlanIn A' w' B (.slice ga gl gc) (layLoop (layD gs n) [x] next L).1 /\ Fr (fun b => A b /\ b < w.heap.size) w3.drew A' w') :=
  loop_calls W0 gs ga gl gc n hlay x _ w3.drew next (fun b => A b /\ b < w.heap.size) B L hEx hS hB3.drew hA3 (hP3.kept (fun _ h => h) fun _ _ _ => rfl) hwf hn (by omega)
 have HS : Hid (∀ (W : World) (A' : Nat -> Prop), Fr (fun b => A b /\ b < w.heap.size) w3.drew A' W -> (W.cell? ⟨w.heap.size, 0, none⟩ = some (.pointer (some ⟨B, 0, none⟩)) /\ W.cell? ⟨w.heap.size + 1, 2, none⟩ = some (.slice (some ⟨b, o, none⟩) 1 cap) /\ W.cell? ⟨w.heap.size + 2, 0, none⟩ = some (.int .i64 (next : Int)) /\ W.cell? ⟨b, o, none⟩ = some (.int .i64 kx) /\ W.cell? ⟨b, o + 1, none⟩ = some (.string sx) /\ W.cell? ⟨b, o + 2, none⟩ = some (.slice ax lx cx)) /\ Fr A w A' W) := by
  intro W A' hF
  obtain ⟨d0, _, _, d3, d4⟩ := laid3_cells (w := w) (X := W) (B := B) (k := 5) (s := s) (a := some ⟨b, o, none⟩) (len := 1) (cap := cap) (next := next) (fun j hj => by
   rw [<- hw3]
   exact hF.same _ (by show _ < w3.heap.size; omega) (fun h => by have := h.2; omega))
  obtain ⟨c0, c1, c2⟩ := hkid W (hB3.drew.trans (hF.toBelow (base := W0.heap.size) (by show _ <= w3.heap.size; omega) (fun k hk h => by have := hA3 k h; omega)))
  refine ⟨⟨d0, d3, d4, c0, c1, c2⟩, ((Fr.of_below (A := A) hb3.drew).trans (hF.wide (A := A) fun k h => h.1))⟩
 have hw3' : Hid (((w.alloc (.cells #[.pointer (some ⟨B, 0, none⟩)] 175)).alloc (.cells #[.int .i64 5, .string s, .slice (some ⟨b, o, none⟩) 1 cap] 90)).alloc (.cells #[.int .i64 (next : Int)] 3) = w3) := hw3.symm
 generalize layLoop (layD gs n) [x] next L = r at *
 obtain ⟨R, f1, f2⟩ := r
 simp only at *
 have hS0 := (HS.out _ _ (Fr.refl _ _)).1
 clear hP hP3 hB hB3 hE hS hlay hwf hA hA3 hEx hkid hw3 hb3
 go_enter Tryz.func110, Tryz.ntmps110
 go_wp2_with fail
 rw [hw3'.out]
 refine wp_region_held_drew (S := fun W => W.cell? ⟨w.heap.size, 0, none⟩ = some (.pointer (some ⟨B, 0, none⟩)) /\ W.cell? ⟨w.heap.size + 1, 2, none⟩ = some (.slice (some ⟨b, o, none⟩) 1 cap) /\ W.cell? ⟨w.heap.size + 2, 0, none⟩ = some (.int .i64 (next : Int)) /\ W.cell? ⟨b, o, none⟩ = some (.int .i64 kx) /\ W.cell? ⟨b, o + 1, none⟩ = some (.string sx) /\ W.cell? ⟨b, o + 2, none⟩ = some (.slice ax lx cx)) hmx hS0 (fun hS => ?_)
 refine takeF 0 (some 101) (v := ?_) hS ?_ ?_
 rotate_left
 ·intro w hSw
  obtain ⟨s1, s2, s3, s4, s5, s6⟩ := hSw
  go_simp
  with_reducible rfl
 try simp only [lay4]
 refine takeF 1 (some 102) (v := ?_) hS ?_ ?_
 rotate_left
 ·intro w hSw
  obtain ⟨s1, s2, s3, s4, s5, s6⟩ := hSw
  go_simp
  with_reducible rfl
 try simp only [lay4]
 refine takeF 2 (some 103) (v := ?_) hS ?_ ?_
 rotate_left
 ·intro w hSw
  obtain ⟨s1, s2, s3, s4, s5, s6⟩ := hSw
  go_simp
  with_reducible rfl
 try simp only [lay4]
 refine takeF 3 (some 104) (v := ?_) hS ?_ ?_
 rotate_left
 ·intro w hSw
  obtain ⟨s1, s2, s3, s4, s5, s6⟩ := hSw
  go_simp
  with_reducible rfl
 try simp only [lay4]
 refine takeF 4 (some 105) (v := ?_) hS ?_ ?_
 rotate_left
 ·intro w hSw
  obtain ⟨s1, s2, s3, s4, s5, s6⟩ := hSw
  go_simp
  with_reducible rfl
 try simp only [lay4]
 refine takeF 5 (some 106) (v := ?_) hS ?_ ?_
 rotate_left
 ·intro w hSw
  obtain ⟨s1, s2, s3, s4, s5, s6⟩ := hSw
  go_simp
  with_reducible rfl
 try simp only [lay4]
 refine callD 6 (by kernel_rfl) rfl (fun K hK => ?_)
 go_simp
 refine HL.out.mono ?_
 rintro e W ⟨rfl, A', hP', hF'⟩
 obtain ⟨hSW, hFw⟩ := HS.out W A' hF'
 refine hK.out _ _ hSW (fun _ => ?_)
 clear hK K
 try simp only [lay4]
 refine takeF 7 (some 100) (v := ?_) hSW ?_ ?_
 rotate_left
 ·intro w hSw
  obtain ⟨s1, s2, s3, s4, s5, s6⟩ := hSw
  try go_simp
  with_reducible rfl
 try simp only [lay4]
 refine takeF 8 (some 108) (v := ?_) hSW ?_ ?_
 rotate_left
 ·intro w hSw
  obtain ⟨s1, s2, s3, s4, s5, s6⟩ := hSw
  go_simp
  with_reducible rfl
 try simp only [lay4]
 refine takeF 9 (some 109) (v := ?_) hSW ?_ ?_
 rotate_left
 ·intro w hSw
  obtain ⟨s1, s2, s3, s4, s5, s6⟩ := hSw
  go_simp
  with_reducible rfl
 try simp only [lay4]
 refine takeF 10 (some 14) (v := ?_) hSW ?_ ?_
 rotate_left
 ·intro w hSw
  obtain ⟨s1, s2, s3, s4, s5, s6⟩ := hSw
  try go_simp
  with_reducible rfl
 try simp only [lay4]
 refine takeF 11 (some 15) (v := ?_) hSW ?_ ?_
 rotate_left
 ·intro w hSw
  obtain ⟨s1, s2, s3, s4, s5, s6⟩ := hSw
  try go_simp
  with_reducible rfl
 try simp only [lay4]
 refine wpAnyH_done (by kernel_rfl) ?_ _
 go_wp2
 go_ret
 exact ⟨rfl, A', hP', hFw⟩
set_option maxRecDepth 100000 in
set_option maxHeartbeats 2000000 in
theorem layopt_calls (W0 : World) (gs : List Grp) (ga : Option Addr) (gl gc n : Nat) (hlay : LayC W0 gs ga gl gc n) (s : ByteArray) (a : Option Addr) (len cap : Nat) (x : DataW Unit) (w : World) (next : Nat) (A : Nat -> Prop) (B : Nat) (L : List Place)
  (hE : Ex W0 (n + 1) (node 6 s [x]) (.agg #[.int .i64 6, .string s, .slice a len cap])) (hS : SaneD gs n x) (hB : Below W0.heap.size W0 w) (hA : ∀ b, A b -> W0.heap.size <= b)
  (hP : PlanIn A w B (.slice ga gl gc) L) (hwf : wf L) (hn : next < L.length) (hlen : L.length + (2 + need subs n x) <= 1000000000) :
  Calls Tryz.prog 110 #[.pointer (some ⟨B, 0, none⟩), .agg #[.int .i64 6, .string s, .slice a len cap], .int .i64 (next : Int)] w fun e w' => e = .returned (.int .i64 ((layOpt (layD gs n) [x] next L).2 : Int)) /\ ∃ A', PlanIn A' w' B (.slice ga gl gc) (layOpt (layD gs n) [x] next L).1 /\ Fr A w A' w' := by
 have hbase := hB.size
 obtain ⟨w3, hw3⟩ : ∃ w3, w3 = laid3 w B 6 s a len cap next := ⟨_, rfl⟩
 have hs3 : w3.heap.size = w.heap.size + 3 := by rw [hw3, laid3_size]
 have hb3 : Below w.heap.size w w3 := by rw [hw3]; exact laid3_below ..
 have hP3 : PlanIn (fun b => A b /\ b < w.heap.size) w3 B (.slice ga gl gc) L := hP.tight.kept (fun _ h => h) fun b hb _ => hb3.block b hb
 have hB3 : Below W0.heap.size W0 w3 := hB.trans (hb3.mono hbase)
 have hA3 : ∀ b, A b /\ b < w.heap.size -> W0.heap.size <= b := fun b h => hA b h.1
 obtain ⟨rfl, b, o, kx, sx, ax, lx, cx, rfl, hEx, hkid⟩ := kid_one hE
 obtain ⟨a1, a2, a3, a4, a5, a6⟩ := layD_good gs n x hS next L hwf hn
 have hsn := size_need subs n x
 have HL : Hid (Calls Tryz.prog 110 #[.pointer (some ⟨B, 0, none⟩), .agg #[.int .i64 kx, .string sx, .slice ax lx cx], .int .i64 (next : Int)] w3.drew fun e w' => e = .returned (.int .i64 ((layD gs n x next L).2 : Int)) /\ ∃ A', PlanIn A' w' B (.slice ga gl gc) (layD gs n x next L).1 /\ Fr (fun b => A b /\ b < w.heap.size) w3.drew A' w') :=
  hlay x _ w3.drew next (fun b => A b /\ b < w.heap.size) B L hEx hS hB3.drew hA3 (hP3.kept (fun _ h => h) fun _ _ _ => rfl) hwf hn (by omega)
 have HS : Hid (∀ (W : World) (A1 A' : Nat -> Prop), (∀ k, A1 k -> (A k /\ k < w.heap.size) \/ w3.heap.size <= k) -> Fr A1 w3.drew A' W -> (W.cell? ⟨w.heap.size, 0, none⟩ = some (.pointer (some ⟨B, 0, none⟩)) /\ W.cell? ⟨w.heap.size + 1, 2, none⟩ = some (.slice (some ⟨b, o, none⟩) 1 cap) /\ W.cell? ⟨w.heap.size + 2, 0, none⟩ = some (.int .i64 (next : Int)) /\ W.cell? ⟨b, o, none⟩ = some (.int .i64 kx) /\ W.cell? ⟨b, o + 1, none⟩ = some (.string sx) /\ W.cell? ⟨b, o + 2, none⟩ = some (.slice ax lx cx)) /\ Fr A w A' W) := by
  intro W A1 A' hA1 hF
  have hnot : ∀ k, k < w3.heap.size -> ¬ (A k /\ k < w.heap.size) -> ¬ A1 k := fun k hk h h1 => by
   rcases hA1 k h1 with h2 | h2
   ·exact h h2
   ·omega
  obtain ⟨d0, _, _, d3, d4⟩ := laid3_cells (w := w) (X := W) (B := B) (k := 6) (s := s) (a := some ⟨b, o, none⟩) (len := 1) (cap := cap) (next := next) (fun j hj => by
   rw [<- hw3]
   exact hF.same _ (by show _ < w3.heap.size; omega) (hnot _ (by omega) (fun h => by have := h.2; omega)))
  obtain ⟨c0, c1, c2⟩ := hkid W (hB3.drew.trans (hF.toBelow (base := W0.heap.size) (by show _ <= w3.heap.size; omega) (fun k hk => hnot k (by omega) (fun h => by have := hA3 k h; omega))))
  refine ⟨⟨d0, d3, d4, c0, c1, c2⟩, (Fr.of_below (A := A) hb3.drew).trans (hF.less fun k h => ?_)⟩
  rcases hA1 k h with h2 | h2
  ·exact .inl h2.1
  ·exact .inr h2
 have HF : Hid (∀ (W : World) (A' : Nat -> Prop), PlanIn A' W B (.slice ga gl gc) (layD gs n x next L).1 -> Fr (fun b => A b /\ b < w.heap.size) w3.drew A' W →
   Fr (fun b => A b /\ b < w.heap.size) w3.drew A' (W.alloc (.cells #[.int .i64 (next : Int), .int .i64 ((layD gs n x next L).2 : Int)] 3)) ∧
   Calls Tryz.prog 144 #[.pointer (some ⟨B, 0, none⟩), .slice (some ⟨W.heap.size, 0, none⟩) 2 2] (W.alloc (.cells #[.int .i64 (next : Int), .int .i64 ((layD gs n x next L).2 : Int)] 3)) fun e w' => e = .returned (.int .i64 ((layOpt (layD gs n) [x] next L).2 : Int)) /\ ∃ A1 A'', (∀ k, A1 k -> (A k /\ k < w.heap.size) \/ w3.heap.size <= k) /\ PlanIn A'' w' B (.slice ga gl gc) (layOpt (layD gs n) [x] next L).1 /\ Fr A1 w3.drew A'' w') := by
  intro W A' hP' hF'
  have hFa := hF'.alloc (.cells #[.int .i64 (next : Int), .int .i64 ((layD gs n x next L).2 : Int)] 3)
  refine ⟨hFa, ?_⟩
  have hsz : w3.heap.size <= W.heap.size := hF'.below.size
  have := fork_calls (fun k => A' k /\ k < W.heap.size) B (.slice ga gl gc) (layD gs n x next L).1 (W.alloc (.cells #[.int .i64 (next : Int), .int .i64 ((layD gs n x next L).2 : Int)] 3)) [next, (layD gs n x next L).2] _ 2 2
   (hP'.tight.kept (fun _ h => h) fun k hk _ => Below.heap_alloc W _ k hk) (owns_new2 W next (layD gs n x next L).2) (fun g hg h => by have := own_some hg; have := h.2; omega) (by omega) (by simp) (fun q hq => by
    simp at hq
    rcases hq with rfl | rfl
    ·omega
    ·exact a2) (by simp) (fun p => by have := a1.least_lt p; omega)
  refine this.mono ?_
  rintro e W2 ⟨rfl, A'', hP'', hF''⟩
  refine ⟨rfl, fun k => (A k /\ k < w.heap.size) \/ w3.heap.size <= k, A'', fun k h => h, hP'', ?_⟩
  refine (Fr.trans (A' := fun k => (A' k /\ k < W.heap.size) \/ (Value.slice (some ⟨W.heap.size, 0, none⟩) 2 2).ownBlock = some k) (w' := W.alloc (.cells #[.int .i64 (next : Int), .int .i64 ((layD gs n x next L).2 : Int)] 3)) ?_ hF'')
  refine ⟨hFa.below, fun k hk hn => hFa.same k hk (fun h => hn (.inl h)), fun k hk => ?_⟩
  rcases hk with h | h
  ·rcases hFa.sub k h.1 with h1 | h1
   ·exact .inl (.inl h1)
   ·exact .inr h1
  ·have := own_some h
   exact .inr (by show w3.heap.size <= k; omega)
 have hw3' : Hid (((w.alloc (.cells #[.pointer (some ⟨B, 0, none⟩)] 175)).alloc (.cells #[.int .i64 6, .string s, .slice (some ⟨b, o, none⟩) 1 cap] 90)).alloc (.cells #[.int .i64 (next : Int)] 3) = w3) := hw3.symm
 generalize layOpt (layD gs n) [x] next L = r at *
 generalize ((layD gs n x next L).2 : Int) = f1 at *
 obtain ⟨R, f2⟩ := r
 simp only at *
 have hS0 := (HS.out _ _ _ (fun k h => .inl h) (Fr.refl (fun b => A b /\ b < w.heap.size) w3.drew)).1
 clear hP hP3 hB hB3 hE hS hlay hwf hA hA3 hEx hkid hw3 hb3 a1 a2 a3 a4 a5 a6 hsn
 go_enter Tryz.func110, Tryz.ntmps110
 go_wp2_with fail
 rw [hw3'.out]
 refine wp_region_held_drew (S := fun W => W.cell? ⟨w.heap.size, 0, none⟩ = some (.pointer (some ⟨B, 0, none⟩)) /\ W.cell? ⟨w.heap.size + 1, 2, none⟩ = some (.slice (some ⟨b, o, none⟩) 1 cap) /\ W.cell? ⟨w.heap.size + 2, 0, none⟩ = some (.int .i64 (next : Int)) /\ W.cell? ⟨b, o, none⟩ = some (.int .i64 kx) /\ W.cell? ⟨b, o + 1, none⟩ = some (.string sx) /\ W.cell? ⟨b, o + 2, none⟩ = some (.slice ax lx cx)) hmx hS0 (fun hS => ?_)
 refine takeF 0 (some 74) (v := ?_) hS ?_ ?_
 rotate_left
 ·intro w hSw
  obtain ⟨s1, s2, s3, s4, s5, s6⟩ := hSw
  go_simp
  with_reducible rfl
 try simp only [lay4]
 refine takeF 1 (some 75) (v := ?_) hS ?_ ?_
 rotate_left
 ·intro w hSw
  obtain ⟨s1, s2, s3, s4, s5, s6⟩ := hSw
  go_simp
  with_reducible rfl
 try simp only [lay4]
 refine takeF 2 (some 76) (v := ?_) hS ?_ ?_
 rotate_left
 ·intro w hSw
  obtain ⟨s1, s2, s3, s4, s5, s6⟩ := hSw
  go_simp
  with_reducible rfl
 try simp only [lay4]
 refine takeF 3 (some 77) (v := ?_) hS ?_ ?_
 rotate_left
 ·intro w hSw
  obtain ⟨s1, s2, s3, s4, s5, s6⟩ := hSw
  go_simp
  with_reducible rfl
 try simp only [lay4]
 refine takeF 4 (some 78) (v := ?_) hS ?_ ?_
 rotate_left
 ·intro w hSw
  obtain ⟨s1, s2, s3, s4, s5, s6⟩ := hSw
  go_simp
  with_reducible rfl
 try simp only [lay4]
 refine takeF 5 (some 79) (v := ?_) hS ?_ ?_
 rotate_left
 ·intro w hSw
  obtain ⟨s1, s2, s3, s4, s5, s6⟩ := hSw
  go_simp
  with_reducible rfl
 try simp only [lay4]
 refine takeF 6 (some 80) (v := ?_) hS ?_ ?_
 rotate_left
 ·intro w hSw
  obtain ⟨s1, s2, s3, s4, s5, s6⟩ := hSw
  go_simp
  with_reducible rfl
 try simp only [lay4]
 refine takeF 7 (some 81) (v := ?_) hS ?_ ?_
 rotate_left
 ·intro w hSw
  obtain ⟨s1, s2, s3, s4, s5, s6⟩ := hSw
  go_simp
  with_reducible rfl
 try simp only [lay4]
 refine callD 8 (by kernel_rfl) rfl (fun K hK => ?_)
 go_simp
 refine HL.out.mono ?_
 rintro e W ⟨rfl, A', hP', hF'⟩
 obtain ⟨hFa, HFK⟩ := HF.out W A' hP' hF'
 have hSW := (HS.out W _ A' (fun k h => .inl h) hF').1
 have hSa := (HS.out _ _ A' (fun k h => .inl h) hFa).1
 refine hK.out _ _ hSW (fun _ => ?_)
 clear hK K
 try simp only [lay4]
 refine callD 9 (by kernel_rfl) rfl (fun K hK => ?_)
 go_simp
 refine hK.out _ _ hSa (fun _ => ?_)
 clear hK K
 try simp only [lay4]
 refine callD 10 (by kernel_rfl) rfl (fun K hK => ?_)
 go_simp
 refine HFK.mono ?_
 rintro e W2 ⟨rfl, A1, A'', hA1, hP2, hF2⟩
 obtain ⟨hS2, hFw⟩ := HS.out W2 A1 A'' hA1 hF2
 refine hK.out _ _ hS2 (fun _ => ?_)
 clear hK K
 try simp only [lay4]
 refine takeF 11 (some 6) (v := ?_) hS2 ?_ ?_
 rotate_left
 ·intro w hSw
  obtain ⟨s1, s2, s3, s4, s5, s6⟩ := hSw
  try go_simp
  with_reducible rfl
 try simp only [lay4]
 refine wpAnyH_done (by kernel_rfl) ?_ _
 go_wp2
 go_ret
 exact ⟨rfl, A'', hP2, hFw⟩
end Go.Proofs.YtbkpehfaofhmaaaGreatDoor

/- DBLayAll: reg's lay at every right tree: what it returns and leaves; nothing else is turned. -/
namespace Go.Proofs.YtbkpehfaofhmaaaGreatDoor
open Go.RowKit
theorem layD_node (gs : List Grp) (n : Nat) (k : Int) (s : ByteArray) (ts : List (DataW Unit)) (next : Nat) (L : List Place) : layD gs (n + 1) (node k s ts) next L =
  if k = 1 then (L ++ [(maskG gs s, [next], leastAt L next + 1)], L.length)
  else if k = 2 then laySeq (layD gs n) ts.reverse next L
  else if k = 3 then forkL (layAlt (layD gs n) next ts L []).1 (layAlt (layD gs n) next ts L []).2
  else if k = 4 then ((layLoop (layD gs n) ts next L).1, (layLoop (layD gs n) ts next L).2.1)
  else if k = 5 then ((layLoop (layD gs n) ts next L).1, (layLoop (layD gs n) ts next L).2.2)
  else if k = 6 then layOpt (layD gs n) ts next L
  else (L, next) := by
 unfold layD
 rw [lay, kindT_node, subs_node, nameT_node]
theorem saneD_node {gs : List Grp} {n : Nat} {k : Int} {s : ByteArray} {ts : List (DataW Unit)} (h : SaneD gs (n + 1) (node k s ts)) : (k = 1 -> maskG gs s ≠ 0) /\ (k = 2 \/ k = 3 -> ts ≠ []) /\ (k = 4 \/ k = 5 \/ k = 6 -> ∃ x, ts = [x]) /\ ∀ x ∈ ts, SaneD gs n x := by
 unfold SaneD at h
 rw [Sane, kindT_node, subs_node, nameT_node] at h
 exact h
theorem need_node (n : Nat) (k : Int) (s : ByteArray) (x : DataW Unit) : 2 + need subs n x <= need subs (n + 1) (node k s [x]) := by
 rw [need, subs_node]
 simp
 omega
theorem len_need (n : Nat) (k : Int) (s : ByteArray) (ts : List (DataW Unit)) {gs : List Grp} (h : ∀ x ∈ ts, SaneD gs n x) : ts.length <= need subs (n + 1) (node k s ts) := by
 rw [need, subs_node]
 cases n with
 | zero =>
  cases ts with
  | nil => simp
  | cons x r => exact (h x (List.mem_cons_self ..)).elim
 | succ n =>
  have : ∀ l : List (DataW Unit), l.length <= (l.map (need subs (n + 1))).sum := by
   intro l
   induction l with
   | nil => exact Nat.le_refl _
   | cons x r ih =>
    have h1 : 3 <= need subs (n + 1) x := by rw [need]; omega
    rw [List.map_cons, List.sum_cons, List.length_cons]
    omega
  have := this ts
  omega
theorem lay_calls (W0 : World) (gs : List Grp) (ga : Option Addr) (gl gc : Nat) (hG : Groups W0 ga gl gs) (hgr : rightG gs = true) : ∀ n, LayC W0 gs ga gl gc n := by
 intro n
 induction n with
 | zero => intro t v w next A B L hE; exact hE.elim
 | succ n ih =>
  intro t v w next A B L hE hS hB hA hP hwf hn hlen
  have hE' := hE
  obtain ⟨k, s, a, len, cap, ts, rfl, rfl, hl, hz, hk⟩ := hE
  obtain ⟨s1, s3, s4, sk⟩ := saneD_node hS
  have hln := len_need n k s ts sk
  rw [layD_node]
  by_cases k1 : k = 1
  ·subst k1
   rw [if_pos rfl]
   exact layname_calls W0 gs ga gl gc hG hgr s a len cap w next A B L hB hA hP hwf hn (by omega)
  rw [if_neg k1]
  by_cases k2 : k = 2
  ·subst k2
   rw [if_pos rfl]
   exact layseq_calls W0 gs ga gl gc n ih s a len cap ts w next A B L hE' (s3 (.inl rfl)) sk hB hA hP hwf hn hlen
  rw [if_neg k2]
  by_cases k3 : k = 3
  ·subst k3
   rw [if_pos rfl]
   exact layalt_calls W0 gs ga gl gc n ih s a len cap ts w next A B L hE' (s3 (.inr rfl)) sk hB hA hP hwf hn hlen (by omega)
  rw [if_neg k3]
  by_cases k4 : k = 4
  ·subst k4
   rw [if_pos rfl]
   obtain ⟨x, rfl⟩ := s4 (.inl rfl)
   have := need_node n 4 s x
   exact laystar_calls W0 gs ga gl gc n ih s a len cap x w next A B L hE' (sk x (List.mem_singleton.2 rfl)) hB hA hP hwf hn (by omega)
  rw [if_neg k4]
  by_cases k5 : k = 5
  ·subst k5
   rw [if_pos rfl]
   obtain ⟨x, rfl⟩ := s4 (.inr (.inl rfl))
   have := need_node n 5 s x
   exact layplus_calls W0 gs ga gl gc n ih s a len cap x w next A B L hE' (sk x (List.mem_singleton.2 rfl)) hB hA hP hwf hn (by omega)
  rw [if_neg k5]
  by_cases k6 : k = 6
  ·subst k6
   rw [if_pos rfl]
   obtain ⟨x, rfl⟩ := s4 (.inr (.inr rfl))
   have := need_node n 6 s x
   exact layopt_calls W0 gs ga gl gc n ih s a len cap x w next A B L hE' (sk x (List.mem_singleton.2 rfl)) hB hA hP hwf hn (by omega)
  rw [if_neg k6]
  exact laynone_calls W0 ga gl gc k (by omega) s a len cap w next A B L hB hP
end Go.Proofs.YtbkpehfaofhmaaaGreatDoor
