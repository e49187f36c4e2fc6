/-
  PROVED HERE: the body of FitSlices: it answers true at every slice of tokens and every type.
-/
import Derived.Test.YtpcgedcklmdmkaaRClos
import Derived.Test.YtpcgedcklmdmkaaRPlai
import Derived.Test.YtpcgedcklmdmkaaRSame
import Derived.Test.YtpcgedcklmdmkaaAwk
import Derived.Test.YtpcgedcklmdmkaaTak
import Derived.Deep.RegionWith
namespace Go.Proofs.Ytpcgedcklmdmkaa
open Go.RowKit

theorem alike_same (a1 a2 : Option Addr) (n c1 c2 : Nat) (l : List Tok) (w : World) (h1 : Toks w a1 n l) (h2 : Toks w a2 n l) (hsz : n ≤ 35184372088832) :
    Calls Try.prog 6 #[.slice a1 n c1, .slice a2 n c2] w fun e w' => e = .returned (.bool true) ∧ Below w.heap.size w w' := by
  have h := alike_calls a1 a2 n n c1 c2 l l w h1 h2 hsz hsz
  rw [(eqL_iff l l).2 rfl] at h
  exact h
theorem spc_all {w W : World} {s : Spc} (h : Below (w.alloc (spcO s)).heap.size (w.alloc (spcO s)) W) : W.cell? ⟨w.heap.size, 0, none⟩ = some (.string s.nm) ∧ W.cell? ⟨w.heap.size, 1, none⟩ = some (.string s.ex) ∧ W.cell? ⟨w.heap.size, 2, none⟩ = some (.bool s.leaf) ∧ W.cell? ⟨w.heap.size, 3, none⟩ = some (.int .i64 s.mks) ∧ W.cell? ⟨w.heap.size, 4, none⟩ = some (.int .i64 s.ls) ∧ W.cell? ⟨w.heap.size, 5, none⟩ = some (.int .i64 s.ms) ∧ W.cell? ⟨w.heap.size, 6, none⟩ = some (.bool s.ln) := by
  have hg := heap_alloc_new w (spcO s)
  have hc := fun j => (h.cell (p := ⟨w.heap.size, j, none⟩) (by simp)).trans (cell_of_row _ w.heap.size j _ _ _ hg)
  exact ⟨hc 0, hc 1, hc 2, hc 3, hc 4, hc 5, hc 6⟩
theorem below_drew1 {B : Nat} {w W : World} (h : Below B w W) : Below B w W.drew := ⟨h.os, h.tape, h.output, h.size, h.block⟩

set_option maxRecDepth 100000 in
set_option maxHeartbeats 2000000 in
theorem slices_walk (a : Option Addr) (len cap : Nat) (l : List Tok) (s : Spc) (w : World) (hl : Toks w a len l) (hsz : len ≤ 1048576) :
    Calls Try.prog 3 #[.slice a len cap, spcV s] w fun e w' => e = .returned (.bool true) ∧ Below w.heap.size w w' := by
  obtain ⟨W0, hW0⟩ : ∃ W0, w.alloc (spcO s) = W0 := ⟨_, rfl⟩
  have hB0 : Below w.heap.size w W0 := by rw [← hW0]; exact (Below.refl _ w).alloc (Nat.le_refl _) _
  have hl0 : Toks W0 a len l := hl.below hB0
  have hsp := fun W (h : Below W0.heap.size W0 W) => spc_all (w := w) (s := s) (W := W) (by rw [hW0]; exact h)
  have HW0 : Hid (w.alloc (spcO s) = W0) := hW0
  have hN : (closed l).length ≤ 35184372088832 := by
    have := closA_length l 0
    have := hl.1
    unfold closed
    omega
  have hM : (plainL s.mks s.ln l).length ≤ 35184372088832 := by
    have := plain_length s.mks s.ln l
    have := hl.1
    omega
  have H1 := fun W (h : Below W0.heap.size W0 W) => fclosed_calls a len cap l W (hl0.below h) (by omega)
  have H2 := fun W (h : Below W0.heap.size W0 W) => rclosed_calls a len cap l W (hl0.below h) (by omega)
  have H3 := fun W (h : Below W0.heap.size W0 W) => fplain_calls a len cap l s W (hl0.below h) (by omega)
  have H4 := fun W (h : Below W0.heap.size W0 W) => rplain_calls a len cap l s W (hl0.below h) (by omega)
  have H0 := hsp W0 (Below.refl _ _)
  obtain ⟨p0, p1, p2, p3, p4, p5, p6⟩ := H0
  obtain ⟨nm, ex, leaf, mks, ls, ms, ln⟩ := s
  simp only [spcO, spcV] at *
  generalize (closed l).length = N at *
  generalize closed l = C at *
  generalize (plainL mks ln l).length = M at *
  generalize plainL mks ln l = P at *
  have G1 : Hid _ := H1
  have G2 : Hid _ := H2
  have G3 : Hid _ := H3
  have G4 : Hid _ := H4
  clear H1 H2 H3 H4 hW0 hl hl0
  go_enter Try.func3, Try.ntmps3
  go_wp2_with fail
  rw [HW0.out]
  clear HW0 p0 p1 p2 p3 p4 p5 p6
  refine wp_region_held_drew (S := fun X => Below W0.heap.size W0 X) hmx (Below.refl _ _).drew (fun hS => ?_)
  refine takeD 0 (some 5) (v := ?_) rfl rfl (by kernel_rfl) (by kernel_rfl) (by kernel_rfl) (fun _ _ _ h => h) (Or.inl ⟨by rfl, ?_⟩) hS ?_
  rotate_left
  · intro w hSw
    try go_simp
    with_reducible rfl
  try simp only [Act.put, List.setIfInBounds_toArray, List.set_cons_zero, List.set_cons_succ]
  refine takeD 2 (some 7) (v := ?_) rfl rfl (by kernel_rfl) (by kernel_rfl) (by kernel_rfl) (fun _ _ _ h => h) (Or.inl ⟨by rfl, ?_⟩) hS ?_
  rotate_left
  · intro w hSw
    try go_simp
    with_reducible rfl
  try simp only [Act.put, List.setIfInBounds_toArray, List.set_cons_zero, List.set_cons_succ]
  refine callD 1 (by kernel_rfl) rfl (fun K hK => ?_)
  rw [if_pos (by rfl)]
  go_simp
  refine (G1.out _ hS).mono ?_
  rintro e W1 ⟨a1, c1, rfl, t1, b1⟩
  have h1 := hS.trans (b1.mono hS.size)
  refine hK.out _ _ h1 (fun _ => ?_)
  clear hK K
  try simp only [Act.put, List.setIfInBounds_toArray, List.set_cons_zero, List.set_cons_succ]
  refine callD 3 (by kernel_rfl) rfl (fun K hK => ?_)
  rw [if_pos (by rfl)]
  go_simp
  refine (G2.out _ h1).mono ?_
  rintro e W2 ⟨a2, c2, rfl, t2, b2⟩
  have h2 := h1.trans (b2.mono h1.size)
  refine hK.out _ _ h2 (fun _ => ?_)
  clear hK K
  try simp only [Act.put, List.setIfInBounds_toArray, List.set_cons_zero, List.set_cons_succ]
  refine callD 4 (by kernel_rfl) rfl (fun K hK => ?_)
  rw [if_pos (by rfl)]
  go_simp
  refine (alike_same a1 a2 N c1 c2 C _ (t1.below b2) t2 hN).mono ?_
  rintro e W3 ⟨rfl, b3⟩
  have h3 := h2.trans (b3.mono h2.size)
  refine hK.out _ _ h3 (fun _ => ?_)
  clear hK K
  try simp only [Act.put, List.setIfInBounds_toArray, List.set_cons_zero, List.set_cons_succ]
  refine takeD 5 (some 10) (v := ?_) rfl rfl (by kernel_rfl) (by kernel_rfl) (by kernel_rfl) (fun _ _ _ h => h) (Or.inl ⟨by rfl, ?_⟩) h3 ?_
  rotate_left
  · intro w hSw
    try go_simp
    with_reducible rfl
  try simp only [Act.put, List.setIfInBounds_toArray, List.set_cons_zero, List.set_cons_succ]
  refine takeD 6 (some 11) (v := ?_) rfl rfl (by kernel_rfl) (by kernel_rfl) (by kernel_rfl) (fun _ _ _ h => h) (Or.inl ⟨by rfl, ?_⟩) h3 ?_
  rotate_left
  · intro w hSw
    try go_simp
    with_reducible rfl
  try simp only [Act.put, List.setIfInBounds_toArray, List.set_cons_zero, List.set_cons_succ]
  refine takeD 7 (some 12) (v := ?_) rfl rfl (by kernel_rfl) (by kernel_rfl) (by kernel_rfl) (fun _ _ _ h => h) (Or.inl ⟨by rfl, ?_⟩) h3 ?_
  rotate_left
  · intro w hSw
    obtain ⟨y0, y1, y2, y3, y4, y5, y6⟩ := hsp _ hSw
    go_simp
    with_reducible rfl
  try simp only [Act.put, List.setIfInBounds_toArray, List.set_cons_zero, List.set_cons_succ]
  refine takeD 9 (some 14) (v := ?_) rfl rfl (by kernel_rfl) (by kernel_rfl) (by kernel_rfl) (fun _ _ _ h => h) (Or.inl ⟨by rfl, ?_⟩) h3 ?_
  rotate_left
  · intro w hSw
    try go_simp
    with_reducible rfl
  try simp only [Act.put, List.setIfInBounds_toArray, List.set_cons_zero, List.set_cons_succ]
  refine takeD 10 (some 15) (v := ?_) rfl rfl (by kernel_rfl) (by kernel_rfl) (by kernel_rfl) (fun _ _ _ h => h) (Or.inl ⟨by rfl, ?_⟩) h3 ?_
  rotate_left
  · intro w hSw
    obtain ⟨y0, y1, y2, y3, y4, y5, y6⟩ := hsp _ hSw
    go_simp
    with_reducible rfl
  try simp only [Act.put, List.setIfInBounds_toArray, List.set_cons_zero, List.set_cons_succ]
  refine callD 8 (by kernel_rfl) rfl (fun K hK => ?_)
  rw [if_pos (by rfl)]
  go_simp
  refine (G3.out _ h3).mono ?_
  rintro e W4 ⟨a4, c4, rfl, t4, b4⟩
  have h4 := h3.trans (b4.mono h3.size)
  refine hK.out _ _ h4 (fun _ => ?_)
  clear hK K
  try simp only [Act.put, List.setIfInBounds_toArray, List.set_cons_zero, List.set_cons_succ]
  refine callD 11 (by kernel_rfl) rfl (fun K hK => ?_)
  rw [if_pos (by rfl)]
  go_simp
  refine (G4.out _ h4).mono ?_
  rintro e W5 ⟨a5, c5, rfl, t5, b5⟩
  have h5 := h4.trans (b5.mono h4.size)
  refine hK.out _ _ h5 (fun _ => ?_)
  clear hK K
  try simp only [Act.put, List.setIfInBounds_toArray, List.set_cons_zero, List.set_cons_succ]
  refine callD 12 (by kernel_rfl) rfl (fun K hK => ?_)
  rw [if_pos (by rfl)]
  go_simp
  refine (alike_same a4 a5 M c4 c5 P _ (t4.below b5) t5 hM).mono ?_
  rintro e W6 ⟨rfl, b6⟩
  have h6 := h5.trans (b6.mono h5.size)
  refine hK.out _ _ h6 (fun _ => ?_)
  clear hK K
  try simp only [Act.put, List.setIfInBounds_toArray, List.set_cons_zero, List.set_cons_succ]
  refine takeD 13 (some 18) (v := ?_) rfl rfl (by kernel_rfl) (by kernel_rfl) (by kernel_rfl) (fun _ _ _ h => h) (Or.inl ⟨by rfl, ?_⟩) h6 ?_
  rotate_left
  · intro w hSw
    go_simp
    with_reducible rfl
  try simp only [Act.put, List.setIfInBounds_toArray, List.set_cons_zero, List.set_cons_succ]
  refine takeD 14 (some 19) (v := ?_) rfl rfl (by kernel_rfl) (by kernel_rfl) (by kernel_rfl) (fun _ _ _ h => h) (Or.inl ⟨by rfl, ?_⟩) h6 ?_
  rotate_left
  · intro w hSw
    try go_simp
    with_reducible rfl
  try simp only [Act.put, List.setIfInBounds_toArray, List.set_cons_zero, List.set_cons_succ]
  refine callD 15 (by kernel_rfl) rfl (fun K hK => ?_)
  rw [if_pos (by rfl)]
  go_simp
  refine (awake_calls _).mono ?_
  rintro e W7 ⟨rfl, b7⟩
  have h7 := h6.trans (b7.mono h6.size)
  refine hK.out _ _ h7 (fun _ => ?_)
  clear hK K
  try simp only [Act.put, List.setIfInBounds_toArray, List.set_cons_zero, List.set_cons_succ]
  refine takeD 16 (some 21) (v := ?_) rfl rfl (by kernel_rfl) (by kernel_rfl) (by kernel_rfl) (fun _ _ _ h => h) (Or.inl ⟨by rfl, ?_⟩) h7 ?_
  rotate_left
  · intro w hSw
    go_simp
    with_reducible rfl
  try simp only [Act.put, List.setIfInBounds_toArray, List.set_cons_zero, List.set_cons_succ]
  refine takeD 17 (some 4) (v := ?_) rfl rfl (by kernel_rfl) (by kernel_rfl) (by kernel_rfl) (fun _ _ _ h => h) (Or.inl ⟨by rfl, ?_⟩) h7 ?_
  rotate_left
  · intro w hSw
    try go_simp
    with_reducible rfl
  try simp only [Act.put, List.setIfInBounds_toArray, List.set_cons_zero, List.set_cons_succ]
  refine wpAnyH_done (by kernel_rfl) ?_ _
  go_wp2
  go_ret
  exact ⟨rfl, hB0.trans (h7.mono hB0.size)⟩
end Go.Proofs.Ytpcgedcklmdmkaa
