/-
  PROVED HERE: reg's lay at choices, if lay does as it should with each: what it returns and leaves; nothing else is turned.
-/
import Derived.Test.YtgkplmnhmobnnaaGreatDoorSM11
namespace Go.Proofs.YtgkplmnhmobnnaaGreatDoor
open Go.RowKit

theorem alt_snoc (f : DataW Unit → Nat → List Place → List Place × Nat) (next : Nat) (x : DataW Unit) : ∀ (l : List (DataW Unit)) (L : List Place) (ws : List Nat), layAlt f next (l ++ [x]) L ws = ((f x next (layAlt f next l L ws).1).1, (layAlt f next l L ws).2 ++ [(f x next (layAlt f next l L ws).1).2]) := by
  intro l
  induction l with
  | nil => intro L ws; rfl
  | cons y r ih => intro L ws; rw [List.cons_append, layAlt, ih, layAlt]
/-- What holds between two rounds over choices. -/
def AltI (f : DataW Unit → Nat → List Place → List Place × Nat) (ts : List (DataW Unit)) (w w3 : World) (B : Nat) (gv : Value) (A : Nat → Prop) (L : List Place) (next : Nat) (j : Nat) (u : Value) (W : World) : Prop :=
  ∃ A', PlanIn A' W B gv (layAlt f next (ts.take j) L []).1 ∧ W.ownsRow 0 3 1 u (layAlt f next (ts.take j) L []).2.length (numsV (layAlt f next (ts.take j) L []).2) ∧ (∀ g, u.ownBlock = some g → ¬ A' g ∧ w3.heap.size ≤ g) ∧
    (∀ b, b < 3 → W.heap[w.heap.size + b]? = w3.heap[w.heap.size + b]?) ∧ (∀ b, b < 3 → ¬ A' (w.heap.size + b)) ∧ Fr A w A' W ∧ w3.heap.size ≤ W.heap.size
set_option maxRecDepth 100000 in
set_option maxHeartbeats 2000000 in
theorem layalt_calls (W0 : World) (gs : List Grp) (ga : Option Addr) (gl gc n : Nat) (hlay : LayC W0 gs ga gl gc n) (s : ByteArray) (a : Option Addr) (len cap : Nat) (ts : List (DataW Unit)) (w : World) (next : Nat) (A : Nat → Prop) (B : Nat) (L : List Place)
    (hE : Ex W0 (n + 1) (node 3 s ts) (.agg #[.int .i64 3, .string s, .slice a len cap])) (hne : ts ≠ []) (hS : ∀ x ∈ ts, SaneD gs n x) (hB : Below W0.heap.size W0 w) (hA : ∀ b, A b → W0.heap.size ≤ b)
    (hP : PlanIn A w B (.slice ga gl gc) L) (hwf : wf L) (hn : next < L.length) (hlen : L.length + need subs (n + 1) (node 3 s ts) ≤ 1000000000) (hlt0 : len ≤ 1000000000) :
    Calls Tryz.prog 106 #[.pointer (some ⟨B, 0, none⟩), .agg #[.int .i64 3, .string s, .slice a len cap], .int .i64 (next : Int)] w fun e w' => e = .returned (.int .i64 ((forkL (layAlt (layD gs n) next ts L []).1 (layAlt (layD gs n) next ts L []).2).2 : Int)) ∧ ∃ A', PlanIn A' w' B (.slice ga gl gc) (forkL (layAlt (layD gs n) next ts L []).1 (layAlt (layD gs n) next ts L []).2).1 ∧ Fr A w A' w' := by
  have hbase := hB.size
  obtain ⟨k', s', a', len', cap', ts', hnode, hv, hl, hz, hk⟩ := hE
  obtain ⟨rfl, rfl, rfl⟩ := node_inj.1 hnode
  obtain ⟨rfl, rfl, rfl⟩ : a = a' ∧ len = len' ∧ cap = cap' := by
    have := Array.toList_inj.2 (Value.agg.inj hv)
    simp only [List.cons.injEq, Value.slice.injEq, and_true, true_and] at this
    exact this
  clear hv hnode
  have hlen0 : 0 < len := by have := List.length_pos_iff.2 hne; omega
  have hneed : (subs (node 3 s ts)).length * ((subs (node 3 s ts)).map (size subs n)).sum + ((subs (node 3 s ts)).map (need subs n)).sum + 3 + L.length ≤ 1000000000 := by
    rw [need] at hlen
    omega
  rw [subs_node] at hneed
  obtain ⟨w3, hw3⟩ : ∃ w3, w3 = laid3 w B 3 s a len cap next := ⟨_, rfl⟩
  have hs3 : w3.heap.size = w.heap.size + 3 := by rw [hw3, laid3_size]
  have hb3 : Below w.heap.size w w3 := by rw [hw3]; exact laid3_below ..
  have hgood : ∀ x ∈ ts, Good (layD gs n) (size subs n) x := fun x hx => layD_good gs n x (hS x hx)
  have hpre : ∀ j, wf (layAlt (layD gs n) next (ts.take j) L []).1 ∧ (∀ q ∈ (layAlt (layD gs n) next (ts.take j) L []).2, q < (layAlt (layD gs n) next (ts.take j) L []).1.length) ∧ next < (layAlt (layD gs n) next (ts.take j) L []).1.length ∧ (layAlt (layD gs n) next (ts.take j) L []).1.length ≤ L.length + (ts.map (size subs n)).sum ∧ (layAlt (layD gs n) next (ts.take j) L []).2.length = min j len := fun j => by
    obtain ⟨g1, g2, g3, g4, g5, g6⟩ := layAlt_good next (ts.take j) (fun x hx => hgood x (List.mem_of_mem_take hx)) L [] hwf hn (fun q hq => by cases hq)
    refine ⟨g1, fun q hq => (g2 q hq).1, by omega, Nat.le_trans g5 ?_, by rw [g6, List.length_take, hl]; simp⟩
    have : ∀ (l : List (DataW Unit)) (j : Nat), ((l.take j).map (size subs n)).sum ≤ (l.map (size subs n)).sum := by
      intro l
      induction l with
      | nil => intro j; simp
      | cons y r ih =>
        intro j
        cases j with
        | zero => simp
        | succ j => have := ih j; simp only [List.take_succ_cons, List.map_cons, List.sum_cons]; omega
    have := this ts j
    omega
  have hW0 : ∀ (A' : Nat → Prop) (W : World), Fr A w A' W → Below W0.heap.size W0 W ∧ ∀ b, A' b → W0.heap.size ≤ b := fun A' W hF => ⟨hB.trans (hF.toBelow hbase (fun k hk h => by have := hA k h; omega)), fun k hk => by
    rcases hF.sub k hk with h | h
    · exact hA k h
    · omega⟩
  have hsum : (ts.map (size subs n)).sum ≤ ts.length * (ts.map (size subs n)).sum := Nat.le_mul_of_pos_left _ (by omega)
  -- a round
  have HR : Hid (∀ (j : Nat) (u : Value) (W : World), j < len → AltI (layD gs n) ts w w3 B (.slice ga gl gc) A L next j u W → ∃ b o kx sx ax lx cx, a = some ⟨b, o, none⟩ ∧ W.cell? ⟨b, o + j * 3, none⟩ = some (.int .i64 kx) ∧ W.cell? ⟨b, o + j * 3 + 1, none⟩ = some (.string sx) ∧ W.cell? ⟨b, o + j * 3 + 2, none⟩ = some (.slice ax lx cx) ∧
      (W.alloc (.cells #[.int .i64 kx, .string sx, .slice ax lx cx] 64)).cell? ⟨w.heap.size, 0, none⟩ = some (.pointer (some ⟨B, 0, none⟩)) ∧ (W.alloc (.cells #[.int .i64 kx, .string sx, .slice ax lx cx] 64)).cell? ⟨w.heap.size + 2, 0, none⟩ = some (.int .i64 (next : Int)) ∧
      Calls Tryz.prog 106 #[.pointer (some ⟨B, 0, none⟩), .agg #[.int .i64 kx, .string sx, .slice ax lx cx], .int .i64 (next : Int)] (W.alloc (.cells #[.int .i64 kx, .string sx, .slice ax lx cx] 64)) fun e W2 => ∃ f : Int, e = .returned (.int .i64 f) ∧
        ∃ a2 n2 c2 W4, (Builtin.append_ #[57, 57] 57 #[u, .slice (some ⟨W2.heap.size, 0, none⟩) 1 1]).run Tryz.prog (W2.alloc (.cells #[.int .i64 f] 3)) = .ok (.slice a2 n2 c2) W4 ∧ AltI (layD gs n) ts w w3 B (.slice ga gl gc) A L next (j + 1) (.slice a2 n2 c2) W4) := by
    rintro j u W hj ⟨A', i1, i2, i3, i4, i5, i6, i7⟩
    obtain ⟨b, o, x, kx, sx, ax, lx, cx, ea, hlt, hx, hcx⟩ := kid_at hl hk hj
    obtain ⟨hBW, hAW⟩ := hW0 A' W i6
    obtain ⟨p0, p1, p2, _⟩ := hcx W hBW
    have hEx := (hcx W0 (Below.refl _ _)).2.2.2
    obtain ⟨W1, hW1⟩ : ∃ W1, W1 = W.alloc (.cells #[.int .i64 kx, .string sx, .slice ax lx cx] 64) := ⟨_, rfl⟩
    have hb1 : Below W.heap.size W W1 := by rw [hW1]; exact (Below.refl _ W).alloc (Nat.le_refl _) _
    have hs1 : W1.heap.size = W.heap.size + 1 := by rw [hW1]; simp
    obtain ⟨d0, _, _, _, d4⟩ := laid3_cells (w := w) (X := W1) (B := B) (k := 3) (s := s) (a := a) (len := len) (cap := cap) (next := next) (fun b hb => by
      rw [← hw3, ← i4 b hb]
      exact hb1.block _ (by omega))
    refine ⟨b, o, kx, sx, ax, lx, cx, ea, p0, p1, p2, by rw [← hW1]; exact d0, by rw [← hW1]; exact d4, ?_⟩
    rw [← hW1]
    obtain ⟨g1, g2, g3, g4, g5⟩ := hpre j
    have hxm := List.mem_of_getElem? hx
    have hnx := sum_ge_mem (f := need subs n) ts hxm
    have hst : ts.take (j + 1) = ts.take j ++ [x] := by rw [List.take_add_one, hx]; rfl
    refine (hlay x _ W1 next (fun k => A' k ∧ k < W.heap.size) B _ hEx (hS x hxm) (hBW.trans (hb1.mono hBW.size)) (fun k h => hAW k h.1) (i1.tight.kept (fun _ h => h) fun k hk _ => hb1.block k hk) g1 g3 (by omega)).mono ?_
    rintro e W2 ⟨rfl, A2, hP2, hF2⟩
    have hs2 := hF2.below.size
    refine ⟨_, rfl, ?_⟩
    obtain ⟨W3, hW3⟩ : ∃ W3, W3 = W2.alloc (.cells #[.int .i64 ((layD gs n x next (layAlt (layD gs n) next (ts.take j) L []).1).2 : Int)] 3) := ⟨_, rfl⟩
    have hb23 : Below W2.heap.size W2 W3 := by rw [hW3]; exact (Below.refl _ W2).alloc (Nat.le_refl _) _
    have hs33 : W3.heap.size = W2.heap.size + 1 := by rw [hW3]; simp
    -- a block that is none of the plan's is as it was
    have hkeep : ∀ k, k < W.heap.size → ¬ A' k → W3.heap[k]? = W.heap[k]? := fun k hk h => by
      rw [hb23.block k (by omega), hF2.same k (by omega) (fun h1 => h h1.1), hb1.block k hk]
    have hu : W3.ownsRow 0 3 1 u (layAlt (layD gs n) next (ts.take j) L []).2.length (numsV (layAlt (layD gs n) next (ts.take j) L []).2) := owns_same i2 fun g hg => hkeep g (owns_lt i2 hg).1 (i3 g hg).1
    obtain ⟨i0, hI, hz0, hz1, hz2⟩ := info_parts infoInt
    obtain ⟨v', W4, hrun, r1, r2, _, r4⟩ := run_append_own_at (P := Tryz.prog) W3 0 57 57 3 i0 _ 1 8 Tryz.underlying57 hI hz0 hz1 hz2 rfl (by decide) u _ _ hu ⟨W2.heap.size, 0, none⟩ 1 1 [.int .i64 ((layD gs n x next (layAlt (layD gs n) next (ts.take j) L []).1).2 : Int)] rfl (by rw [hW3]; exact cell_one_new W2 _ _) (fun y hy => by
      simp at hy
      subst hy
      rfl) (by unfold maxLen; omega) (by omega) (Nat.zero_le _)
    obtain ⟨g', c', ev, _⟩ := owns_cell r1 (by omega)
    subst ev
    rw [← hW3]
    refine ⟨_, _, _, W4, hrun, fun k => A2 k ∧ k < W2.heap.size, ?_, ?_, fun g hg => ?_, fun b hb => ?_, fun b hb h => ?_, ?_, ?_⟩
    · rw [hst, alt_snoc]
      refine hP2.tight.kept (fun _ h => h) fun k hk hA2 => ?_
      rw [r2.block k (by omega) (fun e => ?_), hb23.block k hk]
      have hgu := i3 k e.symm
      have hult := (owns_lt i2 e.symm).1
      rcases hF2.sub k hA2.1 with h | h
      · exact hgu.1 h.1
      · omega
    · rw [hst, alt_snoc]
      have := r1
      rw [show (numsV ((layAlt (layD gs n) next (ts.take j) L []).2 ++ [(layD gs n x next (layAlt (layD gs n) next (ts.take j) L []).1).2])) = numsV (layAlt (layD gs n) next (ts.take j) L []).2 ++ [.int .i64 ((layD gs n x next (layAlt (layD gs n) next (ts.take j) L []).1).2 : Int)] from numsV_append _ _, List.length_append]
      exact this
    · rcases r4 with e | e
      · rw [e] at hg
        have hgu := i3 g hg
        have hult := (owns_lt i2 hg).1
        refine ⟨fun h => ?_, hgu.2⟩
        rcases hF2.sub g h.1 with h1 | h1
        · exact hgu.1 h1.1
        · omega
      · rw [e] at hg
        cases hg
        exact ⟨fun h => by have := h.2; omega, by omega⟩
    · rw [r2.block _ (by omega) (fun e => by have := (i3 _ e.symm).2; omega), hkeep _ (by omega) (i5 b hb)]
      exact i4 b hb
    · rcases hF2.sub _ h.1 with h1 | h1
      · exact i5 b hb h1.1
      · omega
    · have hF : Fr A w A2 W2 := i6.trans (Fr.trans (Fr.of_below hb1) (hF2.wide (A := A') fun _ h => h.1))
      refine ⟨⟨r2.os.trans (hb23.os.trans hF.below.os), r2.tape.trans (hb23.tape.trans hF.below.tape), r2.output.trans (hb23.output.trans hF.below.output), by have := r2.size; have := hF.below.size; omega, fun k hk => absurd hk (by omega)⟩, fun k hk hn => ?_, fun k hk => hF.sub k hk.1⟩
      have := hF.below.size
      rw [r2.block k (by omega) (fun e => by have := (i3 k e.symm).2; omega), hb23.block k (by omega), hF.same k hk hn]
    · have := r2.size
      omega
  have HD : Hid (∀ (u : Value) (W : World), AltI (layD gs n) ts w w3 B (.slice ga gl gc) A L next len u W → ∃ a2 n2 c2, u = .slice a2 n2 c2 ∧ W.cell? ⟨w.heap.size, 0, none⟩ = some (.pointer (some ⟨B, 0, none⟩)) ∧ Calls Tryz.prog 137 #[.pointer (some ⟨B, 0, none⟩), u] W fun e w' => e = .returned (.int .i64 ((forkL (layAlt (layD gs n) next ts L []).1 (layAlt (layD gs n) next ts L []).2).2 : Int)) ∧ ∃ A', PlanIn A' w' B (.slice ga gl gc) (forkL (layAlt (layD gs n) next ts L []).1 (layAlt (layD gs n) next ts L []).2).1 ∧ Fr A w A' w') := by
    rintro u W ⟨A', i1, i2, i3, i4, i5, i6, i7⟩
    obtain ⟨g1, g2, g3, g4, g5⟩ := hpre len
    have hall : ts.take len = ts := List.take_of_length_le (Nat.le_of_eq hl)
    rw [hall] at g1 g2 g3 g4 g5 i1 i2
    have hpos : 0 < (layAlt (layD gs n) next ts L []).2.length := by rw [g5]; omega
    obtain ⟨g', c', ev, _⟩ := owns_cell i2 hpos
    subst ev
    obtain ⟨d0, _, _, _, d4⟩ := laid3_cells (w := w) (X := W) (B := B) (k := 3) (s := s) (a := a) (len := len) (cap := cap) (next := next) (fun b hb => by
      rw [← hw3]
      exact i4 b hb)
    refine ⟨_, _, _, rfl, d0, ?_⟩
    refine (fork_calls A' B (.slice ga gl gc) _ W _ _ _ _ i1 i2 (fun g hg => (i3 g hg).1) (by omega) (fun e => by rw [e] at hpos; exact Nat.lt_irrefl _ hpos) g2 (by omega) (fun p => by have := g1.least_lt p; omega)).mono ?_
    rintro e W2 ⟨rfl, A2, hP2, hF2⟩
    refine ⟨rfl, A2, hP2, Fr.trans (A' := fun k => A' k ∨ (Value.slice (some ⟨g', 0, none⟩) (layAlt (layD gs n) next ts L []).2.length c').ownBlock = some k) (w' := W) ?_ hF2⟩
    refine ⟨i6.below, i6.same, fun k hk => ?_⟩
    rcases hk with h | h
    · exact i6.sub k h
    · have := (i3 k h).2
      exact .inr (by omega)
  have HI0 : Hid (AltI (layD gs n) ts w w3 B (.slice ga gl gc) A L next 0 (.slice none 0 0) w3) := by
    refine ⟨fun k => A k ∧ k < w.heap.size, hP.tight.kept (fun _ h => h) fun k hk _ => hb3.block k hk, World.ownsRow_nil .., fun g hg => (by cases hg), fun _ _ => rfl, fun b hb h => (by have := h.2; omega), (Fr.of_below hb3).wide (A1 := fun k => A k ∧ k < w.heap.size) (fun _ h => h.1), Nat.le_refl _⟩
  have hw3' : Hid (((w.alloc (.cells #[.pointer (some ⟨B, 0, none⟩)] 147)).alloc (.cells #[.int .i64 3, .string s, .slice a len cap] 64)).alloc (.cells #[.int .i64 (next : Int)] 3) = w3) := hw3.symm
  generalize forkL (layAlt (layD gs n) next ts L []).1 (layAlt (layD gs n) next ts L []).2 = r at *
  obtain ⟨RL, rf⟩ := r
  simp only at *
  clear hP hB hA hwf hS hlay hk hW0 hpre hgood hneed hlen hw3 hb3 hsum
  generalize layD gs n = f at *
  go_enter Tryz.func106, Tryz.ntmps106
  go_wp2_with fail
  rw [hw3'.out]
  go_loopw [9, 57] (fun u i wr => ∃ j : Nat, j ≤ len ∧ i = .int .i64 (j : Int) ∧ AltI f ts w w3 B (.slice ga gl gc) A L next j u wr) (fun _ i _ => len - (intOf i).toNat)
  case atStart => exact ⟨0, by omega, rfl, HI0.out⟩
  case round =>
    obtain ⟨j, hj, rfl, hI⟩ := hrel
    by_cases hlt : j < len
    · obtain ⟨b, o, kx, sx, ax, lx, cx, ea, p0, p1, p2, d0, d4, hC⟩ := HR.out j _ wr hlt hI
      subst ea
      have hji : (j : Int) < (len : Int) := by omega
      clear hI HD HI0
      go_wp2_with fail
      refine hC.mono ?_
      rintro e W2 ⟨f1, rfl, a2, n2, c2, W4, hrun, hI4⟩
      have HI4 : Hid (AltI f ts w w3 B (.slice ga gl gc) A L next (j + 1) (.slice a2 n2 c2) W4) := hI4
      clear hI4 hC
      go_wp2_with (refine wpList_run_append rfl _ _ 57 rfl _ _ (.slice a2 n2 c2) W4 rfl rfl hrun ?_)
      go_roundw
      case rel => exact ⟨j + 1, by omega, rfl, HI4.out⟩
      case measure => simp [intOf]; omega
    · obtain rfl : j = len := by omega
      obtain ⟨a2, n2, c2, rfl, d0, hC⟩ := HD.out _ wr hI
      clear hI HR HI0
      go_wp2_with fail
      refine hC.mono ?_
      rintro e W2 ⟨rfl, A2, hP2, hF2⟩
      go_wp2
      go_ret
      exact ⟨rfl, A2, hP2, hF2⟩
end Go.Proofs.YtgkplmnhmobnnaaGreatDoor
