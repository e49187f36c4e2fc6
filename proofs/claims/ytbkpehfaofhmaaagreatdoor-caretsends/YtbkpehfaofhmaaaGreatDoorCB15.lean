/-
  PROVED HERE: what the texts DBLoop, DBBox3 say (each has its own words below).
-/
import Derived.Test.YtbkpehfaofhmaaaGreatDoorCB3
import Derived.Test.YtbkpehfaofhmaaaGreatDoorCB14
/- DBLoop: reg's loop at every plan, if lay does as it should with the tree that is handed in: what it returns and leaves; nothing else is turned. -/
namespace Go.Proofs.YtbkpehfaofhmaaaGreatDoor
open Go.RowKit
def layD (gs : List Grp) : Nat -> DataW Unit -> Nat -> List Place -> List Place × Nat := lay kindT (fun t => maskG gs (nameT t)) subs
def SaneD (gs : List Grp) : Nat -> DataW Unit -> Prop := Sane kindT (fun t => maskG gs (nameT t)) subs
theorem layD_good (gs : List Grp) (n : Nat) (t : DataW Unit) (h : SaneD gs n t) : Good (layD gs n) (size subs n) t := lay_good _ _ _ n t h
def LayC (W0 : World) (gs : List Grp) (ga : Option Addr) (gl gc : Nat) (n : Nat) : Prop :=
 ∀ (t : DataW Unit) (v : Value) (w : World) (next : Nat) (A : Nat -> Prop) (B : Nat) (L : List Place), Ex W0 n t v -> SaneD gs n t -> Below W0.heap.size W0 w -> (∀ b, A b -> W0.heap.size <= b) -> PlanIn A w B (.slice ga gl gc) L -> wf L -> next < L.length -> L.length + need subs n t <= 1000000000 →
  Calls Tryz.prog 110 #[.pointer (some ⟨B, 0, none⟩), v, .int .i64 (next : Int)] w fun e w' => e = .returned (.int .i64 ((layD gs n t next L).2 : Int)) /\ ∃ A', PlanIn A' w' B (.slice ga gl gc) (layD gs n t next L).1 /\ Fr A w A' w'
theorem own_some {g n c k : Nat} (h : (Value.slice (some ⟨g, 0, none⟩) n c).ownBlock = some k) : k = g := (Option.some.inj h).symm
theorem Fr.wide {A A1 A' : Nat -> Prop} {w w' : World} (h : Fr A1 w A' w') (hA : ∀ b, A1 b -> A b) : Fr A w A' w' := h.less fun b hb => .inl (hA b hb)
set_option maxRecDepth 100000 in
set_option maxHeartbeats 1000000 in
theorem loop_calls (W0 : World) (gs : List Grp) (ga : Option Addr) (gl gc n : Nat) (hlay : LayC W0 gs ga gl gc n) (t : DataW Unit) (v : Value) (w : World) (next : Nat) (A : Nat -> Prop) (B : Nat) (L : List Place) (hE : Ex W0 n t v) (hS : SaneD gs n t) (hB : Below W0.heap.size W0 w) (hA : ∀ b, A b -> W0.heap.size <= b)
  (hP : PlanIn A w B (.slice ga gl gc) L) (hwf : wf L) (hn : next < L.length) (hlen : L.length + (1 + need subs n t) <= 1000000000) :
  Calls Tryz.prog 145 #[.pointer (some ⟨B, 0, none⟩), v, .int .i64 (next : Int)] w fun e w' => e = .returned (.tuple #[.int .i64 ((layLoop (layD gs n) [t] next L).2.1 : Int), .int .i64 ((layLoop (layD gs n) [t] next L).2.2 : Int)]) /\ ∃ A', PlanIn A' w' B (.slice ga gl gc) (layLoop (layD gs n) [t] next L).1 /\ Fr A w A' w' := by
 obtain ⟨k, s, a, len, cap, rfl⟩ : ∃ k s a len cap, v = .agg #[.int .i64 k, .string s, .slice a len cap] := by
  cases n with
  | zero => exact hE.elim
  | succ n => obtain ⟨k, s, a, len, cap, ts, _, rfl, _⟩ := hE; exact ⟨k, s, a, len, cap, rfl⟩
 obtain ⟨w1, hw1⟩ : ∃ w1, w1 = w.alloc (.cells #[.int .i64 k, .string s, .slice a len cap] 90) := ⟨_, rfl⟩
 have hb1 : Below w.heap.size w w1 := by rw [hw1]; exact (Below.refl _ w).alloc (Nat.le_refl _) _
 have hs1 : w1.heap.size = w.heap.size + 1 := by rw [hw1]; simp
 obtain ⟨w2, hw2⟩ : ∃ w2, w2 = w1.alloc (.cells #[.int .i64 (next : Int)] 3) := ⟨_, rfl⟩
 have hb2 : Below w1.heap.size w1 w2 := by rw [hw2]; exact (Below.refl _ w1).alloc (Nat.le_refl _) _
 have hs2 : w2.heap.size = w.heap.size + 2 := by rw [hw2]; simp [hs1]
 have hbw2 : Below w.heap.size w w2 := hb1.trans (hb2.mono (by omega))
 have hbase := hB.size
 have hP2 : PlanIn (fun b => A b /\ b < w.heap.size) w2 B (.slice ga gl gc) L := hP.tight.kept (fun _ h => h) fun b hb _ => hbw2.block b hb
 have hrow : w2.ownsRow 0 3 1 (.slice (some ⟨w.heap.size + 1, 0, none⟩) 1 1) [next].length (numsV [next]) := by rw [hw2, <- hs1]; exact owns_new1 w1 next
 have hfork := fork_calls (fun b => A b /\ b < w.heap.size) B (.slice ga gl gc) L w2 [next] _ 1 1 hP2 hrow (fun g hg h => by have := own_some hg; have := h.2; omega) (by omega) (by simp) (by simpa using hn) (by simp) (fun p => by have := hwf.least_lt p; omega)
 obtain ⟨c1, c2, c3, c4, c5⟩ := forkL_ok hwf (ways := [next]) (by simp) (by simpa using hn) (m := leastAt L next) (by simp)
 obtain ⟨a1, a2, a3, a4, a5, a6⟩ := layD_good gs n t hS L.length (forkL L [next]).1 c1 (by omega)
 have hrl : (layD gs n t L.length (forkL L [next]).1).1[L.length]? = some (0, [next], forkLeast L [next]) := (a4 _ (by omega)).trans get_snoc_eq
 have e2 : (forkL L [next]).2 = L.length := rfl
 rw [e2] at hfork
 have HX : Hid (∀ (W3 : World) (A1 : Nat -> Prop), PlanIn A1 W3 B (.slice ga gl gc) (forkL L [next]).1 -> Fr (fun k => (A k /\ k < w.heap.size) \/ (Value.slice (some ⟨w.heap.size + 1, 0, none⟩) 1 1).ownBlock = some k) w2 A1 W3 →
   W3.cell? ⟨w.heap.size, 0, none⟩ = some (.int .i64 k) /\ W3.cell? ⟨w.heap.size, 1, none⟩ = some (.string s) /\ W3.cell? ⟨w.heap.size, 2, none⟩ = some (.slice a len cap) /\ (∀ b, A1 b -> W0.heap.size <= b) /\ Below W0.heap.size W0 W3 /\ Fr A w A1 W3) := by
  intro W3 A1 hP3 hF3
  have hnb : ¬ ((A w.heap.size /\ w.heap.size < w.heap.size) \/ (Value.slice (some ⟨w.heap.size + 1, 0, none⟩) 1 1).ownBlock = some w.heap.size) := by
   rintro (h | h)
   ·omega
   ·have := own_some h
    omega
  have hbk : W3.heap[w.heap.size]? = some (.cells #[.int .i64 k, .string s, .slice a len cap] 90 (0, 0)) := by
   rw [hF3.same _ (by omega) hnb, hb2.block _ (by omega), hw1]
   exact World.alloc_heap_new w _
  have hc := fun j => cell_of_row W3 w.heap.size j _ _ _ hbk
  have hge : ∀ b, (A b /\ b < w.heap.size) \/ (Value.slice (some ⟨w.heap.size + 1, 0, none⟩) 1 1).ownBlock = some b -> W0.heap.size <= b := by
   rintro b (h | h)
   ·exact hA b h.1
   ·have := own_some h
    omega
  have hFw : Fr A w A1 W3 := ((Fr.of_below hbw2).trans hF3).less (by
   rintro b (h | h)
   ·exact .inl h.1
   ·have := own_some h
    exact .inr (by omega))
  refine ⟨hc 0, hc 1, hc 2, fun b hb => ?_, hB.trans (hFw.toBelow hbase (fun b hb h => by have := hA b h; omega)), hFw⟩
  rcases hFw.sub b hb with h | h
  ·exact hA b h
  ·omega
 have HL : Hid (∀ (W3 : World) (A1 : Nat -> Prop), PlanIn A1 W3 B (.slice ga gl gc) (forkL L [next]).1 -> (∀ b, A1 b -> W0.heap.size <= b) -> Below W0.heap.size W0 W3 -> Calls Tryz.prog 110 #[.pointer (some ⟨B, 0, none⟩), .agg #[.int .i64 k, .string s, .slice a len cap], .int .i64 (L.length : Int)] W3 fun e w' => e = .returned (.int .i64 ((layD gs n t L.length (forkL L [next]).1).2 : Int)) /\ ∃ A', PlanIn A' w' B (.slice ga gl gc) (layD gs n t L.length (forkL L [next]).1).1 /\ Fr A1 W3 A' w') :=
  fun W3 A1 h1 h2 h3 => hlay t _ W3 L.length A1 B _ hE hS h3 h2 h1 c1 (by omega) (by omega)
 rw [layLoop]
 generalize hr : layD gs n t L.length (forkL L [next]).1 = r at *
 obtain ⟨R, f⟩ := r
 simp only at *
 have hsn := size_need subs n t
 have hRL : L.length < R.length := by omega
 have HN : Hid (∀ (W4 : World) (A2 : Nat -> Prop), PlanIn A2 W4 B (.slice ga gl gc) R -> ∃ v g cap, v = .slice (some ⟨g, 0, none⟩) R.length cap /\ W4.cell? ⟨B, 1, none⟩ = some v ∧
   (∀ (X : World) (b bc : Nat), (∀ k, k < W4.heap.size -> X.heap[k]? = W4.heap[k]?) -> (∀ j u, [Value.int .i64 (f : Int)][j]? = some u -> X.cell? ((⟨b, 0, none⟩ : Addr).add j) = some u) -> X.cell? ⟨B, 1, none⟩ = some v /\ ∃ hv a n c W1 A', X.cell? ⟨g, L.length * 3 + 1, none⟩ = some hv /\ W4.cell? ⟨g, L.length * 3 + 1, none⟩ = some hv /\ (Builtin.append_ #[59, 59] 59 #[hv, .slice (some ⟨b, 0, none⟩) 1 bc]).run Tryz.prog X = .ok (.slice a n c) W1 /\ W1.cell? ⟨B, 1, none⟩ = some v /\ (W1.setCell ⟨g, L.length * 3 + 1, none⟩ (.slice a n c)).cell? ⟨B, 1, none⟩ = some v /\ (∃ u, W1.cell? ⟨g, L.length * 3 + 1, none⟩ = some u) /\ W1.frozen? ⟨g, L.length * 3 + 1, none⟩ = false ∧
    PlanIn A' (W1.setCell ⟨g, L.length * 3 + 1, none⟩ (.slice a n c)) B (.slice ga gl gc) (addNext R L.length f) /\ Fr A2 X A' (W1.setCell ⟨g, L.length * 3 + 1, none⟩ (.slice a n c)))) := by
  rintro W4 A2 ⟨v, rs, hP4⟩
  obtain ⟨g, cap4, rfl, hc4⟩ := hP4.cells (by omega)
  obtain ⟨_, p1, _⟩ := cells_plan hP4.plan
  refine ⟨_, g, cap4, rfl, p1, fun X b bc hX hcell => ?_⟩
  have hPX : PlanAt A2 X B (.slice ga gl gc) (.slice (some ⟨g, 0, none⟩) R.length cap4) rs R := hP4.kept (fun _ h => h) fun k hk _ => hX k hk
  obtain ⟨hv, v', W1, A', d1, d2, ⟨a', n', c', rfl⟩, d4, d5, d6, d7⟩ := plan_next hPX L.length f _ hrl (by simp) b bc hcell
  obtain ⟨_, x1, _⟩ := cells_plan hPX.plan
  obtain ⟨_, y1, _⟩ := cells_plan (d4.trans hPX.plan)
  obtain ⟨v6, rs6, hP6⟩ := d6
  obtain ⟨hglt, cur, hcur⟩ := owns_lt hPX.row (g := g) rfl
  have hgB : g ≠ B := fun e => by subst e; rw [hPX.plan] at hcur; cases hcur
  have hW4g : W4.heap[g]? = X.heap[g]? := (hX g (owns_lt hP4.row (g := g) rfl).1).symm
  refine ⟨x1, hv, a', n', c', W1, A', d1, ?_, d2, y1, ?_, ⟨hv, ?_⟩, ?_, ⟨v6, rs6, hP6⟩, d7⟩
  ·rw [<- d1]
   exact World.cell?_of_block (w := X) (a := ⟨g, L.length * 3 + 1, none⟩) hW4g
  ·have : (W1.setCell ⟨g, L.length * 3 + 1, none⟩ (.slice a' n' c')).cell? ⟨B, 1, none⟩ = W1.cell? ⟨B, 1, none⟩ := World.cell?_of_block (w := W1) (a := ⟨B, 1, none⟩) (Below.heap_setCell W1 _ _ B (Ne.symm hgB))
   rw [this]
   exact y1
  ·have : W1.cell? ⟨g, L.length * 3 + 1, none⟩ = X.cell? ⟨g, L.length * 3 + 1, none⟩ := World.cell?_of_block (w := X) (a := ⟨g, L.length * 3 + 1, none⟩) d5
   rw [this]
   exact d1
  ·simp [World.frozen?, d5.trans hcur]
 have HFK : Hid (Calls Tryz.prog 144 #[.pointer (some ⟨B, 0, none⟩), .slice (some ⟨w.heap.size + 1, 0, none⟩) 1 1] w2 fun e w' => e = .returned (.int .i64 (L.length : Int)) /\ ∃ A', PlanIn A' w' B (.slice ga gl gc) (forkL L [next]).1 /\ Fr (fun k => (A k /\ k < w.heap.size) \/ (Value.slice (some ⟨w.heap.size + 1, 0, none⟩) 1 1).ownBlock = some k) w2 A' w') := hfork
 have HW2 : Hid ((w.alloc (.cells #[.int .i64 k, .string s, .slice a len cap] 90)).alloc (.cells #[.int .i64 (next : Int)] 3) = w2) := by show _ = _; rw [hw2, hw1]
 have hRi : (L.length : Int) < (R.length : Int) := by omega
 have hR1 : (R.length : Int) <= 2000000000 := by omega
 have hL0 : (0 : Int) <= (L.length : Int) := by omega
 clear hfork hP2 hrow hw1 hw2 hb1 hb2 hbw2 hP hE hS hlay hB hA hwf c1 c2 c3 c4 c5 a1 a2 a3 a4 a5 a6 hrl hr hs1 hs2
 go_enter Tryz.func145, Tryz.ntmps145
 go_wp2_with fail
 rw [HW2.out]
 refine HFK.out.mono ?_
 rintro e W3 ⟨rfl, A1, hP3, hF3⟩
 obtain ⟨x0, x1, x2, hA3, hB3, hFw⟩ := HX.out W3 A1 hP3 hF3
 have HFw : Hid (Fr A w A1 W3) := hFw
 go_wp2_with fail
 refine (HL.out W3 A1 hP3 hA3 hB3).mono ?_
 rintro e W4 ⟨rfl, A2, hP4, hF4⟩
 obtain ⟨v, g, cap4, hv, q1, hnx⟩ := HN.out W4 A2 hP4
 subst hv
 obtain ⟨X, hXd⟩ : ∃ X, X = (W4.alloc (.cells #[.int .i64 (f : Int)] 3)).drew := ⟨_, rfl⟩
 obtain ⟨xB, hv, a', n', c', W5, A3, xh, qh, hrun, y1, z1, ⟨yu, yh⟩, yf, hP5, hF5⟩ := hnx X W4.heap.size 1 (fun k hk => by rw [hXd]; exact Below.heap_alloc W4 _ k hk) (by rw [hXd]; exact cell_one_new W4 _ _)
 have HE : Hid (PlanIn A3 (W5.setCell ⟨g, L.length * 3 + 1, none⟩ (.slice a' n' c')) B (.slice ga gl gc) (addNext R L.length f) /\ Fr A w A3 (W5.setCell ⟨g, L.length * 3 + 1, none⟩ (.slice a' n' c'))) := by
  refine ⟨hP5, HFw.out.trans (hF4.trans (Fr.trans (Fr.of_below ?_) hF5))⟩
  rw [hXd]
  exact ((Below.refl _ W4).alloc (Nat.le_refl _) _).drew
 have HXd : Hid ((W4.alloc (.cells #[.int .i64 (f : Int)] 3)).drew = X) := hXd.symm
 clear hP5 hF5 hnx HN HL HX HFK hP3 hF3 hA3 hB3 hFw hP4 hF4 hXd x0 x1 x2 HFw
 go_wp2_with fail
 refine wp_region_held_drew (S := fun X => X.cell? ⟨B, 1, none⟩ = some (.slice (some ⟨g, 0, none⟩) R.length cap4)) hmx q1 (fun hS => ?_)
 refine takeF 0 (some 18) (v := ?_) hS ?_ ?_
 rotate_left
 ·intro w hSw
  try go_simp
  with_reducible rfl
 try simp only [lay4]
 refine takeF 1 (some 19) (v := ?_) hS ?_ ?_
 rotate_left
 ·intro w hSw
  go_simp
  with_reducible rfl
 try simp only [lay4]
 refine takeF 2 (some 20) (v := ?_) hS ?_ ?_
 rotate_left
 ·intro w hSw
  go_simp
  with_reducible rfl
 try simp only [lay4]
 refine takeF 3 (some 21) (v := ?_) hS ?_ ?_
 rotate_left
 ·intro w hSw
  go_simp
  with_reducible rfl
 try simp only [lay4]
 refine takeF 4 (some 22) (v := ?_) hS ?_ ?_
 rotate_left
 ·intro w hSw
  try go_simp
  with_reducible rfl
 try simp only [lay4]
 refine takeF 5 (some 23) (v := ?_) hS ?_ ?_
 rotate_left
 ·intro w hSw
  try go_simp
  with_reducible rfl
 try simp only [lay4]
 refine takeF 6 (some 24) (v := ?_) hS ?_ ?_
 rotate_left
 ·intro w hSw
  go_simp
  with_reducible rfl
 try simp only [lay4]
 refine takeF 7 (some 25) (v := ?_) hS ?_ ?_
 rotate_left
 ·intro w hSw
  go_simp
  with_reducible rfl
 try simp only [lay4]
 refine takeF 8 (some 26) (v := ?_) hS ?_ ?_
 rotate_left
 ·intro w hSw
  go_simp
  with_reducible rfl
 try simp only [lay4]
 refine takeF 9 (some 27) (v := ?_) hS ?_ ?_
 rotate_left
 ·intro w hSw
  try go_simp
  with_reducible rfl
 try simp only [lay4]
 refine takeF 10 (some 28) (v := ?_) hS ?_ ?_
 rotate_left
 ·intro w hSw
  go_simp
  with_reducible rfl
 try simp only [lay4]
 refine takeF 11 (some 29) (v := ?_) hS ?_ ?_
 rotate_left
 ·intro w hSw
  go_simp
  with_reducible rfl
 try simp only [lay4]
 refine takeF 13 (some 31) (v := ?_) hS ?_ ?_
 rotate_left
 ·intro w hSw
  try go_simp
  with_reducible rfl
 try simp only [lay4]
 refine wpAnyH_ready (rs := [12, 14]) (by kernel_rfl) (by simp) (AllReadyH.cons rfl (fun K hK => ?_) (AllReadyH.cons rfl (fun K hK => ?_) AllReadyH.nil))
 ·go_simp
  refine hK.out _ _ q1 (fun _ => ?_)
  clear hK K
  try simp only [lay4]
  refine callD 14 (by kernel_rfl) rfl (fun K hK => ?_)
  go_simp
  rw [HXd.out]
  refine hK.out _ _ xB (fun _ => ?_)
  clear hK K
  try simp only [lay4]
  refine callD 15 (by kernel_rfl) rfl (fun K hK => ?_)
  rw [if_pos (by rfl)]
  refine wp_run_append _ _ 59 rfl _ _ (.slice a' n' c') W5 rfl rfl hrun ?_
  refine hK.out _ _ y1 (fun _ => ?_)
  clear hK K
  try simp only [Act.put, List.setIfInBounds_toArray]
  refine takeF 16 (some 34) (v := ?_) y1 ?_ ?_
  rotate_left
  ·intro w hSw
   go_simp
   with_reducible rfl
  try simp only [Act.put]
  refine takeF 17 (some 35) (v := ?_) y1 ?_ ?_
  rotate_left
  ·intro w hSw
   go_simp
   with_reducible rfl
  try simp only [Act.put]
  refine callD 18 (by kernel_rfl) rfl (fun K hK => ?_)
  rw [if_pos (by rfl)]
  go_simp
  refine hK.out _ _ z1 (fun _ => ?_)
  clear hK K
  try simp only [lay4]
  refine wpAnyH_done (by kernel_rfl) ?_ _
  go_wp2
  go_ret2
  exact ⟨rfl, A3, HE.out.1, HE.out.2⟩
 ·go_simp
  rw [HXd.out]
  refine hK.out _ _ xB (fun _ => ?_)
  clear hK K
  try simp only [lay4]
  refine callD 12 (by kernel_rfl) rfl (fun K hK => ?_)
  go_simp
  refine hK.out _ _ xB (fun _ => ?_)
  clear hK K
  try simp only [lay4]
  refine callD 15 (by kernel_rfl) rfl (fun K hK => ?_)
  rw [if_pos (by rfl)]
  refine wp_run_append _ _ 59 rfl _ _ (.slice a' n' c') W5 rfl rfl hrun ?_
  refine hK.out _ _ y1 (fun _ => ?_)
  clear hK K
  try simp only [Act.put, List.setIfInBounds_toArray]
  refine takeF 16 (some 34) (v := ?_) y1 ?_ ?_
  rotate_left
  ·intro w hSw
   go_simp
   with_reducible rfl
  try simp only [Act.put]
  refine takeF 17 (some 35) (v := ?_) y1 ?_ ?_
  rotate_left
  ·intro w hSw
   go_simp
   with_reducible rfl
  try simp only [Act.put]
  refine callD 18 (by kernel_rfl) rfl (fun K hK => ?_)
  rw [if_pos (by rfl)]
  go_simp
  refine hK.out _ _ z1 (fun _ => ?_)
  clear hK K
  try simp only [lay4]
  refine wpAnyH_done (by kernel_rfl) ?_ _
  go_wp2
  go_ret2
  exact ⟨rfl, A3, HE.out.1, HE.out.2⟩
end Go.Proofs.YtbkpehfaofhmaaaGreatDoor

/- DBBox3: the three boxes that lay makes of its parameters. -/
namespace Go.Proofs.YtbkpehfaofhmaaaGreatDoor
open Go.RowKit
def laid3 (w : World) (B : Nat) (k : Int) (s : ByteArray) (a : Option Addr) (len cap next : Nat) : World :=
 ((w.alloc (.cells #[.pointer (some ⟨B, 0, none⟩)] 175)).alloc (.cells #[.int .i64 k, .string s, .slice a len cap] 90)).alloc (.cells #[.int .i64 (next : Int)] 3)
theorem laid3_size (w : World) (B : Nat) (k : Int) (s : ByteArray) (a : Option Addr) (len cap next : Nat) : (laid3 w B k s a len cap next).heap.size = w.heap.size + 3 := by unfold laid3; simp
theorem laid3_below (w : World) (B : Nat) (k : Int) (s : ByteArray) (a : Option Addr) (len cap next : Nat) : Below w.heap.size w (laid3 w B k s a len cap next) := by
 unfold laid3
 exact (((Below.refl _ w).alloc (Nat.le_refl _) _).alloc (by simp) _).alloc (by simp; omega) _
theorem laid3_blocks (w : World) (B : Nat) (k : Int) (s : ByteArray) (a : Option Addr) (len cap next : Nat) :
  (laid3 w B k s a len cap next).heap[w.heap.size]? = some (.cells #[.pointer (some ⟨B, 0, none⟩)] 175 (0, 0)) /\ (laid3 w B k s a len cap next).heap[w.heap.size + 1]? = some (.cells #[.int .i64 k, .string s, .slice a len cap] 90 (0, 0)) /\ (laid3 w B k s a len cap next).heap[w.heap.size + 2]? = some (.cells #[.int .i64 (next : Int)] 3 (0, 0)) := by
 unfold laid3
 refine ⟨?_, ?_, ?_⟩
 ·rw [Below.heap_alloc _ _ _ (by simp; omega), Below.heap_alloc _ _ _ (by simp)]
  exact World.alloc_heap_new w _
 ·rw [Below.heap_alloc _ _ _ (by simp)]
  have := World.alloc_heap_new (w.alloc (.cells #[.pointer (some ⟨B, 0, none⟩)] 175)) (.cells #[.int .i64 k, .string s, .slice a len cap] 90)
  rwa [World.size_alloc] at this
 ·have := World.alloc_heap_new ((w.alloc (.cells #[.pointer (some ⟨B, 0, none⟩)] 175)).alloc (.cells #[.int .i64 k, .string s, .slice a len cap] 90)) (.cells #[.int .i64 (next : Int)] 3)
  rwa [World.size_alloc, World.size_alloc] at this
theorem laid3_cells {w X : World} {B : Nat} {k : Int} {s : ByteArray} {a : Option Addr} {len cap next : Nat} (h : ∀ b, b < 3 -> X.heap[w.heap.size + b]? = (laid3 w B k s a len cap next).heap[w.heap.size + b]?) :
  X.cell? ⟨w.heap.size, 0, none⟩ = some (.pointer (some ⟨B, 0, none⟩)) /\ X.cell? ⟨w.heap.size + 1, 0, none⟩ = some (.int .i64 k) /\ X.cell? ⟨w.heap.size + 1, 1, none⟩ = some (.string s) /\ X.cell? ⟨w.heap.size + 1, 2, none⟩ = some (.slice a len cap) /\ X.cell? ⟨w.heap.size + 2, 0, none⟩ = some (.int .i64 (next : Int)) := by
 obtain ⟨b0, b1, b2⟩ := laid3_blocks w B k s a len cap next
 have h0 := (h 0 (by omega)).trans b0
 have h1 := (h 1 (by omega)).trans b1
 have h2 := (h 2 (by omega)).trans b2
 exact ⟨cell_of_row X _ 0 _ _ _ h0, cell_of_row X _ 0 _ _ _ h1, cell_of_row X _ 1 _ _ _ h1, cell_of_row X _ 2 _ _ _ h1, cell_of_row X _ 0 _ _ _ h2⟩
end Go.Proofs.YtbkpehfaofhmaaaGreatDoor
