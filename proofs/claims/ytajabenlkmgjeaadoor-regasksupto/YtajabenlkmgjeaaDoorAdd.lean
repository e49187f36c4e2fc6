/-
  PROVED HERE: reg's add at every plan: what it returns and leaves; nothing else is turned.
-/
import Derived.Test.YtajabenlkmgjeaaDoorPlan
namespace Go.Proofs.YtajabenlkmgjeaaDoor
open Go.RowKit

theorem hmx : Tryd.prog.follows .mixedOrders = true := by kernel_rfl
/-- A built-in append whose run is known, in a walk. -/
theorem wp_run_append {o : Oper} {a : Act} {w : World} {K : Act → World → Prop} {Q : Exit → Act → World → Prop} (s x : Operand) (t : TypeId) (ho : o.op = .call { callee := .builtin .append, args := #[s, x], argTypes := #[t, t] })
    (v u v' : Value) (w' : World) (hs : a.eval s = v) (hx : a.eval x = u) (hr : (Builtin.append_ #[t, t] o.type #[v, u]).run Tryd.prog w = .ok v' w') (h : K (a.put o.dst v') w') : o.wp Tryd.prog a w K Q := by
  unfold Oper.wp execOp
  simp only [ho, resolve, invoke, builtin, Sem.run_bind, Sem.run_pure, Result.andThen_ok, List.map_toArray, List.map_cons, List.map_nil, hs, hx, hr]
  exact h
theorem wpList_run_append {ops : Array Oper} {rest : List Oper} {o : Oper} {a : Act} {w : World} {Q : Exit → Act → World → Prop} (hgd : o.guard = none) (s x : Operand) (t : TypeId) (ho : o.op = .call { callee := .builtin .append, args := #[s, x], argTypes := #[t, t] })
    (v u v' : Value) (w' : World) (hs : a.eval s = v) (hx : a.eval x = u) (hr : (Builtin.append_ #[t, t] o.type #[v, u]).run Tryd.prog w = .ok v' w') (h : wpList Tryd.prog ops Q rest (a.put o.dst v') w') : wpList Tryd.prog ops Q (o :: rest) a w :=
  wpList_plain hgd fun _ hK => wp_run_append s x t ho v u v' w' hs hx hr (hK _ _ h)
theorem cells_plan {w : World} {B : Nat} {gv v : Value} (h : w.heap[B]? = some (.cells #[gv, v] 84 (0, 0))) : w.cell? ⟨B, 0, none⟩ = some gv ∧ w.cell? ⟨B, 1, none⟩ = some v ∧ w.frozen? ⟨B, 1, none⟩ = false := by
  have hc := fun j => cell_of_row w B j _ _ _ h
  refine ⟨hc 0, hc 1, ?_⟩
  simp [World.frozen?, h]
theorem three_new (w : World) (x0 x1 x2 : Value) (t : TypeId) : ∀ j u, [x0, x1, x2][j]? = some u → (w.alloc (.cells #[x0, x1, x2] t)).cell? ((⟨w.heap.size, 0, none⟩ : Addr).add j) = some u := by
  intro j u hj
  have hadd : (⟨w.heap.size, 0, none⟩ : Addr).add j = ⟨w.heap.size, j, none⟩ := by unfold Addr.add; split <;> simp_all
  rw [hadd]
  match j, hj with
  | 0, hj => simp at hj; subst hj; simp
  | 1, hj => simp at hj; subst hj; simp
  | 2, hj => simp at hj; subst hj; simp
set_option maxRecDepth 100000 in
set_option maxHeartbeats 2000000 in
theorem add_calls (A : Nat → Prop) (B : Nat) (gv : Value) (L : List Place) (w : World) (t l : Nat) (next : List Nat) (ha : Option Addr) (hn hc : Nat) (h : PlanIn A w B gv L) (hh : w.ownsRow 0 3 1 (.slice ha hn hc) next.length (numsV next)) (hf : ∀ g, (Value.slice ha hn hc).ownBlock = some g → ¬ A g) (hlen : L.length ≤ 2000000000) :
    Calls Tryd.prog 58 #[.pointer (some ⟨B, 0, none⟩), .agg #[.int .u16 (t : Int), .slice ha hn hc, .int .i64 (l : Int)]] w fun e w' => e = .returned (.int .i64 (L.length : Int)) ∧ ∃ A', PlanIn A' w' B gv (L ++ [(t, next, l)]) ∧ Fr (fun k => A k ∨ (Value.slice ha hn hc).ownBlock = some k) w A' w' := by
  obtain ⟨v, rs, h⟩ := h
  -- the worlds
  obtain ⟨w1, hw1⟩ : ∃ w1, w1 = w.alloc (.cells #[.int .u16 (t : Int), .slice ha hn hc, .int .i64 (l : Int)] 59) := ⟨_, rfl⟩
  have hb1 : Below w.heap.size w w1 := by rw [hw1]; exact (Below.refl _ w).alloc (Nat.le_refl _) _
  have hs1 : w1.heap.size = w.heap.size + 1 := by rw [hw1]; simp
  obtain ⟨W, hW⟩ : ∃ W, W = (w1.alloc (.cells #[.int .u16 (t : Int), .slice ha hn hc, .int .i64 (l : Int)] 59)).drew := ⟨_, rfl⟩
  have hb2 : Below w1.heap.size w1 W := by rw [hW]; exact ((Below.refl _ w1).alloc (Nat.le_refl _) _).drew
  have hbW : Below w.heap.size w W := hb1.trans (hb2.mono (by omega))
  have hPW : PlanAt A W B gv v rs L := h.kept (fun _ h => h) fun b hb _ => hbW.block b hb
  have hhW : W.ownsRow 0 3 1 (.slice ha hn hc) next.length (numsV next) := owns_same hh fun g hg => hbW.block g (owns_lt hh hg).1
  obtain ⟨v', W1, A', hrun, ⟨g', cap', rfl⟩, hB1, hkeep, hP', hF'⟩ := plan_push hPW t l next (.slice ha hn hc) hhW hf hlen (w.heap.size + 1) 1 (by rw [hW, ← hs1]; exact three_new w1 _ _ _ _)
  have hBlt : B < w.heap.size := (Array.getElem?_eq_some_iff.1 h.plan).1
  obtain ⟨p0, p1, pf⟩ := cells_plan h.plan
  obtain ⟨q0, q1, qf⟩ := cells_plan (hB1.trans hPW.plan)
  obtain ⟨z0, z1, zf⟩ := cells_plan hP'.plan
  have hbx : ∀ X : World, X.heap[w.heap.size]? = w1.heap[w.heap.size]? → X.cell? ⟨w.heap.size, 0, none⟩ = some (.int .u16 (t : Int)) ∧ X.cell? ⟨w.heap.size, 1, none⟩ = some (.slice ha hn hc) ∧ X.cell? ⟨w.heap.size, 2, none⟩ = some (.int .i64 (l : Int)) := fun X hX => by
    have : X.heap[w.heap.size]? = some (.cells #[.int .u16 (t : Int), .slice ha hn hc, .int .i64 (l : Int)] 59 (0, 0)) := by rw [hX, hw1]; exact World.alloc_heap_new w _
    have hc := fun j => cell_of_row X w.heap.size j _ _ _ this
    exact ⟨hc 0, hc 1, hc 2⟩
  have hvne : v.ownBlock ≠ some w.heap.size := fun e => by
    have := (owns_lt h.row e).1
    omega
  have hS1 : w1.drew.cell? ⟨w.heap.size, 0, none⟩ = some (.int .u16 (t : Int)) ∧ w1.drew.cell? ⟨w.heap.size, 1, none⟩ = some (.slice ha hn hc) ∧ w1.drew.cell? ⟨w.heap.size, 2, none⟩ = some (.int .i64 (l : Int)) := hbx w1 rfl
  have hSW : W.cell? ⟨w.heap.size, 0, none⟩ = some (.int .u16 (t : Int)) ∧ W.cell? ⟨w.heap.size, 1, none⟩ = some (.slice ha hn hc) ∧ W.cell? ⟨w.heap.size, 2, none⟩ = some (.int .i64 (l : Int)) := hbx W (hb2.block _ (by omega))
  have hSW1 := hbx W1 (by rw [hkeep _ (by have := hb2.size; omega) hvne, hb2.block _ (by omega)])
  have hSf := hbx (W1.setCell ⟨B, 1, none⟩ (.slice (some ⟨g', 0, none⟩) (L.length + 1) cap')) (by rw [Below.heap_setCell _ _ _ _ (by show w.heap.size ≠ B; omega), hkeep _ (by have := hb2.size; omega) hvne, hb2.block _ (by omega)])
  have c1 : w1.cell? ⟨B, 1, none⟩ = some v := (hb1.cell (p := ⟨B, 1, none⟩) hBlt).trans p1
  have cW : W.cell? ⟨B, 1, none⟩ = some v := (hbW.cell (p := ⟨B, 1, none⟩) hBlt).trans p1
  have HP : Hid (PlanIn A' (W1.setCell ⟨B, 1, none⟩ (.slice (some ⟨g', 0, none⟩) (L.length + 1) cap')) B gv (L ++ [(t, next, l)])) := ⟨_, _, hP'⟩
  have HF : Hid (Fr (fun k => A k ∨ (Value.slice ha hn hc).ownBlock = some k) w A' (W1.setCell ⟨B, 1, none⟩ (.slice (some ⟨g', 0, none⟩) (L.length + 1) cap'))) := (Fr.of_below hbW).trans hF'
  have HW : Hid ((w1.alloc (.cells #[.int .u16 (t : Int), .slice ha hn hc, .int .i64 (l : Int)] 59)).drew = W) := hW.symm
  clear hPW hhW hP' hF' h hh hf p0 p1 pf q0 hB1 hkeep hbx hvne hb2 hbW hW hb1 z0 zf
  go_enter Tryd.func58, Tryd.ntmps58
  go_wp2_with fail
  rw [← hw1]
  clear hw1
  refine wp_region_held_drew (S := fun X => X.cell? ⟨w.heap.size, 0, none⟩ = some (.int .u16 (t : Int)) ∧ X.cell? ⟨w.heap.size, 1, none⟩ = some (.slice ha hn hc) ∧ X.cell? ⟨w.heap.size, 2, none⟩ = some (.int .i64 (l : Int))) hmx hS1 (fun hS => ?_)
  refine takeD 0 (some 5) (v := ?_) rfl rfl (by kernel_rfl) (by kernel_rfl) (by kernel_rfl) (fun _ _ _ h => h) (Or.inl ⟨by rfl, ?_⟩) hS ?_
  rotate_left
  · intro w hSw
    obtain ⟨s1, s2, s3⟩ := hSw
    try go_simp
    with_reducible rfl
  try simp only [Act.put, List.setIfInBounds_toArray, List.set_cons_zero, List.set_cons_succ]
  refine takeD 1 (some 6) (v := ?_) rfl rfl (by kernel_rfl) (by kernel_rfl) (by kernel_rfl) (fun _ _ _ h => h) (Or.inl ⟨by rfl, ?_⟩) hS ?_
  rotate_left
  · intro w hSw
    obtain ⟨s1, s2, s3⟩ := hSw
    try go_simp
    with_reducible rfl
  try simp only [Act.put, List.setIfInBounds_toArray, List.set_cons_zero, List.set_cons_succ]
  refine takeD 2 (some 7) (v := ?_) rfl rfl (by kernel_rfl) (by kernel_rfl) (by kernel_rfl) (fun _ _ _ h => h) (Or.inl ⟨by rfl, ?_⟩) hS ?_
  rotate_left
  · intro w hSw
    obtain ⟨s1, s2, s3⟩ := hSw
    go_simp
    with_reducible rfl
  try simp only [Act.put, List.setIfInBounds_toArray, List.set_cons_zero, List.set_cons_succ]
  refine takeD 3 (some 8) (v := ?_) rfl rfl (by kernel_rfl) (by kernel_rfl) (by kernel_rfl) (fun _ _ _ h => h) (Or.inl ⟨by rfl, ?_⟩) hS ?_
  rotate_left
  · intro w hSw
    obtain ⟨s1, s2, s3⟩ := hSw
    go_simp
    with_reducible rfl
  try simp only [Act.put, List.setIfInBounds_toArray, List.set_cons_zero, List.set_cons_succ]
  refine takeD 5 (some 10) (v := ?_) rfl rfl (by kernel_rfl) (by kernel_rfl) (by kernel_rfl) (fun _ _ _ h => h) (Or.inl ⟨by rfl, ?_⟩) hS ?_
  rotate_left
  · intro w hSw
    obtain ⟨s1, s2, s3⟩ := hSw
    go_simp
    with_reducible rfl
  try simp only [Act.put, List.setIfInBounds_toArray, List.set_cons_zero, List.set_cons_succ]
  refine wpAnyH_ready (rs := [4, 6]) (by kernel_rfl) (by simp) (AllReadyH.cons rfl (fun K hK => ?_) (AllReadyH.cons rfl (fun K hK => ?_) AllReadyH.nil))
  · go_simp
    refine hK.out _ _ hS1 (fun _ => ?_)
    clear hK K
    try simp only [Act.put, List.setIfInBounds_toArray, List.set_cons_zero, List.set_cons_succ]
    refine callD 6 (by kernel_rfl) rfl (fun K hK => ?_)
    go_simp
    rw [HW.out]
    refine hK.out _ _ hSW (fun _ => ?_)
    clear hK K
    try simp only [Act.put, List.setIfInBounds_toArray, List.set_cons_zero, List.set_cons_succ]
    refine callD 7 (by kernel_rfl) rfl (fun K hK => ?_)
    rw [if_pos (by rfl)]
    refine wp_run_append _ _ 69 rfl _ _ (.slice (some ⟨g', 0, none⟩) (L.length + 1) cap') W1 rfl rfl hrun ?_
    refine hK.out _ _ hSW1 (fun _ => ?_)
    clear hK K
    try simp only [Act.put, List.setIfInBounds_toArray]
    refine takeD 8 (some 13) (v := ?_) rfl rfl (by kernel_rfl) (by kernel_rfl) (by kernel_rfl) (fun _ _ _ h => h) (Or.inl ⟨by rfl, ?_⟩) hSW1 ?_
    rotate_left
    · intro w hSw
      obtain ⟨s1, s2, s3⟩ := hSw
      go_simp
      with_reducible rfl
    try simp only [Act.put]
    refine takeD 9 (some 14) (v := ?_) rfl rfl (by kernel_rfl) (by kernel_rfl) (by kernel_rfl) (fun _ _ _ h => h) (Or.inl ⟨by rfl, ?_⟩) hSW1 ?_
    rotate_left
    · intro w hSw
      obtain ⟨s1, s2, s3⟩ := hSw
      go_simp
      with_reducible rfl
    try simp only [Act.put]
    refine callD 10 (by kernel_rfl) rfl (fun K hK => ?_)
    rw [if_pos (by rfl)]
    go_simp
    refine hK.out _ _ hSf (fun _ => ?_)
    clear hK K
    try simp only [Act.put, List.setIfInBounds_toArray, List.set_cons_zero, List.set_cons_succ]
    refine wpAnyH_done (by kernel_rfl) ?_ _
    go_wp2
    go_ret
    exact ⟨by first | rfl | (congr 2; omega), A', HP.out, HF.out⟩
  · go_simp
    rw [HW.out]
    refine hK.out _ _ hSW (fun _ => ?_)
    clear hK K
    try simp only [Act.put, List.setIfInBounds_toArray, List.set_cons_zero, List.set_cons_succ]
    refine callD 4 (by kernel_rfl) rfl (fun K hK => ?_)
    go_simp
    refine hK.out _ _ hSW (fun _ => ?_)
    clear hK K
    try simp only [Act.put, List.setIfInBounds_toArray, List.set_cons_zero, List.set_cons_succ]
    refine callD 7 (by kernel_rfl) rfl (fun K hK => ?_)
    rw [if_pos (by rfl)]
    refine wp_run_append _ _ 69 rfl _ _ (.slice (some ⟨g', 0, none⟩) (L.length + 1) cap') W1 rfl rfl hrun ?_
    refine hK.out _ _ hSW1 (fun _ => ?_)
    clear hK K
    try simp only [Act.put, List.setIfInBounds_toArray]
    refine takeD 8 (some 13) (v := ?_) rfl rfl (by kernel_rfl) (by kernel_rfl) (by kernel_rfl) (fun _ _ _ h => h) (Or.inl ⟨by rfl, ?_⟩) hSW1 ?_
    rotate_left
    · intro w hSw
      obtain ⟨s1, s2, s3⟩ := hSw
      go_simp
      with_reducible rfl
    try simp only [Act.put]
    refine takeD 9 (some 14) (v := ?_) rfl rfl (by kernel_rfl) (by kernel_rfl) (by kernel_rfl) (fun _ _ _ h => h) (Or.inl ⟨by rfl, ?_⟩) hSW1 ?_
    rotate_left
    · intro w hSw
      obtain ⟨s1, s2, s3⟩ := hSw
      go_simp
      with_reducible rfl
    try simp only [Act.put]
    refine callD 10 (by kernel_rfl) rfl (fun K hK => ?_)
    rw [if_pos (by rfl)]
    go_simp
    refine hK.out _ _ hSf (fun _ => ?_)
    clear hK K
    try simp only [Act.put, List.setIfInBounds_toArray, List.set_cons_zero, List.set_cons_succ]
    refine wpAnyH_done (by kernel_rfl) ?_ _
    go_wp2
    go_ret
    exact ⟨by first | rfl | (congr 2; omega), A', HP.out, HF.out⟩
end Go.Proofs.YtajabenlkmgjeaaDoor
