/-
  PROVED HERE: (*pos.Mapping).Add: what it returns, and what lies there then; nothing else is turned.
-/
import Derived.Test.YtiadcpbaopafgaaMapM
namespace Go.Proofs.Ytiadcpbaopafgaa
open Go.RowKit

theorem Hid.mk_ {p : Prop} (h : p) : Hid p := h
/-- append of one map to a row that a call owns. -/
theorem lk_append1 (ts te : TypeId) (hu : Try.prog.underlying ts = some (.slice te)) (hinfo : (Try.prog.info? te).map (fun i => (i.zero, i.size, i.bytes)) = some (some (.agg #[.slice none 0 0, .int .i64 0]), 2, 32)) (base : Nat) (v : Value) (n : Nat) (xs : List Lk) (W : World) (hown : W.ownsRow base te 2 v n (flatK xs)) (hbase : base ≤ W.heap.size) (x : Lk) (gB c : Nat) (hg : W.heap[gB]? = some (.cells #[.slice x.a x.len x.cap, .int .i64 x.m] te (0, 0))) (hn : n ≤ 100000) :
    ∃ v' W', (Builtin.append_ #[ts, ts] ts #[v, .slice (some ⟨gB, 0, none⟩) 1 c]).run Try.prog W = .ok v' W' ∧ W'.ownsRow base te 2 v' (n + 1) (flatK (xs ++ [x])) ∧ W.grownBy W' v.ownBlock ∧ (v'.ownBlock = v.ownBlock ∨ v'.ownBlock = some W.heap.size) := by
  obtain ⟨i0, hi, hz0, hz1, hz2⟩ := info_parts hinfo
  obtain ⟨v', W', h1, h2, h3, _, h5⟩ := run_append_own_at (P := Try.prog) (w := W) base ts ts te i0 _ 2 32 hu hi hz0 hz1 hz2 rfl (by decide) v n _ hown ⟨gB, 0, none⟩ 1 c (flatK [x]) rfl
    (fun j u hj => by
      have hc := cell_of_row W gB j _ _ _ hg
      have e : (⟨gB, 0, none⟩ : Addr).add j = ⟨gB, j, none⟩ := by unfold Addr.add; split <;> simp_all
      rw [e, hc]
      simpa [flatK] using hj) (flatK_one _) (by unfold maxLen; omega) (by omega) hbase
  rw [← flatK_append] at h2
  exact ⟨v', W', h1, h2, h3, h5⟩
/-- A map more is laid into the mapping. -/
theorem map_put {cs : Value → Array Value} (hcs : ∀ v v2, (cs v).setIfInBounds 0 v2 = cs v2) {tm te : TypeId} (hte : tm ≠ te) (hR1 : 60 ≠ tm) (hR2 : 60 ≠ te) {W Y Y2 : World} {base B : Nat} {M : List Lk} {v v2 : Value} {x : Lk}
    (g1 : W.heap[B]? = some (.cells (cs v) tm (0, 0))) (g2 : base ≤ B) (g3 : W.ownsRow base te 2 v M.length (flatK M)) (g4 : ∀ y ∈ M, LkOk W base y) (hb : base ≤ W.heap.size) (hY : Below W.heap.size W Y) (hx : LkOk Y base x)
    (hrow : Y2.ownsRow base te 2 v2 (M.length + 1) (flatK (M ++ [x]))) (hgr : Y.grownBy Y2 v.ownBlock) :
    Y2.heap[B]? = some (.cells (cs v) tm (0, 0)) ∧ MapIn cs tm te (Y2.setCell ⟨B, 0, none⟩ v2) base B (M ++ [x]) ∧ KeepM tm te base W (Y2.setCell ⟨B, 0, none⟩ v2) := by
  have hBl : B < W.heap.size := (Array.getElem?_eq_some_iff.1 g1).1
  have hYB := (hY.block B hBl).trans g1
  have g3Y : Y.ownsRow base te 2 v M.length (flatK M) := owns_keep g3 (fun g hg => hY.block _ (owns_block g3 hg).2.1)
  have hnB : v.ownBlock ≠ some B := fun e => by
    obtain ⟨_, _, c, hc⟩ := owns_block g3 e
    rw [g1] at hc
    simp at hc
    exact hte hc.2
  have hbox : Y2.heap[B]? = some (.cells (cs v) tm (0, 0)) := (hgr.block B (Nat.lt_of_lt_of_le hBl hY.size) (fun e => hnB e.symm)).trans hYB
  have hset : ∀ k, k ≠ B → (Y2.setCell ⟨B, 0, none⟩ v2).heap[k]? = Y2.heap[k]? := fun k hk => Below.heap_setCell Y2 _ _ k hk
  have hbox3 : (Y2.setCell ⟨B, 0, none⟩ v2).heap[B]? = some (.cells (cs v2) tm (0, 0)) := by rw [heap_setCell_same Y2 B 0 _ _ _ hbox, hcs]
  have hbY : base ≤ Y.heap.size := Nat.le_trans hb hY.size
  have hK2 : KeepM tm te base Y (Y2.setCell ⟨B, 0, none⟩ v2) := by
    refine ⟨((Below.refl base Y).grown hgr hbY (fun k e => (owns_block g3Y e).1)).setCell (p := ⟨B, 0, none⟩) g2 _, fun k c t fr hk h1 h2 => ?_⟩
    rw [hset k (fun e => by subst e; rw [hYB] at hk; cases hk; exact h1 rfl), hgr.block k (Array.getElem?_eq_some_iff.1 hk).1 (fun e => by
      obtain ⟨_, _, c', hc'⟩ := owns_block g3Y e.symm
      rw [hk] at hc'
      cases hc'
      exact h2 rfl)]
    exact hk
  have hK := (KeepM.of_below (tm := tm) (te := te) hY hb).trans hK2
  refine ⟨hbox, ⟨v2, hbox3, g2, ?_, fun y hy => ?_⟩, hK⟩
  · rw [List.length_append]
    refine owns_keep hrow (fun g hg => hset g (fun e => ?_))
    obtain ⟨_, _, c, hc⟩ := owns_block hrow hg
    rw [e, hbox] at hc
    simp at hc
    exact hte hc.2
  · rcases List.mem_append.1 hy with h | h
    · exact (g4 y h).keep hK hR1 hR2
    · obtain rfl : y = x := by simpa using h
      exact hx.keep hK2 hR1 hR2

theorem infoLk : (Try.prog.info? 76).map (fun i => (i.zero, i.size, i.bytes)) = some (some (.agg #[.slice none 0 0, .int .i64 0]), 2, 32) := by kernel_rfl
set_option maxRecDepth 100000 in
set_option maxHeartbeats 4000000 in
theorem add_calls (base B : Nat) (M : List Lk) (a : Option Addr) (len cap : Nat) (l : List Rng) (w : World) (hM : MapP w base B M) (hl : Rngs w a len l) (ha : a = none → cap = 0) (hc : len ≤ cap) (hz : len ≤ 9223372036854775807) (hn : M.length ≤ 100) (hb : base ≤ w.heap.size) :
    Calls Try.prog 20 #[.pointer (some ⟨B, 0, none⟩), .slice a len cap] w fun e w' => (right l = false ∧ e = .returned (.int .i64 4) ∧ Below w.heap.size w w') ∨ (right l = true ∧ e = .returned (.int .i64 0) ∧ ∃ a1 c1, MapP w' base B (M ++ [⟨a1, len, c1, l, -1⟩]) ∧ KeepP base w w') := by
  have cm := made_calls _ true w hM.made
  have cr := right_any a len cap l w hl hz
  cases hr : right l with
  | false =>
    rw [hr] at cr
    go_enter Try.func20, Try.ntmps20
    go_wp2_with fail
    refine cm.mono ?_
    rintro e w' ⟨rfl, hww⟩
    rw [hww]
    clear hww
    go_wp2_with fail
    refine cr.mono ?_
    rintro e X ⟨rfl, hX⟩
    go_wp2
    go_ret
    first | exact .inl ⟨rfl, rfl, hX⟩ | exact .inl ⟨trivial, rfl, hX⟩
  | true =>
    rw [hr] at cr
    have hlen : len ≤ 4 := by have := (right_len hr).1; rw [hl.1] at this; exact this
    obtain ⟨aB, cB, hBB⟩ := hM.len_
    obtain ⟨v, g1, g2, g3, g4⟩ := hM
    obtain ⟨av, nv, cv, rfl⟩ : ∃ av nv cv, v = .slice av nv cv := by
      obtain ⟨_, ⟨rfl, _⟩ | ⟨g, cap', cur, rfl, _⟩⟩ := g3
      · exact ⟨_, _, _, rfl⟩
      · exact ⟨_, _, _, rfl⟩
    have hvv : av = aB ∧ nv = M.length ∧ cv = cB := by
      rw [g1] at hBB
      simp [csP] at hBB
      exact hBB
    obtain ⟨rfl, rfl, rfl⟩ := hvv
    have hBl : B < w.heap.size := (Array.getElem?_eq_some_iff.1 g1).1
    have HB0 : Hid (∀ X, Below w.heap.size w X → X.cell? ⟨B, 0, none⟩ = some (.slice av M.length cv)) := fun X hX => cell_of_row X B 0 _ _ _ ((hX.block B hBl).trans g1)
    have HCL : Hid (∀ X, Below w.heap.size w X → _) := fun X (hX : Below w.heap.size w X) => clone_calls a len cap l X (hl.below hX) hlen ha hc
    have HAPP : Hid (∀ (Y : World) (gB : Nat) (a1 : Option Addr) (c1 : Nat), Below w.heap.size w Y → Y.heap[gB]? = some (.cells #[.slice a1 len c1, .int .i64 (-1)] 76 (0, 0)) → Rngs Y a1 len l → (len = 0 ∨ ∃ b o c, a1 = some ⟨b, o, none⟩ ∧ Y.heap[b]? = some (.cells c 60 (0, 0))) →
        ∃ v2 Y2, (Builtin.append_ #[71, 71] 71 #[.slice av M.length cv, .slice (some ⟨gB, 0, none⟩) 1 1]).run Try.prog Y = .ok v2 Y2 ∧ (∃ g2 cap2, v2 = .slice (some ⟨g2, 0, none⟩) (M.length + 1) cap2) ∧ Y2.cell? ⟨B, 0, none⟩ = some (.slice av M.length cv) ∧ Y2.frozen? ⟨B, 0, none⟩ = false ∧
          (MapP (Y2.setCell ⟨B, 0, none⟩ v2) base B (M ++ [⟨a1, len, c1, l, -1⟩]) ∧ KeepP base w (Y2.setCell ⟨B, 0, none⟩ v2))) := fun Y gB a1 c1 hY hE h1 h2 => by
      have g3Y : Y.ownsRow base 76 2 (.slice av M.length cv) M.length (flatK M) := owns_keep g3 (fun g hg => hY.block _ (owns_block g3 hg).2.1)
      obtain ⟨v2, Y2, hrun, hrow2, hgr, _⟩ := lk_append1 71 76 Try.underlying71 infoLk base _ _ M Y g3Y (Nat.le_trans hb hY.size) ⟨a1, len, c1, l, -1⟩ gB 1 hE (by omega)
      obtain ⟨p1, p2, p3⟩ := map_put (cs := csP) (fun v v2 => rfl) (by decide) (by decide) (by decide) g1 g2 g3 g4 hb hY (x := ⟨a1, len, c1, l, -1⟩) ⟨h1, hr, h2.imp id (fun ⟨b, o, c, e1, e2⟩ => ⟨b, o, e1, .inr ⟨c, e2⟩⟩)⟩ hrow2 hgr
      exact ⟨v2, Y2, hrun, ownsRow_succ hrow2, cell_of_row Y2 B 0 _ _ _ p1, frozen_block p1, p2, p3⟩
    clear hl g1 g3 g4 hBB
    go_enter Try.func20, Try.ntmps20
    go_wp2_with fail
    refine cm.mono ?_
    rintro e w' ⟨rfl, hww⟩
    rw [hww]
    clear hww
    go_wp2_with fail
    refine cr.mono ?_
    rintro e X ⟨rfl, hX⟩
    have hb0 := HB0.out X hX
    have hD : Below w.heap.size w X.drew := hX.drew
    have hge : ¬ ((4096 : Int) ≤ M.length) := by omega
    go_wp2_with fail
    clear hb0
    refine wp_region_held_drew (S := fun _ => True) mixed trivial (fun _ => ?_)
    generalize X.drew = Y0 at hD ⊢
    refine takeD 0 (some 19) (v := ?_) rfl rfl (by kernel_rfl) (by kernel_rfl) (by kernel_rfl) (fun _ _ _ h => h) (Or.inl ⟨by rfl, ?_⟩) trivial ?_
    rotate_left
    · intro w hSw
      try go_simp
      with_reducible rfl
    try simp only [Act.put, List.setIfInBounds_toArray, List.set_cons_zero, List.set_cons_succ]
    refine takeD 1 (some 20) (v := ?_) rfl rfl (by kernel_rfl) (by kernel_rfl) (by kernel_rfl) (fun _ _ _ h => h) (Or.inl ⟨by rfl, ?_⟩) trivial ?_
    rotate_left
    · intro w hSw
      try go_simp
      with_reducible rfl
    try simp only [Act.put, List.setIfInBounds_toArray, List.set_cons_zero, List.set_cons_succ]
    refine takeD 2 (some 21) (v := ?_) rfl rfl (by kernel_rfl) (by kernel_rfl) (by kernel_rfl) (fun _ _ _ h => h) (Or.inl ⟨by rfl, ?_⟩) trivial ?_
    rotate_left
    · intro w hSw
      go_simp
      with_reducible rfl
    try simp only [Act.put, List.setIfInBounds_toArray, List.set_cons_zero, List.set_cons_succ]
    refine takeD 3 (some 22) (v := ?_) rfl rfl (by kernel_rfl) (by kernel_rfl) (by kernel_rfl) (fun _ _ _ h => h) (Or.inl ⟨by rfl, ?_⟩) trivial ?_
    rotate_left
    · intro w hSw
      go_simp
      with_reducible rfl
    try simp only [Act.put, List.setIfInBounds_toArray, List.set_cons_zero, List.set_cons_succ]
    refine takeD 5 (some 24) (v := ?_) rfl rfl (by kernel_rfl) (by kernel_rfl) (by kernel_rfl) (fun _ _ _ h => h) (Or.inl ⟨by rfl, ?_⟩) trivial ?_
    rotate_left
    · intro w hSw
      try go_simp
      with_reducible rfl
    try simp only [Act.put, List.setIfInBounds_toArray, List.set_cons_zero, List.set_cons_succ]
    refine wpAnyH_ready (rs := [4, 6]) (by kernel_rfl) (by simp) (AllReadyH.cons rfl (fun K hK => ?_) ( AllReadyH.cons rfl (fun K hK => ?_) (AllReadyH.nil)))
    · rw [if_pos (by rfl)]
      have e9 := HB0.out Y0 hD
      go_simp
      try rw [e9]
      try go_simp
      clear e9
      refine hK.out _ _ trivial (fun _ => ?_)
      clear hK K
      try simp only [Act.put, List.setIfInBounds_toArray, List.set_cons_zero, List.set_cons_succ]
      refine callD 6 (by kernel_rfl) rfl (fun K hK => ?_)
      rw [if_pos (by rfl)]
      go_simp
      refine (HCL.out Y0 hD).mono ?_
      rintro e Y2 ⟨a1, c1, rfl, q1, q2, b2⟩
      have hb2 := hD.trans (b2.mono hD.size)
      have Q1 : Hid (Rngs Y2 a1 len l) := q1
      have Q2 : Hid (len = 0 ∨ ∃ b o c, a1 = some ⟨b, o, none⟩ ∧ Y2.heap[b]? = some (.cells c 60 (0, 0))) := q2
      clear q1 q2
      refine hK.out _ _ trivial (fun _ => ?_)
      clear hK K
      try simp only [Act.put, List.setIfInBounds_toArray, List.set_cons_zero, List.set_cons_succ]
      refine takeD 7 (some 26) (v := ?_) rfl rfl (by kernel_rfl) (by kernel_rfl) (by kernel_rfl) (fun _ _ _ h => h) (Or.inl ⟨by rfl, ?_⟩) trivial ?_
      rotate_left
      · intro w hSw
        go_simp
        with_reducible rfl
      try simp only [Act.put, List.setIfInBounds_toArray, List.set_cons_zero, List.set_cons_succ]
      refine callD 8 (by kernel_rfl) rfl (fun K hK => ?_)
      rw [if_pos (by rfl)]
      go_simp
      obtain ⟨Y3, hY3⟩ : ∃ Y, Y2.alloc (.cells #[.slice a1 len c1, .int .i64 (-1)] 76) = Y := ⟨_, rfl⟩
      rw [hY3]
      have b3 : Below Y2.heap.size Y2 Y3 := by rw [← hY3]; exact (Below.refl _ _).alloc (Nat.le_refl _) _
      have hb3 := hb2.trans (b3.mono hb2.size)
      have mE : Y3.heap[Y2.heap.size]? = some (.cells #[.slice a1 len c1, .int .i64 (-1)] 76 (0, 0)) := by rw [← hY3]; exact World.alloc_heap_new Y2 _
      have Q3 : Hid (Rngs Y3 a1 len l ∧ (len = 0 ∨ ∃ b o c, a1 = some ⟨b, o, none⟩ ∧ Y3.heap[b]? = some (.cells c 60 (0, 0)))) := ⟨Q1.out.below b3, Q2.out.imp id (fun ⟨b, o, c, h1, h2⟩ => ⟨b, o, c, h1, (b3.block _ (Array.getElem?_eq_some_iff.1 h2).1).trans h2⟩)⟩
      clear hY3
      refine hK.out _ _ trivial (fun _ => ?_)
      clear hK K
      try simp only [Act.put, List.setIfInBounds_toArray, List.set_cons_zero, List.set_cons_succ]
      refine callD 9 (by kernel_rfl) rfl (fun K hK => ?_)
      rw [if_pos (by rfl)]
      obtain ⟨v2, Z, hrun, hsh, c9, f9, HE⟩ := HAPP.out Y3 Y2.heap.size a1 c1 hb3 mE Q3.out.1 Q3.out.2
      refine wp_app_run _ _ 71 rfl _ _ _ _ rfl rfl hrun ?_
      refine hK.out _ _ trivial (fun _ => ?_)
      clear hK K
      try simp only [Act.put, List.setIfInBounds_toArray]
      refine takeD 10 (some 29) (v := ?_) rfl rfl (by kernel_rfl) (by kernel_rfl) (by kernel_rfl) (fun _ _ _ h => h) (Or.inl ⟨by rfl, ?_⟩) trivial ?_
      rotate_left
      · intro w hSw
        go_simp
        with_reducible rfl
      try simp only [Act.put]
      refine takeD 11 (some 30) (v := ?_) rfl rfl (by kernel_rfl) (by kernel_rfl) (by kernel_rfl) (fun _ _ _ h => h) (Or.inl ⟨by rfl, ?_⟩) trivial ?_
      rotate_left
      · intro w hSw
        go_simp
        with_reducible rfl
      try simp only [Act.put]
      refine callD 12 (by kernel_rfl) rfl (fun K hK => ?_)
      rw [if_pos (by rfl)]
      obtain ⟨g2, cap2, rfl⟩ := hsh
      go_simp
      refine hK.out _ _ trivial (fun _ => ?_)
      clear hK K
      try simp only [Act.put, List.setIfInBounds_toArray]
      refine wpAnyH_done (by kernel_rfl) ?_ _
      have HEE := Hid.mk_ HE
      clear HE
      go_wp2
      go_ret
      first | exact .inr ⟨rfl, rfl, a1, c1, HEE.out⟩ | exact .inr ⟨trivial, rfl, a1, c1, HEE.out⟩
    · rw [if_pos (by rfl)]
      go_simp
      refine (HCL.out Y0 hD).mono ?_
      rintro e Y1 ⟨a1, c1, rfl, q1, q2, b1⟩
      have hb1 := hD.trans (b1.mono hD.size)
      have Q1 : Hid (Rngs Y1 a1 len l) := q1
      have Q2 : Hid (len = 0 ∨ ∃ b o c, a1 = some ⟨b, o, none⟩ ∧ Y1.heap[b]? = some (.cells c 60 (0, 0))) := q2
      clear q1 q2
      refine hK.out _ _ trivial (fun _ => ?_)
      clear hK K
      try simp only [Act.put, List.setIfInBounds_toArray, List.set_cons_zero, List.set_cons_succ]
      refine takeD 7 (some 26) (v := ?_) rfl rfl (by kernel_rfl) (by kernel_rfl) (by kernel_rfl) (fun _ _ _ h => h) (Or.inl ⟨by rfl, ?_⟩) trivial ?_
      rotate_left
      · intro w hSw
        go_simp
        with_reducible rfl
      try simp only [Act.put, List.setIfInBounds_toArray, List.set_cons_zero, List.set_cons_succ]
      refine wpAnyH_ready (rs := [4, 8]) (by kernel_rfl) (by simp) (AllReadyH.cons rfl (fun K hK => ?_) ( AllReadyH.cons rfl (fun K hK => ?_) (AllReadyH.nil)))
      · rw [if_pos (by rfl)]
        have e9 := HB0.out Y1 hb1
        go_simp
        try rw [e9]
        try go_simp
        clear e9
        refine hK.out _ _ trivial (fun _ => ?_)
        clear hK K
        try simp only [Act.put, List.setIfInBounds_toArray, List.set_cons_zero, List.set_cons_succ]
        refine callD 8 (by kernel_rfl) rfl (fun K hK => ?_)
        rw [if_pos (by rfl)]
        go_simp
        obtain ⟨Y3, hY3⟩ : ∃ Y, Y1.alloc (.cells #[.slice a1 len c1, .int .i64 (-1)] 76) = Y := ⟨_, rfl⟩
        rw [hY3]
        have b3 : Below Y1.heap.size Y1 Y3 := by rw [← hY3]; exact (Below.refl _ _).alloc (Nat.le_refl _) _
        have hb3 := hb1.trans (b3.mono hb1.size)
        have mE : Y3.heap[Y1.heap.size]? = some (.cells #[.slice a1 len c1, .int .i64 (-1)] 76 (0, 0)) := by rw [← hY3]; exact World.alloc_heap_new Y1 _
        have Q3 : Hid (Rngs Y3 a1 len l ∧ (len = 0 ∨ ∃ b o c, a1 = some ⟨b, o, none⟩ ∧ Y3.heap[b]? = some (.cells c 60 (0, 0)))) := ⟨Q1.out.below b3, Q2.out.imp id (fun ⟨b, o, c, h1, h2⟩ => ⟨b, o, c, h1, (b3.block _ (Array.getElem?_eq_some_iff.1 h2).1).trans h2⟩)⟩
        clear hY3
        refine hK.out _ _ trivial (fun _ => ?_)
        clear hK K
        try simp only [Act.put, List.setIfInBounds_toArray, List.set_cons_zero, List.set_cons_succ]
        refine callD 9 (by kernel_rfl) rfl (fun K hK => ?_)
        rw [if_pos (by rfl)]
        obtain ⟨v2, Z, hrun, hsh, c9, f9, HE⟩ := HAPP.out Y3 Y1.heap.size a1 c1 hb3 mE Q3.out.1 Q3.out.2
        refine wp_app_run _ _ 71 rfl _ _ _ _ rfl rfl hrun ?_
        refine hK.out _ _ trivial (fun _ => ?_)
        clear hK K
        try simp only [Act.put, List.setIfInBounds_toArray]
        refine takeD 10 (some 29) (v := ?_) rfl rfl (by kernel_rfl) (by kernel_rfl) (by kernel_rfl) (fun _ _ _ h => h) (Or.inl ⟨by rfl, ?_⟩) trivial ?_
        rotate_left
        · intro w hSw
          go_simp
          with_reducible rfl
        try simp only [Act.put]
        refine takeD 11 (some 30) (v := ?_) rfl rfl (by kernel_rfl) (by kernel_rfl) (by kernel_rfl) (fun _ _ _ h => h) (Or.inl ⟨by rfl, ?_⟩) trivial ?_
        rotate_left
        · intro w hSw
          go_simp
          with_reducible rfl
        try simp only [Act.put]
        refine callD 12 (by kernel_rfl) rfl (fun K hK => ?_)
        rw [if_pos (by rfl)]
        obtain ⟨g2, cap2, rfl⟩ := hsh
        go_simp
        refine hK.out _ _ trivial (fun _ => ?_)
        clear hK K
        try simp only [Act.put, List.setIfInBounds_toArray]
        refine wpAnyH_done (by kernel_rfl) ?_ _
        have HEE := Hid.mk_ HE
        clear HE
        go_wp2
        go_ret
        first | exact .inr ⟨rfl, rfl, a1, c1, HEE.out⟩ | exact .inr ⟨trivial, rfl, a1, c1, HEE.out⟩
      · rw [if_pos (by rfl)]
        go_simp
        obtain ⟨Y2, hY2⟩ : ∃ Y, Y1.alloc (.cells #[.slice a1 len c1, .int .i64 (-1)] 76) = Y := ⟨_, rfl⟩
        rw [hY2]
        have b2 : Below Y1.heap.size Y1 Y2 := by rw [← hY2]; exact (Below.refl _ _).alloc (Nat.le_refl _) _
        have hb2 := hb1.trans (b2.mono hb1.size)
        have mE : Y2.heap[Y1.heap.size]? = some (.cells #[.slice a1 len c1, .int .i64 (-1)] 76 (0, 0)) := by rw [← hY2]; exact World.alloc_heap_new Y1 _
        have Q3 : Hid (Rngs Y2 a1 len l ∧ (len = 0 ∨ ∃ b o c, a1 = some ⟨b, o, none⟩ ∧ Y2.heap[b]? = some (.cells c 60 (0, 0)))) := ⟨Q1.out.below b2, Q2.out.imp id (fun ⟨b, o, c, h1, h2⟩ => ⟨b, o, c, h1, (b2.block _ (Array.getElem?_eq_some_iff.1 h2).1).trans h2⟩)⟩
        clear hY2
        refine hK.out _ _ trivial (fun _ => ?_)
        clear hK K
        try simp only [Act.put, List.setIfInBounds_toArray, List.set_cons_zero, List.set_cons_succ]
        refine callD 4 (by kernel_rfl) rfl (fun K hK => ?_)
        rw [if_pos (by rfl)]
        have e9 := HB0.out Y2 hb2
        go_simp
        try rw [e9]
        try go_simp
        clear e9
        refine hK.out _ _ trivial (fun _ => ?_)
        clear hK K
        try simp only [Act.put, List.setIfInBounds_toArray, List.set_cons_zero, List.set_cons_succ]
        refine callD 9 (by kernel_rfl) rfl (fun K hK => ?_)
        rw [if_pos (by rfl)]
        obtain ⟨v2, Z, hrun, hsh, c9, f9, HE⟩ := HAPP.out Y2 Y1.heap.size a1 c1 hb2 mE Q3.out.1 Q3.out.2
        refine wp_app_run _ _ 71 rfl _ _ _ _ rfl rfl hrun ?_
        refine hK.out _ _ trivial (fun _ => ?_)
        clear hK K
        try simp only [Act.put, List.setIfInBounds_toArray]
        refine takeD 10 (some 29) (v := ?_) rfl rfl (by kernel_rfl) (by kernel_rfl) (by kernel_rfl) (fun _ _ _ h => h) (Or.inl ⟨by rfl, ?_⟩) trivial ?_
        rotate_left
        · intro w hSw
          go_simp
          with_reducible rfl
        try simp only [Act.put]
        refine takeD 11 (some 30) (v := ?_) rfl rfl (by kernel_rfl) (by kernel_rfl) (by kernel_rfl) (fun _ _ _ h => h) (Or.inl ⟨by rfl, ?_⟩) trivial ?_
        rotate_left
        · intro w hSw
          go_simp
          with_reducible rfl
        try simp only [Act.put]
        refine callD 12 (by kernel_rfl) rfl (fun K hK => ?_)
        rw [if_pos (by rfl)]
        obtain ⟨g2, cap2, rfl⟩ := hsh
        go_simp
        refine hK.out _ _ trivial (fun _ => ?_)
        clear hK K
        try simp only [Act.put, List.setIfInBounds_toArray]
        refine wpAnyH_done (by kernel_rfl) ?_ _
        have HEE := Hid.mk_ HE
        clear HE
        go_wp2
        go_ret
        first | exact .inr ⟨rfl, rfl, a1, c1, HEE.out⟩ | exact .inr ⟨trivial, rfl, a1, c1, HEE.out⟩
end Go.Proofs.Ytiadcpbaopafgaa
