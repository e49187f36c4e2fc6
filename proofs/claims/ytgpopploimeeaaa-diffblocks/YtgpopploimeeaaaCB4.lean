/-
  PROVED HERE: what the texts Push, Pop, Eq say (each has its own words below).
-/
import Derived.Test.YtgpopploimeeaaaCB3
import Derived.Test.YtgpopploimeeaaaCB1
import Derived.WalkSmall
import Derived.BigQuiet
import Derived.Deep.QuietTactic
import Derived.Laws.StructEq
/- Push: the stack's push: what it leaves; nothing else that lay before is turned. -/
namespace Go.Proofs.Ytgpopploimeeaaa
open Go.RowKit

theorem Stk.drew {w : World} {base g : Nat} {v : Value} {R : List Int} (h : Stk w base g v R) : Stk w.drew base g v R := h
theorem stk_low {w : World} {base g : Nat} {v : Value} {R : List Int} {p : Int} (h : Stk w base g v R) (hR : R.length < 32) (w' : World)
    (hw : w' = (w.setCell ⟨g, R.length, none⟩ (.int .i64 p)).setCell ⟨g, 33, none⟩ (.int .i64 ((R.length : Int) + 1))) : Stk w' base g v (R ++ [p]) := by
  subst hw
  have hap := h.apart
  obtain ⟨h0, h1, cs, hg, c0, c1, c2, c3, c4⟩ := h
  refine ⟨h0, ?_, (cs.setIfInBounds R.length (.int .i64 p)).setIfInBounds 33 (.int .i64 ((R.length : Int) + 1)), ?_, ?_⟩
  · rw [show (R ++ [p]).length - 32 = R.length - 32 from by simp; omega, show (R ++ [p]).drop 32 = R.drop 32 from by rw [List.drop_eq_nil_of_le (by simp; omega), List.drop_eq_nil_of_le (by omega)]]
    exact own_set (own_set h1 _ _ _ hap) _ _ _ hap
  · exact heap_setCell_same _ g 33 _ _ _ (heap_setCell_same _ g R.length _ _ _ hg)
  · refine ⟨by simpa using c0, fun i hi hr => ?_, fun i hi => ?_, ?_, ?_⟩
    · rw [Array.getElem?_setIfInBounds_ne (by omega)]
      by_cases e : i = R.length
      · subst e
        rw [Array.getElem?_setIfInBounds_self_of_lt (by omega)]
        simp
      · rw [Array.getElem?_setIfInBounds_ne (by omega), c1 i hi (by simp at hr; omega)]
        simp at hr
        rw [List.getD_eq_getElem?_getD, List.getD_eq_getElem?_getD, List.getElem?_append_left (by omega)]
    · rw [Array.getElem?_setIfInBounds_ne (by omega)]
      by_cases e : R.length = i
      · subst e
        exact ⟨p, Array.getElem?_setIfInBounds_self_of_lt (by omega)⟩
      · rw [Array.getElem?_setIfInBounds_ne e]
        exact c2 i hi
    · rw [Array.getElem?_setIfInBounds_ne (by omega), Array.getElem?_setIfInBounds_ne (by omega), c3]
    · rw [Array.getElem?_setIfInBounds_self_of_lt (by simp; omega)]
      simp

set_option maxRecDepth 100000 in
set_option maxHeartbeats 2000000 in
theorem fpush_low (base g : Nat) (v : Value) (R : List Int) (p : Int) (w : World) (h : Stk w base g v R) (hR : R.length < 32) :
    Calls Try.prog 49 #[.pointer (some ⟨g, 0, none⟩), .int .i64 p] w fun e w' => e = .returned (.tuple #[]) ∧ Stk w' base g v (R ++ [p]) ∧ Kept g v.ownBlock w w' := by
  have HS : Hid (∀ w' : World, w' = (w.setCell ⟨g, R.length, none⟩ (.int .i64 p)).setCell ⟨g, 33, none⟩ (.int .i64 ((R.length : Int) + 1)) → Stk w' base g v (R ++ [p])) := fun w' hw => stk_low h hR w' hw
  obtain ⟨c1, c2, c3, c4, f, hg⟩ := h.cells
  obtain ⟨z, hz⟩ := c3 R.length hR
  have fn := f R.length
  have f33 := f 33
  clear c1 c3 c4 f h
  generalize R ++ [p] = R' at *
  generalize R.length = n at *
  go_enter Try.func49, Try.ntmps49
  go_wp2
  go_region
  go_wp2
  go_end0
  exact ⟨rfl, Stk.drew (HS.out _ rfl), (((Kept.refl _ _ w).setCell _ _).setCell _ _).drew⟩

theorem cell_alloc_keep {w : World} {a : Addr} {v : Value} {o : Obj} (h : w.cell? a = some v) : (w.alloc o).cell? a = some v := by
  have hlt : a.block < w.heap.size := by
    rcases Nat.lt_or_ge a.block w.heap.size with h1 | h1
    · exact h1
    · simp [World.cell?, Array.getElem?_eq_none h1] at h
  rw [World.cell?_of_block (w := w) (Below.heap_alloc w o a.block hlt)]
  exact h
theorem grown_frozen {w w2 : World} {o : Obj} {row : Option Nat} {a : Addr} (h : (w.alloc o).grownBy w2 row) (hlt : a.block < w.heap.size) (hne : some a.block ≠ row) : w2.frozen? a = w.frozen? a :=
  World.frozen?_of_block (w := w) ((h.block a.block (by simp; omega) hne).trans (Below.heap_alloc w o a.block hlt))

theorem own_slice {w : World} {base : Nat} {e : TypeId} {v : Value} {n : Nat} {xs : List Value} (h : w.ownsRow base e 1 v n xs) : ∃ a cap, v = .slice a n cap := by
  rcases h.2 with ⟨rfl, rfl⟩ | ⟨g, cap, cur, rfl, _⟩
  · exact ⟨_, _, rfl⟩
  · exact ⟨_, _, rfl⟩
theorem stk_high {w : World} {base g : Nat} {v v' : Value} {R : List Int} {p : Int} (h : Stk w base g v R) (hR : 32 ≤ R.length) {w2 w' : World} {o : Obj} (hown : w2.ownsRow base 3 1 v' (R.length - 32 + 1) ((R.drop 32).map (Value.int .i64) ++ [.int .i64 p])) (hgrow : (w.alloc o).grownBy w2 v.ownBlock)
    (hat : v'.ownBlock = v.ownBlock ∨ v'.ownBlock = some (w.alloc o).heap.size)
    (hw : w' = (w2.setCell ⟨g, 32, none⟩ v').setCell ⟨g, 33, none⟩ (.int .i64 ((R.length : Int) + 1))) : Stk w' base g v' (R ++ [p]) ∧ Kept g v.ownBlock w w' ∧ (v'.ownBlock = v.ownBlock ∨ ∀ k, v'.ownBlock = some k → w.heap.size ≤ k) := by
  subst hw
  have hap := h.apart
  have hgs := h.cells.2.2.2.2.2
  have hap2 : v'.ownBlock ≠ some g := by
    rcases hat with e | e
    · rw [e]; exact hap
    · rw [e]; simp; omega
  obtain ⟨h0, h1, cs, hg, c0, c1, c2, c3, c4⟩ := h
  have hg2 : w2.heap[g]? = some (.cells cs 80 (0, 0)) := by
    rw [hgrow.block g (by simp; omega) (fun e => hap e.symm), Below.heap_alloc w o g hgs]
    exact hg
  have hK : Kept g v.ownBlock w w2 := ⟨hgrow.os, hgrow.tape, hgrow.output, by have := hgrow.size; simp at this; omega, fun k h1 h2 h3 => by
    rw [hgrow.block k (by simp; omega) h3, Below.heap_alloc w o k h1]⟩
  refine ⟨⟨h0, ?_, (cs.setIfInBounds 32 v').setIfInBounds 33 (.int .i64 ((R.length : Int) + 1)), ?_, ?_⟩, (hK.setCell _ _).setCell _ _, ?_⟩
  · rw [show (R ++ [p]).length - 32 = R.length - 32 + 1 from by simp; omega, List.drop_append_of_le_length hR, List.map_append]
    exact own_set (own_set hown _ _ _ hap2) _ _ _ hap2
  · exact heap_setCell_same _ g 33 _ _ _ (heap_setCell_same _ g 32 _ _ _ hg2)
  · refine ⟨by simpa using c0, fun i hi hr => ?_, fun i hi => ?_, ?_, ?_⟩
    · rw [Array.getElem?_setIfInBounds_ne (by omega), Array.getElem?_setIfInBounds_ne (by omega), c1 i hi (by omega)]
      rw [List.getD_eq_getElem?_getD, List.getD_eq_getElem?_getD, List.getElem?_append_left (by omega)]
    · rw [Array.getElem?_setIfInBounds_ne (by omega), Array.getElem?_setIfInBounds_ne (by omega)]
      exact c2 i hi
    · rw [Array.getElem?_setIfInBounds_ne (by omega), Array.getElem?_setIfInBounds_self_of_lt (by omega)]
    · rw [Array.getElem?_setIfInBounds_self_of_lt (by simp; omega)]
      simp
  · rcases hat with e | e
    · exact .inl e
    · refine .inr fun k hk => ?_
      rw [e] at hk
      simp at hk
      omega

set_option maxRecDepth 100000 in
set_option maxHeartbeats 2000000 in
theorem fpush_high (base g : Nat) (v : Value) (R : List Int) (p : Int) (w : World) (h : Stk w base g v R) (hb : base ≤ w.heap.size) (hR : 32 ≤ R.length) (hR2 : R.length ≤ 4398046511104) :
    Calls Try.prog 49 #[.pointer (some ⟨g, 0, none⟩), .int .i64 p] w fun e w' => e = .returned (.tuple #[]) ∧ ∃ v', Stk w' base g v' (R ++ [p]) ∧ Kept g v.ownBlock w w' ∧ (v'.ownBlock = v.ownBlock ∨ ∀ k, v'.ownBlock = some k → w.heap.size ≤ k) := by
  obtain ⟨i0, hi, hz0, hz1, hz2⟩ := info_parts info3
  have HS : Hid (∀ (v' : Value) (o : Obj) (w2 w' : World), w2.ownsRow base 3 1 v' (R.length - 32 + 1) ((R.drop 32).map (Value.int .i64) ++ [.int .i64 p]) → (w.alloc o).grownBy w2 v.ownBlock → (v'.ownBlock = v.ownBlock ∨ v'.ownBlock = some (w.alloc o).heap.size) →
    w' = (w2.setCell ⟨g, 32, none⟩ v').setCell ⟨g, 33, none⟩ (.int .i64 ((R.length : Int) + 1)) → Stk w' base g v' (R ++ [p]) ∧ Kept g v.ownBlock w w' ∧ (v'.ownBlock = v.ownBlock ∨ ∀ k, v'.ownBlock = some k → w.heap.size ≤ k)) := fun v' o w2 w' a1 a2 a3 a4 => stk_high h hR a1 a2 a3 a4
  obtain ⟨c1, c2, c3, c4, f, hg⟩ := h.cells
  have f32 := f 32
  have f33 := f 33
  have hap := h.apart
  have hown := h.2.1
  have hlen : (((R.drop 32).map (Value.int .i64)).length = R.length - 32) := by simp
  clear c3 c4 f h
  generalize R ++ [p] = R' at *
  generalize hn : R.length = n at *
  generalize hX : (R.drop 32).map (Value.int .i64) = X at *
  clear hX hn
  obtain ⟨m, rfl⟩ : ∃ m, n = m + 32 := ⟨n - 32, by omega⟩
  rw [show m + 32 - 32 = m from by omega] at *
  go_enter Try.func49, Try.ntmps49
  go_wp2_with (at_builtin; refine wpList_append_own_at _ rfl _ _ 45 rfl base 3 i0 (.int .i64 0) 1 8 Try.underlying45 hi hz0 hz1 hz2 rfl (by decide) _ _ _ rfl (hown.alloc _) ⟨w.heap.size, 0, none⟩ 1 1 [.int .i64 p] rfl rfl (cell_one_new _ _ _) (by simp [Value.oneCell']) (by unfold maxLen; omega) (by omega) (by simp; omega) ?_; intro v2 w2 hown2 hgrow hnil2 hat; have d1 : w2.cell? ⟨g, 32, none⟩ = some v := hgrow.cell (a := ⟨g, 32, none⟩) ((cell_alloc_keep c1)) (fun e => hap e.symm); have d2 : w2.cell? ⟨g, 33, none⟩ = some (.int .i64 ((m + 32 : Nat) : Int)) := hgrow.cell (a := ⟨g, 33, none⟩) ((cell_alloc_keep c2)) (fun e => hap e.symm); have d3 : w2.frozen? ⟨g, 32, none⟩ = false := (grown_frozen (a := ⟨g, 32, none⟩) hgrow hg (fun e => hap e.symm)).trans f32; have d4 : w2.frozen? ⟨g, 33, none⟩ = false := (grown_frozen (a := ⟨g, 33, none⟩) hgrow hg (fun e => hap e.symm)).trans f33; obtain ⟨a2, cap2, rfl⟩ := own_slice hown2)
  go_end0
  exact ⟨rfl, _, HS.out _ _ _ _ hown2 hgrow hat rfl⟩
end Go.Proofs.Ytgpopploimeeaaa

/- Pop: the stack's pop, top and pass: what they leave and return; nothing else that lay before is turned. -/
namespace Go.Proofs.Ytgpopploimeeaaa
open Go.RowKit

theorem Kept.trans {g : Nat} {v : Option Nat} {a b c : World} (h : Kept g v a b) (k : Kept g v b c) : Kept g v a c :=
  ⟨k.os.trans h.os, k.tape.trans h.tape, k.output.trans h.output, Nat.le_trans h.size k.size, fun i h1 h2 h3 => (k.block i (Nat.lt_of_lt_of_le h1 h.size) h2 h3).trans (h.block i h1 h2 h3)⟩
theorem Stk.alloc {w : World} {base g : Nat} {v : Value} {R : List Int} (h : Stk w base g v R) (o : Obj) : Stk (w.alloc o) base g v R := by
  have hlt := h.cells.2.2.2.2.2
  obtain ⟨h0, h1, cs, hg, hc⟩ := h
  refine ⟨h0, h1.alloc o, cs, ?_, hc⟩
  rw [Below.heap_alloc w o g hlt]
  exact hg
theorem dropLast_getD {R : List Int} {i : Nat} (h : i < R.dropLast.length) : R.dropLast.getD i 0 = R.getD i 0 := by
  simp only [List.length_dropLast] at h
  rw [List.getD_eq_getElem?_getD, List.getD_eq_getElem?_getD, List.getElem?_dropLast, if_pos h]
theorem dropLast_drop (R : List Int) (h : 32 ≤ R.length) : (R.dropLast).drop 32 = (R.drop 32).dropLast := by
  simp [List.dropLast_eq_take, List.drop_take]
  omega
theorem stk_pop_low {w : World} {base g : Nat} {v : Value} {R : List Int} (h : Stk w base g v R) (h0 : 0 < R.length) (hR : R.length ≤ 32) (w' : World)
    (hw : w' = w.setCell ⟨g, 33, none⟩ (.int .i64 ((R.length : Int) - 1))) : Stk w' base g v R.dropLast := by
  subst hw
  have hap := h.apart
  obtain ⟨g0, h1, cs, hg, c0, c1, c2, c3, c4⟩ := h
  refine ⟨g0, ?_, cs.setIfInBounds 33 (.int .i64 ((R.length : Int) - 1)), heap_setCell_same _ g 33 _ _ _ hg, by simpa using c0, fun i hi hr => ?_, fun i hi => ?_, ?_, ?_⟩
  · rw [show R.dropLast.length - 32 = R.length - 32 from by simp; omega, show R.dropLast.drop 32 = R.drop 32 from by rw [List.drop_eq_nil_of_le (by simp; omega), List.drop_eq_nil_of_le (by omega)]]
    exact own_set h1 _ _ _ hap
  · rw [Array.getElem?_setIfInBounds_ne (by omega), dropLast_getD hr]
    exact c1 i hi (by simp at hr; omega)
  · rw [Array.getElem?_setIfInBounds_ne (by omega)]
    exact c2 i hi
  · rw [Array.getElem?_setIfInBounds_ne (by omega), c3]
  · rw [Array.getElem?_setIfInBounds_self_of_lt (by omega), List.length_dropLast]
    simp
    omega
theorem stk_pop_high {w : World} {base g : Nat} {v : Value} {R : List Int} (h : Stk w base g v R) {m : Nat} (hR : R.length = m + 33) :
    ∃ b cap, v = .slice (some ⟨b, 0, none⟩) (m + 1) cap ∧ m + 1 ≤ cap ∧ cap ≤ maxLen ∧ ∀ w' : World, w' = (w.setCell ⟨g, 33, none⟩ (.int .i64 ((m + 33 : Nat) - 1 : Int))).setCell ⟨g, 32, none⟩ (.slice (some ⟨b, 0, none⟩) m cap) → Stk w' base g (.slice (some ⟨b, 0, none⟩) m cap) R.dropLast := by
  have hap := h.apart
  obtain ⟨g0, h1, cs, hg, c0, c1, c2, c3, c4⟩ := h
  rw [hR, show m + 33 - 32 = m + 1 from by omega] at h1
  obtain ⟨b, cap, rfl, k1, k2, k3⟩ := owns_shrink h1
  refine ⟨b, cap, rfl, k1, k2, fun w' hw => ?_⟩
  subst hw
  have hap2 : (Value.slice (some ⟨b, 0, none⟩) m cap).ownBlock ≠ some g := hap
  refine ⟨g0, ?_, (cs.setIfInBounds 33 (.int .i64 ((m + 33 : Nat) - 1 : Int))).setIfInBounds 32 (.slice (some ⟨b, 0, none⟩) m cap), heap_setCell_same _ g 32 _ _ _ (heap_setCell_same _ g 33 _ _ _ hg), by simpa using c0, fun i hi hr => ?_, fun i hi => ?_, ?_, ?_⟩
  · rw [List.length_dropLast, hR, show m + 33 - 1 - 32 = m from by omega, dropLast_drop R (by omega)]
    exact own_set (own_set k3 _ _ _ hap2) _ _ _ hap2
  · rw [Array.getElem?_setIfInBounds_ne (by omega), Array.getElem?_setIfInBounds_ne (by omega), dropLast_getD hr]
    exact c1 i hi (by simp at hr; omega)
  · rw [Array.getElem?_setIfInBounds_ne (by omega), Array.getElem?_setIfInBounds_ne (by omega)]
    exact c2 i hi
  · rw [Array.getElem?_setIfInBounds_self_of_lt (by simp; omega)]
  · rw [Array.getElem?_setIfInBounds_ne (by omega), Array.getElem?_setIfInBounds_self_of_lt (by omega), List.length_dropLast, hR]
    simp
    omega

set_option maxRecDepth 100000 in
set_option maxHeartbeats 2000000 in
theorem fpop_calls (base g : Nat) (v : Value) (R : List Int) (w : World) (h : Stk w base g v R) (hR2 : R.length ≤ 4398046511104) :
    Calls Try.prog 50 #[.pointer (some ⟨g, 0, none⟩)] w fun e w' => e = .returned (.tuple #[]) ∧ ∃ v', Stk w' base g v' R.dropLast ∧ Kept g v.ownBlock w w' ∧ v'.ownBlock = v.ownBlock := by
  obtain ⟨c1, c2, c3, c4, f, hg⟩ := h.cells
  have f32 := f 32
  have f33 := f 33
  clear c3 c4 f
  by_cases h0 : R.length = 0
  · have HS : Hid (Stk w base g v R.dropLast) := by show Stk w base g v R.dropLast; rw [dropLast_none h0]; exact h
    rw [h0] at c2
    clear c1 h hR2
    generalize R.dropLast = R' at *
    go_enter Try.func50, Try.ntmps50
    go_wp2
    refine bodyPost_ret (results_none (by rfl) _ _ _) rfl ?_
    exact ⟨rfl, v, HS.out, Kept.refl _ _ _, rfl⟩
  by_cases h1 : R.length ≤ 32
  · have HS : Hid (∀ w' : World, w' = w.setCell ⟨g, 33, none⟩ (.int .i64 ((R.length : Int) - 1)) → Stk w' base g v R.dropLast) := fun w' hw => stk_pop_low h (by omega) h1 w' hw
    clear c1 h hR2
    generalize R.dropLast = R' at *
    generalize R.length = n at *
    have e0 : ((n : Int) == 0) = false := by simpa using h0
    go_enter Try.func50, Try.ntmps50
    go_wp2
    go_end0
    exact ⟨rfl, v, HS.out _ rfl, (Kept.refl _ _ _).setCell _ _, rfl⟩
  · obtain ⟨m, hm⟩ : ∃ m, R.length = m + 33 := ⟨R.length - 33, by omega⟩
    obtain ⟨b, cap, rfl, k1, k2, k3⟩ := stk_pop_high h hm
    have HS : Hid (∀ w' : World, w' = (w.setCell ⟨g, 33, none⟩ (.int .i64 ((m : Int) + 33 - 1))).setCell ⟨g, 32, none⟩ (.slice (some ⟨b, 0, none⟩) m cap) → Stk w' base g (.slice (some ⟨b, 0, none⟩) m cap) R.dropLast) := fun w' hw => k3 w' (by rw [hw]; simp)
    rw [hm] at c2 hR2
    unfold maxLen at k2
    clear k3 h h0 h1 hm
    generalize R.dropLast = R' at *
    have e0 : (((m + 33 : Nat) : Int) == 0) = false := by simp; omega
    go_enter Try.func50, Try.ntmps50
    go_wp2
    go_region
    go_wp2
    go_end0
    exact ⟨rfl, _, Stk.drew (HS.out _ rfl), (((Kept.refl _ _ w).setCell _ _).setCell _ _).drew, rfl⟩

set_option maxRecDepth 100000 in
set_option maxHeartbeats 2000000 in
theorem ftop_calls (base g : Nat) (v : Value) (R : List Int) (w : World) (h : Stk w base g v R) (hR2 : R.length ≤ 4398046511104) :
    Calls Try.prog 34 #[.pointer (some ⟨g, 0, none⟩)] w fun e w' => e = .returned (.int .i64 (R.getLast?.getD (-1))) ∧ ∃ q, w' = w.drewN q := by
  obtain ⟨c1, c2, c3, c4, f, hg⟩ := h.cells
  clear f c3
  rcases Nat.eq_zero_or_pos R.length with h0 | h0
  · obtain rfl : R = [] := List.length_eq_zero_iff.1 h0
    clear c1 c4 h h0
    simp only [List.length_nil] at c2
    go_enter Try.func34, Try.ntmps34
    go_wp2
    go_ret
    exact ⟨rfl, 0, rfl⟩
  obtain ⟨m, hm⟩ : ∃ m, R.length = m + 1 := ⟨R.length - 1, by omega⟩
  rw [last_row hm]
  rw [hm] at c2
  have e0 : (((m + 1 : Nat) : Int) == 0) = false := by simp; omega
  by_cases h1 : m < 32
  · have c5 := c4 m h1 (by omega)
    clear c1 c4 h h0
    generalize R.getD m 0 = y at *
    clear hm hR2
    go_enter Try.func34, Try.ntmps34
    go_wp2_with fail
    go_quiet (fail)
    go_wp2
    go_ret
    exact ⟨rfl, _, rfl⟩
  · obtain ⟨k, rfl⟩ : ∃ k, m = k + 32 := ⟨m - 32, by omega⟩
    have hown := h.2.1
    rw [hm, show k + 32 + 1 - 32 = k + 1 from by omega] at hown
    obtain ⟨a', cap', rfl, hr⟩ := row_of_owns hown
    obtain ⟨b, o, rfl, hbl, hc⟩ := (show ∃ b o, a' = some ⟨b, o, none⟩ ∧ b < w.heap.size ∧ ∀ i, i < k + 1 → w.cell? ⟨b, o + i, none⟩ = some (.int .i64 ((R.drop 32).getD i 0)) from by
      rcases hr.2 with h | h
      · omega
      · exact h)
    have hc0 := hc k (by omega)
    rw [show (R.drop 32).getD k 0 = R.getD (k + 32) 0 from by rw [List.getD_eq_getElem?_getD, List.getD_eq_getElem?_getD, List.getElem?_drop, Nat.add_comm]] at hc0
    clear hc hr hown c4 h h0 h1
    generalize R.getD (k + 32) 0 = y at *
    rw [hm] at hR2
    clear hm
    go_enter Try.func34, Try.ntmps34
    go_wp2_with fail
    go_quiet (fail)
    go_wp2
    go_ret
    exact ⟨rfl, _, rfl⟩

set_option maxRecDepth 100000 in
set_option maxHeartbeats 2000000 in
theorem fpass_calls (base g : Nat) (v : Value) (R : List Int) (i : Nat) (x : Tok) (w : World) (h : Stk w base g v R) (hb : base ≤ w.heap.size) (hR2 : R.length ≤ 4398046511104) :
    Calls Try.prog 36 #[.pointer (some ⟨g, 0, none⟩), .int .i64 (i : Int), tokV x] w fun e w' => e = .returned (.tuple #[]) ∧ ∃ v', Stk w' base g v' (turn x i R) ∧ Kept g v.ownBlock w w' ∧ (v'.ownBlock = v.ownBlock ∨ ∀ k, v'.ownBlock = some k → w.heap.size ≤ k) := by
  obtain ⟨xk, xt, xn, xm⟩ := x
  unfold turn
  simp only [tokV]
  have hal : ∀ o, Stk (w.alloc o) base g v R := fun o => h.alloc o
  have hK : ∀ o W, Kept g v.ownBlock (w.alloc o) W → Kept g v.ownBlock w W := fun o W k => (Kept.trans ((Kept.refl _ _ w).alloc o) k)
  have hF : ∀ (o : Obj) (v' : Value), (v'.ownBlock = v.ownBlock ∨ ∀ k, v'.ownBlock = some k → (w.alloc o).heap.size ≤ k) → (v'.ownBlock = v.ownBlock ∨ ∀ k, v'.ownBlock = some k → w.heap.size ≤ k) := by
    intro o v' hv
    rcases hv with hv | hv
    · exact .inl hv
    · refine .inr fun k hk => ?_
      have := hv k hk
      simp at this
      omega
  by_cases k1 : xk = 1
  · subst k1
    rw [if_pos rfl]
    have hp : Hid (∀ o, Calls Try.prog 49 #[.pointer (some ⟨g, 0, none⟩), .int .i64 (i : Int)] (w.alloc o) fun e w' => e = .returned (.tuple #[]) ∧ ∃ v', Stk w' base g v' (R ++ [(i : Int)]) ∧ Kept g v.ownBlock (w.alloc o) w' ∧ (v'.ownBlock = v.ownBlock ∨ ∀ k, v'.ownBlock = some k → (w.alloc o).heap.size ≤ k)) := by
      intro o
      by_cases hR : R.length < 32
      · refine (fpush_low base g v R i _ (hal o) hR).mono ?_
        rintro e w' ⟨e1, e2, e3⟩
        exact ⟨e1, v, e2, e3, .inl rfl⟩
      · exact fpush_high base g v R i _ (hal o) (by simp; omega) (by omega) hR2
    clear hal h
    generalize R ++ [(i : Int)] = R' at *
    go_enter Try.func36, Try.ntmps36
    go_wp2_with fail
    refine (hp.out _).mono ?_
    rintro e W ⟨rfl, v', s1, s2, s3⟩
    go_wp2
    go_end0
    exact ⟨rfl, v', s1, hK _ _ s2, hF _ _ s3⟩
  · have e1 : (xk == 1) = false := by simpa using k1
    rw [if_neg k1]
    by_cases k2 : xk = 2
    · subst k2
      rw [if_pos rfl]
      have hp : Hid (∀ o, Calls Try.prog 50 #[.pointer (some ⟨g, 0, none⟩)] (w.alloc o) fun e w' => e = .returned (.tuple #[]) ∧ ∃ v', Stk w' base g v' R.dropLast ∧ Kept g v.ownBlock (w.alloc o) w' ∧ v'.ownBlock = v.ownBlock) := fun o => fpop_calls base g v R _ (hal o) hR2
      clear hal h
      generalize R.dropLast = R' at *
      go_enter Try.func36, Try.ntmps36
      go_wp2_with fail
      refine (hp.out _).mono ?_
      rintro e W ⟨rfl, v', s1, s2, s3⟩
      go_wp2
      go_end0
      exact ⟨rfl, v', s1, hK _ _ s2, .inl s3⟩
    · have e2 : (xk == 2) = false := by simpa using k2
      rw [if_neg k2]
      go_enter Try.func36, Try.ntmps36
      go_wp2
      go_end0
      exact ⟨rfl, v, hal _, (Kept.refl _ _ w).alloc _, .inl rfl⟩
end Go.Proofs.Ytgpopploimeeaaa

/- Eq: two tokens compared. -/
namespace Go.Proofs.Ytgpopploimeeaaa
open Go.RowKit

theorem tok_eqGuard (op : BinOp) (x y : Operand) (xs ys : Array Value) (W : World) : (eqGuard op 62 x y (.agg xs) (.agg ys)).run Try.prog W = .ok () W := run_eqGuard_agg W op 62 x y xs ys (by kernel_rfl)
theorem tok_equal (x y : Tok) (W : World) : (Op.equalIn 10000 62 (tokV x) (tokV y)).run Try.prog W = .ok (tokEq x y) W := by
  have u3 := Try.underlying3
  have a3 := Try.isAgg3
  have z3 := Try.sizeOf3
  have hS : Try.prog.underlying 62 = some (.struct (Try.prog.fieldsOf 62)) := by kernel_rfl
  have hp : Try.prog.stoodInHeld 62 = false := by kernel_rfl
  obtain ⟨k, t, n, m⟩ := x
  obtain ⟨k', t', n', m'⟩ := y
  simp only [tokV]
  rw [show (10000 : Nat) = 9999 + 1 from rfl, run_equalIn_agg W 9999 62 _ _ hS hp]
  simp only [Program.fieldsOf, Try.underlying62]
  go_simp
  unfold tokEq
  by_cases h1 : k = k' <;> by_cases h2 : t = t' <;> by_cases h3 : n = n' <;> by_cases h4 : m = m' <;> simp [h1, h2, h3, h4]
theorem tok_neq (x y : Tok) (W : World) : (binOp .neq 62 (tokV x) (tokV y)).run Try.prog W = .ok (.bool (!tokEq x y)) W := by
  rw [show tokV x = .agg #[.int .i64 x.k, .int .i64 x.t, .int .i64 x.n, .int .i64 x.m] from rfl, show tokV y = .agg #[.int .i64 y.k, .int .i64 y.t, .int .i64 y.n, .int .i64 y.m] from rfl, run_neq_struct]
  have h := tok_equal x y W
  simp only [tokV] at h
  rw [h]
  rfl
theorem tok_eql (x y : Tok) (W : World) : (binOp .eql 62 (tokV x) (tokV y)).run Try.prog W = .ok (.bool (tokEq x y)) W := by
  rw [show tokV x = .agg #[.int .i64 x.k, .int .i64 x.t, .int .i64 x.n, .int .i64 x.m] from rfl, show tokV y = .agg #[.int .i64 y.k, .int .i64 y.t, .int .i64 y.n, .int .i64 y.m] from rfl, run_eql_struct]
  have h := tok_equal x y W
  simp only [tokV] at h
  rw [h]
  rfl

theorem take_succ_same {l1 l2 : List Tok} {k : Nat} (h : l1.take k = l2.take k) {x : Tok} (h1 : l1[k]? = some x) (h2 : l2[k]? = some x) : l1.take (k + 1) = l2.take (k + 1) := by
  rw [List.take_add_one, List.take_add_one, h, h1, h2]
end Go.Proofs.Ytgpopploimeeaaa
