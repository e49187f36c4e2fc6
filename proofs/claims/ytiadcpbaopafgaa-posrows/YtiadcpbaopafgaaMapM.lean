/-
  PROVED HERE: mappings in memory; slices.Clone of ranges, pos.New.
-/
import Derived.Test.YtiadcpbaopafgaaZero
import Derived.Test.YtiadcpbaopafgaaOwnR
import Derived.Laws.Cover3
namespace Go.Proofs.Ytiadcpbaopafgaa
open Go.RowKit

set_option maxHeartbeats 1000000 in
theorem right_any (a : Option Addr) (len cap : Nat) (l : List Rng) (w : World) (hl : Rngs w a len l) (hz : len ≤ 9223372036854775807) :
    Calls Try.prog 11 #[.slice a len cap] w fun e w' => e = .returned (.bool (right l)) ∧ Below w.heap.size w w' := by
  by_cases h4 : len ≤ 4
  · exact right_calls a len cap l w hl (by omega)
  · have hlong : 4 < len := by omega
    rw [show right l = false from by unfold right; rw [hl.1, show decide (len ≤ 4) = false from by simpa using hlong]; rfl]
    go_enter Try.func11, Try.ntmps11
    go_wp2
    go_ret
    exact ⟨rfl, Below.refl _ _⟩
set_option maxRecDepth 100000 in
set_option maxHeartbeats 1000000 in
theorem map_any (a : Option Addr) (len cap : Nat) (l : List Rng) (p side : Int) (w : World) (hl : Rngs w a len l) (hz : len ≤ 9223372036854775807) :
    Calls Try.prog 9 #[.slice a len cap, .int .i64 p, .int .i64 side] w fun e w' => e = .returned (.tuple #[spotV (mapA l p side), .int .i64 (mapE l p)]) ∧ Below w.heap.size w w' := by
  by_cases h4 : len ≤ 4
  · exact map_calls a len cap l p side w hl (by omega)
  · have hr : right l = false := by unfold right; rw [hl.1, show decide (len ≤ 4) = false from by simpa using h4]; rfl
    obtain ⟨W1, hW1⟩ : ∃ W1, w.alloc (.cells #[.int .i64 0, .bool false, .int .i64 0, .int .i64 0] 24) = W1 := ⟨_, rfl⟩
    have hB0 : Below w.heap.size w W1 := by rw [← hW1]; exact (Below.refl _ _).alloc (Nat.le_refl _) _
    have m0 : W1.heap[w.heap.size]? = some (.cells #[.int .i64 0, .bool false, .int .i64 0, .int .i64 0] 24 (0, 0)) := by rw [← hW1]; exact World.alloc_heap_new w _
    have HW1 : Hid (w.alloc (.cells #[.int .i64 0, .bool false, .int .i64 0, .int .i64 0] 24) = W1) := hW1
    have c1 := right_any a len cap l W1 (hl.below hB0) hz
    rw [hr] at c1
    unfold mapA mapE
    rw [hr, if_pos rfl, if_pos rfl]
    have HM0 : Hid (∀ X, Below W1.heap.size W1 X → X.heap[w.heap.size]? = some (.cells #[.int .i64 0, .bool false, .int .i64 0, .int .i64 0] 24 (0, 0)) ∧ Below w.heap.size w X) := fun X hX => ⟨(hX.block _ (Array.getElem?_eq_some_iff.1 m0).1).trans m0, hB0.trans (hX.mono hB0.size)⟩
    clear hW1 m0 hl
    go_enter Try.func9, Try.ntmps9
    go_wp2_with fail
    rw [HW1.out]
    refine c1.mono ?_
    rintro e X ⟨rfl, hX⟩
    obtain ⟨r0, hB⟩ := HM0.out X hX
    obtain ⟨j0, j1, j2, j3⟩ := cells4 r0
    have f0 : ∀ j, X.frozen? ⟨w.heap.size, j, none⟩ = false := fun j => frozen_block r0
    go_wp2
    refine bodyPost_ret (results_row_tmp rfl _ _ w.heap.size 24 _ (0, 0) _ rfl (put4 r0 _ _ _ _) Try.underlying24 rfl sizeSpot) rfl ?_
    exact ⟨rfl, below4 hB (Nat.le_refl _) ..⟩
/-- A map of a mapping: where its ranges lie, which they are, its mirror. -/
structure Lk where
  a : Option Addr
  len : Nat
  cap : Nat
  l : List Rng
  m : Int
def flatK : List Lk → List Value
  | [] => []
  | x :: r => .slice x.a x.len x.cap :: .int .i64 x.m :: flatK r
theorem flatK_append (l m : List Lk) : flatK (l ++ m) = flatK l ++ flatK m := by
  induction l with
  | nil => rfl
  | cons x r ih => simp [flatK, ih]
theorem flatK_length (l : List Lk) : (flatK l).length = l.length * 2 := by
  induction l with
  | nil => rfl
  | cons x r ih => simp [flatK, ih]; omega
theorem flatK_one (l : List Lk) : ∀ u ∈ flatK l, u.oneCell' = true := by
  induction l with
  | nil => intro u hu; cases hu
  | cons x r ih =>
    intro u hu
    simp only [flatK, List.mem_cons] at hu
    rcases hu with rfl | rfl | hu
    · rfl
    · rfl
    · exact ih u hu
theorem flatK_at (l : List Lk) (i : Nat) (x : Lk) (h : l[i]? = some x) : (flatK l)[i * 2]? = some (.slice x.a x.len x.cap) ∧ (flatK l)[i * 2 + 1]? = some (.int .i64 x.m) := by
  induction l generalizing i with
  | nil => simp at h
  | cons y r ih =>
    cases i with
    | zero =>
      obtain rfl : y = x := by simpa using h
      exact ⟨rfl, rfl⟩
    | succ i =>
      have := ih i (by simpa using h)
      rw [show (i + 1) * 2 = i * 2 + 2 from by omega, show i * 2 + 2 + 1 = i * 2 + 1 + 2 from by omega]
      exact this
/-- Its ranges lie where no mapping writes. -/
def LkOk (W : World) (base : Nat) (x : Lk) : Prop :=
  Rngs W x.a x.len x.l ∧ right x.l = true ∧ (x.len = 0 ∨ ∃ b o, x.a = some ⟨b, o, none⟩ ∧ (b < base ∨ ∃ c, W.heap[b]? = some (.cells c 60 (0, 0))))
/-- A mapping: its struct's cells, by cs, of type tm at B; its row of type te. -/
def MapIn (cs : Value → Array Value) (tm te : TypeId) (W : World) (base B : Nat) (M : List Lk) : Prop :=
  ∃ v, W.heap[B]? = some (.cells (cs v) tm (0, 0)) ∧ base ≤ B ∧ W.ownsRow base te 2 v M.length (flatK M) ∧ ∀ x ∈ M, LkOk W base x
/-- What a mapping's calls turn: blocks of two types, from base on. -/
def KeepM (tm te : TypeId) (base : Nat) (W W' : World) : Prop :=
  Below base W W' ∧ ∀ (k : Nat) (c : Array Value) (t : TypeId) (fr : Nat × Nat), W.heap[k]? = some (.cells c t fr) → t ≠ tm → t ≠ te → W'.heap[k]? = some (.cells c t fr)
theorem KeepM.trans {tm te : TypeId} {base : Nat} {A B C : World} (h : KeepM tm te base A B) (k : KeepM tm te base B C) : KeepM tm te base A C := ⟨h.1.trans k.1, fun i c t fr hi h1 h2 => k.2 i c t fr (h.2 i c t fr hi h1 h2) h1 h2⟩
theorem KeepM.of_below {tm te : TypeId} {base : Nat} {W W' : World} (h : Below W.heap.size W W') (hb : base ≤ W.heap.size) : KeepM tm te base W W' := ⟨h.mono hb, fun k _ _ _ hk _ _ => (h.block k (Array.getElem?_eq_some_iff.1 hk).1).trans hk⟩
theorem LkOk.keep {tm te : TypeId} {base : Nat} {W W' : World} {x : Lk} (h : LkOk W base x) (hk : KeepM tm te base W W') (h1 : 60 ≠ tm) (h2 : 60 ≠ te) : LkOk W' base x := by
  obtain ⟨g1, g2, g3⟩ := h
  rcases g3 with g3 | ⟨b, o, e, g3⟩
  · refine ⟨g1.same (fun h0 => ?_), g2, .inl g3⟩
    omega
  · have hb : W'.heap[b]? = W.heap[b]? ∧ (b < base ∨ ∃ c, W'.heap[b]? = some (.cells c 60 (0, 0))) := by
      rcases g3 with g3 | ⟨c, g3⟩
      · exact ⟨hk.1.block b g3, .inl g3⟩
      · have := hk.2 b c _ _ g3 h1 h2
        exact ⟨this.trans g3.symm, .inr ⟨c, this⟩⟩
    refine ⟨g1.same (fun _ b' o' e' => ?_), g2, .inr ⟨b, o, e, hb.2⟩⟩
    rw [e] at e'
    cases e'
    exact hb.1
theorem MapIn.keep {cs : Value → Array Value} {tm te tm' te' : TypeId} {base B : Nat} {W W' : World} {M : List Lk} (h : MapIn cs tm te W base B M) (hk : KeepM tm' te' base W W') (h1 : tm ≠ tm') (h2 : tm ≠ te') (h3 : te ≠ tm') (h4 : te ≠ te') (h5 : 60 ≠ tm') (h6 : 60 ≠ te') : MapIn cs tm te W' base B M := by
  obtain ⟨v, g1, g2, g3, g4⟩ := h
  refine ⟨v, hk.2 _ _ _ _ g1 h1 h2, g2, owns_keep g3 (fun g hg => ?_), fun x hx => (g4 x hx).keep hk h5 h6⟩
  obtain ⟨_, _, c, hc⟩ := owns_block g3 hg
  rw [hk.2 _ _ _ _ hc h3 h4, hc]
theorem MapIn.below {cs : Value → Array Value} {tm te : TypeId} {base B : Nat} {W W' : World} {M : List Lk} (h : MapIn cs tm te W base B M) (hk : Below W.heap.size W W') (hb : base ≤ W.heap.size) : MapIn cs tm te W' base B M := by
  obtain ⟨v, g1, g2, g3, g4⟩ := h
  refine ⟨v, (hk.block _ (Array.getElem?_eq_some_iff.1 g1).1).trans g1, g2, owns_keep g3 (fun g hg => hk.block _ (owns_block g3 hg).2.1), fun x hx => (g4 x hx).keep (tm := 0) (te := 0) (KeepM.of_below hk hb) (by decide) (by decide)⟩
/-- The i-th map of it, read. -/
theorem MapIn.at_ {cs : Value → Array Value} {tm te : TypeId} {base B : Nat} {W : World} {M : List Lk} (h : MapIn cs tm te W base B M) {i : Nat} {x : Lk} (hx : M[i]? = some x) :
    ∃ g cap, W.heap[B]? = some (.cells (cs (.slice (some ⟨g, 0, none⟩) M.length cap)) tm (0, 0)) ∧ W.cell? ⟨g, i * 2, none⟩ = some (.slice x.a x.len x.cap) ∧ W.cell? ⟨g, i * 2 + 1, none⟩ = some (.int .i64 x.m) ∧ LkOk W base x := by
  obtain ⟨v, g1, g2, g3, g4⟩ := h
  have hi : i < M.length := (List.getElem?_eq_some_iff.1 hx).1
  obtain ⟨hl, ⟨rfl, h0⟩ | ⟨g, cap, cur, rfl, hb, hg, hc1, hc2, hc3, hc4⟩⟩ := g3
  · omega
  · obtain ⟨f0, f1⟩ := flatK_at M i x hx
    have key : ∀ j u, (flatK M)[j]? = some u → W.cell? ⟨g, j, none⟩ = some u := by
      intro j u hj
      have hjl : j < M.length * 2 := by
        have := (List.getElem?_eq_some_iff.1 hj).1
        rwa [flatK_length] at this
      rw [← hc4, List.getElem?_take, if_pos hjl, Array.getElem?_toList] at hj
      simp [World.cell?, hg, hj]
    exact ⟨g, cap, g1, key _ _ f0, key _ _ f1, g4 x (List.mem_of_getElem? hx)⟩
theorem MapIn.len_ {cs : Value → Array Value} {tm te : TypeId} {base B : Nat} {W : World} {M : List Lk} (h : MapIn cs tm te W base B M) : ∃ a cap, W.heap[B]? = some (.cells (cs (.slice a M.length cap)) tm (0, 0)) := by
  obtain ⟨v, g1, g2, g3, g4⟩ := h
  obtain ⟨hl, ⟨rfl, h0⟩ | ⟨g, cap, cur, rfl, hb, hg, hc1, hc2, hc3, hc4⟩⟩ := g3
  · rw [h0]
    exact ⟨none, 0, g1⟩
  · exact ⟨_, cap, g1⟩

/-- append of ranges to what the call owns. -/
theorem rng_append_own (base : Nat) (v : Value) (n : Nat) (xs : List Rng) (W : World) (hown : W.ownsRow base 60 3 v n (flatR xs)) (hv : v ≠ .slice none 0 0) (hbase : base ≤ W.heap.size) (a : Option Addr) (len cap : Nat) (bs : List Rng) (hr : Rngs W a len bs) (hsz : n + len ≤ 100000) :
    ∃ v' W1, (Builtin.append_ #[22, 22] 22 #[v, .slice a len cap]).run Try.prog W = .ok v' W1 ∧ W1.ownsRow base 60 3 v' (n + len) (flatR (xs ++ bs)) ∧ v' ≠ .slice none 0 0 ∧ Below base W W1 := by
  obtain ⟨i0, hi, hz0, hz1, hz2⟩ := info_parts infoR
  have hown0 := hown
  obtain ⟨hl0, ⟨h1, _⟩ | ⟨g, c, cur, rfl, hbg, hg, hc1, hc2, hc3, hc4⟩⟩ := hown0
  · exact absurd h1 hv
  · rcases Nat.eq_zero_or_pos len with h0 | h0
    · subst h0
      obtain rfl : bs = [] := List.length_eq_zero_iff.1 hr.1
      have hs : Src Try.prog i0.size 22 (.slice a 0 cap) 0 [] W := by
        cases a with
        | none => exact Src.ofNil _ Try.underlying22 cap
        | some p => exact Src.ofSlice _ Try.underlying22 p 0 cap [] (by simp) (by simp) (by simp)
      have h3 := run_append_room_src (P := Try.prog) W 22 22 22 60 i0 Try.underlying22 hi g 0 n c _ 0 [] hs (by omega) (by simp) (by simp)
      exact ⟨_, _, h3, by rw [List.append_nil]; exact hown, by simp, Below.refl base W⟩
    · obtain ⟨hl, h1 | ⟨b, o, rfl, hlt, hc⟩⟩ := hr
      · omega
      · obtain ⟨v', W1, hrun, r1, r2, r3⟩ := run_append_own (P := Try.prog) W base 22 22 60 i0 _ 3 24 Try.underlying22 hi hz0 hz1 hz2 rfl (by decide) _ n _ hown ⟨b, o, none⟩ len cap (flatR bs) (by rw [flatR_length, hl])
          (fun j u hj => by
            have e : (⟨b, o, none⟩ : Addr).add j = ⟨b, o + j, none⟩ := by unfold Addr.add; split <;> simp_all
            rw [e]
            have hjl : j < bs.length * 3 := by
              have := (List.getElem?_eq_some_iff.1 hj).1
              rwa [flatR_length] at this
            obtain ⟨x, hx⟩ : ∃ x, bs[j / 3]? = some x := ⟨_, List.getElem?_eq_getElem (by omega)⟩
            obtain ⟨f0, f1, f2⟩ := flatR_at bs (j / 3) x hx
            obtain ⟨c0, c1, c2⟩ := hc (j / 3) x hx
            rcases (show j = j / 3 * 3 ∨ j = j / 3 * 3 + 1 ∨ j = j / 3 * 3 + 2 from by omega) with e | e | e
            · rw [e] at hj ⊢
              rw [f0] at hj
              exact c0.trans hj
            · rw [e] at hj ⊢
              rw [f1] at hj
              exact c1.trans hj
            · rw [e] at hj ⊢
              rw [f2] at hj
              exact c2.trans hj) (flatR_one bs) (by unfold maxLen; omega) (by omega) hbase
        rw [← flatR_append] at r1
        exact ⟨_, _, hrun, r1, fun e => by have := r3.1 e; simp at this, (Below.refl base W).grown r2 hbase (fun k e => by simp [Value.ownBlock] at e; omega)⟩
theorem eql_nilR (a : Option Addr) (l c : Nat) (W : World) : (binOp .eql 22 (.slice a l c) (.slice none 0 0)).run Try.prog W = .ok (.bool a.isNone) W := by
  simp only [binOp]
  simp [run_equal_slice_nil W 22 _ a l c Try.underlying22]
theorem wpList_app_run' {ops : Array Oper} {rest : List Oper} {o : Oper} {a : Act} {w : World} {Q : Exit → Act → World → Prop} (hgd : o.guard = none) (s x : Operand) (t : TypeId) (ho : o.op = .call { callee := .builtin .append, args := #[s, x], argTypes := #[t, t] })
    (v u v' : Value) (w' : World) (hs : a.eval s = v) (hx : a.eval x = u) (hr : (Builtin.append_ #[t, t] o.type #[v, u]).run Try.prog w = .ok v' w') (h : wpList Try.prog ops Q rest (a.put o.dst v') w') : wpList Try.prog ops Q (o :: rest) a w :=
  wpList_plain hgd fun _ hK => wp_app_run s x t ho v u v' w' hs hx hr (hK _ _ h)
set_option maxRecDepth 100000 in
set_option maxHeartbeats 1000000 in
theorem clone_calls (a : Option Addr) (len cap : Nat) (l : List Rng) (w : World) (hl : Rngs w a len l) (hsz : len ≤ 4) (ha : a = none → cap = 0) (hc : len ≤ cap) :
    Calls Try.prog 33 #[.slice a len cap] w fun e w' => ∃ a' cap', e = .returned (.slice a' len cap') ∧ Rngs w' a' len l ∧ (len = 0 ∨ ∃ b o c, a' = some ⟨b, o, none⟩ ∧ w'.heap[b]? = some (.cells c 60 (0, 0))) ∧ Below w.heap.size w w' := by
  cases a with
  | none =>
    obtain rfl := ha rfl
    obtain rfl : len = 0 := by omega
    obtain rfl : l = [] := List.length_eq_zero_iff.1 hl.1
    have hq := fun W => eql_nilR none 0 0 W
    go_enter Try.func33, Try.ntmps33
    go_wp2
    go_ret
    first | exact ⟨none, 0, rfl, ⟨rfl, .inl rfl⟩, .inl rfl, Below.refl _ _⟩ | exact ⟨none, ⟨0, rfl⟩, ⟨rfl, .inl rfl⟩, .inl rfl, Below.refl _ _⟩ | exact ⟨none, ⟨0, rfl⟩, ⟨rfl, .inl rfl⟩, Below.refl _ _⟩ | exact ⟨none, 0, rfl, ⟨rfl, .inl rfl⟩, Below.refl _ _⟩
  | some x =>
    have hB : Below w.heap.size w (w.alloc (.cells #[] 60)) := (Below.refl _ w).alloc (Nat.le_refl _) _
    have hg : (w.alloc (.cells #[] 60)).heap[w.heap.size]? = some (.cells #[] 60 (0, 0)) := World.alloc_heap_new w _
    have hown : (w.alloc (.cells #[] 60)).ownsRow w.heap.size 60 3 (.slice (some ⟨w.heap.size, 0, none⟩) 0 0) 0 (flatR []) := ⟨rfl, .inr ⟨_, _, _, rfl, Nat.le_refl _, hg, Nat.le_refl _, Nat.zero_le _, rfl, rfl⟩⟩
    obtain ⟨v, W1, hrun, r1, r2, r3⟩ := rng_append_own w.heap.size _ 0 [] _ hown (by simp) (by simp) (some x) len cap l (hl.below hB) (by omega)
    rw [Nat.zero_add, List.nil_append] at r1
    replace r3 := hB.trans r3
    obtain ⟨a1, c1, rfl, q1, q2, _⟩ := rngs_of_owns r1
    have hlast : len = 0 ∨ ∃ b o c, a1 = some ⟨b, o, none⟩ ∧ W1.heap[b]? = some (.cells c 60 (0, 0)) := by
      obtain ⟨_, ⟨e, h0⟩ | ⟨g, c2, cur, e, _, hg2, _⟩⟩ := r1
      · exact .inl h0
      · cases e
        exact .inr ⟨g, 0, cur, rfl, hg2⟩
    have HL : Hid (len = 0 ∨ ∃ b o c, a1 = some ⟨b, o, none⟩ ∧ W1.heap[b]? = some (.cells c 60 (0, 0))) := hlast
    have Q1 : Hid (Rngs W1 a1 len l) := q1
    have HR : Hid _ := hrun
    clear r1 r2 hl hown hg hlast q1 hrun
    have hq := fun W => eql_nilR (some x) len cap W
    simp only [Option.isNone_some] at hq
    go_enter Try.func33, Try.ntmps33
    go_wp2_with (refine wpList_app_run' rfl _ _ 22 rfl _ _ _ _ rfl rfl HR.out ?_)
    go_ret
    first | exact ⟨a1, ⟨c1, rfl⟩, Q1.out, HL.out, r3⟩ | exact ⟨a1, c1, rfl, Q1.out, HL.out, r3⟩

/-- The program's mapping. -/
def csP (v : Value) : Array Value := #[v, .bool true]
def MapP (W : World) (base B : Nat) (M : List Lk) : Prop := MapIn csP 73 76 W base B M
def KeepP (base : Nat) (W W' : World) : Prop := KeepM 73 76 base W W'
theorem MapP.made {W : World} {base B : Nat} {M : List Lk} (h : MapP W base B M) : MadeAt W (some ⟨B, 0, none⟩) true := by
  obtain ⟨v, g1, _⟩ := h
  exact .inr ⟨B, rfl, (Array.getElem?_eq_some_iff.1 g1).1, cell_of_row W B 1 _ _ _ g1⟩
set_option maxHeartbeats 400000 in
theorem new_calls (w : World) (base : Nat) (hb : base ≤ w.heap.size) : Calls Try.prog 19 #[] w fun e w' => e = .returned (.pointer (some ⟨w.heap.size, 0, none⟩)) ∧ MapP w' base w.heap.size [] ∧ w' = w.alloc (.cells #[.slice none 0 0, .bool true] 73) := by
  go_enter Try.func19, Try.ntmps19
  go_wp2
  go_ret
  exact ⟨rfl, ⟨.slice none 0 0, World.alloc_heap_new w _, hb, ⟨rfl, .inl ⟨rfl, rfl⟩⟩, by simp⟩, rfl⟩
end Go.Proofs.Ytiadcpbaopafgaa
