/-
  PROVED HERE: the document's own mapping: Add and Set: what they return, and what lies there then; nothing else is turned.
-/
import Derived.Test.YtiadcpbaopafgaaAddP
import Derived.Test.YtiadcpbaopafgaaMir
import Derived.Test.YtiadcpbaopafgaaRefR
namespace Go.Proofs.Ytiadcpbaopafgaa
open Go.RowKit

/-- The document's mapping. -/
def csR (v : Value) : Array Value := #[v]
def MapR (W : World) (base B : Nat) (M : List Lk) : Prop := MapIn csR 49 78 W base B M
def KeepR (base : Nat) (W W' : World) : Prop := KeepM 49 78 base W W'
theorem infoLd : (Try.prog.info? 78).map (fun i => (i.zero, i.size, i.bytes)) = some (some (.agg #[.slice none 0 0, .int .i64 0]), 2, 32) := by kernel_rfl
set_option maxHeartbeats 1000000 in
theorem refright_any (a : Option Addr) (len cap : Nat) (l : List Rng) (w : World) (hl : Rngs w a len l) (hz : len ≤ 9223372036854775807) :
    Calls Try.prog 12 #[.slice a len cap] w fun e w' => e = .returned (.bool (right l)) ∧ Below w.heap.size w w' := by
  by_cases h4 : len ≤ 4
  · exact refright_calls a len cap l w hl (by omega)
  · have hlong : 4 < len := by omega
    rw [show right l = false from by unfold right; rw [hl.1, show decide (len ≤ 4) = false from by simpa using hlong]; rfl]
    go_enter Try.func12, Try.ntmps12
    go_wp2
    go_ret
    exact ⟨rfl, Below.refl _ _⟩
theorem MapR.parts {W : World} {base B : Nat} {M : List Lk} (h : MapR W base B M) : ∃ av cv, W.heap[B]? = some (.cells (csR (.slice av M.length cv)) 49 (0, 0)) ∧ base ≤ B ∧ W.ownsRow base 78 2 (.slice av M.length cv) M.length (flatK M) ∧ ∀ x ∈ M, LkOk W base x := by
  obtain ⟨v, g1, g2, g3, g4⟩ := h
  have g3' := g3
  obtain ⟨_, ⟨rfl, h0⟩ | ⟨g, cap', cur, rfl, _⟩⟩ := g3'
  · rw [h0] at g3 ⊢
    exact ⟨none, 0, g1, g2, g3, g4⟩
  · exact ⟨_, cap', g1, g2, g3, g4⟩

set_option maxRecDepth 100000 in
set_option maxHeartbeats 2000000 in
theorem refadd_calls (base B : Nat) (M : List Lk) (a : Option Addr) (len cap : Nat) (l : List Rng) (w : World) (hM : MapR w base B M) (hl : Rngs w a len l) (hz : len ≤ 9223372036854775807) (hold : len = 0 ∨ ∃ b o, a = some ⟨b, o, none⟩ ∧ b < base) (hn : M.length ≤ 100) (hb : base ≤ w.heap.size) :
    Calls Try.prog 21 #[.pointer (some ⟨B, 0, none⟩), .slice a len cap] w fun e w' => (right l = false ∧ e = .returned (.int .i64 4) ∧ Below w.heap.size w w') ∨ (right l = true ∧ e = .returned (.int .i64 0) ∧ MapR w' base B (M ++ [⟨a, len, cap, l, -1⟩]) ∧ KeepR base w w') := by
  have cr := refright_any a len cap l w hl hz
  cases hr : right l with
  | false =>
    rw [hr] at cr
    go_enter Try.func21, Try.ntmps21
    go_wp2_with fail
    refine cr.mono ?_
    rintro e X ⟨rfl, hX⟩
    go_wp2
    go_ret
    first | exact .inl ⟨rfl, rfl, hX⟩ | exact .inl ⟨trivial, rfl, hX⟩
  | true =>
    rw [hr] at cr
    obtain ⟨av, cv, g1, g2, g3, g4⟩ := hM.parts
    have hBl : B < w.heap.size := (Array.getElem?_eq_some_iff.1 g1).1
    have HB0 : Hid (∀ X, Below w.heap.size w X → X.cell? ⟨B, 0, none⟩ = some (.slice av M.length cv)) := fun X hX => cell_of_row X B 0 _ _ _ ((hX.block B hBl).trans g1)
    have HAPP : Hid (∀ (Y : World) (gB : Nat), Below w.heap.size w Y → Y.heap[gB]? = some (.cells #[.slice a len cap, .int .i64 (-1)] 78 (0, 0)) →
        ∃ v2 Y2, (Builtin.append_ #[47, 47] 47 #[.slice av M.length cv, .slice (some ⟨gB, 0, none⟩) 1 1]).run Try.prog Y = .ok v2 Y2 ∧ (∃ g2 cap2, v2 = .slice (some ⟨g2, 0, none⟩) (M.length + 1) cap2) ∧ Y2.cell? ⟨B, 0, none⟩ = some (.slice av M.length cv) ∧ Y2.frozen? ⟨B, 0, none⟩ = false ∧
          (MapR (Y2.setCell ⟨B, 0, none⟩ v2) base B (M ++ [⟨a, len, cap, l, -1⟩]) ∧ KeepR base w (Y2.setCell ⟨B, 0, none⟩ v2))) := fun Y gB hY hE => by
      have g3Y : Y.ownsRow base 78 2 (.slice av M.length cv) M.length (flatK M) := owns_keep g3 (fun g hg => hY.block _ (owns_block g3 hg).2.1)
      obtain ⟨v2, Y2, hrun, hrow2, hgr, _⟩ := lk_append1 47 78 Try.underlying47 infoLd base _ _ M Y g3Y (Nat.le_trans hb hY.size) ⟨a, len, cap, l, -1⟩ gB 1 hE (by omega)
      obtain ⟨p1, p2, p3⟩ := map_put (cs := csR) (fun v v2 => rfl) (by decide) (by decide) (by decide) g1 g2 g3 g4 hb hY (x := ⟨a, len, cap, l, -1⟩) ⟨hl.below hY, hr, hold.imp id (fun ⟨b, o, e1, e2⟩ => ⟨b, o, e1, .inl e2⟩)⟩ hrow2 hgr
      exact ⟨v2, Y2, hrun, ownsRow_succ hrow2, cell_of_row Y2 B 0 _ _ _ p1, frozen_block p1, p2, p3⟩
    clear hl g1 g3 g4 hM
    go_enter Try.func21, Try.ntmps21
    go_wp2_with fail
    refine cr.mono ?_
    rintro e X ⟨rfl, hX⟩
    have hb0 := HB0.out X hX
    have hge : ¬ ((4096 : Int) ≤ M.length) := by omega
    obtain ⟨Y, hY⟩ : ∃ Y, X.alloc (.cells #[.slice a len cap, .int .i64 (-1)] 78) = Y := ⟨_, rfl⟩
    have hBY : Below w.heap.size w Y := by rw [← hY]; exact hX.alloc hX.size _
    have mE : Y.heap[X.heap.size]? = some (.cells #[.slice a len cap, .int .i64 (-1)] 78 (0, 0)) := by rw [← hY]; exact World.alloc_heap_new X _
    obtain ⟨v2, Z, hrun, ⟨g5, cap2, rfl⟩, c9, f9, HE⟩ := HAPP.out Y X.heap.size hBY mE
    have HEE := Hid.mk_ HE
    have HRUN := Hid.mk_ hrun
    clear HE hrun mE HAPP
    go_wp2_with (refine wpList_app_run' rfl _ _ 47 rfl _ _ _ _ rfl rfl HRUN.out ?_)
    go_ret
    first | exact .inr ⟨rfl, rfl, HEE.out⟩ | exact .inr ⟨trivial, rfl, HEE.out⟩

set_option maxRecDepth 100000 in
set_option maxHeartbeats 2000000 in
theorem refset_calls (base B : Nat) (M : List Lk) (i j : Int) (w : World) (hM : MapR w base B M) (hge : ∀ k, k < M.length → -1 ≤ mirAt M k) (_hn : M.length ≤ 1000) :
    Calls Try.prog 23 #[.pointer (some ⟨B, 0, none⟩), .int .i64 i, .int .i64 j] w fun e w' => (¬ mirOk M i j ∧ e = .returned (.int .i64 1) ∧ w' = w) ∨ (mirOk M i j ∧ e = .returned (.int .i64 0) ∧ MapR w' base B (setM (setM M i.toNat j) j.toNat i) ∧ KeepR base w w') := by
  obtain ⟨aB, cB, g1, g2, g3, g4⟩ := hM.parts
  have g0 : w.cell? ⟨B, 0, none⟩ = some (.slice aB M.length cB) := cell_of_row w B 0 _ _ _ g1
  by_cases d1 : i < 0
  · have HN : Hid (¬ mirOk M i j) := fun h => by have := h.1; omega
    clear hM g1 g3 g4 hge
    generalize M.length = n at *
    go_enter Try.func23, Try.ntmps23
    go_wp2
    go_ret
    first | exact .inl ⟨HN.out, rfl, rfl⟩ | exact .inl HN.out
  · by_cases d2 : j ≤ i
    · have HN : Hid (¬ mirOk M i j) := fun h => by have := h.2.1; omega
      clear hM g1 g3 g4 hge
      generalize M.length = n at *
      go_enter Try.func23, Try.ntmps23
      go_wp2
      go_ret
      first | exact .inl ⟨HN.out, rfl, rfl⟩ | exact .inl HN.out
    · by_cases d3 : (M.length : Int) ≤ j
      · have HN : Hid (¬ mirOk M i j) := fun h => by have := h.2.2.1; omega
        clear hM g1 g3 g4 hge
        generalize M.length = n at *
        go_enter Try.func23, Try.ntmps23
        go_wp2
        go_ret
        first | exact .inl ⟨HN.out, rfl, rfl⟩ | exact .inl HN.out
      · obtain ⟨i, rfl⟩ : ∃ k : Nat, i = (k : Int) := ⟨i.toNat, by omega⟩
        obtain ⟨j, rfl⟩ : ∃ k : Nat, j = (k : Int) := ⟨j.toNat, by omega⟩
        have hij : i < j := by omega
        have hjn : j < M.length := by omega
        have hin : i < M.length := by omega
        have e1 : ((i : Int)).toNat = i := by omega
        have e2 : ((j : Int)).toNat = j := by omega
        have hOK : mirOk M i j ↔ (mirAt M i = -1 ∧ mirAt M j = -1) := by
          unfold mirOk
          rw [e1, e2]
          constructor
          · exact fun h => h.2.2.2
          · exact fun h => ⟨by omega, by omega, by omega, h⟩
        obtain ⟨x, hx⟩ : ∃ x, M[i]? = some x := ⟨_, List.getElem?_eq_getElem hin⟩
        obtain ⟨y, hy⟩ : ∃ y, M[j]? = some y := ⟨_, List.getElem?_eq_getElem hjn⟩
        have hmx : mirAt M i = x.m := by unfold mirAt; rw [hx]; rfl
        have hmy : mirAt M j = y.m := by unfold mirAt; rw [hy]; rfl
        have hgx := hge i hin
        have hgy := hge j hjn
        obtain ⟨g, cap, k1, _, k3, _⟩ := hM.at_ hx
        obtain ⟨g', cap', k1', _, k3', _⟩ := hM.at_ hy
        obtain ⟨rfl, rfl⟩ : aB = some ⟨g, 0, none⟩ ∧ cB = cap := by
          rw [g1] at k1
          simp [csR] at k1
          exact k1
        obtain ⟨rfl, rfl⟩ : g = g' ∧ cB = cap' := by
          rw [g1] at k1'
          simp [csR] at k1'
          exact k1'
        rw [← hmx] at k3
        rw [← hmy] at k3'
        clear k1 k1' hx hy hmx hmy
        by_cases d4 : mirAt M i = -1
        · by_cases d5 : mirAt M j = -1
          · have HOK : Hid (mirOk M i j) := hOK.2 ⟨d4, d5⟩
            rw [e1, e2]
            obtain ⟨ga, ea, -, ⟨u, q1⟩, q2, q3, q4, q5, q6⟩ := map_set (cs := csR) (by decide) (by decide) (by decide) i (j : Int) hin g1 g2 g3 g4
            obtain rfl : g = ga := by simpa using ea
            obtain ⟨gb, eb, -, ⟨u', r1⟩, r2, r3, r4, r5, r6⟩ := map_set (cs := csR) (by decide) (by decide) (by decide) (M := setM M i j) j (i : Int) (by rw [setM_length]; exact hjn) q3 g2 q4 q5
            obtain rfl : g = gb := by simpa using eb
            have s0 : (w.setCell ⟨g, i * 2 + 1, none⟩ (.int .i64 (j : Int))).cell? ⟨B, 0, none⟩ = some (.slice (some ⟨g, 0, none⟩) M.length cB) := cell_of_row _ B 0 _ _ _ q3
            have HE : Hid (MapR ((w.setCell ⟨g, i * 2 + 1, none⟩ (.int .i64 (j : Int))).setCell ⟨g, j * 2 + 1, none⟩ (.int .i64 (i : Int))) base B (setM (setM M i j) j i) ∧ KeepR base w ((w.setCell ⟨g, i * 2 + 1, none⟩ (.int .i64 (j : Int))).setCell ⟨g, j * 2 + 1, none⟩ (.int .i64 (i : Int)))) := ⟨⟨_, r3, g2, r4, r5⟩, q6.trans r6⟩
            rw [d4] at k3
            rw [d5] at k3'
            clear g1 g3 g4 q1 q3 q4 q5 q6 r3 r4 r5 r6 hOK d4 d5 hM hge ea eb hgx hgy
            generalize M.length = n at *
            go_enter Try.func23, Try.ntmps23
            go_wp2
            go_ret
            first | exact .inr ⟨HOK.out, rfl, HE.out⟩ | exact .inr ⟨HOK.out, HE.out⟩
          · have HN : Hid (¬ mirOk M i j) := fun h => d5 (hOK.1 h).2
            rw [d4] at k3
            have hpos : 0 ≤ mirAt M j := by omega
            generalize mirAt M j = mj at *
            clear hM g1 g3 g4 hge hOK
            generalize M.length = n at *
            go_enter Try.func23, Try.ntmps23
            go_wp2
            go_ret
            first | exact .inl ⟨HN.out, rfl, rfl⟩ | exact .inl HN.out
        · have HN : Hid (¬ mirOk M i j) := fun h => d4 (hOK.1 h).1
          have hpos : 0 ≤ mirAt M i := by omega
          generalize mirAt M i = mi at *
          clear hM g1 g3 g4 hge hOK
          generalize M.length = n at *
          go_enter Try.func23, Try.ntmps23
          go_wp2
          go_ret
          first | exact .inl ⟨HN.out, rfl, rfl⟩ | exact .inl HN.out
end Go.Proofs.Ytiadcpbaopafgaa
