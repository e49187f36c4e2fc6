/-
  PROVED HERE: the iterator that pos.parts hands back gives each range of a right map, with its number and the sum ahead of it, to whatever loop body that keeps the map.
-/
import Derived.RangeFuncNested
import Derived.RangeFuncBox
import Derived.RangeFuncBound
import Derived.RangeFuncCalls
import Derived.RangeFuncLeaves
import Derived.Shelf.Abstract
import Derived.Shelf.RegionOpen
import Derived.WalkKit
import Derived.OwnWalkIn
import Derived.TacticsInMore
import Derived.LoopNIn
import Derived.LoopIn
import Derived.Test.YtiadcpbaopafgaaHeld
namespace Go.Proofs.Ytiadcpbaopafgaa
open Go.RowKit Go.Shelf
attribute [local go_sem] Oper.semAt_some

/-- The k-th range of a map. -/
def nth (l : List Rng) (k : Nat) : Rng := (l[k]?).getD ⟨0, 0, 0⟩
theorem nth_some {l : List Rng} {k : Nat} {x : Rng} (h : l[k]? = some x) : nth l k = x := by unfold nth; rw [h]; rfl
/-- What a round is handed: the range, its number, the sum ahead of it. -/
def stepP (l : List Rng) {N : Nat} (i : Fin N) : Array Value := #[partV (nth l i.val) (i.val : Int) (shiftL (l.take i.val))]
/-- What the loop's body keeps: all cells but its own variables (from n₀ to m) and what R tells of its variable b. -/
def KpP (n₀ m b : Nat) (R : Option Obj → Nat → Prop) (W W' : World) : Prop :=
  W.heap.size ≤ W'.heap.size ∧ (∀ k c t fr, W.heap[k]? = some (.cells c t fr) → (k < n₀ ∨ m ≤ k) → ¬ R W.heap[b]? k → W'.heap[k]? = W.heap[k]?) ∧
    ∀ k, R W'.heap[b]? k → R W.heap[b]? k ∨ (W.heap.size ≤ k ∧ k < W'.heap.size)
theorem KpP.trans {n₀ m b : Nat} {R : Option Obj → Nat → Prop} {A B C : World} (h : KpP n₀ m b R A B) (k : KpP n₀ m b R B C) : KpP n₀ m b R A C := by
  obtain ⟨h1, h2, h3⟩ := h
  obtain ⟨k1, k2, k3⟩ := k
  refine ⟨Nat.le_trans h1 k1, fun i c t fr hi hn hr => ?_, fun i hi => ?_⟩
  · have e := h2 i c t fr hi hn hr
    rw [← e]
    refine k2 i c t fr (e.trans hi) hn (fun hr' => ?_)
    rcases h3 i hr' with h | h
    · exact hr h
    · have := (Array.getElem?_eq_some_iff.1 hi).1
      omega
  · rcases k3 i hi with h4 | h4
    · rcases h3 i h4 with h5 | h5
      · exact .inl h5
      · exact .inr (by omega)
    · exact .inr (by omega)
theorem KpP.put {n₀ m b : Nat} {R : Option Obj → Nat → Prop} {W : World} {l : Nat} {o : Obj} (o' : Obj) (hl : W.heap[l]? = some o) (ho : o.isCells = false) (hb : b ≠ l) : KpP n₀ m b R W (W.putObj l o') := by
  refine ⟨by simp, fun k c t fr hk _ _ => World.putObj_heap_other (fun e => ?_), fun k hk => ?_⟩
  · subst e
    rw [hl] at hk
    cases hk
    cases ho
  · rw [World.putObj_heap_other hb] at hk
    exact .inl hk

theorem cell_cells {W : World} {b j : Nat} {v : Value} (h : W.cell? ⟨b, j, none⟩ = some v) : ∃ c t fr, W.heap[b]? = some (.cells c t fr) := by
  unfold World.cell? at h
  simp only at h
  split at h
  · rename_i c t fr e
    exact ⟨c, t, fr, e⟩
  · cases h
theorem Rngs.cells {w : World} {a : Option Addr} {len : Nat} {l : List Rng} (h : Rngs w a len l) (h0 : 0 < len) {b o : Nat} (ha : a = some ⟨b, o, none⟩) : b < w.heap.size ∧ ∃ c t fr, w.heap[b]? = some (.cells c t fr) := by
  obtain ⟨b', o', x, e, hbl, _, _, hc⟩ := h.range h0
  rw [ha] at e
  cases e
  exact ⟨hbl, cell_cells (hc w (Below.refl _ _)).1⟩
theorem takeF {N k : Nat} (h : k < N) : (List.finRange N).take (k + 1) = (List.finRange N).take k ++ [⟨k, h⟩] := by
  rw [List.take_succ_eq_append_getElem (by simpa using h)]
  simp

set_option maxHeartbeats 1000000 in
theorem parts_in (F : Fence) (n : Nat) (h30 : F.fn 30) (hro : F.round = none) (a : Option Addr) (l c : Nat) (w : World) :
    CallsIn F n Try.prog 30 #[.slice a l c] w fun e w' => e = .returned (.func (.func 38) #[] #[.pointer (some ⟨w.heap.size, 0, none⟩)]) ∧ w' = w.alloc (.cells #[.slice a l c] 22) := by
  refine callsIn_of_wp Try.func30 rfl h30 ?_ hro
  simp only [Try.ntmps30, List.size_toArray, List.length_cons, List.length_nil, Nat.reduceAdd, Nat.reduceSub, Array.replicate_succ, Array.replicate_zero, List.push_toArray, List.append_toArray, List.nil_append, List.cons_append]
  gi_wp2
  go_ret
  exact ⟨rfl, rfl⟩

set_option maxRecDepth 100000 in
set_option maxHeartbeats 2000000 in
theorem parts1_in (F : Fence) (n : Nat) (h38 : F.fn 38) (hro : F.round = none) (hn : 1 ≤ n) (li m n₀ b : Nat) (R : Option Obj → Nat → Prop) (a : Option Addr) (len cap : Nat) (l : List Rng) (hr : right l = true) (hlen : len ≤ 4)
    (J Jx : List (Fin len) → World → Prop) (W : World) (hJ : AbidesFrom W.heap.size J)
    (hY : ∀ pre i W1, J pre W1 → pre.length < len → YieldAt F (n - 1) Try.prog li (stepP l i) W1 fun e W' =>
      (e = .returned (.bool true) ∧ J (pre ++ [i]) W' ∧ KpP n₀ m b R W1 W') ∨ (e = .returned (.bool false) ∧ Jx (pre ++ [i]) W'))
    (hm : W.heap[m]? = some (.cells #[.slice a len cap] 22 (0, 0))) (hbm : b < m) (hnm : n₀ ≤ m) (hR0 : ∀ k, R W.heap[b]? k → m < k ∧ k < W.heap.size) (hrow : Rngs W a len l) (hcells : 0 < len → ∀ p o, a = some ⟨p, o, none⟩ → p < n₀) (h0 : J [] W) :
    CallsIn F n Try.prog 38 #[.func (.yield li) #[] #[], .pointer (some ⟨m, 0, none⟩)] W fun e W' => (∃ v, e = .returned v) ∧
      ((∃ ys, ys = List.finRange len ∧ J ys W') ∨ (∃ pre, pre <+: List.finRange len ∧ Jx pre W')) := by
  refine callsIn_of_wp Try.func38 rfl h38 ?_ hro
  simp only [Try.ntmps38, List.size_toArray, List.length_cons, List.length_nil, Nat.reduceAdd, Nat.reduceSub, Array.replicate_succ, Array.replicate_zero, List.push_toArray, List.append_toArray, List.nil_append, List.cons_append]
  have hm0 : W.cell? ⟨m, 0, none⟩ = some (.slice a len cap) := cell_of_row W m 0 _ _ _ hm
  have hm1 : m < W.heap.size := (Array.getElem?_eq_some_iff.1 hm).1
  have HJ : Hid (AbidesFrom W.heap.size J) := hJ
  have HY : Hid (∀ pre i W1, J pre W1 → pre.length < len → YieldAt F (n - 1) Try.prog li (stepP l i) W1 fun e W' =>
      (e = .returned (.bool true) ∧ J (pre ++ [i]) W' ∧ KpP n₀ m b R W1 W') ∨ (e = .returned (.bool false) ∧ Jx (pre ++ [i]) W')) := hY
  have HC : Hid (0 < len → ∀ p o, a = some ⟨p, o, none⟩ → p < n₀ ∧ ∃ c t fr, W.heap[p]? = some (.cells c t fr)) := fun h p o e => ⟨hcells h p o e, (hrow.cells h e).2⟩
  clear hJ hY hcells
  gi_wp2
  gi_loopw [3, 8] (fun u q wr => ∃ k : Nat, k ≤ len ∧ u = .int .i64 (shiftL (l.take k)) ∧ q = .int .i64 (k : Int) ∧ J ((List.finRange len).take k) wr ∧ (∀ i, R wr.heap[b]? i → m < i ∧ i < wr.heap.size) ∧ W.heap.size ≤ wr.heap.size ∧ (0 < len → ∀ p o, a = some ⟨p, o, none⟩ → wr.heap[p]? = W.heap[p]?))
    (fun _ q _ => len - (intOf q).toNat)
  case atStart => exact ⟨0, by omega, rfl, rfl, h0, hR0, Nat.le_refl _, fun _ _ _ _ => rfl⟩
  case round =>
    obtain ⟨k, hk, rfl, rfl, hJs, hRi, hsz, hrw⟩ := hrel
    by_cases hlt : k < len
    · have hrow' := hrow.same hrw
      obtain ⟨p, o, x, rfl, hbl, hx, _, hc⟩ := hrow'.range hlt
      obtain ⟨p0, p1, p2⟩ := hc wr (Below.refl _ _)
      obtain ⟨hp1, c0, t0, fr0, hp2⟩ := HC.out (by omega) p o rfl
      have hb1 := shift_take hr k
      have hss := shift_succ hx
      have hx' := rightL_all (right_len hr).2 x (List.mem_of_getElem? hx)
      have hJ1 : J ((List.finRange len).take k) (wr.alloc (.cells #[.int .i64 x.a, .int .i64 x.o, .int .i64 x.n] 60)) := HJ.out _ _ _ none hJs (World.grownBy_alloc wr _ none) (fun r e => by cases e)
      obtain ⟨fn, tmps, assign, body, hy, hY1⟩ := HY.out _ ⟨k, hlt⟩ _ hJ1 (by simp; omega)
      unfold stepP at hy
      simp only [nth_some hx] at hy
      have HX : Hid (shiftL (l.take (k + 1)) = shiftL (l.take k) + x.n - x.o) := hss
      obtain ⟨xa, xo, xn⟩ := x
      simp only [partV] at *
      generalize shiftL (l.take k) = d at *
      have HK : Hid (∀ W3, KpP n₀ m b R (wr.alloc (.cells #[.int .i64 xa, .int .i64 xo, .int .i64 xn] 60)) W3 → W3.heap[wr.heap.size]? = some (.cells #[.int .i64 xa, .int .i64 xo, .int .i64 xn] 60 (0, 0)) ∧ (∀ i, R W3.heap[b]? i → m < i ∧ i < W3.heap.size) ∧ W.heap.size ≤ W3.heap.size ∧ (0 < len → ∀ p' o', (some ⟨p, o, none⟩ : Option Addr) = some ⟨p', o', none⟩ → W3.heap[p']? = W.heap[p']?)) := by
        rintro W3 ⟨q1, q2, q3⟩
        have hnew := World.alloc_heap_new wr (.cells #[.int .i64 xa, .int .i64 xo, .int .i64 xn] 60)
        have hbb : (wr.alloc (.cells #[.int .i64 xa, .int .i64 xo, .int .i64 xn] 60)).heap[b]? = wr.heap[b]? := Below.heap_alloc _ _ _ (by omega)
        rw [hbb] at q2 q3
        simp only [World.size_alloc] at q1 q3
        refine ⟨(q2 _ _ _ _ hnew (by omega) (fun h => ?_)).trans hnew, fun i hi => ?_, by omega, fun _ p' o' e => ?_⟩
        · have := (hRi _ h).2
          omega
        · rcases q3 i hi with h1 | h1
          · have := hRi i h1
            omega
          · omega
        · cases e
          have h1 : (wr.alloc (.cells #[.int .i64 xa, .int .i64 xo, .int .i64 xn] 60)).heap[p]? = some (.cells c0 t0 fr0) := by
            rw [Below.heap_alloc _ _ _ hbl, hrw (by omega) p o rfl]
            exact hp2
          rw [q2 p _ _ _ h1 (.inl hp1) (fun h => by have := (hRi p h).1; omega), h1, hp2]
      clear hx hss hc hrow hrow' hRi hrw hJs hJ1
      gi_wp2
      refine hY1.mono ?_
      rintro e W3 (⟨rfl, hJ3, hk3⟩ | ⟨rfl, hJx3⟩)
      · obtain ⟨b3, hR3, hs3, hw3⟩ := HK.out W3 hk3
        have e0 := cell_of_row W3 wr.heap.size 0 _ _ _ b3
        have e1 := cell_of_row W3 wr.heap.size 1 _ _ _ b3
        have e2 := cell_of_row W3 wr.heap.size 2 _ _ _ b3
        simp only [List.getElem?_toArray, List.getElem?_cons_zero, List.getElem?_cons_succ] at e0 e1 e2
        have HR3 : Hid (∀ i, R W3.heap[b]? i → m < i ∧ i < W3.heap.size) := hR3
        have HW3 : Hid (0 < len → ∀ p' o', (some ⟨p, o, none⟩ : Option Addr) = some ⟨p', o', none⟩ → W3.heap[p']? = W.heap[p']?) := hw3
        clear hR3 hw3 b3 hk3
        gi_wp2
        go_roundw
        case rel => exact ⟨k + 1, by omega, by rw [HX.out]; go_num, by go_num, by rw [takeF hlt]; exact hJ3, HR3.out, hs3, HW3.out⟩
        case measure => simp [intOf]; omega
      · gi_wp2
        refine bodyPost_ret (results_none rfl _ _ _) rfl ?_
        exact ⟨⟨_, rfl⟩, .inr ⟨_, by rw [← takeF hlt]; exact List.take_prefix _ _, hJx3⟩⟩
    · obtain rfl : k = len := by omega
      clear hRi hrw hrow
      gi_wp2
      go_end0
      rw [List.take_of_length_le (by simp)] at hJs
      exact ⟨⟨_, rfl⟩, Or.inl ⟨_, rfl, hJs⟩⟩
end Go.Proofs.Ytiadcpbaopafgaa
