/-
  PROVED HERE: reg's fork at every plan: what it returns and leaves; nothing else is turned.
-/
import Derived.Test.YtajabenlkmgjeaaDoorAdd
namespace Go.Proofs.YtajabenlkmgjeaaDoor
open Go.RowKit

theorem PlanAt.cells {A : Nat → Prop} {w : World} {B : Nat} {gv v : Value} {rs : List RawP} {L : List Place} (h : PlanAt A w B gv v rs L) (h0 : 0 < L.length) : ∃ g cap, v = .slice (some ⟨g, 0, none⟩) L.length cap ∧ ∀ (i : Nat) (x : Place), L[i]? = some x →
    w.cell? ⟨g, i * 3, none⟩ = some (.int .u16 (x.1 : Int)) ∧ w.cell? ⟨g, i * 3 + 2, none⟩ = some (.int .i64 (x.2.2 : Int)) ∧ ∃ hv, w.cell? ⟨g, i * 3 + 1, none⟩ = some hv ∧ w.ownsRow 0 3 1 hv x.2.1.length (numsV x.2.1) := by
  obtain ⟨g, cap, e, hc⟩ := owns_cell h.row h0
  refine ⟨g, cap, e, fun i x hx => ?_⟩
  obtain ⟨r, h1, h2, h3, h4, _⟩ := h.each i x hx
  obtain ⟨f0, f1, f2⟩ := rowP_at rs i r h1
  rw [h2] at f0
  rw [h3] at f2
  exact ⟨hc _ _ f0, hc _ _ f2, r.2.1, hc _ _ f1, h4⟩
theorem Fr.drewN0 (A : Nat → Prop) (w : World) (q : Nat) : Fr A w A (w.drewN q) := ⟨⟨rfl, rfl, rfl, Nat.le_refl _, fun _ _ => rfl⟩, fun _ _ _ => rfl, fun _ h => .inl h⟩
theorem leastAt_get {L : List Place} {p : Nat} (h : p < L.length) : ∃ x, L[p]? = some x ∧ x.2.2 = leastAt L p := ⟨L[p], List.getElem?_eq_getElem h, by rw [leastAt_some (List.getElem?_eq_getElem h)]⟩
theorem fold_take (f : Nat → Nat → Nat) (m : Nat) {l : List Nat} {j q : Nat} (h : l[j]? = some q) : (l.take (j + 1)).foldl f m = f ((l.take j).foldl f m) q := by
  rw [List.take_add_one, h, List.foldl_append]
  rfl
set_option maxRecDepth 100000 in
set_option maxHeartbeats 400000 in
theorem fork_calls (A : Nat → Prop) (B : Nat) (gv : Value) (L : List Place) (w : World) (ways : List Nat) (wa : Option Addr) (wn wc : Nat) (h : PlanIn A w B gv L) (hh : w.ownsRow 0 3 1 (.slice wa wn wc) ways.length (numsV ways)) (hf : ∀ g, (Value.slice wa wn wc).ownBlock = some g → ¬ A g) (hlen : L.length ≤ 2000000000)
    (hw0 : ways ≠ []) (hw : ∀ q ∈ ways, q < L.length) (hwl : ways.length ≤ 2000000000) (hll : ∀ p, leastAt L p ≤ 2000000000) :
    Calls Tryd.prog 60 #[.pointer (some ⟨B, 0, none⟩), .slice wa wn wc] w fun e w' => e = .returned (.int .i64 ((forkL L ways).2 : Int)) ∧ ∃ A', PlanIn A' w' B gv (forkL L ways).1 ∧ Fr (fun k => A k ∨ (Value.slice wa wn wc).ownBlock = some k) w A' w' := by
  have HA : Hid (∀ (q l : Nat), Calls Tryd.prog 58 #[.pointer (some ⟨B, 0, none⟩), .agg #[.int .u16 0, .slice wa wn wc, .int .i64 (l : Int)]] (w.drewN q) fun e w' => e = .returned (.int .i64 (L.length : Int)) ∧ ∃ A', PlanIn A' w' B gv (L ++ [(0, ways, l)]) ∧ Fr (fun k => A k ∨ (Value.slice wa wn wc).ownBlock = some k) (w.drewN q) A' w') :=
    fun q l => add_calls A B gv L (w.drewN q) 0 l ways wa wn wc (h.kept (fun _ h => h) fun _ _ _ => rfl) (owns_same hh fun _ _ => rfl) hf hlen
  obtain ⟨v, rs, hP⟩ := h
  obtain ⟨p0, p1, pf⟩ := cells_plan hP.plan
  have hw1 : 0 < ways.length := List.length_pos_iff.2 hw0
  obtain ⟨q0, hq0⟩ : ∃ q, ways[0]? = some q := ⟨_, List.getElem?_eq_getElem hw1⟩
  have hL0 : 0 < L.length := by have := hw q0 (List.mem_of_getElem? hq0); omega
  obtain ⟨g, cap, rfl, hc⟩ := hP.cells hL0
  obtain ⟨wg, wcap, e, hwc⟩ := owns_cell hh hw1
  cases e
  have hhead : ways.headD 0 = q0 := by cases ways with | nil => cases hq0 | cons a r => simp at hq0; exact hq0
  have HG : Hid (∀ q, q < L.length → w.cell? ⟨g, q * 3 + 2, none⟩ = some (.int .i64 (leastAt L q : Int))) := fun q hq => by
    obtain ⟨x, hx, e⟩ := leastAt_get hq
    rw [← e]
    exact (hc q x hx).2.1
  have hq0L := hw q0 (List.mem_of_getElem? hq0)
  have c2 := HG.out q0 hq0L
  have c3 : w.cell? ⟨wg, 0, none⟩ = some (.int .i64 (q0 : Int)) := hwc 0 _ (numsV_at hq0)
  have HWC : Hid (∀ (j q : Nat), ways[j]? = some q → w.cell? ⟨wg, j, none⟩ = some (.int .i64 (q : Int)) ∧ q < L.length) := fun j q hq => ⟨hwc j _ (numsV_at hq), hw q (List.mem_of_getElem? hq)⟩
  have HFL : Hid (forkL L ways = (L ++ [(0, ways, ways.foldl (fun m q => min m (leastAt L q)) (leastAt L q0))], L.length)) := by
    show _ = _
    unfold forkL forkLeast
    rw [hhead]
  have hb0 := hll q0
  have HLL : Hid (∀ p, leastAt L p ≤ 2000000000) := hll
  have HFo : Hid (∀ j, (ways.take j).foldl (fun m q => min m (leastAt L q)) (leastAt L q0) ≤ leastAt L q0) := fun j => (foldl_min_le L (ways.take j) (leastAt L q0)).1
  obtain ⟨m0, hm0⟩ : ∃ m0, leastAt L q0 = m0 := ⟨_, rfl⟩
  rw [hm0] at c2 HFL HFo hb0
  obtain ⟨Z, hZ⟩ : ∃ Z, ways.foldl (fun m q => min m (leastAt L q)) m0 = Z := ⟨_, rfl⟩
  rw [HFL.out, hZ]
  have HZ : Hid (ways.foldl (fun m q => min m (leastAt L q)) m0 = Z) := hZ
  clear hZ HFL
  have HNt : Hid (ways.take ways.length = ways) := by show _ = _; rw [List.take_of_length_le (Nat.le_refl _)]
  have HNl : Hid (∀ j, j < ways.length → ∃ q, ways[j]? = some q) := fun j hj => ⟨_, List.getElem?_eq_getElem hj⟩
  generalize ways.length = N at *
  have hq0i : (q0 : Int) < (L.length : Int) := by omega
  have hN0 : (0 : Int) < (N : Int) := by omega
  have hq0n : (0 : Int) ≤ (q0 : Int) := by omega
  clear hP hc hwc hw hh hhead hq0 hf hm0 hll
  go_enter Tryd.func60, Tryd.ntmps60
  go_wp2_with fail
  go_quiet (fail)
  go_wp2_with fail
  go_loop [5, 20] (fun m i => ∃ j : Nat, j ≤ N ∧ i = .int .i64 (j : Int) ∧ m = .int .i64 (((ways.take j).foldl (fun m q => min m (leastAt L q)) m0 : Nat) : Int)) (fun _ i => N - (intOf i).toNat)
  case atStart => exact ⟨0, by omega, rfl, rfl⟩
  case round =>
    obtain ⟨j, hj, rfl, rfl⟩ := hrel
    have hfo := HFo.out j
    by_cases hlt : j < N
    · obtain ⟨q, hq⟩ := HNl.out j hlt
      obtain ⟨d1, hqL⟩ := HWC.out j q hq
      have d2 := HG.out q hqL
      have hst := fold_take (fun m q => min m (leastAt L q)) m0 hq
      have hbq := HLL.out q
      have HS : Hid ((ways.take (j + 1)).foldl (fun m q => min m (leastAt L q)) m0 = min ((ways.take j).foldl (fun m q => min m (leastAt L q)) m0) (leastAt L q)) := hst
      have hqi : (q : Int) < (L.length : Int) := by omega
      have hji : (j : Int) < (N : Int) := by omega
      clear hst hq
      generalize (ways.take j).foldl (fun m q => min m (leastAt L q)) m0 = z at *
      generalize leastAt L q = y at *
      go_wp2
      all_goals
        go_round
        case rel => exact ⟨j + 1, by omega, rfl, by rw [HS.out]; congr 1; first | omega | (split <;> omega)⟩
        case measure => simp [intOf]; omega
    · obtain rfl : j = N := by omega
      rw [HNt.out, HZ.out]
      go_wp2_with fail
      refine (HA.out _ Z).mono ?_
      rintro e W ⟨rfl, A', hP', hF'⟩
      go_wp2
      go_ret
      exact ⟨rfl, A', hP', (Fr.drewN0 _ _ _).trans hF'⟩
end Go.Proofs.YtajabenlkmgjeaaDoor
