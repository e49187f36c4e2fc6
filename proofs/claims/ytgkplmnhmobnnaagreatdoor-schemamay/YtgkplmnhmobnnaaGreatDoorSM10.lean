/-
  PROVED HERE: what the texts Args, Fork, Next say (each has its own words below).
-/
import Derived.Test.YtgkplmnhmobnnaaGreatDoorSM7
import Derived.Test.YtgkplmnhmobnnaaGreatDoorRows
import Derived.WalkKit
import Derived.ProofKit
import Derived.OpenShut
import Derived.Deep.Slices
import Derived.Deep.DeepHandedRow
import Derived.ChangeSlices
import Derived.ChangeSame
import Derived.ChangeArms
import Derived.ChangeMaps5
import Derived.DataShut
import Derived.SizedLaws
import Derived.Test.YtgkplmnhmobnnaaGreatDoorSM9
/- Args: how slices of integers, groups and trees that came in are read. -/
namespace Go.Proofs.YtgkplmnhmobnnaaGreatDoor
open Go.ChangeShapes Go.WideShapes Go.ChangeAt Go.RowKit

theorem add_none (b o i : Nat) : (⟨b, o, none⟩ : Addr).add i = ⟨b, o + i, none⟩ := by unfold Addr.add; split <;> simp_all
theorem open_intsF {H : Type} {enc : TypeId × Value → H} {W : World} {sp : Nat → Bool} {hd : Bool} {fuel : Nat} {cs : List Value} {x : DataW H × List MemPlace} (h : DataW.trod enc Tryz.prog W 0 sp hd fuel 57 cs = some x) : ∃ a len cap zs, cs = [.slice a len cap] ∧ Ints W a len zs := by
  rcases open_ints Tryz.underlying57 Tryz.underlying3 (by kernel_rfl) h with ⟨hcs, hx⟩ | ⟨y, l, c, zs, hcs, _, hl, hm, hz, hx, hcell, hwz⟩
  · exact ⟨none, 0, 0, [], hcs, rfl, by omega, .inl rfl⟩
  · have hlz : l ≤ zs.length := by rw [hz]; split <;> omega
    refine ⟨some y, l, c, zs.take l, hcs, by rw [List.length_take]; omega, by unfold maxLen at hm; omega, ?_⟩
    rcases Nat.eq_zero_or_pos l with h0 | h0
    · exact .inl h0
    · obtain ⟨b, o, sp⟩ := y
      have hc0 := hcell 0 (by omega)
      have hspot : sp = none := by simpa [Addr.add] using World.cell?_spot hc0
      subst hspot
      refine .inr ⟨b, o, rfl, ?_, fun i z hz => ?_⟩
      · rw [add_none] at hc0
        rcases Nat.lt_or_ge b W.heap.size with hlt | hge
        · exact hlt
        · simp [World.cell?, Array.getElem?_eq_none hge] at hc0
      · have hi : i < l := by
          have := (List.getElem?_eq_some_iff.1 hz).1
          rw [List.length_take] at this
          omega
        have := hcell i (by omega)
        rw [add_none] at this
        rw [this]
        rw [List.getElem?_take, if_pos hi] at hz
        simp [List.getD_eq_getElem?_getD, hz]
theorem open_row {H : Type} {enc : TypeId × Value → H} {W : World} {a : Option Addr} {len cap : Nat} {d : DataW H} {p : List MemPlace} (h : DataW.Trod enc Tryz.prog W 0 (fun _ => true) true 57 (.slice a len cap) d p) : ∃ zs : List Int, Ints W a len zs := by
  obtain ⟨fuel, hf⟩ := h
  obtain ⟨a', len', cap', zs, hcs, hI⟩ := open_intsF hf
  simp [Value.cells] at hcs
  obtain ⟨rfl, rfl, rfl⟩ := hcs
  exact ⟨zs, hI⟩
set_option maxRecDepth 100000 in
theorem open_groups {H : Type} {enc : TypeId × Value → H} {W : World} {a : Option Addr} {len cap : Nat} {d : DataW H} {p : List MemPlace} (h : DataW.Trod enc Tryz.prog W 0 (fun _ => true) true 39 (.slice a len cap) d p) : ∃ gs : List Grp, Groups W a len gs := by
  have c9 : Tryz.prog.cellsOf 9 = 1 := by kernel_rfl
  have c26 : Tryz.prog.cellsOf 57 = 1 := by kernel_rfl
  have c37 : Tryz.prog.cellsOf 59 = 2 := by kernel_rfl
  obtain ⟨fuel, hf⟩ := h
  rcases DataW.trod_slice Tryz.underlying39 hf with ⟨e2, d2⟩ | ⟨y, l, c, elems, rest, n', hn, e2, d2, _, hlc, hcm, hel, hes, _, _⟩
  · simp [Value.cells] at e2
    obtain ⟨rfl, rfl, rfl⟩ := e2
    exact ⟨[], rfl, by omega, .inl rfl⟩
  · simp [Value.cells] at e2
    obtain ⟨rfl, rfl, rfl⟩ := e2
    have each : ∀ i, i < len → ∃ (g : Grp) (a' : Option Addr) (len' cap' : Nat), W.cell? (y.add (i * 2)) = some (.string g.1) ∧ W.cell? ((y.add (i * 2)).add 1) = some (.slice a' len' cap') ∧ Ints W a' len' g.2 := by
      intro i hi
      have hq := hes i hi
      rw [List.getElem?_eq_getElem (by omega), c37] at hq
      obtain ⟨cs', q1, q2⟩ := Option.bind_eq_some_iff.1 hq
      obtain ⟨_, _, hcell⟩ := World.cells?_some q1
      obtain ⟨xs, m, _, hxy, hlen, hxl, hfi⟩ := DataW.trod_struct Tryz.underlying59 q2
      rw [c37] at hlen
      match xs, hxl, cs', hlen with
      | [y0, y1], _, [v0, v1], _ =>
        have g0 := hfi 0 _ rfl
        have g1 := hfi 1 _ rfl
        simp [c9, c26] at g0 g1
        obtain ⟨s, e0, _, _⟩ := DataW.trod_string Tryz.underlying9 g0
        obtain ⟨a', len', cap', zs, e1, hI⟩ := open_intsF g1
        simp at e0 e1
        subst e0 e1
        have m0 := hcell 0 (by omega)
        rw [show (y.add (i * 2)).add 0 = y.add (i * 2) from by obtain ⟨b, o, sp⟩ := y; cases sp <;> simp [Addr.add]] at m0
        exact ⟨(s, zs), a', len', cap', m0, hcell 1 (by omega), hI⟩
    haveI : Inhabited Grp := ⟨(⟨#[]⟩, [])⟩
    obtain ⟨Y, hY⟩ := Deep.choose_lt each
    refine ⟨(List.range len).map Y, by simp, by unfold maxLen at hcm; omega, ?_⟩
    rcases Nat.eq_zero_or_pos len with h0 | h0
    · exact .inl h0
    · obtain ⟨b, o, sp⟩ := y
      obtain rfl : sp = none := by
        obtain ⟨_, _, _, q, _⟩ := hY 0 h0
        have := World.cell?_spot q
        simpa [Addr.add] using this
      refine .inr ⟨b, o, rfl, ?_, fun i g hg => ?_⟩
      · obtain ⟨_, _, _, q, _⟩ := hY 0 h0
        rw [add_none] at q
        rcases Nat.lt_or_ge b W.heap.size with hlt | hge
        · exact hlt
        · simp [World.cell?, Array.getElem?_eq_none hge] at q
      · have hi : i < len := by
          have := (List.getElem?_eq_some_iff.1 hg).1
          simpa using this
        obtain rfl : Y i = g := by simpa [List.getElem?_map, List.getElem?_range hi] using hg
        obtain ⟨a', len', cap', q0, q1, q2⟩ := hY i hi
        simp only [add_none] at q0 q1
        exact ⟨a', len', cap', q0, q1, q2⟩
theorem Ex.more {w : World} : ∀ (n m : Nat) (t : DataW Unit) (v : Value), n ≤ m → Ex w n t v → Ex w m t v := by
  intro n
  induction n with
  | zero => intro m t v _ h; exact h.elim
  | succ n ih =>
    intro m t v hm h
    obtain ⟨m, rfl⟩ : ∃ m', m = m' + 1 := ⟨m - 1, by omega⟩
    obtain ⟨k, s, a, len, cap, ts, h1, h2, h3, h4, h5⟩ := h
    refine ⟨k, s, a, len, cap, ts, h1, h2, h3, h4, ?_⟩
    rcases h5 with h5 | ⟨b, o, e, hlt, hc⟩
    · exact .inl h5
    · refine .inr ⟨b, o, e, hlt, fun i x hx => ?_⟩
      obtain ⟨k', s', a', len', cap', c0, c1, c2, c3⟩ := hc i x hx
      exact ⟨k', s', a', len', cap', c0, c1, c2, ih m x _ (by omega) c3⟩
/-- Trees whose names are not too long, whatever the fuel. -/
theorem named_more {w : World} : ∀ (n m : Nat) (t : DataW Unit) (v : Value), n ≤ m → Ex w n t v → named n t → named m t := by
  intro n
  induction n with
  | zero => intro m t v _ h; exact h.elim
  | succ n ih =>
    intro m t v hm h hN
    obtain ⟨m, rfl⟩ : ∃ m', m = m' + 1 := ⟨m - 1, by omega⟩
    obtain ⟨k, s, a, len, cap, ts, rfl, h2, h3, h4, h5⟩ := h
    refine ⟨hN.1, fun x hx => ?_⟩
    rw [subs_node] at hx
    obtain ⟨i, hi, rfl⟩ := List.getElem_of_mem hx
    have hxi : ts[i]? = some ts[i] := List.getElem?_eq_getElem hi
    rcases h5 with h5 | ⟨b, o, e, hlt, hc⟩
    · omega
    · obtain ⟨k', s', a', len', cap', c0, c1, c2, c3⟩ := hc i _ hxi
      exact ih m _ _ (by omega) c3 (hN.2 _ (by rw [subs_node]; exact hx))
set_option maxRecDepth 100000 in
/-- A tree that came in. -/
theorem open_exprF {H : Type} {enc : TypeId × Value → H} {W : World} {sp : Nat → Bool} {hd : Bool} : ∀ (fuel : Nat) (cs : List Value) (x : DataW H × List MemPlace), DataW.trod enc Tryz.prog W 0 sp hd fuel 64 cs = some x →
      ∃ (t : DataW Unit) (k : Int) (s : ByteArray) (a : Option Addr) (len cap : Nat), cs = [.int .i64 k, .string s, .slice a len cap] ∧ Ex W fuel t (.agg #[.int .i64 k, .string s, .slice a len cap]) ∧ named fuel t := by
  have c3 : Tryz.prog.cellsOf 3 = 1 := by kernel_rfl
  have c9 : Tryz.prog.cellsOf 9 = 1 := by kernel_rfl
  have c22 : Tryz.prog.cellsOf 62 = 1 := by kernel_rfl
  have c24 : Tryz.prog.cellsOf 64 = 3 := by kernel_rfl
  intro fuel
  induction fuel using Nat.strongRecOn with
  | _ fuel ih =>
    intro cs x h
    obtain ⟨xs, n, rfl, hxy, hlen, hxl, hf⟩ := DataW.trod_struct Tryz.underlying64 h
    rw [c24] at hlen
    match xs, hxl, cs, hlen with
    | [y0, y1, y2], _, [v0, v1, v2], _ =>
      have g0 := hf 0 _ rfl
      have g1 := hf 1 _ rfl
      have g2 := hf 2 _ rfl
      simp [c3, c9, c22] at g0 g1 g2
      obtain ⟨k, e0, d0, _⟩ := DataW.trod_int Tryz.underlying3 g0
      obtain ⟨s, e1, d1, hsz⟩ := DataW.trod_string Tryz.underlying9 g1
      simp at e0 e1
      subst e0 e1 d0 d1
      rcases DataW.trod_slice Tryz.underlying62 g2 with ⟨e2, d2⟩ | ⟨a, len, cap, elems, rest, n', hn, e2, d2, _, hlc, hcm, hel, hes, _, _⟩
      · simp at e2
        subst e2 d2
        refine ⟨node k s [], k, s, none, 0, 0, rfl, ⟨k, s, none, 0, 0, [], rfl, rfl, rfl, by omega, .inl rfl⟩, ?_, fun x hx => by cases hx⟩
        rw [nameT_node]
        unfold maxLen at hsz
        omega
      · simp at e2
        subst e2 d2
        have each : ∀ i, i < len → ∃ (t : DataW Unit) (k' : Int) (s' : ByteArray) (a' : Option Addr) (len' cap' : Nat), W.cell? (a.add (i * 3)) = some (.int .i64 k') ∧ W.cell? ((a.add (i * 3)).add 1) = some (.string s') ∧ W.cell? ((a.add (i * 3)).add 2) = some (.slice a' len' cap') ∧ Ex W n t (.agg #[.int .i64 k', .string s', .slice a' len' cap']) ∧ named n t := by
          intro i hi
          have hq := hes i hi
          rw [List.getElem?_eq_getElem (by omega), c24] at hq
          obtain ⟨cs', q1, q2⟩ := Option.bind_eq_some_iff.1 hq
          obtain ⟨_, _, hcell⟩ := World.cells?_some q1
          obtain ⟨t, k', s', a', len', cap', rfl, hE, hN⟩ := ih n' (by omega) cs' _ q2
          have m0 := hcell 0 (by omega)
          rw [show (a.add (i * 3)).add 0 = a.add (i * 3) from by obtain ⟨b, o, sp⟩ := a; cases sp <;> simp [Addr.add]] at m0
          exact ⟨t, k', s', a', len', cap', m0, hcell 1 (by omega), hcell 2 (by omega), Ex.more _ _ _ _ (by omega) hE, named_more _ _ _ _ (by omega) hE hN⟩
        haveI : Inhabited (DataW Unit) := ⟨.nil⟩
        obtain ⟨Y, hY⟩ := Deep.choose_lt each
        refine ⟨node k s ((List.range len).map Y), k, s, some a, len, cap, rfl, ⟨k, s, some a, len, cap, (List.range len).map Y, rfl, rfl, by simp, by unfold maxLen at hcm; omega, ?_⟩, ?_, fun x hx => ?_⟩
        · rcases Nat.eq_zero_or_pos len with h0 | h0
          · exact .inl h0
          · obtain ⟨b, o, sp⟩ := a
            obtain rfl : sp = none := by
              obtain ⟨_, _, _, _, _, q, _⟩ := hY 0 h0
              have := World.cell?_spot q
              simpa [Addr.add] using this
            refine .inr ⟨b, o, rfl, ?_, fun i y hy => ?_⟩
            · obtain ⟨_, _, _, _, _, q, _⟩ := hY 0 h0
              rw [add_none] at q
              rcases Nat.lt_or_ge b W.heap.size with hlt | hge
              · exact hlt
              · simp [World.cell?, Array.getElem?_eq_none hge] at q
            · have hi : i < len := by
                have := (List.getElem?_eq_some_iff.1 hy).1
                simpa using this
              obtain rfl : Y i = y := by simpa [List.getElem?_map, List.getElem?_range hi] using hy
              obtain ⟨k', s', a', len', cap', q0, q1, q2, q3, _⟩ := hY i hi
              simp only [add_none] at q0 q1 q2
              exact ⟨k', s', a', len', cap', q0, q1, q2, q3⟩
        · rw [nameT_node]
          unfold maxLen at hsz
          omega
        · rw [subs_node] at hx
          obtain ⟨i, hi, rfl⟩ := List.mem_map.1 hx
          obtain ⟨_, _, _, _, _, _, _, _, _, hN⟩ := hY i (List.mem_range.1 hi)
          exact hN
set_option maxRecDepth 100000 in
theorem open_tree {H : Type} {enc : TypeId × Value → H} {W : World} {base : Nat} {v : Value} {d : DataW H} {p : List MemPlace} (hv : Value.okWide Tryz.prog W .any base 64 v) (h : DataW.Trod enc Tryz.prog W 0 (fun _ => true) true 64 v d p) :
    ∃ n t k nm a ln cp, v = .agg #[.int .i64 k, .string nm, .slice a ln cp] ∧ Ex W n t (.agg #[.int .i64 k, .string nm, .slice a ln cp]) ∧ named n t := by
  obtain ⟨cs, rfl, _⟩ := okWide_struct Tryz.underlying64 hv
  obtain ⟨fuel, hf⟩ := h
  obtain ⟨t, k, nm, a, ln, cp, hcs, hX, hN⟩ := open_exprF fuel _ (d, p) hf
  refine ⟨fuel, t, k, nm, a, ln, cp, ?_, hX, hN⟩
  rw [show cs = cs.toList.toArray from by simp, show cs.toList = _ from hcs]
theorem own : ownKnob Tryz.prog.godebug = none := by kernel_rfl
theorem laidOut : laidOutB Tryz.prog = true := by kernel_rfl
end Go.Proofs.YtgkplmnhmobnnaaGreatDoor

/- Fork: reg's fork at every plan: what it returns and leaves; nothing else is turned. -/
namespace Go.Proofs.YtgkplmnhmobnnaaGreatDoor
open Go.RowKit

theorem PlanAt.cells {A : Nat → Prop} {w : World} {B : Nat} {gv v : Value} {rs : List RawP} {L : List Place} (h : PlanAt A w B gv v rs L) (h0 : 0 < L.length) : ∃ g cap, v = .slice (some ⟨g, 0, none⟩) L.length cap ∧ ∀ (i : Nat) (x : Place), L[i]? = some x →
    w.cell? ⟨g, i * 3, none⟩ = some (.int .u16 (x.1 : Int)) ∧ w.cell? ⟨g, i * 3 + 2, none⟩ = some (.int .i64 (x.2.2 : Int)) ∧ ∃ hv, w.cell? ⟨g, i * 3 + 1, none⟩ = some hv ∧ w.ownsRow 0 3 1 hv x.2.1.length (numsV x.2.1) := by
  obtain ⟨g, cap, e, hc⟩ := owns_cell h.row h0
  refine ⟨g, cap, e, fun i x hx => ?_⟩
  obtain ⟨r, h1, h2, h3, h4, _⟩ := h.each i x hx
  obtain ⟨f0, f1, f2⟩ := rowP_at rs i r h1
  rw [h2] at f0
  rw [h3] at f2
  exact ⟨hc _ _ f0, hc _ _ f2, r.2.1, hc _ _ f1, h4⟩
theorem Fr.drewN0 (A : Nat → Prop) (w : World) (q : Nat) : Fr A w A (w.drewN q) := ⟨⟨rfl, rfl, rfl, Nat.le_refl _, fun _ _ => rfl⟩, fun _ _ _ => rfl, fun _ h => .inl h⟩
theorem leastAt_get {L : List Place} {p : Nat} (h : p < L.length) : ∃ x, L[p]? = some x ∧ x.2.2 = leastAt L p := ⟨L[p], List.getElem?_eq_getElem h, by rw [leastAt_some (List.getElem?_eq_getElem h)]⟩
theorem fold_take (f : Nat → Nat → Nat) (m : Nat) {l : List Nat} {j q : Nat} (h : l[j]? = some q) : (l.take (j + 1)).foldl f m = f ((l.take j).foldl f m) q := by
  rw [List.take_add_one, h, List.foldl_append]
  rfl
set_option maxRecDepth 100000 in
set_option maxHeartbeats 400000 in
theorem fork_calls (A : Nat → Prop) (B : Nat) (gv : Value) (L : List Place) (w : World) (ways : List Nat) (wa : Option Addr) (wn wc : Nat) (h : PlanIn A w B gv L) (hh : w.ownsRow 0 3 1 (.slice wa wn wc) ways.length (numsV ways)) (hf : ∀ g, (Value.slice wa wn wc).ownBlock = some g → ¬ A g) (hlen : L.length ≤ 2000000000)
    (hw0 : ways ≠ []) (hw : ∀ q ∈ ways, q < L.length) (hwl : ways.length ≤ 2000000000) (hll : ∀ p, leastAt L p ≤ 2000000000) :
    Calls Tryz.prog 137 #[.pointer (some ⟨B, 0, none⟩), .slice wa wn wc] w fun e w' => e = .returned (.int .i64 ((forkL L ways).2 : Int)) ∧ ∃ A', PlanIn A' w' B gv (forkL L ways).1 ∧ Fr (fun k => A k ∨ (Value.slice wa wn wc).ownBlock = some k) w A' w' := by
  have HA : Hid (∀ (q l : Nat), Calls Tryz.prog 134 #[.pointer (some ⟨B, 0, none⟩), .agg #[.int .u16 0, .slice wa wn wc, .int .i64 (l : Int)]] (w.drewN q) fun e w' => e = .returned (.int .i64 (L.length : Int)) ∧ ∃ A', PlanIn A' w' B gv (L ++ [(0, ways, l)]) ∧ Fr (fun k => A k ∨ (Value.slice wa wn wc).ownBlock = some k) (w.drewN q) A' w') :=
    fun q l => add_calls A B gv L (w.drewN q) 0 l ways wa wn wc (h.kept (fun _ h => h) fun _ _ _ => rfl) (owns_same hh fun _ _ => rfl) hf hlen
  obtain ⟨v, rs, hP⟩ := h
  obtain ⟨p0, p1, pf⟩ := cells_plan hP.plan
  have hw1 : 0 < ways.length := List.length_pos_iff.2 hw0
  obtain ⟨q0, hq0⟩ : ∃ q, ways[0]? = some q := ⟨_, List.getElem?_eq_getElem hw1⟩
  have hL0 : 0 < L.length := by have := hw q0 (List.mem_of_getElem? hq0); omega
  obtain ⟨g, cap, rfl, hc⟩ := hP.cells hL0
  obtain ⟨wg, wcap, e, hwc⟩ := owns_cell hh hw1
  cases e
  have hhead : ways.headD 0 = q0 := by cases ways with | nil => cases hq0 | cons a r => simp at hq0; exact hq0
  have HG : Hid (∀ q, q < L.length → w.cell? ⟨g, q * 3 + 2, none⟩ = some (.int .i64 (leastAt L q : Int))) := fun q hq => by
    obtain ⟨x, hx, e⟩ := leastAt_get hq
    rw [← e]
    exact (hc q x hx).2.1
  have hq0L := hw q0 (List.mem_of_getElem? hq0)
  have c2 := HG.out q0 hq0L
  have c3 : w.cell? ⟨wg, 0, none⟩ = some (.int .i64 (q0 : Int)) := hwc 0 _ (numsV_at hq0)
  have HWC : Hid (∀ (j q : Nat), ways[j]? = some q → w.cell? ⟨wg, j, none⟩ = some (.int .i64 (q : Int)) ∧ q < L.length) := fun j q hq => ⟨hwc j _ (numsV_at hq), hw q (List.mem_of_getElem? hq)⟩
  have HFL : Hid (forkL L ways = (L ++ [(0, ways, ways.foldl (fun m q => min m (leastAt L q)) (leastAt L q0))], L.length)) := by
    show _ = _
    unfold forkL forkLeast
    rw [hhead]
  have hb0 := hll q0
  have HLL : Hid (∀ p, leastAt L p ≤ 2000000000) := hll
  have HFo : Hid (∀ j, (ways.take j).foldl (fun m q => min m (leastAt L q)) (leastAt L q0) ≤ leastAt L q0) := fun j => (foldl_min_le L (ways.take j) (leastAt L q0)).1
  obtain ⟨m0, hm0⟩ : ∃ m0, leastAt L q0 = m0 := ⟨_, rfl⟩
  rw [hm0] at c2 HFL HFo hb0
  obtain ⟨Z, hZ⟩ : ∃ Z, ways.foldl (fun m q => min m (leastAt L q)) m0 = Z := ⟨_, rfl⟩
  rw [HFL.out, hZ]
  have HZ : Hid (ways.foldl (fun m q => min m (leastAt L q)) m0 = Z) := hZ
  clear hZ HFL
  have HNt : Hid (ways.take ways.length = ways) := by show _ = _; rw [List.take_of_length_le (Nat.le_refl _)]
  have HNl : Hid (∀ j, j < ways.length → ∃ q, ways[j]? = some q) := fun j hj => ⟨_, List.getElem?_eq_getElem hj⟩
  generalize ways.length = N at *
  have hq0i : (q0 : Int) < (L.length : Int) := by omega
  have hN0 : (0 : Int) < (N : Int) := by omega
  have hq0n : (0 : Int) ≤ (q0 : Int) := by omega
  clear hP hc hwc hw hh hhead hq0 hf hm0 hll
  go_enter Tryz.func137, Tryz.ntmps137
  go_wp2_with fail
  go_quiet (fail)
  go_wp2_with fail
  go_loop [5, 20] (fun m i => ∃ j : Nat, j ≤ N ∧ i = .int .i64 (j : Int) ∧ m = .int .i64 (((ways.take j).foldl (fun m q => min m (leastAt L q)) m0 : Nat) : Int)) (fun _ i => N - (intOf i).toNat)
  case atStart => exact ⟨0, by omega, rfl, rfl⟩
  case round =>
    obtain ⟨j, hj, rfl, rfl⟩ := hrel
    have hfo := HFo.out j
    by_cases hlt : j < N
    · obtain ⟨q, hq⟩ := HNl.out j hlt
      obtain ⟨d1, hqL⟩ := HWC.out j q hq
      have d2 := HG.out q hqL
      have hst := fold_take (fun m q => min m (leastAt L q)) m0 hq
      have hbq := HLL.out q
      have HS : Hid ((ways.take (j + 1)).foldl (fun m q => min m (leastAt L q)) m0 = min ((ways.take j).foldl (fun m q => min m (leastAt L q)) m0) (leastAt L q)) := hst
      have hqi : (q : Int) < (L.length : Int) := by omega
      have hji : (j : Int) < (N : Int) := by omega
      clear hst hq
      generalize (ways.take j).foldl (fun m q => min m (leastAt L q)) m0 = z at *
      generalize leastAt L q = y at *
      go_wp2
      all_goals
        go_round
        case rel => exact ⟨j + 1, by omega, rfl, by rw [HS.out]; congr 1; first | omega | (split <;> omega)⟩
        case measure => simp [intOf]; omega
    · obtain rfl : j = N := by omega
      rw [HNt.out, HZ.out]
      go_wp2_with fail
      refine (HA.out _ Z).mono ?_
      rintro e W ⟨rfl, A', hP', hF'⟩
      go_wp2
      go_ret
      exact ⟨rfl, A', hP', (Fr.drewN0 _ _ _).trans hF'⟩
end Go.Proofs.YtgkplmnhmobnnaaGreatDoor

/- Next: places in memory: what one way more from a place makes of a plan; a row of numbers that is new. -/
namespace Go.Proofs.YtgkplmnhmobnnaaGreatDoor
open Go.RowKit

theorem PlanIn.tight {A : Nat → Prop} {w : World} {B : Nat} {gv : Value} {L : List Place} (h : PlanIn A w B gv L) : PlanIn (fun b => A b ∧ b < w.heap.size) w B gv L := by
  obtain ⟨v, rs, h⟩ := h
  refine ⟨v, rs, h.plan, ⟨h.own, (Array.getElem?_eq_some_iff.1 h.plan).1⟩, h.row, fun g hg => ⟨h.rowA g hg, (owns_lt h.row hg).1⟩, h.len, fun i x hx => ?_, h.apart⟩
  obtain ⟨r, h1, h2, h3, h4, h5⟩ := h.each i x hx
  exact ⟨r, h1, h2, h3, h4, fun g hg => ⟨h5 g hg, (owns_lt h4 hg).1⟩⟩
theorem wf.least_le {L : List Place} (h : wf L) : ∀ p, leastAt L p ≤ p := by
  intro p
  induction p using Nat.strongRecOn with
  | _ p ih =>
    cases hx : L[p]? with
    | none => unfold leastAt; rw [hx]; exact Nat.zero_le _
    | some x =>
      rw [leastAt_some hx]
      rcases Nat.eq_zero_or_pos p with rfl | hp
      · rw [h.1] at hx
        cases hx
        exact Nat.le_refl _
      · rcases h.2 p x hp hx with ⟨_, q, _, hq, e⟩ | ⟨_, _, q, _, hq, e⟩
        · have := ih q hq
          omega
        · have := ih q hq
          omega
theorem wf.least_lt {L : List Place} (h : wf L) (p : Nat) : leastAt L p ≤ L.length := by
  rcases Nat.lt_or_ge p L.length with hp | hp
  · have := h.least_le p
    omega
  · unfold leastAt
    rw [List.getElem?_eq_none hp]
    exact Nat.zero_le _
/-- A row of numbers that was just made. -/
theorem owns_new1 (w : World) (q : Nat) : (w.alloc (.cells #[.int .i64 (q : Int)] 3)).ownsRow 0 3 1 (.slice (some ⟨w.heap.size, 0, none⟩) 1 1) 1 (numsV [q]) :=
  ⟨rfl, .inr ⟨w.heap.size, 1, #[.int .i64 (q : Int)], rfl, Nat.zero_le _, World.alloc_heap_new w _, Nat.le_refl _, by unfold maxLen; omega, rfl, rfl⟩⟩
theorem owns_new2 (w : World) (p q : Nat) : (w.alloc (.cells #[.int .i64 (p : Int), .int .i64 (q : Int)] 3)).ownsRow 0 3 1 (.slice (some ⟨w.heap.size, 0, none⟩) 2 2) 2 (numsV [p, q]) :=
  ⟨rfl, .inr ⟨w.heap.size, 2, #[.int .i64 (p : Int), .int .i64 (q : Int)], rfl, Nat.zero_le _, World.alloc_heap_new w _, Nat.le_refl _, by unfold maxLen; omega, rfl, rfl⟩⟩
theorem rowP_set : ∀ (rs : List RawP) (i : Nat) (r : RawP) (hv : Value), rs[i]? = some r → rowP (rs.set i (r.1, hv, r.2.2)) = (rowP rs).set (i * 3 + 1) hv := by
  intro rs
  induction rs with
  | nil => intro i r hv h; simp at h
  | cons y rs ih =>
    intro i r hv h
    cases i with
    | zero =>
      obtain rfl : y = r := by simpa using h
      rfl
    | succ i =>
      have := ih i r hv (by simpa using h)
      rw [show (i + 1) * 3 + 1 = i * 3 + 1 + 3 from by omega]
      simp only [List.set_cons_succ, rowP, this]
theorem owns_set {w : World} {e : TypeId} {sz g n cap : Nat} {xs : List Value} (h : w.ownsRow 0 e sz (.slice (some ⟨g, 0, none⟩) n cap) n xs) (k : Nat) (u : Value) (_hk : k < n * sz) : (w.setCell ⟨g, k, none⟩ u).ownsRow 0 e sz (.slice (some ⟨g, 0, none⟩) n cap) n (xs.set k u) := by
  obtain ⟨h1, h2⟩ := h
  refine ⟨by rw [List.length_set]; exact h1, ?_⟩
  rcases h2 with ⟨e1, _⟩ | ⟨g', cap', cur, e1, hb, hg, h3, h4, h5, h6⟩
  · cases e1
  · cases e1
    refine .inr ⟨g, cap, cur.setIfInBounds k u, rfl, hb, heap_setCell_same w g k cur e u hg, h3, h4, by simpa using h5, ?_⟩
    rw [Array.toList_setIfInBounds, List.take_set, h6]
/-- One way more from a place, in memory. -/
theorem plan_next {A : Nat → Prop} {W : World} {B : Nat} {gv : Value} {g cap : Nat} {rs : List RawP} {L : List Place} (h : PlanAt A W B gv (.slice (some ⟨g, 0, none⟩) L.length cap) rs L) (i q : Nat) (x : Place) (hi : L[i]? = some x) (hlen : x.2.1.length ≤ 1048576)
    (b bc : Nat) (hc : ∀ j u, [Value.int .i64 (q : Int)][j]? = some u → W.cell? ((⟨b, 0, none⟩ : Addr).add j) = some u) :
    ∃ hv v' W1 A', W.cell? ⟨g, i * 3 + 1, none⟩ = some hv ∧ (Builtin.append_ #[57, 57] 57 #[hv, .slice (some ⟨b, 0, none⟩) 1 bc]).run Tryz.prog W = .ok v' W1 ∧ (∃ a n c, v' = .slice a n c) ∧ W1.heap[B]? = W.heap[B]? ∧ W1.heap[g]? = W.heap[g]? ∧
      PlanIn A' (W1.setCell ⟨g, i * 3 + 1, none⟩ v') B gv (addNext L i q) ∧ Fr A W A' (W1.setCell ⟨g, i * 3 + 1, none⟩ v') := by
  obtain ⟨i0, hI, hz0, hz1, hz2⟩ := info_parts infoInt
  obtain ⟨r, h1, h2, h3, h4, h5⟩ := h.each i x hi
  obtain ⟨v', W1, hrun, r1, r2, _, r4⟩ := run_append_own_at (P := Tryz.prog) W 0 57 57 3 i0 _ 1 8 Tryz.underlying57 hI hz0 hz1 hz2 rfl (by decide) r.2.1 x.2.1.length _ h4 ⟨b, 0, none⟩ 1 bc [.int .i64 (q : Int)] rfl hc (fun u hu => by
    simp at hu
    subst hu
    rfl) (by unfold maxLen; omega) (by omega) (Nat.zero_le _)
  have hiL : i < L.length := (List.getElem?_eq_some_iff.1 hi).1
  have hg : ∃ cur, W.heap[g]? = some (.cells cur 150 (0, 0)) := (owns_lt h.row (g := g) rfl).2
  obtain ⟨cur, hcur⟩ := hg
  have hglt : g < W.heap.size := (Array.getElem?_eq_some_iff.1 hcur).1
  have hBlt : B < W.heap.size := (Array.getElem?_eq_some_iff.1 h.plan).1
  have hgB : g ≠ B := fun e => by subst e; rw [h.plan] at hcur; cases hcur
  have hrnum : ∀ k, r.2.1.ownBlock = some k → k ≠ g ∧ k ≠ B := fun k hk => by
    obtain ⟨_, c, hc⟩ := owns_lt h4 hk
    exact ⟨fun e => (by subst e; rw [hcur] at hc; cases hc), fun e => (by subst e; rw [h.plan] at hc; cases hc)⟩
  have hsame : ∀ k, k < W.heap.size → r.2.1.ownBlock ≠ some k → W1.heap[k]? = W.heap[k]? := fun k hk hne => r2.block k hk (fun e => hne e.symm)
  have hB1 : W1.heap[B]? = W.heap[B]? := hsame B hBlt (fun e => (hrnum B e).2 rfl)
  have hg1 : W1.heap[g]? = W.heap[g]? := hsame g hglt (fun e => (hrnum g e).1 rfl)
  have hset : ∀ k, k ≠ g → (W1.setCell ⟨g, i * 3 + 1, none⟩ v').heap[k]? = W1.heap[k]? := fun k hk => Below.heap_setCell W1 _ _ k hk
  have hv'g : ∀ k, v'.ownBlock = some k → k ≠ g := fun k hk e => by
    rcases r4 with e1 | e1
    · rw [e1] at hk
      exact (hrnum k hk).1 e
    · rw [e1] at hk
      cases hk
      omega
  have hvs : ∃ a n c, v' = .slice a n c := by
    rcases r1.2 with ⟨e, _⟩ | ⟨g', c', _, e, _⟩
    · exact ⟨_, _, _, e⟩
    · exact ⟨_, _, _, e⟩
  obtain ⟨f0, f1, f2⟩ := rowP_at rs i r h1
  obtain ⟨g2, cap2, e2, hcells⟩ := owns_cell h.row (by omega)
  cases e2
  refine ⟨r.2.1, v', W1, fun k => A k ∨ v'.ownBlock = some k, hcells _ _ f1, hrun, hvs, hB1, hg1, ⟨.slice (some ⟨g, 0, none⟩) L.length cap, rs.set i (r.1, v', r.2.2), ?_, .inl h.own, ?_, fun k hk => .inl (h.rowA k hk), ?_, fun j y hy => ?_, ?_⟩, ⟨?_, fun k hk hn => ?_, fun k hk => ?_⟩⟩
  · rw [hset B (Ne.symm hgB), hB1]
    exact h.plan
  · rw [addNext_length, rowP_set rs i r v' h1]
    exact owns_set (owns_same h.row fun k hk => by cases hk; exact hg1) _ _ (by omega)
  · rw [List.length_set, addNext_length]
    exact h.len
  · by_cases hji : j = i
    · subst hji
      rw [addNext_eq hi] at hy
      cases hy
      refine ⟨(r.1, v', r.2.2), ?_, h2, h3, ?_, fun k hk => .inr hk⟩
      · rw [List.getElem?_set]
        simp [h.len, hiL]
      · have := owns_same (w' := W1.setCell ⟨g, j * 3 + 1, none⟩ v') r1 fun k hk => hset k (hv'g k hk)
        simpa [numsV] using this
    · rw [addNext_ne hji] at hy
      obtain ⟨s, s1, s2, s3, s4, s5⟩ := h.each j y hy
      refine ⟨s, ?_, s2, s3, owns_same s4 fun k hk => ?_, fun k hk => .inl (s5 k hk)⟩
      · rw [List.getElem?_set]
        simp [Ne.symm hji, s1]
      · obtain ⟨hlt, c, hcc⟩ := owns_lt s4 hk
        rw [hset k (fun e => by subst e; rw [hcur] at hcc; cases hcc), hsame k hlt (fun e => hji (h.apart j i s r k s1 h1 hk e))]
  · have hget : ∀ (j : Nat) (s : RawP), (rs.set i (r.1, v', r.2.2))[j]? = some s → (j = i ∧ s = (r.1, v', r.2.2)) ∨ (j ≠ i ∧ rs[j]? = some s) := fun j s hs => by
      rw [List.getElem?_set] at hs
      by_cases hji : i = j
      · subst hji
        simp [h.len, hiL] at hs
        exact .inl ⟨rfl, hs.symm⟩
      · rw [if_neg hji] at hs
        exact .inr ⟨Ne.symm hji, hs⟩
    have hold : ∀ (j : Nat) (s : RawP) (k : Nat), j ≠ i → rs[j]? = some s → s.2.1.ownBlock = some k → v'.ownBlock ≠ some k := fun j s k hji hs hk e => by
      obtain ⟨y, hy⟩ : ∃ y, L[j]? = some y := ⟨_, List.getElem?_eq_getElem (by rw [← h.len]; exact (List.getElem?_eq_some_iff.1 hs).1)⟩
      obtain ⟨s', s1, _, _, s4, _⟩ := h.each j y hy
      rw [hs] at s1
      cases s1
      rcases r4 with e1 | e1
      · rw [e1] at e
        exact hji (h.apart j i s r k hs h1 hk e)
      · rw [e1] at e
        cases e
        have := (owns_lt s4 hk).1
        omega
    intro j l rj rl k hj hl gj gl
    rcases hget j rj hj with ⟨j1, rfl⟩ | ⟨j1, j2⟩ <;> rcases hget l rl hl with ⟨l1, rfl⟩ | ⟨l1, l2⟩
    · rw [j1, l1]
    · exact absurd gj (hold l rl k l1 l2 gl)
    · exact absurd gl (hold j rj k j1 j2 gj)
    · exact h.apart j l rj rl k j2 l2 gj gl
  · exact ⟨r2.os, r2.tape, r2.output, by have := r2.size; simpa using this, fun k hk => absurd hk (by omega)⟩
  · rw [hset k (fun e => hn (h.rowA k (by rw [e]; rfl)))]
    exact hsame k hk (fun e => hn (h5 k e))
  · rcases hk with hk | hk
    · exact .inl hk
    · rcases r4 with e | e
      · rw [e] at hk
        exact .inl (h5 k hk)
      · rw [e] at hk
        cases hk
        exact .inr (Nat.le_refl _)
end Go.Proofs.YtgkplmnhmobnnaaGreatDoor
