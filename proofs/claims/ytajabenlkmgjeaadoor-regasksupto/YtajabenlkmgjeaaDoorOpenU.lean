/-
  PROVED HERE: an argument of type Expr, of bulk at most 2^20: the tree that it is, and how many nodes it has at most.
-/
import Derived.Test.YtajabenlkmgjeaaDoorArgs
import Derived.Test.YtajabenlkmgjeaaDoorRows
namespace Go.Proofs.YtajabenlkmgjeaaDoor
open Go.RowKit Go.ChangeShapes Go.WideShapes

theorem total_same {f g : DataW Unit → Int} {l : List (DataW Unit)} (h : ∀ x ∈ l, f x = g x) : total f l = total g l := by
  induction l with
  | nil => rfl
  | cons x r ih => rw [total, total, h x (List.mem_cons_self ..), ih fun y hy => h y (List.mem_cons_of_mem _ hy)]
theorem cnt_more {w : World} : ∀ (n m : Nat) (t : DataW Unit) (v : Value), n ≤ m → Ex w n t v → cnt m t = cnt n t := by
  intro n
  induction n with
  | zero => intro m t v _ h; exact h.elim
  | succ n ih =>
    intro m t v hm h
    obtain ⟨m, rfl⟩ : ∃ k, m = k + 1 := ⟨m - 1, by omega⟩
    obtain ⟨k, s, a, len, cap, ts, rfl, rfl, h3, h4, h5⟩ := h
    rw [cnt, cnt]
    refine congrArg _ (total_same fun x hx => ?_)
    rw [subs_node] at hx
    obtain ⟨i, hi, rfl⟩ := List.getElem_of_mem hx
    have hxi : ts[i]? = some ts[i] := List.getElem?_eq_getElem hi
    rcases h5 with h5 | ⟨b, o, e, hlt, hc⟩
    · omega
    · obtain ⟨k', s', a', len', cap', c0, c1, c2, c3⟩ := hc i _ hxi
      exact ih m _ _ (by omega) c3
/-- The sum of what B gives. -/
def sumU {α : Type} (B : α → Nat) : List α → Nat
  | [] => 0
  | x :: r => B x + sumU B r
theorem total_sumU {α : Type} {B : α → Nat} {f : DataW Unit → Int} : ∀ (l : List (DataW Unit)) (ds : List α), l.length = ds.length → (∀ (i : Nat) x d, l[i]? = some x → ds[i]? = some d → f x ≤ (B d : Int)) → total f l ≤ (sumU B ds : Int) := by
  intro l
  induction l with
  | nil => intro ds h _; obtain rfl : ds = [] := List.length_eq_zero_iff.1 (by simpa using h.symm); exact Int.le_refl _
  | cons x r ih =>
    intro ds h hh
    cases ds with
    | nil => simp at h
    | cons d ds =>
      have h1 := hh 0 x d rfl rfl
      have h2 := ih ds (by simpa using h) (fun i y e hy he => hh (i + 1) y e (by simpa using hy) (by simpa using he))
      rw [total, sumU]
      omega
set_option maxRecDepth 100000 in
/-- A tree that came in, and how many nodes it has at most. -/
theorem open_exprU {H : Type} {enc : TypeId × Value → H} {W : World} {sp : Nat → Bool} {hd : Bool} {B : DataW H → Nat} (hB2 : ∀ k l elems spare, sumU B elems + 1 ≤ B (.agg [.lit (.int .i64 k), .lit (.string l), .slice elems spare])) (hB3 : ∀ k l, 1 ≤ B (.agg [.lit (.int .i64 k), .lit (.string l), .nil])) : ∀ (fuel : Nat) (cs : List Value) (x : DataW H × List MemPlace), DataW.trod enc Tryd.prog W 0 sp hd fuel 24 cs = some x →
      ∃ (t : DataW Unit) (k : Int) (s : ByteArray) (a : Option Addr) (len cap : Nat), cs = [.int .i64 k, .string s, .slice a len cap] ∧ Ex W fuel t (.agg #[.int .i64 k, .string s, .slice a len cap]) ∧ named fuel t ∧ cnt fuel t ≤ (B x.1 : Int) := by
  have c3 : Tryd.prog.cellsOf 3 = 1 := by kernel_rfl
  have c9 : Tryd.prog.cellsOf 9 = 1 := by kernel_rfl
  have c22 : Tryd.prog.cellsOf 22 = 1 := by kernel_rfl
  have c24 : Tryd.prog.cellsOf 24 = 3 := by kernel_rfl
  intro fuel
  induction fuel using Nat.strongRecOn with
  | _ fuel ih =>
    intro cs x h
    obtain ⟨xs, n, rfl, hxy, hlen, hxl, hf⟩ := DataW.trod_struct Tryd.underlying24 h
    rw [c24] at hlen
    match xs, hxl, cs, hlen with
    | [y0, y1, y2], _, [v0, v1, v2], _ =>
      have g0 := hf 0 _ rfl
      have g1 := hf 1 _ rfl
      have g2 := hf 2 _ rfl
      simp [c3, c9, c22] at g0 g1 g2
      obtain ⟨k, e0, d0, _⟩ := DataW.trod_int Tryd.underlying3 g0
      obtain ⟨s, e1, d1, hsz⟩ := DataW.trod_string Tryd.underlying9 g1
      simp at e0 e1
      subst e0 e1 d0 d1
      rcases DataW.trod_slice Tryd.underlying22 g2 with ⟨e2, d2⟩ | ⟨a, len, cap, elems, rest, n', hn, e2, d2, _, hlc, hcm, hel, hes, _, _⟩
      · simp at e2
        subst e2 d2
        have hx1 : x.1 = .agg [.lit (.int .i64 k), .lit (.string s.data.toList), .nil] := by rw [hxy]; rfl
        have h3 := hB3 k s.data.toList
        rw [← hx1] at h3
        refine ⟨node k s [], k, s, none, 0, 0, rfl, ⟨k, s, none, 0, 0, [], rfl, rfl, rfl, by omega, .inl rfl⟩, ⟨?_, fun x hx => by cases hx⟩, ?_⟩
        · rw [nameT_node]
          unfold maxLen at hsz
          omega
        · rw [cnt, subs_node, total]
          omega
      · simp at e2
        subst e2 d2
        have hx1 : x.1 = .agg [.lit (.int .i64 k), .lit (.string s.data.toList), .slice (elems.map (·.1)) (rest.map (·.1))] := by rw [hxy]; rfl
        have h2 := hB2 k s.data.toList (elems.map (·.1)) (rest.map (·.1))
        rw [← hx1] at h2
        have each : ∀ i, i < len → ∃ (t : DataW Unit) (k' : Int) (s' : ByteArray) (a' : Option Addr) (len' cap' : Nat), W.cell? (a.add (i * 3)) = some (.int .i64 k') ∧ W.cell? ((a.add (i * 3)).add 1) = some (.string s') ∧ W.cell? ((a.add (i * 3)).add 2) = some (.slice a' len' cap') ∧ Ex W n t (.agg #[.int .i64 k', .string s', .slice a' len' cap']) ∧ named n t ∧ ∃ d, elems[i]? = some d ∧ cnt n t ≤ (B d.1 : Int) := by
          intro i hi
          have hq := hes i hi
          rw [List.getElem?_eq_getElem (by omega), c24] at hq
          obtain ⟨cs', q1, q2⟩ := Option.bind_eq_some_iff.1 hq
          obtain ⟨_, _, hcell⟩ := World.cells?_some q1
          obtain ⟨t, k', s', a', len', cap', rfl, hE, hN, hC⟩ := ih n' (by omega) cs' _ q2
          have m0 := hcell 0 (by omega)
          rw [show (a.add (i * 3)).add 0 = a.add (i * 3) from by obtain ⟨b, o, sp⟩ := a; cases sp <;> simp [Addr.add]] at m0
          exact ⟨t, k', s', a', len', cap', m0, hcell 1 (by omega), hcell 2 (by omega), Ex.more _ _ _ _ (by omega) hE, named_more _ _ _ _ (by omega) hE hN, _, List.getElem?_eq_getElem (by omega), by rw [cnt_more _ _ _ _ (by omega) hE]; exact hC⟩
        haveI : Inhabited (DataW Unit) := ⟨.nil⟩
        obtain ⟨Y, hY⟩ := Deep.choose_lt each
        refine ⟨node k s ((List.range len).map Y), k, s, some a, len, cap, rfl, ⟨k, s, some a, len, cap, (List.range len).map Y, rfl, rfl, by simp, by unfold maxLen at hcm; omega, ?_⟩, ⟨?_, fun x hx => ?_⟩, ?_⟩
        · rcases Nat.eq_zero_or_pos len with h0 | h0
          · exact .inl h0
          · obtain ⟨b, o, sp⟩ := a
            obtain rfl : sp = none := by
              obtain ⟨_, _, _, _, _, q, _⟩ := hY 0 h0
              have := World.cell?_spot q
              simpa [Addr.add] using this
            refine .inr ⟨b, o, rfl, ?_, fun i y hy => ?_⟩
            · obtain ⟨_, _, _, _, _, q, _⟩ := hY 0 h0
              rw [add_none] at q
              rcases Nat.lt_or_ge b W.heap.size with hlt | hge
              · exact hlt
              · simp [World.cell?, Array.getElem?_eq_none hge] at q
            · have hi : i < len := by
                have := (List.getElem?_eq_some_iff.1 hy).1
                simpa using this
              obtain rfl : Y i = y := by simpa [List.getElem?_map, List.getElem?_range hi] using hy
              obtain ⟨k', s', a', len', cap', q0, q1, q2, q3, _, _⟩ := hY i hi
              simp only [add_none] at q0 q1 q2
              exact ⟨k', s', a', len', cap', q0, q1, q2, q3⟩
        · rw [nameT_node]
          unfold maxLen at hsz
          omega
        · rw [subs_node] at hx
          obtain ⟨i, hi, rfl⟩ := List.mem_map.1 hx
          obtain ⟨_, _, _, _, _, _, _, _, _, hN, _⟩ := hY i (List.mem_range.1 hi)
          exact hN
        · have ht : total (cnt n) ((List.range len).map Y) ≤ (sumU B (elems.map (·.1)) : Int) := total_sumU _ _ (by simp [hel]) (fun i y d hy hd => by
            have hi : i < len := by
              have := (List.getElem?_eq_some_iff.1 hy).1
              simpa using this
            obtain rfl : Y i = y := by simpa [List.getElem?_map, List.getElem?_range hi] using hy
            obtain ⟨_, _, _, _, _, _, _, _, _, _, d', hd', hc⟩ := hY i hi
            rw [List.getElem?_map, hd'] at hd
            cases hd
            exact hc)
          rw [cnt, subs_node]
          omega
theorem bulk_all {H : Type} (l : List (DataW H)) : Rows.uptoBulkAll l = sumU Rows.uptoBulk l := by
  induction l with
  | nil => rw [Rows.uptoBulkAll, sumU]
  | cons d r ih => rw [Rows.uptoBulkAll, sumU, ih]
set_option maxRecDepth 100000 in
theorem open_arg {H : Type} {enc : TypeId × Value → H} {W : World} {base : Nat} {v : Value} {d : DataW H} {p : List MemPlace} (hv : Value.okWide Tryd.prog W .any base 24 v) (h : DataW.Trod enc Tryd.prog W 0 (fun _ => true) true 24 v d p) (hb : Rows.uptoBulk d ≤ 1048576) :
    ∃ n t k nm a ln cp, v = .agg #[.int .i64 k, .string nm, .slice a ln cp] ∧ Ex W n t (.agg #[.int .i64 k, .string nm, .slice a ln cp]) ∧ named n t ∧ cnt n t ≤ 1152921504606846976 ∧ True := by
  obtain ⟨cs, rfl, _⟩ := okWide_struct Tryd.underlying24 hv
  obtain ⟨fuel, hf⟩ := h
  obtain ⟨t, k, nm, a, ln, cp, hcs, hX, hN, hc⟩ := open_exprU (B := Rows.uptoBulk) (fun k l elems spare => by
    simp only [Rows.uptoBulk, Rows.uptoBulkAll, bulk_all]
    omega) (fun k l => by
    simp only [Rows.uptoBulk, Rows.uptoBulkAll]
    omega) fuel _ (d, p) hf
  refine ⟨fuel, t, k, nm, a, ln, cp, ?_, hX, hN, ?_, trivial⟩
  · rw [show cs = cs.toList.toArray from by simp, show cs.toList = _ from hcs]
  · have h2 : ((Rows.uptoBulk d : Nat) : Int) ≤ 1048576 := by omega
    exact Int.le_trans hc (Int.le_trans h2 (by decide))
end Go.Proofs.YtajabenlkmgjeaaDoor
