/-
  PROVED HERE: how a tree that came in is read.
-/
import Derived.Test.YtafidabopcgkhaaDoorTextE
import Derived.Deep.Slices
import Derived.ChangeSame
import Derived.ChangeArms
namespace Go.Proofs.YtafidabopcgkhaaDoor
open Go.ChangeShapes Go.WideShapes Go.RowKit

theorem Ex.more {w : World} : ∀ (n m : Nat) (t : DataW Unit) (v : Value), n ≤ m → Ex w n t v → Ex w m t v := by
  intro n
  induction n with
  | zero => intro m t v _ h; exact h.elim
  | succ n ih =>
    intro m t v hm h
    obtain ⟨m, rfl⟩ : ∃ m', m = m' + 1 := ⟨m - 1, by omega⟩
    obtain ⟨k, s, a, len, cap, ts, h1, h2, h3, h4, h5⟩ := h
    refine ⟨k, s, a, len, cap, ts, h1, h2, h3, h4, ?_⟩
    rcases h5 with h5 | ⟨b, o, e, hlt, hc⟩
    · exact .inl h5
    · refine .inr ⟨b, o, e, hlt, fun i x hx => ?_⟩
      obtain ⟨k', s', a', len', cap', c0, c1, c2, c3⟩ := hc i x hx
      exact ⟨k', s', a', len', cap', c0, c1, c2, ih m x _ (by omega) c3⟩
theorem total_congr {f g : DataW Unit → Int} {l : List (DataW Unit)} (h : ∀ x ∈ l, f x = g x) : total f l = total g l := by
  induction l with
  | nil => rfl
  | cons x r ih => rw [total, total, h x (List.mem_cons_self ..), ih (fun y hy => h y (List.mem_cons_of_mem _ hy))]
theorem wt_fuel : ∀ (n m : Nat) (t : DataW Unit), n ≤ m → fits n t → wt m t = wt n t := by
  intro n
  induction n with
  | zero => intro m t _ h; exact h.elim
  | succ n ih =>
    intro m t hm h
    obtain ⟨m, rfl⟩ : ∃ m', m = m' + 1 := ⟨m - 1, by omega⟩
    rw [wt, wt, total_congr (fun x hx => ih m x (by omega) (h x hx))]
/-- The sum of what B gives. -/
def sumN {α : Type} (B : α → Nat) : List α → Nat
  | [] => 0
  | x :: r => B x + sumN B r
theorem sumN_length {α : Type} {B : α → Nat} (h : ∀ x, 1 ≤ B x) (l : List α) : l.length ≤ sumN B l := by
  induction l with
  | nil => exact Nat.le_refl _
  | cons x r ih => have := h x; rw [sumN, List.length_cons]; omega
theorem sumN_mem {α : Type} {B : α → Nat} {l : List α} {x : α} (h : x ∈ l) : B x ≤ sumN B l := by
  induction l with
  | nil => cases h
  | cons y r ih =>
    rw [sumN]
    rcases List.mem_cons.1 h with rfl | h
    · omega
    · have := ih h; omega
theorem total_sum {α : Type} {B : α → Nat} {f : DataW Unit → Int} : ∀ (l : List (DataW Unit)) (ds : List α), l.length = ds.length → (∀ (i : Nat) x d, l[i]? = some x → ds[i]? = some d → f x ≤ 2 * (B d : Int)) → total f l ≤ 2 * (sumN B ds : Int) := by
  intro l
  induction l with
  | nil => intro ds h _; obtain rfl : ds = [] := List.length_eq_zero_iff.1 (by simpa using h.symm); exact Int.le_refl _
  | cons x r ih =>
    intro ds h hh
    cases ds with
    | nil => simp at h
    | cons d ds =>
      have h1 := hh 0 x d rfl rfl
      have h2 := ih ds (by simpa using h) (fun i y e hy he => hh (i + 1) y e (by simpa using hy) (by simpa using he))
      rw [total, sumN]
      omega

set_option maxRecDepth 100000 in
/-- A tree that came in, of bulk at most 2^40: it is one, and its weight is at most twice the bulk. -/
theorem open_expr {H : Type} {enc : TypeId × Value → H} {W : World} {B : DataW H → Nat} (hB1 : ∀ d, 1 ≤ B d) (hB2 : ∀ k l elems spare, l.length + sumN B elems + 4 ≤ B (.agg [.lit (.int .i64 k), .lit (.string l), .slice elems spare])) (hB3 : ∀ k l, l.length + 4 ≤ B (.agg [.lit (.int .i64 k), .lit (.string l), .nil])) :
    ∀ (fuel : Nat) (cs : List Value) (x : DataW H × List MemPlace), DataW.trod enc Tryd.prog W 0 (fun _ => true) true fuel 24 cs = some x → B x.1 ≤ 1099511627776 →
      ∃ (t : DataW Unit) (k : Int) (s : ByteArray) (a : Option Addr) (len cap : Nat), cs = [.int .i64 k, .string s, .slice a len cap] ∧ Ex W fuel t (.agg #[.int .i64 k, .string s, .slice a len cap]) ∧ wt fuel t ≤ 2 * (B x.1 : Int) := by
  have c3 : Tryd.prog.cellsOf 3 = 1 := by kernel_rfl
  have c9 : Tryd.prog.cellsOf 9 = 1 := by kernel_rfl
  have c22 : Tryd.prog.cellsOf 22 = 1 := by kernel_rfl
  have c24 : Tryd.prog.cellsOf 24 = 3 := by kernel_rfl
  intro fuel
  induction fuel using Nat.strongRecOn with
  | _ fuel ih =>
    intro cs x h hb
    obtain ⟨xs, n, rfl, hxy, hlen, hxl, hf⟩ := DataW.trod_struct Tryd.underlying24 h
    rw [c24] at hlen
    match xs, hxl, cs, hlen with
    | [y0, y1, y2], _, [v0, v1, v2], _ =>
      have g0 := hf 0 _ rfl
      have g1 := hf 1 _ rfl
      have g2 := hf 2 _ rfl
      simp [c3, c9, c22] at g0 g1 g2
      obtain ⟨k, e0, d0, _⟩ := DataW.trod_int Tryd.underlying3 g0
      obtain ⟨s, e1, d1, _⟩ := DataW.trod_string Tryd.underlying9 g1
      simp at e0 e1
      subst e0 e1 d0 d1
      rcases DataW.trod_slice Tryd.underlying22 g2 with ⟨e2, d2⟩ | ⟨a, len, cap, elems, rest, n', hn, e2, d2, _, hlc, hcm, hel, hes, _, _⟩
      · simp at e2
        subst e2 d2
        have hx1 : x.1 = .agg [.lit (.int .i64 k), .lit (.string s.data.toList), .nil] := by rw [hxy]; rfl
        have h3 := hB3 k s.data.toList
        rw [← hx1] at h3
        refine ⟨node k s [], k, s, none, 0, 0, rfl, ⟨k, s, none, 0, 0, [], rfl, rfl, rfl, by omega, .inl rfl⟩, ?_⟩
        rw [wt, nameT_node, subs_node, total]
        have : s.data.toList.length = s.size := Array.length_toList
        omega
      · simp at e2
        subst e2 d2
        have hx1 : x.1 = .agg [.lit (.int .i64 k), .lit (.string s.data.toList), .slice (elems.map (·.1)) (rest.map (·.1))] := by rw [hxy]; rfl
        have h2 := hB2 k s.data.toList (elems.map (·.1)) (rest.map (·.1))
        rw [← hx1] at h2
        have hll := sumN_length hB1 (elems.map (·.1))
        rw [List.length_map, hel] at hll
        have each : ∀ i, i < len → ∃ (t : DataW Unit) (k' : Int) (s' : ByteArray) (a' : Option Addr) (len' cap' : Nat) (d : DataW H × List MemPlace), elems[i]? = some d ∧ W.cell? (a.add (i * 3)) = some (.int .i64 k') ∧ W.cell? ((a.add (i * 3)).add 1) = some (.string s') ∧ W.cell? ((a.add (i * 3)).add 2) = some (.slice a' len' cap') ∧ Ex W n t (.agg #[.int .i64 k', .string s', .slice a' len' cap']) ∧ wt n t ≤ 2 * (B d.1 : Int) := by
          intro i hi
          have hq := hes i hi
          rw [List.getElem?_eq_getElem (by omega), c24] at hq
          obtain ⟨cs', q1, q2⟩ := Option.bind_eq_some_iff.1 hq
          obtain ⟨_, _, hcell⟩ := World.cells?_some q1
          have hmem : (elems[i]'(by omega)).1 ∈ elems.map (·.1) := List.mem_map.2 ⟨_, List.getElem_mem _, rfl⟩
          have hbd := sumN_mem (B := B) hmem
          obtain ⟨t, k', s', a', len', cap', rfl, hE, hw⟩ := ih n' (by omega) cs' _ q2 (by omega)
          have m0 := hcell 0 (by omega)
          rw [show (a.add (i * 3)).add 0 = a.add (i * 3) from by obtain ⟨b, o, sp⟩ := a; cases sp <;> simp [Addr.add]] at m0
          refine ⟨t, k', s', a', len', cap', _, List.getElem?_eq_getElem (by omega), m0, hcell 1 (by omega), hcell 2 (by omega), Ex.more _ _ _ _ (by omega) hE, ?_⟩
          rw [wt_fuel n' n t (by omega) (Ex.fits _ _ _ hE)]
          exact hw
        haveI : Inhabited (DataW Unit) := ⟨.nil⟩
        obtain ⟨Y, hY⟩ := Deep.choose_lt each
        refine ⟨node k s ((List.range len).map Y), k, s, some a, len, cap, rfl, ⟨k, s, some a, len, cap, (List.range len).map Y, rfl, rfl, by simp, by omega, ?_⟩, ?_⟩
        · rcases Nat.eq_zero_or_pos len with h0 | h0
          · exact .inl h0
          · obtain ⟨b, o, sp⟩ := a
            obtain rfl : sp = none := by
              obtain ⟨_, _, _, _, _, _, _, q, _⟩ := hY 0 h0
              have := World.cell?_spot q
              simpa [Addr.add] using this
            have add_none : ∀ b o i : Nat, (⟨b, o, none⟩ : Addr).add i = ⟨b, o + i, none⟩ := fun b o i => by unfold Addr.add; split <;> simp_all
            refine .inr ⟨b, o, rfl, ?_, fun i y hy => ?_⟩
            · obtain ⟨_, _, _, _, _, _, _, q, _⟩ := hY 0 h0
              rw [add_none] at q
              rcases Nat.lt_or_ge b W.heap.size with hlt | hge
              · exact hlt
              · simp [World.cell?, Array.getElem?_eq_none hge] at q
            · have hi : i < len := by
                have := (List.getElem?_eq_some_iff.1 hy).1
                simpa using this
              obtain rfl : Y i = y := by simpa [List.getElem?_map, List.getElem?_range hi] using hy
              obtain ⟨k', s', a', len', cap', d, _, q0, q1, q2, q3, _⟩ := hY i hi
              simp only [add_none] at q0 q1 q2
              exact ⟨k', s', a', len', cap', q0, q1, q2, q3⟩
        · rw [wt, nameT_node, subs_node]
          have hts := total_sum (B := B) (f := wt n) ((List.range len).map Y) (elems.map (·.1)) (by simp [hel]) (fun i y d hy hd => by
            have hi : i < len := by
              have := (List.getElem?_eq_some_iff.1 hy).1
              simpa using this
            obtain rfl : Y i = y := by simpa [List.getElem?_map, List.getElem?_range hi] using hy
            obtain ⟨_, _, _, _, _, d', hd', _, _, _, _, hw⟩ := hY i hi
            rw [List.getElem?_map, hd'] at hd
            obtain rfl : d'.1 = d := by simpa using hd
            exact hw)
          have : s.data.toList.length = s.size := Array.length_toList
          omega
end Go.Proofs.YtafidabopcgkhaaDoor
