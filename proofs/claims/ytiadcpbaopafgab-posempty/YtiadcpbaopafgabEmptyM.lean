/-
  PROVED HERE: ranges that change nothing; a slice of small numbers that came in is read.
-/
import Derived.Test.YtiadcpbaopafgabMapF
import Derived.Test.YtiadcpbaopafgabOwnR
import Derived.Test.YtiadcpbaopafgabOrder
import Derived.Test.YtiadcpbaopafgabFitR
namespace Go.Proofs.Ytiadcpbaopafgab
open Go.ChangeShapes Go.WideShapes Go.ChangeAt Go.RowKit

/-- Ranges in which nothing goes and nothing comes. -/
def still (l : List Rng) : Prop := ∀ x ∈ l, x.o = 0 ∧ x.n = 0
theorem send_still : ∀ (l : List Rng) (i : Nat) (p side : Int), still l → (sendL l i 0 p side).at' = p ∧ (sendL l i 0 p side).gone = false := by
  intro l
  induction l with
  | nil => intro i p side _; exact ⟨by simp [sendL], rfl⟩
  | cons x r ih =>
    intro i p side h
    obtain ⟨h1, h2⟩ := h x (List.mem_cons_self ..)
    rw [sendL]
    split
    · exact ⟨by simp, rfl⟩
    · split
      · obtain rfl : p = x.a := by omega
        unfold spotR goal inner
        simp [h1, h2]
      · rw [h1, h2, show (0 : Int) + 0 - 0 = 0 from rfl]
        exact ih _ _ _ (fun y hy => h y (List.mem_cons_of_mem _ hy))
theorem rightL_snoc {y : Rng} : ∀ (l : List Rng) (e : Int), rightL l e = true → (∀ x ∈ l, x.a + x.o ≤ y.a) → e ≤ y.a → rightR y 0 = true → rightL (l ++ [y]) e = true := by
  intro l
  induction l with
  | nil =>
    intro e _ _ he hy
    have := (rightR_iff y 0).1 hy
    rw [List.nil_append, rightL, (rightR_iff y e).2 ⟨this.1, this.2.1, this.2.2.1, he⟩]
    rfl
  | cons x r ih =>
    intro e h hx he hy
    obtain ⟨h1, h2⟩ := rightL_cons h
    rw [List.cons_append, rightL, h1, ih _ h2 (fun z hz => hx z (List.mem_cons_of_mem _ hz)) (hx x (List.mem_cons_self ..)) hy]
    rfl
theorem map_nil (p side : Int) (h : mapE [] p = 0) : mapA [] p side = ⟨p, false, -1, 0⟩ := by
  obtain ⟨h1, h2⟩ := map_ok h
  rw [map_send h1 h2]
  simp [sendL]
theorem map_bad (l : List Rng) (p side : Int) (h : mapE l p ≠ 0) : mapA l p side = zeroS := by
  unfold mapE at h
  unfold mapA
  split at h
  · rename_i h1
    rw [if_pos h1]
  · rename_i h1
    split at h
    · rename_i h2
      rw [if_neg h1, if_pos h2]
    · exact absurd rfl h
/-- A slice's elements are the small integers zs. -/
def Smalls (w : World) (a : Option Addr) (len : Nat) (zs : List Int) : Prop :=
  zs.length = len ∧ (∀ z ∈ zs, 0 ≤ z ∧ z ≤ 65535) ∧ (len = 0 ∨ ∃ b o, a = some ⟨b, o, none⟩ ∧ b < w.heap.size ∧ ∀ i z, zs[i]? = some z → w.cell? ⟨b, o + i, none⟩ = some (.int .u16 z))
theorem open_smalls {H : Type} {enc : TypeId × Value → H} {W : World} {a : Option Addr} {len cap : Nat} {d : DataW H} {p : List MemPlace} (h : DataW.Trod enc Try.prog W 0 (fun _ => true) true 36 (.slice a len cap) d p) :
    ∃ zs : List Int, Smalls W a len zs ∧ len ≤ 9223372036854775807 := by
  obtain ⟨fuel, hf⟩ := h
  have hc1 : Try.prog.cellsOf 39 = 1 := by kernel_rfl
  rcases Deep.open_slice Try.underlying36 hf with ⟨hcs, hx⟩ | ⟨x, l, c, m, n, D, Pl, hcs, _, hl, hm, hmm, hx, hD⟩
  · simp [Value.cells] at hcs
    obtain ⟨rfl, rfl, rfl⟩ := hcs
    exact ⟨[], ⟨rfl, by simp, .inl rfl⟩, by omega⟩
  · simp [Value.cells] at hcs
    obtain ⟨rfl, rfl, rfl⟩ := hcs
    simp only [if_true] at hmm
    subst hmm
    rw [hc1] at hD
    have each : ∀ i, i < m → ∃ z : Int, (0 ≤ z ∧ z ≤ 65535) ∧ W.cell? (x.add i) = some (.int .u16 z) := by
      intro i hi
      obtain ⟨cs', h1, h2⟩ := hD i hi
      obtain ⟨_, _, hcell⟩ := World.cells?_some h1
      obtain ⟨z, e0, _, hw⟩ := DataW.trod_int Try.underlying39 h2
      subst e0
      refine ⟨z, (Lit.wf_int_iff .u16 z).1 hw, ?_⟩
      have := hcell 0 (by simp)
      rw [Nat.mul_one, show (x.add i).add 0 = x.add i from by obtain ⟨b, o, s⟩ := x; cases s <;> simp [Addr.add]] at this
      exact this
    haveI : Inhabited Int := ⟨0⟩
    obtain ⟨Y, hY⟩ := Deep.choose_lt each
    have hspot : 0 < m → x.spot = none := by
      intro h0
      have := World.cell?_spot (hY 0 h0).2
      obtain ⟨b, o, s⟩ := x
      simpa [Addr.add] using this
    refine ⟨(List.range len).map Y, ⟨by simp, ?_, ?_⟩, by unfold maxLen at hm; omega⟩
    · intro y hy
      obtain ⟨i, hi, rfl⟩ := List.mem_map.1 hy
      exact (hY i (by have := List.mem_range.1 hi; omega)).1
    · rcases Nat.eq_zero_or_pos len with h0 | h0
      · exact .inl h0
      · obtain ⟨b, o, s⟩ := x
        obtain rfl : s = none := hspot (by omega)
        refine .inr ⟨b, o, rfl, ?_, fun i y hy => ?_⟩
        · have := (hY 0 (by omega)).2
          rw [add_none] at this
          rcases Nat.lt_or_ge b W.heap.size with hlt | hge
          · exact hlt
          · simp [World.cell?, Array.getElem?_eq_none hge] at this
        · have hi : i < len := by
            have := (List.getElem?_eq_some_iff.1 hy).1
            simpa using this
          obtain rfl : Y i = y := by simpa [List.getElem?_map, List.getElem?_range hi] using hy
          have := (hY i (by omega)).2
          simp only [add_none] at this
          exact this
/-- A built-in append whose run is known, in a walk. -/
theorem wpList_app_run {ops : Array Oper} {rest : List Oper} {o : Oper} {a : Act} {w : World} {Q : Exit → Act → World → Prop} (hgd : o.guard = none) (s x : Operand) (t : TypeId) (ho : o.op = .call { callee := .builtin .append, args := #[s, x], argTypes := #[t, t] })
    (v u v' : Value) (w' : World) (hs : a.eval s = v) (hx : a.eval x = u) (hr : (Builtin.append_ #[t, t] o.type #[v, u]).run Try.prog w = .ok v' w') (h : wpList Try.prog ops Q rest (a.put o.dst v') w') : wpList Try.prog ops Q (o :: rest) a w :=
  wpList_plain hgd fun _ hK => wp_app_run s x t ho v u v' w' hs hx hr (hK _ _ h)
end Go.Proofs.Ytiadcpbaopafgab
