/-
  PROVED HERE: an argument of type Expr, of bulk at most 2^20: the tree that it is.
-/
import Derived.Test.YtafidabopcgkhaaDoorOpen
import Derived.Test.YtafidabopcgkhaaDoorNam
import Derived.Test.YtafidabopcgkhaaDoorLaid5
import Derived.Test.YtafidabopcgkhaaDoorRows
namespace Go.Proofs.YtafidabopcgkhaaDoor
open Go.RowKit Go.ChangeShapes Go.WideShapes

theorem bulk_all {H : Type} (l : List (DataW H)) : Rows.uptoBulkAll l = sumN Rows.uptoBulk l := by
  induction l with
  | nil => rw [Rows.uptoBulkAll, sumN]
  | cons d r ih => rw [Rows.uptoBulkAll, sumN, ih]
theorem bulk_pos {H : Type} (d : DataW H) : 1 ≤ Rows.uptoBulk d := by
  cases d with
  | lit l => cases l <;> rw [Rows.uptoBulk] <;> first | omega | (intro _ h; cases h)
  | nil => rw [Rows.uptoBulk]; omega
  | ptr d => rw [Rows.uptoBulk]; omega
  | slice a b => rw [Rows.uptoBulk]; omega
  | agg a => rw [Rows.uptoBulk]; omega
  | iface a d => rw [Rows.uptoBulk]; omega
  | map a => rw [Rows.uptoBulk]; omega
  | held a => rw [Rows.uptoBulk]; omega
theorem great_total {f g : DataW Unit → Int} : ∀ (l : List (DataW Unit)), (∀ x ∈ l, f x ≤ g x) → (∀ x, 0 ≤ g x) → greatest f l ≤ total g l := by
  intro l
  induction l with
  | nil => intro _ _; simp [greatest, total]
  | cons x r ih =>
    intro h h0
    have h1 := h x (List.mem_cons_self ..)
    have h2 := ih (fun y hy => h y (List.mem_cons_of_mem _ hy)) h0
    have h3 := h0 x
    have h4 := total_nonneg h0 r
    rw [greatest, total]
    omega
theorem dp_wt (n : Nat) : ∀ t, dp n t ≤ wt n t := by
  induction n with
  | zero => intro t; exact Int.le_refl _
  | succ n ih =>
    intro t
    have h1 := great_total (subs t) (fun x _ => ih x) (wt_nonneg n)
    rw [dp, wt]
    omega
set_option maxRecDepth 100000 in
theorem open_arg {H : Type} {enc : TypeId × Value → H} {W : World} {base : Nat} {v : Value} {d : DataW H} {p : List MemPlace} (hv : Value.okWide Tryd.prog W .any base 24 v) (h : DataW.Trod enc Tryd.prog W 0 (fun _ => true) true 24 v d p) (hb : Rows.uptoBulk d ≤ 1048576) :
    ∃ n t k nm a ln cp, v = .agg #[.int .i64 k, .string nm, .slice a ln cp] ∧ Ex W n t (.agg #[.int .i64 k, .string nm, .slice a ln cp]) ∧ 200 ≤ n ∧ n ≤ 4194304 ∧ wt n t ≤ 2097152 := by
  obtain ⟨cs, rfl, _⟩ := okWide_struct Tryd.underlying24 hv
  obtain ⟨fuel, hf⟩ := h
  obtain ⟨t, k, nm, a, ln, cp, hcs, hX, hw⟩ := open_expr (B := Rows.uptoBulk) bulk_pos (fun k l elems spare => by
    simp only [Rows.uptoBulk, Rows.uptoBulkAll, bulk_all]
    omega) (fun k l => by
    simp only [Rows.uptoBulk, Rows.uptoBulkAll]
    omega) fuel _ (d, p) hf (by show Rows.uptoBulk d ≤ _; omega)
  have hw2 : wt fuel t ≤ 2097152 := by
    have : (2 : Int) * (Rows.uptoBulk d : Int) ≤ 2097152 := by omega
    exact Int.le_trans hw this
  have hd := dp_wt fuel t
  obtain ⟨N, hN⟩ : ∃ N : Nat, N = 4194304 := ⟨_, rfl⟩
  have hX2 : Ex W N t (.agg #[.int .i64 k, .string nm, .slice a ln cp]) := Ex.down fuel t _ N hX (by omega)
  have e1 := wt_fuel fuel (max fuel N) t (by omega) (Ex.fits _ _ _ hX)
  have e2 := wt_fuel N (max fuel N) t (by omega) (Ex.fits _ _ _ hX2)
  refine ⟨N, t, k, nm, a, ln, cp, ?_, hX2, by omega, by omega, by rw [← e2, e1]; exact hw2⟩
  rw [show cs = cs.toList.toArray from by simp, show cs.toList = _ from hcs]
end Go.Proofs.YtafidabopcgkhaaDoor
