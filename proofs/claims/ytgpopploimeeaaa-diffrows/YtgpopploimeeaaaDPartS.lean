/-
  PROVED HERE: how a part of tokens that came in is taken, wherever they lie.
-/
import Derived.Test.YtgpopploimeeaaaDApp
import Derived.Laws.Slices
namespace Go.Proofs.Ytgpopploimeeaaa
open Go.RowKit

theorem wp_run_slice {o : Oper} {a : Act} {w : World} {K : Act → World → Prop} {Q : Exit → Act → World → Prop} (x : Operand) (lo hi : Option Operand) (t : TypeId) (ho : o.op = .slice t x lo hi none) (v u : Value) (hx : a.eval x = u)
    (hr : (Instr.sliceAt t u (lo.map a.eval) (hi.map a.eval) none).run Try.prog w = .ok v w) (h : K (a.put o.dst v) w) : o.wp Try.prog a w K Q := by
  unfold Oper.wp execOp
  simp only [ho, Sem.run_bind, Sem.run_pure, Option.map_none, hx, hr]
  exact h
theorem wpList_run_slice {ops : Array Oper} {rest : List Oper} {o : Oper} {a : Act} {w : World} {Q : Exit → Act → World → Prop} (hgd : o.guard = none) (x : Operand) (lo hi : Option Operand) (t : TypeId) (ho : o.op = .slice t x lo hi none)
    (v u : Value) (hx : a.eval x = u) (hr : (Instr.sliceAt t u (lo.map a.eval) (hi.map a.eval) none).run Try.prog w = .ok v w) (h : wpList Try.prog ops Q rest (a.put o.dst v) w) : wpList Try.prog ops Q (o :: rest) a w :=
  wpList_plain hgd fun _ hK => wp_run_slice x lo hi t ho v u hx hr (hK _ _ h)

theorem tok_size : sizeOf 62 = (sizeOf 62 : Sem Nat) := rfl
theorem run_tok_size (W : World) : (sizeOf 62).run Try.prog W = .ok 4 W := by
  obtain ⟨i0, hi, _, hz1, _⟩ := info_parts info23
  simp [sizeOf, typeInfo, hi, hz1]
/-- The address of a part. -/
def partA (a : Option Addr) (c f : Nat) : Option Addr := if c = f then a else a.map (·.add (f * 4))
theorem slice_lh (a : Option Addr) (n c f t : Nat) (hft : f ≤ t) (htc : t ≤ c) (W : World) :
    (Instr.sliceAt 22 (.slice a n c) (some (.int .i64 (f : Int))) (some (.int .i64 (t : Int))) none).run Try.prog W = .ok (.slice (partA a c f) (t - f) (c - f)) W := by
  have hu : Try.prog.underlying 22 = some (.slice (Try.prog.elem 22)) := Try.underlying22
  rw [run_sliceAt_slice (P := Try.prog) W 22 _ _ _ _ hu, run_slice_lh (P := Try.prog) W 22 a n c hu .i64 .i64 _ _ (by omega) (by omega) (by omega)]
  rw [show Try.prog.elem 22 = 62 from by kernel_rfl, run_tok_size]
  rfl
theorem slice_l (a : Option Addr) (n c f : Nat) (hfn : f ≤ n) (W : World) :
    (Instr.sliceAt 22 (.slice a n c) (some (.int .i64 (f : Int))) none none).run Try.prog W = .ok (.slice (partA a c f) (n - f) (c - f)) W := by
  have hu : Try.prog.underlying 22 = some (.slice (Try.prog.elem 22)) := Try.underlying22
  rw [run_sliceAt_slice (P := Try.prog) W 22 _ _ _ _ hu, run_slice_l (P := Try.prog) W 22 a n c hu .i64 _ (by omega) (by omega)]
  rw [show Try.prog.elem 22 = 62 from by kernel_rfl, run_tok_size]
  rfl
theorem Toks.partA {W : World} {a : Option Addr} {n c : Nat} {l : List Tok} (h : Toks W a n l) (hc : n ≤ c) (f k : Nat) (hf : f + k ≤ n) : Toks W (partA a c f) k ((l.drop f).take k) := by
  rcases Nat.eq_zero_or_pos k with h0 | h0
  · subst h0
    exact ⟨by simp, .inl rfl⟩
  · obtain ⟨b, o, x, rfl, _⟩ := h.token (show 0 < n by omega)
    unfold Go.Proofs.Ytgpopploimeeaaa.partA
    rw [if_neg (by omega)]
    show Toks W (some ((⟨b, o, none⟩ : Addr).add (f * 4))) k _
    rw [add_none]
    exact h.sub f k hf
theorem partA_none {a : Option Addr} {c f : Nat} (h : a = none → c = 0) (e : Go.Proofs.Ytgpopploimeeaaa.partA a c f = none) : c - f = 0 := by
  unfold Go.Proofs.Ytgpopploimeeaaa.partA at e
  by_cases hc : c = f
  · omega
  · rw [if_neg hc] at e
    cases a with
    | none => have := h rfl; omega
    | some p => cases e
end Go.Proofs.Ytgpopploimeeaaa
