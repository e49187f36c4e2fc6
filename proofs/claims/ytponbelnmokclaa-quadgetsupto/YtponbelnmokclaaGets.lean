/-
  PROVED HERE: the statement QuadGets in its second form: quad.Get and quad.All answer as the document's own at any bytes and any place; where what comes in is of bulk at most 1048576.
-/
import Derived.Test.YtponbelnmokclaaRefGet
import Derived.JoinedCond
namespace Go.Proofs.Ytponbelnmokclaa.quadGets
open Go.ChangeShapes Go.WideShapes Go.ChangeAt Go.RowKit

set_option maxRecDepth 100000 in
set_option maxHeartbeats 1000000 in
theorem walk (a0 : Option Addr) (len0 cap0 : Nat) (z0 : List Int) (p : Int) (w : World) (w0 : Row .u8 w a0 len0 z0) (b0 : Bytes z0) (s0 : len0 ≤ 1048576) :
    Calls Try.prog 4 #[.slice a0 len0 cap0, .int .i64 p] w fun e w' => e = .returned (.bool true) ∧ Below w.heap.size w w' := by
  obtain ⟨ac, cc, W0, hrun, hr0, hB0⟩ := clone_ok a0 len0 cap0 z0 w w0 (by omega)
  have hz : (allA z0).1.length ≤ 1099511627776 := Nat.le_trans (allA_len z0 b0) (by rw [w0.1]; omega)
  go_enter Try.func4, Try.ntmps4
  go_wp2_with (at_builtin; refine wpList_append_run rfl _ _ 22 rfl _ _ _ _ rfl rfl hrun ?_)
  have g1 := get_calls ac len0 cc z0 p W0 hr0 b0 (by omega)
  have g2 := fun W h => refGet_calls a0 len0 cap0 z0 p W (w0.below h) b0 (by omega)
  have g3 := fun W h => all_calls a0 len0 cap0 z0 W (w0.below h) b0 (by omega)
  have g4 := fun W h => refAll_calls a0 len0 cap0 z0 W (w0.below h) b0 (by omega)
  generalize (getA z0 p).1 = x at *
  generalize (getA z0 p).2.1 = y at *
  generalize (getA z0 p).2.2 = z at *
  generalize (allA z0).1 = l at *
  generalize (allA z0).2.1 = q at *
  generalize (allA z0).2.2 = r at *
  have G1 : Hid (Calls Try.prog 14 #[.slice ac len0 cc, .int .i64 p] W0 fun e w' => e = .returned (.tuple #[.int .u64 x, .int .i64 y, .int .i64 z]) ∧ Below W0.heap.size W0 w') := g1
  have G2 : Hid (∀ W, Below w.heap.size w W → Calls Try.prog 15 #[.slice a0 len0 cap0, .int .i64 p] W fun e w' => e = .returned (.tuple #[.int .u64 x, .int .i64 y, .int .i64 z]) ∧ Below W.heap.size W w') := g2
  have G3 : Hid (∀ W, Below w.heap.size w W → Calls Try.prog 16 #[.slice a0 len0 cap0] W fun e w' => ∃ v, e = .returned (.tuple #[v, .int .i64 q, .int .i64 r]) ∧ w'.ownsRow W.heap.size 25 1 v l.length (l.map (Value.int .u64)) ∧ Below W.heap.size W w') := g3
  have G4 : Hid (∀ W, Below w.heap.size w W → Calls Try.prog 17 #[.slice a0 len0 cap0] W fun e w' => ∃ v, e = .returned (.tuple #[v, .int .i64 q, .int .i64 r]) ∧ w'.ownsRow W.heap.size 25 1 v l.length (l.map (Value.int .u64)) ∧ Below W.heap.size W w') := g4
  clear g1 g2 g3 g4 hrun hr0 w0
  refine G1.out.mono ?_
  rintro e W1 ⟨rfl, hB1⟩
  have hB1' : Below w.heap.size w W1 := hB0.trans (hB1.mono hB0.size)
  go_wp2_with fail
  refine (G2.out W1 hB1').mono ?_
  rintro e W2 ⟨rfl, hB2⟩
  have hB2' : Below w.heap.size w W2 := hB1'.trans (hB2.mono hB1'.size)
  go_wp2_with fail
  refine (G3.out W2 hB2').mono ?_
  rintro e W3 ⟨v3, rfl, hown3, hB3⟩
  have hB3' : Below w.heap.size w W3 := hB2'.trans (hB3.mono hB2'.size)
  obtain ⟨a3, c3, rfl, hr3⟩ := row_of_owns_any hown3
  generalize l.length = nl at *
  go_wp2_with fail
  refine (G4.out W3 hB3').mono ?_
  rintro e W4 ⟨v4, rfl, hown4, hB4⟩
  have hB4' : Below w.heap.size w W4 := hB3'.trans (hB4.mono hB3'.size)
  obtain ⟨a4, c4, rfl, hr4⟩ := row_of_owns_any hown4
  have G5 : Hid (Calls Try.prog 18 #[.slice a3 nl c3, .slice a4 nl c4] W4 fun e w' => e = .returned (.bool true) ∧ Below W4.heap.size W4 w') := numbers_calls a3 a4 nl c3 c4 l W4 (hr3.below hB4) hr4 hz
  clear hown3 hown4 hr3 hr4 G1 G2 G3 G4
  go_wp2_with fail
  refine G5.out.mono ?_
  rintro e W5 ⟨rfl, hB5⟩
  go_wp2_with (go_at_call 13; refine (awake_calls _).mono ?_; rintro e w' ⟨rfl, rfl⟩)
  go_ret
  exact ⟨rfl, hB4'.trans (hB5.mono hB4'.size)⟩

theorem own : ownKnob Try.prog.godebug = none := by kernel_rfl
theorem laidOut : laidOutB Try.prog = true := by kernel_rfl

theorem contract (H : Type) (enc : TypeId × Value → H) (W : World) (base : Nat) (args : Array Value) (ds gs : List (DataW H)) (before : List MemPlace)
    (hval : ∀ (j : Nat) t v, Try.f4.params[j]? = some t → args[j]? = some v → Value.okWide Try.prog W .any base t v)
    (hW : DataW.Whole enc Try.prog Try.f4.params.toList Rows.quadGetsSpec.vars false W args.toList ds gs before) (hk : Rows.uptoSmall H (ds ++ gs) = true) :
    Calls Try.prog 4 args W fun e W' => ∃ v, e = .returned v ∧ Rows.quadGetsSpec.post enc Try.prog Try.f4 false true false false W args v W' := by
  have hW' := hW
  obtain ⟨p, q, hA0, hV, rfl, hfz, hnd⟩ := hW
  have hA : DataW.TrodAll enc Try.prog W 0 (fun _ => true) true Try.f4.params.toList args.toList ds p := hA0
  rw [Try.params4] at hA hval
  obtain ⟨v0, vs0, d0, ds0, p0, q0, hargs, rfl, rfl, h0, r0⟩ := trodAll_cons hA
  obtain ⟨v1, vs1, d1, ds1, p1, q1, rfl, rfl, rfl, h1, r1⟩ := trodAll_cons r0
  obtain ⟨rfl, rfl, rfl⟩ := trodAll_nil r1
  obtain rfl : args = #[v0, v1] := by cases args; simp_all
  obtain ⟨rfl, rfl⟩ := trodVars_none hV
  have hk' : Rows.uptoBulkAll ([d0, d1] ++ []) ≤ 1048576 := of_decide_eq_true hk
  simp only [List.append_nil, Rows.uptoBulkAll] at hk'
  obtain ⟨a0, len0, cap0, rfl⟩ := okWide_slice Try.underlying22 (hval 0 22 v0 rfl rfl)
  have k0 := h0
  have lt0 : ∀ x ∈ p0, x.block < W.heap.size := by obtain ⟨m, hm⟩ := k0; exact DataW.trod_lt m _ _ _ hm
  obtain ⟨z0, w0, f0, l0⟩ := open_arg Try.underlying22 Try.underlying5 (by kernel_rfl) h0
  obtain ⟨a1, rfl, rfl, rfl, w1⟩ := open_int Try.underlying3 (hval 1 3 v1 rfl rfl) h1
  clear hA0
  refine (walk a0 len0 cap0 z0 a1 W w0 (bytes_of_wf f0) (by omega)).mono fun e W' ⟨he, bel⟩ => ?_
  subst he
  exact ⟨_, rfl, _, _, _, [], _, [], hW', trodAll_mk1 (shut_bool Try.underlying4 _), (trodAll_cons_mk (Below.trod laidOut (by kernel_rfl) (of_decide_eq_true (by kernel_rfl)) k0 bel lt0) (trodAll_cons_mk (shut_int Try.underlying3 w1) trodAll_mk0)), rfl, bel.frame _, fun h => by cases h⟩

set_option maxRecDepth 100000 in
theorem lifted (os : Os) (started : os.Started) (H : Type) (enc : TypeId × Value → H) (F : Stop.Interp) :
    ReturnsInHanded {} Try.checked os 4 .any ((Rows.OpenSpec.upto Rows.quadGetsSpec).pre6 enc Try.prog Try.f4 Rows.quadGetsUptoRow.domain false) (((Rows.OpenSpec.upto Rows.quadGetsSpec).at F).post enc Try.prog Try.f4 false true false false) := by
  refine returnsInHanded_of_cond (C := Try.checked) (s := Rows.OpenSpec.upto Rows.quadGetsSpec) (k := Rows.uptoSmall) rfl own started (by kernel_rfl) Try.func4
    (OpenSpec.witness (enc := enc) (C := Try.checked) (s := Rows.OpenSpec.upto Rows.quadGetsSpec) (k := Rows.uptoSmall) rfl false ⟨#[], #[.slice none 0 0, .int .i64 0], []⟩ 8 (by kernel_rfl) (by kernel_rfl) (by kernel_rfl)
      (x := ([.nil, .lit (.int .i64 0)], [], [])) (by kernel_rfl) rfl (by kernel_rfl)) ?_
  intro W base args ds gs before hval hW _ hk _
  exact contract H enc W base args ds gs before hval hW hk

theorem proved : Rows.QuadGetsUptoSaid :=
  OpenClaim.holds_of_cond 4 Try.f4 rfl rfl rfl rfl rfl rfl rfl ⟨rfl, rfl, rfl, rfl, rfl⟩ rfl rfl rfl rfl rfl (by kernel_rfl) Try.func4 (by kernel_rfl)
    (of_decide_eq_true (by kernel_rfl)) (by unfold Func.isWrapper; first | (rw [if_pos (by decide +kernel)]; kernel_rfl) | (rw [if_neg (by decide +kernel)]; exact ⟨rfl, rfl⟩))
    (fun os started H enc _ F => lifted os started H enc F)
end Go.Proofs.Ytponbelnmokclaa.quadGets
namespace Go.Proofs.Ytponbelnmokclaa
theorem QuadGets_holds : Rows.QuadGetsUptoSaid := quadGets.proved
end Go.Proofs.Ytponbelnmokclaa
