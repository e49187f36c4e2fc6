/-
  PROVED HERE: the statement SumParts in its second form: the sum of two parts is that of both, by going on and by joining; where what comes in is of bulk at most 1048576.
-/
import Derived.Test.YtomfmakljffgmaaArgs
import Derived.JoinedCond
namespace Go.Proofs.Ytomfmakljffgmaa.sumParts
open Go.ChangeShapes Go.WideShapes Go.ChangeAt Go.RowKit

set_option maxRecDepth 100000 in
set_option maxHeartbeats 1000000 in
theorem walk (a0 : Option Addr) (len0 cap0 : Nat) (z0 : List Int) (a1 : Option Addr) (len1 cap1 : Nat) (z1 : List Int) (w : World) (w0 : Row .u8 w a0 len0 z0) (u0 : Bytes z0) (w1 : Row .u8 w a1 len1 z1) (u1 : Bytes z1) (s0 : len0 ≤ 1048576) (s1 : len1 ≤ 1048576) :
    Calls Try.prog 5 #[.slice a0 len0 cap0, .slice a1 len1 cap1] w fun e w' => e = .returned (.bool true) ∧ Below w.heap.size w w' := by
  obtain ⟨v0, W1, hrun, hown, hv0, hB1⟩ := clone_own a0 len0 cap0 z0 w w0 (by omega)
  obtain ⟨v1, W2, hrun2, hown2, hv1, hB2⟩ := append_own w.heap.size v0 len0 z0 W1 hown hv0 hB1.size a1 len1 cap1 z1 (w1.below hB1) (by omega)
  obtain ⟨g, cap, _, rfl, _, _, _, _, hr⟩ := row_of_owns hown2 hv1
  clear hown hown2 hv1
  have b2 : Below w.heap.size w W2 := hB1.trans hB2
  obtain ⟨p0, q0⟩ := more_fits 1 z0
  obtain ⟨p1, q1⟩ := more_fits 1 z1
  have hl : z1.length = len1 := w1.1
  have hk : ∀ W : World, Below w.heap.size w W → ∀ cap : Nat, Calls Try.prog 8 #[.slice a0 len0 cap0] W fun e w' => e = .returned (.int .u32 (more 1 z0)) ∧ Below W.heap.size W w' := fun W h _ => of_calls a0 len0 cap0 z0 W (w0.below h) u0 (by omega)
  have h1 := fun W (h : Below w.heap.size w W) => of_calls a1 len1 cap1 z1 W (w1.below h) u1 (by omega)
  have h0 := fun W (h : Below w.heap.size w W) => of_calls a0 len0 cap0 z0 W (w0.below h) u0 (by omega)
  have h2 := fun W (h : Below W2.heap.size W2 W) => of_calls (some ⟨g, 0, none⟩) (len0 + len1) cap (z0 ++ z1) W (hr.below h) (u0.append u1) (by omega)
  have h3 := fun W => join_calls (more 1 z0) (more 1 z1) (len1 : Int) W p0 q0 p1 q1 (by omega) (by omega)
  have h4 := fun W (h : Below w.heap.size w W) => more_calls (more 1 z0) a1 len1 cap1 z1 W p0 q0 (w1.below h) u1 (by omega)
  have e3 : joinA (more 1 z0) (more 1 z1) (len1 : Int) = (more 1 (z0 ++ z1), 0) := by unfold joinA; rw [if_neg (by omega), ← hl, join_more]
  rw [e3] at h3
  rw [more_more] at h4
  clear hk e3
  generalize more 1 z0 = x at *
  generalize more 1 z1 = y at *
  generalize more 1 (z0 ++ z1) = z at *
  have hln : ((len0 + len1 : Nat) : Int) = ((len0 + len1 : Nat) : Int) := rfl
  generalize hm : len0 + len1 = m at *
  have H0 : Hid (∀ W, Below w.heap.size w W → Calls Try.prog 8 #[.slice a0 len0 cap0] W fun e w' => e = .returned (.int .u32 x) ∧ Below W.heap.size W w') := h0
  have H1 : Hid (∀ W, Below w.heap.size w W → Calls Try.prog 8 #[.slice a1 len1 cap1] W fun e w' => e = .returned (.int .u32 y) ∧ Below W.heap.size W w') := h1
  have H2 : Hid (∀ W, Below W2.heap.size W2 W → Calls Try.prog 8 #[.slice (some ⟨g, 0, none⟩) m cap] W fun e w' => e = .returned (.int .u32 z) ∧ Below W.heap.size W w') := h2
  have H3 : Hid (∀ W : World, Calls Try.prog 13 #[.int .u32 x, .int .u32 y, .int .i64 (len1 : Int)] W fun e w' => e = .returned (.tuple #[.int .u32 z, .int .i64 0]) ∧ w' = W) := h3
  have H4 : Hid (∀ W, Below w.heap.size w W → Calls Try.prog 10 #[.int .u32 x, .slice a1 len1 cap1] W fun e w' => e = .returned (.int .u32 z) ∧ Below W.heap.size W w') := h4
  clear h0 h1 h2 h3 h4 hr hln hm
  go_enter Try.func5, Try.ntmps5
  go_wp2_with (at_builtin; first | refine wpList_append_run rfl _ _ 22 rfl _ _ _ _ rfl rfl hrun ?_ | refine wpList_append_run rfl _ _ 22 rfl _ _ _ _ rfl rfl hrun2 ?_)
  clear hrun hrun2
  refine (H0.out W2 b2).mono ?_
  rintro e W3 ⟨rfl, hB3⟩
  have b3 : Below w.heap.size w W3 := b2.trans (hB3.mono b2.size)
  go_wp2_with fail
  refine (H1.out W3 b3).mono ?_
  rintro e W4 ⟨rfl, hB4⟩
  have c4 : Below W2.heap.size W2 W4 := hB3.trans (hB4.mono hB3.size)
  have b4 : Below w.heap.size w W4 := b2.trans (c4.mono b2.size)
  go_wp2_with fail
  refine (H3.out W4).mono ?_
  rintro e w' ⟨rfl, rfl⟩
  go_wp2_with fail
  refine (H0.out _ b4).mono ?_
  rintro e W5 ⟨rfl, hB5⟩
  have c5 : Below W2.heap.size W2 W5 := c4.trans (hB5.mono c4.size)
  have b5 : Below w.heap.size w W5 := b2.trans (c5.mono b2.size)
  go_wp2_with fail
  refine (H4.out _ b5).mono ?_
  rintro e W6 ⟨rfl, hB6⟩
  have c6 : Below W2.heap.size W2 W6 := c5.trans (hB6.mono c5.size)
  go_wp2_with fail
  refine (H2.out _ c6).mono ?_
  rintro e W7 ⟨rfl, hB7⟩
  have c7 : Below W2.heap.size W2 W7 := c6.trans (hB7.mono c6.size)
  go_wp2_with fail
  refine (H2.out _ c7).mono ?_
  rintro e W8 ⟨rfl, hB8⟩
  have c8 : Below W2.heap.size W2 W8 := c7.trans (hB8.mono c7.size)
  go_wp2_with fail
  refine (awake_calls _).mono ?_
  rintro e W9 ⟨rfl, hB9⟩
  have c9 : Below W2.heap.size W2 W9 := c8.trans (hB9.mono c8.size)
  go_wp2
  go_ret
  exact ⟨rfl, b2.trans (c9.mono b2.size)⟩

theorem own : ownKnob Try.prog.godebug = none := by kernel_rfl
theorem laidOut : laidOutB Try.prog = true := by kernel_rfl

theorem contract (H : Type) (enc : TypeId × Value → H) (W : World) (base : Nat) (args : Array Value) (ds gs : List (DataW H)) (before : List MemPlace)
    (hval : ∀ (j : Nat) t v, Try.f5.params[j]? = some t → args[j]? = some v → Value.okWide Try.prog W .any base t v)
    (hW : DataW.Whole enc Try.prog Try.f5.params.toList Rows.sumPartsSpec.vars false W args.toList ds gs before) (hk : Rows.uptoSmall H (ds ++ gs) = true) :
    Calls Try.prog 5 args W fun e W' => ∃ v, e = .returned v ∧ Rows.sumPartsSpec.post enc Try.prog Try.f5 false true false false W args v W' := by
  have hW' := hW
  obtain ⟨p, q, hA0, hV, rfl, hfz, hnd⟩ := hW
  have hA : DataW.TrodAll enc Try.prog W 0 (fun _ => true) true Try.f5.params.toList args.toList ds p := hA0
  rw [Try.params5] at hA hval
  obtain ⟨v0, vs0, d0, ds0, p0, q0, hargs, rfl, rfl, h0, r0⟩ := trodAll_cons hA
  obtain ⟨v1, vs1, d1, ds1, p1, q1, rfl, rfl, rfl, h1, r1⟩ := trodAll_cons r0
  obtain ⟨rfl, rfl, rfl⟩ := trodAll_nil r1
  obtain rfl : args = #[v0, v1] := by cases args; simp_all
  obtain ⟨rfl, rfl⟩ := trodVars_none hV
  have hk' : Rows.uptoBulkAll ([d0, d1] ++ []) ≤ 1048576 := of_decide_eq_true hk
  simp only [List.append_nil, Rows.uptoBulkAll] at hk'
  obtain ⟨a0, len0, cap0, rfl⟩ := okWide_slice Try.underlying22 (hval 0 22 v0 rfl rfl)
  have k0 := h0
  have lt0 : ∀ x ∈ p0, x.block < W.heap.size := by obtain ⟨m, hm⟩ := k0; exact DataW.trod_lt m _ _ _ hm
  obtain ⟨z0, w0, f0, l0, _⟩ := open_arg Try.underlying22 Try.underlying5 (by kernel_rfl) h0
  obtain ⟨a1, len1, cap1, rfl⟩ := okWide_slice Try.underlying22 (hval 1 22 v1 rfl rfl)
  have k1 := h1
  have lt1 : ∀ x ∈ p1, x.block < W.heap.size := by obtain ⟨m, hm⟩ := k1; exact DataW.trod_lt m _ _ _ hm
  obtain ⟨z1, w1, f1, l1, _⟩ := open_arg Try.underlying22 Try.underlying5 (by kernel_rfl) h1
  clear hA0
  refine (walk a0 len0 cap0 z0 a1 len1 cap1 z1 W w0 (bytes_of_wf f0) w1 (bytes_of_wf f1) (by omega) (by omega)).mono fun e W' ⟨he, bel⟩ => ?_
  subst he
  exact ⟨_, rfl, _, _, _, [], _, [], hW', trodAll_mk1 (shut_bool Try.underlying4 _), (trodAll_cons_mk (Below.trod laidOut (by kernel_rfl) (of_decide_eq_true (by kernel_rfl)) k0 bel lt0) (trodAll_cons_mk (Below.trod laidOut (by kernel_rfl) (of_decide_eq_true (by kernel_rfl)) k1 bel lt1) trodAll_mk0)), rfl, bel.frame _, fun h => by cases h⟩

set_option maxRecDepth 100000 in
theorem lifted (os : Os) (started : os.Started) (H : Type) (enc : TypeId × Value → H) (F : Stop.Interp) :
    ReturnsInHanded {} Try.checked os 5 .any ((Rows.OpenSpec.upto Rows.sumPartsSpec).pre6 enc Try.prog Try.f5 Rows.sumPartsUptoRow.domain false) (((Rows.OpenSpec.upto Rows.sumPartsSpec).at F).post enc Try.prog Try.f5 false true false false) := by
  refine returnsInHanded_of_cond (C := Try.checked) (s := Rows.OpenSpec.upto Rows.sumPartsSpec) (k := Rows.uptoSmall) rfl own started (by kernel_rfl) Try.func5
    (OpenSpec.witness (enc := enc) (C := Try.checked) (s := Rows.OpenSpec.upto Rows.sumPartsSpec) (k := Rows.uptoSmall) rfl false ⟨#[], #[.slice none 0 0, .slice none 0 0], []⟩ 8 (by kernel_rfl) (by kernel_rfl) (by kernel_rfl)
      (x := ([.nil, .nil], [], [])) (by kernel_rfl) rfl (by kernel_rfl)) ?_
  intro W base args ds gs before hval hW _ hk _
  exact contract H enc W base args ds gs before hval hW hk

theorem proved : Rows.SumPartsUptoSaid :=
  OpenClaim.holds_of_cond 5 Try.f5 rfl rfl rfl rfl rfl rfl rfl ⟨rfl, rfl, rfl, rfl, rfl⟩ rfl rfl rfl rfl rfl (by kernel_rfl) Try.func5 (by kernel_rfl)
    (of_decide_eq_true (by kernel_rfl)) (by unfold Func.isWrapper; first | (rw [if_pos (by decide +kernel)]; kernel_rfl) | (rw [if_neg (by decide +kernel)]; exact ⟨rfl, rfl⟩))
    (fun os started H enc _ F => lifted os started H enc F)
end Go.Proofs.Ytomfmakljffgmaa.sumParts
namespace Go.Proofs.Ytomfmakljffgmaa
theorem SumParts_holds : Rows.SumPartsUptoSaid := sumParts.proved
end Go.Proofs.Ytomfmakljffgmaa
