/-
  PROVED HERE: the statement FlatText: the text of tokens is that of their parts, one behind the other, wherever they are cut; no condition.
-/
import Derived.Test.YtcakpdehphpibabFText
import Derived.Test.YtcakpdehphpibabFCut
import Derived.Test.YtcakpdehphpibabFSame
import Derived.Test.YtcakpdehphpibabDoc
import Derived.Test.YtcakpdehphpibabFit
namespace Go.Proofs.Ytcakpdehphpibab.flatText
open Go.ChangeShapes Go.WideShapes Go.ChangeAt Go.RowKit

theorem str_append (xs ys : List Int) : strOfNums xs ++ strOfNums ys = strOfNums (xs ++ ys) := by
  apply ByteArray.ext
  simp [strOfNums, ByteArray.data_append]

theorem wpList_want {ops : Array Oper} {rest : List Oper} {o : Oper} {a : Act} {w : World} {Q : Exit → Act → World → Prop} (hw : Region.wanted o (yielded ops a.tmps) = true) (s x : Operand) (t : TypeId) (ho : o.op = .call { callee := .builtin .append, args := #[s, x], argTypes := #[t, t] })
    (v u v' : Value) (w' : World) (hs : a.eval s = v) (hx : a.eval x = u) (hr : (Builtin.append_ #[t, t] o.type #[v, u]).run Try.prog w = .ok v' w') (h : wpList Try.prog ops Q rest (a.put o.dst v') w') : wpList Try.prog ops Q (o :: rest) a w :=
  wpList_step fun K hK => by
    simp only [hw, if_true]
    exact wp_tok_run s x t ho v u v' w' hs hx hr (hK _ _ h)

set_option maxRecDepth 100000 in
set_option maxHeartbeats 4000000 in
theorem walk (a : Option Addr) (len cap : Nat) (l : List Tok) (t : Int) (w : World) (hl : Toks w a len l) (hsz : len ≤ 4398046511104) (hc1 : len ≤ cap) (hc2 : cap ≤ 9223372036854775807) (hc3 : a = none → cap = 0) (hc4 : ∀ x, a = some x → 0 < cap → x.spot = none) (ht0 : 0 ≤ t) (ht1 : t ≤ 65535) :
    Calls Try.prog 4 #[.slice a len cap, .int .u16 t] w fun e w' => e = .returned (.bool true) ∧ Below w.heap.size w w' := by
  have hL := hl.1
  obtain ⟨k, hk⟩ : ∃ k : Nat, t.tmod ((len : Int) + 1) = (k : Int) := ⟨(t % ((len : Int) + 1)).toNat, by
    rw [Int.tmod_eq_emod_of_nonneg ht0]
    exact (Int.toNat_of_nonneg (Int.emod_nonneg _ (by omega))).symm⟩
  have hkl : k ≤ len := by
    have h1 := Int.emod_lt_of_pos t (show (0 : Int) < (len : Int) + 1 by omega)
    rw [Int.tmod_eq_emod_of_nonneg ht0] at hk
    omega
  have hk2 : t % ((len : Int) + 1) = (k : Int) := by rw [← hk, Int.tmod_eq_emod_of_nonneg ht0]
  have H1 := fcut_calls a len cap l 0 k w hl hsz hc1 hc2 hc3 hc4
  have H2 := fun W (hW : Below w.heap.size w W) => fcut_calls a len cap l k len W (hl.below hW) hsz hc1 hc2 hc3 hc4
  rw [(cut_low l k (by omega)).1, (cut_low l k (by omega)).2] at H1
  rw [← hL] at H2
  rw [(cut_high l k (by omega)).1, (cut_high l k (by omega)).2] at H2
  rw [hL] at H2
  have HA1 : (l.take k).length = k := by rw [List.length_take]; omega
  have HA2 : (l.drop k).length = len - k := by rw [List.length_drop]; omega
  rw [HA1] at H1
  rw [HA2] at H2
  have HTx : Hid (text (l.take k) ++ text (l.drop k) = text l) := by show _ = _; rw [← text_append, List.take_append_drop]
  have HJ : Hid (l.take k ++ l.drop k = l) := List.take_append_drop k l
  generalize l.take k = A at *
  generalize l.drop k = D at *
  go_enter Try.func4, Try.ntmps4
  go_wp2_with fail
  refine H1.mono ?_
  rintro e W1 ⟨aA, capA, rfl, tA, cA, b1⟩
  go_wp2_with fail
  refine (H2 W1 b1).mono ?_
  rintro e W2 ⟨aD, capD, rfl, tD, cD, b2⟩
  have g2 := b1.trans (b2.mono b1.size)
  have tA2 := tA.below b2
  have H3 := ftext_calls aA k capA A W2 tA2 (by omega)
  have H4 := fun W (hW : Below W2.heap.size W2 W) => ftext_calls aD (len - k) capD D W (tD.below hW) (by omega)
  have H5 := fun W (hW : Below w.heap.size w W) => ftext_calls a len cap l W (hl.below hW) hsz
  have hcat : strOfNums (text A) ++ strOfNums (text D) = strOfNums (text l) := by rw [str_append, HTx.out]
  have hss : ¬ (9223372036854775807 < (strOfNums (text A)).size + (strOfNums (text D)).size) := by
    rw [strOfNums_size, strOfNums_size]
    have h1 := text_length_le A
    have h2 := text_length_le D
    omega
  have hss2 : (strOfNums (text A)).size + (strOfNums (text D)).size ≤ 9223372036854775807 := by omega
  generalize strOfNums (text A) = SA at *
  generalize strOfNums (text D) = SD at *
  generalize strOfNums (text l) = SL at *
  clear H1 H2 tA b1 b2 hk hk2
  have hsub : ((len : Int) - (k : Int)) = ((len - k : Nat) : Int) := by omega
  go_wp2_with fail
  refine H3.mono ?_
  rintro e W3 ⟨rfl, b3⟩
  go_wp2_with fail
  refine (H4 W3 b3).mono ?_
  rintro e W4 ⟨rfl, b4⟩
  have f4 := b3.trans (b4.mono b3.size)
  have g4 := g2.trans (f4.mono g2.size)
  go_wp2_with fail
  refine (H5 W4 g4).mono ?_
  rintro e W5 ⟨rfl, b5⟩
  have f5 := f4.trans (b5.mono f4.size)
  have g5 := g4.trans (b5.mono g4.size)
  clear H3 H4 H5 b3 b4 f4 g4 b5
  obtain ⟨v1, W6, run1, o1, ne1, b6⟩ := tok_clone_own aA k capA A W5 (tA2.below f5) (by omega)
  obtain ⟨v2, W7, run2, o2, ne2, b7⟩ := tok_append_own W5.heap.size v1 k A W6 o1 ne1 b6.size aD (len - k) capD D ((tD.below f5).below b6) (by omega)
  rw [show k + (len - k) = len from by omega, HJ.out] at o2
  obtain ⟨g, cp, rfl, _, _, _, tL⟩ := toks_of_owns o2 ne2
  have g7 := g5.trans ((b6.trans b7).mono g5.size)
  have H6 := fsame_calls (some ⟨g, 0, none⟩) a len len cp cap l l W7 tL (hl.below g7) (by omega) (by omega)
  rw [(eqL_iff l l).2 rfl] at H6
  clear o1 o2 ne1 ne2 tL b6 b7 tA2 tD hl
  go_wp2_with (at_builtin; first | refine wpList_want (by rfl) _ _ 22 rfl _ _ _ _ rfl rfl run1 ?_ | refine wpList_want (by rfl) _ _ 22 rfl _ _ _ _ rfl rfl run2 ?_)
  refine H6.mono ?_
  rintro e W8 ⟨rfl, b8⟩
  have g8 := g7.trans (b8.mono g7.size)
  go_wp2_with fail
  refine (awake_calls _).mono ?_
  rintro e W9 ⟨rfl, hB9⟩
  go_wp2
  go_ret
  exact ⟨rfl, g8.trans (hB9.mono g8.size)⟩

theorem own : ownKnob Try.prog.godebug = none := by kernel_rfl
theorem laidOut : laidOutB Try.prog = true := by kernel_rfl

theorem contract (H : Type) (enc : TypeId × Value → H) (W : World) (base : Nat) (args : Array Value) (ds gs : List (DataW H)) (before : List MemPlace)
    (hval : ∀ (j : Nat) t v, Try.f4.params[j]? = some t → args[j]? = some v → Value.okWide Try.prog W .any base t v)
    (hW : DataW.Whole enc Try.prog Try.f4.params.toList Rows.flatTextSpec.vars false W args.toList ds gs before) (hsz0 : (DataW.weightsEach Try.prog (Try.f4.params.toList ++ Rows.flatTextSpec.plain.varTypes Try.prog) (ds ++ gs)).all (· ≤ reachBytes) = true) :
    Calls Try.prog 4 args W fun e W' => ∃ v, e = .returned v ∧ Rows.flatTextSpec.post enc Try.prog Try.f4 false true false false W args v W' := by
  have hW' := hW
  obtain ⟨p, q, hA0, hV, rfl, hfz, hnd⟩ := hW'
  have hA : DataW.TrodAll enc Try.prog W 0 (fun _ => true) true Try.f4.params.toList args.toList ds p := hA0
  have hsz : (DataW.weightsEach Try.prog (Try.f4.params.toList ++ Rows.flatTextSpec.plain.varTypes Try.prog) (ds ++ gs)).all (· ≤ reachBytes) = true := hsz0
  rw [Try.params4] at hA hval hsz
  obtain ⟨v0, vs0, d0, ds0, p0, q0, hargs, rfl, rfl, h0, r0⟩ := trodAll_cons hA
  obtain ⟨v1, vs1, d1, ds1, p1, q1, rfl, rfl, rfl, h1, r1⟩ := trodAll_cons r0
  obtain ⟨rfl, rfl, rfl⟩ := trodAll_nil r1
  obtain rfl : args = #[v0, v1] := by cases args; simp_all
  obtain ⟨rfl, rfl⟩ := trodVars_none hV
  obtain ⟨a0, len0, cap0, rfl⟩ := okWide_slice Try.underlying22 (hval 0 22 v0 rfl rfl)
  have lt0 : ∀ x ∈ p0, x.block < W.heap.size := by obtain ⟨m, hm⟩ := h0; exact DataW.trod_lt m _ _ _ hm
  obtain ⟨l0, w0, f0, c0, m0, n0, x0, g0⟩ := open_toks h0
  have s0 := toks_sized hsz (j := 0) rfl rfl g0
  obtain ⟨a1, rfl, rfl, rfl, w1⟩ := open_int Try.underlying28 (hval 1 28 v1 rfl rfl) h1
  clear hA0 hsz0 hsz
  refine (walk a0 len0 cap0 l0 a1 W w0 s0 c0 m0 n0 x0 (of_wf_u16 w1).1 (of_wf_u16 w1).2).mono fun e W' ⟨he, bel⟩ => ?_
  subst he
  exact ⟨_, rfl, _, _, _, [], _, [], hW, trodAll_mk1 (shut_bool Try.underlying4 _), (trodAll_cons_mk (Below.trod laidOut (by kernel_rfl) (of_decide_eq_true (by kernel_rfl)) h0 bel lt0) (trodAll_cons_mk (shut_int Try.underlying28 w1) trodAll_mk0)), rfl, bel.frame _, fun h => by cases h⟩

set_option maxRecDepth 100000 in
theorem lifted (os : Os) (started : os.Started) (H : Type) (enc : TypeId × Value → H) :
    ReturnsInHanded {} Try.checked os 4 .any (Rows.flatTextSpec.pre6 enc Try.prog Try.f4 Rows.flatTextRow.domain false) (Rows.flatTextSpec.post enc Try.prog Try.f4 false true false false) := by
  refine returnsInHanded_of_change_sized (C := Try.checked) own started (by kernel_rfl) Try.func4
    (ChangeSpec.witness6 (enc := enc) (C := Try.checked) false ⟨#[], #[.slice none 0 0, .int .u16 0], []⟩ 8 (by kernel_rfl) (by kernel_rfl) (by kernel_rfl) (by kernel_rfl)) ?_
  intro W base args ds gs before hval hW _ hsz _
  exact contract H enc W base args ds gs before hval hW hsz

theorem proved : Rows.FlatTextSaid :=
  OpenClaim.holds_of_wide 4 Try.f4 rfl rfl rfl rfl rfl rfl rfl ⟨rfl, rfl, rfl, rfl, rfl⟩ rfl rfl rfl rfl rfl (by kernel_rfl) Try.func4 (by kernel_rfl)
    (of_decide_eq_true (by kernel_rfl)) (by unfold Func.isWrapper; first | (rw [if_pos (by decide +kernel)]; kernel_rfl) | (rw [if_neg (by decide +kernel)]; exact ⟨rfl, rfl⟩))
    (fun os started H enc _ => lifted os started H enc)
end Go.Proofs.Ytcakpdehphpibab.flatText
namespace Go.Proofs.Ytcakpdehphpibab
theorem FlatText_holds : Rows.FlatTextSaid := flatText.proved
end Go.Proofs.Ytcakpdehphpibab
