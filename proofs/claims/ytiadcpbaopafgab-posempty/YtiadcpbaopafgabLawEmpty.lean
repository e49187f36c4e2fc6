/-
  PROVED HERE: the statement PosEmpty: through no range, and through ranges that change nothing, a place stays, and is not gone; no condition.
-/
import Derived.Test.YtiadcpbaopafgabEmptyM
namespace Go.Proofs.Ytiadcpbaopafgab.posEmpty
open Go.ChangeShapes Go.WideShapes Go.ChangeAt Go.RowKit

set_option maxRecDepth 100000 in
set_option maxHeartbeats 4000000 in
theorem walk (a : Option Addr) (len cap : Nat) (zs : List Int) (p side : Int) (w : World) (hz : Smalls w a len zs) (hlen : len ≤ 9223372036854775807) :
    Calls Try.prog 4 #[.slice a len cap, .int .i64 p, .int .i64 side] w fun e w' => e = .returned (.bool true) ∧ Below w.heap.size w w' := by
  have c1 := map_calls none 0 0 [] p side w ⟨rfl, .inl rfl⟩ (by omega)
  have HM : Hid (∀ (W : World) (a1 : Option Addr) (n c : Nat) (l : List Rng), Rngs W a1 n l → n ≤ 4 → still l → rightL l 0 = true → mapE [] p = 0 → ∃ t2 t3, Calls Try.prog 10 #[.slice a1 n c, .int .i64 p, .int .i64 side] W fun e w' => e = .returned (.tuple #[.agg #[.int .i64 p, .bool false, .int .i64 t2, .int .i64 t3], .int .i64 0]) ∧ Below W.heap.size W w') := fun W a1 n c l hl hn hs hr h0 => by
    obtain ⟨_, h2⟩ := map_ok h0
    have hR : right l = true := by
      unfold right
      rw [hl.1, hr, show decide (n ≤ 4) = true from by simpa using hn]
      rfl
    have h := map_calls a1 n c l p side W hl (by omega)
    obtain ⟨g1, g2⟩ := send_still l 0 p side hs
    rw [map_zero hR h2, map_send hR h2] at h
    unfold spotV at h
    rw [g1, g2] at h
    exact ⟨_, _, h⟩
  have HE : Hid (mapE [] p = 0 → mapA [] p side = ⟨p, false, -1, 0⟩) := fun h => map_nil p side h
  have HE2 : Hid (mapE [] p ≠ 0 → mapA [] p side = ⟨0, false, 0, 0⟩) := fun h => map_bad [] p side h
  unfold spotV at *
  generalize hE1 : mapE [] p = E1 at *
  clear hE1
  by_cases z1 : E1 = 0
  · have hs := HE.out z1
    rw [hs] at c1
    subst z1
    simp only at c1
    clear hs HE HE2
    go_enter Try.func4, Try.ntmps4
    go_wp2_with fail
    refine c1.mono ?_
    rintro e W1 ⟨rfl, hB1⟩
    obtain ⟨V1, hV1⟩ : ∃ V1, W1.alloc (.cells #[.int .i64 p, .bool false, .int .i64 (-1), .int .i64 0] 28) = V1 := ⟨_, rfl⟩
    have hC1 : Below w.heap.size w V1 := by rw [← hV1]; exact hB1.alloc hB1.size _
    have m1 : V1.heap[W1.heap.size]? = some (.cells #[.int .i64 p, .bool false, .int .i64 (-1), .int .i64 0] 28 (0, 0)) := by rw [← hV1]; exact World.alloc_heap_new W1 _
    have l1 : W1.heap.size < V1.heap.size := (Array.getElem?_eq_some_iff.1 m1).1
    have HV1 : Hid (W1.alloc (.cells #[.int .i64 p, .bool false, .int .i64 (-1), .int .i64 0] 28) = V1) := hV1
    clear hV1 c1
    go_wp2_with fail
    rw [HV1.out]
    go_loopw [9, 10, 11] (fun u y i w' => ∃ (k : Nat) (d : Int) (l : List Rng) (v : Value), k ≤ len ∧ k ≤ 4 ∧ i = .int .i64 (k : Int) ∧ y = .int .i64 d ∧ v = u ∧ 0 ≤ d ∧ d ≤ 100 * (k : Int) ∧ l.length = k ∧ still l ∧ rightL l 0 = true ∧ (∀ x ∈ l, x.a + x.o ≤ d) ∧ w'.ownsRow V1.heap.size 41 3 v k (flatR l) ∧ Below V1.heap.size V1 w') (fun _ _ i _ => 4 - (intOf i).toNat)
    case atStart => exact ⟨0, 0, [], .slice none 0 0, Nat.zero_le _, by omega, rfl, rfl, rfl, by omega, by omega, rfl, (fun x hx => by cases hx), rfl, (fun x hx => by cases hx), ⟨rfl, .inl ⟨rfl, rfl⟩⟩, Below.refl _ _⟩
    case round =>
      obtain ⟨k, d, l, v, hk, hk4, rfl, rfl, rfl, d0, d1, hl, hst, hri, hle, hrow, hB⟩ := hrel
      by_cases hlt : k < len
      · by_cases hlt4 : k < 4
        · obtain ⟨zl, zb, hzz⟩ := hz
          obtain ⟨z, hzk⟩ : ∃ z, zs[k]? = some z := ⟨_, List.getElem?_eq_getElem (by omega)⟩
          have hzb := zb z (List.mem_of_getElem? hzk)
          obtain ⟨b, o, rfl, hbl, hc⟩ : ∃ b o, a = some ⟨b, o, none⟩ ∧ b < w.heap.size ∧ ∀ i z, zs[i]? = some z → w.cell? ⟨b, o + i, none⟩ = some (.int .u16 z) := by
            rcases hzz with h | h
            · omega
            · exact h
          have hcz : wr.cell? ⟨b, o + k, none⟩ = some (.int .u16 z) := ((hC1.trans (hB.mono hC1.size)).cell (p := ⟨b, _, none⟩) hbl).trans (hc k z hzk)
          obtain ⟨X1, hX1⟩ : ∃ X1, wr.alloc (.cells #[.int .i64 (d + z % 100), .int .i64 0, .int .i64 0] 41) = X1 := ⟨_, rfl⟩
          have mE : X1.heap[wr.heap.size]? = some (.cells #[.int .i64 (d + z % 100), .int .i64 0, .int .i64 0] 41 (0, 0)) := by rw [← hX1]; exact World.alloc_heap_new wr _
          have hBX : Below V1.heap.size V1 X1 := by rw [← hX1]; exact hB.alloc hB.size _
          have hrowX : X1.ownsRow V1.heap.size 41 3 v k (flatR l) := owns_keep hrow (fun g hg => by rw [← hX1]; exact Below.heap_alloc _ _ _ (owns_block hrow hg).2.1)
          obtain ⟨v2, X2, hrun, hrow2, hgr, _⟩ := rng_append1 V1.heap.size v k l X1 hrowX hBX.size ⟨d + z % 100, 0, 0⟩ wr.heap.size 1 mE (by omega)
          have hB2 : Below V1.heap.size V1 X2 := hBX.grown hgr hBX.size (fun g e => (owns_block hrowX e).1)
          have HX1 : Hid (wr.alloc (.cells #[.int .i64 (d + z % 100), .int .i64 0, .int .i64 0] 41) = X1) := hX1
          have HRUN : Hid _ := hrun
          have HNEXT : Hid ((l ++ [(⟨d + z % 100, 0, 0⟩ : Rng)]).length = k + 1 ∧ still (l ++ [(⟨d + z % 100, 0, 0⟩ : Rng)]) ∧ rightL (l ++ [(⟨d + z % 100, 0, 0⟩ : Rng)]) 0 = true ∧ ∀ x ∈ l ++ [(⟨d + z % 100, 0, 0⟩ : Rng)], x.a + x.o ≤ d + z % 100) := by
            refine ⟨by simp [hl], ?_, ?_, ?_⟩
            · intro x hx
              rcases List.mem_append.1 hx with h | h
              · exact hst x h
              · obtain rfl : x = ⟨d + z % 100, 0, 0⟩ := by simpa using h
                exact ⟨rfl, rfl⟩
            · refine rightL_snoc l 0 hri (fun x hx => ?_) ?_ ?_
              · have := hle x hx
                simp only
                omega
              · simp only
                omega
              · rw [rightR_iff]
                simp only
                omega
            · intro x hx
              rcases List.mem_append.1 hx with h | h
              · have := hle x h
                omega
              · obtain rfl : x = ⟨d + z % 100, 0, 0⟩ := by simpa using h
                simp
          obtain ⟨g2, cap2, rfl⟩ := ownsRow_succ hrow2
          have HROW : Hid (X2.ownsRow V1.heap.size 41 3 (.slice (some ⟨g2, 0, none⟩) (k + 1) cap2) (k + 1) (flatR (l ++ [(⟨d + z % 100, 0, 0⟩ : Rng)]))) := hrow2
          have hsum : IntKind.i64.wrap (d + z % 100) = d + z % 100 := by rw [IntKind.wrap_i64]; omega
          have hrem : IntKind.u16.wrap (z % 100) = z % 100 := by rw [IntKind.wrap_u16]; omega
          clear hX1 hrun hrow2 hgr hrow hrowX mE hBX hst hri hle hl hc zb hzz hzk
          go_wp2_with (refine wpList_app_run rfl _ _ 22 rfl _ _ _ _ rfl rfl (by rw [HX1.out]; exact HRUN.out) ?_)
          go_roundw
          case rel => exact ⟨k + 1, d + z % 100, l ++ [(⟨d + z % 100, 0, 0⟩ : Rng)], _, by omega, by omega, by go_num, by go_num, rfl, by omega, by omega, HNEXT.out.1, HNEXT.out.2.1, HNEXT.out.2.2.1, HNEXT.out.2.2.2, HROW.out, hB2⟩
          case measure => simp [intOf]; omega
        · obtain ⟨a1, c2, rfl, r1, _⟩ := rngs_of_owns hrow
          obtain ⟨t2, t3, cm⟩ := HM.out wr a1 k c2 l r1 hk4 hst hri trivial
          have kb := (hB.block _ l1).trans m1
          have kl : W1.heap.size < wr.heap.size := Nat.lt_of_lt_of_le l1 hB.size
          have kw := hC1.trans (hB.mono hC1.size)
          obtain rfl : k = 4 := by omega
          clear hrow r1 hst hri hle hl HM hz
          go_wp2_with fail
          refine cm.mono ?_
          rintro e W4 ⟨rfl, hB4⟩
          have kb4 := (hB4.block _ kl).trans kb
          have kl4 : W1.heap.size < W4.heap.size := Nat.lt_of_lt_of_le kl hB4.size
          obtain ⟨q0, q1, q2, q3⟩ := cells4 kb4
          have kw4 := kw.trans (hB4.mono kw.size)
          have hA4 : ∀ ob, Below w.heap.size w (W4.alloc ob) := fun ob => kw4.alloc kw4.size _
          have ep : (p == p) = true := by simp
          go_wp2_with fail
          refine (awake_calls _).mono ?_
          rintro e W9 ⟨rfl, hB9⟩
          go_wp2
          go_ret
          exact ⟨rfl, (hA4 _).trans (hB9.mono (hA4 _).size)⟩
      · obtain ⟨a1, c2, rfl, r1, _⟩ := rngs_of_owns hrow
        obtain ⟨t2, t3, cm⟩ := HM.out wr a1 k c2 l r1 hk4 hst hri trivial
        have kb := (hB.block _ l1).trans m1
        have kl : W1.heap.size < wr.heap.size := Nat.lt_of_lt_of_le l1 hB.size
        have kw := hC1.trans (hB.mono hC1.size)
        have hnl : ¬ ((k : Int) < len) := by omega
        clear hrow r1 hst hri hle hl HM hz
        go_wp2_with fail
        refine cm.mono ?_
        rintro e W4 ⟨rfl, hB4⟩
        have kb4 := (hB4.block _ kl).trans kb
        have kl4 : W1.heap.size < W4.heap.size := Nat.lt_of_lt_of_le kl hB4.size
        obtain ⟨q0, q1, q2, q3⟩ := cells4 kb4
        have kw4 := kw.trans (hB4.mono kw.size)
        have hA4 : ∀ ob, Below w.heap.size w (W4.alloc ob) := fun ob => kw4.alloc kw4.size _
        have ep : (p == p) = true := by simp
        go_wp2_with fail
        refine (awake_calls _).mono ?_
        rintro e W9 ⟨rfl, hB9⟩
        go_wp2
        go_ret
        exact ⟨rfl, (hA4 _).trans (hB9.mono (hA4 _).size)⟩
  · have hs := HE2.out z1
    rw [hs] at c1
    have zb : (E1 == 0) = false := by simpa using z1
    have zc : (E1 != 0) = true := by simpa using z1
    simp only at c1
    clear hs HE HE2 HM
    go_enter Try.func4, Try.ntmps4
    go_wp2_with fail
    refine c1.mono ?_
    rintro e W1 ⟨rfl, hB1⟩
    have hA1 : ∀ ob, Below w.heap.size w (W1.alloc ob) := fun ob => hB1.alloc hB1.size _
    go_wp2_with fail
    refine (awake_calls _).mono ?_
    rintro e W9 ⟨rfl, hB9⟩
    go_wp2
    go_ret
    exact ⟨rfl, (hA1 _).trans (hB9.mono (hA1 _).size)⟩

theorem own : ownKnob Try.prog.godebug = none := by kernel_rfl
theorem laidOut : laidOutB Try.prog = true := by kernel_rfl

theorem contract (H : Type) (enc : TypeId × Value → H) (W : World) (base : Nat) (args : Array Value) (ds gs : List (DataW H)) (before : List MemPlace)
    (hval : ∀ (j : Nat) t v, Try.f4.params[j]? = some t → args[j]? = some v → Value.okWide Try.prog W .any base t v)
    (hW : DataW.Whole enc Try.prog Try.f4.params.toList Rows.posEmptySpec.vars false W args.toList ds gs before) (hsz0 : (DataW.weightsEach Try.prog (Try.f4.params.toList ++ Rows.posEmptySpec.plain.varTypes Try.prog) (ds ++ gs)).all (· ≤ reachBytes) = true) :
    Calls Try.prog 4 args W fun e W' => ∃ v, e = .returned v ∧ Rows.posEmptySpec.post enc Try.prog Try.f4 false true false false W args v W' := by
  have hW' := hW
  obtain ⟨p, q, hA0, hV, rfl, hfz, hnd⟩ := hW'
  have hA : DataW.TrodAll enc Try.prog W 0 (fun _ => true) true Try.f4.params.toList args.toList ds p := hA0
  rw [Try.params4] at hA hval
  obtain ⟨v0, vs0, d0, ds0, p0, q0, hargs, rfl, rfl, h0, r0⟩ := trodAll_cons hA
  obtain ⟨v1, vs1, d1, ds1, p1, q1, rfl, rfl, rfl, h1, r1⟩ := trodAll_cons r0
  obtain ⟨v2, vs2, d2, ds2, p2, q2, rfl, rfl, rfl, h2, r2⟩ := trodAll_cons r1
  obtain ⟨rfl, rfl, rfl⟩ := trodAll_nil r2
  obtain rfl : args = #[v0, v1, v2] := by cases args; simp_all
  obtain ⟨rfl, rfl⟩ := trodVars_none hV
  obtain ⟨a0, len0, cap0, rfl⟩ := okWide_slice Try.underlying36 (hval 0 36 v0 rfl rfl)
  have lt0 : ∀ x ∈ p0, x.block < W.heap.size := by obtain ⟨m, hm⟩ := h0; exact DataW.trod_lt m _ _ _ hm
  obtain ⟨l0, w0, s0⟩ := open_smalls h0
  obtain ⟨a1, rfl, rfl, rfl, w1⟩ := open_int Try.underlying3 (hval 1 3 v1 rfl rfl) h1
  obtain ⟨a2, rfl, rfl, rfl, w2⟩ := open_int Try.underlying3 (hval 2 3 v2 rfl rfl) h2
  clear hA0 hsz0
  refine (walk a0 len0 cap0 l0 a1 a2 W w0 s0).mono fun e W' ⟨he, bel⟩ => ?_
  subst he
  exact ⟨_, rfl, _, _, _, [], _, [], hW, trodAll_mk1 (shut_bool Try.underlying4 _), (trodAll_cons_mk (Below.trod laidOut (by kernel_rfl) (of_decide_eq_true (by kernel_rfl)) h0 bel lt0) (trodAll_cons_mk (shut_int Try.underlying3 w1) (trodAll_cons_mk (shut_int Try.underlying3 w2) trodAll_mk0))), rfl, bel.frame _, fun h => by cases h⟩

set_option maxRecDepth 100000 in
theorem lifted (os : Os) (started : os.Started) (H : Type) (enc : TypeId × Value → H) :
    ReturnsInHanded {} Try.checked os 4 .any (Rows.posEmptySpec.pre6 enc Try.prog Try.f4 Rows.posEmptyRow.domain false) (Rows.posEmptySpec.post enc Try.prog Try.f4 false true false false) := by
  refine returnsInHanded_of_change_sized (C := Try.checked) own started (by kernel_rfl) Try.func4
    (ChangeSpec.witness6 (enc := enc) (C := Try.checked) false ⟨#[], #[.slice none 0 0, .int .i64 0, .int .i64 0], []⟩ 8 (by kernel_rfl) (by kernel_rfl) (by kernel_rfl) (by kernel_rfl)) ?_
  intro W base args ds gs before hval hW _ hsz _
  exact contract H enc W base args ds gs before hval hW hsz

theorem proved : Rows.PosEmptySaid :=
  OpenClaim.holds_of_wide 4 Try.f4 rfl rfl rfl rfl rfl rfl rfl ⟨rfl, rfl, rfl, rfl, rfl⟩ rfl rfl rfl rfl rfl (by kernel_rfl) Try.func4 (by kernel_rfl)
    (of_decide_eq_true (by kernel_rfl)) (by unfold Func.isWrapper; first | (rw [if_pos (by decide +kernel)]; kernel_rfl) | (rw [if_neg (by decide +kernel)]; exact ⟨rfl, rfl⟩))
    (fun os started H enc _ => lifted os started H enc)
end Go.Proofs.Ytiadcpbaopafgab.posEmpty
namespace Go.Proofs.Ytiadcpbaopafgab
theorem PosEmpty_holds : Rows.PosEmptySaid := posEmpty.proved
end Go.Proofs.Ytiadcpbaopafgab
