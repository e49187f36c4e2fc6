/-
  PROVED HERE: the document's own Open at any bytes and any place answers what codec.Open answers.
-/
import Derived.Test.YtppiklgkpicfeaaCOpen
namespace Go.Proofs.Ytppiklgkpicfeaa
open Go.RowKit

theorem or4 (c0 c1 c2 c3 : Int) (h0 : 0 ≤ c0 ∧ c0 ≤ 255) (h1 : 0 ≤ c1 ∧ c1 ≤ 255) (h2 : 0 ≤ c2 ∧ c2 ≤ 255) (h3 : 0 ≤ c3 ∧ c3 ≤ 255) :
    bits BinOp.or IntKind.u32 (bits BinOp.or IntKind.u32 (bits BinOp.or IntKind.u32 (c0 * 16777216) (c1 * 65536)) (c2 * 256)) c3 = c0 * 16777216 + c1 * 65536 + c2 * 256 + c3 := by
  obtain ⟨a, rfl⟩ := Int.eq_ofNat_of_zero_le h0.1
  obtain ⟨b, rfl⟩ := Int.eq_ofNat_of_zero_le h1.1
  obtain ⟨c, rfl⟩ := Int.eq_ofNat_of_zero_le h2.1
  obtain ⟨d, rfl⟩ := Int.eq_ofNat_of_zero_le h3.1
  have g (x i y : Nat) (hy : y < 2 ^ i) : x * 2 ^ i ||| y = x * 2 ^ i + y := by
    have h5 := Nat.shiftLeft_add_eq_or_of_lt (b := y) (i := i) hy x
    rw [Nat.shiftLeft_eq] at h5
    exact h5.symm
  have e1 := u32_or_nat (a * 16777216) (b * 65536) (by omega) (by omega)
  rw [show a * 16777216 ||| b * 65536 = a * 16777216 + b * 65536 from g a 24 (b * 65536) (by omega)] at e1
  have e2 := u32_or_nat (a * 16777216 + b * 65536) (c * 256) (by omega) (by omega)
  rw [show (a * 16777216 + b * 65536) ||| c * 256 = a * 16777216 + b * 65536 + c * 256 from by
    have := g (a * 256 + b) 16 (c * 256) (by omega)
    rw [show (a * 256 + b) * 2 ^ 16 = a * 16777216 + b * 65536 from by omega] at this
    exact this] at e2
  have e3 := u32_or_nat (a * 16777216 + b * 65536 + c * 256) d (by omega) (by omega)
  rw [show (a * 16777216 + b * 65536 + c * 256) ||| d = a * 16777216 + b * 65536 + c * 256 + d from by
    have := g (a * 65536 + b * 256 + c) 8 d (by omega)
    rw [show (a * 65536 + b * 256 + c) * 2 ^ 8 = a * 16777216 + b * 65536 + c * 256 from by omega] at this
    exact this] at e3
  rw [show ((a : Int) * 16777216) = ((a * 16777216 : Nat) : Int) from by omega, show ((b : Int) * 65536) = ((b * 65536 : Nat) : Int) from by omega, e1, show ((c : Int) * 256) = ((c * 256 : Nat) : Int) from by omega, e2, e3]
  omega

theorem be4 (c0 c1 c2 c3 s : Int) (_h0 : 0 ≤ c0 ∧ c0 ≤ 255) (h1 : 0 ≤ c1 ∧ c1 ≤ 255) (h2 : 0 ≤ c2 ∧ c2 ≤ 255) (h3 : 0 ≤ c3 ∧ c3 ≤ 255) : [c0, c1, c2, c3] = be s ↔ c0 * 16777216 + c1 * 65536 + c2 * 256 + c3 = s := by
  unfold be
  simp only [List.cons.injEq, and_true]
  omega

theorem drop4 (bs : List Int) (n : Nat) (h : n + 4 ≤ bs.length) : (bs.drop n).take 4 = [bs.getD n 0, bs.getD (n + 1) 0, bs.getD (n + 2) 0, bs.getD (n + 3) 0] := by
  apply List.ext_getElem
  · simp; omega
  · intro i h1 h2
    simp at h2
    have : i = 0 ∨ i = 1 ∨ i = 2 ∨ i = 3 := by omega
    rw [List.getElem_take, List.getElem_drop]
    rcases this with rfl | rfl | rfl | rfl <;> simp [List.getD_eq_getElem?_getD, show n < bs.length from by omega, show n + 1 < bs.length from by omega, show n + 2 < bs.length from by omega, show n + 3 < bs.length from by omega]

set_option maxRecDepth 100000 in
set_option maxHeartbeats 4000000 in
theorem refOpen_calls (a : Option Addr) (len cap : Nat) (bs : List Int) (p : Int) (w : World) (hrow : Row .u8 w a len bs) (hbs : Bytes bs) (hlen : len ≤ 140737488355328) (hcap : len ≤ cap) (hcm : cap ≤ 9223372036854775807) :
    Calls Try.prog 8 #[.slice a len cap, .int .i64 p] w fun e w' => ∃ a' cap', e = .returned (.tuple #[.slice a' (opX bs p).length cap', .int .i64 (opAt bs p), .int .i64 (opE bs p)]) ∧ Row .u8 w' a' (opX bs p).length (opX bs p) ∧ Below w.heap.size w w' := by
  have hl : bs.length = len := hrow.1
  by_cases hp : p < 0 ∨ (len : Int) < p
  · have e1 : opE bs p = 1 := by unfold opE; rw [hl, if_pos hp]
    have e2 : opX bs p = [] := by unfold opX; rw [e1, if_neg (by decide)]
    have e3 : opAt bs p = p := by unfold opAt; rw [e1, if_neg (by decide)]
    rw [e1, e2, e3]
    clear e1 e2 e3
    by_cases h0 : p < 0
    · have d0 : decide (p < 0) = true := by simpa using h0
      clear hp
      go_enter Try.func8, Try.ntmps8
      go_wp2
      go_ret3
      first | exact ⟨none, 0, rfl, row_nil _ _, Below.refl _ _⟩ | exact ⟨none, ⟨0, rfl⟩, row_nil _ _, Below.refl _ _⟩
    · have h1 : (len : Int) < p := by omega
      have d0 : decide (p < 0) = false := by simpa using h0
      have d1 : decide ((len : Int) < p) = true := by simpa using h1
      clear hp
      go_enter Try.func8, Try.ntmps8
      go_wp2
      go_ret3
      first | exact ⟨none, 0, rfl, row_nil _ _, Below.refl _ _⟩ | exact ⟨none, ⟨0, rfl⟩, row_nil _ _, Below.refl _ _⟩
  · have e1 : opE bs p = frE bs p := by unfold opE; rw [hl, if_neg hp]
    have h0 : 0 ≤ p := by omega
    obtain ⟨P, rfl⟩ := Int.eq_ofNat_of_zero_le h0
    have hP : P ≤ len := by omega
    have d0 : decide ((P : Int) < 0) = false := by simp
    have d1 : decide ((len : Int) < (P : Int)) = false := by simpa using hP
    have n0 : ¬ ((P : Int) < 0) := by omega
    have n1 : ¬ ((len : Int) < (P : Int)) := by omega
    have HX : Hid (∀ z, z ≠ 0 ∧ frE bs P = z → opE bs P = z ∧ opX bs P = [] ∧ opAt bs P = P) := by
      rintro z ⟨hz, he⟩
      have e4 : opE bs P = z := by rw [e1, he]
      exact ⟨e4, by unfold opX; rw [e4, if_neg hz], by unfold opAt; rw [e4, if_neg hz]⟩
    have HY : Hid (∀ N Q : Nat, (frE bs P = 0 ∧ frX bs P = (bs.drop Q).take N ∧ (getA bs P).2.1 + (getA bs P).1 + 4 = ((Q + N + 4 : Nat) : Int)) → opE bs P = 0 ∧ opX bs P = (bs.drop Q).take N ∧ opAt bs P = ((Q + N + 4 : Nat) : Int)) := by
      rintro N Q ⟨h1, h2, h3⟩
      have e4 : opE bs P = 0 := by rw [e1, h1]
      exact ⟨e4, by unfold opX; rw [e4, if_pos rfl, h2], by unfold opAt; rw [e4, if_pos rfl, h3]⟩
    clear e1 hp h0
    generalize opE bs P = E at *
    generalize opX bs P = X at *
    generalize opAt bs P = T at *
    have HGet := hide_ (refGet_calls a len cap bs P w hrow hbs hlen)
    obtain ⟨x, y, z, hg⟩ : ∃ x y z, getA bs P = (x, y, z) := ⟨_, _, _, rfl⟩
    have HF : Hid (z = 0 → 0 ≤ x ∧ x ≤ 18446744073709551615 ∧ 0 ≤ y ∧ y ≤ len) := by
      intro h
      have := getA_fits bs P hbs (by omega) (by omega) (by rw [hg]; exact h)
      rw [hg, hl] at this
      simp only at this
      omega
    have hx0 : 0 ≤ x := by have := getA_pos bs P; rw [hg] at this; exact this
    have HZ1 : Hid (z ≠ 0 → z ≠ 0 ∧ frE bs P = z) := by
      intro h
      unfold frE
      rw [hg]
      simp [h]
    have HZ2 : Hid (z = 0 → 65536 < x → (4 : Int) ≠ 0 ∧ frE bs P = 4) := by
      intro h h2
      unfold frE
      rw [hg]
      simp [h, h2]
    have HZ3 : Hid (z = 0 → x ≤ 65536 → (len : Int) < y + x + 4 → (3 : Int) ≠ 0 ∧ frE bs P = 3) := by
      intro h h2 h3
      unfold frE
      rw [hg, hl]
      have : ¬ 65536 < x := by omega
      simp [h, this, h3]
    have HZ4 : Hid (z = 0 → x ≤ 65536 → ¬ (len : Int) < y + x + 4 → (bs.drop (y + x).toNat).take 4 = be (more 1 ((bs.drop y.toNat).take x.toNat)) → frE bs P = 0 ∧ frX bs P = (bs.drop y.toNat).take x.toNat ∧ (getA bs P).2.1 + (getA bs P).1 + 4 = y + x + 4) := by
      intro h h2 h3 h4
      unfold frE frX
      rw [hg, hl]
      have : ¬ 65536 < x := by omega
      simp only at h4 ⊢
      rw [if_neg (by simp [h]), if_neg this, if_neg h3, if_pos h4]
      refine ⟨?_, ?_, ?_⟩ <;> first | rfl | trivial
    have HZ5 : Hid (z = 0 → x ≤ 65536 → ¬ (len : Int) < y + x + 4 → ¬ (bs.drop (y + x).toNat).take 4 = be (more 1 ((bs.drop y.toNat).take x.toNat)) → (10 : Int) ≠ 0 ∧ frE bs P = 10) := by
      intro h h2 h3 h4
      unfold frE frX
      rw [hg, hl]
      have : ¬ 65536 < x := by omega
      simp only at h4 ⊢
      rw [if_neg (by simp [h]), if_neg this, if_neg h3, if_neg h4]
      exact ⟨by decide, rfl⟩
    rw [hg] at HGet
    clear hg
    go_enter Try.func8, Try.ntmps8
    go_wp2_with fail
    refine HGet.out.mono ?_
    rintro e W1 ⟨rfl, hb1⟩
    clear HGet
    simp only
    by_cases hz : z = 0
    · subst hz
      obtain ⟨_, hx1, hy0, hy1⟩ := HF.out rfl
      by_cases hx : 65536 < x
      · obtain ⟨rfl, rfl, rfl⟩ := HX.out 4 (HZ2.out rfl hx)
        clear HX HY HZ1 HZ2 HZ3 HZ4 HZ5 HF
        go_wp2
        go_ret3
        first | exact ⟨none, 0, rfl, row_nil _ _, hb1⟩ | exact ⟨none, ⟨0, rfl⟩, row_nil _ _, hb1⟩
      · have HSH := HZ3.out rfl (by omega)
        have HOK := HZ4.out rfl (by omega)
        have HBD := HZ5.out rfl (by omega)
        clear HZ1 HZ2 HZ3 HZ4 HZ5 HF
        obtain ⟨N, rfl⟩ := Int.eq_ofNat_of_zero_le hx0
        obtain ⟨Q, rfl⟩ := Int.eq_ofNat_of_zero_le hy0
        have hx' : N ≤ 65536 := by omega
        by_cases h2 : len < Q + N + 4
        · obtain ⟨rfl, rfl, rfl⟩ := HX.out 3 (HSH (by omega))
          clear HX HY HSH HOK HBD
          have g1 : (len : Int) - 4 < (Q : Int) + (N : Int) := by omega
          go_wp2
          go_ret3
          first | exact ⟨none, 0, rfl, row_nil _ _, hb1⟩ | exact ⟨none, ⟨0, rfl⟩, row_nil _ _, hb1⟩
        · have hOK := hide_ (HOK (by omega))
          have hBD := hide_ (HBD (by omega))
          clear HSH HOK HBD
          obtain ⟨b, o, rfl, hlt, hc⟩ : ∃ b o, a = some ⟨b, o, none⟩ ∧ b < w.heap.size ∧ ∀ i, i < len → w.cell? ⟨b, o + i, none⟩ = some (.int .u8 (bs.getD i 0)) := by
            rcases hrow.2 with h | ⟨b, o, h1, h3, h2⟩
            · omega
            · exact ⟨b, o, h1, h3, h2⟩
          have hrow1 := hrow.below hb1
          have hc1 : ∀ i, i < len → W1.cell? ⟨b, o + i, none⟩ = some (.int .u8 (bs.getD i 0)) := fun i hi => by
            rw [World.cell?_of_block (w := w) (hb1.block b hlt)]
            exact hc i hi
          have k0 := hc1 (Q + N) (by omega)
          have k1 := hc1 (Q + N + 1) (by omega)
          have k2 := hc1 (Q + N + 2) (by omega)
          have k3 := hc1 (Q + N + 3) (by omega)
          have f0 := hbs.get (k := Q + N) (by omega)
          have f1 := hbs.get (k := Q + N + 1) (by omega)
          have f2 := hbs.get (k := Q + N + 2) (by omega)
          have f3 := hbs.get (k := Q + N + 3) (by omega)
          have HD : Hid (((bs.drop ((Q : Int) + (N : Int)).toNat).take 4) = [bs.getD (Q + N) 0, bs.getD (Q + N + 1) 0, bs.getD (Q + N + 2) 0, bs.getD (Q + N + 3) 0]) := by
            show _ = _
            rw [show ((Q : Int) + (N : Int)).toNat = Q + N from by omega]
            exact drop4 bs (Q + N) (by omega)
          generalize bs.getD (Q + N) 0 = c0 at *
          generalize bs.getD (Q + N + 1) 0 = c1 at *
          generalize bs.getD (Q + N + 2) 0 = c2 at *
          generalize bs.getD (Q + N + 3) 0 = c3 at *
          have or4' := or4 c0 c1 c2 c3 f0 f1 f2 f3
          have g1 : ¬ (len : Int) - 4 < (Q : Int) + (N : Int) := by omega
          have t0 : ((Q : Int) + (N : Int)).toNat = Q + N := by omega
          have t1 : ((Q : Int) + (N : Int) + 1).toNat = Q + N + 1 := by omega
          have t2 : ((Q : Int) + (N : Int) + 2).toNat = Q + N + 2 := by omega
          have t3 : ((Q : Int) + (N : Int) + 3).toNat = Q + N + 3 := by omega
          have l0 : (Q : Int) + (N : Int) < len := by omega
          have l1 : (Q : Int) + (N : Int) + 1 < len := by omega
          have l2 : (Q : Int) + (N : Int) + 2 < len := by omega
          have l3 : (Q : Int) + (N : Int) + 3 < len := by omega
          have m0 : 0 ≤ (Q : Int) + (N : Int) := by omega
          have m1 : 0 ≤ (Q : Int) + (N : Int) + 1 := by omega
          have m2 : 0 ≤ (Q : Int) + (N : Int) + 2 := by omega
          have m3 : 0 ≤ (Q : Int) + (N : Int) + 3 := by omega
          obtain ⟨q0, q0'⟩ := f0
          obtain ⟨q1, q1'⟩ := f1
          obtain ⟨q2, q2'⟩ := f2
          obtain ⟨q3, q3'⟩ := f3
          go_wp2_with fail
          go_quiet (fail)
          have b2 : Below w.heap.size w (W1.drewN nq) := below_drewN hb1 nq
          generalize W1.drewN nq = W2 at *
          have hrow2 := hrow.below b2
          obtain ⟨v3, W3, hrun, hown, hv3, hB3⟩ := clone_own (some ⟨b, o + Q, none⟩) N (cap - Q) ((bs.drop Q).take N) W2 (hrow2.part Q N (by omega)) (by omega)
          obtain ⟨g, c, rfl, _, _, _, hr3⟩ := row_of_owns hown hv3
          have b3 : Below w.heap.size w W3 := b2.trans (hB3.mono b2.size)
          have hbx : Bytes ((bs.drop Q).take N) := fun c hc => hbs c (List.mem_of_mem_drop (List.mem_of_mem_take hc))
          have HS := hide_ (refOf_calls (some ⟨g, 0, none⟩) N c ((bs.drop Q).take N) W3 hr3 hbx (by omega))
          have HR3 := hide_ hr3
          have hn1 : Q + N - Q = N := by omega
          have hcq : (Q : Int) + (N : Int) ≤ cap := by omega
          clear hr3 hown hv3 hrow2 hrow1 hc1 hc k0 k1 k2 k3 or4'
          go_wp2_with (at_builtin; refine wpList_append_run rfl _ _ 22 rfl _ _ _ _ rfl rfl hrun ?_)
          refine HS.out.mono ?_
          rintro e W4 ⟨rfl, hb4⟩
          have b4 : Below w.heap.size w W4 := b3.trans (hb4.mono b3.size)
          have HR4 := hide_ (HR3.out.below hb4)
          have HB := be4 c0 c1 c2 c3 (more 1 ((bs.drop Q).take N)) ⟨q0, q0'⟩ ⟨q1, q1'⟩ ⟨q2, q2'⟩ ⟨q3, q3'⟩
          rw [← HD.out] at HB
          have hl2 : ((bs.drop Q).take N).length = N := HR3.out.1
          by_cases hq : c0 * 16777216 + c1 * 65536 + c2 * 256 + c3 = more 1 ((bs.drop Q).take N)
          · obtain ⟨u1, u2, u3⟩ := hOK.out (HB.2 hq)
            obtain ⟨e1, e2, e3⟩ := HY.out N Q ⟨u1, by rw [u2]; rfl, by rw [u3]; omega⟩
            have HL := hide_ hl2
            clear HX HY hOK hBD HB HD HS HR3 u1 u2 u3 hl2 hrun
            rw [show ((Q + N + 4 : Nat) : Int) = (Q : Int) + (N : Int) + 4 from by omega] at e3
            subst e1 e2 e3
            generalize more 1 ((bs.drop Q).take N) = M at *
            generalize c0 * 16777216 + c1 * 65536 + c2 * 256 + c3 = S at *
            subst hq
            have hd : (S != S) = false := by simp
            go_wp2
            go_ret3
            refine ⟨some ⟨g, 0, none⟩, c, ?_, ?_, b4⟩
            · rw [HL.out]
              first | rfl | simp
            · rw [HL.out]
              exact HR4.out
          · obtain ⟨e1, e2, e3⟩ := HX.out 10 (hBD.out (fun h => hq (HB.1 h)))
            clear HX HY hOK hBD HB HD HS HR3 HR4 hl2 hrun
            subst e1 e2 e3
            generalize more 1 ((bs.drop Q).take N) = M at *
            generalize c0 * 16777216 + c1 * 65536 + c2 * 256 + c3 = S at *
            have hd : (S == M) = false := beq_eq_false_iff_ne.2 hq
            go_wp2
            go_ret3
            first | exact ⟨none, 0, rfl, row_nil _ _, b4⟩ | exact ⟨none, ⟨0, rfl⟩, row_nil _ _, b4⟩
    · obtain ⟨rfl, rfl, rfl⟩ := HX.out z (HZ1.out hz)
      clear HX HY HZ1 HZ2 HZ3 HZ4 HZ5 HF
      have hz' := beq_eq_false_iff_ne.2 hz
      go_wp2
      go_ret3
      first | exact ⟨none, 0, rfl, row_nil _ _, hb1⟩ | exact ⟨none, ⟨0, rfl⟩, row_nil _ _, hb1⟩
end Go.Proofs.Ytppiklgkpicfeaa
