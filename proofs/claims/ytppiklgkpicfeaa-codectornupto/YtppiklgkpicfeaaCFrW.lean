/-
  PROVED HERE: the body of CodecFrames: at any bytes and any place it answers true; nothing that lay before has turned.
-/
import Derived.Test.YtppiklgkpicfeaaCArg
namespace Go.Proofs.Ytppiklgkpicfeaa
open Go.ChangeShapes Go.WideShapes Go.ChangeAt Go.RowKit

theorem bytes_frame (bs : List Int) (h : Bytes bs) : Bytes (wrapL bs).1 := by
  unfold wrapL
  split
  · intro c hc; cases hc
  · exact ((bytes_leb _).append h).append (bytes_be _ (more_fits 1 bs).1 (more_fits 1 bs).2)
theorem bytes_opX (bs : List Int) (p : Int) (h : Bytes bs) : Bytes (opX bs p) := by
  unfold opX
  split
  · exact fun c hc => h c (List.mem_of_mem_drop (List.mem_of_mem_take hc))
  · intro c hc; cases hc

set_option maxRecDepth 100000 in
set_option maxHeartbeats 4000000 in
theorem frames_walk (a0 : Option Addr) (len0 cap0 : Nat) (z0 : List Int) (a1 : Int) (w : World) (w0 : Row .u8 w a0 len0 z0) (u0 : Bytes z0) (s0 : len0 ≤ 140737488351232) (c0 : len0 ≤ cap0 ∧ cap0 ≤ 9223372036854775807) :
    Calls Try.prog 3 #[.slice a0 len0 cap0, .int .i64 a1] w fun e w' => e = .returned (.bool true) ∧ Below w.heap.size w w' := by
  obtain ⟨v0, W1, hrun, hown, hv0, hB1⟩ := clone_own a0 len0 cap0 z0 w w0 (by omega)
  obtain ⟨g, cap, rfl, _, _, _, hr⟩ := row_of_owns hown hv0
  have HW1 := hide_ (wrap_calls (some ⟨g, 0, none⟩) len0 cap z0 W1 hr u0 (by omega))
  have HW2 := hide_ (fun W (h : Below w.heap.size w W) => refWrap_calls a0 len0 cap0 z0 W (w0.below h) u0 (by omega))
  have HO1 := hide_ (fun W (h : Below w.heap.size w W) => open_calls a0 len0 cap0 z0 a1 W (w0.below h) u0 (by omega) c0.1 c0.2)
  have HO2 := hide_ (fun W (h : Below w.heap.size w W) => refOpen_calls a0 len0 cap0 z0 a1 W (w0.below h) u0 (by omega) c0.1 c0.2)
  have y1 := bytes_frame z0 u0
  have y2 := bytes_opX z0 a1 u0
  clear hown hv0 hr c0
  generalize (wrapL z0).1 = X at *
  generalize (wrapL z0).2 = E at *
  generalize opX z0 a1 = X2 at *
  generalize opAt z0 a1 = T at *
  generalize opE z0 a1 = E2 at *
  go_enter Try.func3, Try.ntmps3
  go_wp2_with (at_builtin; refine wpList_append_run rfl _ _ 22 rfl _ _ _ _ rfl rfl hrun ?_)
  clear hrun
  refine HW1.out.mono ?_
  rintro e W2 ⟨g1, c1, rfl, r1, _, _, hB2⟩
  have b2 : Below w.heap.size w W2 := hB1.trans (hB2.mono hB1.size)
  clear hB1 hB2 HW1
  generalize X.length = n1 at *
  go_wp2_with fail
  refine (HW2.out W2 b2).mono ?_
  rintro e W3 ⟨g2, c2, rfl, r2, hB3⟩
  have b3 : Below w.heap.size w W3 := b2.trans (hB3.mono b2.size)
  have r1' := r1.below hB3
  clear hB3 HW2 b2 r1
  go_wp2_with fail
  refine (HO1.out W3 b3).mono ?_
  rintro e W4 ⟨g3, c3, rfl, r3, hB4⟩
  have b4 : Below w.heap.size w W4 := b3.trans (hB4.mono b3.size)
  have q1 := r1'.below hB4
  have q2 := r2.below hB4
  clear hB4 HO1 b3 r1' r2
  generalize X2.length = n2 at *
  go_wp2_with fail
  refine (HO2.out W4 b4).mono ?_
  rintro e W5 ⟨g4, c4, rfl, r4, hB5⟩
  have b5 : Below w.heap.size w W5 := b4.trans (hB5.mono b4.size)
  have k1 := conv_row (cap := c1) (q1.below hB5)
  have k2 := conv_row (cap := c2) (q2.below hB5)
  have k3 := conv_row (cap := c3) (r3.below hB5)
  have k4 := conv_row (cap := c4) r4
  clear hB5 HO2 b4 q1 q2 r3 r4
  go_wp2_with fail
  refine (awake_calls _).mono ?_
  rintro e W6 ⟨rfl, hB6⟩
  go_wp2
  go_ret
  exact ⟨rfl, b5.trans (hB6.mono b5.size)⟩
end Go.Proofs.Ytppiklgkpicfeaa
