/-
  PROVED HERE: the document's own Right and shift: what they return; nothing that lay before is turned.
-/
import Derived.Test.YtbkpehfaofhmaaaGreatDoorCB8
namespace Go.Proofs.YtbkpehfaofhmaaaGreatDoor
open Go.RowKit
set_option maxRecDepth 100000 in
set_option maxHeartbeats 2000000 in
theorem refright_calls (a : Option Addr) (len cap : Nat) (l : List Rng) (w : World) (hl : Rngs w a len l) (hz : len <= 9223372036854775807) :
  Calls Tryz.prog 63 #[.slice a len cap] w fun e w' => e = .returned (.bool (right l)) /\ Below w.heap.size w w' := by
 by_cases hlong : 4 < len
 ·rw [show right l = false from by unfold right; rw [hl.1, show decide (len <= 4) = false from by simpa using hlong]; rfl]
  go_enter Tryz.func63, Tryz.ntmps63
  go_wp2
  go_ret
  exact ⟨rfl, Below.refl _ _⟩
 ·have HC : Hid (right l = rightL l 0) := by show right l = _; unfold right; rw [hl.1, show decide (len <= 4) = true from by simp; omega]; rfl
  generalize hR : right l = R at *
  clear hR
  go_enter Tryz.func63, Tryz.ntmps63
  go_wp2
  go_loopw [3, 4] (fun u i w' => ∃ (k : Nat) (d : Int), k <= len /\ i = .int .i64 (k : Int) /\ u = .int .i64 d /\ 0 <= d /\ d <= 131072 /\ rightL (l.drop k) d = R /\ Below w.heap.size w w') (fun _ i _ => len - (intOf i).toNat)
  case atStart => exact ⟨0, 0, Nat.zero_le _, rfl, rfl, by omega, by omega, HC.out.symm, Below.refl _ _⟩
  case round =>
   obtain ⟨k, d, hk, rfl, rfl, d0, d1, hch, hB⟩ := hrel
   by_cases hlt : k < len
   ·obtain ⟨b, o, x, rfl, hbl, hx, hdr, hc⟩ := hl.range hlt
    obtain ⟨p0, p1, p2⟩ := hc wr hB
    rw [hdr, rightL] at hch
    clear hc hdr hx hl
    have hr := rightR_iff x d
    obtain ⟨xa, xo, xn⟩ := x
    generalize rightR ⟨xa, xo, xn⟩ d = q at *
    simp only at *
    have hBA : ∀ ob, Below w.heap.size w (wr.alloc ob) := fun ob => hB.alloc hB.size _
    have HNO : Hid (¬ ((0 <= xa /\ xa <= 65536) /\ (0 <= xo /\ xo <= 65536) /\ (0 <= xn /\ xn <= 65536) /\ d <= xa) -> R = false) := fun h => by
     have : q = false := by
      cases q with
      | false => rfl
      | true => exact absurd (hr.1 rfl) h
     rw [<- hch, this]
     rfl
    by_cases k1 : xa < d
    ·have HD : Hid (R = false) := HNO.out (by omega)
     clear hch hr HNO
     go_wp2
     go_ret
     exact ⟨by rw [HD.out]; rfl, hBA _⟩
    ·by_cases k2 : 65536 < xa
     ·have HD : Hid (R = false) := HNO.out (by omega)
      clear hch hr HNO
      go_wp2
      go_ret
      exact ⟨by rw [HD.out]; rfl, hBA _⟩
     ·by_cases k3 : xo < 0
      ·have HD : Hid (R = false) := HNO.out (by omega)
       clear hch hr HNO
       go_wp2
       go_ret
       exact ⟨by rw [HD.out]; rfl, hBA _⟩
      ·by_cases k4 : 65536 < xo
       ·have HD : Hid (R = false) := HNO.out (by omega)
        clear hch hr HNO
        go_wp2
        go_ret
        exact ⟨by rw [HD.out]; rfl, hBA _⟩
       ·by_cases k5 : xn < 0
        ·have HD : Hid (R = false) := HNO.out (by omega)
         clear hch hr HNO
         go_wp2
         go_ret
         exact ⟨by rw [HD.out]; rfl, hBA _⟩
        ·by_cases k6 : 65536 < xn
         ·have HD : Hid (R = false) := HNO.out (by omega)
          clear hch hr HNO
          go_wp2
          go_ret
          exact ⟨by rw [HD.out]; rfl, hBA _⟩
         ·obtain rfl : q = true := hr.2 (by omega)
          have HD : Hid (rightL (l.drop (k + 1)) (xa + xo) = R) := by show _ = R; rw [<- hch]; rfl
          clear hch hr HNO
          go_wp2
          go_roundw
          case rel => exact ⟨k + 1, xa + xo, by omega, rfl, rfl, by omega, by omega, HD.out, hBA _⟩
          case measure => simp [intOf]; omega
   ·obtain rfl : k = len := by omega
    rw [show l.drop k = [] from List.drop_eq_nil_of_le (by rw [hl.1]; exact Nat.le_refl _), rightL] at hch
    have HD : Hid (R = true) := hch.symm
    clear hch
    go_wp2
    go_ret
    exact ⟨by rw [HD.out]; rfl, hB⟩
set_option maxRecDepth 100000 in
set_option maxHeartbeats 2000000 in
theorem shift_calls (a : Option Addr) (len cap : Nat) (l : List Rng) (n : Nat) (w : World) (hl : Rngs w a len l) (hr : right l = true) (hn : n <= len) :
  Calls Tryz.prog 64 #[.slice a len cap, .int .i64 (n : Int)] w fun e w' => e = .returned (.int .i64 (shiftL (l.take n))) /\ Below w.heap.size w w' := by
 have hlen : len <= 4 := by have := (right_len hr).1; rw [hl.1] at this; exact this
 go_enter Tryz.func64, Tryz.ntmps64
 go_wp2
 go_loopw [5, 6] (fun u i w' => ∃ k : Nat, k <= n /\ i = .int .i64 (k : Int) /\ u = .int .i64 (shiftL (l.take k)) /\ Below w.heap.size w w') (fun _ i _ => n - (intOf i).toNat)
 case atStart => exact ⟨0, Nat.zero_le _, rfl, rfl, Below.refl _ _⟩
 case round =>
  obtain ⟨k, hk, rfl, rfl, hB⟩ := hrel
  by_cases hlt : k < n
  ·have hkl : k < len := by omega
   obtain ⟨b, o, x, rfl, hbl, hx, _, hc⟩ := hl.range hkl
   obtain ⟨p0, p1, p2⟩ := hc wr hB
   have hb1 := shift_take hr k
   have HX : Hid (shiftL (l.take (k + 1)) = shiftL (l.take k) + x.n - x.o) := shift_succ hx
   have hx' := rightL_all (right_len hr).2 x (List.mem_of_getElem? hx)
   obtain ⟨xa, xo, xn⟩ := x
   simp only at *
   generalize shiftL (l.take k) = d at *
   clear hx hc hl
   have w1 : IntKind.i64.wrap (d + xn) = d + xn := by rw [IntKind.wrap_i64]; omega
   have w2 : IntKind.i64.wrap (d + xn - xo) = d + xn - xo := by rw [IntKind.wrap_i64]; omega
   go_wp2_with fail
   go_quiet (fail)
   go_wp2
   go_roundw
   case rel => exact ⟨k + 1, by omega, by go_num, by rw [HX.out], below_drewNP hB _⟩
   case measure => simp [intOf]; omega
  ·obtain rfl : k = n := by omega
   go_wp2
   go_ret
   exact ⟨rfl, hB⟩
end Go.Proofs.YtbkpehfaofhmaaaGreatDoor
