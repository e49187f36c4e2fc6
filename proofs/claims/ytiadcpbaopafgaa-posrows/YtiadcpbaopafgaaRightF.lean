/-
  PROVED HERE: pos.Right and the document's own Right at every slice of ranges: what they return; nothing that lay before is turned.
-/
import Derived.Test.YtiadcpbaopafgaaSmall
namespace Go.Proofs.Ytiadcpbaopafgaa
open Go.RowKit

set_option maxRecDepth 100000 in
set_option maxHeartbeats 2000000 in
theorem right_calls (a : Option Addr) (len cap : Nat) (l : List Rng) (w : World) (hl : Rngs w a len l) (hz : len ≤ 140737488355328) :
    Calls Try.prog 11 #[.slice a len cap] w fun e w' => e = .returned (.bool (right l)) ∧ Below w.heap.size w w' := by
  by_cases hlong : 4 < len
  · rw [show right l = false from by unfold right; rw [hl.1, show decide (len ≤ 4) = false from by simpa using hlong]; rfl]
    go_enter Try.func11, Try.ntmps11
    go_wp2
    go_ret
    exact ⟨rfl, Below.refl _ _⟩
  · have HC : Hid (right l = rightL l 0) := by show right l = _; unfold right; rw [hl.1, show decide (len ≤ 4) = true from by simp; omega]; rfl
    generalize hR : right l = R at *
    clear hR
    go_enter Try.func11, Try.ntmps11
    go_wp2
    go_loopw [3, 11] (fun u i w' => ∃ (k : Nat) (d : Int), k ≤ len ∧ i = .int .i64 (k : Int) ∧ u = .int .i64 d ∧ 0 ≤ d ∧ d ≤ 131072 ∧ rightL (l.drop k) d = R ∧ Below w.heap.size w w') (fun _ i _ => len - (intOf i).toNat)
    case atStart => exact ⟨0, 0, Nat.zero_le _, rfl, rfl, by omega, by omega, HC.out.symm, Below.refl _ _⟩
    case round =>
      obtain ⟨k, d, hk, rfl, rfl, d0, d1, hch, hB⟩ := hrel
      by_cases hlt : k < len
      · obtain ⟨b, o, x, rfl, hbl, hx, hdr, hc⟩ := hl.range hlt
        obtain ⟨p0, p1, p2⟩ := hc wr hB
        rw [hdr, rightL] at hch
        clear hc hdr hx hl
        have c1 := fun W => within_calls x.a W
        have c2 := fun W => within_calls x.o W
        have c3 := fun W => within_calls x.n W
        have hr := rightR_iff x d
        unfold rightR at hch hr
        generalize within x.a = q1 at *
        generalize within x.o = q2 at *
        generalize within x.n = q3 at *
        obtain ⟨xa, xo, xn⟩ := x
        simp only at *
        have hBA : ∀ ob, Below w.heap.size w (wr.alloc ob) := fun ob => hB.alloc hB.size _
        cases q1
        · have HD : Hid (R = false) := by show R = false; rw [← hch]; rfl
          clear hch hr
          go_wp2_with fail
          refine (c1 _).mono ?_
          rintro e w' ⟨rfl, rfl⟩
          go_wp2
          go_ret
          exact ⟨by rw [HD.out]; rfl, hBA _⟩
        · cases q2
          · have HD : Hid (R = false) := by show R = false; rw [← hch]; rfl
            clear hch hr
            go_wp2_with fail
            refine (c1 _).mono ?_
            rintro e w' ⟨rfl, rfl⟩
            go_wp2_with fail
            refine (c2 _).mono ?_
            rintro e w' ⟨rfl, rfl⟩
            go_wp2
            go_ret
            exact ⟨by rw [HD.out]; rfl, hBA _⟩
          · cases q3
            · have HD : Hid (R = false) := by show R = false; rw [← hch]; rfl
              clear hch hr
              go_wp2_with fail
              refine (c1 _).mono ?_
              rintro e w' ⟨rfl, rfl⟩
              go_wp2_with fail
              refine (c2 _).mono ?_
              rintro e w' ⟨rfl, rfl⟩
              go_wp2_with fail
              refine (c3 _).mono ?_
              rintro e w' ⟨rfl, rfl⟩
              go_wp2
              go_ret
              exact ⟨by rw [HD.out]; rfl, hBA _⟩
            · by_cases hd : d ≤ xa
              · rw [show decide (d ≤ xa) = true from by simpa using hd] at hch hr
                obtain ⟨⟨r0, r1⟩, ⟨r2, r3⟩, ⟨r4, r5⟩, r6⟩ := hr.1 rfl
                have HD : Hid (rightL (l.drop (k + 1)) (xa + xo) = R) := by show _ = R; rw [← hch]; rfl
                have hn : ¬ xa < d := by omega
                clear hch hr
                go_wp2_with fail
                refine (c1 _).mono ?_
                rintro e w' ⟨rfl, rfl⟩
                go_wp2_with fail
                refine (c2 _).mono ?_
                rintro e w' ⟨rfl, rfl⟩
                go_wp2_with fail
                refine (c3 _).mono ?_
                rintro e w' ⟨rfl, rfl⟩
                go_wp2
                go_roundw
                case rel => exact ⟨k + 1, xa + xo, by omega, rfl, rfl, by omega, by omega, HD.out, hBA _⟩
                case measure => simp [intOf]; omega
              · rw [show decide (d ≤ xa) = false from by simpa using hd] at hch
                have HD : Hid (R = false) := by show R = false; rw [← hch]; rfl
                have hn : xa < d := by omega
                clear hch hr
                go_wp2_with fail
                refine (c1 _).mono ?_
                rintro e w' ⟨rfl, rfl⟩
                go_wp2_with fail
                refine (c2 _).mono ?_
                rintro e w' ⟨rfl, rfl⟩
                go_wp2_with fail
                refine (c3 _).mono ?_
                rintro e w' ⟨rfl, rfl⟩
                go_wp2
                go_ret
                exact ⟨by rw [HD.out]; rfl, hBA _⟩
      · obtain rfl : k = len := by omega
        rw [show l.drop k = [] from List.drop_eq_nil_of_le (by rw [hl.1]; exact Nat.le_refl _), rightL] at hch
        have HD : Hid (R = true) := hch.symm
        clear hch
        go_wp2
        go_ret
        exact ⟨by rw [HD.out]; rfl, hB⟩
end Go.Proofs.Ytiadcpbaopafgaa
