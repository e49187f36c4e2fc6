/-
  PROVED HERE: codec.Open and the document's own Open at any bytes and any place answer the same: the frame's bytes and the place behind it, or the error.
-/
import Derived.Test.YtppiklgkpicfeaaCCatch
namespace Go.Proofs.Ytppiklgkpicfeaa
open Go.RowKit

set_option maxRecDepth 100000 in
set_option maxHeartbeats 2000000 in
theorem open_calls (a : Option Addr) (len cap : Nat) (bs : List Int) (p : Int) (w : World) (hrow : Row .u8 w a len bs) (hbs : Bytes bs) (hlen : len ≤ 140737488355328) (hcap : len ≤ cap) (hcm : cap ≤ 9223372036854775807) :
    Calls Try.prog 7 #[.slice a len cap, .int .i64 p] w fun e w' => ∃ a' cap', e = .returned (.tuple #[.slice a' (opX bs p).length cap', .int .i64 (opAt bs p), .int .i64 (opE bs p)]) ∧ Row .u8 w' a' (opX bs p).length (opX bs p) ∧ Below w.heap.size w w' := by
  have hl : bs.length = len := hrow.1
  by_cases hp : p < 0 ∨ (len : Int) < p
  · have e1 : opE bs p = 1 := by unfold opE; rw [hl, if_pos hp]
    have e2 : opX bs p = [] := by unfold opX; rw [e1, if_neg (by decide)]
    have e3 : opAt bs p = p := by unfold opAt; rw [e1, if_neg (by decide)]
    rw [e1, e2, e3]
    clear e1 e2 e3
    by_cases h0 : p < 0
    · have d0 : decide (p < 0) = true := by simpa using h0
      clear hp
      go_enter Try.func7, Try.ntmps7
      go_wp2
      go_ret3
      first | exact ⟨none, 0, rfl, row_nil _ _, Below.refl _ _⟩ | exact ⟨none, ⟨0, rfl⟩, row_nil _ _, Below.refl _ _⟩
    · have h1 : (len : Int) < p := by omega
      have d0 : decide (p < 0) = false := by simpa using h0
      have d1 : decide ((len : Int) < p) = true := by simpa using h1
      clear hp
      go_enter Try.func7, Try.ntmps7
      go_wp2
      go_ret3
      first | exact ⟨none, 0, rfl, row_nil _ _, Below.refl _ _⟩ | exact ⟨none, ⟨0, rfl⟩, row_nil _ _, Below.refl _ _⟩
  · have e1 : opE bs p = frE bs p := by unfold opE; rw [hl, if_neg hp]
    have h0 : 0 ≤ p := by omega
    obtain ⟨P, rfl⟩ := Int.eq_ofNat_of_zero_le h0
    have hP : P ≤ len := by omega
    have d0 : decide ((P : Int) < 0) = false := by simp
    have d1 : decide ((len : Int) < (P : Int)) = false := by simpa using hP
    have n0 : ¬ ((P : Int) < 0) := by omega
    have n1 : ¬ ((len : Int) < (P : Int)) := by omega
    have HX : Hid (∀ z, z ≠ 0 ∧ frE bs P = z → opE bs P = z ∧ opX bs P = [] ∧ opAt bs P = P) := by
      rintro z ⟨hz, he⟩
      have e4 : opE bs P = z := by rw [e1, he]
      exact ⟨e4, by unfold opX; rw [e4, if_neg hz], by unfold opAt; rw [e4, if_neg hz]⟩
    have HY : Hid (∀ N Q : Nat, (frE bs P = 0 ∧ frX bs P = (bs.drop Q).take N ∧ (getA bs P).2.1 + (getA bs P).1 + 4 = ((Q + N + 4 : Nat) : Int)) → opE bs P = 0 ∧ opX bs P = (bs.drop Q).take N ∧ opAt bs P = ((Q + N + 4 : Nat) : Int)) := by
      rintro N Q ⟨h1, h2, h3⟩
      have e4 : opE bs P = 0 := by rw [e1, h1]
      exact ⟨e4, by unfold opX; rw [e4, if_pos rfl, h2], by unfold opAt; rw [e4, if_pos rfl, h3]⟩
    clear e1 hp h0
    generalize opE bs P = E at *
    generalize opX bs P = X at *
    generalize opAt bs P = T at *
    go_enter Try.func7, Try.ntmps7
    go_wp2_with fail
    refine read_calls a len cap bs P w hrow hbs hlen hcap hcm hP _ ?_ ?_
    · intro z W hz hb
      obtain ⟨rfl, rfl, rfl⟩ := HX.out z hz
      clear HX HY hz
      go_wp2
      go_ret3
      first | exact ⟨none, 0, rfl, row_nil _ _, hb⟩ | exact ⟨none, ⟨0, rfl⟩, row_nil _ _, hb⟩
    · intro a' cap' N Q W hN hr hb
      obtain ⟨e1, e2, e3⟩ := HY.out N Q hN
      have hl2 : ((bs.drop Q).take N).length = N := hr.1
      obtain ⟨q, hq⟩ : ∃ q, q = ((Q + N + 4 : Nat) : Int) := ⟨_, rfl⟩
      rw [← hq] at e3 ⊢
      clear hq
      subst e1 e2 e3
      have HL := hide_ hl2
      have HR := hide_ hr
      clear HX HY hN hl2 hr
      go_wp2
      go_ret3
      refine ⟨a', cap', ?_, ?_, hb⟩
      · rw [HL.out]
        first | rfl | simp
      · rw [HL.out]
        exact HR.out
end Go.Proofs.Ytppiklgkpicfeaa
