/-
  PROVED HERE: flat.endOf and flat.Partner at every slice of tokens and every number: what they return; nothing that lay before is turned.
-/
import Derived.Test.YtgpopploimeeaaaFDeep
import Derived.Test.YtgpopploimeeaaaEnd
namespace Go.Proofs.Ytgpopploimeeaaa
open Go.RowKit

theorem turn_length_le (x : Tok) (k : Nat) (R : List Int) : (turn x k R).length ≤ R.length + 1 := by
  unfold turn
  split <;> (try split) <;> first | omega | (simp; done) | (simp; omega)

set_option maxRecDepth 100000 in
set_option maxHeartbeats 4000000 in
theorem fend_calls (a : Option Addr) (len cap : Nat) (l : List Tok) (i : Nat) (w : World) (hl : Toks w a len l) (hsz : len ≤ 4398046511104) (hi : i < len) (hk1 : kindAt l i = 1) :
    Calls Try.prog 37 #[.slice a len cap, .int .i64 (i : Int)] w fun e w' => e = .returned (.int .i64 (partner l i)) ∧ Below w.heap.size w w' := by
  have hL := hl.1
  have HP0 : Hid (Seeks l i i (partner l i)) := .inl ⟨rfl, partner_open l i (by omega) hk1⟩
  have HS0 : Hid (Since l i i []) := .inl ⟨rfl, rfl⟩
  have HN : Hid (Stk (w.alloc (.cells zeros 80)) w.heap.size w.heap.size (.slice none 0 0) []) := stk_new w
  have HB0 : Hid (∀ o, Below w.heap.size w (w.alloc o)) := fun o => (Below.refl _ w).alloc (Nat.le_refl _) o
  have HK1 : Hid (kindAt l i = 1) := hk1
  clear hk1
  generalize partner l i = P at *
  go_enter Try.func37, Try.ntmps37
  go_wp2
  go_loopw [6] (fun u w' => ∃ (k : Nat) (v : Value) (R : List Int), k ≤ len ∧ i ≤ k ∧ u = .int .i64 (k : Int) ∧ R.length ≤ k ∧ Stk w' w.heap.size w.heap.size v R ∧ Since l i k R ∧ Seeks l i k P ∧ Below w.heap.size w w') (fun u _ => len - (intOf u).toNat)
  case atStart => exact ⟨i, _, [], by omega, by omega, rfl, by simp, HN.out, HS0.out, HP0.out, HB0.out _⟩
  case round =>
    obtain ⟨k, v, R, hk, hik, rfl, hR, hS, hSi, hSe, hB⟩ := hrel
    clear HP0 HS0 HN HB0
    by_cases hlt : k < len
    · obtain ⟨b, o, x, rfl, hbl, hx, hc⟩ := hl.token hlt
      obtain ⟨c0, c1, c2, c3⟩ := hc wr hB
      have HP : Hid (Calls Try.prog 36 #[.pointer (some ⟨w.heap.size, 0, none⟩), .int .i64 (k : Int), tokV x] wr fun e w' => e = .returned (.tuple #[]) ∧ ∃ v', Stk w' w.heap.size w.heap.size v' (turn x k R) ∧ Below w.heap.size wr w') := by
        refine (fpass_calls w.heap.size w.heap.size v R k x wr hS hB.size (by omega)).mono ?_
        rintro e w' ⟨e1, v', e2, e3, _⟩
        exact ⟨e1, v', e2, e3.below (Nat.le_refl _) (fun j hj => (own_base hS.2.1 j hj).1) hB.size⟩
      have HL := turn_length_le x k R
      have hst := end_step hSi hik (by omega) hx HK1.out hSe
      clear hc hl hSi hSe hS hx
      generalize turn x k R = R' at *
      obtain ⟨xk, xt, xn, xm⟩ := x
      simp only [tokV] at *
      rcases hst with ⟨rfl, hP⟩ | ⟨h1, h2, h3⟩
      · have HE : Hid (P = k) := hP
        clear hP
        go_wp2_with fail
        refine HP.out.mono ?_
        rintro e W2 ⟨rfl, v', hS2, hB4⟩
        have hB5 := hB.trans hB4
        obtain ⟨-, s33, -⟩ := hS2.cells
        simp only [List.length_nil] at s33
        clear hS2
        go_wp2
        go_ret
        exact ⟨by rw [HE.out]; rfl, hB5⟩
      · have HE1 : Hid (Since l i (k + 1) R') := h2
        have HE2 : Hid (Seeks l i (k + 1) P) := h3
        have ne : ((R'.length : Int) == 0) = false := by simpa using h1
        clear h1 h2 h3
        go_wp2_with fail
        refine HP.out.mono ?_
        rintro e W2 ⟨rfl, v', hS2, hB4⟩
        have hB5 := hB.trans hB4
        obtain ⟨-, s33, -⟩ := hS2.cells
        have HS2 : Hid (Stk W2 w.heap.size w.heap.size v' R') := hS2
        clear hS2
        go_wp2
        go_roundw
        case rel => exact ⟨k + 1, v', R', by omega, by omega, rfl, by omega, HS2.out, HE1.out, HE2.out, hB5⟩
        case measure => simp [intOf]; omega
    · obtain rfl : k = len := by omega
      have HE : Hid (P = -1) := end_none (l := l) (i := i) (by omega) (by rw [hL]; exact hSe)
      clear hSi hSe hS hl
      go_wp2
      go_ret
      exact ⟨by rw [HE.out]; rfl, hB⟩

set_option maxRecDepth 100000 in
set_option maxHeartbeats 2000000 in
theorem fpartner_calls (a : Option Addr) (len cap : Nat) (l : List Tok) (i : Int) (w : World) (hl : Toks w a len l) (hsz : len ≤ 4398046511104) (hlie : Lies a len cap) :
    Calls Try.prog 19 #[.slice a len cap, .int .i64 i] w fun e w' => e = .returned (.int .i64 (partner l i)) ∧ Below w.heap.size w w' := by
  have hp : partner l i = if i < 0 ∨ (len : Int) ≤ i then -1 else if kindAt l i.toNat = 2 then around l i else if kindAt l i.toNat = 1 then seek l i (i.toNat + 1) (len - (i.toNat + 1)) else -1 := by unfold partner; rw [hl.1]
  by_cases h0 : i < 0
  · rw [hp, if_pos (.inl h0)]
    go_enter Try.func19, Try.ntmps19
    go_wp2
    go_ret
    exact ⟨rfl, Below.refl _ _⟩
  have e0 : decide (i < 0) = false := by simpa using h0
  by_cases h1 : (len : Int) ≤ i
  · rw [hp, if_pos (.inr h1)]
    go_enter Try.func19, Try.ntmps19
    go_wp2
    go_ret
    exact ⟨rfl, Below.refl _ _⟩
  obtain ⟨n, rfl⟩ := Int.eq_ofNat_of_zero_le (show 0 ≤ i by omega)
  have hn : n < len := by omega
  have hE := fun h1 W (hW : Below w.heap.size w W) => fend_calls a len cap l n W (hl.below hW) hsz hn h1
  have hA := fun W (hW : Below w.heap.size w W) => faround_calls a len cap l (n : Int) W (hl.below hW) hsz hlie
  obtain ⟨b, o, rfl, hbl, hc⟩ := hl.kindAt hn
  have hc0 := hc w (Below.refl _ _)
  rw [if_neg (by omega), Int.toNat_natCast] at hp
  have e1 : decide ((len : Int) ≤ (n : Int)) = false := by simp; omega
  by_cases k2 : kindAt l n = 2
  · rw [if_pos k2] at hp
    rw [k2] at hc0
    rw [hp]
    clear hE
    generalize around l (n : Int) = y at *
    go_enter Try.func19, Try.ntmps19
    go_wp2_with fail
    refine (hA _ (Below.refl _ _)).mono ?_
    rintro e W1 ⟨rfl, hB⟩
    go_wp2
    go_ret
    exact ⟨rfl, hB⟩
  by_cases k1 : kindAt l n = 1
  · rw [k1] at hc0
    have hE' := hE k1
    clear hE hp hA
    generalize partner l (n : Int) = y at *
    go_enter Try.func19, Try.ntmps19
    go_wp2_with fail
    refine (hE' _ (Below.refl _ _)).mono ?_
    rintro e W1 ⟨rfl, hB⟩
    go_wp2
    go_ret
    exact ⟨rfl, hB⟩
  · rw [if_neg k2, if_neg k1] at hp
    rw [hp]
    clear hE hA
    generalize kindAt l n = z at *
    have e1 : (z == 1) = false := by simpa using k1
    have e2 : (z == 2) = false := by simpa using k2
    go_enter Try.func19, Try.ntmps19
    go_wp2
    go_ret
    exact ⟨rfl, Below.refl _ _⟩
end Go.Proofs.Ytgpopploimeeaaa
