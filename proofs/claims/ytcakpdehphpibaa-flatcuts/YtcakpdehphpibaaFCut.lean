/-
  PROVED HERE: slices.Clone of tokens, and flat.Cut at every slice of tokens and every two numbers: what they return; nothing that lay before is turned.
-/
import Derived.Test.YtcakpdehphpibaaOwn
import Derived.Laws.Cover3
namespace Go.Proofs.Ytcakpdehphpibaa
open Go.RowKit

theorem eql_nil (a : Option Addr) (l c : Nat) (W : World) : (binOp .eql 22 (.slice a l c) (.slice none 0 0)).run Try.prog W = .ok (.bool a.isNone) W := by
  simp only [binOp]
  simp [run_equal_slice_nil W 22 _ a l c Try.underlying22]

set_option maxRecDepth 100000 in
set_option maxHeartbeats 1000000 in
theorem fclone_calls (a : Option Addr) (len cap : Nat) (l : List Tok) (w : World) (hl : Toks w a len l) (hsz : len ≤ 4398046511104) (ha : a = none → cap = 0) (hc : len ≤ cap) :
    Calls Try.prog 35 #[.slice a len cap] w fun e w' => ∃ a' cap', e = .returned (.slice a' len cap') ∧ Toks w' a' len l ∧ len ≤ cap' ∧ Below w.heap.size w w' := by
  cases a with
  | none =>
    obtain rfl := ha rfl
    obtain rfl : len = 0 := by omega
    obtain rfl : l = [] := List.length_eq_zero_iff.1 hl.1
    have hq := fun W => eql_nil none 0 0 W
    go_enter Try.func35, Try.ntmps35
    go_wp2
    go_ret
    first | exact ⟨none, 0, rfl, ⟨rfl, .inl rfl⟩, by simp, Below.refl _ _⟩ | exact ⟨none, ⟨0, rfl⟩, ⟨rfl, .inl rfl⟩, Below.refl _ _⟩ | exact ⟨none, ⟨0, rfl, by simp⟩, ⟨rfl, .inl rfl⟩, Below.refl _ _⟩
  | some x =>
    obtain ⟨v, W1, hrun, r1, r2, r3⟩ := tok_clone_own (some x) len cap l w hl hsz
    obtain ⟨g, cp, rfl, hg, hg1, hg2, ht⟩ := toks_of_owns r1 r2
    clear r1 r2 hl
    have hq := fun W => eql_nil (some x) len cap W
    simp only [Option.isNone_some] at hq
    go_enter Try.func35, Try.ntmps35
    go_wp2_with (at_builtin; refine wpList_tok_run rfl _ _ 22 rfl _ _ _ _ rfl rfl hrun ?_)
    go_ret
    first | exact ⟨_, ⟨cp, rfl, hg1⟩, ht, r3⟩ | exact ⟨_, cp, rfl, ht, hg1, r3⟩ | exact ⟨_, ⟨cp, rfl⟩, ht, r3⟩

set_option maxRecDepth 100000 in
set_option maxHeartbeats 1000000 in
theorem fcut_calls (a : Option Addr) (len cap : Nat) (l : List Tok) (f t : Int) (w : World) (hl : Toks w a len l) (hsz : len ≤ 4398046511104) (hcap : len ≤ cap) (hcap2 : cap ≤ 9223372036854775807) (ha : a = none → cap = 0) (hnone : ∀ x, a = some x → 0 < cap → x.spot = none) :
    Calls Try.prog 20 #[.slice a len cap, .int .i64 f, .int .i64 t] w fun e w' => ∃ a' cap', e = .returned (.tuple #[.slice a' (cut l f t).length cap', .int .i64 (cutE l f t)]) ∧ Toks w' a' (cut l f t).length (cut l f t) ∧ (cut l f t).length ≤ cap' ∧ Below w.heap.size w w' := by
  have hL := hl.1
  by_cases h0 : f < 0 ∨ t < f ∨ (len : Int) < t
  · have hx : cut l f t = [] ∧ cutE l f t = 1 := by unfold cut cutE; rw [hL, if_pos h0, if_pos h0]; exact ⟨rfl, rfl⟩
    rw [hx.1, hx.2]
    clear hx
    by_cases h1 : f < 0
    · go_enter Try.func20, Try.ntmps20
      go_wp2
      go_ret2
      first | exact ⟨none, 0, rfl, ⟨rfl, .inl rfl⟩, by simp, Below.refl _ _⟩ | exact ⟨none, ⟨0, rfl⟩, ⟨rfl, .inl rfl⟩, Below.refl _ _⟩ | exact ⟨none, ⟨0, rfl, by simp⟩, ⟨rfl, .inl rfl⟩, Below.refl _ _⟩
    · have e1 : decide (f < 0) = false := by simpa using h1
      by_cases h2 : t < f
      · go_enter Try.func20, Try.ntmps20
        go_wp2
        go_ret2
        first | exact ⟨none, 0, rfl, ⟨rfl, .inl rfl⟩, by simp, Below.refl _ _⟩ | exact ⟨none, ⟨0, rfl⟩, ⟨rfl, .inl rfl⟩, Below.refl _ _⟩ | exact ⟨none, ⟨0, rfl, by simp⟩, ⟨rfl, .inl rfl⟩, Below.refl _ _⟩
      · have h3 : (len : Int) < t := by omega
        have e2 : decide (t < f) = false := by simpa using h2
        go_enter Try.func20, Try.ntmps20
        go_wp2
        go_ret2
        first | exact ⟨none, 0, rfl, ⟨rfl, .inl rfl⟩, by simp, Below.refl _ _⟩ | exact ⟨none, ⟨0, rfl⟩, ⟨rfl, .inl rfl⟩, Below.refl _ _⟩ | exact ⟨none, ⟨0, rfl, by simp⟩, ⟨rfl, .inl rfl⟩, Below.refl _ _⟩
  · have hx : cut l f t = (l.drop f.toNat).take (t - f).toNat ∧ cutE l f t = 0 := by unfold cut cutE; rw [hL, if_neg h0, if_neg h0]; exact ⟨rfl, rfl⟩
    rw [hx.1, hx.2]
    clear hx
    obtain ⟨n, rfl⟩ := Int.eq_ofNat_of_zero_le (show 0 ≤ f by omega)
    obtain ⟨q, rfl⟩ := Int.eq_ofNat_of_zero_le (show 0 ≤ t by omega)
    have hnq : n ≤ q := by omega
    have hql : q ≤ len := by omega
    clear h0
    rw [Int.toNat_natCast, show ((q : Int) - (n : Int)).toNat = q - n from by omega]
    rcases Nat.eq_zero_or_pos cap with hc0 | hc0
    · subst hc0
      obtain rfl : n = 0 := by omega
      obtain rfl : q = 0 := by omega
      obtain rfl : len = 0 := by omega
      obtain rfl : l = [] := List.length_eq_zero_iff.1 hL
      have hC := fclone_calls a 0 0 [] w ⟨rfl, .inl rfl⟩ (by omega) (fun _ => rfl) (by omega)
      cases a with
      | none =>
        go_enter Try.func20, Try.ntmps20
        go_wp2_with fail
        refine hC.mono ?_
        rintro e W ⟨a', cap', rfl, ht, hcp, hB⟩
        go_wp2
        go_ret2
        first | exact ⟨a', cap', rfl, ht, hcp, hB⟩ | exact ⟨a', ⟨cap', rfl⟩, ht, hB⟩ | exact ⟨a', ⟨cap', rfl, hcp⟩, ht, hB⟩
      | some x =>
        go_enter Try.func20, Try.ntmps20
        go_wp2_with fail
        refine hC.mono ?_
        rintro e W ⟨a', cap', rfl, ht, hcp, hB⟩
        go_wp2
        go_ret2
        first | exact ⟨a', cap', rfl, ht, hcp, hB⟩ | exact ⟨a', ⟨cap', rfl⟩, ht, hB⟩ | exact ⟨a', ⟨cap', rfl, hcp⟩, ht, hB⟩
    · cases a with
      | none => exact absurd (ha rfl) (by omega)
      | some x =>
        obtain ⟨b, o, sp⟩ := x
        obtain rfl : sp = none := hnone _ rfl hc0
        have hsub := hl.part n (q - n) cap (by omega) hcap
        have HL : Hid (((l.drop n).take (q - n)).length = q - n) := hsub.1
        generalize hcut : (l.drop n).take (q - n) = L at *
        have hC := fclone_calls _ (q - n) (cap - n) L w hsub (by omega) (fun h => by split at h <;> cases h) (by omega)
        clear hcut hsub hl
        have e1 : decide ((n : Int) < 0) = false := by simp
        have e2 : decide ((q : Int) < (n : Int)) = false := by simpa using hnq
        by_cases hcn : cap = n
        · rw [if_pos hcn] at hC
          subst hcn
          rw [Nat.sub_self] at hC
          go_enter Try.func20, Try.ntmps20
          go_wp2_with fail
          refine hC.mono ?_
          rintro e W ⟨a', cap', rfl, ht, hcp, hB⟩
          go_wp2
          go_ret2
          exact ⟨a', cap', by rw [HL.out]; rfl, by rw [HL.out]; exact ht, by rw [HL.out]; exact hcp, hB⟩
        · rw [if_neg hcn] at hC
          go_enter Try.func20, Try.ntmps20
          go_wp2_with fail
          refine hC.mono ?_
          rintro e W ⟨a', cap', rfl, ht, hcp, hB⟩
          go_wp2
          go_ret2
          exact ⟨a', cap', by rw [HL.out]; rfl, by rw [HL.out]; exact ht, by rw [HL.out]; exact hcp, hB⟩
end Go.Proofs.Ytcakpdehphpibaa
