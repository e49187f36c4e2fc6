/-
  PROVED HERE: a place's take: so many bytes from the place on, the place behind them; or the error that leaves by a panic.
-/
import Derived.Test.YtppiklgkpicfeaaCNum
import Derived.Deep.QuietTactic
import Derived.BigQuiet
namespace Go.Proofs.Ytppiklgkpicfeaa
open Go.RowKit

/-- A part of a row. -/
theorem Row.part {k : IntKind} {w : World} {b o len : Nat} {zs : List Int} (h : Row k w (some ⟨b, o, none⟩) len zs) (i n : Nat) (hn : i + n ≤ len) : Row k w (some ⟨b, o + i, none⟩) n ((zs.drop i).take n) := by
  obtain ⟨hl, h0 | ⟨b', o', e, hb, hc⟩⟩ := h
  · have : n = 0 := by omega
    subst this
    exact ⟨by simp, .inl rfl⟩
  · cases e
    refine ⟨by rw [List.length_take, List.length_drop]; omega, .inr ⟨b, o + i, rfl, hb, fun j hj => ?_⟩⟩
    rw [Nat.add_assoc, hc (i + j) (by omega), List.getD_eq_getElem?_getD, List.getD_eq_getElem?_getD, List.getElem?_take, if_pos hj, List.getElem?_drop]

/-- What s[i:i+n] is, by the bytes. -/
theorem Row.cut {k : IntKind} {w : World} {a : Option Addr} {len : Nat} {zs : List Int} (h : Row k w a len zs) (i n : Nat) (hn : i + n ≤ len) (a' : Option Addr) (ha : n = 0 ∨ ∀ b o, a = some ⟨b, o, none⟩ → a' = some ⟨b, o + i, none⟩) : Row k w a' n ((zs.drop i).take n) := by
  rcases Nat.eq_zero_or_pos n with h0 | h0
  · subst h0
    exact ⟨by simp, .inl rfl⟩
  · obtain ⟨hl, h1 | ⟨b, o, rfl, hb, hc⟩⟩ := h
    · omega
    · have e := (ha.resolve_left (by omega)) b o rfl
      subst e
      exact Row.part ⟨hl, .inr ⟨b, o, rfl, hb, hc⟩⟩ i n hn

set_option maxRecDepth 100000 in
set_option maxHeartbeats 2000000 in
theorem take_short (B : Nat) (a : Option Addr) (len cap : Nat) (p n : Int) (w : World) (hrd : Rd w B a len cap p) (_hlen : len ≤ 140737488355328) (_hp0 : 0 ≤ p) (hp1 : p ≤ len) (hn0 : 0 ≤ n) (hn1 : n ≤ 2147483648) (hsh : (len : Int) - p < n) :
    Calls Try.prog 26 #[.pointer (some ⟨B, 0, none⟩), .int .i64 n] w fun e w' => e = .panicked (pan 3) ∧ Below w.heap.size w w' := by
  have c0 := hrd.cell0
  have c1 := hrd.cell1
  unfold pan
  go_enter Try.func26, Try.ntmps26
  go_wp2_with fail
  go_quiet (fail)
  go_wp2
  exact ⟨rfl, rfl, below_drewN (Below.refl _ _) _⟩

theorem Rd.drewN {w : World} {B : Nat} {a : Option Addr} {len cap : Nat} {p : Int} (h : Rd w B a len cap p) (n : Nat) : Rd (w.drewN n) B a len cap p := (below_drewN (Below.refl w.heap.size w) n).block B h.lt |>.trans h

set_option maxRecDepth 100000 in
set_option maxHeartbeats 4000000 in
theorem take_calls (B : Nat) (a : Option Addr) (len cap : Nat) (bs : List Int) (P M : Nat) (w : World) (hrd : Rd w B a len cap (P : Int)) (hrow : Row .u8 w a len bs) (hlen : len ≤ 140737488355328) (hcap : len ≤ cap) (hcm : cap ≤ 9223372036854775807) (hsh : P + M ≤ len)
    (R : Ending → World → Prop) (k : ∀ a' cap' m q, (∀ X, Row .u8 X a len bs → Row .u8 X a' M ((bs.drop P).take M)) → R (.returned (.slice a' M cap')) (((w.drewN m).setCell ⟨B, 1, none⟩ (.int .i64 ((P : Int) + (M : Int)))).drewN q)) :
    Calls Try.prog 26 #[.pointer (some ⟨B, 0, none⟩), .int .i64 (M : Int)] w R := by
  have K := hide_ k
  clear k
  have c0 := hrd.cell0
  have c1 := hrd.cell1
  have ng : ¬ (len : Int) - (P : Int) < (M : Int) := by omega
  have f1 := hrd.frozen1
  have hs := hrd.set ((P : Int) + (M : Int))
  have d0 := hs.cell0
  have d1 := hs.cell1
  have hpl : (P : Int) + (M : Int) ≤ len := by omega
  have hpc : (P : Int) + (M : Int) ≤ cap := by omega
  have hpp : (P : Int) ≤ (P : Int) + (M : Int) := by omega
  have hq : (P : Int) + (M : Int) - (M : Int) = (P : Int) := by omega
  cases a with
  | none =>
    have h0 : len = 0 := by
      rcases hrow.2 with h | ⟨b, o, h, _⟩
      · exact h
      · cases h
    have hP : P = 0 := by omega
    have hM : M = 0 := by omega
    subst h0 hP hM
    go_enter Try.func26, Try.ntmps26
    go_wp2_with fail
    go_quiet (fail)
    go_wp2_with fail
    go_quiet (fail)
    go_wp2
    exact K.out _ _ _ _ (fun X _ => by simpa using row_nil X none)
  | some x =>
    have hR : ∀ a', (M = 0 ∨ a' = some (x.add P)) → ∀ X, Row .u8 X (some x) len bs → Row .u8 X a' M ((bs.drop P).take M) := fun a' h X hX => hX.cut P M hsh a' (by
      rcases h with h | rfl
      · exact .inl h
      · refine .inr fun b o e => ?_
        cases e
        rw [add_none])
    have HR := hide_ hR
    have HM : Hid (P + M - P = M) := by show P + M - P = M; omega
    clear hR
    by_cases hc : cap = P
    · have HZ : Hid (M = 0) := by show M = 0; omega
      go_enter Try.func26, Try.ntmps26
      go_wp2_with fail
      go_quiet (fail)
      go_wp2_with fail
      go_quiet (fail)
      go_wp2
      rw [HM.out]
      exact K.out _ _ _ _ (HR.out _ (.inl HZ.out))
    · go_enter Try.func26, Try.ntmps26
      go_wp2_with fail
      go_quiet (fail)
      go_wp2_with fail
      go_quiet (fail)
      go_wp2
      rw [HM.out]
      exact K.out _ _ _ _ (HR.out _ (.inr rfl))
end Go.Proofs.Ytppiklgkpicfeaa
