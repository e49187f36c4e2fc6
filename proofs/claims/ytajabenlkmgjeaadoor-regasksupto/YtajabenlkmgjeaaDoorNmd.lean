/-
  PROVED HERE: reg's named and Check at every tree and all groups: what they return; nothing that lay before is turned.
-/
import Derived.Test.YtajabenlkmgjeaaDoorTyp
namespace Go.Proofs.YtajabenlkmgjeaaDoor
open Go.RowKit

/-- Has each name a type? -/
def nmd (gs : List Grp) : Nat → DataW Unit → Bool
  | 0, _ => true
  | n + 1, t => if kindT t = 1 then !(((maskG gs (nameT t) : Nat) : Int) == 0) else (subs t).all (nmd gs n)
set_option maxRecDepth 100000 in
set_option maxHeartbeats 2000000 in
theorem named_calls (ga : Option Addr) (gl gc : Nat) (gs : List Grp) (hr : rightG gs = true) : ∀ (n : Nat) (t : DataW Unit) (v : Value) (w : World), Ex w n t v → Groups w ga gl gs →
    Calls Tryd.prog 21 #[v, .slice ga gl gc] w fun e w' => e = .returned (.bool (nmd gs n t)) ∧ Below w.heap.size w w' := by
  intro n
  induction n with
  | zero => intro t v w h; exact h.elim
  | succ n ih =>
    intro t v w h hG
    obtain ⟨k, s, a, len, cap, ts, rfl, rfl, hl, hz, hk⟩ := h
    have HB0 : Hid (∀ o, Below w.heap.size w (w.alloc o)) := fun o => (Below.refl _ w).alloc (Nat.le_refl _) _
    rw [nmd, kindT_node, subs_node, nameT_node]
    by_cases k1 : k = 1
    · subst k1
      rw [if_pos rfl]
      have HT : Hid (∀ W, Below w.heap.size w W → Calls Tryd.prog 41 #[.string s, .slice ga gl gc] W fun e w' => e = .returned (.int .u16 (maskG gs s : Int)) ∧ Below W.heap.size W w') := fun W hW => typesof_calls s ga gl gc gs W (hG.below hW) hr
      generalize ((maskG gs s : Nat) : Int) = m at *
      clear hk ih hG
      cases hm : (m == 0) with
      | true =>
        have hm2 : (m != 0) = false := by simp [bne, hm]
        go_enter Tryd.func21, Tryd.ntmps21
        go_wp2_with fail
        refine (HT.out _ (HB0.out _)).mono ?_
        rintro e W ⟨rfl, hW⟩
        go_wp2
        go_ret
        exact ⟨rfl, (HB0.out _).trans (hW.mono (by simp))⟩
      | false =>
        have hm2 : (m != 0) = true := by simp [bne, hm]
        go_enter Tryd.func21, Tryd.ntmps21
        go_wp2_with fail
        refine (HT.out _ (HB0.out _)).mono ?_
        rintro e W ⟨rfl, hW⟩
        go_wp2
        go_ret
        exact ⟨rfl, (HB0.out _).trans (hW.mono (by simp))⟩
    · rw [if_neg k1]
      have e1 : (k == 1) = false := by simpa using k1
      obtain ⟨R, hR⟩ : ∃ R, ts.all (nmd gs n) = R := ⟨_, rfl⟩
      rw [hR]
      have HR : Hid (ts.all (nmd gs n) = R) := hR
      clear hR
      go_enter Tryd.func21, Tryd.ntmps21
      go_wp2
      go_loopw [18] (fun i w' => ∃ j : Nat, j ≤ len ∧ i = .int .i64 (j : Int) ∧ (ts.take j).all (nmd gs n) = true ∧ Below (w.alloc (.cells #[.int .i64 k, .string s, .slice a len cap] 24)).heap.size (w.alloc (.cells #[.int .i64 k, .string s, .slice a len cap] 24)) w') (fun i _ => len - (intOf i).toNat)
      case atStart => exact ⟨0, by omega, rfl, rfl, Below.refl _ _⟩
      case round =>
        obtain ⟨i, hi, rfl, hT, hB⟩ := hrel
        obtain ⟨-, -, -, hBw⟩ := one_kept hB
        by_cases hlt : i < len
        · obtain ⟨b, o, x, kx, sx, ax, lx, cx, rfl, _, hx, hcx⟩ := kid_at hl hk hlt
          obtain ⟨p0, p1, p2, p3⟩ := hcx wr hBw
          have HI : Hid ((ts.take (i + 1)).all (nmd gs n) = nmd gs n x) := by show _ = _; rw [allI_step hx, hT, Bool.true_and]
          have HO : Hid (nmd gs n x = false → R = false) := fun e => by rw [← HR.out]; exact allI_not hx e
          have HC : Hid (∀ W, Below wr.heap.size wr W → Calls Tryd.prog 21 #[.agg #[.int .i64 kx, .string sx, .slice ax lx cx], .slice ga gl gc] W fun e w' => e = .returned (.bool (nmd gs n x)) ∧ Below W.heap.size W w') := fun W hW => ih x _ W (Ex.below hW _ _ _ p3) ((hG.below hBw).below hW)
          have HW : Hid (∀ o, Below wr.heap.size wr (wr.alloc o)) := fun o => (Below.refl _ wr).alloc (Nat.le_refl _) _
          clear hcx hk p3 hx ih hT hG
          generalize nmd gs n x = q at *
          cases q with
          | false =>
            have HF : Hid (R = false) := HO.out rfl
            clear HO
            go_wp2_with fail
            refine (HC.out _ (HW.out _)).mono ?_
            rintro e W2 ⟨rfl, hW2⟩
            have hB2 : Below wr.heap.size wr W2 := (HW.out _).trans (hW2.mono (by simp))
            go_wp2
            go_ret
            exact ⟨by rw [HF.out]; rfl, hBw.trans (hB2.mono hBw.size)⟩
          | true =>
            clear HO
            go_wp2_with fail
            refine (HC.out _ (HW.out _)).mono ?_
            rintro e W2 ⟨rfl, hW2⟩
            have hB2 : Below wr.heap.size wr W2 := (HW.out _).trans (hW2.mono (by simp))
            go_wp2
            go_roundw
            case rel => exact ⟨i + 1, by omega, rfl, HI.out, hB.trans (hB2.mono hB.size)⟩
            case measure => simp [intOf]; omega
        · obtain rfl : i = len := by omega
          have HF : Hid (R = true) := by
            show R = true
            rw [← HR.out, ← hT, List.take_of_length_le (Nat.le_of_eq hl)]
          clear hk ih hT hG
          go_wp2
          go_ret
          exact ⟨by rw [HF.out]; rfl, hBw⟩
/-- What reg.Check answers. -/
def chk (n : Nat) (t : DataW Unit) (gs : List Grp) : Int := if checkE n t = 0 then (if rightG gs = true then (if nmd gs n t = true then 0 else 6) else 1) else checkE n t
set_option maxRecDepth 100000 in
set_option maxHeartbeats 2000000 in
theorem rcheck_calls (n : Nat) (t : DataW Unit) (v : Value) (ga : Option Addr) (gl gc : Nat) (gs : List Grp) (w : World) (h : Ex w n t v) (hN : named n t) (hG : Groups w ga gl gs) :
    Calls Tryd.prog 8 #[v, .slice ga gl gc] w fun e w' => e = .returned (.int .i64 (chk n t gs)) ∧ Below w.heap.size w w' := by
  have H1 : Hid (∀ W, Below w.heap.size w W → Calls Tryd.prog 19 #[v] W fun e w' => e = .returned (.int .i64 (checkE n t)) ∧ Below W.heap.size W w') := fun W hW => check_calls n t v W (Ex.below hW _ _ _ h) hN
  have H2 : Hid (∀ W, Below w.heap.size w W → Calls Tryd.prog 20 #[.slice ga gl gc] W fun e w' => e = .returned (.bool (rightG gs)) ∧ Below W.heap.size W w') := fun W hW => rightgroups_calls ga gl gc gs W (hG.below hW)
  have H3 : Hid (rightG gs = true → ∀ W, Below w.heap.size w W → Calls Tryd.prog 21 #[v, .slice ga gl gc] W fun e w' => e = .returned (.bool (nmd gs n t)) ∧ Below W.heap.size W w') := fun hr W hW => named_calls ga gl gc gs hr n t v W (Ex.below hW _ _ _ h) (hG.below hW)
  unfold chk
  generalize checkE n t = c at *
  generalize rightG gs = r at *
  generalize nmd gs n t = q at *
  have HB0 : Hid (∀ o, Below w.heap.size w (w.alloc o)) := fun o => (Below.refl _ w).alloc (Nat.le_refl _) _
  obtain ⟨k, s, a, len, cap, rfl⟩ : ∃ k s a len cap, v = .agg #[.int .i64 k, .string s, .slice a len cap] := by
    cases n with
    | zero => exact h.elim
    | succ n => obtain ⟨k, s, a, len, cap, ts, _, rfl, _⟩ := h; exact ⟨k, s, a, len, cap, rfl⟩
  have HF0 : Hid (∀ W : World, Below (w.alloc (.cells #[.int .i64 k, .string s, .slice a len cap] 24)).heap.size (w.alloc (.cells #[.int .i64 k, .string s, .slice a len cap] 24)) W → W.cell? ⟨w.heap.size, 0, none⟩ = some (.int .i64 k) ∧ W.cell? ⟨w.heap.size, 1, none⟩ = some (.string s) ∧ W.cell? ⟨w.heap.size, 2, none⟩ = some (.slice a len cap) ∧ Below w.heap.size w W) := fun W hW => one_kept hW
  clear h hN hG
  by_cases hc : c = 0
  · subst hc
    rw [if_pos rfl]
    cases r with
    | false =>
      rw [if_neg (by decide)]
      clear H3
      go_enter Tryd.func8, Tryd.ntmps8
      go_wp2_with fail
      refine (H1.out _ (HB0.out _)).mono ?_
      rintro e W ⟨rfl, hW⟩
      obtain ⟨c0, c1, c2, hBw⟩ := HF0.out W hW
      go_wp2_with fail
      refine (H2.out _ hBw).mono ?_
      rintro e W2 ⟨rfl, hW2⟩
      go_wp2
      go_ret
      exact ⟨rfl, hBw.trans (hW2.mono hBw.size)⟩
    | true =>
      rw [if_pos rfl]
      have H3' : Hid (∀ W, Below w.heap.size w W → Calls Tryd.prog 21 #[.agg #[.int .i64 k, .string s, .slice a len cap], .slice ga gl gc] W fun e w' => e = .returned (.bool q) ∧ Below W.heap.size W w') := H3.out rfl
      clear H3
      cases q with
      | false =>
        rw [if_neg (by decide)]
        go_enter Tryd.func8, Tryd.ntmps8
        go_wp2_with fail
        refine (H1.out _ (HB0.out _)).mono ?_
        rintro e W ⟨rfl, hW⟩
        obtain ⟨c0, c1, c2, hBw⟩ := HF0.out W hW
        go_wp2_with fail
        refine (H2.out _ hBw).mono ?_
        rintro e W2 ⟨rfl, hW2⟩
        have hB2 : Below (w.alloc (.cells #[.int .i64 k, .string s, .slice a len cap] 24)).heap.size (w.alloc (.cells #[.int .i64 k, .string s, .slice a len cap] 24)) W2 := hW.trans (hW2.mono hW.size)
        obtain ⟨d0, d1, d2, hBw2⟩ := HF0.out W2 hB2
        clear c0 c1 c2
        go_wp2_with fail
        refine (H3'.out _ hBw2).mono ?_
        rintro e W3 ⟨rfl, hW3⟩
        go_wp2
        go_ret
        exact ⟨rfl, hBw2.trans (hW3.mono hBw2.size)⟩
      | true =>
        rw [if_pos rfl]
        go_enter Tryd.func8, Tryd.ntmps8
        go_wp2_with fail
        refine (H1.out _ (HB0.out _)).mono ?_
        rintro e W ⟨rfl, hW⟩
        obtain ⟨c0, c1, c2, hBw⟩ := HF0.out W hW
        go_wp2_with fail
        refine (H2.out _ hBw).mono ?_
        rintro e W2 ⟨rfl, hW2⟩
        have hB2 : Below (w.alloc (.cells #[.int .i64 k, .string s, .slice a len cap] 24)).heap.size (w.alloc (.cells #[.int .i64 k, .string s, .slice a len cap] 24)) W2 := hW.trans (hW2.mono hW.size)
        obtain ⟨d0, d1, d2, hBw2⟩ := HF0.out W2 hB2
        clear c0 c1 c2
        go_wp2_with fail
        refine (H3'.out _ hBw2).mono ?_
        rintro e W3 ⟨rfl, hW3⟩
        go_wp2
        go_ret
        exact ⟨rfl, hBw2.trans (hW3.mono hBw2.size)⟩
  · rw [if_neg hc]
    have e0 : (c == 0) = false := by simpa using hc
    have e1 : (c != 0) = true := by simp [bne, e0]
    clear H2 H3
    go_enter Tryd.func8, Tryd.ntmps8
    go_wp2_with fail
    refine (H1.out _ (HB0.out _)).mono ?_
    rintro e W ⟨rfl, hW⟩
    obtain ⟨c0, c1, c2, hBw⟩ := HF0.out W hW
    go_wp2
    go_ret
    exact ⟨rfl, hBw⟩
end Go.Proofs.YtajabenlkmgjeaaDoor
