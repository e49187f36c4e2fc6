/-
  PROVED HERE: what the texts PRight, ParseC, LaidB, Auto, Lays say (each has its own words below).
-/
import Derived.Test.YtofkiaeocfpkeaaGreatDoorRF4
import Derived.LaidEql
import Derived.Stop.Asserts
import Derived.RowKitTokens
import Derived.Laws.Tables
import Derived.Laws.CopyOwn
import Derived.WalkKit
/- PRight: expr's own right and Check at every tree: what they return; nothing that lay before is turned. -/
namespace Go.Proofs.YtofkiaeocfpkeaaGreatDoor
open Go.RowKit

def rowK (k : Int) : Bool := k == 2 || k == 3
set_option maxRecDepth 100000 in
set_option maxHeartbeats 2000000 in
theorem isrow_calls (k : Int) (w : World) : Calls Tryz.prog 182 #[.int .i64 k] w fun e w' => e = .returned (.bool (rowK k)) ∧ w' = w := by
  unfold rowK
  cases h : (k == 2) with
  | true =>
    go_enter Tryz.func182, Tryz.ntmps182
    go_wp2
    go_ret
    exact ⟨rfl, rfl⟩
  | false =>
    go_enter Tryz.func182, Tryz.ntmps182
    go_wp2
    go_ret
    exact ⟨rfl, rfl⟩
/-- May the kind i stand just in k? -/
def mayIn (i k : Int) : Bool := !(i == 0) && (!(i == k) || !rowK k)
set_option maxRecDepth 100000 in
set_option maxHeartbeats 2000000 in
theorem may_calls (i k : Int) (w : World) : Calls Tryz.prog 175 #[.int .i64 i, .int .i64 k] w fun e w' => e = .returned (.bool (mayIn i k)) ∧ w' = w := by
  have HR : Hid (∀ W, Calls Tryz.prog 182 #[.int .i64 k] W fun e w' => e = .returned (.bool (rowK k)) ∧ w' = W) := fun W => isrow_calls k W
  unfold mayIn
  generalize rowK k = r at *
  cases h : (i == 0) with
  | true =>
    have h1 : (i != 0) = false := by simp [bne, h]
    go_enter Tryz.func175, Tryz.ntmps175
    go_wp2
    go_ret
    exact ⟨rfl, rfl⟩
  | false =>
    have h1 : (i != 0) = true := by simp [bne, h]
    cases h2 : (i == k) with
    | true =>
      have h3 : (i != k) = false := by simp [bne, h2]
      go_enter Tryz.func175, Tryz.ntmps175
      go_wp2_with fail
      refine (HR.out _).mono ?_
      rintro e W ⟨rfl, hW⟩
      rw [hW]
      go_wp2
      go_ret
      exact ⟨by cases r <;> rfl, rfl⟩
    | false =>
      have h3 : (i != k) = true := by simp [bne, h2]
      go_enter Tryz.func175, Tryz.ntmps175
      go_wp2
      go_ret
      exact ⟨by cases r <;> rfl, rfl⟩
def inAll (n : Nat) (k : Int) (ts : List (DataW Unit)) : Bool := ts.all (fun x => mayIn (kindT x) k && rightE n x)
/-- What is right, as the program asks it. -/
def rightP (n : Nat) (k : Int) (s : ByteArray) (ts : List (DataW Unit)) : Bool :=
  if k = 0 then s.toList.isEmpty && ts.length == 0
  else if k = 1 then letters s && ts.length == 0
  else if k = 2 ∨ k = 3 then (s.toList.isEmpty && decide (2 ≤ ts.length)) && inAll n k ts
  else if k = 4 ∨ k = 5 ∨ k = 6 then (s.toList.isEmpty && ts.length == 1) && inAll n k ts
  else false
theorem all_and {p q : DataW Unit → Bool} : ∀ l : List (DataW Unit), l.all (fun x => p x && q x) = (l.all p && l.all q) := by
  intro l
  induction l with
  | nil => rfl
  | cons x r ih =>
    simp only [List.all_cons, ih]
    cases p x <;> cases q x <;> cases r.all p <;> cases r.all q <;> rfl
theorem right_same (n : Nat) (k : Int) (s : ByteArray) (ts : List (DataW Unit)) : rightE (n + 1) (node k s ts) = rightP n k s ts := by
  rw [rightE, subs_node, kindT_node, nameT_node]
  unfold shapely rightP
  have h0 : ts.length = 0 → ts = [] := List.length_eq_zero_iff.1
  by_cases k0 : k = 0
  · subst k0
    simp only [if_true]
    cases h : ts.length == 0 with
    | false => simp
    | true => rw [h0 (by simpa using h)]; simp
  rw [if_neg k0, if_neg k0]
  by_cases k1 : k = 1
  · subst k1
    simp only [if_true]
    cases h : ts.length == 0 with
    | false => simp
    | true => rw [h0 (by simpa using h)]; simp
  rw [if_neg k1, if_neg k1]
  by_cases k2 : k = 2 ∨ k = 3
  · rw [if_neg (by omega), if_pos k2, if_pos k2]
    have hr : rowK k = true := by unfold rowK; rcases k2 with rfl | rfl <;> rfl
    have hi : inAll n k ts = (ts.all (fun x => !(kindT x == 0) && rightE n x) && ts.all (fun x => !(kindT x == k))) := by
      rw [← all_and]
      unfold inAll mayIn
      congr 1
      funext x
      rw [hr]
      cases (kindT x == 0) <;> cases (kindT x == k) <;> cases rightE n x <;> rfl
    rw [hi]
    cases ts.all (fun x => !(kindT x == 0) && rightE n x) <;> cases ts.all (fun x => !(kindT x == k)) <;> cases s.toList.isEmpty <;> cases decide (2 ≤ ts.length) <;> rfl
  rw [if_neg k2, if_neg k2]
  by_cases k4 : k = 4 ∨ k = 5 ∨ k = 6
  · rw [if_pos k4, if_pos k4]
    have hr : rowK k = false := by unfold rowK; rcases k4 with rfl | rfl | rfl <;> rfl
    have hi : inAll n k ts = ts.all (fun x => !(kindT x == 0) && rightE n x) := by
      unfold inAll mayIn
      congr 1
      funext x
      rw [hr]
      cases (kindT x == 0) <;> cases (kindT x == k) <;> cases rightE n x <;> rfl
    rw [hi, Bool.and_comm]
  · rw [if_neg k4, if_neg k4, Bool.and_false]

set_option maxRecDepth 100000 in
set_option maxHeartbeats 4000000 in
theorem inall_calls (n : Nat) (ih : ∀ (t : DataW Unit) (v : Value) (w : World), Ex w n t v → named n t → Calls Tryz.prog 125 #[v] w fun e w' => e = .returned (.bool (rightE n t)) ∧ Below w.heap.size w w')
    (k : Int) (s : ByteArray) (ts : List (DataW Unit)) (v : Value) (w : World) (h : Ex w (n + 1) (node k s ts) v) (hN : named (n + 1) (node k s ts)) :
    Calls Tryz.prog 160 #[v] w fun e w' => e = .returned (.bool (inAll n k ts)) ∧ Below w.heap.size w w' := by
  obtain ⟨k', s', a, len, cap, ts', hn, rfl, hl, hz, hk⟩ := h
  obtain ⟨rfl, rfl, rfl⟩ := node_inj.1 hn
  have hNk := hN.2
  rw [subs_node] at hNk
  obtain ⟨R, hR⟩ : ∃ R, inAll n k ts = R := ⟨_, rfl⟩
  rw [hR]
  have HR : Hid (inAll n k ts = R) := hR
  clear hR hn hN
  go_enter Tryz.func160, Tryz.ntmps160
  go_wp2
  go_loopw [8] (fun i w' => ∃ j : Nat, j ≤ len ∧ i = .int .i64 (j : Int) ∧ inAll n k (ts.take j) = true ∧ Below (w.alloc (.cells #[.int .i64 k, .string s, .slice a len cap] 26)).heap.size (w.alloc (.cells #[.int .i64 k, .string s, .slice a len cap] 26)) w') (fun i _ => len - (intOf i).toNat)
  case atStart => exact ⟨0, by omega, rfl, rfl, Below.refl _ _⟩
  case round =>
    obtain ⟨i, hi, rfl, hT, hB⟩ := hrel
    obtain ⟨b1, -, b0, hBw⟩ := one_kept hB
    have b2 : ∀ o, (wr.alloc o).cell? ⟨w.heap.size, 0, none⟩ = some (.int .i64 k) := fun o => by
      rw [World.cell?_alloc_lt _ _ ⟨w.heap.size, 0, none⟩ (by have := hB.size; simp only [World.size_alloc] at this; show w.heap.size < wr.heap.size; omega)]
      exact b1
    by_cases hlt : i < len
    · obtain ⟨b, o, x, kx, sx, ax, lx, cx, rfl, _, hx, hcx⟩ := kid_at hl hk hlt
      obtain ⟨p0, p1, p2, p3⟩ := hcx wr hBw
      have hkx : kindT x = kx := ex_kind p3
      have hst : inAll n k (ts.take (i + 1)) = (mayIn kx k && rightE n x) := by
        have := all_step (p := fun x => mayIn (kindT x) k && rightE n x) hx
        unfold inAll at hT ⊢
        rw [this, hT, Bool.true_and, hkx]
      have hno : (mayIn kx k && rightE n x) = false → R = false := fun h => by
        rw [← HR.out]
        exact all_not hx (by rw [hkx]; exact h)
      have HM : Hid (∀ W, Calls Tryz.prog 175 #[.int .i64 kx, .int .i64 k] W fun e w' => e = .returned (.bool (mayIn kx k)) ∧ w' = W) := fun W => may_calls kx k W
      have HC : Hid (∀ W, Below wr.heap.size wr W → Calls Tryz.prog 125 #[.agg #[.int .i64 kx, .string sx, .slice ax lx cx]] W fun e w' => e = .returned (.bool (rightE n x)) ∧ Below W.heap.size W w') := fun W hW => ih x _ W (Ex.below hW _ _ _ p3) (hNk x (List.mem_of_getElem? hx))
      have HI : Hid (inAll n k (ts.take (i + 1)) = (mayIn kx k && rightE n x)) := hst
      have HO : Hid ((mayIn kx k && rightE n x) = false → R = false) := hno
      have HW : Hid (∀ o, Below wr.heap.size wr (wr.alloc o)) := fun o => (Below.refl _ wr).alloc (Nat.le_refl _) _
      clear hcx hk p3 hst hno hx ih hkx hT hNk
      generalize mayIn kx k = mk at *
      generalize rightE n x = rx at *
      cases mk with
      | false =>
        go_wp2_with fail
        refine (HM.out _).mono ?_
        rintro e W ⟨rfl, hW⟩
        rw [hW]
        go_wp2
        go_ret
        exact ⟨by rw [HO.out rfl]; rfl, hBw.trans ((HW.out _).mono hBw.size)⟩
      | true =>
        go_wp2_with fail
        refine (HM.out _).mono ?_
        rintro e W ⟨rfl, hW⟩
        rw [hW]
        go_wp2_with fail
        refine (HC.out _ (HW.out _)).mono ?_
        rintro e W2 ⟨rfl, hW2⟩
        have hB2 : Below wr.heap.size wr W2 := (HW.out _).trans (hW2.mono (by simp))
        cases rx with
        | false =>
          go_wp2
          go_ret
          exact ⟨by rw [HO.out rfl]; rfl, hBw.trans (hB2.mono hBw.size)⟩
        | true =>
          go_wp2
          go_roundw
          case rel => exact ⟨i + 1, by omega, rfl, HI.out, hB.trans (hB2.mono hB.size)⟩
          case measure => simp [intOf]; omega
    · obtain rfl : i = len := by omega
      have HF : Hid (R = true) := by
        show R = true
        rw [← HR.out, ← hT, List.take_of_length_le (Nat.le_of_eq hl)]
      clear hk ih hNk hT
      go_wp2
      go_ret
      exact ⟨by rw [HF.out]; rfl, hBw⟩

set_option maxRecDepth 100000 in
set_option maxHeartbeats 4000000 in
theorem rightp_calls : ∀ (n : Nat) (t : DataW Unit) (v : Value) (w : World), Ex w n t v → named n t →
    Calls Tryz.prog 125 #[v] w fun e w' => e = .returned (.bool (rightE n t)) ∧ Below w.heap.size w w' := by
  intro n
  induction n with
  | zero => intro t v w h; exact h.elim
  | succ n ih =>
    intro t v w h hN
    have hh := h
    obtain ⟨k, s, a, len, cap, ts, rfl, rfl, hl, hz, hk⟩ := h
    have HI : Hid (∀ W, Below w.heap.size w W → Calls Tryz.prog 160 #[.agg #[.int .i64 k, .string s, .slice a len cap]] W fun e w' => e = .returned (.bool (inAll n k ts)) ∧ Below W.heap.size W w') := fun W hW => inall_calls n ih k s ts _ W (Ex.below hW _ _ _ hh) hN
    have hNs : s.size ≤ 9223372036854775807 := by have := hN.1; rwa [nameT_node] at this
    have HL : Hid (∀ W, Calls Tryz.prog 159 #[.string s] W fun e w' => e = .returned (.bool (letters s)) ∧ w' = W) := fun W => isname_calls s W hNs
    rw [right_same]
    unfold rightP
    rw [hl]
    have HB0 : Hid (∀ o, Below w.heap.size w (w.alloc o)) := fun o => (Below.refl _ w).alloc (Nat.le_refl _) _
    clear hk ih hN hh hz hl hNs
    have hq0 := int_beq len 0
    have hq1 := int_beq len 1
    have hq2 := int_le len
    rw [hq0, hq1, hq2]
    clear hq0 hq1 hq2
    by_cases k0 : k = 0
    · subst k0
      simp only [if_true]
      cases he : s.toList.isEmpty with
      | true =>
        go_enter Tryz.func125, Tryz.ntmps125
        go_wp2
        go_ret
        exact ⟨rfl, HB0.out _⟩
      | false =>
        go_enter Tryz.func125, Tryz.ntmps125
        go_wp2
        go_ret
        exact ⟨rfl, HB0.out _⟩
    rw [if_neg k0]
    have e0 : (k == 0) = false := by simpa using k0
    by_cases k1 : k = 1
    · subst k1
      simp only [if_true]
      generalize letters s = b at *
      cases b with
      | true =>
        go_enter Tryz.func125, Tryz.ntmps125
        go_wp2_with fail
        refine (HL.out _).mono ?_
        rintro e W ⟨rfl, hW⟩
        rw [hW]
        go_wp2
        go_ret
        exact ⟨rfl, HB0.out _⟩
      | false =>
        go_enter Tryz.func125, Tryz.ntmps125
        go_wp2_with fail
        refine (HL.out _).mono ?_
        rintro e W ⟨rfl, hW⟩
        rw [hW]
        go_wp2
        go_ret
        exact ⟨rfl, HB0.out _⟩
    rw [if_neg k1]
    have e1 : (k == 1) = false := by simpa using k1
    generalize inAll n k ts = q at *
    have HW : Hid (∀ o W, Below (w.alloc o).heap.size (w.alloc o) W → Below w.heap.size w W) := fun o W h => (HB0.out o).trans (h.mono (by simp))
    by_cases k2 : k = 2 ∨ k = 3
    · rw [if_pos k2]
      clear k0 k1
      cases he : s.toList.isEmpty with
      | true =>
        cases hc : decide ((2 : Int) ≤ (len : Int)) with
        | true =>
          have hc' : (2 : Int) ≤ (len : Int) := of_decide_eq_true hc
          rcases k2 with rfl | rfl
          all_goals
            go_enter Tryz.func125, Tryz.ntmps125
            go_wp2_with fail
            refine (HI.out _ (HB0.out _)).mono ?_
            rintro e W ⟨rfl, hW⟩
            go_wp2
            go_ret
            exact ⟨rfl, HW.out _ _ hW⟩
        | false =>
          have hc' : ¬ (2 : Int) ≤ (len : Int) := of_decide_eq_false hc
          rcases k2 with rfl | rfl
          all_goals
            go_enter Tryz.func125, Tryz.ntmps125
            go_wp2
            go_ret
            exact ⟨rfl, HB0.out _⟩
      | false =>
        rcases k2 with rfl | rfl
        all_goals
          go_enter Tryz.func125, Tryz.ntmps125
          go_wp2
          go_ret
          exact ⟨rfl, HB0.out _⟩
    rw [if_neg k2]
    have e2 : (k == 2) = false := by rw [beq_eq_false_iff_ne]; omega
    have e3 : (k == 3) = false := by rw [beq_eq_false_iff_ne]; omega
    by_cases k4 : k = 4 ∨ k = 5 ∨ k = 6
    · rw [if_pos k4]
      clear k0 k1 k2
      cases he : s.toList.isEmpty with
      | true =>
        cases hc : ((len : Int) == ((1 : Nat) : Int)) with
        | true =>
          have hc' : ((len : Int) == (1 : Int)) = true := hc
          rcases k4 with rfl | rfl | rfl
          all_goals
            go_enter Tryz.func125, Tryz.ntmps125
            go_wp2_with fail
            refine (HI.out _ (HB0.out _)).mono ?_
            rintro e W ⟨rfl, hW⟩
            go_wp2
            go_ret
            exact ⟨rfl, HW.out _ _ hW⟩
        | false =>
          have hc' : ((len : Int) == (1 : Int)) = false := hc
          rcases k4 with rfl | rfl | rfl
          all_goals
            go_enter Tryz.func125, Tryz.ntmps125
            go_wp2
            go_ret
            exact ⟨rfl, HB0.out _⟩
      | false =>
        rcases k4 with rfl | rfl | rfl
        all_goals
          go_enter Tryz.func125, Tryz.ntmps125
          go_wp2
          go_ret
          exact ⟨rfl, HB0.out _⟩
    rw [if_neg k4]
    have e4 : (k == 4) = false := by rw [beq_eq_false_iff_ne]; omega
    have e5 : (k == 5) = false := by rw [beq_eq_false_iff_ne]; omega
    have e6 : (k == 6) = false := by rw [beq_eq_false_iff_ne]; omega
    clear k0 k1 k2 k4
    go_enter Tryz.func125, Tryz.ntmps125
    go_wp2
    go_ret
    exact ⟨rfl, HB0.out _⟩
theorem check_rb (n : Nat) (t : DataW Unit) : checkE n t = if rb n t 1 200 < 0 then 2 else if rightE n t = true then 0 else 4 := by
  unfold checkE
  by_cases h : 200 < cnt n t ∨ 60 < dp n t
  · have e : rb n t 1 200 = -1 := by unfold rb; exact if_neg (by omega)
    rw [if_pos h, e, if_pos (by decide)]
  · have e : rb n t 1 200 = 200 - cnt n t := by unfold rb; exact if_pos (by omega)
    have e2 : ¬ (200 - cnt n t < 0) := by omega
    rw [if_neg h, e, if_neg e2]
set_option maxRecDepth 100000 in
set_option maxHeartbeats 2000000 in
theorem check_calls (n : Nat) (t : DataW Unit) (v : Value) (w : World) (h : Ex w n t v) (hN : named n t) :
    Calls Tryz.prog 85 #[v] w fun e w' => e = .returned (.int .i64 (checkE n t)) ∧ Below w.heap.size w w' := by
  have H1 : Hid (∀ W, Below w.heap.size w W → Calls Tryz.prog 124 #[v, .int .i64 1, .int .i64 200] W fun e w' => e = .returned (.int .i64 (rb n t 1 200)) ∧ Below W.heap.size W w') := fun W hW => room_calls n t v W 1 200 (Ex.below hW _ _ _ h) (by decide) (by decide) (by decide) (by decide)
  have H3 : Hid (∀ W, Below w.heap.size w W → Calls Tryz.prog 125 #[v] W fun e w' => e = .returned (.bool (rightE n t)) ∧ Below W.heap.size W w') := fun W hW => rightp_calls n t v W (Ex.below hW _ _ _ h) hN
  rw [check_rb]
  have hr := rb_range n t 1 200
  generalize rb n t 1 200 = r at *
  generalize rightE n t = b at *
  have HB0 : Hid (∀ o, Below w.heap.size w (w.alloc o)) := fun o => (Below.refl _ w).alloc (Nat.le_refl _) _
  obtain ⟨k, s, a, len, cap, rfl⟩ : ∃ k s a len cap, v = .agg #[.int .i64 k, .string s, .slice a len cap] := by
    cases n with
    | zero => exact h.elim
    | succ n => obtain ⟨k, s, a, len, cap, ts, _, rfl, _⟩ := h; exact ⟨k, s, a, len, cap, rfl⟩
  have f0 : ∀ W : World, Below (w.alloc (.cells #[.int .i64 k, .string s, .slice a len cap] 26)).heap.size (w.alloc (.cells #[.int .i64 k, .string s, .slice a len cap] 26)) W → W.cell? ⟨w.heap.size, 0, none⟩ = some (.int .i64 k) ∧ W.cell? ⟨w.heap.size, 1, none⟩ = some (.string s) ∧ W.cell? ⟨w.heap.size, 2, none⟩ = some (.slice a len cap) ∧ Below w.heap.size w W := fun W hW => one_kept hW
  have HF0 : Hid (∀ W : World, Below (w.alloc (.cells #[.int .i64 k, .string s, .slice a len cap] 26)).heap.size (w.alloc (.cells #[.int .i64 k, .string s, .slice a len cap] 26)) W → W.cell? ⟨w.heap.size, 0, none⟩ = some (.int .i64 k) ∧ W.cell? ⟨w.heap.size, 1, none⟩ = some (.string s) ∧ W.cell? ⟨w.heap.size, 2, none⟩ = some (.slice a len cap) ∧ Below w.heap.size w W) := f0
  clear f0 h hN
  by_cases hneg : r < 0
  · rw [if_pos hneg]
    go_enter Tryz.func85, Tryz.ntmps85
    go_wp2_with fail
    refine (H1.out _ (HB0.out _)).mono ?_
    rintro e W ⟨rfl, hW⟩
    obtain ⟨-, -, -, hBw⟩ := HF0.out W hW
    go_wp2
    go_ret
    exact ⟨rfl, hBw⟩
  · rw [if_neg hneg]
    cases b with
    | true =>
      go_enter Tryz.func85, Tryz.ntmps85
      go_wp2_with fail
      refine (H1.out _ (HB0.out _)).mono ?_
      rintro e W ⟨rfl, hW⟩
      obtain ⟨c0, c1, c2, hBw⟩ := HF0.out W hW
      go_wp2_with fail
      refine (H3.out _ hBw).mono ?_
      rintro e W2 ⟨rfl, hW2⟩
      go_wp2
      go_ret
      exact ⟨rfl, hBw.trans (hW2.mono hBw.size)⟩
    | false =>
      go_enter Tryz.func85, Tryz.ntmps85
      go_wp2_with fail
      refine (H1.out _ (HB0.out _)).mono ?_
      rintro e W ⟨rfl, hW⟩
      obtain ⟨c0, c1, c2, hBw⟩ := HF0.out W hW
      go_wp2_with fail
      refine (H3.out _ hBw).mono ?_
      rintro e W2 ⟨rfl, hW2⟩
      go_wp2
      go_ret
      exact ⟨rfl, hBw.trans (hW2.mono hBw.size)⟩
end Go.Proofs.YtofkiaeocfpkeaaGreatDoor

/- ParseC: errors.As at the refusals of the reader; expr.Parse at every text. -/
namespace Go.Proofs.YtofkiaeocfpkeaaGreatDoor
open Go.RowKit Go.Extern.Stop Go.Stop Go.Extern

theorem q_methodKind (h : Value) (w : World) : (Go.method 370 221 (.agg #[h]) "Kind").run Tryz.prog w = .ok (203, h) w := by kernel_rfl
theorem q_methodElem (h : Value) (w : World) : (Go.method 370 221 (.agg #[h]) "Elem").run Tryz.prog w = .ok (216, .agg #[h]) w := by kernel_rfl
theorem q_methodImplements (h : Value) (w : World) : (Go.method 370 221 (.agg #[h]) "Implements").run Tryz.prog w = .ok (217, .agg #[h]) w := by kernel_rfl
theorem q_methodAssignableTo (h : Value) (w : World) : (Go.method 370 221 (.agg #[h]) "AssignableTo").run Tryz.prog w = .ok (214, .agg #[h]) w := by kernel_rfl
theorem getlit1 (a b : Value) (h1 : (#[a, b] : Array Value).size = 2) (h2 : 1 < 2) : (#[a, b] : Array Value).getLit 1 h1 h2 = b := rfl
end Go.Proofs.YtofkiaeocfpkeaaGreatDoor

/- As2: errors.As at a refusal of expr's, both targets of told, and told: what they return and leave. -/
namespace Go.Proofs.YtofkiaeocfpkeaaGreatDoor
open Go.RowKit Go.Extern.Stop Go.Stop Go.Extern

theorem qr_valueOfP (t : Addr) (w : World) : (ReflectliteValue.unpack (.iface 146 (.pointer (some t)))).run Tryz.prog w
    = .ok (.agg #[.pointer (some ⟨3, 146, none⟩), .pointer (some ⟨w.heap.size, 0, none⟩), .int .u64 150]) (w.alloc (.cells #[.pointer (some t)] 146)) := by kernel_rfl
theorem qr_typeP (a : Addr) (w : World) : (ReflectliteValue.methodAny (ReflectliteValue.valueError "reflectlite.Value.Type" 0) (fun t _ _ _ => ReflectliteType.toType t) #[.agg #[.pointer (some ⟨3, 146, none⟩), .pointer (some a), .int .u64 150]]).run Tryz.prog w
    = .ok (.iface 221 (.agg #[.pointer (some ⟨3, 146, none⟩)])) w := by kernel_rfl
theorem qr_kindP (w : World) : ((ReflectliteType.abiMethod fun t => (fun a : Nat => Value.int IntKind.u8 (a : Int)) <$> Rtype.kind t) #[.pointer (some ⟨3, 146, none⟩)]).run Tryz.prog w = .ok (.int .u8 22) w := by kernel_rfl
theorem qr_kind (w : World) : ((ReflectliteType.abiMethod fun t => (fun a : Nat => Value.int IntKind.u8 (a : Int)) <$> Rtype.kind t) #[.pointer (some ⟨3, 140, none⟩)]).run Tryz.prog w = .ok (.int .u8 25) w := by kernel_rfl
theorem qr_partsP (a : Addr) (w : World) : (ReflectliteValue.parts (.agg #[.pointer (some ⟨3, 146, none⟩), .pointer (some a), .int .u64 150])).run Tryz.prog w = .ok (some (146, a, 150)) w := by kernel_rfl
theorem qr_isNil (a p : Addr) (W : World) (ha : W.cell? a = some (.pointer (some p))) :
    (ReflectliteValue.method (ReflectliteValue.valueError "reflectlite.Value.IsNil" 0) ReflectliteValue.isNil #[.agg #[.pointer (some ⟨3, 146, none⟩), .pointer (some a), .int .u64 150]]).run Tryz.prog W = .ok (.bool false) W := by
  refine Eq.trans (Sem.run_bind (x := ReflectliteValue.parts (.agg #[.pointer (some ⟨3, 146, none⟩), .pointer (some a), .int .u64 150])) ..) ?_
  simp only [qr_partsP, Result.andThen]
  simp [ReflectliteValue.isNil, loadVar, isAgg, underlying, Tryz.underlying146, ha, Result.andThen]
theorem qr_elem (w : World) : (ReflectliteType.method ReflectliteType.elem #[.agg #[.pointer (some ⟨3, 146, none⟩)]]).run Tryz.prog w = .ok (.iface 221 (.agg #[.pointer (some ⟨3, 140, none⟩)])) w := by kernel_rfl
theorem qr_implements (w : World) : (ReflectliteType.relation "Implements" ReflectliteType.implements_ #[.agg #[.pointer (some ⟨3, 140, none⟩)], .iface 221 (.agg #[.pointer (some ⟨3, 67, none⟩)])]).run Tryz.prog w = .ok (.bool true) w := by kernel_rfl
theorem qr_typeOf (v : Value) (w : World) : (ReflectliteType.typeOf #[.iface 140 v]).run Tryz.prog w = .ok (.iface 221 (.agg #[.pointer (some ⟨3, 140, none⟩)])) w := by kernel_rfl
theorem qr_assignable (w : World) : (ReflectliteType.relation "AssignableTo" ReflectliteType.assignableTo #[.agg #[.pointer (some ⟨3, 140, none⟩)], .iface 221 (.agg #[.pointer (some ⟨3, 140, none⟩)])]).run Tryz.prog w = .ok (.bool true) w := by kernel_rfl
theorem qr_elemOf (w : World) : (Rtype.elem? 146).run Tryz.prog w = .ok (some 140) w := by kernel_rfl
theorem qr_mk (p : Addr) (w : World) : (ReflectliteValue.mk 140 p ReflectliteValue.flagAddr).run Tryz.prog w = .ok (.agg #[.pointer (some ⟨3, 140, none⟩), .pointer (some p), .int .u64 409]) w := by kernel_rfl
theorem qr_elemV (a p : Addr) (W : World) (ha : W.cell? a = some (.pointer (some p))) :
    (ReflectliteValue.method (ReflectliteValue.valueError "reflectlite.Value.Elem" 0) ReflectliteValue.elem #[.agg #[.pointer (some ⟨3, 146, none⟩), .pointer (some a), .int .u64 150]]).run Tryz.prog W
      = .ok (.agg #[.pointer (some ⟨3, 140, none⟩), .pointer (some p), .int .u64 409]) W := by
  refine Eq.trans (Sem.run_bind (x := ReflectliteValue.parts (.agg #[.pointer (some ⟨3, 146, none⟩), .pointer (some a), .int .u64 150])) ..) ?_
  simp only [qr_partsP, Result.andThen]
  simp [ReflectliteValue.elem, loadVar, isAgg, underlying, Tryz.underlying146, ha, Result.andThen, qr_elemOf, qr_mk]
theorem qr_partsA (a : Addr) (w : World) : (ReflectliteValue.parts (.agg #[.pointer (some ⟨3, 140, none⟩), .pointer (some a), .int .u64 409])).run Tryz.prog w = .ok (some (140, a, 409)) w := by kernel_rfl
theorem qr_parts (a : Addr) (w : World) : (ReflectliteValue.parts (.agg #[.pointer (some ⟨3, 140, none⟩), .pointer (some a), .int .u64 153])).run Tryz.prog w = .ok (some (140, a, 153)) w := by kernel_rfl
theorem qr_direct (w : World) : (Rtype.directlyAssignable 140 140).run Tryz.prog w = .ok true w := by kernel_rfl
theorem qe_valueOfP (t : Addr) (w : World) : (ReflectliteValue.unpack (.iface 147 (.pointer (some t)))).run Tryz.prog w
    = .ok (.agg #[.pointer (some ⟨3, 147, none⟩), .pointer (some ⟨w.heap.size, 0, none⟩), .int .u64 150]) (w.alloc (.cells #[.pointer (some t)] 147)) := by kernel_rfl
theorem qe_typeP (a : Addr) (w : World) : (ReflectliteValue.methodAny (ReflectliteValue.valueError "reflectlite.Value.Type" 0) (fun t _ _ _ => ReflectliteType.toType t) #[.agg #[.pointer (some ⟨3, 147, none⟩), .pointer (some a), .int .u64 150]]).run Tryz.prog w
    = .ok (.iface 221 (.agg #[.pointer (some ⟨3, 147, none⟩)])) w := by kernel_rfl
theorem qe_kindP (w : World) : ((ReflectliteType.abiMethod fun t => (fun a : Nat => Value.int IntKind.u8 (a : Int)) <$> Rtype.kind t) #[.pointer (some ⟨3, 147, none⟩)]).run Tryz.prog w = .ok (.int .u8 22) w := by kernel_rfl
theorem qe_kind (w : World) : ((ReflectliteType.abiMethod fun t => (fun a : Nat => Value.int IntKind.u8 (a : Int)) <$> Rtype.kind t) #[.pointer (some ⟨3, 27, none⟩)]).run Tryz.prog w = .ok (.int .u8 2) w := by kernel_rfl
theorem qe_partsP (a : Addr) (w : World) : (ReflectliteValue.parts (.agg #[.pointer (some ⟨3, 147, none⟩), .pointer (some a), .int .u64 150])).run Tryz.prog w = .ok (some (147, a, 150)) w := by kernel_rfl
theorem qe_isNil (a p : Addr) (W : World) (ha : W.cell? a = some (.pointer (some p))) :
    (ReflectliteValue.method (ReflectliteValue.valueError "reflectlite.Value.IsNil" 0) ReflectliteValue.isNil #[.agg #[.pointer (some ⟨3, 147, none⟩), .pointer (some a), .int .u64 150]]).run Tryz.prog W = .ok (.bool false) W := by
  refine Eq.trans (Sem.run_bind (x := ReflectliteValue.parts (.agg #[.pointer (some ⟨3, 147, none⟩), .pointer (some a), .int .u64 150])) ..) ?_
  simp only [qe_partsP, Result.andThen]
  simp [ReflectliteValue.isNil, loadVar, isAgg, underlying, Tryz.underlying147, ha, Result.andThen]
theorem qe_elem (w : World) : (ReflectliteType.method ReflectliteType.elem #[.agg #[.pointer (some ⟨3, 147, none⟩)]]).run Tryz.prog w = .ok (.iface 221 (.agg #[.pointer (some ⟨3, 27, none⟩)])) w := by kernel_rfl
theorem qe_implements (w : World) : (ReflectliteType.relation "Implements" ReflectliteType.implements_ #[.agg #[.pointer (some ⟨3, 27, none⟩)], .iface 221 (.agg #[.pointer (some ⟨3, 67, none⟩)])]).run Tryz.prog w = .ok (.bool true) w := by kernel_rfl
theorem qe_typeOf (v : Value) (w : World) : (ReflectliteType.typeOf #[.iface 27 v]).run Tryz.prog w = .ok (.iface 221 (.agg #[.pointer (some ⟨3, 27, none⟩)])) w := by kernel_rfl
theorem qe_assignable (w : World) : (ReflectliteType.relation "AssignableTo" ReflectliteType.assignableTo #[.agg #[.pointer (some ⟨3, 27, none⟩)], .iface 221 (.agg #[.pointer (some ⟨3, 27, none⟩)])]).run Tryz.prog w = .ok (.bool true) w := by kernel_rfl
theorem qe_elemOf (w : World) : (Rtype.elem? 147).run Tryz.prog w = .ok (some 27) w := by kernel_rfl
theorem qe_mk (p : Addr) (w : World) : (ReflectliteValue.mk 27 p ReflectliteValue.flagAddr).run Tryz.prog w = .ok (.agg #[.pointer (some ⟨3, 27, none⟩), .pointer (some p), .int .u64 386]) w := by kernel_rfl
theorem qe_elemV (a p : Addr) (W : World) (ha : W.cell? a = some (.pointer (some p))) :
    (ReflectliteValue.method (ReflectliteValue.valueError "reflectlite.Value.Elem" 0) ReflectliteValue.elem #[.agg #[.pointer (some ⟨3, 147, none⟩), .pointer (some a), .int .u64 150]]).run Tryz.prog W
      = .ok (.agg #[.pointer (some ⟨3, 27, none⟩), .pointer (some p), .int .u64 386]) W := by
  refine Eq.trans (Sem.run_bind (x := ReflectliteValue.parts (.agg #[.pointer (some ⟨3, 147, none⟩), .pointer (some a), .int .u64 150])) ..) ?_
  simp only [qe_partsP, Result.andThen]
  simp [ReflectliteValue.elem, loadVar, isAgg, underlying, Tryz.underlying147, ha, Result.andThen, qe_elemOf, qe_mk]
theorem qe_partsA (a : Addr) (w : World) : (ReflectliteValue.parts (.agg #[.pointer (some ⟨3, 27, none⟩), .pointer (some a), .int .u64 386])).run Tryz.prog w = .ok (some (27, a, 386)) w := by kernel_rfl
theorem qe_parts (a : Addr) (w : World) : (ReflectliteValue.parts (.agg #[.pointer (some ⟨3, 27, none⟩), .pointer (some a), .int .u64 130])).run Tryz.prog w = .ok (some (27, a, 130)) w := by kernel_rfl
theorem qe_direct (w : World) : (Rtype.directlyAssignable 27 27).run Tryz.prog w = .ok true w := by kernel_rfl
theorem qr_valueOf (x y : Value) (w : World) : (ReflectliteValue.unpack (.iface 140 (.agg #[x, y]))).run Tryz.prog w
    = .ok (.agg #[.pointer (some ⟨3, 140, none⟩), .pointer (some ⟨w.heap.size, 0, none⟩), .int .u64 153]) (w.alloc (.cells #[x, y] 140)) := by kernel_rfl
theorem qe_valueOf (n : Int) (w : World) : (ReflectliteValue.unpack (.iface 27 (.int .i64 n))).run Tryz.prog w
    = .ok (.agg #[.pointer (some ⟨3, 27, none⟩), .pointer (some ⟨w.heap.size, 0, none⟩), .int .u64 130]) (w.alloc (.cells #[.int .i64 n] 27)) := by kernel_rfl
theorem qre_assignable (w : World) : (ReflectliteType.relation "AssignableTo" ReflectliteType.assignableTo #[.agg #[.pointer (some ⟨3, 140, none⟩)], .iface 221 (.agg #[.pointer (some ⟨3, 27, none⟩)])]).run Tryz.prog w = .ok (.bool false) w := by kernel_rfl
theorem qr_set (tb b : Nat) (i n : Int) (old : Array Value) (W : World) (hb : W.heap[b]? = some (.cells #[.int .i64 i, .iface 27 (.int .i64 n)] 140 (0, 0))) (ht : W.heap[tb]? = some (.cells old 140 (0, 0))) (ho : old.size = 2) :
    (ReflectliteValue.set #[.agg #[.pointer (some ⟨3, 140, none⟩), .pointer (some ⟨tb, 0, none⟩), .int .u64 409], .agg #[.pointer (some ⟨3, 140, none⟩), .pointer (some ⟨b, 0, none⟩), .int .u64 153]]).run Tryz.prog W
      = .ok (.tuple #[]) (W.setRow tb #[.int .i64 i, .iface 27 (.int .i64 n)]) := by
  have h1 := run_loadVar_row (P := Tryz.prog) W b 140 140 _ _ _ hb Tryz.underlying140 rfl (by kernel_rfl)
  have h2 := run_storeVar_row (P := Tryz.prog) W tb 140 140 old #[.int .i64 i, .iface 27 (.int .i64 n)] ht (by kernel_rfl) (by rw [ho]; rfl) (by rw [Array.all_eq_true_iff_forall_mem]; intro v hv; simp at hv; rcases hv with rfl | rfl <;> rfl)
  refine Eq.trans (Sem.run_bind (x := ReflectliteValue.parts (.agg #[.pointer (some ⟨3, 140, none⟩), .pointer (some ⟨tb, 0, none⟩), .int .u64 409])) ..) ?_
  simp only [Sem.run_bind, qr_partsA, getlit1, qr_parts, Result.andThen]
  simp [ReflectliteValue.flagAddr, h1, h2, Result.andThen, qr_direct]
theorem qe_set (ta b : Addr) (n : Int) (old : Value) (W : World) (hb : W.cell? b = some (.int .i64 n)) (ht : W.cell? ta = some old) (hf : W.frozen? ta = false) :
    (ReflectliteValue.set #[.agg #[.pointer (some ⟨3, 27, none⟩), .pointer (some ta), .int .u64 386], .agg #[.pointer (some ⟨3, 27, none⟩), .pointer (some b), .int .u64 130]]).run Tryz.prog W
      = .ok (.tuple #[]) (W.setCell ta (.int .i64 n)) := by
  refine Eq.trans (Sem.run_bind (x := ReflectliteValue.parts (.agg #[.pointer (some ⟨3, 27, none⟩), .pointer (some ta), .int .u64 386])) ..) ?_
  simp only [Sem.run_bind, qe_partsA, getlit1, qe_parts, Result.andThen]
  simp [ReflectliteValue.flagAddr, loadVar, isAgg, underlying, Tryz.underlying27, hb, Result.andThen, qe_direct, storeVar, Value.cells, storeCells, Addr.add]
  rw [run_store Tryz.prog W ta _ _ (by rfl)]
  simp [ht, hf]
theorem q_noAs (v : Value) (xT : TypeId) (w : World) : (Instr.typeAssert (.iface 140 v) xT 226 true).run Tryz.prog w = .ok (.tuple #[.nilIface, .bool false]) w := run_typeAssert_lacksB Tryz.underlying226 (by kernel_rfl) (by kernel_rfl) v xT w
theorem q_unwrap (v : Value) (xT : TypeId) (w : World) : (Instr.typeAssert (.iface 140 v) xT 229 true).run Tryz.prog w = .ok (.tuple #[.iface 140 v, .bool true]) w := run_typeAssert_hasB Tryz.underlying229 (by kernel_rfl) v xT w
theorem q_methodUnwrap (x y : Value) (w : World) : (Go.method 370 140 (.agg #[x, y]) "Unwrap").run Tryz.prog w = .ok (209, .agg #[x, y]) w := by kernel_rfl
end Go.Proofs.YtofkiaeocfpkeaaGreatDoor

/- As3: errors.As at a refusal of expr's, both targets of told, and told: what they return and leave. -/
namespace Go.Proofs.YtofkiaeocfpkeaaGreatDoor
open Go.RowKit Go.Extern.Stop Go.Stop Go.Extern

/-- The package variable that errors.As reads. -/
def ETy (w : World) : Prop := w.cell? ⟨1, 0, none⟩ = some (.iface 221 (.agg #[.pointer (some ⟨3, 67, none⟩)]))
theorem ETy.lt {w : World} (h : ETy w) : 1 < w.heap.size := by
  rcases Nat.lt_or_ge 1 w.heap.size with h1 | h0
  · exact h1
  · unfold ETy at h
    simp [World.cell?, Array.getElem?_eq_none h0] at h
theorem new_block (w : World) (o : Obj) : (w.alloc o).heap[w.heap.size]? = some o := Array.getElem?_push_size ..
def valC (pt a : Nat) : Array Value := #[.pointer (some ⟨3, pt, none⟩), .pointer (some ⟨a, 0, none⟩), .int .u64 150]

set_option maxHeartbeats 4000000 in
set_option maxRecDepth 100000 in
theorem as_where (i n : Int) (tb : Nat) (old : Array Value) (w : World) (hg : ETy w) (ht : w.heap[tb]? = some (.cells old 140 (0, 0))) (ho : old.size = 2) :
    Calls Tryz.prog 86 #[.iface 140 (.agg #[.int .i64 i, .iface 27 (.int .i64 n)]), .iface 146 (.pointer (some ⟨tb, 0, none⟩))] w fun ev w' => ev = .returned (.bool true) ∧
      w' = ((((w.alloc (.cells #[.pointer (some ⟨tb, 0, none⟩)] 146)).alloc (.cells (valC 146 w.heap.size) 189)).alloc (.cells (valC 146 w.heap.size) 189)).alloc (.cells #[.int .i64 i, .iface 27 (.int .i64 n)] 140)).setRow tb #[.int .i64 i, .iface 27 (.int .i64 n)] := by
  have hlt := hg.lt
  have htl : tb < w.heap.size := (Array.getElem?_eq_some_iff.1 ht).1
  unfold ETy at hg
  unfold valC
  have h6 := @run_callFunc_extern Tryz.prog 126 _ (fun args => ReflectliteValue.unpack (args.getD 0 (.tuple #[]))) Tryz.func126 (by kernel_rfl) (by kernel_rfl) (by kernel_rfl) (by kernel_rfl)
  have h7 := @run_callFunc_extern Tryz.prog 127 _ (ReflectliteValue.methodAny (ReflectliteValue.valueError "reflectlite.Value.Type" 0) (fun t _ _ _ => ReflectliteType.toType t)) Tryz.func127 (by kernel_rfl) (by kernel_rfl) (by kernel_rfl) (by kernel_rfl)
  have h8 := @run_callFunc_extern Tryz.prog 128 _ (ReflectliteValue.method (ReflectliteValue.valueError "reflectlite.Value.IsNil" 0) ReflectliteValue.isNil) Tryz.func128 (by kernel_rfl) (by kernel_rfl) (by kernel_rfl) (by kernel_rfl)
  have h27 := @run_callFunc_extern Tryz.prog 203 _ (ReflectliteType.abiMethod fun t => do pure (.int .u8 (← Rtype.kind t))) Tryz.func203 (by kernel_rfl) (by kernel_rfl) (by kernel_rfl) (by kernel_rfl)
  have h37 := @run_callFunc_extern Tryz.prog 216 _ (ReflectliteType.method ReflectliteType.elem) Tryz.func216 (by kernel_rfl) (by kernel_rfl) (by kernel_rfl) (by kernel_rfl)
  have h38 := @run_callFunc_extern Tryz.prog 217 _ (ReflectliteType.relation "Implements" ReflectliteType.implements_) Tryz.func217 (by kernel_rfl) (by kernel_rfl) (by kernel_rfl) (by kernel_rfl)
  have h10 := @run_callFunc_extern Tryz.prog 161 _ ReflectliteType.typeOf Tryz.func161 (by kernel_rfl) (by kernel_rfl) (by kernel_rfl) (by kernel_rfl)
  have h35 := @run_callFunc_extern Tryz.prog 214 _ (ReflectliteType.relation "AssignableTo" ReflectliteType.assignableTo) Tryz.func214 (by kernel_rfl) (by kernel_rfl) (by kernel_rfl) (by kernel_rfl)
  have h11 := @run_callFunc_extern Tryz.prog 162 _ (ReflectliteValue.method (ReflectliteValue.valueError "reflectlite.Value.Elem" 0) ReflectliteValue.elem) Tryz.func162 (by kernel_rfl) (by kernel_rfl) (by kernel_rfl) (by kernel_rfl)
  have h12 := @run_callFunc_extern Tryz.prog 163 _ ReflectliteValue.set Tryz.func163 (by kernel_rfl) (by kernel_rfl) (by kernel_rfl) (by kernel_rfl)
  have tO := qr_typeOf
  have mA := q_methodAssignableTo
  have a25 := qr_assignable
  have v25 := qr_valueOf
  have f6 := qr_valueOfP
  have f7 := qr_typeP
  have mK := q_methodKind
  have mE := q_methodElem
  have mI := q_methodImplements
  have k27 := qr_kindP
  have k25 := qr_kind
  have e27 := qr_elem
  have i25 := qr_implements
  have n8 := qr_isNil ⟨w.heap.size, 0, none⟩ ⟨tb, 0, none⟩ ((w.alloc (.cells #[.pointer (some ⟨tb, 0, none⟩)] 146)).alloc (.cells #[.pointer (some ⟨3, 146, none⟩), .pointer (some ⟨w.heap.size, 0, none⟩), .int .u64 150] 189)) (by simp)
  have hg2 : ((w.alloc (.cells #[.pointer (some ⟨tb, 0, none⟩)] 146)).alloc (.cells #[.pointer (some ⟨3, 146, none⟩), .pointer (some ⟨w.heap.size, 0, none⟩), .int .u64 150] 189)).cell? ⟨1, 0, none⟩ = some (.iface 221 (.agg #[.pointer (some ⟨3, 67, none⟩)])) := by
    rw [World.cell?_alloc_lt _ _ ⟨1, 0, none⟩ (by show 1 < _; rw [World.size_alloc]; omega), World.cell?_alloc_lt _ _ ⟨1, 0, none⟩ hlt]; exact hg
  have el := qr_elemV ⟨w.heap.size, 0, none⟩ ⟨tb, 0, none⟩ (((w.alloc (.cells #[.pointer (some ⟨tb, 0, none⟩)] 146)).alloc (.cells #[.pointer (some ⟨3, 146, none⟩), .pointer (some ⟨w.heap.size, 0, none⟩), .int .u64 150] 189)).alloc (.cells #[.pointer (some ⟨3, 146, none⟩), .pointer (some ⟨w.heap.size, 0, none⟩), .int .u64 150] 189)) (by rw [World.cell?_alloc_lt _ _ ⟨w.heap.size, 0, none⟩ (by simp; omega)]; simp)
  have st := qr_set tb (w.heap.size + 1 + 1 + 1) i n old ((((w.alloc (.cells #[.pointer (some ⟨tb, 0, none⟩)] 146)).alloc (.cells #[.pointer (some ⟨3, 146, none⟩), .pointer (some ⟨w.heap.size, 0, none⟩), .int .u64 150] 189)).alloc (.cells #[.pointer (some ⟨3, 146, none⟩), .pointer (some ⟨w.heap.size, 0, none⟩), .int .u64 150] 189)).alloc (.cells #[.int .i64 i, .iface 27 (.int .i64 n)] 140))
    (by
      have := new_block (((w.alloc (.cells #[.pointer (some ⟨tb, 0, none⟩)] 146)).alloc (.cells #[.pointer (some ⟨3, 146, none⟩), .pointer (some ⟨w.heap.size, 0, none⟩), .int .u64 150] 189)).alloc (.cells #[.pointer (some ⟨3, 146, none⟩), .pointer (some ⟨w.heap.size, 0, none⟩), .int .u64 150] 189)) (.cells #[.int .i64 i, .iface 27 (.int .i64 n)] 140)
      simpa using this)
    (by rw [Below.heap_alloc _ _ tb (by simp; omega), Below.heap_alloc _ _ tb (by simp; omega), Below.heap_alloc _ _ tb (by simp; omega), Below.heap_alloc _ _ tb htl]; exact ht) ho
  go_enter Tryz.func86, Tryz.ntmps86
  go_wp2
  refine wp_loop_rounds 1 ?_
  rw [rounds_succ]
  go_wp2
  go_ret
  exact ⟨rfl, rfl⟩
end Go.Proofs.YtofkiaeocfpkeaaGreatDoor

/- As4: errors.As at a refusal of expr's: its number found; and told. -/
namespace Go.Proofs.YtofkiaeocfpkeaaGreatDoor
open Go.RowKit Go.Extern.Stop Go.Stop Go.Extern

set_option maxRecDepth 100000 in
theorem unwrap_calls (i n : Int) (w : World) : Calls Tryz.prog 209 #[.agg #[.int .i64 i, .iface 27 (.int .i64 n)]] w fun e w' => e = .returned (.iface 27 (.int .i64 n)) ∧ w' = w.alloc (.cells #[.int .i64 i, .iface 27 (.int .i64 n)] 140) := by
  go_enter Tryz.func209, Tryz.ntmps209
  go_wp2
  go_ret
  exact ⟨rfl, rfl⟩
set_option maxHeartbeats 4000000 in
set_option maxRecDepth 100000 in
theorem as_number (i n : Int) (tb : Nat) (old : Value) (w : World) (hg : ETy w) (ht : w.heap[tb]? = some (.cells #[old] 27 (0, 0))) :
    Calls Tryz.prog 86 #[.iface 140 (.agg #[.int .i64 i, .iface 27 (.int .i64 n)]), .iface 147 (.pointer (some ⟨tb, 0, none⟩))] w fun ev w' => ev = .returned (.bool true) ∧
      w' = (((((w.alloc (.cells #[.pointer (some ⟨tb, 0, none⟩)] 147)).alloc (.cells (valC 147 w.heap.size) 189)).alloc (.cells (valC 147 w.heap.size) 189)).alloc (.cells #[.int .i64 i, .iface 27 (.int .i64 n)] 140)).alloc (.cells #[.int .i64 n] 27)).setCell ⟨tb, 0, none⟩ (.int .i64 n) := by
  have hlt := hg.lt
  have htl : tb < w.heap.size := (Array.getElem?_eq_some_iff.1 ht).1
  unfold ETy at hg
  unfold valC
  have h6 := @run_callFunc_extern Tryz.prog 126 _ (fun args => ReflectliteValue.unpack (args.getD 0 (.tuple #[]))) Tryz.func126 (by kernel_rfl) (by kernel_rfl) (by kernel_rfl) (by kernel_rfl)
  have h7 := @run_callFunc_extern Tryz.prog 127 _ (ReflectliteValue.methodAny (ReflectliteValue.valueError "reflectlite.Value.Type" 0) (fun t _ _ _ => ReflectliteType.toType t)) Tryz.func127 (by kernel_rfl) (by kernel_rfl) (by kernel_rfl) (by kernel_rfl)
  have h8 := @run_callFunc_extern Tryz.prog 128 _ (ReflectliteValue.method (ReflectliteValue.valueError "reflectlite.Value.IsNil" 0) ReflectliteValue.isNil) Tryz.func128 (by kernel_rfl) (by kernel_rfl) (by kernel_rfl) (by kernel_rfl)
  have h27 := @run_callFunc_extern Tryz.prog 203 _ (ReflectliteType.abiMethod fun t => do pure (.int .u8 (← Rtype.kind t))) Tryz.func203 (by kernel_rfl) (by kernel_rfl) (by kernel_rfl) (by kernel_rfl)
  have h37 := @run_callFunc_extern Tryz.prog 216 _ (ReflectliteType.method ReflectliteType.elem) Tryz.func216 (by kernel_rfl) (by kernel_rfl) (by kernel_rfl) (by kernel_rfl)
  have h38 := @run_callFunc_extern Tryz.prog 217 _ (ReflectliteType.relation "Implements" ReflectliteType.implements_) Tryz.func217 (by kernel_rfl) (by kernel_rfl) (by kernel_rfl) (by kernel_rfl)
  have h10 := @run_callFunc_extern Tryz.prog 161 _ ReflectliteType.typeOf Tryz.func161 (by kernel_rfl) (by kernel_rfl) (by kernel_rfl) (by kernel_rfl)
  have h35 := @run_callFunc_extern Tryz.prog 214 _ (ReflectliteType.relation "AssignableTo" ReflectliteType.assignableTo) Tryz.func214 (by kernel_rfl) (by kernel_rfl) (by kernel_rfl) (by kernel_rfl)
  have h11 := @run_callFunc_extern Tryz.prog 162 _ (ReflectliteValue.method (ReflectliteValue.valueError "reflectlite.Value.Elem" 0) ReflectliteValue.elem) Tryz.func162 (by kernel_rfl) (by kernel_rfl) (by kernel_rfl) (by kernel_rfl)
  have h12 := @run_callFunc_extern Tryz.prog 163 _ ReflectliteValue.set Tryz.func163 (by kernel_rfl) (by kernel_rfl) (by kernel_rfl) (by kernel_rfl)
  have tO := qe_typeOf
  have mA := q_methodAssignableTo
  have a25 := qe_assignable
  have v25 := qe_valueOf
  have f6 := qe_valueOfP
  have f7 := qe_typeP
  have mK := q_methodKind
  have mE := q_methodElem
  have mI := q_methodImplements
  have k27 := qe_kindP
  have k25 := qe_kind
  have e27 := qe_elem
  have i25 := qe_implements
  have n8 := qe_isNil ⟨w.heap.size, 0, none⟩ ⟨tb, 0, none⟩ ((w.alloc (.cells #[.pointer (some ⟨tb, 0, none⟩)] 147)).alloc (.cells #[.pointer (some ⟨3, 147, none⟩), .pointer (some ⟨w.heap.size, 0, none⟩), .int .u64 150] 189)) (by simp)
  have hg2 : ((w.alloc (.cells #[.pointer (some ⟨tb, 0, none⟩)] 147)).alloc (.cells #[.pointer (some ⟨3, 147, none⟩), .pointer (some ⟨w.heap.size, 0, none⟩), .int .u64 150] 189)).cell? ⟨1, 0, none⟩ = some (.iface 221 (.agg #[.pointer (some ⟨3, 67, none⟩)])) := by
    rw [World.cell?_alloc_lt _ _ ⟨1, 0, none⟩ (by show 1 < _; rw [World.size_alloc]; omega), World.cell?_alloc_lt _ _ ⟨1, 0, none⟩ hlt]; exact hg
  have el := qe_elemV ⟨w.heap.size, 0, none⟩ ⟨tb, 0, none⟩ ((((w.alloc (.cells #[.pointer (some ⟨tb, 0, none⟩)] 147)).alloc (.cells #[.pointer (some ⟨3, 147, none⟩), .pointer (some ⟨w.heap.size, 0, none⟩), .int .u64 150] 189)).alloc (.cells #[.pointer (some ⟨3, 147, none⟩), .pointer (some ⟨w.heap.size, 0, none⟩), .int .u64 150] 189)).alloc (.cells #[.int .i64 i, .iface 27 (.int .i64 n)] 140)) (by rw [World.cell?_alloc_lt _ _ ⟨w.heap.size, 0, none⟩ (by simp; omega), World.cell?_alloc_lt _ _ ⟨w.heap.size, 0, none⟩ (by simp; omega)]; simp)
  have hc0 : w.cell? ⟨tb, 0, none⟩ = some old := cell_of_row w tb 0 _ _ _ ht
  have hf0 : w.frozen? ⟨tb, 0, none⟩ = false := by simp [World.frozen?, ht]
  have tR := qr_typeOf
  have aR := qre_assignable
  have nA := q_noAs
  have uW := q_unwrap
  have mU := q_methodUnwrap
  have st := qe_set ⟨tb, 0, none⟩ ⟨w.heap.size + 1 + 1 + 1 + 1, 0, none⟩ n old (((((w.alloc (.cells #[.pointer (some ⟨tb, 0, none⟩)] 147)).alloc (.cells #[.pointer (some ⟨3, 147, none⟩), .pointer (some ⟨w.heap.size, 0, none⟩), .int .u64 150] 189)).alloc (.cells #[.pointer (some ⟨3, 147, none⟩), .pointer (some ⟨w.heap.size, 0, none⟩), .int .u64 150] 189)).alloc (.cells #[.int .i64 i, .iface 27 (.int .i64 n)] 140)).alloc (.cells #[.int .i64 n] 27))
    (by rw [World.cell?_alloc_at _ _ _ _ (by simp)]; rfl)
    (by rw [World.cell?_alloc_lt _ _ ⟨tb, 0, none⟩ (by simp; omega), World.cell?_alloc_lt _ _ ⟨tb, 0, none⟩ (by simp; omega), World.cell?_alloc_lt _ _ ⟨tb, 0, none⟩ (by simp; omega), World.cell?_alloc_lt _ _ ⟨tb, 0, none⟩ (by simp; omega), World.cell?_alloc_lt _ _ ⟨tb, 0, none⟩ htl]; exact hc0)
    (by rw [World.frozen?_alloc_old _ _ ⟨tb, 0, none⟩ (by simp; omega), World.frozen?_alloc_old _ _ ⟨tb, 0, none⟩ (by simp; omega), World.frozen?_alloc_old _ _ ⟨tb, 0, none⟩ (by simp; omega), World.frozen?_alloc_old _ _ ⟨tb, 0, none⟩ (by simp; omega), World.frozen?_alloc_old _ _ ⟨tb, 0, none⟩ (Nat.ne_of_lt htl)]; exact hf0)
  go_enter Tryz.func86, Tryz.ntmps86
  go_wp2
  refine wp_loop_rounds 2 ?_
  rw [rounds_succ]
  go_wp2_with (go_at_call 209; refine (unwrap_calls _ _ _).mono ?_; rintro e w' ⟨rfl, rfl⟩)
  rw [rounds_succ]
  go_wp2
  go_ret
  exact ⟨rfl, rfl⟩
end Go.Proofs.YtofkiaeocfpkeaaGreatDoor

/- Told: expr.told at a refusal: the place and the number; nothing that lay before is turned. -/
namespace Go.Proofs.YtofkiaeocfpkeaaGreatDoor
open Go.RowKit

theorem ETy.below {w w' : World} (h : ETy w) (hB : Below w.heap.size w w') : ETy w' := (hB.cell (p := ⟨1, 0, none⟩) h.lt).trans h
set_option maxHeartbeats 4000000 in
set_option maxRecDepth 100000 in
theorem told_calls (i : Nat) (n : Int) (w : World) (hg : ETy w) :
    Calls Tryz.prog 35 #[refV i n] w fun e w' => e = .returned (.tuple #[.int .i64 (i : Int), .int .i64 n]) ∧ Below w.heap.size w w' := by
  obtain ⟨w0, hw0⟩ : ∃ w0, w0 = (w.alloc (.cells #[.int .i64 0, .nilIface] 140)).alloc (.cells #[.int .i64 0] 27) := ⟨_, rfl⟩
  have hB0 : Below w.heap.size w w0 := by rw [hw0]; exact ((Below.refl _ w).alloc (Nat.le_refl _) _).alloc (by simp) _
  have hs0 : w0.heap.size = w.heap.size + 1 + 1 := by rw [hw0]; simp
  have hb1 : w0.heap[w.heap.size]? = some (.cells #[.int .i64 0, .nilIface] 140 (0, 0)) := by rw [hw0, Below.heap_alloc _ _ _ (by simp)]; exact new_block w _
  have hb2 : w0.heap[w.heap.size + 1]? = some (.cells #[.int .i64 0] 27 (0, 0)) := by
    rw [hw0]
    have := new_block (w.alloc (.cells #[.int .i64 0, .nilIface] 140)) (.cells #[.int .i64 0] 27)
    simpa using this
  have H1 := as_where (i : Int) n w.heap.size _ w0 (hg.below hB0) hb1 rfl
  obtain ⟨w1, hw1⟩ : ∃ w1, w1 = ((((w0.alloc (.cells #[.pointer (some ⟨w.heap.size, 0, none⟩)] 146)).alloc (.cells (valC 146 w0.heap.size) 189)).alloc (.cells (valC 146 w0.heap.size) 189)).alloc (.cells #[.int .i64 (i : Int), .iface 27 (.int .i64 n)] 140)).setRow w.heap.size #[.int .i64 (i : Int), .iface 27 (.int .i64 n)] := ⟨_, rfl⟩
  rw [← hw1] at H1
  have hA1 : Below w0.heap.size w0 ((((w0.alloc (.cells #[.pointer (some ⟨w.heap.size, 0, none⟩)] 146)).alloc (.cells (valC 146 w0.heap.size) 189)).alloc (.cells (valC 146 w0.heap.size) 189)).alloc (.cells #[.int .i64 (i : Int), .iface 27 (.int .i64 n)] 140)) :=
    ((((Below.refl _ w0).alloc (Nat.le_refl _) _).alloc (by simp) _).alloc (by simp; omega) _).alloc (by simp; omega) _
  have hB1 : Below w.heap.size w w1 := by rw [hw1]; exact below_setRow (hB0.trans (hA1.mono (by omega))) (Nat.le_refl _) _
  have hr1 : w1.heap[w.heap.size]? = some (.cells #[.int .i64 (i : Int), .iface 27 (.int .i64 n)] 140 (0, 0)) := by
    rw [hw1]
    exact setRow_heap _ _ _ _ _ _ ((hA1.block _ (by omega)).trans hb1)
  have hr2 : w1.heap[w.heap.size + 1]? = some (.cells #[.int .i64 0] 27 (0, 0)) := by
    rw [hw1, setRow_other _ _ _ _ (by omega)]
    exact (hA1.block _ (by omega)).trans hb2
  have hs1 : w.heap.size + 2 ≤ w1.heap.size := by rw [hw1]; simp; omega
  have H2 := as_number (i : Int) n (w.heap.size + 1) _ w1 (hg.below hB1) hr2
  obtain ⟨w2, hw2⟩ : ∃ w2, w2 = (((((w1.alloc (.cells #[.pointer (some ⟨w.heap.size + 1, 0, none⟩)] 147)).alloc (.cells (valC 147 w1.heap.size) 189)).alloc (.cells (valC 147 w1.heap.size) 189)).alloc (.cells #[.int .i64 (i : Int), .iface 27 (.int .i64 n)] 140)).alloc (.cells #[.int .i64 n] 27)).setCell ⟨w.heap.size + 1, 0, none⟩ (.int .i64 n) := ⟨_, rfl⟩
  rw [← hw2] at H2
  have hA2 : Below w1.heap.size w1 (((((w1.alloc (.cells #[.pointer (some ⟨w.heap.size + 1, 0, none⟩)] 147)).alloc (.cells (valC 147 w1.heap.size) 189)).alloc (.cells (valC 147 w1.heap.size) 189)).alloc (.cells #[.int .i64 (i : Int), .iface 27 (.int .i64 n)] 140)).alloc (.cells #[.int .i64 n] 27)) :=
    (((((Below.refl _ w1).alloc (Nat.le_refl _) _).alloc (by simp) _).alloc (by simp; omega) _).alloc (by simp; omega) _).alloc (by simp; omega) _
  have hB2 : Below w.heap.size w w2 := by
    rw [hw2]
    exact (hB1.trans (hA2.mono (by omega))).setCell (by simp) _
  have c1 : w2.cell? ⟨w.heap.size, 0, none⟩ = some (.int .i64 (i : Int)) := by
    have h : w2.heap[w.heap.size]? = w1.heap[w.heap.size]? := by
      rw [hw2, Below.heap_setCell _ _ _ _ (by simp)]
      exact hA2.block _ (by omega)
    exact cell_of_row w2 _ 0 _ _ _ (h.trans hr1)
  have c2 : w2.cell? ⟨w.heap.size + 1, 0, none⟩ = some (.int .i64 n) := by
    have h := heap_setCell_same (((((w1.alloc (.cells #[.pointer (some ⟨w.heap.size + 1, 0, none⟩)] 147)).alloc (.cells (valC 147 w1.heap.size) 189)).alloc (.cells (valC 147 w1.heap.size) 189)).alloc (.cells #[.int .i64 (i : Int), .iface 27 (.int .i64 n)] 140)).alloc (.cells #[.int .i64 n] 27)) (w.heap.size + 1) 0 _ _ (.int .i64 n) ((hA2.block _ (by omega)).trans hr2)
    rw [← hw2] at h
    exact cell_of_row w2 _ 0 _ _ _ h
  clear hw2 hA2 hr2 hA1 hb2 hb1 hB0
  have HB : Hid (Below w.heap.size w w2) := hB2
  have h1 : Hid (Calls Tryz.prog 86 #[refV i n, .iface 146 (.pointer (some ⟨w.heap.size, 0, none⟩))] w0 fun ev w' => ev = .returned (.bool true) ∧ w' = w1) := H1
  have h2 : Hid (Calls Tryz.prog 86 #[refV i n, .iface 147 (.pointer (some ⟨w.heap.size + 1, 0, none⟩))] w1 fun ev w' => ev = .returned (.bool true) ∧ w' = w2) := H2
  clear H1 H2 hB2 hB1 hr1 hw1 hg hs1
  obtain ⟨V, hV⟩ : ∃ V, refV i n = V := ⟨_, rfl⟩
  rw [hV] at h1 h2 ⊢
  clear hV
  go_enter Tryz.func35, Tryz.ntmps35
  go_wp2_with fail
  rw [← hw0]
  refine h1.out.mono ?_
  rintro e W ⟨rfl, hW⟩
  subst hW
  go_wp2_with fail
  refine h2.out.mono ?_
  rintro e W ⟨rfl, hW⟩
  subst hW
  go_wp2_with fail
  go_quiet (fail)
  go_wp2
  go_ret2
  exact ⟨rfl, ⟨HB.out.os, HB.out.tape, HB.out.output, HB.out.size, HB.out.block⟩⟩
end Go.Proofs.YtofkiaeocfpkeaaGreatDoor

/- Parse: expr.Parse at every text: the tree, the place, the error; nothing that lay before is turned. -/
namespace Go.Proofs.YtofkiaeocfpkeaaGreatDoor
open Go.RowKit

def emptyT : DataW Unit := node 0 ⟨#[]⟩ []
/-- What Parse answers, as plain data. -/
def outT (s : ByteArray) : Option (DataW Unit) :=
  if 200 < s.size then none
  else match readT (bts s) with
    | none => none
    | some t => if checkE 200 t = 0 then some t else none
def outE (s : ByteArray) : Int :=
  if 200 < s.size then 2
  else match readT (bts s) with
    | none => 4
    | some t => if checkE 200 t = 0 then 0 else 4
def outN (s : ByteArray) : Nat :=
  if 200 < s.size then 0
  else match readT (bts s) with
    | none => s.size - (altN (s.size + 1) (bts s)).2.length
    | some t => if checkE 200 t = 0 then s.size else 0
theorem out_long {s : ByteArray} (h : 200 < s.size) : outT s = none ∧ outE s = 2 ∧ outN s = 0 := by
  unfold outT outE outN
  rw [if_pos h, if_pos h, if_pos h]
  exact ⟨rfl, rfl, rfl⟩
theorem out_none {s : ByteArray} (h : ¬ 200 < s.size) (hr : readT (bts s) = none) : outT s = none ∧ outE s = 4 ∧ outN s = s.size - (altN (s.size + 1) (bts s)).2.length := by
  unfold outT outE outN
  rw [if_neg h, if_neg h, if_neg h, hr]
  exact ⟨rfl, rfl, rfl⟩
theorem out_bad {s : ByteArray} {t : DataW Unit} (h : ¬ 200 < s.size) (hr : readT (bts s) = some t) (hc : ¬ checkE 200 t = 0) : outT s = none ∧ outE s = 4 ∧ outN s = 0 := by
  unfold outT outE outN
  rw [if_neg h, if_neg h, if_neg h, hr]
  simp only [if_neg hc]
  exact ⟨trivial, trivial, trivial⟩
theorem out_some {s : ByteArray} {t : DataW Unit} (h : ¬ 200 < s.size) (hr : readT (bts s) = some t) (hc : checkE 200 t = 0) : outT s = some t ∧ outE s = 0 ∧ outN s = s.size := by
  unfold outT outE outN
  rw [if_neg h, if_neg h, if_neg h, hr]
  simp only [if_pos hc]
  exact ⟨trivial, trivial, trivial⟩
theorem emptyT_ex (w : World) (n : Nat) : Ex w (n + 1) emptyT zE := ⟨0, ⟨#[]⟩, none, 0, 0, [], rfl, rfl, rfl, by omega, .inl rfl⟩
theorem emptyT_right (n : Nat) : rightE (n + 1) emptyT = true := by
  unfold emptyT
  rw [rightE, subs_node, kindT_node, nameT_node]
  simp [shapely, ByteArray.toList_eq]
theorem emptyT_check : checkE 200 emptyT = 0 := by
  have h1 : cnt 200 emptyT = 1 := rfl
  have h2 : dp 200 emptyT = 1 := rfl
  unfold checkE
  rw [h1, h2, if_neg (by decide), if_pos (emptyT_right 199)]
theorem emptyT_named : named 200 emptyT := NamA.node (by decide) (fun x hx => by cases hx) 200
theorem Below.of_kept {lo g : Nat} {w W W' : World} (h : Below lo w W) (hK : Kept g W W') (hg : lo ≤ g) (hl : lo ≤ W.heap.size) : Below lo w W' :=
  ⟨hK.os.trans h.os, hK.tape.trans h.tape, hK.output.trans h.output, Nat.le_trans h.size hK.size, fun k hk => (hK.block k (by omega) (by omega)).trans (h.block k hk)⟩
theorem left_inj {s : ByteArray} {j : Nat} (hj : j ≤ s.size) {l : List UInt8} (h : l = left s j) : s.size - l.length = j := by
  rw [h, left_length]
  omega
theorem ExA.down {A : Nat → Prop} {w : World} : ∀ (n : Nat) (t : DataW Unit) (v : Value) (m : Nat), ExA A w n t v → dp n t ≤ m → ExA A w m t v := by
  intro n
  induction n with
  | zero => intro t v m h; exact h.elim
  | succ n ih =>
    rintro t v m ⟨k, s, a, len, cap, ts, rfl, rfl, h3, h4, h5⟩ hd
    rw [dp, subs_node] at hd
    have hg := greatest_nonneg (dp n) ts
    cases m with
    | zero => omega
    | succ m =>
      refine ⟨k, s, a, len, cap, ts, rfl, rfl, h3, h4, ?_⟩
      rcases h5 with h5 | ⟨b, o, h5, h6, h7, hc⟩
      · exact .inl h5
      · refine .inr ⟨b, o, h5, h6, h7, fun i x hx => ?_⟩
        obtain ⟨k', s', a', len', cap', c0, c1, c2, c3⟩ := hc i x hx
        have := le_greatest (f := dp n) ts x (List.mem_of_getElem? hx)
        exact ⟨k', s', a', len', cap', c0, c1, c2, ih _ _ m c3 (by omega)⟩
theorem Whl.cases {g : Nat} {s : ByteArray} {lo : Nat} {e : Ending} {w' : World} (h : Whl g s lo e w') (hs : ¬ 200 < s.size) :
    (∃ k nm a ln cp t, readT (bts s) = some t ∧ ExA (fun b => lo ≤ b) w' 200 t (.agg #[.int .i64 k, .string nm, .slice a ln cp]) ∧ named 200 t ∧ e = .returned (.tuple #[.agg #[.int .i64 k, .string nm, .slice a ln cp], .nilIface])) ∨
    (∃ k nm a ln cp j, readT (bts s) = none ∧ (altN (s.size + 1) (bts s)).2 = left s j ∧ j ≤ s.size ∧ e = .returned (.tuple #[.agg #[.int .i64 k, .string nm, .slice a ln cp], refV j 4])) := by
  rcases h with ⟨h1, rfl⟩ | ⟨r, t, m, h1, h2, h3, h4, rfl⟩ | ⟨r, j, h1, h2, h3, h4, rfl⟩
  · exact .inl ⟨0, ⟨#[]⟩, none, 0, 0, emptyT, by unfold readT; rw [if_pos h1]; rfl, ExA.leaf _ w' 199 0 ⟨#[]⟩ none 0, emptyT_named, rfl⟩
  · obtain ⟨k, nm, a, ln, cp⟩ := r
    have hl := bts_length s
    have hb := altN_bound (s.size + 1) (bts s) t [] h2 m
    rw [hl] at hb
    exact .inl ⟨k, nm, a, ln, cp, t, read_of h1 (n := s.size + 1) (by omega) h2, (ExA.down m t _ 200 h3 (by simp at hb; omega)).mono fun b _ h => h.1, (altN_named _ _ _ _ h2 (by omega)).1 200, rfl⟩
  · obtain ⟨k, nm, a, ln, cp⟩ := r
    exact .inr ⟨k, nm, a, ln, cp, j, h3, h2, h4, rfl⟩
/-- What read answers. -/
def Rdd (lo : Nat) (s : ByteArray) (e : Ending) (w' : World) : Prop :=
  (∃ t r, outT s = some t ∧ outE s = 0 ∧ outN s = s.size ∧ ExA (fun b => lo ≤ b) w' 200 t (rawV r) ∧ e = .returned (.tuple #[rawV r, .nilIface])) ∨
  (outT s = none ∧ outE s ≠ 0 ∧ e = .returned (.tuple #[zE, refV (outN s) (outE s)]))
set_option maxRecDepth 100000 in
set_option maxHeartbeats 4000000 in
theorem read_calls (s : ByteArray) (hs : s.size ≤ 9223372036854775807) (w : World) :
    Calls Tryz.prog 34 #[.string s] w fun e w' => Below w.heap.size w w' ∧ Rdd w.heap.size s e w' := by
  by_cases hbig : 200 < s.size
  · obtain ⟨o1, o2, o3⟩ := out_long hbig
    have HO : Hid (outT s = none ∧ outE s = 2 ∧ outN s = 0) := ⟨o1, o2, o3⟩
    have HB : Hid (∀ cs, Below w.heap.size w ((w.alloc (.cells #[.int .i64 0, .string ⟨#[]⟩, .slice none 0 0] 26)).setRow w.heap.size cs)) := fun cs => below_setRow ((Below.refl _ w).alloc (Nat.le_refl _) _) (Nat.le_refl _) cs
    have hb : (200 : Int) < (s.size : Int) := by omega
    clear o1 o2 o3
    go_enter Tryz.func34, Tryz.ntmps34
    go_wp2_with (refine wpList_store_row rfl 26 _ _ rfl w.heap.size #[.int .i64 0, .string ⟨#[]⟩, .slice none 0 0] rfl rfl 26 _ (heap_alloc_new w _) sizeExpr rfl (ones3 _ _ _ _ _) ?_)
    refine bodyPost_ret (results_row_tmp rfl _ _ w.heap.size 26 #[.int .i64 0, .string ⟨#[]⟩, .slice none 0 0] (0, 0) _ rfl (setRow_heap _ _ _ _ _ _ (heap_alloc_new w _)) Tryz.underlying26 rfl sizeExpr) rfl ?_
    refine ⟨HB.out _, .inr ⟨HO.out.1, by rw [HO.out.2.1]; decide, ?_⟩⟩
    rw [HO.out.2.1, HO.out.2.2]
    rfl
  · have hb : ¬ (200 : Int) < (s.size : Int) := by omega
    obtain ⟨w1, hw1⟩ : ∃ w1, w1 = (w.alloc (.cells #[.int .i64 0, .string ⟨#[]⟩, .slice none 0 0] 26)).alloc (.cells #[.string s, .int .i64 0] 142) := ⟨_, rfl⟩
    have hB1 : Below w.heap.size w w1 := by rw [hw1]; exact ((Below.refl _ w).alloc (Nat.le_refl _) _).alloc (by simp) _
    have hs1 : w1.heap.size = w.heap.size + 1 + 1 := by rw [hw1]; simp
    have hR1 : RAt w1 (w.heap.size + 1) s 0 := by
      unfold RAt
      have := heap_alloc_new (w.alloc (.cells #[.int .i64 0, .string ⟨#[]⟩, .slice none 0 0] 26)) (.cells #[.string s, .int .i64 0] 142)
      rw [World.size_alloc] at this
      rw [hw1]
      exact this
    have hz1 : w1.heap[w.heap.size]? = some (.cells #[.int .i64 0, .string ⟨#[]⟩, .slice none 0 0] 26 (0, 0)) := by rw [hw1, Below.heap_alloc _ _ _ (by simp)]; exact heap_alloc_new w _
    have HWh := whole_calls (w.heap.size + 1) s (by omega) w1 hR1
    have HH : Hid (Calls Tryz.prog 84 #[.pointer (some ⟨w.heap.size + 1, 0, none⟩)] w1 fun e w' => Kept (w.heap.size + 1) w1 w' ∧ Whl (w.heap.size + 1) s w1.heap.size e w') := HWh
    have HW : Hid (Below w.heap.size w w1 ∧ w1.heap.size = w.heap.size + 1 + 1 ∧ w1.heap[w.heap.size]? = some (.cells #[.int .i64 0, .string ⟨#[]⟩, .slice none 0 0] 26 (0, 0)) ∧ ¬ 200 < s.size) := ⟨hB1, hs1, hz1, hbig⟩
    clear HWh hB1 hs1 hz1 hR1 hbig
    go_enter Tryz.func34, Tryz.ntmps34
    go_wp2_with fail
    rw [← hw1]
    clear hw1
    refine HH.out.mono ?_
    rintro e2 W2 ⟨hK2, hE⟩
    obtain ⟨hB1, hs1, hz1, hbig⟩ := HW.out
    have hs2 := hK2.size
    have hz2 : W2.heap[w.heap.size]? = some (.cells #[.int .i64 0, .string ⟨#[]⟩, .slice none 0 0] 26 (0, 0)) := (hK2.block _ (by omega) (by omega)).trans hz1
    have hB2 : Below w.heap.size w W2 := Below.of_kept hB1 hK2 (by omega) (by omega)
    have hsz2 : w.heap.size < W2.heap.size := by omega
    have hw1s : w.heap.size < w1.heap.size := by omega
    clear HH HW hK2 hz1 hs1 hs2 hB1
    have HZ : Hid (∀ o, (W2.alloc o).heap[w.heap.size]? = some (.cells #[.int .i64 0, .string ⟨#[]⟩, .slice none 0 0] 26 (0, 0))) := fun o => (Below.heap_alloc W2 o _ hsz2).trans hz2
    rcases hE.cases hbig with ⟨k, nm, a, ln, cp, t, hrd, hex, hnm, rfl⟩ | ⟨k, nm, a, ln, cp, j, hrd, hpl, hjs, rfl⟩
    · have HCk : Hid (∀ W, Below W2.heap.size W2 W → Calls Tryz.prog 85 #[.agg #[.int .i64 k, .string nm, .slice a ln cp]] W fun e w' => e = .returned (.int .i64 (checkE 200 t)) ∧ Below W.heap.size W w') := fun W hW => check_calls 200 t _ W (Ex.below hW _ _ _ (ExA.ex _ _ _ hex)) hnm
      have HA : Hid (∀ o, Below W2.heap.size W2 (W2.alloc o)) := fun o => (Below.refl _ W2).alloc (Nat.le_refl _) _
      have HE : Hid (ExA (fun b => w1.heap.size ≤ b) W2 200 t (.agg #[.int .i64 k, .string nm, .slice a ln cp])) := hex
      have HW2 : Hid (Below w.heap.size w W2 ∧ w.heap.size < W2.heap.size ∧ w.heap.size < w1.heap.size) := ⟨hB2, hsz2, hw1s⟩
      have hev : ∀ W, Below (W2.alloc (.cells #[.int .i64 k, .string nm, .slice a ln cp] 26)).heap.size (W2.alloc (.cells #[.int .i64 k, .string nm, .slice a ln cp] 26)) W → W.heap[W2.heap.size]? = some (.cells #[.int .i64 k, .string nm, .slice a ln cp] 26 (0, 0)) := fun W hW => (hW.block _ (by simp)).trans (heap_alloc_new W2 _)
      have HEV : Hid (∀ W, Below (W2.alloc (.cells #[.int .i64 k, .string nm, .slice a ln cp] 26)).heap.size (W2.alloc (.cells #[.int .i64 k, .string nm, .slice a ln cp] 26)) W → W.heap[W2.heap.size]? = some (.cells #[.int .i64 k, .string nm, .slice a ln cp] 26 (0, 0))) := hev
      by_cases hck : checkE 200 t = 0
      · obtain ⟨o1, o2, o3⟩ := out_some hbig hrd hck
        have HO : Hid (outT s = some t ∧ outE s = 0 ∧ outN s = s.size) := ⟨o1, o2, o3⟩
        rw [hck] at HCk
        clear o1 o2 o3 hex hnm hrd hE hz2 hB2 hsz2 hev hck
        go_wp2_with fail
        refine (HCk.out _ (HA.out _)).mono ?_
        rintro e3 W3 ⟨rfl, hB3⟩
        have he3 := HEV.out W3 hB3
        have c0 : W3.cell? ⟨W2.heap.size, 0, none⟩ = some (.int .i64 k) := cell_of_row W3 _ 0 _ _ _ he3
        have c1 : W3.cell? ⟨W2.heap.size, 1, none⟩ = some (.string nm) := cell_of_row W3 _ 1 _ _ _ he3
        have c2 : W3.cell? ⟨W2.heap.size, 2, none⟩ = some (.slice a ln cp) := cell_of_row W3 _ 2 _ _ _ he3
        obtain ⟨hB2, hlt, hw1s⟩ := HW2.out
        have hB23 : Below W2.heap.size W2 W3 := (HA.out _).trans (hB3.mono (by simp))
        have HZ3 : Hid (W3.heap[w.heap.size]? = some (.cells #[.int .i64 0, .string ⟨#[]⟩, .slice none 0 0] 26 (0, 0))) := (hB3.block _ (by simp; omega)).trans (HZ.out _)
        have HF : Hid (∀ cs, Below w.heap.size w (W3.setRow w.heap.size cs)) := fun cs => below_setRow (hB2.trans (hB23.mono (by omega))) (Nat.le_refl _) cs
        have HX : Hid (∀ cs, ExA (fun b => w.heap.size ≤ b) (W3.setRow w.heap.size cs) 200 t (.agg #[.int .i64 k, .string nm, .slice a ln cp])) := fun cs => ExA.kept (by rw [size_setRow]; exact hB23.size) (fun b hb hA => ⟨by omega, (setRow_other _ _ _ _ (by omega)).trans (hB23.block b hb)⟩) _ _ _ HE.out
        clear hB2 hlt hw1s hB23 hB3 he3 HZ HW2 HE HEV HCk HA
        go_wp2_with (refine wpList_store_row rfl 26 _ _ rfl w.heap.size #[.int .i64 k, .string nm, .slice a ln cp] rfl rfl 26 _ HZ3.out sizeExpr rfl (ones3 _ _ _ _ _) ?_)
        refine bodyPost_ret (results_row_tmp rfl _ _ w.heap.size 26 #[.int .i64 k, .string nm, .slice a ln cp] (0, 0) _ rfl (setRow_heap _ _ _ _ _ _ HZ3.out) Tryz.underlying26 rfl sizeExpr) rfl ?_
        exact ⟨HF.out _, .inl ⟨t, (k, nm, a, ln, cp), HO.out.1, HO.out.2.1, HO.out.2.2, HX.out _, rfl⟩⟩
      · obtain ⟨o1, o2, o3⟩ := out_bad hbig hrd hck
        have HO : Hid (outT s = none ∧ outE s = 4 ∧ outN s = 0) := ⟨o1, o2, o3⟩
        generalize checkE 200 t = C at *
        have e1 : (C == 0) = false := by rw [beq_eq_false_iff_ne]; exact hck
        have e2 : (C != 0) = true := by rw [bne_iff_ne]; exact hck
        clear o1 o2 o3 hex hnm hrd hE hz2 hB2 hsz2 hev hck HE
        go_wp2_with fail
        refine (HCk.out _ (HA.out _)).mono ?_
        rintro e3 W3 ⟨rfl, hB3⟩
        obtain ⟨hB2, hlt, hw1s⟩ := HW2.out
        have hB23 : Below W2.heap.size W2 W3 := (HA.out _).trans (hB3.mono (by simp))
        have HZ3 : Hid (W3.heap[w.heap.size]? = some (.cells #[.int .i64 0, .string ⟨#[]⟩, .slice none 0 0] 26 (0, 0))) := (hB3.block _ (by simp; omega)).trans (HZ.out _)
        have HF : Hid (∀ cs, Below w.heap.size w (W3.setRow w.heap.size cs)) := fun cs => below_setRow (hB2.trans (hB23.mono (by omega))) (Nat.le_refl _) cs
        clear hB2 hlt hw1s hB23 hB3 HZ HW2 HEV HCk HA
        go_wp2_with (refine wpList_store_row rfl 26 _ _ rfl w.heap.size #[.int .i64 0, .string ⟨#[]⟩, .slice none 0 0] rfl rfl 26 _ HZ3.out sizeExpr rfl (ones3 _ _ _ _ _) ?_)
        refine bodyPost_ret (results_row_tmp rfl _ _ w.heap.size 26 #[.int .i64 0, .string ⟨#[]⟩, .slice none 0 0] (0, 0) _ rfl (setRow_heap _ _ _ _ _ _ HZ3.out) Tryz.underlying26 rfl sizeExpr) rfl ?_
        refine ⟨HF.out _, .inr ⟨HO.out.1, by rw [HO.out.2.1]; decide, ?_⟩⟩
        rw [HO.out.2.1, HO.out.2.2]
        rfl
    · obtain ⟨o1, o2, o3⟩ := out_none hbig hrd
      rw [left_inj hjs hpl] at o3
      have HO : Hid (outT s = none ∧ outE s = 4 ∧ outN s = j) := ⟨o1, o2, o3⟩
      have HF : Hid (∀ o cs, Below w.heap.size w ((W2.alloc o).setRow w.heap.size cs)) := fun o cs => below_setRow (hB2.alloc (by omega) o) (Nat.le_refl _) cs
      clear o1 o2 o3 hE hz2 hB2 hsz2 hrd hpl hjs hbig
      unfold refV
      go_wp2_with (refine wpList_store_row rfl 26 _ _ rfl w.heap.size #[.int .i64 0, .string ⟨#[]⟩, .slice none 0 0] rfl rfl 26 _ (HZ.out _) sizeExpr rfl (ones3 _ _ _ _ _) ?_)
      refine bodyPost_ret (results_row_tmp rfl _ _ w.heap.size 26 #[.int .i64 0, .string ⟨#[]⟩, .slice none 0 0] (0, 0) _ rfl (setRow_heap _ _ _ _ _ _ (HZ.out _)) Tryz.underlying26 rfl sizeExpr) rfl ?_
      refine ⟨HF.out _ _, .inr ⟨HO.out.1, by rw [HO.out.2.1]; decide, ?_⟩⟩
      rw [HO.out.2.1, HO.out.2.2]
      rfl
def outTree (s : ByteArray) : DataW Unit := (outT s).getD emptyT
set_option maxRecDepth 100000 in
set_option maxHeartbeats 4000000 in
theorem parse_calls (s : ByteArray) (hs : s.size ≤ 9223372036854775807) (w : World) (hg : ETy w) :
    Calls Tryz.prog 9 #[.string s] w fun e w' => Below w.heap.size w w' ∧ ∃ r, Ex w' 200 (outTree s) (rawV r) ∧ e = .returned (.tuple #[rawV r, .int .i64 (outN s : Int), .int .i64 (outE s)]) := by
  have HR : Hid (∀ W, Calls Tryz.prog 34 #[.string s] W fun e w' => Below W.heap.size W w' ∧ Rdd W.heap.size s e w') := fun W => read_calls s hs W
  have HT : Hid (∀ W, Below w.heap.size w W → Calls Tryz.prog 35 #[refV (outN s) (outE s)] W fun e w' => e = .returned (.tuple #[.int .i64 (outN s : Int), .int .i64 (outE s)]) ∧ Below W.heap.size W w') := fun W hW => told_calls (outN s) (outE s) W (hg.below hW)
  clear hg hs
  go_enter Tryz.func9, Tryz.ntmps9
  go_wp2_with fail
  refine (HR.out _).mono ?_
  rintro e1 W1 ⟨hB1, hE⟩
  have hz1 : W1.heap[w.heap.size]? = some (.cells #[.int .i64 0, .string ⟨#[]⟩, .slice none 0 0] 26 (0, 0)) := (hB1.block _ (by simp)).trans (heap_alloc_new w _)
  have hB : Below w.heap.size w W1 := ((Below.refl _ w).alloc (Nat.le_refl _) _).trans (hB1.mono (by simp))
  have hs1 : w.heap.size < W1.heap.size := by have := hB1.size; simp only [World.size_alloc] at this; omega
  clear HR
  rcases hE with ⟨t, r, o1, o2, o3, hX, rfl⟩ | ⟨o1, o2, rfl⟩
  · obtain ⟨k, nm, a, ln, cp⟩ := r
    unfold rawV at hX ⊢
    simp only at hX ⊢
    have HO : Hid (outT s = some t ∧ outE s = 0 ∧ outN s = s.size) := ⟨o1, o2, o3⟩
    have HZ : Hid (∀ o, (W1.alloc o).heap[w.heap.size]? = some (.cells #[.int .i64 0, .string ⟨#[]⟩, .slice none 0 0] 26 (0, 0))) := fun o => (Below.heap_alloc W1 o _ hs1).trans hz1
    have HF : Hid (∀ o cs, Below w.heap.size w ((W1.alloc o).setRow w.heap.size cs)) := fun o cs => below_setRow (hB.alloc (by omega) o) (Nat.le_refl _) cs
    have HX : Hid (∀ o cs, ExA (fun b => w.heap.size ≤ b) ((W1.alloc o).setRow w.heap.size cs) 200 t (.agg #[.int .i64 k, .string nm, .slice a ln cp])) := fun o cs => ExA.kept (by rw [size_setRow]; simp) (fun b hb hA => by simp only [World.size_alloc] at hA; exact ⟨by omega, (setRow_other _ _ _ _ (by omega)).trans (Below.heap_alloc W1 o b hb)⟩) _ _ _ hX
    clear hX hz1 hB hB1 hs1 o1 o2 o3 HT
    go_wp2_with (refine wpList_store_row rfl 26 _ _ rfl w.heap.size #[.int .i64 k, .string nm, .slice a ln cp] rfl rfl 26 _ (HZ.out _) sizeExpr rfl (ones3 _ _ _ _ _) ?_)
    refine bodyPost_ret (results_row_tmp2 rfl _ _ w.heap.size 26 #[.int .i64 k, .string nm, .slice a ln cp] (0, 0) _ rfl (setRow_heap _ _ _ _ _ _ (HZ.out _)) Tryz.underlying26 rfl sizeExpr) rfl ?_
    refine ⟨HF.out _ _, (k, nm, a, ln, cp), ?_, ?_⟩
    · unfold outTree
      rw [HO.out.1]
      exact ExA.ex _ _ _ (HX.out _ _)
    · rw [HO.out.2.1, HO.out.2.2]
      rfl
  · have HO : Hid (outT s = none) := o1
    have HZ : Hid ((W1.alloc (.cells #[.int .i64 0, .string ⟨#[]⟩, .slice none 0 0] 26)).heap[w.heap.size]? = some (.cells #[.int .i64 0, .string ⟨#[]⟩, .slice none 0 0] 26 (0, 0))) := (Below.heap_alloc W1 _ _ hs1).trans hz1
    have HB : Hid (Below w.heap.size w (W1.alloc (.cells #[.int .i64 0, .string ⟨#[]⟩, .slice none 0 0] 26)) ∧ w.heap.size < (W1.alloc (.cells #[.int .i64 0, .string ⟨#[]⟩, .slice none 0 0] 26)).heap.size) := ⟨hB.alloc (by omega) _, by simp; omega⟩
    clear hz1 hB hB1 hs1 o1
    unfold zE
    obtain ⟨N, hN⟩ : ∃ N, outN s = N := ⟨_, rfl⟩
    obtain ⟨E, hEE⟩ : ∃ E, outE s = E := ⟨_, rfl⟩
    have HN : Hid (outN s = N ∧ outE s = E) := ⟨hN, hEE⟩
    rw [hN, hEE] at HT ⊢
    clear hN hEE o2
    unfold refV at HT ⊢
    go_wp2_with fail
    refine (HT.out _ HB.out.1).mono ?_
    rintro e3 W3 ⟨rfl, hB3⟩
    have HZ3 : Hid (W3.heap[w.heap.size]? = some (.cells #[.int .i64 0, .string ⟨#[]⟩, .slice none 0 0] 26 (0, 0))) := (hB3.block _ HB.out.2).trans HZ.out
    have HF : Hid (∀ cs, Below w.heap.size w (W3.setRow w.heap.size cs)) := fun cs => below_setRow (HB.out.1.trans (hB3.mono HB.out.1.size)) (Nat.le_refl _) cs
    clear hB3 HZ HB HT
    go_wp2_with (refine wpList_store_row rfl 26 _ _ rfl w.heap.size #[.int .i64 0, .string ⟨#[]⟩, .slice none 0 0] rfl rfl 26 _ HZ3.out sizeExpr rfl (ones3 _ _ _ _ _) ?_)
    refine bodyPost_ret (results_row_tmp2 rfl _ _ w.heap.size 26 #[.int .i64 0, .string ⟨#[]⟩, .slice none 0 0] (0, 0) _ rfl (setRow_heap _ _ _ _ _ _ HZ3.out) Tryz.underlying26 rfl sizeExpr) rfl ?_
    refine ⟨HF.out _, (0, ⟨#[]⟩, none, 0, 0), ?_, by rw [HN.out.1, HN.out.2]; rfl⟩
    unfold outTree
    rw [HO.out]
    exact emptyT_ex _ 199
end Go.Proofs.YtofkiaeocfpkeaaGreatDoor

/- LaidB: what the row's list says of the two package variables (the table of bits, and what errors.As reads); a world that meets it. -/
namespace Go.Proofs.YtofkiaeocfpkeaaGreatDoor
open Go.ChangeShapes Go.WideShapes Go.ChangeAt Go.RowKit

theorem q_et : Tryz.prog.globalNamed "errors.errorType" = some 1 := by kernel_rfl
theorem q_rt : (Tryz.prog.cutTypes.find? (·.1 == "internal/reflectlite.rtype")).map (·.2) = some 221 := by kernel_rfl
theorem q_oneRow : ((List.range 270).filter fun t => Tryz.prog.rowNamed t [101, 114, 114, 111, 114]) = [67] := by kernel_rfl
theorem q_size : Tryz.prog.types.size = 270 := by kernel_rfl
def listedB : List (String × DataW Unit) := [("math/bits.deBruijn32tab", Rows.laid_math_bits_deBruijn32tab), ("errors.errorType", Rows.laid_errors_errorType)]
theorem parts_of_laidB {W : World} (h : laidMetH Tryz.prog listedB W) : laidMet Tryz.prog listedT W ∧ handlesMet Tryz.prog [("errors.errorType", Rows.laid_errors_errorType)] W := h
theorem tab_of_laidB {W : World} (h : laidMetH Tryz.prog listedB W) : Tab W := tab_var (r := []) (parts_of_laidB h).1
/-- What the condition gives a walk: the variable's one cell. -/
theorem ety_of_laidB {W : World} (h : laidMetH Tryz.prog listedB W) : ETy W := by
  obtain ⟨name, u, ty, e1, e2, e3, e4, e5⟩ := (parts_of_laidB h).2 _ (List.mem_singleton.2 rfl)
  have en : name = [101, 114, 114, 111, 114] := (Option.some.inj e1).symm
  subst en
  obtain rfl := Option.some.inj (q_rt.symm.trans e2)
  have hm : ty ∈ (List.range 270).filter fun t => Tryz.prog.rowNamed t [101, 114, 114, 111, 114] := List.mem_filter.2 ⟨List.mem_range.2 (by rw [← q_size]; exact e3), e4⟩
  rw [q_oneRow] at hm
  obtain rfl := List.mem_singleton.1 hm
  have hh : typeHandle Tryz.prog 67 = .pointer (some ⟨3, 67, none⟩) := by kernel_rfl
  rw [hh] at e5
  unfold ETy
  simpa using World.var?_cell q_et e5 0
/-- A world that meets the condition: the settled one, both laid. -/
noncomputable def laidWorldB (os : Os) : World :=
  let w0 := World.holding Tryz.prog os ⟨#[], #[], []⟩
  { w0 with heap := (w0.heap.modify 0 fun
      | .cells _ t frozen => .cells tabCells t frozen
      | o => o).modify 1 fun
      | .cells _ t frozen => .cells #[.iface 221 (.agg #[.pointer (some ⟨3, 67, none⟩)])] t frozen
      | o => o }
theorem laid_metB (os : Os) (args : Array Value) : laidMetH Tryz.prog listedB ((laidWorldB os).forCall (fun _ _ => 0) ⟨#[], args, []⟩).memory :=
  laidMetH_of_parts (laidMet_of_run' 8 (by kernel_rfl) (by kernel_rfl)) (by kernel_rfl)
end Go.Proofs.YtofkiaeocfpkeaaGreatDoor

/- Auto: plain facts on places, as the program lays them: what each place needs to the end, and what words lead there. -/
namespace Go.Proofs.YtofkiaeocfpkeaaGreatDoor

/-- A place: the types that it takes, as bits; where it goes on; the fewest types to the end. -/
abbrev Place : Type := Nat × List Nat × Nat
def leastAt (L : List Place) (p : Nat) : Nat :=
  match L[p]? with
  | some x => x.2.2
  | none => 0
def takes (m : Nat) (t : Int) : Bool := decide (0 ≤ t) && decide (t < 16) && m.testBit t.toNat
theorem takes_zero (t : Int) : takes 0 t = false := by unfold takes; simp
theorem leastAt_some {L : List Place} {p : Nat} {x : Place} (h : L[p]? = some x) : leastAt L p = x.2.2 := by unfold leastAt; rw [h]
theorem leastAt_congr {L L' : List Place} {p : Nat} (h : L'[p]? = L[p]?) : leastAt L' p = leastAt L p := by unfold leastAt; rw [h]
def StepAt (L : List Place) (p : Nat) (x : Place) : Prop := x.1 ≠ 0 ∧ ∃ q, x.2.1 = [q] ∧ q < p ∧ x.2.2 = leastAt L q + 1
def ForkAt (L : List Place) (p : Nat) (x : Place) : Prop := x.1 = 0 ∧ (∀ q ∈ x.2.1, q < L.length ∧ x.2.2 ≤ leastAt L q) ∧ ∃ q ∈ x.2.1, q < p ∧ x.2.2 = leastAt L q
/-- Each place but the end takes a type and goes on to one laid before, or is a fork of which one way, laid before, is the shortest. -/
def wf (L : List Place) : Prop := L[0]? = some (0, [], 0) ∧ ∀ p x, 0 < p → L[p]? = some x → StepAt L p x ∨ ForkAt L p x
theorem wf.pos {L : List Place} (h : wf L) : 0 < L.length := (List.getElem?_eq_some_iff.1 h.1).1
theorem wf_one : wf [((0, [], 0) : Place)] := ⟨rfl, fun p x hp hx => by
  have := (List.getElem?_eq_some_iff.1 hx).1
  simp at this
  omega⟩
theorem get_snoc_lt {L : List Place} {y : Place} {p : Nat} (h : p < L.length) : (L ++ [y])[p]? = L[p]? := List.getElem?_append_left h
theorem get_snoc_eq {L : List Place} {y : Place} : (L ++ [y])[L.length]? = some y := by simp
theorem wf_add {L : List Place} (h : wf L) {y : Place} (hy : (y.1 ≠ 0 ∧ ∃ q, y.2.1 = [q] ∧ q < L.length ∧ y.2.2 = leastAt L q + 1) ∨ (y.1 = 0 ∧ (∀ q ∈ y.2.1, q < L.length ∧ y.2.2 ≤ leastAt L q) ∧ ∃ q ∈ y.2.1, y.2.2 = leastAt L q)) : wf (L ++ [y]) := by
  have hl : ∀ q, q < L.length → leastAt (L ++ [y]) q = leastAt L q := fun q hq => leastAt_congr (get_snoc_lt hq)
  refine ⟨by rw [get_snoc_lt h.pos]; exact h.1, fun p x hp hx => ?_⟩
  rcases Nat.lt_or_ge p L.length with hlt | hge
  · rw [get_snoc_lt hlt] at hx
    rcases h.2 p x hp hx with ⟨h1, q, h2, h3, h4⟩ | ⟨h1, h2, q, h3, h4, h5⟩
    · exact .inl ⟨h1, q, h2, h3, by rw [hl q (by omega)]; exact h4⟩
    · refine .inr ⟨h1, fun r hr => ?_, q, h3, h4, by rw [hl q (by omega)]; exact h5⟩
      obtain ⟨g1, g2⟩ := h2 r hr
      exact ⟨by simp; omega, by rw [hl r g1]; exact g2⟩
  · have hpl : p = L.length := by
      have := (List.getElem?_eq_some_iff.1 hx).1
      simp at this
      omega
    subst hpl
    rw [get_snoc_eq] at hx
    cases hx
    rcases hy with ⟨h1, q, h2, h3, h4⟩ | ⟨h1, h2, q, h3, h4⟩
    · exact .inl ⟨h1, q, h2, h3, by rw [hl q h3]; exact h4⟩
    · refine .inr ⟨h1, fun r hr => ?_, q, h3, (h2 q h3).1, by rw [hl q (h2 q h3).1]; exact h4⟩
      obtain ⟨g1, g2⟩ := h2 r hr
      exact ⟨by simp; omega, by rw [hl r g1]; exact g2⟩
/-- One way more from a place. -/
def addNext (L : List Place) (i q : Nat) : List Place := L.modify i (fun x => (x.1, x.2.1 ++ [q], x.2.2))
theorem addNext_length (L : List Place) (i q : Nat) : (addNext L i q).length = L.length := by unfold addNext; simp
theorem addNext_ne {L : List Place} {i q p : Nat} (h : p ≠ i) : (addNext L i q)[p]? = L[p]? := by unfold addNext; rw [List.getElem?_modify]; simp [Ne.symm h]
theorem addNext_eq {L : List Place} {i q : Nat} {x : Place} (h : L[i]? = some x) : (addNext L i q)[i]? = some (x.1, x.2.1 ++ [q], x.2.2) := by unfold addNext; rw [List.getElem?_modify, h]; simp
theorem addNext_least (L : List Place) (i q p : Nat) : leastAt (addNext L i q) p = leastAt L p := by
  by_cases h : p = i
  · subst h
    cases hx : L[p]? with
    | none =>
      have : (addNext L p q)[p]? = none := by
        rw [List.getElem?_eq_none_iff] at hx ⊢
        rw [addNext_length]
        exact hx
      unfold leastAt
      rw [hx, this]
    | some x => rw [leastAt_some hx, leastAt_some (addNext_eq hx)]
  · exact leastAt_congr (addNext_ne h)
theorem wf_next {L : List Place} (h : wf L) {i q : Nat} {y : Place} (hi : 0 < i) (hy : L[i]? = some y) (hz : y.1 = 0) (hq : q < L.length) (hl : y.2.2 ≤ leastAt L q) : wf (addNext L i q) := by
  refine ⟨by rw [addNext_ne (by omega)]; exact h.1, fun p x hp hx => ?_⟩
  by_cases hpi : p = i
  · subst hpi
    rw [addNext_eq hy] at hx
    cases hx
    rcases h.2 p y hp hy with ⟨h1, _⟩ | ⟨h1, h2, r, h3, h4, h5⟩
    · exact absurd hz h1
    · refine .inr ⟨h1, fun s hs => ?_, r, List.mem_append_left _ h3, h4, by rw [addNext_least]; exact h5⟩
      rw [addNext_length, addNext_least]
      rcases List.mem_append.1 hs with hs | hs
      · exact h2 s hs
      · simp at hs
        subst hs
        exact ⟨hq, hl⟩
  · rw [addNext_ne hpi] at hx
    rcases h.2 p x hp hx with ⟨h1, r, h2, h3, h4⟩ | ⟨h1, h2, r, h3, h4, h5⟩
    · exact .inl ⟨h1, r, h2, h3, by rw [addNext_least]; exact h4⟩
    · refine .inr ⟨h1, fun s hs => ?_, r, h3, h4, by rw [addNext_least]; exact h5⟩
      rw [addNext_length, addNext_least]
      exact h2 s hs
/-- What leads from a place to the end, in at most k moves. -/
def Reads (F : List Place) : Nat → Nat → List Int → Prop
  | 0, p, w => p = 0 ∧ w = []
  | k + 1, p, w => (p = 0 ∧ w = []) ∨ ∃ x, F[p]? = some x ∧ ((x.1 = 0 ∧ ∃ q ∈ x.2.1, Reads F k q w) ∨ (x.1 ≠ 0 ∧ ∃ t v q, w = t :: v ∧ takes x.1 t = true ∧ x.2.1[0]? = some q ∧ Reads F k q v))
theorem Reads.up {F : List Place} : ∀ {k p : Nat} {w : List Int}, Reads F k p w → Reads F (k + 1) p w := by
  intro k
  induction k with
  | zero => intro p w h; exact .inl h
  | succ k ih =>
    intro p w h
    rcases h with h | ⟨x, hx, ⟨h0, q, hq, hr⟩ | ⟨h0, t, v, q, e, ht, hq, hr⟩⟩
    · exact .inl h
    · exact .inr ⟨x, hx, .inl ⟨h0, q, hq, ih hr⟩⟩
    · exact .inr ⟨x, hx, .inr ⟨h0, t, v, q, e, ht, hq, ih hr⟩⟩
theorem Reads.upto {F : List Place} {k m p : Nat} {w : List Int} (h : k ≤ m) (hr : Reads F k p w) : Reads F m p w := by
  induction h with
  | refl => exact hr
  | step _ ih => exact Reads.up ih
/-- No word to the end is shorter than the place says. -/
theorem Reads.long {F : List Place} (hF : wf F) : ∀ {k p : Nat} {w : List Int}, Reads F k p w → leastAt F p ≤ w.length := by
  have h00 : leastAt F 0 = 0 := leastAt_some hF.1
  intro k
  induction k with
  | zero => rintro p w ⟨rfl, rfl⟩; rw [h00]; exact Nat.zero_le _
  | succ k ih =>
    intro p w h
    rcases h with ⟨rfl, rfl⟩ | ⟨x, hx, ⟨h0, q, hq, hr⟩ | ⟨h0, t, v, q, rfl, ht, hq, hr⟩⟩
    · rw [h00]; exact Nat.zero_le _
    · have := ih hr
      rcases Nat.eq_zero_or_pos p with rfl | hp
      · rw [h00]; exact Nat.zero_le _
      · rcases hF.2 p x hp hx with ⟨h1, _⟩ | ⟨_, h2, _⟩
        · exact absurd h0 h1
        · rw [leastAt_some hx]
          exact Nat.le_trans (h2 q hq).2 this
    · have := ih hr
      rcases Nat.eq_zero_or_pos p with rfl | hp
      · rw [h00]; exact Nat.zero_le _
      · rcases hF.2 p x hp hx with ⟨_, r, h2, _, h4⟩ | ⟨h1, _⟩
        · rw [h2] at hq
          cases hq
          rw [leastAt_some hx, h4, List.length_cons]
          omega
        · exact absurd h1 h0
end Go.Proofs.YtofkiaeocfpkeaaGreatDoor

/- Lays: the places that are laid for a tree, as plain data: each is right. -/
namespace Go.Proofs.YtofkiaeocfpkeaaGreatDoor

section
variable {T : Type} (K : T → Int) (M : T → Nat) (U : T → List T)

def forkLeast (L : List Place) (ways : List Nat) : Nat := ways.foldl (fun m q => min m (leastAt L q)) (leastAt L (ways.headD 0))
def laySeq (f : T → Nat → List Place → List Place × Nat) : List T → Nat → List Place → List Place × Nat
  | [], next, L => (L, next)
  | x :: r, next, L => laySeq f r (f x next L).2 (f x next L).1
def layAlt (f : T → Nat → List Place → List Place × Nat) (next : Nat) : List T → List Place → List Nat → List Place × List Nat
  | [], L, ways => (L, ways)
  | x :: r, L, ways => layAlt f next r (f x next L).1 (ways ++ [(f x next L).2])
def forkL (L : List Place) (ways : List Nat) : List Place × Nat := (L ++ [(0, ways, forkLeast L ways)], L.length)
def layOpt (f : T → Nat → List Place → List Place × Nat) : List T → Nat → List Place → List Place × Nat
  | x :: _, next, L => forkL (f x next L).1 [next, (f x next L).2]
  | [], next, L => (L, next)
/-- Those of a loop, the place behind it, and the one where it begins. -/
def layLoop (f : T → Nat → List Place → List Place × Nat) : List T → Nat → List Place → List Place × Nat × Nat
  | x :: _, next, L => (addNext (f x L.length (forkL L [next]).1).1 L.length (f x L.length (forkL L [next]).1).2, L.length, (f x L.length (forkL L [next]).1).2)
  | [], next, L => (L, next, next)
/-- The places of a tree behind those of L, what comes behind it beginning at next; and where it begins. -/
def lay : Nat → T → Nat → List Place → List Place × Nat
  | 0, _, next, L => (L, next)
  | n + 1, t, next, L =>
    if K t = 1 then (L ++ [(M t, [next], leastAt L next + 1)], L.length)
    else if K t = 2 then laySeq (lay n) (U t).reverse next L
    else if K t = 3 then forkL (layAlt (lay n) next (U t) L []).1 (layAlt (lay n) next (U t) L []).2
    else if K t = 4 then ((layLoop (lay n) (U t) next L).1, (layLoop (lay n) (U t) next L).2.1)
    else if K t = 5 then ((layLoop (lay n) (U t) next L).1, (layLoop (lay n) (U t) next L).2.2)
    else if K t = 6 then layOpt (lay n) (U t) next L
    else (L, next)
/-- A tree all of whose names have types, whose choices have some, whose signs stand behind one. -/
def Sane : Nat → T → Prop
  | 0, _ => False
  | n + 1, t => (K t = 1 → M t ≠ 0) ∧ (K t = 2 ∨ K t = 3 → U t ≠ []) ∧ (K t = 4 ∨ K t = 5 ∨ K t = 6 → ∃ x, U t = [x]) ∧ ∀ x ∈ U t, Sane n x
/-- How many are in a tree. -/
def size : Nat → T → Nat
  | 0, _ => 0
  | n + 1, t => 1 + ((U t).map (size n)).sum

/-- Room that is enough while a tree is laid. -/
def need : Nat → T → Nat
  | 0, _ => 0
  | n + 1, t => (U t).length * ((U t).map (size U n)).sum + ((U t).map (need n)).sum + 3
theorem size_need (n : Nat) (t : T) : size U n t ≤ need U n t := by
  cases n with
  | zero => exact Nat.le_refl _
  | succ n =>
    rw [size, need]
    cases h : U t with
    | nil => simp
    | cons x r =>
      have : ((x :: r).map (size U n)).sum ≤ (x :: r).length * ((x :: r).map (size U n)).sum := Nat.le_mul_of_pos_left _ (by simp)
      omega
theorem sum_le_of {α : Type} {f : α → Nat} {c : Nat} {g : α → Nat} : ∀ (l : List α), (∀ x ∈ l, f x ≤ c * g x) → (l.map f).sum ≤ c * (l.map g).sum := by
  intro l
  induction l with
  | nil => intro _; simp
  | cons x r ih =>
    intro h
    have h1 := h x (List.mem_cons_self ..)
    have h2 := ih (fun y hy => h y (List.mem_cons_of_mem _ hy))
    simp only [List.map_cons, List.sum_cons]
    rw [Nat.mul_add]
    omega
theorem sum_ge_mem {α : Type} {f : α → Nat} {x : α} : ∀ (l : List α), x ∈ l → f x ≤ (l.map f).sum := by
  intro l
  induction l with
  | nil => intro h; cases h
  | cons y r ih =>
    intro h
    simp only [List.map_cons, List.sum_cons]
    rcases List.mem_cons.1 h with rfl | h
    · omega
    · have := ih h; omega
/-- A tree of at most 200 needs little room. -/
theorem need_le : ∀ (n : Nat) (t : T), size U n t ≤ 200 → (∀ m x, m < n → x ∈ U t → 1 ≤ size U m x ∨ True) → need U n t ≤ 40003 * size U n t := by
  intro n
  induction n with
  | zero => intro t _ _; exact Nat.zero_le _
  | succ n ih =>
    intro t h _
    have h' := h
    rw [size] at h
    have hs : ((U t).map (need U n)).sum ≤ 40003 * ((U t).map (size U n)).sum := sum_le_of (U t) fun x hx => ih x (by
      have := sum_ge_mem (f := size U n) (U t) hx
      omega) (fun _ _ _ _ => .inr trivial)
    have hlen : (U t).length ≤ 200 ∨ ((U t).map (size U n)).sum = 0 := by
      cases n with
      | zero =>
        right
        have : ∀ l : List T, (l.map (size U 0)).sum = 0 := by
          intro l
          induction l with
          | nil => rfl
          | cons x r ih => rw [List.map_cons, List.sum_cons, ih]; rfl
        exact this _
      | succ m =>
        left
        have : ∀ l : List T, l.length ≤ (l.map (size U (m + 1))).sum := by
          intro l
          induction l with
          | nil => exact Nat.le_refl _
          | cons x r ih =>
            have h1 : 1 ≤ size U (m + 1) x := by rw [size]; omega
            rw [List.map_cons, List.sum_cons, List.length_cons]
            omega
        have := this (U t)
        omega
    rw [need, size]
    have hm : (U t).length * ((U t).map (size U n)).sum ≤ 40000 := by
      rcases hlen with h1 | h1
      · exact Nat.le_trans (Nat.mul_le_mul h1 (by omega : ((U t).map (size U n)).sum ≤ 200)) (by decide)
      · rw [h1]; simp
    omega

/-- What laying one keeps. -/
def Good (f : T → Nat → List Place → List Place × Nat) (sz : T → Nat) (x : T) : Prop :=
  ∀ next L, wf L → next < L.length → wf (f x next L).1 ∧ (f x next L).2 < (f x next L).1.length ∧ L.length ≤ (f x next L).1.length ∧ (∀ p, p < L.length → (f x next L).1[p]? = L[p]?) ∧ leastAt L next ≤ leastAt (f x next L).1 (f x next L).2 ∧ (f x next L).1.length ≤ L.length + sz x

theorem foldl_min_le (L : List Place) : ∀ (ways : List Nat) (m : Nat), ways.foldl (fun m q => min m (leastAt L q)) m ≤ m ∧ (∀ q ∈ ways, ways.foldl (fun m q => min m (leastAt L q)) m ≤ leastAt L q) ∧ (ways.foldl (fun m q => min m (leastAt L q)) m = m ∨ ∃ q ∈ ways, ways.foldl (fun m q => min m (leastAt L q)) m = leastAt L q) := by
  intro ways
  induction ways with
  | nil => intro m; exact ⟨Nat.le_refl _, fun q hq => (by cases hq), .inl rfl⟩
  | cons a r ih =>
    intro m
    obtain ⟨h1, h2, h3⟩ := ih (min m (leastAt L a))
    simp only [List.foldl_cons]
    refine ⟨by omega, fun q hq => ?_, ?_⟩
    · rcases List.mem_cons.1 hq with rfl | hq
      · omega
      · exact h2 q hq
    · rcases h3 with h3 | ⟨q, hq, h3⟩
      · rw [h3]
        by_cases h : m ≤ leastAt L a
        · exact .inl (by omega)
        · exact .inr ⟨a, List.mem_cons_self .., by omega⟩
      · exact .inr ⟨q, List.mem_cons_of_mem _ hq, h3⟩
theorem forkLeast_ok (L : List Place) {ways : List Nat} (h : ways ≠ []) : (∀ q ∈ ways, forkLeast L ways ≤ leastAt L q) ∧ ∃ q ∈ ways, forkLeast L ways = leastAt L q := by
  obtain ⟨h1, h2, h3⟩ := foldl_min_le L ways (leastAt L (ways.headD 0))
  refine ⟨h2, ?_⟩
  rcases h3 with h3 | h3
  · cases ways with
    | nil => exact absurd rfl h
    | cons a r => exact ⟨a, List.mem_cons_self .., h3⟩
  · exact h3
theorem forkL_ok {L : List Place} (hL : wf L) {ways : List Nat} (h : ways ≠ []) (hw : ∀ q ∈ ways, q < L.length) {m : Nat} (hm : ∀ q ∈ ways, m ≤ leastAt L q) :
    wf (forkL L ways).1 ∧ (forkL L ways).2 < (forkL L ways).1.length ∧ (forkL L ways).1.length = L.length + 1 ∧ (∀ p, p < L.length → (forkL L ways).1[p]? = L[p]?) ∧ m ≤ leastAt (forkL L ways).1 (forkL L ways).2 := by
  obtain ⟨h1, h2⟩ := forkLeast_ok L h
  unfold forkL
  refine ⟨wf_add hL (.inr ⟨rfl, fun q hq => ⟨hw q hq, h1 q hq⟩, h2⟩), by simp, by simp, fun p hp => get_snoc_lt hp, ?_⟩
  rw [leastAt_some get_snoc_eq]
  obtain ⟨q, hq, e⟩ := h2
  show m ≤ forkLeast L ways
  rw [e]
  exact hm q hq

theorem laySeq_good {f : T → Nat → List Place → List Place × Nat} {sz : T → Nat} : ∀ (l : List T), (∀ x ∈ l, Good f sz x) → ∀ next L, wf L → next < L.length →
    wf (laySeq f l next L).1 ∧ (laySeq f l next L).2 < (laySeq f l next L).1.length ∧ L.length ≤ (laySeq f l next L).1.length ∧ (∀ p, p < L.length → (laySeq f l next L).1[p]? = L[p]?) ∧ leastAt L next ≤ leastAt (laySeq f l next L).1 (laySeq f l next L).2 ∧ (laySeq f l next L).1.length ≤ L.length + (l.map sz).sum := by
  intro l
  induction l with
  | nil => intro _ next L hL hn; exact ⟨hL, hn, Nat.le_refl _, fun _ _ => rfl, Nat.le_refl _, Nat.le_add_right _ _⟩
  | cons x r ih =>
    intro hg next L hL hn
    obtain ⟨a1, a2, a3, a4, a5, a6⟩ := hg x (List.mem_cons_self ..) next L hL hn
    obtain ⟨b1, b2, b3, b4, b5, b6⟩ := ih (fun y hy => hg y (List.mem_cons_of_mem _ hy)) (f x next L).2 (f x next L).1 a1 a2
    rw [laySeq]
    refine ⟨b1, b2, Nat.le_trans a3 b3, fun p hp => (b4 p (by omega)).trans (a4 p hp), Nat.le_trans a5 b5, ?_⟩
    simp only [List.map_cons, List.sum_cons]
    omega
theorem layAlt_good {f : T → Nat → List Place → List Place × Nat} {sz : T → Nat} (next : Nat) : ∀ (l : List T), (∀ x ∈ l, Good f sz x) → ∀ (L : List Place) (ways : List Nat), wf L → next < L.length → (∀ q ∈ ways, q < L.length ∧ leastAt L next ≤ leastAt L q) →
    wf (layAlt f next l L ways).1 ∧ (∀ q ∈ (layAlt f next l L ways).2, q < (layAlt f next l L ways).1.length ∧ leastAt L next ≤ leastAt (layAlt f next l L ways).1 q) ∧ L.length ≤ (layAlt f next l L ways).1.length ∧ (∀ p, p < L.length → (layAlt f next l L ways).1[p]? = L[p]?) ∧ (layAlt f next l L ways).1.length ≤ L.length + (l.map sz).sum ∧ (layAlt f next l L ways).2.length = ways.length + l.length := by
  intro l
  induction l with
  | nil => intro _ L ways hL hn hw; exact ⟨hL, hw, Nat.le_refl _, fun _ _ => rfl, Nat.le_add_right _ _, rfl⟩
  | cons x r ih =>
    intro hg L ways hL hn hw
    obtain ⟨a1, a2, a3, a4, a5, a6⟩ := hg x (List.mem_cons_self ..) next L hL hn
    have hkeep : ∀ q, q < L.length → leastAt (f x next L).1 q = leastAt L q := fun q hq => leastAt_congr (a4 q hq)
    obtain ⟨b1, b2, b3, b4, b5, b6⟩ := ih (fun y hy => hg y (List.mem_cons_of_mem _ hy)) (f x next L).1 (ways ++ [(f x next L).2]) a1 (by omega) (fun q hq => by
      rw [hkeep next hn]
      rcases List.mem_append.1 hq with hq | hq
      · obtain ⟨g1, g2⟩ := hw q hq
        exact ⟨by omega, by rw [hkeep q g1]; exact g2⟩
      · simp at hq
        subst hq
        exact ⟨a2, a5⟩)
    rw [hkeep next hn] at b2
    rw [layAlt]
    refine ⟨b1, b2, Nat.le_trans a3 b3, fun p hp => (b4 p (by omega)).trans (a4 p hp), ?_, ?_⟩
    · simp only [List.map_cons, List.sum_cons]
      omega
    · rw [b6]
      simp
      omega
theorem layLoop_good {f : T → Nat → List Place → List Place × Nat} {sz : T → Nat} {x : T} (hg : Good f sz x) {next : Nat} {L : List Place} (hL : wf L) (hn : next < L.length) :
    wf (layLoop f [x] next L).1 ∧ (layLoop f [x] next L).2.1 = L.length ∧ L.length < (layLoop f [x] next L).1.length ∧ (layLoop f [x] next L).2.2 < (layLoop f [x] next L).1.length ∧ (∀ p, p < L.length → (layLoop f [x] next L).1[p]? = L[p]?) ∧
    leastAt L next ≤ leastAt (layLoop f [x] next L).1 L.length ∧ leastAt L next ≤ leastAt (layLoop f [x] next L).1 (layLoop f [x] next L).2.2 ∧ (layLoop f [x] next L).1.length ≤ L.length + (1 + sz x) := by
  obtain ⟨c1, c2, c3, c4, c5⟩ := forkL_ok hL (ways := [next]) (by simp) (by simpa using hn) (m := leastAt L next) (by simp)
  have e2 : (forkL L [next]).2 = L.length := rfl
  rw [e2] at c5
  obtain ⟨a1, a2, a3, a4, a5, a6⟩ := hg L.length (forkL L [next]).1 c1 (by omega)
  rw [layLoop]
  generalize hf : f x L.length (forkL L [next]).1 = r at *
  have hat : (forkL L [next]).1[L.length]? = some (0, [next], forkLeast L [next]) := get_snoc_eq
  have hr : r.1[L.length]? = some (0, [next], forkLeast L [next]) := (a4 _ (by omega)).trans hat
  have hpos := hL.pos
  refine ⟨wf_next a1 hpos hr rfl a2 ?_, rfl, by rw [addNext_length]; omega, by rw [addNext_length]; exact a2, fun p hp => ?_, ?_, ?_, ?_⟩
  · rw [← leastAt_some hat]; exact a5
  · rw [addNext_ne (by omega), a4 p (by omega), c4 p hp]
  · rw [addNext_least, leastAt_congr (a4 L.length (by omega))]; exact c5
  · rw [addNext_least]; exact Nat.le_trans c5 (by rw [← leastAt_congr (a4 L.length (by omega))]; exact Nat.le_trans (by rw [leastAt_congr (a4 L.length (by omega))]; exact Nat.le_refl _) a5)
  · rw [addNext_length]; omega
theorem lay_good : ∀ (n : Nat) (t : T), Sane K M U n t → Good (lay K M U n) (size U n) t := by
  intro n
  induction n with
  | zero => intro t h; exact h.elim
  | succ n ih =>
    intro t ⟨s1, s3, s4, sk⟩ next L hL hn
    have hk : ∀ x ∈ U t, Good (lay K M U n) (size U n) x := fun x hx => ih x (sk x hx)
    rw [lay, size]
    by_cases k1 : K t = 1
    · rw [if_pos k1]
      refine ⟨wf_add hL (.inl ⟨s1 k1, next, rfl, hn, rfl⟩), by simp, by simp, fun p hp => get_snoc_lt hp, ?_, by simp⟩
      rw [leastAt_some get_snoc_eq]
      exact Nat.le_succ _
    rw [if_neg k1]
    by_cases k2 : K t = 2
    · rw [if_pos k2]
      obtain ⟨b1, b2, b3, b4, b5, b6⟩ := laySeq_good (U t).reverse (fun x hx => hk x (List.mem_reverse.1 hx)) next L hL hn
      refine ⟨b1, b2, b3, b4, b5, ?_⟩
      rw [List.map_reverse, List.sum_reverse] at b6
      omega
    rw [if_neg k2]
    by_cases k3 : K t = 3
    · rw [if_pos k3]
      obtain ⟨b1, b2, b3, b4, b5, b6⟩ := layAlt_good next (U t) hk L [] hL hn (fun q hq => by cases hq)
      have hne : (layAlt (lay K M U n) next (U t) L []).2 ≠ [] := by
        intro e
        rw [e] at b6
        have := List.length_pos_iff.2 (s3 (.inr k3))
        simp at b6
        simp [b6] at this
      obtain ⟨c1, c2, c3, c4, c5⟩ := forkL_ok b1 hne (fun q hq => (b2 q hq).1) (fun q hq => (b2 q hq).2)
      refine ⟨c1, c2, by omega, fun p hp => (c4 p (by omega)).trans (b4 p hp), c5, ?_⟩
      omega
    rw [if_neg k3]
    by_cases k4 : K t = 4
    · rw [if_pos k4]
      obtain ⟨x, hx⟩ := s4 (.inl k4)
      rw [hx]
      obtain ⟨a1, a2, a3, a4, a5, a6, a7, a8⟩ := layLoop_good (hk x (by rw [hx]; exact List.mem_singleton.2 rfl)) hL hn
      refine ⟨a1, by rw [a2]; exact a3, Nat.le_of_lt a3, a5, by rw [a2]; exact a6, ?_⟩
      simpa using a8
    rw [if_neg k4]
    by_cases k5 : K t = 5
    · rw [if_pos k5]
      obtain ⟨x, hx⟩ := s4 (.inr (.inl k5))
      rw [hx]
      obtain ⟨a1, a2, a3, a4, a5, a6, a7, a8⟩ := layLoop_good (hk x (by rw [hx]; exact List.mem_singleton.2 rfl)) hL hn
      refine ⟨a1, a4, Nat.le_of_lt a3, a5, a7, ?_⟩
      simpa using a8
    rw [if_neg k5]
    by_cases k6 : K t = 6
    · rw [if_pos k6]
      obtain ⟨x, hx⟩ := s4 (.inr (.inr k6))
      rw [hx, layOpt]
      obtain ⟨a1, a2, a3, a4, a5, a6⟩ := hk x (by rw [hx]; exact List.mem_singleton.2 rfl) next L hL hn
      have hkeep : leastAt (lay K M U n x next L).1 next = leastAt L next := leastAt_congr (a4 next hn)
      obtain ⟨c1, c2, c3, c4, c5⟩ := forkL_ok a1 (ways := [next, (lay K M U n x next L).2]) (by simp) (fun q hq => by
        simp at hq
        rcases hq with rfl | rfl
        · omega
        · exact a2) (m := leastAt L next) (fun q hq => by
        simp at hq
        rcases hq with rfl | rfl
        · rw [hkeep]; exact Nat.le_refl _
        · exact a5)
      refine ⟨c1, c2, by omega, fun p hp => (c4 p (by omega)).trans (a4 p hp), c5, ?_⟩
      simp
      omega
    rw [if_neg k6]
    exact ⟨hL, hn, Nat.le_refl _, fun _ _ => rfl, Nat.le_refl _, Nat.le_add_right _ _⟩
end
end Go.Proofs.YtofkiaeocfpkeaaGreatDoor
