/-
  PROVED HERE: what the texts PRight, ParseC, ParseD, Auto, Grp, Typ, Nmd say (each has its own words below).
-/
import Derived.Test.YtofkiaeocfpkeaaGreatDoorSW4
import Derived.LaidEql
import Derived.Stop.Asserts
import Derived.RowKitTokens
import Derived.Laws.Tables
import Derived.Laws.CopyOwn
import Derived.WalkKit
import Derived.Laws.BitsAllLaws
/- PRight: expr's own right and Check at every tree: what they return; nothing that lay before is turned. -/
namespace Go.Proofs.YtofkiaeocfpkeaaGreatDoor
open Go.RowKit

def rowK (k : Int) : Bool := k == 2 || k == 3
set_option maxRecDepth 100000 in
set_option maxHeartbeats 2000000 in
theorem isrow_calls (k : Int) (w : World) : Calls Tryz.prog 182 #[.int .i64 k] w fun e w' => e = .returned (.bool (rowK k)) ∧ w' = w := by
  unfold rowK
  cases h : (k == 2) with
  | true =>
    go_enter Tryz.func182, Tryz.ntmps182
    go_wp2
    go_ret
    exact ⟨rfl, rfl⟩
  | false =>
    go_enter Tryz.func182, Tryz.ntmps182
    go_wp2
    go_ret
    exact ⟨rfl, rfl⟩
/-- May the kind i stand just in k? -/
def mayIn (i k : Int) : Bool := !(i == 0) && (!(i == k) || !rowK k)
set_option maxRecDepth 100000 in
set_option maxHeartbeats 2000000 in
theorem may_calls (i k : Int) (w : World) : Calls Tryz.prog 175 #[.int .i64 i, .int .i64 k] w fun e w' => e = .returned (.bool (mayIn i k)) ∧ w' = w := by
  have HR : Hid (∀ W, Calls Tryz.prog 182 #[.int .i64 k] W fun e w' => e = .returned (.bool (rowK k)) ∧ w' = W) := fun W => isrow_calls k W
  unfold mayIn
  generalize rowK k = r at *
  cases h : (i == 0) with
  | true =>
    have h1 : (i != 0) = false := by simp [bne, h]
    go_enter Tryz.func175, Tryz.ntmps175
    go_wp2
    go_ret
    exact ⟨rfl, rfl⟩
  | false =>
    have h1 : (i != 0) = true := by simp [bne, h]
    cases h2 : (i == k) with
    | true =>
      have h3 : (i != k) = false := by simp [bne, h2]
      go_enter Tryz.func175, Tryz.ntmps175
      go_wp2_with fail
      refine (HR.out _).mono ?_
      rintro e W ⟨rfl, hW⟩
      rw [hW]
      go_wp2
      go_ret
      exact ⟨by cases r <;> rfl, rfl⟩
    | false =>
      have h3 : (i != k) = true := by simp [bne, h2]
      go_enter Tryz.func175, Tryz.ntmps175
      go_wp2
      go_ret
      exact ⟨by cases r <;> rfl, rfl⟩
def inAll (n : Nat) (k : Int) (ts : List (DataW Unit)) : Bool := ts.all (fun x => mayIn (kindT x) k && rightE n x)
/-- What is right, as the program asks it. -/
def rightP (n : Nat) (k : Int) (s : ByteArray) (ts : List (DataW Unit)) : Bool :=
  if k = 0 then s.toList.isEmpty && ts.length == 0
  else if k = 1 then letters s && ts.length == 0
  else if k = 2 ∨ k = 3 then (s.toList.isEmpty && decide (2 ≤ ts.length)) && inAll n k ts
  else if k = 4 ∨ k = 5 ∨ k = 6 then (s.toList.isEmpty && ts.length == 1) && inAll n k ts
  else false
theorem all_and {p q : DataW Unit → Bool} : ∀ l : List (DataW Unit), l.all (fun x => p x && q x) = (l.all p && l.all q) := by
  intro l
  induction l with
  | nil => rfl
  | cons x r ih =>
    simp only [List.all_cons, ih]
    cases p x <;> cases q x <;> cases r.all p <;> cases r.all q <;> rfl
theorem right_same (n : Nat) (k : Int) (s : ByteArray) (ts : List (DataW Unit)) : rightE (n + 1) (node k s ts) = rightP n k s ts := by
  rw [rightE, subs_node, kindT_node, nameT_node]
  unfold shapely rightP
  have h0 : ts.length = 0 → ts = [] := List.length_eq_zero_iff.1
  by_cases k0 : k = 0
  · subst k0
    simp only [if_true]
    cases h : ts.length == 0 with
    | false => simp
    | true => rw [h0 (by simpa using h)]; simp
  rw [if_neg k0, if_neg k0]
  by_cases k1 : k = 1
  · subst k1
    simp only [if_true]
    cases h : ts.length == 0 with
    | false => simp
    | true => rw [h0 (by simpa using h)]; simp
  rw [if_neg k1, if_neg k1]
  by_cases k2 : k = 2 ∨ k = 3
  · rw [if_neg (by omega), if_pos k2, if_pos k2]
    have hr : rowK k = true := by unfold rowK; rcases k2 with rfl | rfl <;> rfl
    have hi : inAll n k ts = (ts.all (fun x => !(kindT x == 0) && rightE n x) && ts.all (fun x => !(kindT x == k))) := by
      rw [← all_and]
      unfold inAll mayIn
      congr 1
      funext x
      rw [hr]
      cases (kindT x == 0) <;> cases (kindT x == k) <;> cases rightE n x <;> rfl
    rw [hi]
    cases ts.all (fun x => !(kindT x == 0) && rightE n x) <;> cases ts.all (fun x => !(kindT x == k)) <;> cases s.toList.isEmpty <;> cases decide (2 ≤ ts.length) <;> rfl
  rw [if_neg k2, if_neg k2]
  by_cases k4 : k = 4 ∨ k = 5 ∨ k = 6
  · rw [if_pos k4, if_pos k4]
    have hr : rowK k = false := by unfold rowK; rcases k4 with rfl | rfl | rfl <;> rfl
    have hi : inAll n k ts = ts.all (fun x => !(kindT x == 0) && rightE n x) := by
      unfold inAll mayIn
      congr 1
      funext x
      rw [hr]
      cases (kindT x == 0) <;> cases (kindT x == k) <;> cases rightE n x <;> rfl
    rw [hi, Bool.and_comm]
  · rw [if_neg k4, if_neg k4, Bool.and_false]

set_option maxRecDepth 100000 in
set_option maxHeartbeats 4000000 in
theorem inall_calls (n : Nat) (ih : ∀ (t : DataW Unit) (v : Value) (w : World), Ex w n t v → named n t → Calls Tryz.prog 125 #[v] w fun e w' => e = .returned (.bool (rightE n t)) ∧ Below w.heap.size w w')
    (k : Int) (s : ByteArray) (ts : List (DataW Unit)) (v : Value) (w : World) (h : Ex w (n + 1) (node k s ts) v) (hN : named (n + 1) (node k s ts)) :
    Calls Tryz.prog 160 #[v] w fun e w' => e = .returned (.bool (inAll n k ts)) ∧ Below w.heap.size w w' := by
  obtain ⟨k', s', a, len, cap, ts', hn, rfl, hl, hz, hk⟩ := h
  obtain ⟨rfl, rfl, rfl⟩ := node_inj.1 hn
  have hNk := hN.2
  rw [subs_node] at hNk
  obtain ⟨R, hR⟩ : ∃ R, inAll n k ts = R := ⟨_, rfl⟩
  rw [hR]
  have HR : Hid (inAll n k ts = R) := hR
  clear hR hn hN
  go_enter Tryz.func160, Tryz.ntmps160
  go_wp2
  go_loopw [8] (fun i w' => ∃ j : Nat, j ≤ len ∧ i = .int .i64 (j : Int) ∧ inAll n k (ts.take j) = true ∧ Below (w.alloc (.cells #[.int .i64 k, .string s, .slice a len cap] 26)).heap.size (w.alloc (.cells #[.int .i64 k, .string s, .slice a len cap] 26)) w') (fun i _ => len - (intOf i).toNat)
  case atStart => exact ⟨0, by omega, rfl, rfl, Below.refl _ _⟩
  case round =>
    obtain ⟨i, hi, rfl, hT, hB⟩ := hrel
    obtain ⟨b1, -, b0, hBw⟩ := one_kept hB
    have b2 : ∀ o, (wr.alloc o).cell? ⟨w.heap.size, 0, none⟩ = some (.int .i64 k) := fun o => by
      rw [World.cell?_alloc_lt _ _ ⟨w.heap.size, 0, none⟩ (by have := hB.size; simp only [World.size_alloc] at this; show w.heap.size < wr.heap.size; omega)]
      exact b1
    by_cases hlt : i < len
    · obtain ⟨b, o, x, kx, sx, ax, lx, cx, rfl, _, hx, hcx⟩ := kid_at hl hk hlt
      obtain ⟨p0, p1, p2, p3⟩ := hcx wr hBw
      have hkx : kindT x = kx := ex_kind p3
      have hst : inAll n k (ts.take (i + 1)) = (mayIn kx k && rightE n x) := by
        have := all_step (p := fun x => mayIn (kindT x) k && rightE n x) hx
        unfold inAll at hT ⊢
        rw [this, hT, Bool.true_and, hkx]
      have hno : (mayIn kx k && rightE n x) = false → R = false := fun h => by
        rw [← HR.out]
        exact all_not hx (by rw [hkx]; exact h)
      have HM : Hid (∀ W, Calls Tryz.prog 175 #[.int .i64 kx, .int .i64 k] W fun e w' => e = .returned (.bool (mayIn kx k)) ∧ w' = W) := fun W => may_calls kx k W
      have HC : Hid (∀ W, Below wr.heap.size wr W → Calls Tryz.prog 125 #[.agg #[.int .i64 kx, .string sx, .slice ax lx cx]] W fun e w' => e = .returned (.bool (rightE n x)) ∧ Below W.heap.size W w') := fun W hW => ih x _ W (Ex.below hW _ _ _ p3) (hNk x (List.mem_of_getElem? hx))
      have HI : Hid (inAll n k (ts.take (i + 1)) = (mayIn kx k && rightE n x)) := hst
      have HO : Hid ((mayIn kx k && rightE n x) = false → R = false) := hno
      have HW : Hid (∀ o, Below wr.heap.size wr (wr.alloc o)) := fun o => (Below.refl _ wr).alloc (Nat.le_refl _) _
      clear hcx hk p3 hst hno hx ih hkx hT hNk
      generalize mayIn kx k = mk at *
      generalize rightE n x = rx at *
      cases mk with
      | false =>
        go_wp2_with fail
        refine (HM.out _).mono ?_
        rintro e W ⟨rfl, hW⟩
        rw [hW]
        go_wp2
        go_ret
        exact ⟨by rw [HO.out rfl]; rfl, hBw.trans ((HW.out _).mono hBw.size)⟩
      | true =>
        go_wp2_with fail
        refine (HM.out _).mono ?_
        rintro e W ⟨rfl, hW⟩
        rw [hW]
        go_wp2_with fail
        refine (HC.out _ (HW.out _)).mono ?_
        rintro e W2 ⟨rfl, hW2⟩
        have hB2 : Below wr.heap.size wr W2 := (HW.out _).trans (hW2.mono (by simp))
        cases rx with
        | false =>
          go_wp2
          go_ret
          exact ⟨by rw [HO.out rfl]; rfl, hBw.trans (hB2.mono hBw.size)⟩
        | true =>
          go_wp2
          go_roundw
          case rel => exact ⟨i + 1, by omega, rfl, HI.out, hB.trans (hB2.mono hB.size)⟩
          case measure => simp [intOf]; omega
    · obtain rfl : i = len := by omega
      have HF : Hid (R = true) := by
        show R = true
        rw [← HR.out, ← hT, List.take_of_length_le (Nat.le_of_eq hl)]
      clear hk ih hNk hT
      go_wp2
      go_ret
      exact ⟨by rw [HF.out]; rfl, hBw⟩

set_option maxRecDepth 100000 in
set_option maxHeartbeats 4000000 in
theorem rightp_calls : ∀ (n : Nat) (t : DataW Unit) (v : Value) (w : World), Ex w n t v → named n t →
    Calls Tryz.prog 125 #[v] w fun e w' => e = .returned (.bool (rightE n t)) ∧ Below w.heap.size w w' := by
  intro n
  induction n with
  | zero => intro t v w h; exact h.elim
  | succ n ih =>
    intro t v w h hN
    have hh := h
    obtain ⟨k, s, a, len, cap, ts, rfl, rfl, hl, hz, hk⟩ := h
    have HI : Hid (∀ W, Below w.heap.size w W → Calls Tryz.prog 160 #[.agg #[.int .i64 k, .string s, .slice a len cap]] W fun e w' => e = .returned (.bool (inAll n k ts)) ∧ Below W.heap.size W w') := fun W hW => inall_calls n ih k s ts _ W (Ex.below hW _ _ _ hh) hN
    have hNs : s.size ≤ 9223372036854775807 := by have := hN.1; rwa [nameT_node] at this
    have HL : Hid (∀ W, Calls Tryz.prog 159 #[.string s] W fun e w' => e = .returned (.bool (letters s)) ∧ w' = W) := fun W => isname_calls s W hNs
    rw [right_same]
    unfold rightP
    rw [hl]
    have HB0 : Hid (∀ o, Below w.heap.size w (w.alloc o)) := fun o => (Below.refl _ w).alloc (Nat.le_refl _) _
    clear hk ih hN hh hz hl hNs
    have hq0 := int_beq len 0
    have hq1 := int_beq len 1
    have hq2 := int_le len
    rw [hq0, hq1, hq2]
    clear hq0 hq1 hq2
    by_cases k0 : k = 0
    · subst k0
      simp only [if_true]
      cases he : s.toList.isEmpty with
      | true =>
        go_enter Tryz.func125, Tryz.ntmps125
        go_wp2
        go_ret
        exact ⟨rfl, HB0.out _⟩
      | false =>
        go_enter Tryz.func125, Tryz.ntmps125
        go_wp2
        go_ret
        exact ⟨rfl, HB0.out _⟩
    rw [if_neg k0]
    have e0 : (k == 0) = false := by simpa using k0
    by_cases k1 : k = 1
    · subst k1
      simp only [if_true]
      generalize letters s = b at *
      cases b with
      | true =>
        go_enter Tryz.func125, Tryz.ntmps125
        go_wp2_with fail
        refine (HL.out _).mono ?_
        rintro e W ⟨rfl, hW⟩
        rw [hW]
        go_wp2
        go_ret
        exact ⟨rfl, HB0.out _⟩
      | false =>
        go_enter Tryz.func125, Tryz.ntmps125
        go_wp2_with fail
        refine (HL.out _).mono ?_
        rintro e W ⟨rfl, hW⟩
        rw [hW]
        go_wp2
        go_ret
        exact ⟨rfl, HB0.out _⟩
    rw [if_neg k1]
    have e1 : (k == 1) = false := by simpa using k1
    generalize inAll n k ts = q at *
    have HW : Hid (∀ o W, Below (w.alloc o).heap.size (w.alloc o) W → Below w.heap.size w W) := fun o W h => (HB0.out o).trans (h.mono (by simp))
    by_cases k2 : k = 2 ∨ k = 3
    · rw [if_pos k2]
      clear k0 k1
      cases he : s.toList.isEmpty with
      | true =>
        cases hc : decide ((2 : Int) ≤ (len : Int)) with
        | true =>
          have hc' : (2 : Int) ≤ (len : Int) := of_decide_eq_true hc
          rcases k2 with rfl | rfl
          all_goals
            go_enter Tryz.func125, Tryz.ntmps125
            go_wp2_with fail
            refine (HI.out _ (HB0.out _)).mono ?_
            rintro e W ⟨rfl, hW⟩
            go_wp2
            go_ret
            exact ⟨rfl, HW.out _ _ hW⟩
        | false =>
          have hc' : ¬ (2 : Int) ≤ (len : Int) := of_decide_eq_false hc
          rcases k2 with rfl | rfl
          all_goals
            go_enter Tryz.func125, Tryz.ntmps125
            go_wp2
            go_ret
            exact ⟨rfl, HB0.out _⟩
      | false =>
        rcases k2 with rfl | rfl
        all_goals
          go_enter Tryz.func125, Tryz.ntmps125
          go_wp2
          go_ret
          exact ⟨rfl, HB0.out _⟩
    rw [if_neg k2]
    have e2 : (k == 2) = false := by rw [beq_eq_false_iff_ne]; omega
    have e3 : (k == 3) = false := by rw [beq_eq_false_iff_ne]; omega
    by_cases k4 : k = 4 ∨ k = 5 ∨ k = 6
    · rw [if_pos k4]
      clear k0 k1 k2
      cases he : s.toList.isEmpty with
      | true =>
        cases hc : ((len : Int) == ((1 : Nat) : Int)) with
        | true =>
          have hc' : ((len : Int) == (1 : Int)) = true := hc
          rcases k4 with rfl | rfl | rfl
          all_goals
            go_enter Tryz.func125, Tryz.ntmps125
            go_wp2_with fail
            refine (HI.out _ (HB0.out _)).mono ?_
            rintro e W ⟨rfl, hW⟩
            go_wp2
            go_ret
            exact ⟨rfl, HW.out _ _ hW⟩
        | false =>
          have hc' : ((len : Int) == (1 : Int)) = false := hc
          rcases k4 with rfl | rfl | rfl
          all_goals
            go_enter Tryz.func125, Tryz.ntmps125
            go_wp2
            go_ret
            exact ⟨rfl, HB0.out _⟩
      | false =>
        rcases k4 with rfl | rfl | rfl
        all_goals
          go_enter Tryz.func125, Tryz.ntmps125
          go_wp2
          go_ret
          exact ⟨rfl, HB0.out _⟩
    rw [if_neg k4]
    have e4 : (k == 4) = false := by rw [beq_eq_false_iff_ne]; omega
    have e5 : (k == 5) = false := by rw [beq_eq_false_iff_ne]; omega
    have e6 : (k == 6) = false := by rw [beq_eq_false_iff_ne]; omega
    clear k0 k1 k2 k4
    go_enter Tryz.func125, Tryz.ntmps125
    go_wp2
    go_ret
    exact ⟨rfl, HB0.out _⟩
theorem check_rb (n : Nat) (t : DataW Unit) : checkE n t = if rb n t 1 200 < 0 then 2 else if rightE n t = true then 0 else 4 := by
  unfold checkE
  by_cases h : 200 < cnt n t ∨ 60 < dp n t
  · have e : rb n t 1 200 = -1 := by unfold rb; exact if_neg (by omega)
    rw [if_pos h, e, if_pos (by decide)]
  · have e : rb n t 1 200 = 200 - cnt n t := by unfold rb; exact if_pos (by omega)
    have e2 : ¬ (200 - cnt n t < 0) := by omega
    rw [if_neg h, e, if_neg e2]
set_option maxRecDepth 100000 in
set_option maxHeartbeats 2000000 in
theorem check_calls (n : Nat) (t : DataW Unit) (v : Value) (w : World) (h : Ex w n t v) (hN : named n t) :
    Calls Tryz.prog 85 #[v] w fun e w' => e = .returned (.int .i64 (checkE n t)) ∧ Below w.heap.size w w' := by
  have H1 : Hid (∀ W, Below w.heap.size w W → Calls Tryz.prog 124 #[v, .int .i64 1, .int .i64 200] W fun e w' => e = .returned (.int .i64 (rb n t 1 200)) ∧ Below W.heap.size W w') := fun W hW => room_calls n t v W 1 200 (Ex.below hW _ _ _ h) (by decide) (by decide) (by decide) (by decide)
  have H3 : Hid (∀ W, Below w.heap.size w W → Calls Tryz.prog 125 #[v] W fun e w' => e = .returned (.bool (rightE n t)) ∧ Below W.heap.size W w') := fun W hW => rightp_calls n t v W (Ex.below hW _ _ _ h) hN
  rw [check_rb]
  have hr := rb_range n t 1 200
  generalize rb n t 1 200 = r at *
  generalize rightE n t = b at *
  have HB0 : Hid (∀ o, Below w.heap.size w (w.alloc o)) := fun o => (Below.refl _ w).alloc (Nat.le_refl _) _
  obtain ⟨k, s, a, len, cap, rfl⟩ : ∃ k s a len cap, v = .agg #[.int .i64 k, .string s, .slice a len cap] := by
    cases n with
    | zero => exact h.elim
    | succ n => obtain ⟨k, s, a, len, cap, ts, _, rfl, _⟩ := h; exact ⟨k, s, a, len, cap, rfl⟩
  have f0 : ∀ W : World, Below (w.alloc (.cells #[.int .i64 k, .string s, .slice a len cap] 26)).heap.size (w.alloc (.cells #[.int .i64 k, .string s, .slice a len cap] 26)) W → W.cell? ⟨w.heap.size, 0, none⟩ = some (.int .i64 k) ∧ W.cell? ⟨w.heap.size, 1, none⟩ = some (.string s) ∧ W.cell? ⟨w.heap.size, 2, none⟩ = some (.slice a len cap) ∧ Below w.heap.size w W := fun W hW => one_kept hW
  have HF0 : Hid (∀ W : World, Below (w.alloc (.cells #[.int .i64 k, .string s, .slice a len cap] 26)).heap.size (w.alloc (.cells #[.int .i64 k, .string s, .slice a len cap] 26)) W → W.cell? ⟨w.heap.size, 0, none⟩ = some (.int .i64 k) ∧ W.cell? ⟨w.heap.size, 1, none⟩ = some (.string s) ∧ W.cell? ⟨w.heap.size, 2, none⟩ = some (.slice a len cap) ∧ Below w.heap.size w W) := f0
  clear f0 h hN
  by_cases hneg : r < 0
  · rw [if_pos hneg]
    go_enter Tryz.func85, Tryz.ntmps85
    go_wp2_with fail
    refine (H1.out _ (HB0.out _)).mono ?_
    rintro e W ⟨rfl, hW⟩
    obtain ⟨-, -, -, hBw⟩ := HF0.out W hW
    go_wp2
    go_ret
    exact ⟨rfl, hBw⟩
  · rw [if_neg hneg]
    cases b with
    | true =>
      go_enter Tryz.func85, Tryz.ntmps85
      go_wp2_with fail
      refine (H1.out _ (HB0.out _)).mono ?_
      rintro e W ⟨rfl, hW⟩
      obtain ⟨c0, c1, c2, hBw⟩ := HF0.out W hW
      go_wp2_with fail
      refine (H3.out _ hBw).mono ?_
      rintro e W2 ⟨rfl, hW2⟩
      go_wp2
      go_ret
      exact ⟨rfl, hBw.trans (hW2.mono hBw.size)⟩
    | false =>
      go_enter Tryz.func85, Tryz.ntmps85
      go_wp2_with fail
      refine (H1.out _ (HB0.out _)).mono ?_
      rintro e W ⟨rfl, hW⟩
      obtain ⟨c0, c1, c2, hBw⟩ := HF0.out W hW
      go_wp2_with fail
      refine (H3.out _ hBw).mono ?_
      rintro e W2 ⟨rfl, hW2⟩
      go_wp2
      go_ret
      exact ⟨rfl, hBw.trans (hW2.mono hBw.size)⟩
end Go.Proofs.YtofkiaeocfpkeaaGreatDoor

/- ParseC: errors.As at the refusals of the reader; expr.Parse at every text. -/
namespace Go.Proofs.YtofkiaeocfpkeaaGreatDoor
open Go.RowKit Go.Extern.Stop Go.Stop Go.Extern

theorem q_methodKind (h : Value) (w : World) : (Go.method 370 221 (.agg #[h]) "Kind").run Tryz.prog w = .ok (203, h) w := by kernel_rfl
theorem q_methodElem (h : Value) (w : World) : (Go.method 370 221 (.agg #[h]) "Elem").run Tryz.prog w = .ok (216, .agg #[h]) w := by kernel_rfl
theorem q_methodImplements (h : Value) (w : World) : (Go.method 370 221 (.agg #[h]) "Implements").run Tryz.prog w = .ok (217, .agg #[h]) w := by kernel_rfl
theorem q_methodAssignableTo (h : Value) (w : World) : (Go.method 370 221 (.agg #[h]) "AssignableTo").run Tryz.prog w = .ok (214, .agg #[h]) w := by kernel_rfl
theorem getlit1 (a b : Value) (h1 : (#[a, b] : Array Value).size = 2) (h2 : 1 < 2) : (#[a, b] : Array Value).getLit 1 h1 h2 = b := rfl
end Go.Proofs.YtofkiaeocfpkeaaGreatDoor

/- As2: errors.As at a refusal of expr's, both targets of told, and told: what they return and leave. -/
namespace Go.Proofs.YtofkiaeocfpkeaaGreatDoor
open Go.RowKit Go.Extern.Stop Go.Stop Go.Extern

theorem qr_valueOfP (t : Addr) (w : World) : (ReflectliteValue.unpack (.iface 146 (.pointer (some t)))).run Tryz.prog w
    = .ok (.agg #[.pointer (some ⟨3, 146, none⟩), .pointer (some ⟨w.heap.size, 0, none⟩), .int .u64 150]) (w.alloc (.cells #[.pointer (some t)] 146)) := by kernel_rfl
theorem qr_typeP (a : Addr) (w : World) : (ReflectliteValue.methodAny (ReflectliteValue.valueError "reflectlite.Value.Type" 0) (fun t _ _ _ => ReflectliteType.toType t) #[.agg #[.pointer (some ⟨3, 146, none⟩), .pointer (some a), .int .u64 150]]).run Tryz.prog w
    = .ok (.iface 221 (.agg #[.pointer (some ⟨3, 146, none⟩)])) w := by kernel_rfl
theorem qr_kindP (w : World) : ((ReflectliteType.abiMethod fun t => (fun a : Nat => Value.int IntKind.u8 (a : Int)) <$> Rtype.kind t) #[.pointer (some ⟨3, 146, none⟩)]).run Tryz.prog w = .ok (.int .u8 22) w := by kernel_rfl
theorem qr_kind (w : World) : ((ReflectliteType.abiMethod fun t => (fun a : Nat => Value.int IntKind.u8 (a : Int)) <$> Rtype.kind t) #[.pointer (some ⟨3, 140, none⟩)]).run Tryz.prog w = .ok (.int .u8 25) w := by kernel_rfl
theorem qr_partsP (a : Addr) (w : World) : (ReflectliteValue.parts (.agg #[.pointer (some ⟨3, 146, none⟩), .pointer (some a), .int .u64 150])).run Tryz.prog w = .ok (some (146, a, 150)) w := by kernel_rfl
theorem qr_isNil (a p : Addr) (W : World) (ha : W.cell? a = some (.pointer (some p))) :
    (ReflectliteValue.method (ReflectliteValue.valueError "reflectlite.Value.IsNil" 0) ReflectliteValue.isNil #[.agg #[.pointer (some ⟨3, 146, none⟩), .pointer (some a), .int .u64 150]]).run Tryz.prog W = .ok (.bool false) W := by
  refine Eq.trans (Sem.run_bind (x := ReflectliteValue.parts (.agg #[.pointer (some ⟨3, 146, none⟩), .pointer (some a), .int .u64 150])) ..) ?_
  simp only [qr_partsP, Result.andThen]
  simp [ReflectliteValue.isNil, loadVar, isAgg, underlying, Tryz.underlying146, ha, Result.andThen]
theorem qr_elem (w : World) : (ReflectliteType.method ReflectliteType.elem #[.agg #[.pointer (some ⟨3, 146, none⟩)]]).run Tryz.prog w = .ok (.iface 221 (.agg #[.pointer (some ⟨3, 140, none⟩)])) w := by kernel_rfl
theorem qr_implements (w : World) : (ReflectliteType.relation "Implements" ReflectliteType.implements_ #[.agg #[.pointer (some ⟨3, 140, none⟩)], .iface 221 (.agg #[.pointer (some ⟨3, 67, none⟩)])]).run Tryz.prog w = .ok (.bool true) w := by kernel_rfl
theorem qr_typeOf (v : Value) (w : World) : (ReflectliteType.typeOf #[.iface 140 v]).run Tryz.prog w = .ok (.iface 221 (.agg #[.pointer (some ⟨3, 140, none⟩)])) w := by kernel_rfl
theorem qr_assignable (w : World) : (ReflectliteType.relation "AssignableTo" ReflectliteType.assignableTo #[.agg #[.pointer (some ⟨3, 140, none⟩)], .iface 221 (.agg #[.pointer (some ⟨3, 140, none⟩)])]).run Tryz.prog w = .ok (.bool true) w := by kernel_rfl
theorem qr_elemOf (w : World) : (Rtype.elem? 146).run Tryz.prog w = .ok (some 140) w := by kernel_rfl
theorem qr_mk (p : Addr) (w : World) : (ReflectliteValue.mk 140 p ReflectliteValue.flagAddr).run Tryz.prog w = .ok (.agg #[.pointer (some ⟨3, 140, none⟩), .pointer (some p), .int .u64 409]) w := by kernel_rfl
theorem qr_elemV (a p : Addr) (W : World) (ha : W.cell? a = some (.pointer (some p))) :
    (ReflectliteValue.method (ReflectliteValue.valueError "reflectlite.Value.Elem" 0) ReflectliteValue.elem #[.agg #[.pointer (some ⟨3, 146, none⟩), .pointer (some a), .int .u64 150]]).run Tryz.prog W
      = .ok (.agg #[.pointer (some ⟨3, 140, none⟩), .pointer (some p), .int .u64 409]) W := by
  refine Eq.trans (Sem.run_bind (x := ReflectliteValue.parts (.agg #[.pointer (some ⟨3, 146, none⟩), .pointer (some a), .int .u64 150])) ..) ?_
  simp only [qr_partsP, Result.andThen]
  simp [ReflectliteValue.elem, loadVar, isAgg, underlying, Tryz.underlying146, ha, Result.andThen, qr_elemOf, qr_mk]
theorem qr_partsA (a : Addr) (w : World) : (ReflectliteValue.parts (.agg #[.pointer (some ⟨3, 140, none⟩), .pointer (some a), .int .u64 409])).run Tryz.prog w = .ok (some (140, a, 409)) w := by kernel_rfl
theorem qr_parts (a : Addr) (w : World) : (ReflectliteValue.parts (.agg #[.pointer (some ⟨3, 140, none⟩), .pointer (some a), .int .u64 153])).run Tryz.prog w = .ok (some (140, a, 153)) w := by kernel_rfl
theorem qr_direct (w : World) : (Rtype.directlyAssignable 140 140).run Tryz.prog w = .ok true w := by kernel_rfl
theorem qe_valueOfP (t : Addr) (w : World) : (ReflectliteValue.unpack (.iface 147 (.pointer (some t)))).run Tryz.prog w
    = .ok (.agg #[.pointer (some ⟨3, 147, none⟩), .pointer (some ⟨w.heap.size, 0, none⟩), .int .u64 150]) (w.alloc (.cells #[.pointer (some t)] 147)) := by kernel_rfl
theorem qe_typeP (a : Addr) (w : World) : (ReflectliteValue.methodAny (ReflectliteValue.valueError "reflectlite.Value.Type" 0) (fun t _ _ _ => ReflectliteType.toType t) #[.agg #[.pointer (some ⟨3, 147, none⟩), .pointer (some a), .int .u64 150]]).run Tryz.prog w
    = .ok (.iface 221 (.agg #[.pointer (some ⟨3, 147, none⟩)])) w := by kernel_rfl
theorem qe_kindP (w : World) : ((ReflectliteType.abiMethod fun t => (fun a : Nat => Value.int IntKind.u8 (a : Int)) <$> Rtype.kind t) #[.pointer (some ⟨3, 147, none⟩)]).run Tryz.prog w = .ok (.int .u8 22) w := by kernel_rfl
theorem qe_kind (w : World) : ((ReflectliteType.abiMethod fun t => (fun a : Nat => Value.int IntKind.u8 (a : Int)) <$> Rtype.kind t) #[.pointer (some ⟨3, 27, none⟩)]).run Tryz.prog w = .ok (.int .u8 2) w := by kernel_rfl
theorem qe_partsP (a : Addr) (w : World) : (ReflectliteValue.parts (.agg #[.pointer (some ⟨3, 147, none⟩), .pointer (some a), .int .u64 150])).run Tryz.prog w = .ok (some (147, a, 150)) w := by kernel_rfl
theorem qe_isNil (a p : Addr) (W : World) (ha : W.cell? a = some (.pointer (some p))) :
    (ReflectliteValue.method (ReflectliteValue.valueError "reflectlite.Value.IsNil" 0) ReflectliteValue.isNil #[.agg #[.pointer (some ⟨3, 147, none⟩), .pointer (some a), .int .u64 150]]).run Tryz.prog W = .ok (.bool false) W := by
  refine Eq.trans (Sem.run_bind (x := ReflectliteValue.parts (.agg #[.pointer (some ⟨3, 147, none⟩), .pointer (some a), .int .u64 150])) ..) ?_
  simp only [qe_partsP, Result.andThen]
  simp [ReflectliteValue.isNil, loadVar, isAgg, underlying, Tryz.underlying147, ha, Result.andThen]
theorem qe_elem (w : World) : (ReflectliteType.method ReflectliteType.elem #[.agg #[.pointer (some ⟨3, 147, none⟩)]]).run Tryz.prog w = .ok (.iface 221 (.agg #[.pointer (some ⟨3, 27, none⟩)])) w := by kernel_rfl
theorem qe_implements (w : World) : (ReflectliteType.relation "Implements" ReflectliteType.implements_ #[.agg #[.pointer (some ⟨3, 27, none⟩)], .iface 221 (.agg #[.pointer (some ⟨3, 67, none⟩)])]).run Tryz.prog w = .ok (.bool true) w := by kernel_rfl
theorem qe_typeOf (v : Value) (w : World) : (ReflectliteType.typeOf #[.iface 27 v]).run Tryz.prog w = .ok (.iface 221 (.agg #[.pointer (some ⟨3, 27, none⟩)])) w := by kernel_rfl
theorem qe_assignable (w : World) : (ReflectliteType.relation "AssignableTo" ReflectliteType.assignableTo #[.agg #[.pointer (some ⟨3, 27, none⟩)], .iface 221 (.agg #[.pointer (some ⟨3, 27, none⟩)])]).run Tryz.prog w = .ok (.bool true) w := by kernel_rfl
theorem qe_elemOf (w : World) : (Rtype.elem? 147).run Tryz.prog w = .ok (some 27) w := by kernel_rfl
theorem qe_mk (p : Addr) (w : World) : (ReflectliteValue.mk 27 p ReflectliteValue.flagAddr).run Tryz.prog w = .ok (.agg #[.pointer (some ⟨3, 27, none⟩), .pointer (some p), .int .u64 386]) w := by kernel_rfl
theorem qe_elemV (a p : Addr) (W : World) (ha : W.cell? a = some (.pointer (some p))) :
    (ReflectliteValue.method (ReflectliteValue.valueError "reflectlite.Value.Elem" 0) ReflectliteValue.elem #[.agg #[.pointer (some ⟨3, 147, none⟩), .pointer (some a), .int .u64 150]]).run Tryz.prog W
      = .ok (.agg #[.pointer (some ⟨3, 27, none⟩), .pointer (some p), .int .u64 386]) W := by
  refine Eq.trans (Sem.run_bind (x := ReflectliteValue.parts (.agg #[.pointer (some ⟨3, 147, none⟩), .pointer (some a), .int .u64 150])) ..) ?_
  simp only [qe_partsP, Result.andThen]
  simp [ReflectliteValue.elem, loadVar, isAgg, underlying, Tryz.underlying147, ha, Result.andThen, qe_elemOf, qe_mk]
theorem qe_partsA (a : Addr) (w : World) : (ReflectliteValue.parts (.agg #[.pointer (some ⟨3, 27, none⟩), .pointer (some a), .int .u64 386])).run Tryz.prog w = .ok (some (27, a, 386)) w := by kernel_rfl
theorem qe_parts (a : Addr) (w : World) : (ReflectliteValue.parts (.agg #[.pointer (some ⟨3, 27, none⟩), .pointer (some a), .int .u64 130])).run Tryz.prog w = .ok (some (27, a, 130)) w := by kernel_rfl
theorem qe_direct (w : World) : (Rtype.directlyAssignable 27 27).run Tryz.prog w = .ok true w := by kernel_rfl
theorem qr_valueOf (x y : Value) (w : World) : (ReflectliteValue.unpack (.iface 140 (.agg #[x, y]))).run Tryz.prog w
    = .ok (.agg #[.pointer (some ⟨3, 140, none⟩), .pointer (some ⟨w.heap.size, 0, none⟩), .int .u64 153]) (w.alloc (.cells #[x, y] 140)) := by kernel_rfl
theorem qe_valueOf (n : Int) (w : World) : (ReflectliteValue.unpack (.iface 27 (.int .i64 n))).run Tryz.prog w
    = .ok (.agg #[.pointer (some ⟨3, 27, none⟩), .pointer (some ⟨w.heap.size, 0, none⟩), .int .u64 130]) (w.alloc (.cells #[.int .i64 n] 27)) := by kernel_rfl
theorem qre_assignable (w : World) : (ReflectliteType.relation "AssignableTo" ReflectliteType.assignableTo #[.agg #[.pointer (some ⟨3, 140, none⟩)], .iface 221 (.agg #[.pointer (some ⟨3, 27, none⟩)])]).run Tryz.prog w = .ok (.bool false) w := by kernel_rfl
theorem qr_set (tb b : Nat) (i n : Int) (old : Array Value) (W : World) (hb : W.heap[b]? = some (.cells #[.int .i64 i, .iface 27 (.int .i64 n)] 140 (0, 0))) (ht : W.heap[tb]? = some (.cells old 140 (0, 0))) (ho : old.size = 2) :
    (ReflectliteValue.set #[.agg #[.pointer (some ⟨3, 140, none⟩), .pointer (some ⟨tb, 0, none⟩), .int .u64 409], .agg #[.pointer (some ⟨3, 140, none⟩), .pointer (some ⟨b, 0, none⟩), .int .u64 153]]).run Tryz.prog W
      = .ok (.tuple #[]) (W.setRow tb #[.int .i64 i, .iface 27 (.int .i64 n)]) := by
  have h1 := run_loadVar_row (P := Tryz.prog) W b 140 140 _ _ _ hb Tryz.underlying140 rfl (by kernel_rfl)
  have h2 := run_storeVar_row (P := Tryz.prog) W tb 140 140 old #[.int .i64 i, .iface 27 (.int .i64 n)] ht (by kernel_rfl) (by rw [ho]; rfl) (by rw [Array.all_eq_true_iff_forall_mem]; intro v hv; simp at hv; rcases hv with rfl | rfl <;> rfl)
  refine Eq.trans (Sem.run_bind (x := ReflectliteValue.parts (.agg #[.pointer (some ⟨3, 140, none⟩), .pointer (some ⟨tb, 0, none⟩), .int .u64 409])) ..) ?_
  simp only [Sem.run_bind, qr_partsA, getlit1, qr_parts, Result.andThen]
  simp [ReflectliteValue.flagAddr, h1, h2, Result.andThen, qr_direct]
theorem qe_set (ta b : Addr) (n : Int) (old : Value) (W : World) (hb : W.cell? b = some (.int .i64 n)) (ht : W.cell? ta = some old) (hf : W.frozen? ta = false) :
    (ReflectliteValue.set #[.agg #[.pointer (some ⟨3, 27, none⟩), .pointer (some ta), .int .u64 386], .agg #[.pointer (some ⟨3, 27, none⟩), .pointer (some b), .int .u64 130]]).run Tryz.prog W
      = .ok (.tuple #[]) (W.setCell ta (.int .i64 n)) := by
  refine Eq.trans (Sem.run_bind (x := ReflectliteValue.parts (.agg #[.pointer (some ⟨3, 27, none⟩), .pointer (some ta), .int .u64 386])) ..) ?_
  simp only [Sem.run_bind, qe_partsA, getlit1, qe_parts, Result.andThen]
  simp [ReflectliteValue.flagAddr, loadVar, isAgg, underlying, Tryz.underlying27, hb, Result.andThen, qe_direct, storeVar, Value.cells, storeCells, Addr.add]
  rw [run_store Tryz.prog W ta _ _ (by rfl)]
  simp [ht, hf]
theorem q_noAs (v : Value) (xT : TypeId) (w : World) : (Instr.typeAssert (.iface 140 v) xT 226 true).run Tryz.prog w = .ok (.tuple #[.nilIface, .bool false]) w := run_typeAssert_lacksB Tryz.underlying226 (by kernel_rfl) (by kernel_rfl) v xT w
theorem q_unwrap (v : Value) (xT : TypeId) (w : World) : (Instr.typeAssert (.iface 140 v) xT 229 true).run Tryz.prog w = .ok (.tuple #[.iface 140 v, .bool true]) w := run_typeAssert_hasB Tryz.underlying229 (by kernel_rfl) v xT w
theorem q_methodUnwrap (x y : Value) (w : World) : (Go.method 370 140 (.agg #[x, y]) "Unwrap").run Tryz.prog w = .ok (209, .agg #[x, y]) w := by kernel_rfl
end Go.Proofs.YtofkiaeocfpkeaaGreatDoor

/- As3: errors.As at a refusal of expr's, both targets of told, and told: what they return and leave. -/
namespace Go.Proofs.YtofkiaeocfpkeaaGreatDoor
open Go.RowKit Go.Extern.Stop Go.Stop Go.Extern

/-- The package variable that errors.As reads. -/
def ETy (w : World) : Prop := w.cell? ⟨1, 0, none⟩ = some (.iface 221 (.agg #[.pointer (some ⟨3, 67, none⟩)]))
theorem ETy.lt {w : World} (h : ETy w) : 1 < w.heap.size := by
  rcases Nat.lt_or_ge 1 w.heap.size with h1 | h0
  · exact h1
  · unfold ETy at h
    simp [World.cell?, Array.getElem?_eq_none h0] at h
theorem new_block (w : World) (o : Obj) : (w.alloc o).heap[w.heap.size]? = some o := Array.getElem?_push_size ..
def valC (pt a : Nat) : Array Value := #[.pointer (some ⟨3, pt, none⟩), .pointer (some ⟨a, 0, none⟩), .int .u64 150]

set_option maxHeartbeats 4000000 in
set_option maxRecDepth 100000 in
theorem as_where (i n : Int) (tb : Nat) (old : Array Value) (w : World) (hg : ETy w) (ht : w.heap[tb]? = some (.cells old 140 (0, 0))) (ho : old.size = 2) :
    Calls Tryz.prog 86 #[.iface 140 (.agg #[.int .i64 i, .iface 27 (.int .i64 n)]), .iface 146 (.pointer (some ⟨tb, 0, none⟩))] w fun ev w' => ev = .returned (.bool true) ∧
      w' = ((((w.alloc (.cells #[.pointer (some ⟨tb, 0, none⟩)] 146)).alloc (.cells (valC 146 w.heap.size) 189)).alloc (.cells (valC 146 w.heap.size) 189)).alloc (.cells #[.int .i64 i, .iface 27 (.int .i64 n)] 140)).setRow tb #[.int .i64 i, .iface 27 (.int .i64 n)] := by
  have hlt := hg.lt
  have htl : tb < w.heap.size := (Array.getElem?_eq_some_iff.1 ht).1
  unfold ETy at hg
  unfold valC
  have h6 := @run_callFunc_extern Tryz.prog 126 _ (fun args => ReflectliteValue.unpack (args.getD 0 (.tuple #[]))) Tryz.func126 (by kernel_rfl) (by kernel_rfl) (by kernel_rfl) (by kernel_rfl)
  have h7 := @run_callFunc_extern Tryz.prog 127 _ (ReflectliteValue.methodAny (ReflectliteValue.valueError "reflectlite.Value.Type" 0) (fun t _ _ _ => ReflectliteType.toType t)) Tryz.func127 (by kernel_rfl) (by kernel_rfl) (by kernel_rfl) (by kernel_rfl)
  have h8 := @run_callFunc_extern Tryz.prog 128 _ (ReflectliteValue.method (ReflectliteValue.valueError "reflectlite.Value.IsNil" 0) ReflectliteValue.isNil) Tryz.func128 (by kernel_rfl) (by kernel_rfl) (by kernel_rfl) (by kernel_rfl)
  have h27 := @run_callFunc_extern Tryz.prog 203 _ (ReflectliteType.abiMethod fun t => do pure (.int .u8 (← Rtype.kind t))) Tryz.func203 (by kernel_rfl) (by kernel_rfl) (by kernel_rfl) (by kernel_rfl)
  have h37 := @run_callFunc_extern Tryz.prog 216 _ (ReflectliteType.method ReflectliteType.elem) Tryz.func216 (by kernel_rfl) (by kernel_rfl) (by kernel_rfl) (by kernel_rfl)
  have h38 := @run_callFunc_extern Tryz.prog 217 _ (ReflectliteType.relation "Implements" ReflectliteType.implements_) Tryz.func217 (by kernel_rfl) (by kernel_rfl) (by kernel_rfl) (by kernel_rfl)
  have h10 := @run_callFunc_extern Tryz.prog 161 _ ReflectliteType.typeOf Tryz.func161 (by kernel_rfl) (by kernel_rfl) (by kernel_rfl) (by kernel_rfl)
  have h35 := @run_callFunc_extern Tryz.prog 214 _ (ReflectliteType.relation "AssignableTo" ReflectliteType.assignableTo) Tryz.func214 (by kernel_rfl) (by kernel_rfl) (by kernel_rfl) (by kernel_rfl)
  have h11 := @run_callFunc_extern Tryz.prog 162 _ (ReflectliteValue.method (ReflectliteValue.valueError "reflectlite.Value.Elem" 0) ReflectliteValue.elem) Tryz.func162 (by kernel_rfl) (by kernel_rfl) (by kernel_rfl) (by kernel_rfl)
  have h12 := @run_callFunc_extern Tryz.prog 163 _ ReflectliteValue.set Tryz.func163 (by kernel_rfl) (by kernel_rfl) (by kernel_rfl) (by kernel_rfl)
  have tO := qr_typeOf
  have mA := q_methodAssignableTo
  have a25 := qr_assignable
  have v25 := qr_valueOf
  have f6 := qr_valueOfP
  have f7 := qr_typeP
  have mK := q_methodKind
  have mE := q_methodElem
  have mI := q_methodImplements
  have k27 := qr_kindP
  have k25 := qr_kind
  have e27 := qr_elem
  have i25 := qr_implements
  have n8 := qr_isNil ⟨w.heap.size, 0, none⟩ ⟨tb, 0, none⟩ ((w.alloc (.cells #[.pointer (some ⟨tb, 0, none⟩)] 146)).alloc (.cells #[.pointer (some ⟨3, 146, none⟩), .pointer (some ⟨w.heap.size, 0, none⟩), .int .u64 150] 189)) (by simp)
  have hg2 : ((w.alloc (.cells #[.pointer (some ⟨tb, 0, none⟩)] 146)).alloc (.cells #[.pointer (some ⟨3, 146, none⟩), .pointer (some ⟨w.heap.size, 0, none⟩), .int .u64 150] 189)).cell? ⟨1, 0, none⟩ = some (.iface 221 (.agg #[.pointer (some ⟨3, 67, none⟩)])) := by
    rw [World.cell?_alloc_lt _ _ ⟨1, 0, none⟩ (by show 1 < _; rw [World.size_alloc]; omega), World.cell?_alloc_lt _ _ ⟨1, 0, none⟩ hlt]; exact hg
  have el := qr_elemV ⟨w.heap.size, 0, none⟩ ⟨tb, 0, none⟩ (((w.alloc (.cells #[.pointer (some ⟨tb, 0, none⟩)] 146)).alloc (.cells #[.pointer (some ⟨3, 146, none⟩), .pointer (some ⟨w.heap.size, 0, none⟩), .int .u64 150] 189)).alloc (.cells #[.pointer (some ⟨3, 146, none⟩), .pointer (some ⟨w.heap.size, 0, none⟩), .int .u64 150] 189)) (by rw [World.cell?_alloc_lt _ _ ⟨w.heap.size, 0, none⟩ (by simp; omega)]; simp)
  have st := qr_set tb (w.heap.size + 1 + 1 + 1) i n old ((((w.alloc (.cells #[.pointer (some ⟨tb, 0, none⟩)] 146)).alloc (.cells #[.pointer (some ⟨3, 146, none⟩), .pointer (some ⟨w.heap.size, 0, none⟩), .int .u64 150] 189)).alloc (.cells #[.pointer (some ⟨3, 146, none⟩), .pointer (some ⟨w.heap.size, 0, none⟩), .int .u64 150] 189)).alloc (.cells #[.int .i64 i, .iface 27 (.int .i64 n)] 140))
    (by
      have := new_block (((w.alloc (.cells #[.pointer (some ⟨tb, 0, none⟩)] 146)).alloc (.cells #[.pointer (some ⟨3, 146, none⟩), .pointer (some ⟨w.heap.size, 0, none⟩), .int .u64 150] 189)).alloc (.cells #[.pointer (some ⟨3, 146, none⟩), .pointer (some ⟨w.heap.size, 0, none⟩), .int .u64 150] 189)) (.cells #[.int .i64 i, .iface 27 (.int .i64 n)] 140)
      simpa using this)
    (by rw [Below.heap_alloc _ _ tb (by simp; omega), Below.heap_alloc _ _ tb (by simp; omega), Below.heap_alloc _ _ tb (by simp; omega), Below.heap_alloc _ _ tb htl]; exact ht) ho
  go_enter Tryz.func86, Tryz.ntmps86
  go_wp2
  refine wp_loop_rounds 1 ?_
  rw [rounds_succ]
  go_wp2
  go_ret
  exact ⟨rfl, rfl⟩
end Go.Proofs.YtofkiaeocfpkeaaGreatDoor

/- As4: errors.As at a refusal of expr's: its number found; and told. -/
namespace Go.Proofs.YtofkiaeocfpkeaaGreatDoor
open Go.RowKit Go.Extern.Stop Go.Stop Go.Extern

set_option maxRecDepth 100000 in
theorem unwrap_calls (i n : Int) (w : World) : Calls Tryz.prog 209 #[.agg #[.int .i64 i, .iface 27 (.int .i64 n)]] w fun e w' => e = .returned (.iface 27 (.int .i64 n)) ∧ w' = w.alloc (.cells #[.int .i64 i, .iface 27 (.int .i64 n)] 140) := by
  go_enter Tryz.func209, Tryz.ntmps209
  go_wp2
  go_ret
  exact ⟨rfl, rfl⟩
set_option maxHeartbeats 4000000 in
set_option maxRecDepth 100000 in
theorem as_number (i n : Int) (tb : Nat) (old : Value) (w : World) (hg : ETy w) (ht : w.heap[tb]? = some (.cells #[old] 27 (0, 0))) :
    Calls Tryz.prog 86 #[.iface 140 (.agg #[.int .i64 i, .iface 27 (.int .i64 n)]), .iface 147 (.pointer (some ⟨tb, 0, none⟩))] w fun ev w' => ev = .returned (.bool true) ∧
      w' = (((((w.alloc (.cells #[.pointer (some ⟨tb, 0, none⟩)] 147)).alloc (.cells (valC 147 w.heap.size) 189)).alloc (.cells (valC 147 w.heap.size) 189)).alloc (.cells #[.int .i64 i, .iface 27 (.int .i64 n)] 140)).alloc (.cells #[.int .i64 n] 27)).setCell ⟨tb, 0, none⟩ (.int .i64 n) := by
  have hlt := hg.lt
  have htl : tb < w.heap.size := (Array.getElem?_eq_some_iff.1 ht).1
  unfold ETy at hg
  unfold valC
  have h6 := @run_callFunc_extern Tryz.prog 126 _ (fun args => ReflectliteValue.unpack (args.getD 0 (.tuple #[]))) Tryz.func126 (by kernel_rfl) (by kernel_rfl) (by kernel_rfl) (by kernel_rfl)
  have h7 := @run_callFunc_extern Tryz.prog 127 _ (ReflectliteValue.methodAny (ReflectliteValue.valueError "reflectlite.Value.Type" 0) (fun t _ _ _ => ReflectliteType.toType t)) Tryz.func127 (by kernel_rfl) (by kernel_rfl) (by kernel_rfl) (by kernel_rfl)
  have h8 := @run_callFunc_extern Tryz.prog 128 _ (ReflectliteValue.method (ReflectliteValue.valueError "reflectlite.Value.IsNil" 0) ReflectliteValue.isNil) Tryz.func128 (by kernel_rfl) (by kernel_rfl) (by kernel_rfl) (by kernel_rfl)
  have h27 := @run_callFunc_extern Tryz.prog 203 _ (ReflectliteType.abiMethod fun t => do pure (.int .u8 (← Rtype.kind t))) Tryz.func203 (by kernel_rfl) (by kernel_rfl) (by kernel_rfl) (by kernel_rfl)
  have h37 := @run_callFunc_extern Tryz.prog 216 _ (ReflectliteType.method ReflectliteType.elem) Tryz.func216 (by kernel_rfl) (by kernel_rfl) (by kernel_rfl) (by kernel_rfl)
  have h38 := @run_callFunc_extern Tryz.prog 217 _ (ReflectliteType.relation "Implements" ReflectliteType.implements_) Tryz.func217 (by kernel_rfl) (by kernel_rfl) (by kernel_rfl) (by kernel_rfl)
  have h10 := @run_callFunc_extern Tryz.prog 161 _ ReflectliteType.typeOf Tryz.func161 (by kernel_rfl) (by kernel_rfl) (by kernel_rfl) (by kernel_rfl)
  have h35 := @run_callFunc_extern Tryz.prog 214 _ (ReflectliteType.relation "AssignableTo" ReflectliteType.assignableTo) Tryz.func214 (by kernel_rfl) (by kernel_rfl) (by kernel_rfl) (by kernel_rfl)
  have h11 := @run_callFunc_extern Tryz.prog 162 _ (ReflectliteValue.method (ReflectliteValue.valueError "reflectlite.Value.Elem" 0) ReflectliteValue.elem) Tryz.func162 (by kernel_rfl) (by kernel_rfl) (by kernel_rfl) (by kernel_rfl)
  have h12 := @run_callFunc_extern Tryz.prog 163 _ ReflectliteValue.set Tryz.func163 (by kernel_rfl) (by kernel_rfl) (by kernel_rfl) (by kernel_rfl)
  have tO := qe_typeOf
  have mA := q_methodAssignableTo
  have a25 := qe_assignable
  have v25 := qe_valueOf
  have f6 := qe_valueOfP
  have f7 := qe_typeP
  have mK := q_methodKind
  have mE := q_methodElem
  have mI := q_methodImplements
  have k27 := qe_kindP
  have k25 := qe_kind
  have e27 := qe_elem
  have i25 := qe_implements
  have n8 := qe_isNil ⟨w.heap.size, 0, none⟩ ⟨tb, 0, none⟩ ((w.alloc (.cells #[.pointer (some ⟨tb, 0, none⟩)] 147)).alloc (.cells #[.pointer (some ⟨3, 147, none⟩), .pointer (some ⟨w.heap.size, 0, none⟩), .int .u64 150] 189)) (by simp)
  have hg2 : ((w.alloc (.cells #[.pointer (some ⟨tb, 0, none⟩)] 147)).alloc (.cells #[.pointer (some ⟨3, 147, none⟩), .pointer (some ⟨w.heap.size, 0, none⟩), .int .u64 150] 189)).cell? ⟨1, 0, none⟩ = some (.iface 221 (.agg #[.pointer (some ⟨3, 67, none⟩)])) := by
    rw [World.cell?_alloc_lt _ _ ⟨1, 0, none⟩ (by show 1 < _; rw [World.size_alloc]; omega), World.cell?_alloc_lt _ _ ⟨1, 0, none⟩ hlt]; exact hg
  have el := qe_elemV ⟨w.heap.size, 0, none⟩ ⟨tb, 0, none⟩ ((((w.alloc (.cells #[.pointer (some ⟨tb, 0, none⟩)] 147)).alloc (.cells #[.pointer (some ⟨3, 147, none⟩), .pointer (some ⟨w.heap.size, 0, none⟩), .int .u64 150] 189)).alloc (.cells #[.pointer (some ⟨3, 147, none⟩), .pointer (some ⟨w.heap.size, 0, none⟩), .int .u64 150] 189)).alloc (.cells #[.int .i64 i, .iface 27 (.int .i64 n)] 140)) (by rw [World.cell?_alloc_lt _ _ ⟨w.heap.size, 0, none⟩ (by simp; omega), World.cell?_alloc_lt _ _ ⟨w.heap.size, 0, none⟩ (by simp; omega)]; simp)
  have hc0 : w.cell? ⟨tb, 0, none⟩ = some old := cell_of_row w tb 0 _ _ _ ht
  have hf0 : w.frozen? ⟨tb, 0, none⟩ = false := by simp [World.frozen?, ht]
  have tR := qr_typeOf
  have aR := qre_assignable
  have nA := q_noAs
  have uW := q_unwrap
  have mU := q_methodUnwrap
  have st := qe_set ⟨tb, 0, none⟩ ⟨w.heap.size + 1 + 1 + 1 + 1, 0, none⟩ n old (((((w.alloc (.cells #[.pointer (some ⟨tb, 0, none⟩)] 147)).alloc (.cells #[.pointer (some ⟨3, 147, none⟩), .pointer (some ⟨w.heap.size, 0, none⟩), .int .u64 150] 189)).alloc (.cells #[.pointer (some ⟨3, 147, none⟩), .pointer (some ⟨w.heap.size, 0, none⟩), .int .u64 150] 189)).alloc (.cells #[.int .i64 i, .iface 27 (.int .i64 n)] 140)).alloc (.cells #[.int .i64 n] 27))
    (by rw [World.cell?_alloc_at _ _ _ _ (by simp)]; rfl)
    (by rw [World.cell?_alloc_lt _ _ ⟨tb, 0, none⟩ (by simp; omega), World.cell?_alloc_lt _ _ ⟨tb, 0, none⟩ (by simp; omega), World.cell?_alloc_lt _ _ ⟨tb, 0, none⟩ (by simp; omega), World.cell?_alloc_lt _ _ ⟨tb, 0, none⟩ (by simp; omega), World.cell?_alloc_lt _ _ ⟨tb, 0, none⟩ htl]; exact hc0)
    (by rw [World.frozen?_alloc_old _ _ ⟨tb, 0, none⟩ (by simp; omega), World.frozen?_alloc_old _ _ ⟨tb, 0, none⟩ (by simp; omega), World.frozen?_alloc_old _ _ ⟨tb, 0, none⟩ (by simp; omega), World.frozen?_alloc_old _ _ ⟨tb, 0, none⟩ (by simp; omega), World.frozen?_alloc_old _ _ ⟨tb, 0, none⟩ (Nat.ne_of_lt htl)]; exact hf0)
  go_enter Tryz.func86, Tryz.ntmps86
  go_wp2
  refine wp_loop_rounds 2 ?_
  rw [rounds_succ]
  go_wp2_with (go_at_call 209; refine (unwrap_calls _ _ _).mono ?_; rintro e w' ⟨rfl, rfl⟩)
  rw [rounds_succ]
  go_wp2
  go_ret
  exact ⟨rfl, rfl⟩
end Go.Proofs.YtofkiaeocfpkeaaGreatDoor

/- Told: expr.told at a refusal: the place and the number; nothing that lay before is turned. -/
namespace Go.Proofs.YtofkiaeocfpkeaaGreatDoor
open Go.RowKit

theorem ETy.below {w w' : World} (h : ETy w) (hB : Below w.heap.size w w') : ETy w' := (hB.cell (p := ⟨1, 0, none⟩) h.lt).trans h
set_option maxHeartbeats 4000000 in
set_option maxRecDepth 100000 in
theorem told_calls (i : Nat) (n : Int) (w : World) (hg : ETy w) :
    Calls Tryz.prog 35 #[refV i n] w fun e w' => e = .returned (.tuple #[.int .i64 (i : Int), .int .i64 n]) ∧ Below w.heap.size w w' := by
  obtain ⟨w0, hw0⟩ : ∃ w0, w0 = (w.alloc (.cells #[.int .i64 0, .nilIface] 140)).alloc (.cells #[.int .i64 0] 27) := ⟨_, rfl⟩
  have hB0 : Below w.heap.size w w0 := by rw [hw0]; exact ((Below.refl _ w).alloc (Nat.le_refl _) _).alloc (by simp) _
  have hs0 : w0.heap.size = w.heap.size + 1 + 1 := by rw [hw0]; simp
  have hb1 : w0.heap[w.heap.size]? = some (.cells #[.int .i64 0, .nilIface] 140 (0, 0)) := by rw [hw0, Below.heap_alloc _ _ _ (by simp)]; exact new_block w _
  have hb2 : w0.heap[w.heap.size + 1]? = some (.cells #[.int .i64 0] 27 (0, 0)) := by
    rw [hw0]
    have := new_block (w.alloc (.cells #[.int .i64 0, .nilIface] 140)) (.cells #[.int .i64 0] 27)
    simpa using this
  have H1 := as_where (i : Int) n w.heap.size _ w0 (hg.below hB0) hb1 rfl
  obtain ⟨w1, hw1⟩ : ∃ w1, w1 = ((((w0.alloc (.cells #[.pointer (some ⟨w.heap.size, 0, none⟩)] 146)).alloc (.cells (valC 146 w0.heap.size) 189)).alloc (.cells (valC 146 w0.heap.size) 189)).alloc (.cells #[.int .i64 (i : Int), .iface 27 (.int .i64 n)] 140)).setRow w.heap.size #[.int .i64 (i : Int), .iface 27 (.int .i64 n)] := ⟨_, rfl⟩
  rw [← hw1] at H1
  have hA1 : Below w0.heap.size w0 ((((w0.alloc (.cells #[.pointer (some ⟨w.heap.size, 0, none⟩)] 146)).alloc (.cells (valC 146 w0.heap.size) 189)).alloc (.cells (valC 146 w0.heap.size) 189)).alloc (.cells #[.int .i64 (i : Int), .iface 27 (.int .i64 n)] 140)) :=
    ((((Below.refl _ w0).alloc (Nat.le_refl _) _).alloc (by simp) _).alloc (by simp; omega) _).alloc (by simp; omega) _
  have hB1 : Below w.heap.size w w1 := by rw [hw1]; exact below_setRow (hB0.trans (hA1.mono (by omega))) (Nat.le_refl _) _
  have hr1 : w1.heap[w.heap.size]? = some (.cells #[.int .i64 (i : Int), .iface 27 (.int .i64 n)] 140 (0, 0)) := by
    rw [hw1]
    exact setRow_heap _ _ _ _ _ _ ((hA1.block _ (by omega)).trans hb1)
  have hr2 : w1.heap[w.heap.size + 1]? = some (.cells #[.int .i64 0] 27 (0, 0)) := by
    rw [hw1, setRow_other _ _ _ _ (by omega)]
    exact (hA1.block _ (by omega)).trans hb2
  have hs1 : w.heap.size + 2 ≤ w1.heap.size := by rw [hw1]; simp; omega
  have H2 := as_number (i : Int) n (w.heap.size + 1) _ w1 (hg.below hB1) hr2
  obtain ⟨w2, hw2⟩ : ∃ w2, w2 = (((((w1.alloc (.cells #[.pointer (some ⟨w.heap.size + 1, 0, none⟩)] 147)).alloc (.cells (valC 147 w1.heap.size) 189)).alloc (.cells (valC 147 w1.heap.size) 189)).alloc (.cells #[.int .i64 (i : Int), .iface 27 (.int .i64 n)] 140)).alloc (.cells #[.int .i64 n] 27)).setCell ⟨w.heap.size + 1, 0, none⟩ (.int .i64 n) := ⟨_, rfl⟩
  rw [← hw2] at H2
  have hA2 : Below w1.heap.size w1 (((((w1.alloc (.cells #[.pointer (some ⟨w.heap.size + 1, 0, none⟩)] 147)).alloc (.cells (valC 147 w1.heap.size) 189)).alloc (.cells (valC 147 w1.heap.size) 189)).alloc (.cells #[.int .i64 (i : Int), .iface 27 (.int .i64 n)] 140)).alloc (.cells #[.int .i64 n] 27)) :=
    (((((Below.refl _ w1).alloc (Nat.le_refl _) _).alloc (by simp) _).alloc (by simp; omega) _).alloc (by simp; omega) _).alloc (by simp; omega) _
  have hB2 : Below w.heap.size w w2 := by
    rw [hw2]
    exact (hB1.trans (hA2.mono (by omega))).setCell (by simp) _
  have c1 : w2.cell? ⟨w.heap.size, 0, none⟩ = some (.int .i64 (i : Int)) := by
    have h : w2.heap[w.heap.size]? = w1.heap[w.heap.size]? := by
      rw [hw2, Below.heap_setCell _ _ _ _ (by simp)]
      exact hA2.block _ (by omega)
    exact cell_of_row w2 _ 0 _ _ _ (h.trans hr1)
  have c2 : w2.cell? ⟨w.heap.size + 1, 0, none⟩ = some (.int .i64 n) := by
    have h := heap_setCell_same (((((w1.alloc (.cells #[.pointer (some ⟨w.heap.size + 1, 0, none⟩)] 147)).alloc (.cells (valC 147 w1.heap.size) 189)).alloc (.cells (valC 147 w1.heap.size) 189)).alloc (.cells #[.int .i64 (i : Int), .iface 27 (.int .i64 n)] 140)).alloc (.cells #[.int .i64 n] 27)) (w.heap.size + 1) 0 _ _ (.int .i64 n) ((hA2.block _ (by omega)).trans hr2)
    rw [← hw2] at h
    exact cell_of_row w2 _ 0 _ _ _ h
  clear hw2 hA2 hr2 hA1 hb2 hb1 hB0
  have HB : Hid (Below w.heap.size w w2) := hB2
  have h1 : Hid (Calls Tryz.prog 86 #[refV i n, .iface 146 (.pointer (some ⟨w.heap.size, 0, none⟩))] w0 fun ev w' => ev = .returned (.bool true) ∧ w' = w1) := H1
  have h2 : Hid (Calls Tryz.prog 86 #[refV i n, .iface 147 (.pointer (some ⟨w.heap.size + 1, 0, none⟩))] w1 fun ev w' => ev = .returned (.bool true) ∧ w' = w2) := H2
  clear H1 H2 hB2 hB1 hr1 hw1 hg hs1
  obtain ⟨V, hV⟩ : ∃ V, refV i n = V := ⟨_, rfl⟩
  rw [hV] at h1 h2 ⊢
  clear hV
  go_enter Tryz.func35, Tryz.ntmps35
  go_wp2_with fail
  rw [← hw0]
  refine h1.out.mono ?_
  rintro e W ⟨rfl, hW⟩
  subst hW
  go_wp2_with fail
  refine h2.out.mono ?_
  rintro e W ⟨rfl, hW⟩
  subst hW
  go_wp2_with fail
  go_quiet (fail)
  go_wp2
  go_ret2
  exact ⟨rfl, ⟨HB.out.os, HB.out.tape, HB.out.output, HB.out.size, HB.out.block⟩⟩
end Go.Proofs.YtofkiaeocfpkeaaGreatDoor

/- Parse: expr.Parse at every text: the tree, the place, the error; nothing that lay before is turned. -/
namespace Go.Proofs.YtofkiaeocfpkeaaGreatDoor
open Go.RowKit

def emptyT : DataW Unit := node 0 ⟨#[]⟩ []
/-- What Parse answers, as plain data. -/
def outT (s : ByteArray) : Option (DataW Unit) :=
  if 200 < s.size then none
  else match readT (bts s) with
    | none => none
    | some t => if checkE 200 t = 0 then some t else none
def outE (s : ByteArray) : Int :=
  if 200 < s.size then 2
  else match readT (bts s) with
    | none => 4
    | some t => if checkE 200 t = 0 then 0 else 4
def outN (s : ByteArray) : Nat :=
  if 200 < s.size then 0
  else match readT (bts s) with
    | none => s.size - (altN (s.size + 1) (bts s)).2.length
    | some t => if checkE 200 t = 0 then s.size else 0
theorem out_long {s : ByteArray} (h : 200 < s.size) : outT s = none ∧ outE s = 2 ∧ outN s = 0 := by
  unfold outT outE outN
  rw [if_pos h, if_pos h, if_pos h]
  exact ⟨rfl, rfl, rfl⟩
theorem out_none {s : ByteArray} (h : ¬ 200 < s.size) (hr : readT (bts s) = none) : outT s = none ∧ outE s = 4 ∧ outN s = s.size - (altN (s.size + 1) (bts s)).2.length := by
  unfold outT outE outN
  rw [if_neg h, if_neg h, if_neg h, hr]
  exact ⟨rfl, rfl, rfl⟩
theorem out_bad {s : ByteArray} {t : DataW Unit} (h : ¬ 200 < s.size) (hr : readT (bts s) = some t) (hc : ¬ checkE 200 t = 0) : outT s = none ∧ outE s = 4 ∧ outN s = 0 := by
  unfold outT outE outN
  rw [if_neg h, if_neg h, if_neg h, hr]
  simp only [if_neg hc]
  exact ⟨trivial, trivial, trivial⟩
theorem out_some {s : ByteArray} {t : DataW Unit} (h : ¬ 200 < s.size) (hr : readT (bts s) = some t) (hc : checkE 200 t = 0) : outT s = some t ∧ outE s = 0 ∧ outN s = s.size := by
  unfold outT outE outN
  rw [if_neg h, if_neg h, if_neg h, hr]
  simp only [if_pos hc]
  exact ⟨trivial, trivial, trivial⟩
theorem emptyT_ex (w : World) (n : Nat) : Ex w (n + 1) emptyT zE := ⟨0, ⟨#[]⟩, none, 0, 0, [], rfl, rfl, rfl, by omega, .inl rfl⟩
theorem emptyT_right (n : Nat) : rightE (n + 1) emptyT = true := by
  unfold emptyT
  rw [rightE, subs_node, kindT_node, nameT_node]
  simp [shapely, ByteArray.toList_eq]
theorem emptyT_check : checkE 200 emptyT = 0 := by
  have h1 : cnt 200 emptyT = 1 := rfl
  have h2 : dp 200 emptyT = 1 := rfl
  unfold checkE
  rw [h1, h2, if_neg (by decide), if_pos (emptyT_right 199)]
theorem emptyT_named : named 200 emptyT := NamA.node (by decide) (fun x hx => by cases hx) 200
theorem Below.of_kept {lo g : Nat} {w W W' : World} (h : Below lo w W) (hK : Kept g W W') (hg : lo ≤ g) (hl : lo ≤ W.heap.size) : Below lo w W' :=
  ⟨hK.os.trans h.os, hK.tape.trans h.tape, hK.output.trans h.output, Nat.le_trans h.size hK.size, fun k hk => (hK.block k (by omega) (by omega)).trans (h.block k hk)⟩
theorem left_inj {s : ByteArray} {j : Nat} (hj : j ≤ s.size) {l : List UInt8} (h : l = left s j) : s.size - l.length = j := by
  rw [h, left_length]
  omega
theorem ExA.down {A : Nat → Prop} {w : World} : ∀ (n : Nat) (t : DataW Unit) (v : Value) (m : Nat), ExA A w n t v → dp n t ≤ m → ExA A w m t v := by
  intro n
  induction n with
  | zero => intro t v m h; exact h.elim
  | succ n ih =>
    rintro t v m ⟨k, s, a, len, cap, ts, rfl, rfl, h3, h4, h5⟩ hd
    rw [dp, subs_node] at hd
    have hg := greatest_nonneg (dp n) ts
    cases m with
    | zero => omega
    | succ m =>
      refine ⟨k, s, a, len, cap, ts, rfl, rfl, h3, h4, ?_⟩
      rcases h5 with h5 | ⟨b, o, h5, h6, h7, hc⟩
      · exact .inl h5
      · refine .inr ⟨b, o, h5, h6, h7, fun i x hx => ?_⟩
        obtain ⟨k', s', a', len', cap', c0, c1, c2, c3⟩ := hc i x hx
        have := le_greatest (f := dp n) ts x (List.mem_of_getElem? hx)
        exact ⟨k', s', a', len', cap', c0, c1, c2, ih _ _ m c3 (by omega)⟩
theorem Whl.cases {g : Nat} {s : ByteArray} {lo : Nat} {e : Ending} {w' : World} (h : Whl g s lo e w') (hs : ¬ 200 < s.size) :
    (∃ k nm a ln cp t, readT (bts s) = some t ∧ ExA (fun b => lo ≤ b) w' 200 t (.agg #[.int .i64 k, .string nm, .slice a ln cp]) ∧ named 200 t ∧ e = .returned (.tuple #[.agg #[.int .i64 k, .string nm, .slice a ln cp], .nilIface])) ∨
    (∃ k nm a ln cp j, readT (bts s) = none ∧ (altN (s.size + 1) (bts s)).2 = left s j ∧ j ≤ s.size ∧ e = .returned (.tuple #[.agg #[.int .i64 k, .string nm, .slice a ln cp], refV j 4])) := by
  rcases h with ⟨h1, rfl⟩ | ⟨r, t, m, h1, h2, h3, h4, rfl⟩ | ⟨r, j, h1, h2, h3, h4, rfl⟩
  · exact .inl ⟨0, ⟨#[]⟩, none, 0, 0, emptyT, by unfold readT; rw [if_pos h1]; rfl, ExA.leaf _ w' 199 0 ⟨#[]⟩ none 0, emptyT_named, rfl⟩
  · obtain ⟨k, nm, a, ln, cp⟩ := r
    have hl := bts_length s
    have hb := altN_bound (s.size + 1) (bts s) t [] h2 m
    rw [hl] at hb
    exact .inl ⟨k, nm, a, ln, cp, t, read_of h1 (n := s.size + 1) (by omega) h2, (ExA.down m t _ 200 h3 (by simp at hb; omega)).mono fun b _ h => h.1, (altN_named _ _ _ _ h2 (by omega)).1 200, rfl⟩
  · obtain ⟨k, nm, a, ln, cp⟩ := r
    exact .inr ⟨k, nm, a, ln, cp, j, h3, h2, h4, rfl⟩
/-- What read answers. -/
def Rdd (lo : Nat) (s : ByteArray) (e : Ending) (w' : World) : Prop :=
  (∃ t r, outT s = some t ∧ outE s = 0 ∧ outN s = s.size ∧ ExA (fun b => lo ≤ b) w' 200 t (rawV r) ∧ e = .returned (.tuple #[rawV r, .nilIface])) ∨
  (outT s = none ∧ outE s ≠ 0 ∧ e = .returned (.tuple #[zE, refV (outN s) (outE s)]))
set_option maxRecDepth 100000 in
set_option maxHeartbeats 4000000 in
theorem read_calls (s : ByteArray) (hs : s.size ≤ 9223372036854775807) (w : World) :
    Calls Tryz.prog 34 #[.string s] w fun e w' => Below w.heap.size w w' ∧ Rdd w.heap.size s e w' := by
  by_cases hbig : 200 < s.size
  · obtain ⟨o1, o2, o3⟩ := out_long hbig
    have HO : Hid (outT s = none ∧ outE s = 2 ∧ outN s = 0) := ⟨o1, o2, o3⟩
    have HB : Hid (∀ cs, Below w.heap.size w ((w.alloc (.cells #[.int .i64 0, .string ⟨#[]⟩, .slice none 0 0] 26)).setRow w.heap.size cs)) := fun cs => below_setRow ((Below.refl _ w).alloc (Nat.le_refl _) _) (Nat.le_refl _) cs
    have hb : (200 : Int) < (s.size : Int) := by omega
    clear o1 o2 o3
    go_enter Tryz.func34, Tryz.ntmps34
    go_wp2_with (refine wpList_store_row rfl 26 _ _ rfl w.heap.size #[.int .i64 0, .string ⟨#[]⟩, .slice none 0 0] rfl rfl 26 _ (heap_alloc_new w _) sizeExpr rfl (ones3 _ _ _ _ _) ?_)
    refine bodyPost_ret (results_row_tmp rfl _ _ w.heap.size 26 #[.int .i64 0, .string ⟨#[]⟩, .slice none 0 0] (0, 0) _ rfl (setRow_heap _ _ _ _ _ _ (heap_alloc_new w _)) Tryz.underlying26 rfl sizeExpr) rfl ?_
    refine ⟨HB.out _, .inr ⟨HO.out.1, by rw [HO.out.2.1]; decide, ?_⟩⟩
    rw [HO.out.2.1, HO.out.2.2]
    rfl
  · have hb : ¬ (200 : Int) < (s.size : Int) := by omega
    obtain ⟨w1, hw1⟩ : ∃ w1, w1 = (w.alloc (.cells #[.int .i64 0, .string ⟨#[]⟩, .slice none 0 0] 26)).alloc (.cells #[.string s, .int .i64 0] 142) := ⟨_, rfl⟩
    have hB1 : Below w.heap.size w w1 := by rw [hw1]; exact ((Below.refl _ w).alloc (Nat.le_refl _) _).alloc (by simp) _
    have hs1 : w1.heap.size = w.heap.size + 1 + 1 := by rw [hw1]; simp
    have hR1 : RAt w1 (w.heap.size + 1) s 0 := by
      unfold RAt
      have := heap_alloc_new (w.alloc (.cells #[.int .i64 0, .string ⟨#[]⟩, .slice none 0 0] 26)) (.cells #[.string s, .int .i64 0] 142)
      rw [World.size_alloc] at this
      rw [hw1]
      exact this
    have hz1 : w1.heap[w.heap.size]? = some (.cells #[.int .i64 0, .string ⟨#[]⟩, .slice none 0 0] 26 (0, 0)) := by rw [hw1, Below.heap_alloc _ _ _ (by simp)]; exact heap_alloc_new w _
    have HWh := whole_calls (w.heap.size + 1) s (by omega) w1 hR1
    have HH : Hid (Calls Tryz.prog 84 #[.pointer (some ⟨w.heap.size + 1, 0, none⟩)] w1 fun e w' => Kept (w.heap.size + 1) w1 w' ∧ Whl (w.heap.size + 1) s w1.heap.size e w') := HWh
    have HW : Hid (Below w.heap.size w w1 ∧ w1.heap.size = w.heap.size + 1 + 1 ∧ w1.heap[w.heap.size]? = some (.cells #[.int .i64 0, .string ⟨#[]⟩, .slice none 0 0] 26 (0, 0)) ∧ ¬ 200 < s.size) := ⟨hB1, hs1, hz1, hbig⟩
    clear HWh hB1 hs1 hz1 hR1 hbig
    go_enter Tryz.func34, Tryz.ntmps34
    go_wp2_with fail
    rw [← hw1]
    clear hw1
    refine HH.out.mono ?_
    rintro e2 W2 ⟨hK2, hE⟩
    obtain ⟨hB1, hs1, hz1, hbig⟩ := HW.out
    have hs2 := hK2.size
    have hz2 : W2.heap[w.heap.size]? = some (.cells #[.int .i64 0, .string ⟨#[]⟩, .slice none 0 0] 26 (0, 0)) := (hK2.block _ (by omega) (by omega)).trans hz1
    have hB2 : Below w.heap.size w W2 := Below.of_kept hB1 hK2 (by omega) (by omega)
    have hsz2 : w.heap.size < W2.heap.size := by omega
    have hw1s : w.heap.size < w1.heap.size := by omega
    clear HH HW hK2 hz1 hs1 hs2 hB1
    have HZ : Hid (∀ o, (W2.alloc o).heap[w.heap.size]? = some (.cells #[.int .i64 0, .string ⟨#[]⟩, .slice none 0 0] 26 (0, 0))) := fun o => (Below.heap_alloc W2 o _ hsz2).trans hz2
    rcases hE.cases hbig with ⟨k, nm, a, ln, cp, t, hrd, hex, hnm, rfl⟩ | ⟨k, nm, a, ln, cp, j, hrd, hpl, hjs, rfl⟩
    · have HCk : Hid (∀ W, Below W2.heap.size W2 W → Calls Tryz.prog 85 #[.agg #[.int .i64 k, .string nm, .slice a ln cp]] W fun e w' => e = .returned (.int .i64 (checkE 200 t)) ∧ Below W.heap.size W w') := fun W hW => check_calls 200 t _ W (Ex.below hW _ _ _ (ExA.ex _ _ _ hex)) hnm
      have HA : Hid (∀ o, Below W2.heap.size W2 (W2.alloc o)) := fun o => (Below.refl _ W2).alloc (Nat.le_refl _) _
      have HE : Hid (ExA (fun b => w1.heap.size ≤ b) W2 200 t (.agg #[.int .i64 k, .string nm, .slice a ln cp])) := hex
      have HW2 : Hid (Below w.heap.size w W2 ∧ w.heap.size < W2.heap.size ∧ w.heap.size < w1.heap.size) := ⟨hB2, hsz2, hw1s⟩
      have hev : ∀ W, Below (W2.alloc (.cells #[.int .i64 k, .string nm, .slice a ln cp] 26)).heap.size (W2.alloc (.cells #[.int .i64 k, .string nm, .slice a ln cp] 26)) W → W.heap[W2.heap.size]? = some (.cells #[.int .i64 k, .string nm, .slice a ln cp] 26 (0, 0)) := fun W hW => (hW.block _ (by simp)).trans (heap_alloc_new W2 _)
      have HEV : Hid (∀ W, Below (W2.alloc (.cells #[.int .i64 k, .string nm, .slice a ln cp] 26)).heap.size (W2.alloc (.cells #[.int .i64 k, .string nm, .slice a ln cp] 26)) W → W.heap[W2.heap.size]? = some (.cells #[.int .i64 k, .string nm, .slice a ln cp] 26 (0, 0))) := hev
      by_cases hck : checkE 200 t = 0
      · obtain ⟨o1, o2, o3⟩ := out_some hbig hrd hck
        have HO : Hid (outT s = some t ∧ outE s = 0 ∧ outN s = s.size) := ⟨o1, o2, o3⟩
        rw [hck] at HCk
        clear o1 o2 o3 hex hnm hrd hE hz2 hB2 hsz2 hev hck
        go_wp2_with fail
        refine (HCk.out _ (HA.out _)).mono ?_
        rintro e3 W3 ⟨rfl, hB3⟩
        have he3 := HEV.out W3 hB3
        have c0 : W3.cell? ⟨W2.heap.size, 0, none⟩ = some (.int .i64 k) := cell_of_row W3 _ 0 _ _ _ he3
        have c1 : W3.cell? ⟨W2.heap.size, 1, none⟩ = some (.string nm) := cell_of_row W3 _ 1 _ _ _ he3
        have c2 : W3.cell? ⟨W2.heap.size, 2, none⟩ = some (.slice a ln cp) := cell_of_row W3 _ 2 _ _ _ he3
        obtain ⟨hB2, hlt, hw1s⟩ := HW2.out
        have hB23 : Below W2.heap.size W2 W3 := (HA.out _).trans (hB3.mono (by simp))
        have HZ3 : Hid (W3.heap[w.heap.size]? = some (.cells #[.int .i64 0, .string ⟨#[]⟩, .slice none 0 0] 26 (0, 0))) := (hB3.block _ (by simp; omega)).trans (HZ.out _)
        have HF : Hid (∀ cs, Below w.heap.size w (W3.setRow w.heap.size cs)) := fun cs => below_setRow (hB2.trans (hB23.mono (by omega))) (Nat.le_refl _) cs
        have HX : Hid (∀ cs, ExA (fun b => w.heap.size ≤ b) (W3.setRow w.heap.size cs) 200 t (.agg #[.int .i64 k, .string nm, .slice a ln cp])) := fun cs => ExA.kept (by rw [size_setRow]; exact hB23.size) (fun b hb hA => ⟨by omega, (setRow_other _ _ _ _ (by omega)).trans (hB23.block b hb)⟩) _ _ _ HE.out
        clear hB2 hlt hw1s hB23 hB3 he3 HZ HW2 HE HEV HCk HA
        go_wp2_with (refine wpList_store_row rfl 26 _ _ rfl w.heap.size #[.int .i64 k, .string nm, .slice a ln cp] rfl rfl 26 _ HZ3.out sizeExpr rfl (ones3 _ _ _ _ _) ?_)
        refine bodyPost_ret (results_row_tmp rfl _ _ w.heap.size 26 #[.int .i64 k, .string nm, .slice a ln cp] (0, 0) _ rfl (setRow_heap _ _ _ _ _ _ HZ3.out) Tryz.underlying26 rfl sizeExpr) rfl ?_
        exact ⟨HF.out _, .inl ⟨t, (k, nm, a, ln, cp), HO.out.1, HO.out.2.1, HO.out.2.2, HX.out _, rfl⟩⟩
      · obtain ⟨o1, o2, o3⟩ := out_bad hbig hrd hck
        have HO : Hid (outT s = none ∧ outE s = 4 ∧ outN s = 0) := ⟨o1, o2, o3⟩
        generalize checkE 200 t = C at *
        have e1 : (C == 0) = false := by rw [beq_eq_false_iff_ne]; exact hck
        have e2 : (C != 0) = true := by rw [bne_iff_ne]; exact hck
        clear o1 o2 o3 hex hnm hrd hE hz2 hB2 hsz2 hev hck HE
        go_wp2_with fail
        refine (HCk.out _ (HA.out _)).mono ?_
        rintro e3 W3 ⟨rfl, hB3⟩
        obtain ⟨hB2, hlt, hw1s⟩ := HW2.out
        have hB23 : Below W2.heap.size W2 W3 := (HA.out _).trans (hB3.mono (by simp))
        have HZ3 : Hid (W3.heap[w.heap.size]? = some (.cells #[.int .i64 0, .string ⟨#[]⟩, .slice none 0 0] 26 (0, 0))) := (hB3.block _ (by simp; omega)).trans (HZ.out _)
        have HF : Hid (∀ cs, Below w.heap.size w (W3.setRow w.heap.size cs)) := fun cs => below_setRow (hB2.trans (hB23.mono (by omega))) (Nat.le_refl _) cs
        clear hB2 hlt hw1s hB23 hB3 HZ HW2 HEV HCk HA
        go_wp2_with (refine wpList_store_row rfl 26 _ _ rfl w.heap.size #[.int .i64 0, .string ⟨#[]⟩, .slice none 0 0] rfl rfl 26 _ HZ3.out sizeExpr rfl (ones3 _ _ _ _ _) ?_)
        refine bodyPost_ret (results_row_tmp rfl _ _ w.heap.size 26 #[.int .i64 0, .string ⟨#[]⟩, .slice none 0 0] (0, 0) _ rfl (setRow_heap _ _ _ _ _ _ HZ3.out) Tryz.underlying26 rfl sizeExpr) rfl ?_
        refine ⟨HF.out _, .inr ⟨HO.out.1, by rw [HO.out.2.1]; decide, ?_⟩⟩
        rw [HO.out.2.1, HO.out.2.2]
        rfl
    · obtain ⟨o1, o2, o3⟩ := out_none hbig hrd
      rw [left_inj hjs hpl] at o3
      have HO : Hid (outT s = none ∧ outE s = 4 ∧ outN s = j) := ⟨o1, o2, o3⟩
      have HF : Hid (∀ o cs, Below w.heap.size w ((W2.alloc o).setRow w.heap.size cs)) := fun o cs => below_setRow (hB2.alloc (by omega) o) (Nat.le_refl _) cs
      clear o1 o2 o3 hE hz2 hB2 hsz2 hrd hpl hjs hbig
      unfold refV
      go_wp2_with (refine wpList_store_row rfl 26 _ _ rfl w.heap.size #[.int .i64 0, .string ⟨#[]⟩, .slice none 0 0] rfl rfl 26 _ (HZ.out _) sizeExpr rfl (ones3 _ _ _ _ _) ?_)
      refine bodyPost_ret (results_row_tmp rfl _ _ w.heap.size 26 #[.int .i64 0, .string ⟨#[]⟩, .slice none 0 0] (0, 0) _ rfl (setRow_heap _ _ _ _ _ _ (HZ.out _)) Tryz.underlying26 rfl sizeExpr) rfl ?_
      refine ⟨HF.out _ _, .inr ⟨HO.out.1, by rw [HO.out.2.1]; decide, ?_⟩⟩
      rw [HO.out.2.1, HO.out.2.2]
      rfl
def outTree (s : ByteArray) : DataW Unit := (outT s).getD emptyT
set_option maxRecDepth 100000 in
set_option maxHeartbeats 4000000 in
theorem parse_calls (s : ByteArray) (hs : s.size ≤ 9223372036854775807) (w : World) (hg : ETy w) :
    Calls Tryz.prog 9 #[.string s] w fun e w' => Below w.heap.size w w' ∧ ∃ r, Ex w' 200 (outTree s) (rawV r) ∧ e = .returned (.tuple #[rawV r, .int .i64 (outN s : Int), .int .i64 (outE s)]) := by
  have HR : Hid (∀ W, Calls Tryz.prog 34 #[.string s] W fun e w' => Below W.heap.size W w' ∧ Rdd W.heap.size s e w') := fun W => read_calls s hs W
  have HT : Hid (∀ W, Below w.heap.size w W → Calls Tryz.prog 35 #[refV (outN s) (outE s)] W fun e w' => e = .returned (.tuple #[.int .i64 (outN s : Int), .int .i64 (outE s)]) ∧ Below W.heap.size W w') := fun W hW => told_calls (outN s) (outE s) W (hg.below hW)
  clear hg hs
  go_enter Tryz.func9, Tryz.ntmps9
  go_wp2_with fail
  refine (HR.out _).mono ?_
  rintro e1 W1 ⟨hB1, hE⟩
  have hz1 : W1.heap[w.heap.size]? = some (.cells #[.int .i64 0, .string ⟨#[]⟩, .slice none 0 0] 26 (0, 0)) := (hB1.block _ (by simp)).trans (heap_alloc_new w _)
  have hB : Below w.heap.size w W1 := ((Below.refl _ w).alloc (Nat.le_refl _) _).trans (hB1.mono (by simp))
  have hs1 : w.heap.size < W1.heap.size := by have := hB1.size; simp only [World.size_alloc] at this; omega
  clear HR
  rcases hE with ⟨t, r, o1, o2, o3, hX, rfl⟩ | ⟨o1, o2, rfl⟩
  · obtain ⟨k, nm, a, ln, cp⟩ := r
    unfold rawV at hX ⊢
    simp only at hX ⊢
    have HO : Hid (outT s = some t ∧ outE s = 0 ∧ outN s = s.size) := ⟨o1, o2, o3⟩
    have HZ : Hid (∀ o, (W1.alloc o).heap[w.heap.size]? = some (.cells #[.int .i64 0, .string ⟨#[]⟩, .slice none 0 0] 26 (0, 0))) := fun o => (Below.heap_alloc W1 o _ hs1).trans hz1
    have HF : Hid (∀ o cs, Below w.heap.size w ((W1.alloc o).setRow w.heap.size cs)) := fun o cs => below_setRow (hB.alloc (by omega) o) (Nat.le_refl _) cs
    have HX : Hid (∀ o cs, ExA (fun b => w.heap.size ≤ b) ((W1.alloc o).setRow w.heap.size cs) 200 t (.agg #[.int .i64 k, .string nm, .slice a ln cp])) := fun o cs => ExA.kept (by rw [size_setRow]; simp) (fun b hb hA => by simp only [World.size_alloc] at hA; exact ⟨by omega, (setRow_other _ _ _ _ (by omega)).trans (Below.heap_alloc W1 o b hb)⟩) _ _ _ hX
    clear hX hz1 hB hB1 hs1 o1 o2 o3 HT
    go_wp2_with (refine wpList_store_row rfl 26 _ _ rfl w.heap.size #[.int .i64 k, .string nm, .slice a ln cp] rfl rfl 26 _ (HZ.out _) sizeExpr rfl (ones3 _ _ _ _ _) ?_)
    refine bodyPost_ret (results_row_tmp2 rfl _ _ w.heap.size 26 #[.int .i64 k, .string nm, .slice a ln cp] (0, 0) _ rfl (setRow_heap _ _ _ _ _ _ (HZ.out _)) Tryz.underlying26 rfl sizeExpr) rfl ?_
    refine ⟨HF.out _ _, (k, nm, a, ln, cp), ?_, ?_⟩
    · unfold outTree
      rw [HO.out.1]
      exact ExA.ex _ _ _ (HX.out _ _)
    · rw [HO.out.2.1, HO.out.2.2]
      rfl
  · have HO : Hid (outT s = none) := o1
    have HZ : Hid ((W1.alloc (.cells #[.int .i64 0, .string ⟨#[]⟩, .slice none 0 0] 26)).heap[w.heap.size]? = some (.cells #[.int .i64 0, .string ⟨#[]⟩, .slice none 0 0] 26 (0, 0))) := (Below.heap_alloc W1 _ _ hs1).trans hz1
    have HB : Hid (Below w.heap.size w (W1.alloc (.cells #[.int .i64 0, .string ⟨#[]⟩, .slice none 0 0] 26)) ∧ w.heap.size < (W1.alloc (.cells #[.int .i64 0, .string ⟨#[]⟩, .slice none 0 0] 26)).heap.size) := ⟨hB.alloc (by omega) _, by simp; omega⟩
    clear hz1 hB hB1 hs1 o1
    unfold zE
    obtain ⟨N, hN⟩ : ∃ N, outN s = N := ⟨_, rfl⟩
    obtain ⟨E, hEE⟩ : ∃ E, outE s = E := ⟨_, rfl⟩
    have HN : Hid (outN s = N ∧ outE s = E) := ⟨hN, hEE⟩
    rw [hN, hEE] at HT ⊢
    clear hN hEE o2
    unfold refV at HT ⊢
    go_wp2_with fail
    refine (HT.out _ HB.out.1).mono ?_
    rintro e3 W3 ⟨rfl, hB3⟩
    have HZ3 : Hid (W3.heap[w.heap.size]? = some (.cells #[.int .i64 0, .string ⟨#[]⟩, .slice none 0 0] 26 (0, 0))) := (hB3.block _ HB.out.2).trans HZ.out
    have HF : Hid (∀ cs, Below w.heap.size w (W3.setRow w.heap.size cs)) := fun cs => below_setRow (HB.out.1.trans (hB3.mono HB.out.1.size)) (Nat.le_refl _) cs
    clear hB3 HZ HB HT
    go_wp2_with (refine wpList_store_row rfl 26 _ _ rfl w.heap.size #[.int .i64 0, .string ⟨#[]⟩, .slice none 0 0] rfl rfl 26 _ HZ3.out sizeExpr rfl (ones3 _ _ _ _ _) ?_)
    refine bodyPost_ret (results_row_tmp2 rfl _ _ w.heap.size 26 #[.int .i64 0, .string ⟨#[]⟩, .slice none 0 0] (0, 0) _ rfl (setRow_heap _ _ _ _ _ _ HZ3.out) Tryz.underlying26 rfl sizeExpr) rfl ?_
    refine ⟨HF.out _, (0, ⟨#[]⟩, none, 0, 0), ?_, by rw [HN.out.1, HN.out.2]; rfl⟩
    unfold outTree
    rw [HO.out]
    exact emptyT_ex _ 199
end Go.Proofs.YtofkiaeocfpkeaaGreatDoor

/- ParseD: expr.Parse at every text: the tree that it answers lies in memory of its own. -/
namespace Go.Proofs.YtofkiaeocfpkeaaGreatDoor
open Go.RowKit

set_option maxRecDepth 100000 in
set_option maxHeartbeats 4000000 in
theorem parsea_calls (s : ByteArray) (hs : s.size ≤ 9223372036854775807) (w : World) (hg : ETy w) :
    Calls Tryz.prog 9 #[.string s] w fun e w' => Below w.heap.size w w' ∧ ∃ r, ExA (fun b => w.heap.size ≤ b) w' 200 (outTree s) (rawV r) ∧ e = .returned (.tuple #[rawV r, .int .i64 (outN s : Int), .int .i64 (outE s)]) := by
  have HR : Hid (∀ W, Calls Tryz.prog 34 #[.string s] W fun e w' => Below W.heap.size W w' ∧ Rdd W.heap.size s e w') := fun W => read_calls s hs W
  have HT : Hid (∀ W, Below w.heap.size w W → Calls Tryz.prog 35 #[refV (outN s) (outE s)] W fun e w' => e = .returned (.tuple #[.int .i64 (outN s : Int), .int .i64 (outE s)]) ∧ Below W.heap.size W w') := fun W hW => told_calls (outN s) (outE s) W (hg.below hW)
  clear hg hs
  go_enter Tryz.func9, Tryz.ntmps9
  go_wp2_with fail
  refine (HR.out _).mono ?_
  rintro e1 W1 ⟨hB1, hE⟩
  have hz1 : W1.heap[w.heap.size]? = some (.cells #[.int .i64 0, .string ⟨#[]⟩, .slice none 0 0] 26 (0, 0)) := (hB1.block _ (by simp)).trans (heap_alloc_new w _)
  have hB : Below w.heap.size w W1 := ((Below.refl _ w).alloc (Nat.le_refl _) _).trans (hB1.mono (by simp))
  have hs1 : w.heap.size < W1.heap.size := by have := hB1.size; simp only [World.size_alloc] at this; omega
  clear HR
  rcases hE with ⟨t, r, o1, o2, o3, hX, rfl⟩ | ⟨o1, o2, rfl⟩
  · obtain ⟨k, nm, a, ln, cp⟩ := r
    unfold rawV at hX ⊢
    simp only at hX ⊢
    have HO : Hid (outT s = some t ∧ outE s = 0 ∧ outN s = s.size) := ⟨o1, o2, o3⟩
    have HZ : Hid (∀ o, (W1.alloc o).heap[w.heap.size]? = some (.cells #[.int .i64 0, .string ⟨#[]⟩, .slice none 0 0] 26 (0, 0))) := fun o => (Below.heap_alloc W1 o _ hs1).trans hz1
    have HF : Hid (∀ o cs, Below w.heap.size w ((W1.alloc o).setRow w.heap.size cs)) := fun o cs => below_setRow (hB.alloc (by omega) o) (Nat.le_refl _) cs
    have HX : Hid (∀ o cs, ExA (fun b => w.heap.size ≤ b) ((W1.alloc o).setRow w.heap.size cs) 200 t (.agg #[.int .i64 k, .string nm, .slice a ln cp])) := fun o cs => ExA.kept (by rw [size_setRow]; simp) (fun b hb hA => by simp only [World.size_alloc] at hA; exact ⟨by omega, (setRow_other _ _ _ _ (by omega)).trans (Below.heap_alloc W1 o b hb)⟩) _ _ _ hX
    clear hX hz1 hB hB1 hs1 o1 o2 o3 HT
    go_wp2_with (refine wpList_store_row rfl 26 _ _ rfl w.heap.size #[.int .i64 k, .string nm, .slice a ln cp] rfl rfl 26 _ (HZ.out _) sizeExpr rfl (ones3 _ _ _ _ _) ?_)
    refine bodyPost_ret (results_row_tmp2 rfl _ _ w.heap.size 26 #[.int .i64 k, .string nm, .slice a ln cp] (0, 0) _ rfl (setRow_heap _ _ _ _ _ _ (HZ.out _)) Tryz.underlying26 rfl sizeExpr) rfl ?_
    refine ⟨HF.out _ _, (k, nm, a, ln, cp), ?_, ?_⟩
    · unfold outTree
      rw [HO.out.1]
      exact HX.out _ _
    · rw [HO.out.2.1, HO.out.2.2]
      rfl
  · have HO : Hid (outT s = none) := o1
    have HZ : Hid ((W1.alloc (.cells #[.int .i64 0, .string ⟨#[]⟩, .slice none 0 0] 26)).heap[w.heap.size]? = some (.cells #[.int .i64 0, .string ⟨#[]⟩, .slice none 0 0] 26 (0, 0))) := (Below.heap_alloc W1 _ _ hs1).trans hz1
    have HB : Hid (Below w.heap.size w (W1.alloc (.cells #[.int .i64 0, .string ⟨#[]⟩, .slice none 0 0] 26)) ∧ w.heap.size < (W1.alloc (.cells #[.int .i64 0, .string ⟨#[]⟩, .slice none 0 0] 26)).heap.size) := ⟨hB.alloc (by omega) _, by simp; omega⟩
    clear hz1 hB hB1 hs1 o1
    unfold zE
    obtain ⟨N, hN⟩ : ∃ N, outN s = N := ⟨_, rfl⟩
    obtain ⟨E, hEE⟩ : ∃ E, outE s = E := ⟨_, rfl⟩
    have HN : Hid (outN s = N ∧ outE s = E) := ⟨hN, hEE⟩
    rw [hN, hEE] at HT ⊢
    clear hN hEE o2
    unfold refV at HT ⊢
    go_wp2_with fail
    refine (HT.out _ HB.out.1).mono ?_
    rintro e3 W3 ⟨rfl, hB3⟩
    have HZ3 : Hid (W3.heap[w.heap.size]? = some (.cells #[.int .i64 0, .string ⟨#[]⟩, .slice none 0 0] 26 (0, 0))) := (hB3.block _ HB.out.2).trans HZ.out
    have HF : Hid (∀ cs, Below w.heap.size w (W3.setRow w.heap.size cs)) := fun cs => below_setRow (HB.out.1.trans (hB3.mono HB.out.1.size)) (Nat.le_refl _) cs
    clear hB3 HZ HB HT
    go_wp2_with (refine wpList_store_row rfl 26 _ _ rfl w.heap.size #[.int .i64 0, .string ⟨#[]⟩, .slice none 0 0] rfl rfl 26 _ HZ3.out sizeExpr rfl (ones3 _ _ _ _ _) ?_)
    refine bodyPost_ret (results_row_tmp2 rfl _ _ w.heap.size 26 #[.int .i64 0, .string ⟨#[]⟩, .slice none 0 0] (0, 0) _ rfl (setRow_heap _ _ _ _ _ _ HZ3.out) Tryz.underlying26 rfl sizeExpr) rfl ?_
    refine ⟨HF.out _, (0, ⟨#[]⟩, none, 0, 0), ?_, by rw [HN.out.1, HN.out.2]; rfl⟩
    unfold outTree
    rw [HO.out]
    exact ExA.leaf _ _ 199 0 ⟨#[]⟩ none 0
end Go.Proofs.YtofkiaeocfpkeaaGreatDoor

/- Auto: plain facts on places, as the program lays them: what each place needs to the end, and what words lead there. -/
namespace Go.Proofs.YtofkiaeocfpkeaaGreatDoor

/-- A place: the types that it takes, as bits; where it goes on; the fewest types to the end. -/
abbrev Place : Type := Nat × List Nat × Nat
def leastAt (L : List Place) (p : Nat) : Nat :=
  match L[p]? with
  | some x => x.2.2
  | none => 0
def takes (m : Nat) (t : Int) : Bool := decide (0 ≤ t) && decide (t < 16) && m.testBit t.toNat
theorem takes_zero (t : Int) : takes 0 t = false := by unfold takes; simp
theorem leastAt_some {L : List Place} {p : Nat} {x : Place} (h : L[p]? = some x) : leastAt L p = x.2.2 := by unfold leastAt; rw [h]
theorem leastAt_congr {L L' : List Place} {p : Nat} (h : L'[p]? = L[p]?) : leastAt L' p = leastAt L p := by unfold leastAt; rw [h]
def StepAt (L : List Place) (p : Nat) (x : Place) : Prop := x.1 ≠ 0 ∧ ∃ q, x.2.1 = [q] ∧ q < p ∧ x.2.2 = leastAt L q + 1
def ForkAt (L : List Place) (p : Nat) (x : Place) : Prop := x.1 = 0 ∧ (∀ q ∈ x.2.1, q < L.length ∧ x.2.2 ≤ leastAt L q) ∧ ∃ q ∈ x.2.1, q < p ∧ x.2.2 = leastAt L q
/-- Each place but the end takes a type and goes on to one laid before, or is a fork of which one way, laid before, is the shortest. -/
def wf (L : List Place) : Prop := L[0]? = some (0, [], 0) ∧ ∀ p x, 0 < p → L[p]? = some x → StepAt L p x ∨ ForkAt L p x
theorem wf.pos {L : List Place} (h : wf L) : 0 < L.length := (List.getElem?_eq_some_iff.1 h.1).1
theorem wf_one : wf [((0, [], 0) : Place)] := ⟨rfl, fun p x hp hx => by
  have := (List.getElem?_eq_some_iff.1 hx).1
  simp at this
  omega⟩
theorem get_snoc_lt {L : List Place} {y : Place} {p : Nat} (h : p < L.length) : (L ++ [y])[p]? = L[p]? := List.getElem?_append_left h
theorem get_snoc_eq {L : List Place} {y : Place} : (L ++ [y])[L.length]? = some y := by simp
theorem wf_add {L : List Place} (h : wf L) {y : Place} (hy : (y.1 ≠ 0 ∧ ∃ q, y.2.1 = [q] ∧ q < L.length ∧ y.2.2 = leastAt L q + 1) ∨ (y.1 = 0 ∧ (∀ q ∈ y.2.1, q < L.length ∧ y.2.2 ≤ leastAt L q) ∧ ∃ q ∈ y.2.1, y.2.2 = leastAt L q)) : wf (L ++ [y]) := by
  have hl : ∀ q, q < L.length → leastAt (L ++ [y]) q = leastAt L q := fun q hq => leastAt_congr (get_snoc_lt hq)
  refine ⟨by rw [get_snoc_lt h.pos]; exact h.1, fun p x hp hx => ?_⟩
  rcases Nat.lt_or_ge p L.length with hlt | hge
  · rw [get_snoc_lt hlt] at hx
    rcases h.2 p x hp hx with ⟨h1, q, h2, h3, h4⟩ | ⟨h1, h2, q, h3, h4, h5⟩
    · exact .inl ⟨h1, q, h2, h3, by rw [hl q (by omega)]; exact h4⟩
    · refine .inr ⟨h1, fun r hr => ?_, q, h3, h4, by rw [hl q (by omega)]; exact h5⟩
      obtain ⟨g1, g2⟩ := h2 r hr
      exact ⟨by simp; omega, by rw [hl r g1]; exact g2⟩
  · have hpl : p = L.length := by
      have := (List.getElem?_eq_some_iff.1 hx).1
      simp at this
      omega
    subst hpl
    rw [get_snoc_eq] at hx
    cases hx
    rcases hy with ⟨h1, q, h2, h3, h4⟩ | ⟨h1, h2, q, h3, h4⟩
    · exact .inl ⟨h1, q, h2, h3, by rw [hl q h3]; exact h4⟩
    · refine .inr ⟨h1, fun r hr => ?_, q, h3, (h2 q h3).1, by rw [hl q (h2 q h3).1]; exact h4⟩
      obtain ⟨g1, g2⟩ := h2 r hr
      exact ⟨by simp; omega, by rw [hl r g1]; exact g2⟩
/-- One way more from a place. -/
def addNext (L : List Place) (i q : Nat) : List Place := L.modify i (fun x => (x.1, x.2.1 ++ [q], x.2.2))
theorem addNext_length (L : List Place) (i q : Nat) : (addNext L i q).length = L.length := by unfold addNext; simp
theorem addNext_ne {L : List Place} {i q p : Nat} (h : p ≠ i) : (addNext L i q)[p]? = L[p]? := by unfold addNext; rw [List.getElem?_modify]; simp [Ne.symm h]
theorem addNext_eq {L : List Place} {i q : Nat} {x : Place} (h : L[i]? = some x) : (addNext L i q)[i]? = some (x.1, x.2.1 ++ [q], x.2.2) := by unfold addNext; rw [List.getElem?_modify, h]; simp
theorem addNext_least (L : List Place) (i q p : Nat) : leastAt (addNext L i q) p = leastAt L p := by
  by_cases h : p = i
  · subst h
    cases hx : L[p]? with
    | none =>
      have : (addNext L p q)[p]? = none := by
        rw [List.getElem?_eq_none_iff] at hx ⊢
        rw [addNext_length]
        exact hx
      unfold leastAt
      rw [hx, this]
    | some x => rw [leastAt_some hx, leastAt_some (addNext_eq hx)]
  · exact leastAt_congr (addNext_ne h)
theorem wf_next {L : List Place} (h : wf L) {i q : Nat} {y : Place} (hi : 0 < i) (hy : L[i]? = some y) (hz : y.1 = 0) (hq : q < L.length) (hl : y.2.2 ≤ leastAt L q) : wf (addNext L i q) := by
  refine ⟨by rw [addNext_ne (by omega)]; exact h.1, fun p x hp hx => ?_⟩
  by_cases hpi : p = i
  · subst hpi
    rw [addNext_eq hy] at hx
    cases hx
    rcases h.2 p y hp hy with ⟨h1, _⟩ | ⟨h1, h2, r, h3, h4, h5⟩
    · exact absurd hz h1
    · refine .inr ⟨h1, fun s hs => ?_, r, List.mem_append_left _ h3, h4, by rw [addNext_least]; exact h5⟩
      rw [addNext_length, addNext_least]
      rcases List.mem_append.1 hs with hs | hs
      · exact h2 s hs
      · simp at hs
        subst hs
        exact ⟨hq, hl⟩
  · rw [addNext_ne hpi] at hx
    rcases h.2 p x hp hx with ⟨h1, r, h2, h3, h4⟩ | ⟨h1, h2, r, h3, h4, h5⟩
    · exact .inl ⟨h1, r, h2, h3, by rw [addNext_least]; exact h4⟩
    · refine .inr ⟨h1, fun s hs => ?_, r, h3, h4, by rw [addNext_least]; exact h5⟩
      rw [addNext_length, addNext_least]
      exact h2 s hs
/-- What leads from a place to the end, in at most k moves. -/
def Reads (F : List Place) : Nat → Nat → List Int → Prop
  | 0, p, w => p = 0 ∧ w = []
  | k + 1, p, w => (p = 0 ∧ w = []) ∨ ∃ x, F[p]? = some x ∧ ((x.1 = 0 ∧ ∃ q ∈ x.2.1, Reads F k q w) ∨ (x.1 ≠ 0 ∧ ∃ t v q, w = t :: v ∧ takes x.1 t = true ∧ x.2.1[0]? = some q ∧ Reads F k q v))
theorem Reads.up {F : List Place} : ∀ {k p : Nat} {w : List Int}, Reads F k p w → Reads F (k + 1) p w := by
  intro k
  induction k with
  | zero => intro p w h; exact .inl h
  | succ k ih =>
    intro p w h
    rcases h with h | ⟨x, hx, ⟨h0, q, hq, hr⟩ | ⟨h0, t, v, q, e, ht, hq, hr⟩⟩
    · exact .inl h
    · exact .inr ⟨x, hx, .inl ⟨h0, q, hq, ih hr⟩⟩
    · exact .inr ⟨x, hx, .inr ⟨h0, t, v, q, e, ht, hq, ih hr⟩⟩
theorem Reads.upto {F : List Place} {k m p : Nat} {w : List Int} (h : k ≤ m) (hr : Reads F k p w) : Reads F m p w := by
  induction h with
  | refl => exact hr
  | step _ ih => exact Reads.up ih
/-- No word to the end is shorter than the place says. -/
theorem Reads.long {F : List Place} (hF : wf F) : ∀ {k p : Nat} {w : List Int}, Reads F k p w → leastAt F p ≤ w.length := by
  have h00 : leastAt F 0 = 0 := leastAt_some hF.1
  intro k
  induction k with
  | zero => rintro p w ⟨rfl, rfl⟩; rw [h00]; exact Nat.zero_le _
  | succ k ih =>
    intro p w h
    rcases h with ⟨rfl, rfl⟩ | ⟨x, hx, ⟨h0, q, hq, hr⟩ | ⟨h0, t, v, q, rfl, ht, hq, hr⟩⟩
    · rw [h00]; exact Nat.zero_le _
    · have := ih hr
      rcases Nat.eq_zero_or_pos p with rfl | hp
      · rw [h00]; exact Nat.zero_le _
      · rcases hF.2 p x hp hx with ⟨h1, _⟩ | ⟨_, h2, _⟩
        · exact absurd h0 h1
        · rw [leastAt_some hx]
          exact Nat.le_trans (h2 q hq).2 this
    · have := ih hr
      rcases Nat.eq_zero_or_pos p with rfl | hp
      · rw [h00]; exact Nat.zero_le _
      · rcases hF.2 p x hp hx with ⟨_, r, h2, _, h4⟩ | ⟨h1, _⟩
        · rw [h2] at hq
          cases hq
          rw [leastAt_some hx, h4, List.length_cons]
          omega
        · exact absurd h1 h0
end Go.Proofs.YtofkiaeocfpkeaaGreatDoor

/- Grp: groups in memory; reg's isType, rightGroups, typesOf: what they return; nothing that lay before is turned. -/
namespace Go.Proofs.YtofkiaeocfpkeaaGreatDoor
open Go.RowKit

/-- A slice's elements are the integers zs. -/
def Ints (w : World) (a : Option Addr) (len : Nat) (zs : List Int) : Prop :=
  zs.length = len ∧ len ≤ 9223372036854775807 ∧ (len = 0 ∨ ∃ b o, a = some ⟨b, o, none⟩ ∧ b < w.heap.size ∧ ∀ i x, zs[i]? = some x → w.cell? ⟨b, o + i, none⟩ = some (.int .i64 x))
theorem Ints.below {w w' : World} {a : Option Addr} {len : Nat} {zs : List Int} (h : Ints w a len zs) (hb : Below w.heap.size w w') : Ints w' a len zs := by
  obtain ⟨h1, h2, h3⟩ := h
  refine ⟨h1, h2, ?_⟩
  rcases h3 with h3 | ⟨b, o, rfl, hlt, hc⟩
  · exact .inl h3
  · exact .inr ⟨b, o, rfl, Nat.lt_of_lt_of_le hlt hb.size, fun i x hx => (hb.cell (p := ⟨b, o + i, none⟩) hlt).trans (hc i x hx)⟩
theorem Ints.at {w : World} {a : Option Addr} {len : Nat} {zs : List Int} (h : Ints w a len zs) {i : Nat} (hi : i < len) : ∃ b o x, a = some ⟨b, o, none⟩ ∧ zs[i]? = some x ∧ ∀ W : World, Below w.heap.size w W → W.cell? ⟨b, o + i, none⟩ = some (.int .i64 x) := by
  obtain ⟨h1, _, h3⟩ := h
  rcases h3 with h3 | ⟨b, o, rfl, hlt, hc⟩
  · omega
  · have hx : zs[i]? = some (zs[i]'(by omega)) := List.getElem?_eq_getElem (by omega)
    exact ⟨b, o, _, rfl, hx, fun W hb => (hb.cell (p := ⟨b, o + i, none⟩) hlt).trans (hc i _ hx)⟩
/-- A group: its name and its types. -/
abbrev Grp : Type := ByteArray × List Int
def Groups (w : World) (a : Option Addr) (len : Nat) (gs : List Grp) : Prop :=
  gs.length = len ∧ len ≤ 9223372036854775807 ∧ (len = 0 ∨ ∃ b o, a = some ⟨b, o, none⟩ ∧ b < w.heap.size ∧ ∀ i g, gs[i]? = some g → ∃ a' len' cap',
    w.cell? ⟨b, o + i * 2, none⟩ = some (.string g.1) ∧ w.cell? ⟨b, o + i * 2 + 1, none⟩ = some (.slice a' len' cap') ∧ Ints w a' len' g.2)
theorem Groups.below {w w' : World} {a : Option Addr} {len : Nat} {gs : List Grp} (h : Groups w a len gs) (hb : Below w.heap.size w w') : Groups w' a len gs := by
  obtain ⟨h1, h2, h3⟩ := h
  refine ⟨h1, h2, ?_⟩
  rcases h3 with h3 | ⟨b, o, rfl, hlt, hc⟩
  · exact .inl h3
  · refine .inr ⟨b, o, rfl, Nat.lt_of_lt_of_le hlt hb.size, fun i g hg => ?_⟩
    obtain ⟨a', len', cap', c0, c1, c2⟩ := hc i g hg
    exact ⟨a', len', cap', (hb.cell (p := ⟨b, _, none⟩) hlt).trans c0, (hb.cell (p := ⟨b, _, none⟩) hlt).trans c1, c2.below hb⟩
theorem Groups.at {w : World} {a : Option Addr} {len : Nat} {gs : List Grp} (h : Groups w a len gs) {i : Nat} (hi : i < len) : ∃ b o g a' len' cap', a = some ⟨b, o, none⟩ ∧ gs[i]? = some g ∧ Ints w a' len' g.2 ∧ ∀ W : World, Below w.heap.size w W →
    W.cell? ⟨b, o + i * 2, none⟩ = some (.string g.1) ∧ W.cell? ⟨b, o + i * 2 + 1, none⟩ = some (.slice a' len' cap') := by
  obtain ⟨h1, _, h3⟩ := h
  rcases h3 with h3 | ⟨b, o, rfl, hlt, hc⟩
  · omega
  · have hx : gs[i]? = some (gs[i]'(by omega)) := List.getElem?_eq_getElem (by omega)
    obtain ⟨a', len', cap', c0, c1, c2⟩ := hc i _ hx
    exact ⟨b, o, _, a', len', cap', rfl, hx, c2, fun W hb => ⟨(hb.cell (p := ⟨b, _, none⟩) hlt).trans c0, (hb.cell (p := ⟨b, _, none⟩) hlt).trans c1⟩⟩
def isTy (t : Int) : Bool := decide (0 ≤ t) && decide (t < 16)
set_option maxRecDepth 100000 in
set_option maxHeartbeats 2000000 in
theorem istype_calls (t : Int) (w : World) : Calls Tryz.prog 138 #[.int .i64 t] w fun e w' => e = .returned (.bool (isTy t)) ∧ w' = w := by
  unfold isTy
  by_cases h1 : 0 ≤ t
  · go_enter Tryz.func138, Tryz.ntmps138
    go_wp2
    go_ret
    exact ⟨by first | rfl | simp [h1], rfl⟩
  · have h2 : decide (0 ≤ t) = false := by simpa using h1
    go_enter Tryz.func138, Tryz.ntmps138
    go_wp2
    go_ret
    exact ⟨by first | rfl | simp [h1], rfl⟩
def rightTs (l : List Int) : Bool := decide (l.length ≤ 16) && l.all isTy
def rightG (gs : List Grp) : Bool := decide (gs.length ≤ 16) && gs.all (fun g => rightTs g.2)
theorem allI_step {α : Type} {p : α → Bool} {ts : List α} {i : Nat} {x : α} (h : ts[i]? = some x) : (ts.take (i + 1)).all p = ((ts.take i).all p && p x) := by
  rw [List.take_add_one, h, List.all_append]
  simp
theorem allI_not {α : Type} {p : α → Bool} {ts : List α} {i : Nat} {x : α} (h : ts[i]? = some x) (hp : p x = false) : ts.all p = false := by
  cases ha : ts.all p with
  | false => rfl
  | true =>
    have := List.all_eq_true.1 ha x (List.mem_of_getElem? h)
    rw [hp] at this
    cases this
set_option maxRecDepth 100000 in
set_option maxHeartbeats 2000000 in
theorem rightgroups_calls (a : Option Addr) (len cap : Nat) (gs : List Grp) (w : World) (h : Groups w a len gs) :
    Calls Tryz.prog 130 #[.slice a len cap] w fun e w' => e = .returned (.bool (rightG gs)) ∧ Below w.heap.size w w' := by
  obtain ⟨hl, hz, _⟩ := id h
  obtain ⟨R, hR⟩ : ∃ R, rightG gs = R := ⟨_, rfl⟩
  rw [hR]
  have HR : Hid (rightG gs = R) := hR
  clear hR
  have HT : Hid (∀ t W, Calls Tryz.prog 138 #[.int .i64 t] W fun e w' => e = .returned (.bool (isTy t)) ∧ w' = W) := fun t W => istype_calls t W
  by_cases hlen : len ≤ 16
  · have hn : ¬ ((16 : Int) < (len : Int)) := by omega
    go_enter Tryz.func130, Tryz.ntmps130
    go_wp2
    go_loopw [12] (fun i w' => ∃ j : Nat, j ≤ len ∧ i = .int .i64 (j : Int) ∧ (gs.take j).all (fun g => rightTs g.2) = true ∧ Below w.heap.size w w') (fun i _ => len - (intOf i).toNat)
    case atStart => exact ⟨0, by omega, rfl, rfl, Below.refl _ _⟩
    case round =>
      obtain ⟨i, hi, rfl, hT, hB⟩ := hrel
      by_cases hlt : i < len
      · obtain ⟨b, o, g, a', len', cap', rfl, hg, hI, hc⟩ := h.at hlt
        obtain ⟨c0, c1⟩ := hc wr hB
        obtain ⟨hl2, hz2, _⟩ := id hI
        have hst : (gs.take (i + 1)).all (fun g => rightTs g.2) = rightTs g.2 := by rw [allI_step hg, hT, Bool.true_and]
        have hno : rightTs g.2 = false → R = false := fun e => by
          rw [← HR.out]
          unfold rightG
          rw [allI_not hg e, Bool.and_false]
        have HST : Hid ((gs.take (i + 1)).all (fun g => rightTs g.2) = rightTs g.2) := hst
        have HNO : Hid (rightTs g.2 = false → R = false) := hno
        obtain ⟨nm, zs⟩ := g
        simp only at hI hl2 HST HNO c0
        have HB0 : Hid (∀ o, Below w.heap.size w (wr.alloc o)) := fun o => hB.alloc hB.size o
        have hBI : Hid (∀ W, Below w.heap.size w W → ∀ i, i < len' → ∃ b o x, a' = some ⟨b, o, none⟩ ∧ zs[i]? = some x ∧ W.cell? ⟨b, o + i, none⟩ = some (.int .i64 x)) := fun W hW i hi => by
          obtain ⟨b, o, x, h1, h2, h3⟩ := hI.at hi
          exact ⟨b, o, x, h1, h2, h3 W hW⟩
        clear hc hI hst hno hg hT
        by_cases hlen2 : len' ≤ 16
        · have hn2 : ¬ ((16 : Int) < (len' : Int)) := by omega
          go_wp2
          go_loopw [23] (fun i2 w' => ∃ j : Nat, j ≤ len' ∧ i2 = .int .i64 (j : Int) ∧ (zs.take j).all isTy = true ∧ w' = (wr.alloc (.cells #[.string nm, .slice a' len' cap'] 73))) (fun i2 _ => len' - (intOf i2).toNat)
          case atStart => exact ⟨0, by omega, rfl, rfl, rfl⟩
          case round =>
            obtain ⟨j, hj, rfl, hT2, rfl⟩ := hrel
            by_cases hlt2 : j < len'
            · obtain ⟨b2, o2, x, rfl, hx, hc2⟩ := hBI.out (wr.alloc (.cells #[.string nm, .slice a' len' cap'] 73)) (HB0.out _) j hlt2
              have HS2 : Hid ((zs.take (j + 1)).all isTy = isTy x) := by show _ = _; rw [allI_step hx, hT2, Bool.true_and]
              have HN2 : Hid (isTy x = false → R = false) := fun e => HNO.out (by unfold rightTs; rw [allI_not hx e, Bool.and_false])
              have HTx := fun W => HT.out x W
              clear hx hT2
              generalize isTy x = q at *
              cases q with
              | true =>
                go_wp2_with fail
                refine (HTx _).mono ?_
                rintro e W ⟨rfl, hW⟩
                rw [hW]
                go_wp2
                go_roundw
                case rel => exact ⟨j + 1, by omega, rfl, HS2.out, by first | rfl | trivial⟩
                case measure => simp [intOf]; omega
              | false =>
                have HF : Hid (R = false) := HN2.out rfl
                clear HN2
                go_wp2_with fail
                refine (HTx _).mono ?_
                rintro e W ⟨rfl, hW⟩
                rw [hW]
                go_wp2
                go_ret
                exact ⟨by rw [HF.out]; rfl, HB0.out _⟩
            · obtain rfl : j = len' := by omega
              have HF : Hid (rightTs zs = true) := by
                show _ = _
                rw [List.take_of_length_le (Nat.le_of_eq hl2)] at hT2
                unfold rightTs
                rw [hT2, hl2]
                simpa using hlen2
              clear hT2
              go_wp2
              go_roundw
              case rel => exact ⟨i + 1, by omega, rfl, by rw [HST.out, HF.out], HB0.out _⟩
              case measure => simp [intOf]; omega
        · have hn2 : (16 : Int) < (len' : Int) := by omega
          have HF : Hid (R = false) := HNO.out (by unfold rightTs; rw [hl2]; simp; omega)
          go_wp2
          go_ret
          exact ⟨by rw [HF.out]; rfl, HB0.out _⟩
      · obtain rfl : i = len := by omega
        have HF : Hid (R = true) := by
          show _ = _
          rw [← HR.out]
          rw [List.take_of_length_le (Nat.le_of_eq hl)] at hT
          unfold rightG
          rw [hT, hl]
          simpa using hlen
        clear hT h
        go_wp2
        go_ret
        exact ⟨by rw [HF.out]; rfl, hB⟩
  · have hn : (16 : Int) < (len : Int) := by omega
    have HF : Hid (R = false) := by
      show _ = _
      rw [← HR.out]
      unfold rightG
      rw [hl]
      simp
      omega
    clear h
    go_enter Tryz.func130, Tryz.ntmps130
    go_wp2
    go_ret
    exact ⟨by rw [HF.out]; rfl, Below.refl _ _⟩
end Go.Proofs.YtofkiaeocfpkeaaGreatDoor

/- Typ: reg's typesOf: what it returns; nothing that lay before is turned. -/
namespace Go.Proofs.YtofkiaeocfpkeaaGreatDoor
open Go.RowKit

/-- Types as bits. -/
def maskOf (l : List Int) : Nat := l.foldl (fun m t => m ||| 2 ^ t.toNat) 0
theorem maskOf_snoc (l : List Int) (t : Int) : maskOf (l ++ [t]) = maskOf l ||| 2 ^ t.toNat := by unfold maskOf; rw [List.foldl_append]; rfl
theorem pow_lt (t : Int) (h : t < 16) : 2 ^ t.toNat < 65536 := by
  have : t.toNat < 16 := by omega
  exact Nat.pow_lt_pow_right (by decide) this
theorem wrap_pow (t : Int) (h : t < 16) : IntKind.u16.wrap ((2 : Int) ^ t.toNat) = ((2 ^ t.toNat : Nat) : Int) := by
  have h1 := pow_lt t h
  rw [show ((2 : Int) ^ t.toNat) = ((2 ^ t.toNat : Nat) : Int) from by simp]
  generalize 2 ^ t.toNat = m at *
  show ((m : Int) % 65536) = _
  omega
theorem maskOf_lt (l : List Int) (h : l.all isTy = true) : maskOf l < 65536 := by
  have key : ∀ (l : List Int) (m : Nat), m < 65536 → l.all isTy = true → l.foldl (fun m t => m ||| 2 ^ t.toNat) m < 65536 := by
    intro l
    induction l with
    | nil => intro m hm _; exact hm
    | cons t r ih =>
      intro m hm hl
      rw [List.all_cons, Bool.and_eq_true] at hl
      rw [List.foldl_cons]
      refine ih _ ?_ hl.2
      have ht : t < 16 := by
        have := hl.1
        unfold isTy at this
        simp at this
        exact this.2
      exact Nat.or_lt_two_pow (n := 16) hm (pow_lt t ht)
  exact key l 0 (by decide) h
/-- The types that a name stands for. -/
def maskG : List Grp → ByteArray → Nat
  | [], _ => 0
  | g :: r, s => if (g.1.toList == s.toList) = true then maskOf g.2 else maskG r s
theorem maskG_at : ∀ (gs : List Grp) (s : ByteArray) (i : Nat) (g : Grp), gs[i]? = some g → (∀ x ∈ gs.take i, (x.1.toList == s.toList) = false) → (g.1.toList == s.toList) = true → maskG gs s = maskOf g.2 := by
  intro gs
  induction gs with
  | nil => intro s i g h; simp at h
  | cons y r ih =>
    intro s i g h hn he
    rw [maskG]
    cases i with
    | zero =>
      obtain rfl : y = g := by simpa using h
      rw [if_pos he]
    | succ i =>
      have hy := hn y (by simp)
      rw [if_neg (by rw [hy]; simp)]
      exact ih s i g (by simpa using h) (fun x hx => hn x (by simp; exact .inr hx)) he
theorem maskG_none (s : ByteArray) : ∀ (gs : List Grp), (∀ x ∈ gs, (x.1.toList == s.toList) = false) → maskG gs s = 0 := by
  intro gs
  induction gs with
  | nil => intro _; rfl
  | cons y r ih =>
    intro h
    rw [maskG, if_neg (by rw [h y (List.mem_cons_self ..)]; simp)]
    exact ih (fun x hx => h x (List.mem_cons_of_mem _ hx))
theorem maskG_lt (gs : List Grp) (hr : rightG gs = true) (s : ByteArray) : maskG gs s < 65536 := by
  unfold rightG at hr
  rw [Bool.and_eq_true] at hr
  have h := hr.2
  clear hr
  induction gs with
  | nil => show 0 < 65536; decide
  | cons y r ih =>
    rw [List.all_cons, Bool.and_eq_true] at h
    rw [maskG]
    split
    · refine maskOf_lt _ ?_
      have := h.1
      unfold rightTs at this
      rw [Bool.and_eq_true] at this
      exact this.2
    · exact ih h.2
set_option maxRecDepth 100000 in
set_option maxHeartbeats 2000000 in
theorem typesof_calls (s : ByteArray) (a : Option Addr) (len cap : Nat) (gs : List Grp) (w : World) (h : Groups w a len gs) (hr : rightG gs = true) :
    Calls Tryz.prog 133 #[.string s, .slice a len cap] w fun e w' => e = .returned (.int .u16 (maskG gs s : Int)) ∧ Below w.heap.size w w' := by
  obtain ⟨hl, hz, _⟩ := id h
  obtain ⟨R, hR⟩ : ∃ R, maskG gs s = R := ⟨_, rfl⟩
  rw [hR]
  have HR : Hid (maskG gs s = R) := hR
  clear hR
  have hlen : len ≤ 16 := by
    unfold rightG at hr
    rw [Bool.and_eq_true, hl] at hr
    exact of_decide_eq_true hr.1
  have hgr : ∀ g ∈ gs, rightTs g.2 = true := by
    unfold rightG at hr
    rw [Bool.and_eq_true] at hr
    exact List.all_eq_true.1 hr.2
  clear hr
  go_enter Tryz.func133, Tryz.ntmps133
  go_wp2
  go_loopw [12] (fun i w' => ∃ j : Nat, j ≤ len ∧ i = .int .i64 (j : Int) ∧ (∀ x ∈ gs.take j, (x.1.toList == s.toList) = false) ∧ Below w.heap.size w w') (fun i _ => len - (intOf i).toNat)
  case atStart => exact ⟨0, by omega, rfl, by simp, Below.refl _ _⟩
  case round =>
    obtain ⟨i, hi, rfl, hT, hB⟩ := hrel
    by_cases hlt : i < len
    · obtain ⟨b, o, g, a', len', cap', rfl, hg, hI, hc⟩ := h.at hlt
      obtain ⟨c0, c1⟩ := hc wr hB
      obtain ⟨hl2, hz2, _⟩ := id hI
      have hrt := hgr g (List.mem_of_getElem? hg)
      obtain ⟨nm, zs⟩ := g
      simp only at hI hl2 c0 hrt
      have HB0 : Hid (∀ o, Below w.heap.size w (wr.alloc o)) := fun o => hB.alloc hB.size o
      cases he : (nm.toList == s.toList) with
      | false =>
        have HN : Hid (∀ x ∈ gs.take (i + 1), (x.1.toList == s.toList) = false) := by
          intro x hx
          rw [List.take_add_one, hg] at hx
          rcases List.mem_append.1 hx with hx | hx
          · exact hT x hx
          · simp at hx
            rw [hx]
            exact he
        clear hc hI hg hT hgr h hrt
        go_wp2
        go_roundw
        case rel => exact ⟨i + 1, by omega, rfl, HN.out, HB0.out _⟩
        case measure => simp [intOf]; omega
      | true =>
        have HM : Hid (R = maskOf zs) := by
          show _ = _
          rw [← HR.out]
          exact maskG_at gs s i (nm, zs) hg hT he
        have hlen2 : len' ≤ 16 ∧ zs.all isTy = true := by
          unfold rightTs at hrt
          rw [Bool.and_eq_true, hl2] at hrt
          exact ⟨of_decide_eq_true hrt.1, hrt.2⟩
        have hty : Hid (∀ (i : Nat) (x : Int), zs[i]? = some x → 0 ≤ x ∧ x < 16) := fun i x hx => by
          have := List.all_eq_true.1 hlen2.2 x (List.mem_of_getElem? hx)
          unfold isTy at this
          simpa using this
        have hml : Hid (∀ j, maskOf (zs.take j) < 65536) := fun j => maskOf_lt _ (by
          rw [List.all_eq_true]
          intro x hx
          exact List.all_eq_true.1 hlen2.2 x (List.mem_of_mem_take hx))
        have hlen3 := hlen2.1
        have hBI : Hid (∀ W, Below w.heap.size w W → ∀ i : Nat, i < len' → ∃ b o x, a' = some ⟨b, o, none⟩ ∧ zs[i]? = some x ∧ W.cell? ⟨b, o + i, none⟩ = some (.int .i64 x)) := fun W hW i hi => by
          obtain ⟨b, o, x, h1, h2, h3⟩ := hI.at hi
          exact ⟨b, o, x, h1, h2, h3 W hW⟩
        clear hc hI hg hT hgr h hrt hlen2
        go_wp2
        go_loopw [7, 23] (fun m i2 w' => ∃ j : Nat, j ≤ len' ∧ i2 = .int .i64 (j : Int) ∧ m = .int .u16 (maskOf (zs.take j) : Int) ∧ w' = (wr.alloc (.cells #[.string nm, .slice a' len' cap'] 73))) (fun _ i2 _ => len' - (intOf i2).toNat)
        case atStart => exact ⟨0, by omega, rfl, rfl, rfl⟩
        case round =>
          obtain ⟨j, hj, rfl, rfl, rfl⟩ := hrel
          have hm := hml.out j
          by_cases hlt2 : j < len'
          · obtain ⟨b2, o2, x, rfl, hx, hc2⟩ := hBI.out (wr.alloc (.cells #[.string nm, .slice a' len' cap'] 73)) (HB0.out _) j hlt2
            obtain ⟨x0, x1⟩ := hty.out j x hx
            have HS2 : Hid (maskOf (zs.take (j + 1)) = maskOf (zs.take j) ||| 2 ^ x.toNat) := by show _ = _; rw [List.take_add_one, hx]; exact maskOf_snoc _ _
            have hor := u16_or_nat (maskOf (zs.take j)) (2 ^ x.toNat) hm (pow_lt x x1)
            clear hx
            generalize maskOf (zs.take j) = m at *
            go_wp2
            go_roundw
            case rel => exact ⟨j + 1, by omega, rfl, by rw [wrap_pow x x1, hor, HS2.out], by first | rfl | trivial⟩
            case measure => simp [intOf]; omega
          · obtain rfl : j = len' := by omega
            rw [List.take_of_length_le (Nat.le_of_eq hl2), ← HM.out]
            go_wp2
            go_ret
            exact ⟨rfl, HB0.out _⟩
    · obtain rfl : i = len := by omega
      have HF : Hid (R = 0) := by
        show _ = _
        rw [← HR.out]
        rw [List.take_of_length_le (Nat.le_of_eq hl)] at hT
        exact maskG_none s gs hT
      clear hT h hgr
      go_wp2
      go_ret
      exact ⟨by rw [HF.out]; rfl, hB⟩
end Go.Proofs.YtofkiaeocfpkeaaGreatDoor

/- Nmd: reg's named and Check at every tree and all groups: what they return; nothing that lay before is turned. -/
namespace Go.Proofs.YtofkiaeocfpkeaaGreatDoor
open Go.RowKit

/-- Has each name a type? -/
def nmd (gs : List Grp) : Nat → DataW Unit → Bool
  | 0, _ => true
  | n + 1, t => if kindT t = 1 then !(((maskG gs (nameT t) : Nat) : Int) == 0) else (subs t).all (nmd gs n)
set_option maxRecDepth 100000 in
set_option maxHeartbeats 2000000 in
theorem named_calls (ga : Option Addr) (gl gc : Nat) (gs : List Grp) (hr : rightG gs = true) : ∀ (n : Nat) (t : DataW Unit) (v : Value) (w : World), Ex w n t v → Groups w ga gl gs →
    Calls Tryz.prog 131 #[v, .slice ga gl gc] w fun e w' => e = .returned (.bool (nmd gs n t)) ∧ Below w.heap.size w w' := by
  intro n
  induction n with
  | zero => intro t v w h; exact h.elim
  | succ n ih =>
    intro t v w h hG
    obtain ⟨k, s, a, len, cap, ts, rfl, rfl, hl, hz, hk⟩ := h
    have HB0 : Hid (∀ o, Below w.heap.size w (w.alloc o)) := fun o => (Below.refl _ w).alloc (Nat.le_refl _) _
    rw [nmd, kindT_node, subs_node, nameT_node]
    by_cases k1 : k = 1
    · subst k1
      rw [if_pos rfl]
      have HT : Hid (∀ W, Below w.heap.size w W → Calls Tryz.prog 133 #[.string s, .slice ga gl gc] W fun e w' => e = .returned (.int .u16 (maskG gs s : Int)) ∧ Below W.heap.size W w') := fun W hW => typesof_calls s ga gl gc gs W (hG.below hW) hr
      generalize ((maskG gs s : Nat) : Int) = m at *
      clear hk ih hG
      cases hm : (m == 0) with
      | true =>
        have hm2 : (m != 0) = false := by simp [bne, hm]
        go_enter Tryz.func131, Tryz.ntmps131
        go_wp2_with fail
        refine (HT.out _ (HB0.out _)).mono ?_
        rintro e W ⟨rfl, hW⟩
        go_wp2
        go_ret
        exact ⟨rfl, (HB0.out _).trans (hW.mono (by simp))⟩
      | false =>
        have hm2 : (m != 0) = true := by simp [bne, hm]
        go_enter Tryz.func131, Tryz.ntmps131
        go_wp2_with fail
        refine (HT.out _ (HB0.out _)).mono ?_
        rintro e W ⟨rfl, hW⟩
        go_wp2
        go_ret
        exact ⟨rfl, (HB0.out _).trans (hW.mono (by simp))⟩
    · rw [if_neg k1]
      have e1 : (k == 1) = false := by simpa using k1
      obtain ⟨R, hR⟩ : ∃ R, ts.all (nmd gs n) = R := ⟨_, rfl⟩
      rw [hR]
      have HR : Hid (ts.all (nmd gs n) = R) := hR
      clear hR
      go_enter Tryz.func131, Tryz.ntmps131
      go_wp2
      go_loopw [18] (fun i w' => ∃ j : Nat, j ≤ len ∧ i = .int .i64 (j : Int) ∧ (ts.take j).all (nmd gs n) = true ∧ Below (w.alloc (.cells #[.int .i64 k, .string s, .slice a len cap] 26)).heap.size (w.alloc (.cells #[.int .i64 k, .string s, .slice a len cap] 26)) w') (fun i _ => len - (intOf i).toNat)
      case atStart => exact ⟨0, by omega, rfl, rfl, Below.refl _ _⟩
      case round =>
        obtain ⟨i, hi, rfl, hT, hB⟩ := hrel
        obtain ⟨-, -, -, hBw⟩ := one_kept hB
        by_cases hlt : i < len
        · obtain ⟨b, o, x, kx, sx, ax, lx, cx, rfl, _, hx, hcx⟩ := kid_at hl hk hlt
          obtain ⟨p0, p1, p2, p3⟩ := hcx wr hBw
          have HI : Hid ((ts.take (i + 1)).all (nmd gs n) = nmd gs n x) := by show _ = _; rw [allI_step hx, hT, Bool.true_and]
          have HO : Hid (nmd gs n x = false → R = false) := fun e => by rw [← HR.out]; exact allI_not hx e
          have HC : Hid (∀ W, Below wr.heap.size wr W → Calls Tryz.prog 131 #[.agg #[.int .i64 kx, .string sx, .slice ax lx cx], .slice ga gl gc] W fun e w' => e = .returned (.bool (nmd gs n x)) ∧ Below W.heap.size W w') := fun W hW => ih x _ W (Ex.below hW _ _ _ p3) ((hG.below hBw).below hW)
          have HW : Hid (∀ o, Below wr.heap.size wr (wr.alloc o)) := fun o => (Below.refl _ wr).alloc (Nat.le_refl _) _
          clear hcx hk p3 hx ih hT hG
          generalize nmd gs n x = q at *
          cases q with
          | false =>
            have HF : Hid (R = false) := HO.out rfl
            clear HO
            go_wp2_with fail
            refine (HC.out _ (HW.out _)).mono ?_
            rintro e W2 ⟨rfl, hW2⟩
            have hB2 : Below wr.heap.size wr W2 := (HW.out _).trans (hW2.mono (by simp))
            go_wp2
            go_ret
            exact ⟨by rw [HF.out]; rfl, hBw.trans (hB2.mono hBw.size)⟩
          | true =>
            clear HO
            go_wp2_with fail
            refine (HC.out _ (HW.out _)).mono ?_
            rintro e W2 ⟨rfl, hW2⟩
            have hB2 : Below wr.heap.size wr W2 := (HW.out _).trans (hW2.mono (by simp))
            go_wp2
            go_roundw
            case rel => exact ⟨i + 1, by omega, rfl, HI.out, hB.trans (hB2.mono hB.size)⟩
            case measure => simp [intOf]; omega
        · obtain rfl : i = len := by omega
          have HF : Hid (R = true) := by
            show R = true
            rw [← HR.out, ← hT, List.take_of_length_le (Nat.le_of_eq hl)]
          clear hk ih hT hG
          go_wp2
          go_ret
          exact ⟨by rw [HF.out]; rfl, hBw⟩
/-- What reg.Check answers. -/
def chk (n : Nat) (t : DataW Unit) (gs : List Grp) : Int := if checkE n t = 0 then (if rightG gs = true then (if nmd gs n t = true then 0 else 6) else 1) else checkE n t
set_option maxRecDepth 100000 in
set_option maxHeartbeats 2000000 in
theorem rcheck_calls (n : Nat) (t : DataW Unit) (v : Value) (ga : Option Addr) (gl gc : Nat) (gs : List Grp) (w : World) (h : Ex w n t v) (hN : named n t) (hG : Groups w ga gl gs) :
    Calls Tryz.prog 88 #[v, .slice ga gl gc] w fun e w' => e = .returned (.int .i64 (chk n t gs)) ∧ Below w.heap.size w w' := by
  have H1 : Hid (∀ W, Below w.heap.size w W → Calls Tryz.prog 85 #[v] W fun e w' => e = .returned (.int .i64 (checkE n t)) ∧ Below W.heap.size W w') := fun W hW => check_calls n t v W (Ex.below hW _ _ _ h) hN
  have H2 : Hid (∀ W, Below w.heap.size w W → Calls Tryz.prog 130 #[.slice ga gl gc] W fun e w' => e = .returned (.bool (rightG gs)) ∧ Below W.heap.size W w') := fun W hW => rightgroups_calls ga gl gc gs W (hG.below hW)
  have H3 : Hid (rightG gs = true → ∀ W, Below w.heap.size w W → Calls Tryz.prog 131 #[v, .slice ga gl gc] W fun e w' => e = .returned (.bool (nmd gs n t)) ∧ Below W.heap.size W w') := fun hr W hW => named_calls ga gl gc gs hr n t v W (Ex.below hW _ _ _ h) (hG.below hW)
  unfold chk
  generalize checkE n t = c at *
  generalize rightG gs = r at *
  generalize nmd gs n t = q at *
  have HB0 : Hid (∀ o, Below w.heap.size w (w.alloc o)) := fun o => (Below.refl _ w).alloc (Nat.le_refl _) _
  obtain ⟨k, s, a, len, cap, rfl⟩ : ∃ k s a len cap, v = .agg #[.int .i64 k, .string s, .slice a len cap] := by
    cases n with
    | zero => exact h.elim
    | succ n => obtain ⟨k, s, a, len, cap, ts, _, rfl, _⟩ := h; exact ⟨k, s, a, len, cap, rfl⟩
  have HF0 : Hid (∀ W : World, Below (w.alloc (.cells #[.int .i64 k, .string s, .slice a len cap] 26)).heap.size (w.alloc (.cells #[.int .i64 k, .string s, .slice a len cap] 26)) W → W.cell? ⟨w.heap.size, 0, none⟩ = some (.int .i64 k) ∧ W.cell? ⟨w.heap.size, 1, none⟩ = some (.string s) ∧ W.cell? ⟨w.heap.size, 2, none⟩ = some (.slice a len cap) ∧ Below w.heap.size w W) := fun W hW => one_kept hW
  clear h hN hG
  by_cases hc : c = 0
  · subst hc
    rw [if_pos rfl]
    cases r with
    | false =>
      rw [if_neg (by decide)]
      clear H3
      go_enter Tryz.func88, Tryz.ntmps88
      go_wp2_with fail
      refine (H1.out _ (HB0.out _)).mono ?_
      rintro e W ⟨rfl, hW⟩
      obtain ⟨c0, c1, c2, hBw⟩ := HF0.out W hW
      go_wp2_with fail
      refine (H2.out _ hBw).mono ?_
      rintro e W2 ⟨rfl, hW2⟩
      go_wp2
      go_ret
      exact ⟨rfl, hBw.trans (hW2.mono hBw.size)⟩
    | true =>
      rw [if_pos rfl]
      have H3' : Hid (∀ W, Below w.heap.size w W → Calls Tryz.prog 131 #[.agg #[.int .i64 k, .string s, .slice a len cap], .slice ga gl gc] W fun e w' => e = .returned (.bool q) ∧ Below W.heap.size W w') := H3.out rfl
      clear H3
      cases q with
      | false =>
        rw [if_neg (by decide)]
        go_enter Tryz.func88, Tryz.ntmps88
        go_wp2_with fail
        refine (H1.out _ (HB0.out _)).mono ?_
        rintro e W ⟨rfl, hW⟩
        obtain ⟨c0, c1, c2, hBw⟩ := HF0.out W hW
        go_wp2_with fail
        refine (H2.out _ hBw).mono ?_
        rintro e W2 ⟨rfl, hW2⟩
        have hB2 : Below (w.alloc (.cells #[.int .i64 k, .string s, .slice a len cap] 26)).heap.size (w.alloc (.cells #[.int .i64 k, .string s, .slice a len cap] 26)) W2 := hW.trans (hW2.mono hW.size)
        obtain ⟨d0, d1, d2, hBw2⟩ := HF0.out W2 hB2
        clear c0 c1 c2
        go_wp2_with fail
        refine (H3'.out _ hBw2).mono ?_
        rintro e W3 ⟨rfl, hW3⟩
        go_wp2
        go_ret
        exact ⟨rfl, hBw2.trans (hW3.mono hBw2.size)⟩
      | true =>
        rw [if_pos rfl]
        go_enter Tryz.func88, Tryz.ntmps88
        go_wp2_with fail
        refine (H1.out _ (HB0.out _)).mono ?_
        rintro e W ⟨rfl, hW⟩
        obtain ⟨c0, c1, c2, hBw⟩ := HF0.out W hW
        go_wp2_with fail
        refine (H2.out _ hBw).mono ?_
        rintro e W2 ⟨rfl, hW2⟩
        have hB2 : Below (w.alloc (.cells #[.int .i64 k, .string s, .slice a len cap] 26)).heap.size (w.alloc (.cells #[.int .i64 k, .string s, .slice a len cap] 26)) W2 := hW.trans (hW2.mono hW.size)
        obtain ⟨d0, d1, d2, hBw2⟩ := HF0.out W2 hB2
        clear c0 c1 c2
        go_wp2_with fail
        refine (H3'.out _ hBw2).mono ?_
        rintro e W3 ⟨rfl, hW3⟩
        go_wp2
        go_ret
        exact ⟨rfl, hBw2.trans (hW3.mono hBw2.size)⟩
  · rw [if_neg hc]
    have e0 : (c == 0) = false := by simpa using hc
    have e1 : (c != 0) = true := by simp [bne, e0]
    clear H2 H3
    go_enter Tryz.func88, Tryz.ntmps88
    go_wp2_with fail
    refine (H1.out _ (HB0.out _)).mono ?_
    rintro e W ⟨rfl, hW⟩
    obtain ⟨c0, c1, c2, hBw⟩ := HF0.out W hW
    go_wp2
    go_ret
    exact ⟨rfl, hBw⟩
end Go.Proofs.YtofkiaeocfpkeaaGreatDoor
