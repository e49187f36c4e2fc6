/-
  PROVED HERE: whether a tree is right, by the document's own right, and its Check: what they return; nothing that lay before is turned.
-/
import Derived.Test.YtafidabopcgkhaaDoorCount
import Derived.Test.YtafidabopcgkhaaDoorLetters
import Derived.WalkSmall
namespace Go.Proofs.YtafidabopcgkhaaDoor
open Go.RowKit

/-- What a tree of that kind, name and parts asks beside its parts. -/
def shapely (k : Int) (s : ByteArray) (ts : List (DataW Unit)) : Bool :=
  if k = 0 then s.toList.isEmpty && ts.length == 0
  else if k = 1 then letters s && ts.length == 0
  else if k = 4 ∨ k = 5 ∨ k = 6 then s.toList.isEmpty && ts.length == 1
  else if k = 2 ∨ k = 3 then ts.all (fun x => !(kindT x == k)) && (s.toList.isEmpty && decide (2 ≤ ts.length))
  else false
def nameT : DataW Unit → ByteArray
  | .agg [_, .lit (.string l), _] => ⟨l.toArray⟩
  | _ => ⟨#[]⟩
theorem nameT_node (k : Int) (s : ByteArray) (ts : List (DataW Unit)) : nameT (node k s ts) = s := by
  show (⟨s.data.toList.toArray⟩ : ByteArray) = s
  rw [Array.toArray_toList]
def rightE : Nat → DataW Unit → Bool
  | 0, _ => false
  | n + 1, t => (subs t).all (fun x => !(kindT x == 0) && rightE n x) && shapely (kindT t) (nameT t) (subs t)
theorem all_step {p : DataW Unit → Bool} {ts : List (DataW Unit)} {i : Nat} {x : DataW Unit} (h : ts[i]? = some x) : (ts.take (i + 1)).all p = ((ts.take i).all p && p x) := by
  rw [List.take_add_one, h, List.all_append]
  simp
theorem all_not {p : DataW Unit → Bool} {ts : List (DataW Unit)} {i : Nat} {x : DataW Unit} (h : ts[i]? = some x) (hp : p x = false) : ts.all p = false := by
  cases ha : ts.all p with
  | false => rfl
  | true =>
    have := List.all_eq_true.1 ha x (List.mem_of_getElem? h)
    rw [hp] at this
    cases this
theorem ex_kind {w : World} {n : Nat} {x : DataW Unit} {k : Int} {s : ByteArray} {a : Option Addr} {len cap : Nat} (h : Ex w n x (.agg #[.int .i64 k, .string s, .slice a len cap])) : kindT x = k := by
  cases n with
  | zero => exact h.elim
  | succ n =>
    obtain ⟨k', s', a', len', cap', ts', rfl, e, _⟩ := h
    cases e
    rfl
theorem int_beq (i m : Nat) : ((i == m) : Bool) = ((i : Int) == (m : Int)) := by rw [Bool.eq_iff_iff]; simp; omega
theorem int_le (i : Nat) : decide (2 ≤ i) = decide ((2 : Int) ≤ (i : Int)) := by rw [Bool.eq_iff_iff]; simp; omega
/-- The names of a tree are not too long. -/
def named : Nat → DataW Unit → Prop
  | 0, _ => True
  | n + 1, t => (nameT t).size ≤ 1152921504606846976 ∧ ∀ x ∈ subs t, named n x

set_option maxRecDepth 100000 in
set_option maxHeartbeats 4000000 in
theorem right_calls : ∀ (n : Nat) (t : DataW Unit) (v : Value) (w : World), Ex w n t v → named n t →
    Calls Tryd.prog 29 #[v] w fun e w' => e = .returned (.bool (rightE n t)) ∧ Below w.heap.size w w' := by
  intro n
  induction n with
  | zero => intro t v w h; exact h.elim
  | succ n ih =>
    intro t v w h hN
    obtain ⟨k, s, a, len, cap, ts, rfl, rfl, hl, hz, hk⟩ := h
    obtain ⟨hN1, hN2⟩ := hN
    rw [nameT_node] at hN1
    rw [subs_node] at hN2
    rw [rightE, subs_node, kindT_node, nameT_node]
    generalize hp : (fun x => !(kindT x == 0) && rightE n x) = p at *
    have HP : Hid (∀ x, p x = (!(kindT x == 0) && rightE n x)) := fun x => by rw [← hp]
    clear hp
    obtain ⟨R, hR⟩ : ∃ R, (ts.all p && shapely k s ts) = R := ⟨_, rfl⟩
    rw [hR]
    have HR : Hid ((ts.all p && shapely k s ts) = R) := hR
    clear hR
    go_enter Tryd.func29, Tryd.ntmps29
    go_wp2
    go_loopw [3] (fun i w' => ∃ j : Nat, j ≤ len ∧ i = .int .i64 (j : Int) ∧ (ts.take j).all p = true ∧ Below (w.alloc (.cells #[.int .i64 k, .string s, .slice a len cap] 24)).heap.size (w.alloc (.cells #[.int .i64 k, .string s, .slice a len cap] 24)) w') (fun i _ => len - (intOf i).toNat)
    case atStart => exact ⟨0, by omega, rfl, rfl, Below.refl _ _⟩
    case round =>
      obtain ⟨i, hi, rfl, hT, hB⟩ := hrel
      obtain ⟨b0, b1, b2, hBw⟩ := one_kept hB
      by_cases hlt : i < len
      · obtain ⟨b, o, x, kx, sx, ax, lx, cx, rfl, _, hx, hcx⟩ := kid_at hl hk hlt
        obtain ⟨p0, p1, p2, p3⟩ := hcx wr hBw
        have hkx := ex_kind p3
        have hat := all_step (p := p) hx
        rw [hT, Bool.true_and] at hat
        have hpx := HP.out x
        rw [hkx] at hpx
        by_cases z0 : kx = 0
        · subst z0
          have HF : Hid (R = false) := by show R = false; rw [← HR.out, all_not hx (by rw [hpx]; rfl)]; rfl
          clear hcx hk ih p3 hat hpx hx
          go_wp2
          go_ret
          exact ⟨by rw [HF.out]; rfl, hBw⟩
        · have e0 : (kx == 0) = false := by simpa using z0
          rw [e0] at hpx
          have HC := ih x _ wr p3 (hN2 x (List.mem_of_getElem? hx))
          cases hr : rightE n x with
          | false =>
            rw [hr] at hpx HC
            have HF : Hid (R = false) := by show R = false; rw [← HR.out, all_not hx (by rw [hpx]; rfl)]; rfl
            clear hcx hk ih p3 hat hpx hx hr
            go_wp2_with fail
            refine HC.mono ?_
            rintro e W1 ⟨rfl, hB1⟩
            go_wp2
            go_ret
            exact ⟨by rw [HF.out]; rfl, hBw.trans (hB1.mono hBw.size)⟩
          | true =>
            rw [hr] at hpx HC
            rw [hpx] at hat
            have HT : Hid ((ts.take (i + 1)).all p = true) := hat
            clear hcx hk ih p3 hat hpx hx hr hT
            go_wp2_with fail
            refine HC.mono ?_
            rintro e W1 ⟨rfl, hB1⟩
            go_wp2
            go_roundw
            case rel => exact ⟨i + 1, by omega, rfl, HT.out, hB.trans (hB1.mono hB.size)⟩
            case measure => simp [intOf]; omega
      · obtain rfl : i = len := by omega
        rw [List.take_of_length_le (Nat.le_of_eq hl)] at hT
        have HRs : Hid (R = shapely k s ts) := by show R = _; rw [← HR.out, hT, Bool.true_and]
        clear hT HR HP ih hN2
        by_cases k0 : k = 0
        · subst k0
          replace HRs : Hid (R = (s.toList.isEmpty && ((i : Int) == 0))) := by show R = _; rw [HRs.out]; unfold shapely; rw [if_pos rfl, hl, int_beq]; rfl
          clear hk
          cases hs : s.toList.isEmpty with
          | true =>
            have HS : Hid (R = ((i : Int) == 0)) := by show R = _; rw [HRs.out, hs, Bool.true_and]
            clear HRs
            go_wp2
            go_ret
            exact ⟨by rw [HS.out]; rfl, hBw⟩
          | false =>
            have HS : Hid (R = false) := by show R = _; rw [HRs.out, hs]; rfl
            clear HRs
            go_wp2
            go_ret
            exact ⟨by rw [HS.out]; rfl, hBw⟩
        have e0 : (k == 0) = false := by simpa using k0
        by_cases k1 : k = 1
        · subst k1
          replace HRs : Hid (R = (letters s && ((i : Int) == 0))) := by show R = _; rw [HRs.out]; unfold shapely; rw [if_neg (by omega), if_pos rfl, hl, int_beq]; rfl
          have HL := letters_calls s wr hN1
          clear hk
          cases hs : letters s with
          | true =>
            have HS : Hid (R = ((i : Int) == 0)) := by show R = _; rw [HRs.out, hs, Bool.true_and]
            clear HRs
            rw [hs] at HL
            go_wp2_with fail
            refine HL.mono ?_
            rintro e W1 ⟨rfl, hW1⟩
            rw [hW1]
            go_wp2
            go_ret
            exact ⟨by rw [HS.out]; rfl, hBw⟩
          | false =>
            have HS : Hid (R = false) := by show R = _; rw [HRs.out, hs]; rfl
            clear HRs
            rw [hs] at HL
            go_wp2_with fail
            refine HL.mono ?_
            rintro e W1 ⟨rfl, hW1⟩
            rw [hW1]
            go_wp2
            go_ret
            exact ⟨by rw [HS.out]; rfl, hBw⟩
        have e1 : (k == 1) = false := by simpa using k1
        by_cases k4 : k = 4
        · subst k4
          replace HRs : Hid (R = (s.toList.isEmpty && ((i : Int) == 1))) := by show R = _; rw [HRs.out]; unfold shapely; rw [if_neg (by omega), if_neg (by omega), if_pos (by omega), hl, int_beq]; rfl
          clear hk
          cases hs : s.toList.isEmpty with
          | true =>
            have HS : Hid (R = ((i : Int) == 1)) := by show R = _; rw [HRs.out, hs, Bool.true_and]
            clear HRs
            go_wp2
            go_ret
            exact ⟨by rw [HS.out]; rfl, hBw⟩
          | false =>
            have HS : Hid (R = false) := by show R = _; rw [HRs.out, hs]; rfl
            clear HRs
            go_wp2
            go_ret
            exact ⟨by rw [HS.out]; rfl, hBw⟩
        have e4 : (k == 4) = false := by simpa using k4
        by_cases k5 : k = 5
        · subst k5
          replace HRs : Hid (R = (s.toList.isEmpty && ((i : Int) == 1))) := by show R = _; rw [HRs.out]; unfold shapely; rw [if_neg (by omega), if_neg (by omega), if_pos (by omega), hl, int_beq]; rfl
          clear hk
          cases hs : s.toList.isEmpty with
          | true =>
            have HS : Hid (R = ((i : Int) == 1)) := by show R = _; rw [HRs.out, hs, Bool.true_and]
            clear HRs
            go_wp2
            go_ret
            exact ⟨by rw [HS.out]; rfl, hBw⟩
          | false =>
            have HS : Hid (R = false) := by show R = _; rw [HRs.out, hs]; rfl
            clear HRs
            go_wp2
            go_ret
            exact ⟨by rw [HS.out]; rfl, hBw⟩
        have e5 : (k == 5) = false := by simpa using k5
        by_cases k6 : k = 6
        · subst k6
          replace HRs : Hid (R = (s.toList.isEmpty && ((i : Int) == 1))) := by show R = _; rw [HRs.out]; unfold shapely; rw [if_neg (by omega), if_neg (by omega), if_pos (by omega), hl, int_beq]; rfl
          clear hk
          cases hs : s.toList.isEmpty with
          | true =>
            have HS : Hid (R = ((i : Int) == 1)) := by show R = _; rw [HRs.out, hs, Bool.true_and]
            clear HRs
            go_wp2
            go_ret
            exact ⟨by rw [HS.out]; rfl, hBw⟩
          | false =>
            have HS : Hid (R = false) := by show R = _; rw [HRs.out, hs]; rfl
            clear HRs
            go_wp2
            go_ret
            exact ⟨by rw [HS.out]; rfl, hBw⟩
        have e6 : (k == 6) = false := by simpa using k6
        by_cases k2 : k = 2
        · subst k2
          replace HRs : Hid (R = (ts.all (fun x => !(kindT x == 2)) && (s.toList.isEmpty && decide ((2 : Int) ≤ (i : Int))))) := by show R = _; rw [HRs.out]; unfold shapely; rw [if_neg (by omega), if_neg (by omega), if_neg (by omega), if_pos (by omega), hl, int_le]
          go_wp2
          go_loopw [4] (fun u w' => ∃ j : Nat, j ≤ i ∧ u = .int .i64 (j : Int) ∧ (ts.take j).all (fun x => !(kindT x == 2)) = true ∧ Below (w.alloc (.cells #[.int .i64 2, .string s, .slice a i cap] 24)).heap.size (w.alloc (.cells #[.int .i64 2, .string s, .slice a i cap] 24)) w') (fun u _ => i - (intOf u).toNat)
          case atStart => exact ⟨0, by omega, rfl, rfl, hB⟩
          case round =>
            rename_i wr0
            clear b0 b1 b2 hBw hB
            obtain ⟨j, hj, rfl, hT, hB⟩ := hrel
            obtain ⟨b0, b1, b2, hBw⟩ := one_kept hB
            by_cases hlt2 : j < i
            · obtain ⟨b, o, x, kx, sx, ax, lx, cx, rfl, _, hx, hcx⟩ := kid_at hl hk hlt2
              obtain ⟨p0, p1, p2, p3⟩ := hcx _ hBw
              have hkx := ex_kind p3
              have hat := all_step (p := fun x => !(kindT x == 2)) hx
              rw [hT, Bool.true_and] at hat
              simp only [hkx] at hat
              have hno := all_not (p := fun x => !(kindT x == 2)) hx
              simp only [hkx] at hno
              cases hq : kx == 2 with
              | true =>
                have HS : Hid (R = false) := by show R = _; rw [HRs.out, hno (by rw [hq]; rfl)]; rfl
                clear hcx hk p3 hat hno hx hT HRs
                go_wp2_with fail
                go_quiet (fail)
                go_wp2
                go_ret
                exact ⟨by rw [HS.out]; rfl, below_drewN hBw _⟩
              | false =>
                rw [hq] at hat
                have HT : Hid ((ts.take (j + 1)).all (fun x => !(kindT x == 2)) = true) := hat
                clear hcx hk p3 hat hno hx hT
                go_wp2_with fail
                go_quiet (fail)
                go_wp2
                go_roundw
                case rel => exact ⟨j + 1, by omega, rfl, HT.out, below_drewN hB _⟩
                case measure => simp [intOf]; omega
            · obtain rfl : j = i := by omega
              rw [List.take_of_length_le (Nat.le_of_eq hl)] at hT
              replace HRs : Hid (R = (s.toList.isEmpty && decide ((2 : Int) ≤ (j : Int)))) := by show R = _; rw [HRs.out, hT, Bool.true_and]
              clear hk hT
              cases hs : s.toList.isEmpty with
              | true =>
                have HS : Hid (R = decide ((2 : Int) ≤ (j : Int))) := by show R = _; rw [HRs.out, hs, Bool.true_and]
                clear HRs
                go_wp2
                go_ret
                exact ⟨by rw [HS.out]; rfl, hBw⟩
              | false =>
                have HS : Hid (R = false) := by show R = _; rw [HRs.out, hs]; rfl
                clear HRs
                go_wp2
                go_ret
                exact ⟨by rw [HS.out]; rfl, hBw⟩
        have e2 : (k == 2) = false := by simpa using k2
        by_cases k3 : k = 3
        · subst k3
          replace HRs : Hid (R = (ts.all (fun x => !(kindT x == 3)) && (s.toList.isEmpty && decide ((2 : Int) ≤ (i : Int))))) := by show R = _; rw [HRs.out]; unfold shapely; rw [if_neg (by omega), if_neg (by omega), if_neg (by omega), if_pos (by omega), hl, int_le]
          go_wp2
          go_loopw [4] (fun u w' => ∃ j : Nat, j ≤ i ∧ u = .int .i64 (j : Int) ∧ (ts.take j).all (fun x => !(kindT x == 3)) = true ∧ Below (w.alloc (.cells #[.int .i64 3, .string s, .slice a i cap] 24)).heap.size (w.alloc (.cells #[.int .i64 3, .string s, .slice a i cap] 24)) w') (fun u _ => i - (intOf u).toNat)
          case atStart => exact ⟨0, by omega, rfl, rfl, hB⟩
          case round =>
            rename_i wr0
            clear b0 b1 b2 hBw hB
            obtain ⟨j, hj, rfl, hT, hB⟩ := hrel
            obtain ⟨b0, b1, b2, hBw⟩ := one_kept hB
            by_cases hlt2 : j < i
            · obtain ⟨b, o, x, kx, sx, ax, lx, cx, rfl, _, hx, hcx⟩ := kid_at hl hk hlt2
              obtain ⟨p0, p1, p2, p3⟩ := hcx _ hBw
              have hkx := ex_kind p3
              have hat := all_step (p := fun x => !(kindT x == 3)) hx
              rw [hT, Bool.true_and] at hat
              simp only [hkx] at hat
              have hno := all_not (p := fun x => !(kindT x == 3)) hx
              simp only [hkx] at hno
              cases hq : kx == 3 with
              | true =>
                have HS : Hid (R = false) := by show R = _; rw [HRs.out, hno (by rw [hq]; rfl)]; rfl
                clear hcx hk p3 hat hno hx hT HRs
                go_wp2_with fail
                go_quiet (fail)
                go_wp2
                go_ret
                exact ⟨by rw [HS.out]; rfl, below_drewN hBw _⟩
              | false =>
                rw [hq] at hat
                have HT : Hid ((ts.take (j + 1)).all (fun x => !(kindT x == 3)) = true) := hat
                clear hcx hk p3 hat hno hx hT
                go_wp2_with fail
                go_quiet (fail)
                go_wp2
                go_roundw
                case rel => exact ⟨j + 1, by omega, rfl, HT.out, below_drewN hB _⟩
                case measure => simp [intOf]; omega
            · obtain rfl : j = i := by omega
              rw [List.take_of_length_le (Nat.le_of_eq hl)] at hT
              replace HRs : Hid (R = (s.toList.isEmpty && decide ((2 : Int) ≤ (j : Int)))) := by show R = _; rw [HRs.out, hT, Bool.true_and]
              clear hk hT
              cases hs : s.toList.isEmpty with
              | true =>
                have HS : Hid (R = decide ((2 : Int) ≤ (j : Int))) := by show R = _; rw [HRs.out, hs, Bool.true_and]
                clear HRs
                go_wp2
                go_ret
                exact ⟨by rw [HS.out]; rfl, hBw⟩
              | false =>
                have HS : Hid (R = false) := by show R = _; rw [HRs.out, hs]; rfl
                clear HRs
                go_wp2
                go_ret
                exact ⟨by rw [HS.out]; rfl, hBw⟩
        have e3 : (k == 3) = false := by simpa using k3
        have HS : Hid (R = false) := by show R = _; rw [HRs.out]; unfold shapely; rw [if_neg (by omega), if_neg (by omega), if_neg (by omega), if_neg (by omega)]
        clear hk HRs
        go_wp2
        go_ret
        exact ⟨by rw [HS.out]; rfl, hBw⟩
end Go.Proofs.YtafidabopcgkhaaDoor
