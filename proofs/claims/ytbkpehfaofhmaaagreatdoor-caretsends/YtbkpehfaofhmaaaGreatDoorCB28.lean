/-
  PROVED HERE: what the texts DBPop, DBEq, DBFTok, DBFCheck say (each has its own words below).
-/
import Derived.Test.YtbkpehfaofhmaaaGreatDoorCB27
import Derived.Test.YtbkpehfaofhmaaaGreatDoorCB7
import Derived.WalkSmall
import Derived.BigQuiet
import Derived.Deep.QuietTactic
import Derived.Laws.StructEq
/- DBPop: the stack's pop, top and pass: what they leave and return; nothing else that lay before is turned. -/
namespace Go.Proofs.YtbkpehfaofhmaaaGreatDoor
open Go.RowKit
theorem KeptS.trans {g : Nat} {v : Option Nat} {a b c : World} (h : KeptS g v a b) (k : KeptS g v b c) : KeptS g v a c :=
 ⟨k.os.trans h.os, k.tape.trans h.tape, k.output.trans h.output, Nat.le_trans h.size k.size, fun i h1 h2 h3 => (k.block i (Nat.lt_of_lt_of_le h1 h.size) h2 h3).trans (h.block i h1 h2 h3)⟩
theorem Stk.alloc {w : World} {base g : Nat} {v : Value} {R : List Int} (h : Stk w base g v R) (o : Obj) : Stk (w.alloc o) base g v R := by
 have hlt := h.cells.2.2.2.2.2
 obtain ⟨h0, h1, cs, hg, hc⟩ := h
 refine ⟨h0, h1.alloc o, cs, ?_, hc⟩
 rw [Below.heap_alloc w o g hlt]
 exact hg
theorem dropLast_getD {R : List Int} {i : Nat} (h : i < R.dropLast.length) : R.dropLast.getD i 0 = R.getD i 0 := by
 simp only [List.length_dropLast] at h
 rw [List.getD_eq_getElem?_getD, List.getD_eq_getElem?_getD, List.getElem?_dropLast, if_pos h]
theorem dropLast_drop (R : List Int) (h : 32 <= R.length) : (R.dropLast).drop 32 = (R.drop 32).dropLast := by
 simp [List.dropLast_eq_take, List.drop_take]
 omega
theorem stk_pop_low {w : World} {base g : Nat} {v : Value} {R : List Int} (h : Stk w base g v R) (h0 : 0 < R.length) (hR : R.length <= 32) (w' : World)
  (hw : w' = w.setCell ⟨g, 33, none⟩ (.int .i64 ((R.length : Int) - 1))) : Stk w' base g v R.dropLast := by
 subst hw
 have hap := h.apart
 obtain ⟨g0, h1, cs, hg, c0, c1, c2, c3, c4⟩ := h
 refine ⟨g0, ?_, cs.setIfInBounds 33 (.int .i64 ((R.length : Int) - 1)), heap_setCell_same _ g 33 _ _ _ hg, by simpa using c0, fun i hi hr => ?_, fun i hi => ?_, ?_, ?_⟩
 ·rw [show R.dropLast.length - 32 = R.length - 32 from by simp; omega, show R.dropLast.drop 32 = R.drop 32 from by rw [List.drop_eq_nil_of_le (by simp; omega), List.drop_eq_nil_of_le (by omega)]]
  exact own_set h1 _ _ _ hap
 ·rw [Array.getElem?_setIfInBounds_ne (by omega), dropLast_getD hr]
  exact c1 i hi (by simp at hr; omega)
 ·rw [Array.getElem?_setIfInBounds_ne (by omega)]
  exact c2 i hi
 ·rw [Array.getElem?_setIfInBounds_ne (by omega), c3]
 ·rw [Array.getElem?_setIfInBounds_self_of_lt (by omega), List.length_dropLast]
  simp
  omega
theorem stk_pop_high {w : World} {base g : Nat} {v : Value} {R : List Int} (h : Stk w base g v R) {m : Nat} (hR : R.length = m + 33) :
  ∃ b cap, v = .slice (some ⟨b, 0, none⟩) (m + 1) cap /\ m + 1 <= cap /\ cap <= maxLen /\ ∀ w' : World, w' = (w.setCell ⟨g, 33, none⟩ (.int .i64 ((m + 33 : Nat) - 1 : Int))).setCell ⟨g, 32, none⟩ (.slice (some ⟨b, 0, none⟩) m cap) -> Stk w' base g (.slice (some ⟨b, 0, none⟩) m cap) R.dropLast := by
 have hap := h.apart
 obtain ⟨g0, h1, cs, hg, c0, c1, c2, c3, c4⟩ := h
 rw [hR, show m + 33 - 32 = m + 1 from by omega] at h1
 obtain ⟨b, cap, rfl, k1, k2, k3⟩ := owns_shrink h1
 refine ⟨b, cap, rfl, k1, k2, fun w' hw => ?_⟩
 subst hw
 have hap2 : (Value.slice (some ⟨b, 0, none⟩) m cap).ownBlock ≠ some g := hap
 refine ⟨g0, ?_, (cs.setIfInBounds 33 (.int .i64 ((m + 33 : Nat) - 1 : Int))).setIfInBounds 32 (.slice (some ⟨b, 0, none⟩) m cap), heap_setCell_same _ g 32 _ _ _ (heap_setCell_same _ g 33 _ _ _ hg), by simpa using c0, fun i hi hr => ?_, fun i hi => ?_, ?_, ?_⟩
 ·rw [List.length_dropLast, hR, show m + 33 - 1 - 32 = m from by omega, dropLast_drop R (by omega)]
  exact own_set (own_set k3 _ _ _ hap2) _ _ _ hap2
 ·rw [Array.getElem?_setIfInBounds_ne (by omega), Array.getElem?_setIfInBounds_ne (by omega), dropLast_getD hr]
  exact c1 i hi (by simp at hr; omega)
 ·rw [Array.getElem?_setIfInBounds_ne (by omega), Array.getElem?_setIfInBounds_ne (by omega)]
  exact c2 i hi
 ·rw [Array.getElem?_setIfInBounds_self_of_lt (by simp; omega)]
 ·rw [Array.getElem?_setIfInBounds_ne (by omega), Array.getElem?_setIfInBounds_self_of_lt (by omega), List.length_dropLast, hR]
  simp
  omega
set_option maxRecDepth 100000 in
set_option maxHeartbeats 2000000 in
theorem fpop_calls (base g : Nat) (v : Value) (R : List Int) (w : World) (h : Stk w base g v R) (hR2 : R.length <= 4398046511104) :
  Calls Tryz.prog 107 #[.pointer (some ⟨g, 0, none⟩)] w fun e w' => e = .returned (.tuple #[]) /\ ∃ v', Stk w' base g v' R.dropLast /\ KeptS g v.ownBlock w w' /\ v'.ownBlock = v.ownBlock := by
 obtain ⟨c1, c2, c3, c4, f, hg⟩ := h.cells
 have f32 := f 32
 have f33 := f 33
 clear c3 c4 f
 by_cases h0 : R.length = 0
 ·have HS : Hid (Stk w base g v R.dropLast) := by show Stk w base g v R.dropLast; rw [dropLast_none h0]; exact h
  rw [h0] at c2
  clear c1 h hR2
  generalize R.dropLast = R' at *
  go_enter Tryz.func107, Tryz.ntmps107
  go_wp2
  refine bodyPost_ret (results_none (by rfl) _ _ _) rfl ?_
  exact ⟨rfl, v, HS.out, KeptS.refl _ _ _, rfl⟩
 by_cases h1 : R.length <= 32
 ·have HS : Hid (∀ w' : World, w' = w.setCell ⟨g, 33, none⟩ (.int .i64 ((R.length : Int) - 1)) -> Stk w' base g v R.dropLast) := fun w' hw => stk_pop_low h (by omega) h1 w' hw
  clear c1 h hR2
  generalize R.dropLast = R' at *
  generalize R.length = n at *
  have e0 : ((n : Int) == 0) = false := by simpa using h0
  go_enter Tryz.func107, Tryz.ntmps107
  go_wp2
  go_end0
  exact ⟨rfl, v, HS.out _ rfl, (KeptS.refl _ _ _).setCell _ _, rfl⟩
 ·obtain ⟨m, hm⟩ : ∃ m, R.length = m + 33 := ⟨R.length - 33, by omega⟩
  obtain ⟨b, cap, rfl, k1, k2, k3⟩ := stk_pop_high h hm
  have HS : Hid (∀ w' : World, w' = (w.setCell ⟨g, 33, none⟩ (.int .i64 ((m : Int) + 33 - 1))).setCell ⟨g, 32, none⟩ (.slice (some ⟨b, 0, none⟩) m cap) -> Stk w' base g (.slice (some ⟨b, 0, none⟩) m cap) R.dropLast) := fun w' hw => k3 w' (by rw [hw]; simp)
  rw [hm] at c2 hR2
  unfold maxLen at k2
  clear k3 h h0 h1 hm
  generalize R.dropLast = R' at *
  have e0 : (((m + 33 : Nat) : Int) == 0) = false := by simp; omega
  go_enter Tryz.func107, Tryz.ntmps107
  go_wp2
  go_region
  go_wp2
  go_end0
  exact ⟨rfl, _, Stk.drew (HS.out _ rfl), (((KeptS.refl _ _ w).setCell _ _).setCell _ _).drew, rfl⟩
set_option maxRecDepth 100000 in
set_option maxHeartbeats 2000000 in
theorem ftop_calls (base g : Nat) (v : Value) (R : List Int) (w : World) (h : Stk w base g v R) (hR2 : R.length <= 4398046511104) :
  Calls Tryz.prog 77 #[.pointer (some ⟨g, 0, none⟩)] w fun e w' => e = .returned (.int .i64 (R.getLast?.getD (-1))) /\ ∃ q, w' = w.drewN q := by
 obtain ⟨c1, c2, c3, c4, f, hg⟩ := h.cells
 clear f c3
 rcases Nat.eq_zero_or_pos R.length with h0 | h0
 ·obtain rfl : R = [] := List.length_eq_zero_iff.1 h0
  clear c1 c4 h h0
  simp only [List.length_nil] at c2
  go_enter Tryz.func77, Tryz.ntmps77
  go_wp2
  go_ret
  exact ⟨rfl, 0, rfl⟩
 obtain ⟨m, hm⟩ : ∃ m, R.length = m + 1 := ⟨R.length - 1, by omega⟩
 rw [last_row hm]
 rw [hm] at c2
 have e0 : (((m + 1 : Nat) : Int) == 0) = false := by simp; omega
 by_cases h1 : m < 32
 ·have c5 := c4 m h1 (by omega)
  clear c1 c4 h h0
  generalize R.getD m 0 = y at *
  clear hm hR2
  go_enter Tryz.func77, Tryz.ntmps77
  go_wp2_with fail
  go_quiet (fail)
  go_wp2
  go_ret
  exact ⟨rfl, _, rfl⟩
 ·obtain ⟨k, rfl⟩ : ∃ k, m = k + 32 := ⟨m - 32, by omega⟩
  have hown := h.2.1
  rw [hm, show k + 32 + 1 - 32 = k + 1 from by omega] at hown
  obtain ⟨a', cap', rfl, hr⟩ := row_of_owns hown
  obtain ⟨b, o, rfl, hbl, hc⟩ := (show ∃ b o, a' = some ⟨b, o, none⟩ /\ b < w.heap.size /\ ∀ i, i < k + 1 -> w.cell? ⟨b, o + i, none⟩ = some (.int .i64 ((R.drop 32).getD i 0)) from by
   rcases hr.2 with h | h
   ·omega
   ·exact h)
  have hc0 := hc k (by omega)
  rw [show (R.drop 32).getD k 0 = R.getD (k + 32) 0 from by rw [List.getD_eq_getElem?_getD, List.getD_eq_getElem?_getD, List.getElem?_drop, Nat.add_comm]] at hc0
  clear hc hr hown c4 h h0 h1
  generalize R.getD (k + 32) 0 = y at *
  rw [hm] at hR2
  clear hm
  go_enter Tryz.func77, Tryz.ntmps77
  go_wp2_with fail
  go_quiet (fail)
  go_wp2
  go_ret
  exact ⟨rfl, _, rfl⟩
set_option maxRecDepth 100000 in
set_option maxHeartbeats 2000000 in
theorem fpass_calls (base g : Nat) (v : Value) (R : List Int) (i : Nat) (x : Tok) (w : World) (h : Stk w base g v R) (hb : base <= w.heap.size) (hR2 : R.length <= 4398046511104) :
  Calls Tryz.prog 80 #[.pointer (some ⟨g, 0, none⟩), .int .i64 (i : Int), tokV x] w fun e w' => e = .returned (.tuple #[]) /\ ∃ v', Stk w' base g v' (turn x i R) /\ KeptS g v.ownBlock w w' /\ (v'.ownBlock = v.ownBlock \/ ∀ k, v'.ownBlock = some k -> w.heap.size <= k) := by
 obtain ⟨xk, xt, xn, xm⟩ := x
 unfold turn
 simp only [tokV]
 have hal : ∀ o, Stk (w.alloc o) base g v R := fun o => h.alloc o
 have hK : ∀ o W, KeptS g v.ownBlock (w.alloc o) W -> KeptS g v.ownBlock w W := fun o W k => (KeptS.trans ((KeptS.refl _ _ w).alloc o) k)
 have hF : ∀ (o : Obj) (v' : Value), (v'.ownBlock = v.ownBlock \/ ∀ k, v'.ownBlock = some k -> (w.alloc o).heap.size <= k) -> (v'.ownBlock = v.ownBlock \/ ∀ k, v'.ownBlock = some k -> w.heap.size <= k) := by
  intro o v' hv
  rcases hv with hv | hv
  ·exact .inl hv
  ·refine .inr fun k hk => ?_
   have := hv k hk
   simp at this
   omega
 by_cases k1 : xk = 1
 ·subst k1
  rw [if_pos rfl]
  have hp : Hid (∀ o, Calls Tryz.prog 106 #[.pointer (some ⟨g, 0, none⟩), .int .i64 (i : Int)] (w.alloc o) fun e w' => e = .returned (.tuple #[]) /\ ∃ v', Stk w' base g v' (R ++ [(i : Int)]) /\ KeptS g v.ownBlock (w.alloc o) w' /\ (v'.ownBlock = v.ownBlock \/ ∀ k, v'.ownBlock = some k -> (w.alloc o).heap.size <= k)) := by
   intro o
   by_cases hR : R.length < 32
   ·refine (fpush_low base g v R i _ (hal o) hR).mono ?_
    rintro e w' ⟨e1, e2, e3⟩
    exact ⟨e1, v, e2, e3, .inl rfl⟩
   ·exact fpush_high base g v R i _ (hal o) (by simp; omega) (by omega) hR2
  clear hal h
  generalize R ++ [(i : Int)] = R' at *
  go_enter Tryz.func80, Tryz.ntmps80
  go_wp2_with fail
  refine (hp.out _).mono ?_
  rintro e W ⟨rfl, v', s1, s2, s3⟩
  go_wp2
  go_end0
  exact ⟨rfl, v', s1, hK _ _ s2, hF _ _ s3⟩
 ·have e1 : (xk == 1) = false := by simpa using k1
  rw [if_neg k1]
  by_cases k2 : xk = 2
  ·subst k2
   rw [if_pos rfl]
   have hp : Hid (∀ o, Calls Tryz.prog 107 #[.pointer (some ⟨g, 0, none⟩)] (w.alloc o) fun e w' => e = .returned (.tuple #[]) /\ ∃ v', Stk w' base g v' R.dropLast /\ KeptS g v.ownBlock (w.alloc o) w' /\ v'.ownBlock = v.ownBlock) := fun o => fpop_calls base g v R _ (hal o) hR2
   clear hal h
   generalize R.dropLast = R' at *
   go_enter Tryz.func80, Tryz.ntmps80
   go_wp2_with fail
   refine (hp.out _).mono ?_
   rintro e W ⟨rfl, v', s1, s2, s3⟩
   go_wp2
   go_end0
   exact ⟨rfl, v', s1, hK _ _ s2, .inl s3⟩
  ·have e2 : (xk == 2) = false := by simpa using k2
   rw [if_neg k2]
   go_enter Tryz.func80, Tryz.ntmps80
   go_wp2
   go_end0
   exact ⟨rfl, v, hal _, (KeptS.refl _ _ w).alloc _, .inl rfl⟩
end Go.Proofs.YtbkpehfaofhmaaaGreatDoor

/- DBEq: two tokens compared. -/
namespace Go.Proofs.YtbkpehfaofhmaaaGreatDoor
open Go.RowKit
theorem tok_eqGuard (op : BinOp) (x y : Operand) (xs ys : Array Value) (W : World) : (eqGuard op 48 x y (.agg xs) (.agg ys)).run Tryz.prog W = .ok () W := run_eqGuard_agg W op 48 x y xs ys (by kernel_rfl)
theorem tok_equal (x y : Tok) (W : World) : (Op.equalIn 10000 48 (tokV x) (tokV y)).run Tryz.prog W = .ok (tokEq x y) W := by
 have u3 := Tryz.underlying3
 have a3 := Tryz.isAgg3
 have z3 := Tryz.sizeOf3
 have hS : Tryz.prog.underlying 48 = some (.struct (Tryz.prog.fieldsOf 48)) := by kernel_rfl
 have hp : Tryz.prog.stoodInHeld 48 = false := by kernel_rfl
 obtain ⟨k, t, n, m⟩ := x
 obtain ⟨k', t', n', m'⟩ := y
 simp only [tokV]
 rw [show (10000 : Nat) = 9999 + 1 from rfl, run_equalIn_agg W 9999 48 _ _ hS hp]
 simp only [Program.fieldsOf, Tryz.underlying48]
 go_simp
 unfold tokEq
 by_cases h1 : k = k' <;> by_cases h2 : t = t' <;> by_cases h3 : n = n' <;> by_cases h4 : m = m' <;> simp [h1, h2, h3, h4]
theorem tok_eql (x y : Tok) (W : World) : (binOp .eql 48 (tokV x) (tokV y)).run Tryz.prog W = .ok (.bool (tokEq x y)) W := by
 rw [show tokV x = .agg #[.int .i64 x.k, .int .i64 x.t, .int .i64 x.n, .int .i64 x.m] from rfl, show tokV y = .agg #[.int .i64 y.k, .int .i64 y.t, .int .i64 y.n, .int .i64 y.m] from rfl, run_eql_struct]
 have h := tok_equal x y W
 simp only [tokV] at h
 rw [h]
 rfl
end Go.Proofs.YtbkpehfaofhmaaaGreatDoor

/- DBFTok: flat.isCodePoint, mark.Right and flat.Right at every token: what they return; nothing that lay before is turned. -/
namespace Go.Proofs.YtbkpehfaofhmaaaGreatDoor
open Go.RowKit
set_option maxHeartbeats 400000 in
theorem fmark_calls (s : Int) (w : World) : Calls Tryz.prog 137 #[.int .i64 s] w fun e w' => e = .returned (.bool (rightM s)) /\ w' = w := by
 unfold rightM
 cases h1 : decide (0 <= s)
 all_goals
  go_enter Tryz.func137, Tryz.ntmps137
  go_wp2
  go_ret
  exact ⟨rfl, rfl⟩
set_option maxHeartbeats 400000 in
theorem fpoint_calls (n : Int) (w : World) : Calls Tryz.prog 136 #[.int .i64 n] w fun e w' => e = .returned (.bool (point n)) /\ w' = w := by
 by_cases a0 : 0 <= n
 ·by_cases a1 : n < 55296
  ·rw [show point n = true from by simp [point]; omega]
   go_enter Tryz.func136, Tryz.ntmps136
   go_wp2
   go_ret
   exact ⟨rfl, rfl⟩
  ·by_cases a2 : 57343 < n
   ·rw [show point n = decide (n <= 1114111) from by rw [Bool.eq_iff_iff]; simp [point]; omega]
    go_enter Tryz.func136, Tryz.ntmps136
    go_wp2
    go_ret
    exact ⟨rfl, rfl⟩
   ·rw [show point n = false from by simp [point]; omega]
    go_enter Tryz.func136, Tryz.ntmps136
    go_wp2
    go_ret
    exact ⟨rfl, rfl⟩
 ·rw [show point n = false from by simp [point]; omega]
  have e0 : decide (0 <= n) = false := by simpa using a0
  go_enter Tryz.func136, Tryz.ntmps136
  go_wp2
  go_ret
  exact ⟨rfl, rfl⟩
set_option maxHeartbeats 1000000 in
theorem fright_calls (x : Tok) (w : World) : Calls Tryz.prog 104 #[tokV x] w fun e w' => e = .returned (.bool (rightT x)) /\ Below w.heap.size w w' := by
 obtain ⟨k, t, n, m⟩ := x
 have e16 : decide (t < 16) = decide (t <= 15) := by by_cases h : t <= 15 <;> simp [h] <;> omega
 have hq := fun W => tok_eql ⟨k, t, n, m⟩ ⟨2, 0, 0, 0⟩ W
 unfold tokV rightT
 simp only [tokV, e16] at *
 clear e16
 by_cases k0 : k = 0
 ·subst k0
  rw [if_pos rfl]
  have c1 := fun W => fpoint_calls n W
  have c2 := fun W => fmark_calls m W
  generalize point n = p at *
  generalize rightM m = q at *
  cases h0 : t == 0
  ·simp only [Bool.false_and]
   go_enter Tryz.func104, Tryz.ntmps104
   go_wp2
   go_ret
   exact ⟨rfl, (Below.refl _ _).alloc (Nat.le_refl _) _⟩
  ·cases h1 : p
   ·rw [h1] at c1
    simp only [Bool.and_false, Bool.false_and]
    go_enter Tryz.func104, Tryz.ntmps104
    go_wp2_with fail
    refine (c1 _).mono ?_
    rintro e w' ⟨rfl, rfl⟩
    go_wp2
    go_ret
    exact ⟨rfl, (Below.refl _ _).alloc (Nat.le_refl _) _⟩
   ·rw [h1] at c1
    cases h2 : q
    ·rw [h2] at c2
     simp only [Bool.and_false]
     go_enter Tryz.func104, Tryz.ntmps104
     go_wp2_with fail
     refine (c1 _).mono ?_
     rintro e w' ⟨rfl, rfl⟩
     go_wp2_with fail
     refine (c2 _).mono ?_
     rintro e w' ⟨rfl, rfl⟩
     go_wp2
     go_ret
     exact ⟨rfl, (Below.refl _ _).alloc (Nat.le_refl _) _⟩
    ·rw [h2] at c2
     go_enter Tryz.func104, Tryz.ntmps104
     go_wp2_with fail
     refine (c1 _).mono ?_
     rintro e w' ⟨rfl, rfl⟩
     go_wp2_with fail
     refine (c2 _).mono ?_
     rintro e w' ⟨rfl, rfl⟩
     go_wp2
     go_ret
     exact ⟨rfl, (Below.refl _ _).alloc (Nat.le_refl _) _⟩
 rw [if_neg k0]
 have e0 : (k == 0) = false := by simpa using k0
 by_cases k1 : k = 1
 ·subst k1
  rw [if_pos (.inl rfl)]
  clear hq
  cases h0 : decide (1 <= t)
  ·simp only [Bool.false_and]
   go_enter Tryz.func104, Tryz.ntmps104
   go_wp2
   go_ret
   exact ⟨rfl, (Below.refl _ _).alloc (Nat.le_refl _) _⟩
  ·cases h1 : decide (t <= 15)
   ·simp only [Bool.and_false, Bool.false_and]
    go_enter Tryz.func104, Tryz.ntmps104
    go_wp2
    go_ret
    exact ⟨rfl, (Below.refl _ _).alloc (Nat.le_refl _) _⟩
   ·cases h2 : decide (0 <= n)
    ·simp only [Bool.and_false, Bool.false_and]
     go_enter Tryz.func104, Tryz.ntmps104
     go_wp2
     go_ret
     exact ⟨rfl, (Below.refl _ _).alloc (Nat.le_refl _) _⟩
    ·cases h3 : decide (n <= 15)
     ·simp only [Bool.and_false, Bool.false_and]
      go_enter Tryz.func104, Tryz.ntmps104
      go_wp2
      go_ret
      exact ⟨rfl, (Below.refl _ _).alloc (Nat.le_refl _) _⟩
     ·cases h4 : m == 0
      ·simp only [Bool.and_false]
       go_enter Tryz.func104, Tryz.ntmps104
       go_wp2
       go_ret
       exact ⟨rfl, (Below.refl _ _).alloc (Nat.le_refl _) _⟩
      ·go_enter Tryz.func104, Tryz.ntmps104
       go_wp2
       go_ret
       exact ⟨rfl, (Below.refl _ _).alloc (Nat.le_refl _) _⟩
 have e1 : (k == 1) = false := by simpa using k1
 by_cases k3 : k = 3
 ·subst k3
  rw [if_pos (.inr rfl)]
  clear hq
  cases h0 : decide (1 <= t)
  ·simp only [Bool.false_and]
   go_enter Tryz.func104, Tryz.ntmps104
   go_wp2
   go_ret
   exact ⟨rfl, (Below.refl _ _).alloc (Nat.le_refl _) _⟩
  ·cases h1 : decide (t <= 15)
   ·simp only [Bool.and_false, Bool.false_and]
    go_enter Tryz.func104, Tryz.ntmps104
    go_wp2
    go_ret
    exact ⟨rfl, (Below.refl _ _).alloc (Nat.le_refl _) _⟩
   ·cases h2 : decide (0 <= n)
    ·simp only [Bool.and_false, Bool.false_and]
     go_enter Tryz.func104, Tryz.ntmps104
     go_wp2
     go_ret
     exact ⟨rfl, (Below.refl _ _).alloc (Nat.le_refl _) _⟩
    ·cases h3 : decide (n <= 15)
     ·simp only [Bool.and_false, Bool.false_and]
      go_enter Tryz.func104, Tryz.ntmps104
      go_wp2
      go_ret
      exact ⟨rfl, (Below.refl _ _).alloc (Nat.le_refl _) _⟩
     ·cases h4 : m == 0
      ·simp only [Bool.and_false]
       go_enter Tryz.func104, Tryz.ntmps104
       go_wp2
       go_ret
       exact ⟨rfl, (Below.refl _ _).alloc (Nat.le_refl _) _⟩
      ·go_enter Tryz.func104, Tryz.ntmps104
       go_wp2
       go_ret
       exact ⟨rfl, (Below.refl _ _).alloc (Nat.le_refl _) _⟩
 have e3 : (k == 3) = false := by simpa using k3
 rw [if_neg (by omega)]
 by_cases k2 : k = 2
 ·subst k2
  rw [if_pos rfl]
  have hd : tokEq ⟨2, t, n, m⟩ ⟨2, 0, 0, 0⟩ = (t == 0 && n == 0 && m == 0) := by
   rw [Bool.eq_iff_iff]
   simp [tokEq, and_assoc]
  rw [hd] at hq
  clear hd
  have hg := fun (x y : Operand) (xs ys : Array Value) (W : World) => tok_eqGuard .eql x y xs ys W
  generalize (t == 0 && n == 0 && m == 0) = z at *
  go_enter Tryz.func104, Tryz.ntmps104
  go_wp2
  go_ret
  exact ⟨rfl, (Below.refl _ _).alloc (Nat.le_refl _) _⟩
 have e2 : (k == 2) = false := by simpa using k2
 rw [if_neg k2]
 clear hq
 go_enter Tryz.func104, Tryz.ntmps104
 go_wp2
 go_ret
 exact ⟨rfl, (Below.refl _ _).alloc (Nat.le_refl _) _⟩
end Go.Proofs.YtbkpehfaofhmaaaGreatDoor

/- DBFCheck: flat.Check at every slice of tokens, and awake: what they return; nothing that lay before is turned. -/
namespace Go.Proofs.YtbkpehfaofhmaaaGreatDoor
open Go.RowKit
theorem Stk.below {w W : World} {base g : Nat} {v : Value} {R : List Int} (h : Stk w base g v R) (hB : Below w.heap.size w W) : Stk W base g v R := by
 have hlt := h.cells.2.2.2.2.2
 obtain ⟨h0, h1, cs, hg, hc⟩ := h
 exact ⟨h0, own_below h1 hB (by omega), cs, (hB.block g hlt).trans hg, hc⟩
theorem tok_kept {w W : World} {k t n m : Int} {T : TypeId} (hB : Below (w.alloc (.cells #[.int .i64 k, .int .i64 t, .int .i64 n, .int .i64 m] T)).heap.size (w.alloc (.cells #[.int .i64 k, .int .i64 t, .int .i64 n, .int .i64 m] T)) W) :
  W.cell? ⟨w.heap.size, 0, none⟩ = some (.int .i64 k) /\ W.cell? ⟨w.heap.size, 1, none⟩ = some (.int .i64 t) /\ W.cell? ⟨w.heap.size, 2, none⟩ = some (.int .i64 n) /\ W.cell? ⟨w.heap.size, 3, none⟩ = some (.int .i64 m) /\ Below w.heap.size w W := by
 have hg := heap_alloc_new w (.cells #[.int .i64 k, .int .i64 t, .int .i64 n, .int .i64 m] T)
 have hc := fun j => (hB.cell (p := ⟨w.heap.size, j, none⟩) (by simp)).trans (cell_of_row _ w.heap.size j _ _ _ hg)
 refine ⟨hc 0, hc 1, hc 2, hc 3, ?_⟩
 exact ((Below.refl _ w).alloc (Nat.le_refl _) _).trans (hB.mono (by simp))
theorem stk_new (w : World) : Stk (w.alloc (.cells #[.int .i64 0, .int .i64 0, .int .i64 0, .int .i64 0, .int .i64 0, .int .i64 0, .int .i64 0, .int .i64 0, .int .i64 0, .int .i64 0, .int .i64 0, .int .i64 0, .int .i64 0, .int .i64 0, .int .i64 0, .int .i64 0, .int .i64 0, .int .i64 0, .int .i64 0, .int .i64 0, .int .i64 0, .int .i64 0, .int .i64 0, .int .i64 0, .int .i64 0, .int .i64 0, .int .i64 0, .int .i64 0, .int .i64 0, .int .i64 0, .int .i64 0, .int .i64 0, .slice none 0 0, .int .i64 0] 132)) w.heap.size w.heap.size (.slice none 0 0) [] := by
 refine ⟨Nat.le_refl _, World.ownsRow_nil _ _ _ _, _, heap_alloc_new w _, rfl, fun i _ h => absurd h (by simp), fun i hi => ⟨0, ?_⟩, rfl, rfl⟩
 match i, hi with
 | 0, _ | 1, _ | 2, _ | 3, _ | 4, _ | 5, _ | 6, _ | 7, _ | 8, _ | 9, _ | 10, _ | 11, _ | 12, _ | 13, _ | 14, _ | 15, _ | 16, _ | 17, _ | 18, _ | 19, _ | 20, _ | 21, _ | 22, _ | 23, _ | 24, _ | 25, _ | 26, _ | 27, _ | 28, _ | 29, _ | 30, _ | 31, _ => rfl
 | (n + 32), h => omega
set_option maxRecDepth 100000 in
set_option maxHeartbeats 4000000 in
theorem fcheck_calls (a : Option Addr) (len cap : Nat) (l : List Tok) (w : World) (hl : Toks w a len l) (hsz : len <= 4398046511104) :
  Calls Tryz.prog 74 #[.slice a len cap] w fun e w' => e = .returned (.tuple #[.int .i64 (check l).1, .int .i64 (check l).2]) /\ Below w.heap.size w w' := by
 by_cases hlong : 2048 < len
 ·rw [show check l = (0, 2) from by unfold check; rw [if_pos (by rw [hl.1]; exact hlong)]]
  go_enter Tryz.func74, Tryz.ntmps74
  go_wp2
  go_ret2
  exact ⟨rfl, Below.refl _ _⟩
 ·have HC : Hid (check l = checkL l 0 0) := by show check l = _; unfold check; rw [if_neg (by rw [hl.1]; exact hlong)]
  have hnew := stk_new w
  have hB0 : ∀ o, Below w.heap.size w (w.alloc o) := fun o => (Below.refl _ w).alloc (Nat.le_refl _) o
  go_enter Tryz.func74, Tryz.ntmps74
  go_wp2
  go_loopw [12] (fun i w' => ∃ (k : Nat) (v : Value) (R : List Int), k <= len /\ i = .int .i64 (k : Int) /\ R.length <= 32 /\ Stk w' w.heap.size w.heap.size v R /\ checkL (l.drop k) k (R.length : Int) = check l /\ Below w.heap.size w w') (fun i _ => len - (intOf i).toNat)
  case atStart => exact ⟨0, _, [], Nat.zero_le _, rfl, by simp, hnew, HC.out.symm, hB0 _⟩
  case round =>
   obtain ⟨k, v, R, hk, rfl, hR, hS, hch, hB⟩ := hrel
   clear hnew hB0
   have hl' := hl.below hB
   obtain ⟨-, s33, -⟩ := hS.cells
   by_cases hlt : k < len
   ·obtain ⟨x, hx, hdr⟩ := drop_getD (l := l) (k := k) (by rw [hl.1]; exact hlt)
    obtain ⟨b, o, rfl, hbl, hcl⟩ := (show ∃ b o, a = some ⟨b, o, none⟩ /\ b < wr.heap.size /\ ∀ i x, l[i]? = some x -> wr.cell? ⟨b, o + i * 4, none⟩ = some (.int .i64 x.k) /\ wr.cell? ⟨b, o + i * 4 + 1, none⟩ = some (.int .i64 x.t) ∧
     wr.cell? ⟨b, o + i * 4 + 2, none⟩ = some (.int .i64 x.n) /\ wr.cell? ⟨b, o + i * 4 + 3, none⟩ = some (.int .i64 x.m) from by
      rcases hl'.2 with h | h
      ·omega
      ·exact h)
    obtain ⟨c0, c1, c2, c3⟩ := hcl k x hx
    have hr := fun W => fright_calls x W
    have HSz : Hid (w.heap.size <= wr.heap.size) := hB.size
    have HP : Hid (∀ W v R, Stk W w.heap.size w.heap.size v R -> w.heap.size <= W.heap.size -> R.length <= 4398046511104 -> Calls Tryz.prog 80 #[.pointer (some ⟨w.heap.size, 0, none⟩), .int .i64 (k : Int), tokV x] W fun e w' => e = .returned (.tuple #[]) /\ ∃ v', Stk w' w.heap.size w.heap.size v' (turn x k R) /\ Below w.heap.size W w') := by
     intro W v R h1 h2 h3
     refine (fpass_calls w.heap.size w.heap.size v R k x W h1 h2 h3).mono ?_
     rintro e w' ⟨e1, v', e2, e3, _⟩
     exact ⟨e1, v', e2, e3.below (Nat.le_refl _) (fun j hj => (own_base h1.2.1 j hj).1) h2⟩
    have hl0 := hl.1
    clear hcl hl' hl hx
    rw [hdr] at hch
    clear hdr
    rw [checkL] at hch
    have HT : Hid ((turn x k R).length = if x.k = 1 then R.length + 1 else if x.k = 2 then R.length - 1 else R.length) := by
     show _ = _
     unfold turn
     split <;> (try split) <;> simp
    obtain ⟨xk, xt, xn, xm⟩ := x
    generalize rightT ⟨xk, xt, xn, xm⟩ = p at *
    simp only [tokV] at *
    cases p
    ·have HD : Hid (check l = ((k : Int), 4)) := by show check l = _; rw [<- hch]; simp
     clear hch
     go_wp2_with fail
     refine (hr _).mono ?_
     rintro e W1 ⟨rfl, hB1⟩
     obtain ⟨t0, t1, t2, t3, hB2⟩ := tok_kept hB1
     have hB3 : Below w.heap.size w W1 := hB.trans (hB2.mono hB.size)
     go_wp2
     go_ret2
     exact ⟨by rw [HD.out]; rfl, hB3⟩
    ·simp only [Bool.not_true, Bool.false_or] at hch
     by_cases k1 : xk = 1
     ·subst k1
      simp only [show ((1 : Int) == 2) = false from rfl, Bool.false_and, Bool.false_eq_true, if_false, if_true] at hch
      by_cases hd : R.length = 32
      ·have HD : Hid (check l = ((k : Int), 8)) := by show check l = _; rw [<- hch, if_pos (by omega)]
       have HT2 : Hid ((turn ⟨1, xt, xn, xm⟩ k R).length = 33) := by show _ = _; rw [HT.out]; simp [hd]
       clear hch
       go_wp2_with fail
       refine (hr _).mono ?_
       rintro e W1 ⟨rfl, hB1⟩
       obtain ⟨t0, t1, t2, t3, hB2⟩ := tok_kept hB1
       have hS1 := hS.below hB2
       have hB3 : Below w.heap.size w W1 := hB.trans (hB2.mono hB.size)
       clear hB2 hB1 hS
       go_wp2_with fail
       refine (HP.out _ _ _ hS1 hB3.size (by omega)).mono ?_
       rintro e W2 ⟨rfl, v', hS2, hB4⟩
       have hB5 := hB3.trans hB4
       obtain ⟨-, s33b, -⟩ := hS2.cells
       rw [HT2.out] at s33b
       go_wp2
       go_ret2
       exact ⟨by rw [HD.out]; rfl, hB5⟩
      ·have HD : Hid (check l = checkL (l.drop (k + 1)) (k + 1) (R.length + 1)) := by show check l = _; rw [<- hch, if_neg (by omega)]
       have HT2 : Hid ((turn ⟨1, xt, xn, xm⟩ k R).length = R.length + 1) := by show _ = _; rw [HT.out]; simp
       clear hch
       go_wp2_with fail
       refine (hr _).mono ?_
       rintro e W1 ⟨rfl, hB1⟩
       obtain ⟨t0, t1, t2, t3, hB2⟩ := tok_kept hB1
       have hS1 := hS.below hB2
       have hB3 : Below w.heap.size w W1 := hB.trans (hB2.mono hB.size)
       clear hB2 hB1 hS
       go_wp2_with fail
       refine (HP.out _ _ _ hS1 hB3.size (by omega)).mono ?_
       rintro e W2 ⟨rfl, v', hS2, hB4⟩
       have hB5 := hB3.trans hB4
       obtain ⟨-, s33b, -⟩ := hS2.cells
       rw [HT2.out] at s33b
       go_wp2
       go_roundw
       case rel => exact ⟨k + 1, v', _, by omega, rfl, by rw [HT2.out]; omega, hS2, by rw [HT2.out]; exact HD.out.symm, hB5⟩
       case measure => simp [intOf]; omega
     ·by_cases k2 : xk = 2
      ·subst k2
       simp only [show ((2 : Int) == 2) = true from rfl, Bool.true_and, show ¬ ((2 : Int) = 1) from by decide, if_false, if_true] at hch
       by_cases hd : R.length = 0
       ·have HD : Hid (check l = ((k : Int), 4)) := by show check l = _; rw [<- hch]; simp [hd]
        rw [hd] at s33
        clear hch
        go_wp2_with fail
        refine (hr _).mono ?_
        rintro e W1 ⟨rfl, hB1⟩
        obtain ⟨t0, t1, t2, t3, hB2⟩ := tok_kept hB1
        have hS1 := hS.below hB2
        have hB3 : Below w.heap.size w W1 := hB.trans (hB2.mono hB.size)
        have s33b : W1.cell? ⟨w.heap.size, 33, none⟩ = some (.int .i64 0) := by
         obtain ⟨-, q, -⟩ := hS1.cells
         rw [hd] at q
         exact q
        go_wp2
        go_ret2
        exact ⟨by rw [HD.out]; rfl, hB3⟩
       ·have HD : Hid (check l = checkL (l.drop (k + 1)) (k + 1) ((R.length - 1 : Nat) : Int)) := by show check l = _; rw [<- hch, if_neg (by simpa using hd), if_neg (by omega), show ((R.length - 1 : Nat) : Int) = (R.length : Int) - 1 from by omega]
        have HT2 : Hid ((turn ⟨2, xt, xn, xm⟩ k R).length = R.length - 1) := by show _ = _; rw [HT.out]; simp
        have ed : ((R.length : Int) == 0) = false := by simpa using hd
        clear hch
        go_wp2_with fail
        refine (hr _).mono ?_
        rintro e W1 ⟨rfl, hB1⟩
        obtain ⟨t0, t1, t2, t3, hB2⟩ := tok_kept hB1
        have hS1 := hS.below hB2
        have hB3 : Below w.heap.size w W1 := hB.trans (hB2.mono hB.size)
        obtain ⟨-, s33a, -⟩ := hS1.cells
        clear hB2 hB1 hS
        go_wp2_with fail
        refine (HP.out _ _ _ hS1 hB3.size (by omega)).mono ?_
        rintro e W2 ⟨rfl, v', hS2, hB4⟩
        have hB5 := hB3.trans hB4
        obtain ⟨-, s33b, -⟩ := hS2.cells
        rw [HT2.out] at s33b
        go_wp2
        go_roundw
        case rel => exact ⟨k + 1, v', _, by omega, rfl, by rw [HT2.out]; omega, hS2, by rw [HT2.out]; exact HD.out.symm, hB5⟩
        case measure => simp [intOf]; omega
      ·have HD : Hid (check l = checkL (l.drop (k + 1)) (k + 1) (R.length : Int)) := by
        show check l = _
        rw [<- hch, if_neg (by simp [k2]), if_neg k1, if_neg k2, if_neg (by omega)]
       have HT2 : Hid ((turn ⟨xk, xt, xn, xm⟩ k R).length = R.length) := by show _ = _; rw [HT.out]; simp [k1, k2]
       have e2 : (xk == 2) = false := by simpa using k2
       clear hch
       go_wp2_with fail
       refine (hr _).mono ?_
       rintro e W1 ⟨rfl, hB1⟩
       obtain ⟨t0, t1, t2, t3, hB2⟩ := tok_kept hB1
       have hS1 := hS.below hB2
       have hB3 : Below w.heap.size w W1 := hB.trans (hB2.mono hB.size)
       clear hB2 hB1 hS
       go_wp2_with fail
       refine (HP.out _ _ _ hS1 hB3.size (by omega)).mono ?_
       rintro e W2 ⟨rfl, v', hS2, hB4⟩
       have hB5 := hB3.trans hB4
       obtain ⟨-, s33b, -⟩ := hS2.cells
       rw [HT2.out] at s33b
       go_wp2
       go_roundw
       case rel => exact ⟨k + 1, v', _, by omega, rfl, by rw [HT2.out]; omega, hS2, by rw [HT2.out]; exact HD.out.symm, hB5⟩
       case measure => simp [intOf]; omega
   ·obtain rfl : k = len := by omega
    rw [List.drop_eq_nil_of_le (Nat.le_of_eq hl.1), checkL] at hch
    by_cases hd : R.length = 0
    ·rw [if_neg (by omega)] at hch
     have HD : Hid (check l = ((k : Int), 0)) := hch.symm
     rw [hd] at s33
     clear hch hl hl'
     go_wp2
     go_ret2
     exact ⟨by rw [HD.out]; rfl, hB⟩
    ·rw [if_pos (by omega)] at hch
     have HD : Hid (check l = ((k : Int), 3)) := hch.symm
     have hd1 : (0 : Int) < (R.length : Int) := by omega
     clear hch hl hl'
     generalize R.length = n at *
     go_wp2
     go_ret2
     exact ⟨by rw [HD.out]; rfl, hB⟩
end Go.Proofs.YtbkpehfaofhmaaaGreatDoor
