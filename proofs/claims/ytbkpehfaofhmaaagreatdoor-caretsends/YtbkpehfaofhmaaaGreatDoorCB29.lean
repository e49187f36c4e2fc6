/-
  PROVED HERE: what the texts DBSchF, DBFOpen say (each has its own words below).
-/
import Derived.Test.YtbkpehfaofhmaaaGreatDoorCB3
import Derived.Test.YtbkpehfaofhmaaaGreatDoorCB27
import Derived.Test.YtbkpehfaofhmaaaGreatDoorCB28
import Derived.Test.YtbkpehfaofhmaaaGreatDoorCB7
/- DBSchF: the small functions of a schema that was made: whether it was, its types, which type a place has, whether a token may be one. -/
namespace Go.Proofs.YtbkpehfaofhmaaaGreatDoor
open Go.RowKit
def both (s t : Int) : Int := ((s.toNat &&& (t % 8).toNat : Nat) : Int)
def withM (s t : Int) : Int := if rightM s = true then both s t else 0
theorem wrap_small (x : Int) (h0 : 0 <= x) (h1 : x < 1000) : IntKind.i64.wrap x = x := by
 simp [IntKind.wrap, IntKind.bits, IntKind.signed]
 omega
theorem ofInt_u64 (n : Nat) (h : n < 1000) : (BitVec.ofInt 64 (n : Int)).toNat = n := by
 rw [BitVec.toNat_ofInt]
 have : ((2 ^ 64 : Nat) : Int) = 18446744073709551616 := rfl
 rw [this]
 omega
theorem ofInt_low (s : Nat) (hs : s < 8) (t : Int) : s &&& (BitVec.ofInt 64 t).toNat = s &&& (t % 8).toNat := by
 have h1 : s = s &&& 7 := by
  rw [Nat.and_two_pow_sub_one_eq_mod s 3]
  omega
 rw [h1, Nat.and_assoc, Nat.and_assoc]
 have h2 : ∀ n, 7 &&& n = n % 8 := fun n => by rw [Nat.and_comm]; exact Nat.and_two_pow_sub_one_eq_mod n 3
 rw [h2, h2, BitVec.toNat_ofInt]
 have h3 : ((t % ((2 ^ 64 : Nat) : Int)).toNat) % 8 = (t % 8).toNat % 8 := by
  have : ((2 ^ 64 : Nat) : Int) = 18446744073709551616 := rfl
  rw [this]
  omega
 rw [h3]
theorem and_both (s t : Int) (h0 : 0 <= s) (h1 : s <= 4) : bits BinOp.and IntKind.i64 s t = both s t := by
 obtain ⟨n, rfl⟩ := Int.eq_ofNat_of_zero_le h0
 show IntKind.i64.wrap ((BitVec.ofInt 64 (n : Int) &&& BitVec.ofInt 64 t).toNat : Int) = _
 have hn : n <= 4 := by omega
 rw [BitVec.toNat_and, ofInt_u64 n (by omega), ofInt_low n (by omega) t]
 have hle : n &&& (t % 8).toNat <= n := Nat.and_le_left
 rw [wrap_small _ (by omega) (by omega)]
 rfl
set_option maxRecDepth 100000 in
theorem withM_calls (s t : Int) (w : World) : Calls Tryz.prog 177 #[.int .i64 s, .int .i64 t] w fun e w' => e = .returned (.int .i64 (withM s t)) /\ w' = w := by
 have h1 := fun W => fmark_calls s W
 unfold withM
 by_cases hs : rightM s = true
 ·have hs' : 0 <= s /\ s <= 4 := by unfold rightM at hs; simpa using hs
  have hb := and_both s t hs'.1 hs'.2
  rw [if_pos hs]
  rw [hs] at h1
  generalize both s t = x at *
  go_enter Tryz.func177, Tryz.ntmps177
  go_wp2_with fail
  refine (h1 _).mono ?_
  rintro e w' ⟨rfl, rfl⟩
  go_wp2
  go_ret
  exact ⟨rfl, rfl⟩
 ·have hs' : rightM s = false := by simpa using hs
  rw [if_neg hs]
  rw [hs'] at h1
  go_enter Tryz.func177, Tryz.ntmps177
  go_wp2_with fail
  refine (h1 _).mono ?_
  rintro e w' ⟨rfl, rfl⟩
  go_wp2
  go_ret
  exact ⟨rfl, rfl⟩
theorem SchAt.cells {w : World} {B g c ng nc : Nat} {ks : List KindD} {gs : List Grp} {ts : List (DataW Unit)} (h : SchAt w B g c ng nc ks gs ts) : ∀ X, Below w.heap.size w X -> X.cell? ⟨B, 0, none⟩ = some (.slice (some ⟨g, 0, none⟩) ks.length c) /\ X.cell? ⟨B, 1, none⟩ = some (.slice (some ⟨ng, 0, none⟩) gs.length nc) := fun X hX => by
 have hc := fun j => cell_of_row X B j _ _ _ ((hX.block _ (Array.getElem?_eq_some_iff.1 h.sch).1).trans h.sch)
 exact ⟨hc 0, hc 1⟩
set_option maxRecDepth 100000 in
theorem ismade_calls {B g c ng nc : Nat} {ks : List KindD} {gs : List Grp} {ts : List (DataW Unit)} (w : World) (h : SchAt w B g c ng nc ks gs ts) (h0 : 0 < ks.length) : Calls Tryz.prog 73 #[.pointer (some ⟨B, 0, none⟩)] w fun e w' => e = .returned (.bool true) /\ w' = w := by
 obtain ⟨c0, _⟩ := h.cells w (Below.refl _ _)
 have hd : decide ((0 : Int) < (ks.length : Int)) = true := by simp; omega
 have hl : (ks.length : Int) <= 16 := by have := h.cap.2.2; omega
 clear h
 go_enter Tryz.func73, Tryz.ntmps73
 go_wp2
 go_ret
 exact ⟨rfl, rfl⟩
set_option maxRecDepth 100000 in
theorem typeof_calls {B g c ng nc : Nat} {ks : List KindD} {gs : List Grp} {ts : List (DataW Unit)} (w : World) (h : SchAt w B g c ng nc ks gs ts) (h0 : 0 < ks.length) (t : Int) : Calls Tryz.prog 163 #[.pointer (some ⟨B, 0, none⟩), .int .i64 t] w fun e w' => e = .returned (.pointer (if 1 <= t /\ t < ks.length then some ⟨g, t.toNat * 10, none⟩ else none)) /\ w' = w := by
 have HM := ismade_calls w h h0
 obtain ⟨c0, _⟩ := h.cells w (Below.refl _ _)
 have hl : (ks.length : Int) <= 16 := by have := h.cap.2.2; omega
 clear h
 by_cases d1 : t <= 0
 ·rw [if_neg (by omega)]
  have hd : decide (t <= 0) = true := by simpa using d1
  go_enter Tryz.func163, Tryz.ntmps163
  go_wp2_with fail
  refine HM.mono ?_
  rintro e w' ⟨rfl, rfl⟩
  go_wp2
  go_ret
  exact ⟨rfl, rfl⟩
 ·have hd : decide (t <= 0) = false := by simpa using d1
  by_cases d2 : (ks.length : Int) <= t
  ·rw [if_neg (by omega)]
   have hd2 : decide ((ks.length : Int) <= t) = true := by simpa using d2
   go_enter Tryz.func163, Tryz.ntmps163
   go_wp2_with fail
   refine HM.mono ?_
   rintro e w' ⟨rfl, rfl⟩
   go_wp2
   go_ret
   exact ⟨rfl, rfl⟩
  ·rw [if_pos (by omega)]
   have hd2 : decide ((ks.length : Int) <= t) = false := by simpa using d2
   obtain ⟨n, rfl⟩ : ∃ n : Nat, t = (n : Int) := ⟨t.toNat, by omega⟩
   rw [Int.toNat_natCast]
   have hlt : (n : Int) < (ks.length : Int) := by omega
   have hn0 : (0 : Int) <= (n : Int) := by omega
   go_enter Tryz.func163, Tryz.ntmps163
   go_wp2_with fail
   refine HM.mono ?_
   rintro e w' ⟨rfl, rfl⟩
   go_wp2
   go_ret
   exact ⟨rfl, rfl⟩
set_option maxRecDepth 100000 in
set_option maxHeartbeats 400000 in
theorem kindat_out {B g c ng nc : Nat} {ks : List KindD} {gs : List Grp} {ts : List (DataW Unit)} (w : World) (h : SchAt w B g c ng nc ks gs ts) (h0 : 0 < ks.length) (lv : Value) : Calls Tryz.prog 51 #[.pointer (some ⟨B, 0, none⟩), lv, .int .i64 (-1)] w fun e w' => e = .returned (.pointer (some ⟨g, 0, none⟩)) /\ Below w.heap.size w w' := by
 obtain ⟨c0, _⟩ := h.cells w (Below.refl _ _)
 have hl : (ks.length : Int) <= 16 := by have := h.cap.2.2; omega
 have hpos : (0 : Int) < (ks.length : Int) := by omega
 have HR : Hid (Below w.heap.size w w) := Below.refl _ _
 clear h
 go_enter Tryz.func51, Tryz.ntmps51
 go_wp2
 go_ret
 exact ⟨rfl, HR.out⟩
set_option maxRecDepth 100000 in
set_option maxHeartbeats 400000 in
theorem kindat_in {B g c ng nc : Nat} {ks : List KindD} {gs : List Grp} {ts : List (DataW Unit)} (w : World) (h : SchAt w B g c ng nc ks gs ts) (a : Option Addr) (len cap : Nat) (l : List Tok) (hl : Toks w a len l) (hsz : len <= 2048) (i : Nat) (x : Tok) (hx : l[i]? = some x) (hx0 : 0 <= x.t) (hx1 : x.t < ks.length) : Calls Tryz.prog 51 #[.pointer (some ⟨B, 0, none⟩), .slice a len cap, .int .i64 (i : Int)] w fun e w' => e = .returned (.pointer (some ⟨g, x.t.toNat * 10, none⟩)) /\ Below w.heap.size w w' := by
 obtain ⟨c0, _⟩ := h.cells w (Below.refl _ _)
 have hlk : (ks.length : Int) <= 16 := by have := h.cap.2.2; omega
 have hil : i < len := by have := (List.getElem?_eq_some_iff.1 hx).1; have := hl.1; omega
 obtain ⟨b, o, y, rfl, _, hy, hW⟩ := hl.token hil
 rw [hx] at hy
 cases hy
 obtain ⟨c1, c2, c3, c4⟩ := hW w (Below.refl _ _)
 have hii : (i : Int) < (len : Int) := by omega
 have hi0 : (0 : Int) <= (i : Int) := by omega
 have hli : (len : Int) <= 2048 := by omega
 have hne : ((i : Int) == -1) = false := by rw [beq_eq_false_iff_ne]; omega
 obtain ⟨n, hn⟩ : ∃ n : Nat, x.t = (n : Int) := ⟨x.t.toNat, by omega⟩
 rw [hn] at c2 hx0 hx1 ⊢
 rw [Int.toNat_natCast]
 clear h hl hW hx
 go_enter Tryz.func51, Tryz.ntmps51
 go_wp2
 go_quiet (fail)
 go_wp2
 go_ret
 exact ⟨rfl, ⟨rfl, rfl, rfl, Nat.le_refl _, fun _ _ => rfl⟩⟩
def takesR (s : SpecD) (x : Tok) : Bool := (withM x.m s.marks == x.m) && (x.n != 10 || s.lines)
set_option maxRecDepth 100000 in
set_option maxHeartbeats 800000 in
theorem takesrune_calls (g o : Nat) (s : SpecD) (x : Tok) (w : World) (h : SpecAt w g o s) (hg : g < w.heap.size) : Calls Tryz.prog 162 #[.pointer (some ⟨g, o, none⟩), tokV x] w fun e w' => e = .returned (.bool (takesR s x)) /\ Below w.heap.size w w' := by
 obtain ⟨V, hV⟩ : ∃ V, V = w.alloc (.cells #[.int .i64 x.k, .int .i64 x.t, .int .i64 x.n, .int .i64 x.m] 48) := ⟨_, rfl⟩
 have hBV : Below w.heap.size w V := by rw [hV]; exact (Below.refl _ w).alloc (Nat.le_refl _) _
 have m0 : V.heap[w.heap.size]? = some (.cells #[.int .i64 x.k, .int .i64 x.t, .int .i64 x.n, .int .i64 x.m] 48 (0, 0)) := by rw [hV]; exact World.alloc_heap_new w _
 have hc := fun j => cell_of_row V w.heap.size j _ _ _ m0
 obtain ⟨_, _, _, s3, _, _, s6⟩ := h.same (hBV.block g hg)
 have HWI : Hid (∀ W : World, Calls Tryz.prog 177 #[.int .i64 x.m, .int .i64 s.marks] W fun e w' => e = .returned (.int .i64 (withM x.m s.marks)) /\ w' = W) := fun W => withM_calls _ _ W
 have k2 : V.cell? ⟨w.heap.size, 2, none⟩ = some (.int .i64 x.n) := hc 2
 have k3 : V.cell? ⟨w.heap.size, 3, none⟩ = some (.int .i64 x.m) := hc 3
 have HB : Hid (Below w.heap.size w V.drew) := hBV.drew
 have HV : Hid (w.alloc (.cells #[.int .i64 x.k, .int .i64 x.t, .int .i64 x.n, .int .i64 x.m] 48) = V) := hV.symm
 obtain ⟨R, hR⟩ : ∃ R, takesR s x = R := ⟨_, rfl⟩
 have hR' := hR
 unfold takesR at hR'
 unfold tokV
 rw [hR]
 generalize withM x.m s.marks = wi at *
 generalize s.marks = mk at *
 generalize s.lines = ln at *
 clear hR h hg hBV m0 hc hV
 obtain ⟨xk, xt, xn, xm⟩ := x
 dsimp only at *
 by_cases d1 : wi = xm
 ·have hd1 : (wi == xm) = true := by simpa using d1
  by_cases d2 : xn = 10
  ·have hd2 : (xn == 10) = true := by simpa using d2
   have HT : Hid (R = ln) := by show R = ln; rw [<- hR', hd1]; simp [d2]
   subst d2
   clear hR' d1
   go_enter Tryz.func162, Tryz.ntmps162
   go_wp2_with fail
   rw [HV.out]
   refine wp_region_held_drew (S := fun X => X.cell? ⟨w.heap.size, 2, none⟩ = some (.int .i64 10) /\ X.cell? ⟨w.heap.size, 3, none⟩ = some (.int .i64 xm) /\ X.cell? ⟨g, o + 3, none⟩ = some (.int .i64 mk) /\ X.cell? ⟨g, o + 6, none⟩ = some (.bool ln)) hmx ⟨k2, k3, s3, s6⟩ (fun hS => ?_)
   refine takeF 0 (some 5) (v := ?_) hS ?_ ?_
   rotate_left
   ·intro w hSw
    go_simp
    with_reducible rfl
   try simp only [lay4]
   refine takeF 1 (some 6) (v := ?_) hS ?_ ?_
   rotate_left
   ·intro w hSw
    obtain ⟨k2, k3, k4, k5⟩ := hSw
    go_simp
    with_reducible rfl
   try simp only [lay4]
   refine takeF 2 (some 7) (v := ?_) hS ?_ ?_
   rotate_left
   ·intro w hSw
    try go_simp
    with_reducible rfl
   try simp only [lay4]
   refine takeF 3 (some 8) (v := ?_) hS ?_ ?_
   rotate_left
   ·intro w hSw
    go_simp
    with_reducible rfl
   try simp only [lay4]
   refine takeF 4 (some 9) (v := ?_) hS ?_ ?_
   rotate_left
   ·intro w hSw
    go_simp
    with_reducible rfl
   try simp only [lay4]
   refine takeF 5 (some 10) (v := ?_) hS ?_ ?_
   rotate_left
   ·intro w hSw
    go_simp
    with_reducible rfl
   try simp only [lay4]
   refine takeF 6 (some 11) (v := ?_) hS ?_ ?_
   rotate_left
   ·intro w hSw
    obtain ⟨k2, k3, k4, k5⟩ := hSw
    go_simp
    with_reducible rfl
   try simp only [lay4]
   refine takeF 8 (some 13) (v := ?_) hS ?_ ?_
   rotate_left
   ·intro w hSw
    go_simp
    with_reducible rfl
   try simp only [lay4]
   refine takeF 9 (some 14) (v := ?_) hS ?_ ?_
   rotate_left
   ·intro w hSw
    obtain ⟨k2, k3, k4, k5⟩ := hSw
    go_simp
    with_reducible rfl
   try simp only [lay4]
   refine callD 7 (by kernel_rfl) rfl (fun K hK => ?_)
   rw [if_pos (by rfl)]
   go_simp
   refine (HWI.out _).mono ?_
   rintro e Y ⟨rfl, rfl⟩
   refine hK.out _ _ hS (fun _ => ?_)
   clear hK K
   try simp only [lay4]
   refine takeF 10 (some 15) (v := ?_) hS ?_ ?_
   rotate_left
   ·intro w hSw
    go_simp
    try simp only [hd1, hd2]
    with_reducible rfl
   try simp only [lay4]
   refine takeF 11 (some 16) (v := ?_) hS ?_ ?_
   rotate_left
   ·intro w hSw
    try go_simp
    with_reducible rfl
   try simp only [lay4]
   refine takeF 12 (some 17) (v := ?_) hS ?_ ?_
   rotate_left
   ·intro w hSw
    go_simp
    with_reducible rfl
   try simp only [lay4]
   refine takeF 13 (some 18) (v := ?_) hS ?_ ?_
   rotate_left
   ·intro w hSw
    obtain ⟨k2, k3, k4, k5⟩ := hSw
    go_simp
    with_reducible rfl
   try simp only [lay4]
   refine takeF 14 (some 19) (v := ?_) hS ?_ ?_
   rotate_left
   ·intro w hSw
    go_simp
    try simp only [hd1, hd2]
    with_reducible rfl
   try simp only [lay4]
   refine takeF 15 (some 20) (v := ?_) hS ?_ ?_
   rotate_left
   ·intro w hSw
    try go_simp
    with_reducible rfl
   try simp only [lay4]
   refine takeF 16 (some 21) (v := ?_) hS ?_ ?_
   rotate_left
   ·intro w hSw
    try go_simp
    with_reducible rfl
   try simp only [lay4]
   refine takeF 17 (some 22) (v := ?_) hS ?_ ?_
   rotate_left
   ·intro w hSw
    go_simp
    with_reducible rfl
   try simp only [lay4]
   refine takeF 18 (some 23) (v := ?_) hS ?_ ?_
   rotate_left
   ·intro w hSw
    go_simp
    with_reducible rfl
   try simp only [lay4]
   refine takeF 19 (some 24) (v := ?_) hS ?_ ?_
   rotate_left
   ·intro w hSw
    go_simp
    with_reducible rfl
   try simp only [lay4]
   refine takeF 20 (some 25) (v := ?_) hS ?_ ?_
   rotate_left
   ·intro w hSw
    obtain ⟨k2, k3, k4, k5⟩ := hSw
    go_simp
    with_reducible rfl
   try simp only [lay4]
   refine takeF 21 (some 26) (v := ?_) hS ?_ ?_
   rotate_left
   ·intro w hSw
    go_simp
    with_reducible rfl
   try simp only [lay4]
   refine takeF 22 (some 27) (v := ?_) hS ?_ ?_
   rotate_left
   ·intro w hSw
    go_simp
    with_reducible rfl
   try simp only [lay4]
   refine takeF 23 (some 4) (v := ?_) hS ?_ ?_
   rotate_left
   ·intro w hSw
    try go_simp
    with_reducible rfl
   try simp only [lay4]
   refine wpAnyH_done (by kernel_rfl) ?_ _
   go_wp2
   go_ret
   exact ⟨by rw [HT.out]; rfl, HB.out⟩
  ·have hd2 : (xn == 10) = false := by simpa using d2
   have hd3 : (xn != 10) = true := by simp [bne, hd2]
   have HT : Hid (R = true) := by show R = true; rw [<- hR', hd1]; simp [bne, hd2]
   clear hR' d1 d2
   go_enter Tryz.func162, Tryz.ntmps162
   go_wp2_with fail
   rw [HV.out]
   refine wp_region_held_drew (S := fun X => X.cell? ⟨w.heap.size, 2, none⟩ = some (.int .i64 xn) /\ X.cell? ⟨w.heap.size, 3, none⟩ = some (.int .i64 xm) /\ X.cell? ⟨g, o + 3, none⟩ = some (.int .i64 mk) /\ X.cell? ⟨g, o + 6, none⟩ = some (.bool ln)) hmx ⟨k2, k3, s3, s6⟩ (fun hS => ?_)
   refine takeF 0 (some 5) (v := ?_) hS ?_ ?_
   rotate_left
   ·intro w hSw
    go_simp
    with_reducible rfl
   try simp only [lay4]
   refine takeF 1 (some 6) (v := ?_) hS ?_ ?_
   rotate_left
   ·intro w hSw
    obtain ⟨k2, k3, k4, k5⟩ := hSw
    go_simp
    with_reducible rfl
   try simp only [lay4]
   refine takeF 2 (some 7) (v := ?_) hS ?_ ?_
   rotate_left
   ·intro w hSw
    try go_simp
    with_reducible rfl
   try simp only [lay4]
   refine takeF 3 (some 8) (v := ?_) hS ?_ ?_
   rotate_left
   ·intro w hSw
    go_simp
    with_reducible rfl
   try simp only [lay4]
   refine takeF 4 (some 9) (v := ?_) hS ?_ ?_
   rotate_left
   ·intro w hSw
    go_simp
    with_reducible rfl
   try simp only [lay4]
   refine takeF 5 (some 10) (v := ?_) hS ?_ ?_
   rotate_left
   ·intro w hSw
    go_simp
    with_reducible rfl
   try simp only [lay4]
   refine takeF 6 (some 11) (v := ?_) hS ?_ ?_
   rotate_left
   ·intro w hSw
    obtain ⟨k2, k3, k4, k5⟩ := hSw
    go_simp
    with_reducible rfl
   try simp only [lay4]
   refine takeF 8 (some 13) (v := ?_) hS ?_ ?_
   rotate_left
   ·intro w hSw
    go_simp
    with_reducible rfl
   try simp only [lay4]
   refine takeF 9 (some 14) (v := ?_) hS ?_ ?_
   rotate_left
   ·intro w hSw
    obtain ⟨k2, k3, k4, k5⟩ := hSw
    go_simp
    with_reducible rfl
   try simp only [lay4]
   refine callD 7 (by kernel_rfl) rfl (fun K hK => ?_)
   rw [if_pos (by rfl)]
   go_simp
   refine (HWI.out _).mono ?_
   rintro e Y ⟨rfl, rfl⟩
   refine hK.out _ _ hS (fun _ => ?_)
   clear hK K
   try simp only [lay4]
   refine takeF 10 (some 15) (v := ?_) hS ?_ ?_
   rotate_left
   ·intro w hSw
    go_simp
    try simp only [hd1, hd2, hd3, Bool.not_false]
    with_reducible rfl
   try simp only [lay4]
   refine takeF 11 (some 16) (v := ?_) hS ?_ ?_
   rotate_left
   ·intro w hSw
    try go_simp
    with_reducible rfl
   try simp only [lay4]
   refine takeF 12 (some 17) (v := ?_) hS ?_ ?_
   rotate_left
   ·intro w hSw
    go_simp
    with_reducible rfl
   try simp only [lay4]
   refine takeF 13 (some 18) (v := ?_) hS ?_ ?_
   rotate_left
   ·intro w hSw
    obtain ⟨k2, k3, k4, k5⟩ := hSw
    go_simp
    with_reducible rfl
   try simp only [lay4]
   refine takeF 14 (some 19) (v := ?_) hS ?_ ?_
   rotate_left
   ·intro w hSw
    go_simp
    try simp only [hd1, hd2, hd3, Bool.not_false]
    with_reducible rfl
   try simp only [lay4]
   refine takeF 15 (some 20) (v := ?_) hS ?_ ?_
   rotate_left
   ·intro w hSw
    try go_simp
    with_reducible rfl
   try simp only [lay4]
   refine takeD 16 (some 21) (v := undef) rfl rfl (by kernel_rfl) (by kernel_rfl) (by kernel_rfl) (fun _ _ _ h => h) (Or.inr ⟨by rfl, rfl⟩) hS ?_
   try simp only [lay4]
   refine takeD 17 (some 22) (v := undef) rfl rfl (by kernel_rfl) (by kernel_rfl) (by kernel_rfl) (fun _ _ _ h => h) (Or.inr ⟨by rfl, rfl⟩) hS ?_
   try simp only [lay4]
   refine takeD 18 (some 23) (v := undef) rfl rfl (by kernel_rfl) (by kernel_rfl) (by kernel_rfl) (fun _ _ _ h => h) (Or.inr ⟨by rfl, rfl⟩) hS ?_
   try simp only [lay4]
   refine takeD 19 (some 24) (v := undef) rfl rfl (by kernel_rfl) (by kernel_rfl) (by kernel_rfl) (fun _ _ _ h => h) (Or.inr ⟨by rfl, rfl⟩) hS ?_
   try simp only [lay4]
   refine takeD 20 (some 25) (v := undef) rfl rfl (by kernel_rfl) (by kernel_rfl) (by kernel_rfl) (fun _ _ _ h => h) (Or.inr ⟨by rfl, rfl⟩) hS ?_
   try simp only [lay4]
   refine takeF 21 (some 26) (v := ?_) hS ?_ ?_
   rotate_left
   ·intro w hSw
    go_simp
    with_reducible rfl
   try simp only [lay4]
   refine takeF 22 (some 27) (v := ?_) hS ?_ ?_
   rotate_left
   ·intro w hSw
    go_simp
    with_reducible rfl
   try simp only [lay4]
   refine takeF 23 (some 4) (v := ?_) hS ?_ ?_
   rotate_left
   ·intro w hSw
    try go_simp
    with_reducible rfl
   try simp only [lay4]
   refine wpAnyH_done (by kernel_rfl) ?_ _
   go_wp2
   go_ret
   exact ⟨by rw [HT.out]; rfl, HB.out⟩
 ·have hd1 : (wi == xm) = false := by simpa using d1
  have HT : Hid (R = false) := by show R = false; rw [<- hR', hd1]; rfl
  clear hR' d1
  go_enter Tryz.func162, Tryz.ntmps162
  go_wp2_with fail
  rw [HV.out]
  refine wp_region_held_drew (S := fun X => X.cell? ⟨w.heap.size, 2, none⟩ = some (.int .i64 xn) /\ X.cell? ⟨w.heap.size, 3, none⟩ = some (.int .i64 xm) /\ X.cell? ⟨g, o + 3, none⟩ = some (.int .i64 mk) /\ X.cell? ⟨g, o + 6, none⟩ = some (.bool ln)) hmx ⟨k2, k3, s3, s6⟩ (fun hS => ?_)
  refine takeF 0 (some 5) (v := ?_) hS ?_ ?_
  rotate_left
  ·intro w hSw
   go_simp
   with_reducible rfl
  try simp only [lay4]
  refine takeF 1 (some 6) (v := ?_) hS ?_ ?_
  rotate_left
  ·intro w hSw
   obtain ⟨k2, k3, k4, k5⟩ := hSw
   go_simp
   with_reducible rfl
  try simp only [lay4]
  refine takeF 2 (some 7) (v := ?_) hS ?_ ?_
  rotate_left
  ·intro w hSw
   try go_simp
   with_reducible rfl
  try simp only [lay4]
  refine takeF 3 (some 8) (v := ?_) hS ?_ ?_
  rotate_left
  ·intro w hSw
   go_simp
   with_reducible rfl
  try simp only [lay4]
  refine takeF 4 (some 9) (v := ?_) hS ?_ ?_
  rotate_left
  ·intro w hSw
   go_simp
   with_reducible rfl
  try simp only [lay4]
  refine takeF 5 (some 10) (v := ?_) hS ?_ ?_
  rotate_left
  ·intro w hSw
   go_simp
   with_reducible rfl
  try simp only [lay4]
  refine takeF 6 (some 11) (v := ?_) hS ?_ ?_
  rotate_left
  ·intro w hSw
   obtain ⟨k2, k3, k4, k5⟩ := hSw
   go_simp
   with_reducible rfl
  try simp only [lay4]
  refine takeF 8 (some 13) (v := ?_) hS ?_ ?_
  rotate_left
  ·intro w hSw
   go_simp
   with_reducible rfl
  try simp only [lay4]
  refine takeF 9 (some 14) (v := ?_) hS ?_ ?_
  rotate_left
  ·intro w hSw
   obtain ⟨k2, k3, k4, k5⟩ := hSw
   go_simp
   with_reducible rfl
  try simp only [lay4]
  refine callD 7 (by kernel_rfl) rfl (fun K hK => ?_)
  rw [if_pos (by rfl)]
  go_simp
  refine (HWI.out _).mono ?_
  rintro e Y ⟨rfl, rfl⟩
  refine hK.out _ _ hS (fun _ => ?_)
  clear hK K
  try simp only [lay4]
  refine takeF 10 (some 15) (v := ?_) hS ?_ ?_
  rotate_left
  ·intro w hSw
   go_simp
   try simp only [hd1]
   with_reducible rfl
  try simp only [lay4]
  refine takeF 11 (some 16) (v := ?_) hS ?_ ?_
  rotate_left
  ·intro w hSw
   try go_simp
   with_reducible rfl
  try simp only [lay4]
  refine takeD 12 (some 17) (v := undef) rfl rfl (by kernel_rfl) (by kernel_rfl) (by kernel_rfl) (fun _ _ _ h => h) (Or.inr ⟨by rfl, rfl⟩) hS ?_
  try simp only [lay4]
  refine takeD 13 (some 18) (v := undef) rfl rfl (by kernel_rfl) (by kernel_rfl) (by kernel_rfl) (fun _ _ _ h => h) (Or.inr ⟨by rfl, rfl⟩) hS ?_
  try simp only [lay4]
  refine takeD 14 (some 19) (v := undef) rfl rfl (by kernel_rfl) (by kernel_rfl) (by kernel_rfl) (fun _ _ _ h => h) (Or.inr ⟨by rfl, rfl⟩) hS ?_
  try simp only [lay4]
  refine takeD 15 (some 20) (v := undef) rfl rfl (by kernel_rfl) (by kernel_rfl) (by kernel_rfl) (fun _ _ _ h => h) (Or.inr ⟨by rfl, rfl⟩) hS ?_
  try simp only [lay4]
  refine takeD 16 (some 21) (v := undef) rfl rfl (by kernel_rfl) (by kernel_rfl) (by kernel_rfl) (fun _ _ _ h => h) (Or.inr ⟨by rfl, rfl⟩) hS ?_
  try simp only [lay4]
  refine takeD 17 (some 22) (v := undef) rfl rfl (by kernel_rfl) (by kernel_rfl) (by kernel_rfl) (fun _ _ _ h => h) (Or.inr ⟨by rfl, rfl⟩) hS ?_
  try simp only [lay4]
  refine takeD 18 (some 23) (v := undef) rfl rfl (by kernel_rfl) (by kernel_rfl) (by kernel_rfl) (fun _ _ _ h => h) (Or.inr ⟨by rfl, rfl⟩) hS ?_
  try simp only [lay4]
  refine takeD 19 (some 24) (v := undef) rfl rfl (by kernel_rfl) (by kernel_rfl) (by kernel_rfl) (fun _ _ _ h => h) (Or.inr ⟨by rfl, rfl⟩) hS ?_
  try simp only [lay4]
  refine takeD 20 (some 25) (v := undef) rfl rfl (by kernel_rfl) (by kernel_rfl) (by kernel_rfl) (fun _ _ _ h => h) (Or.inr ⟨by rfl, rfl⟩) hS ?_
  try simp only [lay4]
  refine takeD 21 (some 26) (v := undef) rfl rfl (by kernel_rfl) (by kernel_rfl) (by kernel_rfl) (fun _ _ _ h => h) (Or.inr ⟨by rfl, rfl⟩) hS ?_
  try simp only [lay4]
  refine takeF 22 (some 27) (v := ?_) hS ?_ ?_
  rotate_left
  ·intro w hSw
   go_simp
   with_reducible rfl
  try simp only [lay4]
  refine takeF 23 (some 4) (v := ?_) hS ?_ ?_
  rotate_left
  ·intro w hSw
   try go_simp
   with_reducible rfl
  try simp only [lay4]
  refine wpAnyH_done (by kernel_rfl) ?_ _
  go_wp2
  go_ret
  exact ⟨by rw [HT.out]; rfl, HB.out⟩
def mayBeB (s : SpecD) (x : Tok) : Bool := (s.leaf == (x.k == 3)) && decide (s.least <= x.n) && decide (x.n <= s.most)
set_option maxRecDepth 100000 in
set_option maxHeartbeats 400000 in
theorem maybe_calls (g o : Nat) (s : SpecD) (x : Tok) (w : World) (h : SpecAt w g o s) (hg : g < w.heap.size) : Calls Tryz.prog 164 #[.pointer (some ⟨g, o, none⟩), tokV x] w fun e w' => e = .returned (.bool (mayBeB s x)) /\ Below w.heap.size w w' := by
 have hBV : Below w.heap.size w (w.alloc (.cells #[.int .i64 x.k, .int .i64 x.t, .int .i64 x.n, .int .i64 x.m] 48)) := (Below.refl _ w).alloc (Nat.le_refl _) _
 obtain ⟨_, _, s2, _, s4, s5, _⟩ := h.same (hBV.block g hg)
 have HB : Hid (Below w.heap.size w (w.alloc (.cells #[.int .i64 x.k, .int .i64 x.t, .int .i64 x.n, .int .i64 x.m] 48))) := hBV
 unfold mayBeB tokV
 clear hBV h hg
 generalize s.leaf = lf at *
 generalize s.least = le at *
 generalize s.most = mo at *
 obtain ⟨xk, xt, xn, xm⟩ := x
 dsimp only at *
 obtain ⟨q, hq⟩ : ∃ q, (lf == (xk == 3)) = q := ⟨_, rfl⟩
 rw [hq]
 cases q with
 | false =>
  go_enter Tryz.func164, Tryz.ntmps164
  go_wp2
  go_quiet (fail)
  go_wp2
  go_ret
  exact ⟨rfl, HB.out.trans ⟨rfl, rfl, rfl, Nat.le_refl _, fun _ _ => rfl⟩⟩
 | true =>
  by_cases d1 : le <= xn
  ·have e1 : decide (le <= xn) = true := by simpa using d1
   by_cases d2 : xn <= mo
   ·have e2 : decide (xn <= mo) = true := by simpa using d2
    rw [e1, e2]
    go_enter Tryz.func164, Tryz.ntmps164
    go_wp2
    go_quiet (fail)
    go_wp2
    go_ret
    exact ⟨rfl, HB.out.trans ⟨rfl, rfl, rfl, Nat.le_refl _, fun _ _ => rfl⟩⟩
   ·have e2 : decide (xn <= mo) = false := by simpa using d2
    rw [e1, e2]
    go_enter Tryz.func164, Tryz.ntmps164
    go_wp2
    go_quiet (fail)
    go_wp2
    go_ret
    exact ⟨rfl, HB.out.trans ⟨rfl, rfl, rfl, Nat.le_refl _, fun _ _ => rfl⟩⟩
  ·have e1 : decide (le <= xn) = false := by simpa using d1
   rw [e1]
   go_enter Tryz.func164, Tryz.ntmps164
   go_wp2
   go_quiet (fail)
   go_wp2
   go_ret
   exact ⟨rfl, HB.out.trans ⟨rfl, rfl, rfl, Nat.le_refl _, fun _ _ => rfl⟩⟩
end Go.Proofs.YtbkpehfaofhmaaaGreatDoor

/- DBFOpen: flat.openAt at every slice of tokens and every number: what it returns; nothing that lay before is turned. -/
namespace Go.Proofs.YtbkpehfaofhmaaaGreatDoor
open Go.RowKit
def Lies (a : Option Addr) (len cap : Nat) : Prop := len <= cap /\ cap <= 9223372036854775807 /\ (a = none -> cap = 0) /\ (∀ x, a = some x -> 0 < cap -> x.spot = none)
def zeros : Array Value := #[.int .i64 0, .int .i64 0, .int .i64 0, .int .i64 0, .int .i64 0, .int .i64 0, .int .i64 0, .int .i64 0, .int .i64 0, .int .i64 0, .int .i64 0, .int .i64 0, .int .i64 0, .int .i64 0, .int .i64 0, .int .i64 0, .int .i64 0, .int .i64 0, .int .i64 0, .int .i64 0, .int .i64 0, .int .i64 0, .int .i64 0, .int .i64 0, .int .i64 0, .int .i64 0, .int .i64 0, .int .i64 0, .int .i64 0, .int .i64 0, .int .i64 0, .int .i64 0, .slice none 0 0, .int .i64 0]
theorem StkCells.one {v : Value} {R : List Int} {cs : Array Value} (h : StkCells v R cs) {a : Option Addr} {n c : Nat} (hv : v = .slice a n c) : cs.all (·.oneCell') = true := by
 obtain ⟨h0, h1, h2, h3, h4⟩ := h
 rw [Array.all_eq_true]
 intro i hi
 by_cases e : i < 32
 ·obtain ⟨z, hz⟩ := h2 i e
  rw [Array.getElem?_eq_getElem hi] at hz
  rw [Option.some.inj hz]
  rfl
 ·by_cases e2 : i = 32
  ·subst e2
   rw [Array.getElem?_eq_getElem hi] at h3
   rw [Option.some.inj h3, hv]
   rfl
  ·obtain rfl : i = 33 := by omega
   rw [Array.getElem?_eq_getElem hi] at h4
   rw [Option.some.inj h4]
   rfl
theorem info47 : (Tryz.prog.info? 132).map (·.size) = some 34 := by kernel_rfl
theorem wpList_put_row {P : Program} {ops : Array Oper} {rest : List Oper} {o : Oper} {a : Act} {w : World} {Q : Exit -> Act -> World -> Prop} (hgd : o.guard = none) (ty : TypeId) (x y : Operand) (ho : o.op = .store ty x y)
  (g : Nat) (cells : Array Value) (hx : a.eval x = .pointer (some ⟨g, 0, none⟩)) (hy : a.eval y = .agg cells) (t : TypeId) (old : Array Value) (hg : w.heap[g]? = some (.cells old t (0, 0))) (hi : (P.info? ty).map (·.size) = some cells.size)
  (hold : old.size = cells.size) (h1 : cells.all (·.oneCell') = true) (h : wpList P ops Q rest (a.put o.dst undef) (w.setRow g cells)) : wpList P ops Q (o :: rest) a w :=
 wpList_plain hgd fun _ hK => wp_store_row ty x y ho g cells hx hy t old hg hi hold h1 (hK _ _ h)
theorem own_mono {w : World} {b b' : Nat} {e : TypeId} {v : Value} {n : Nat} {xs : List Value} (h : w.ownsRow b e 1 v n xs) (hb : b' <= b) : w.ownsRow b' e 1 v n xs := by
 obtain ⟨h1, h2 | ⟨g, cap, cur, h3, h4, h5⟩⟩ := h
 ·exact ⟨h1, .inl h2⟩
 ·exact ⟨h1, .inr ⟨g, cap, cur, h3, by omega, h5⟩⟩
theorem open_leaves {w wr : World} {v : Value} {R : List Int} (hS : Stk wr (w.heap.size + 1) (w.heap.size + 1) v R) (hB : Below (w.heap.size + 1) (w.alloc (.cells zeros 132)) wr) :
  ∃ cs, wr.heap[w.heap.size + 1]? = some (.cells cs 132 (0, 0)) /\ wr.heap[w.heap.size]? = some (.cells zeros 132 (0, 0)) /\ cs.size = 34 /\ StkCells v R cs /\ cs.all (·.oneCell') = true ∧
   (wr.setRow w.heap.size cs).ownsRow w.heap.size 3 1 v (R.length - 32) ((R.drop 32).map (Value.int .i64)) /\ Below w.heap.size w (wr.setRow w.heap.size cs) /\ (wr.setRow w.heap.size cs).heap[w.heap.size]? = some (.cells cs 132 (0, 0)) /\ (wr.setRow w.heap.size cs).heap[w.heap.size + 1]? = some (.cells cs 132 (0, 0)) := by
 obtain ⟨_, h1, cs, h2, h3⟩ := hS
 have hz : wr.heap[w.heap.size]? = some (.cells zeros 132 (0, 0)) := (hB.block w.heap.size (by omega)).trans (heap_alloc_new w _)
 obtain ⟨a, c, hv⟩ := own_slice h1
 refine ⟨cs, h2, hz, h3.1, h3, h3.one hv, ?_, ?_, ?_, ?_⟩
 ·have h4 := own_mono h1 (show w.heap.size <= w.heap.size + 1 by omega)
  obtain ⟨k1, k2 | ⟨g, cap, cur, rfl, hb, hg, k3⟩⟩ := h1
  ·exact ⟨k1, .inl k2⟩
  ·refine ⟨k1, .inr ⟨g, cap, cur, rfl, by omega, ?_, k3⟩⟩
   rw [setRow_other _ _ _ _ (by omega)]
   exact hg
 ·have h5 : Below w.heap.size w wr := ((Below.refl _ w).alloc (Nat.le_refl _) _).trans (hB.mono (by omega))
  exact ⟨h5.os, h5.tape, h5.output, by simpa using h5.size, fun k hk => by rw [setRow_other _ _ _ _ (by omega)]; exact h5.block k hk⟩
 ·exact setRow_heap _ _ _ _ _ _ hz
 ·rw [setRow_other _ _ _ _ (by omega)]
  exact h2
def Opened (w : World) (R : List Int) (e : Ending) (w' : World) : Prop := ∃ cs v, e = .returned (.agg cs) /\ StkCells v R cs /\ w'.ownsRow w.heap.size 3 1 v (R.length - 32) ((R.drop 32).map (Value.int .i64)) /\ Below w.heap.size w w'
set_option maxRecDepth 100000 in
set_option maxHeartbeats 2000000 in
theorem fopen_none (a : Option Addr) (len cap : Nat) (p : Int) (w : World) (hp : p < 0 \/ (len : Int) < p) : Calls Tryz.prog 76 #[.slice a len cap, .int .i64 p] w (Opened w []) := by
 have hS : Stk ((w.alloc (.cells zeros 132)).alloc (.cells zeros 132)) (w.heap.size + 1) (w.heap.size + 1) (.slice none 0 0) [] := by
  have := stk_new (w.alloc (.cells zeros 132))
  simp only [World.size_alloc] at this
  exact this
 have hB : Below (w.heap.size + 1) (w.alloc (.cells zeros 132)) ((w.alloc (.cells zeros 132)).alloc (.cells zeros 132)) := (Below.refl _ _).alloc (by simp) _
 obtain ⟨cs, g1, g2, hz, hc, h1, ho, hbel, g3, g4⟩ := open_leaves hS hB
 clear hS hB
 have hd : p < 0 \/ (decide (p < 0) = false /\ (len : Int) < p) := by
  by_cases h : p < 0
  ·exact .inl h
  ·exact .inr ⟨by simpa using h, by omega⟩
 unfold zeros at *
 rcases hd with hd | ⟨hd, hd2⟩
 all_goals
  go_enter Tryz.func76, Tryz.ntmps76
  go_wp2_with (first | refine wpList_load_row rfl 132 _ rfl (w.heap.size + 1) rfl 132 cs (0, 0) _ g1 Tryz.underlying132 rfl (by rw [hz]; exact info47) ?_ | refine wpList_put_row rfl 132 _ _ rfl w.heap.size cs rfl rfl 132 _ g2 (by rw [hz]; exact info47) (by rw [hz]; rfl) h1 ?_)
  refine bodyPost_ret (results_cell_row rfl _ _ w.heap.size 132 cs (0, 0) _ rfl g3 Tryz.underlying132 rfl (by rw [hz]; exact info47)) rfl ?_
  exact ⟨cs, _, rfl, hc, ho, hbel⟩
set_option maxRecDepth 100000 in
set_option maxHeartbeats 4000000 in
theorem fopen_some (a : Option Addr) (len cap : Nat) (l : List Tok) (n : Nat) (w : World) (hl : Toks w a len l) (hsz : len <= 4398046511104) (hlie : Lies a len cap) (hn : n <= len) : Calls Tryz.prog 76 #[.slice a len cap, .int .i64 (n : Int)] w (Opened w (opened l n)) := by
 obtain ⟨hc1, hc2, ha, hspot⟩ := hlie
 have hS0 : Hid (Stk ((w.alloc (.cells zeros 132)).alloc (.cells zeros 132)) (w.heap.size + 1) (w.heap.size + 1) (.slice none 0 0) []) := by
  have := stk_new (w.alloc (.cells zeros 132))
  simp only [World.size_alloc] at this
  exact this
 have hB0 : Hid (Below (w.heap.size + 1) (w.alloc (.cells zeros 132)) ((w.alloc (.cells zeros 132)).alloc (.cells zeros 132))) := (Below.refl _ _).alloc (by simp) _
 have HO : Hid (openL ((l.take n).drop 0) 0 [] = opened l n) := by
  show _ = _
  unfold opened
  rw [if_pos (by rw [hl.1]; omega), Int.toNat_natCast, List.drop_zero]
 have e0 : decide ((n : Int) < 0) = false := by simp
 have e1 : decide (len < n) = false := by simpa using hn
 generalize hTT : opened l n = T at *
 clear hTT
 rcases Nat.eq_zero_or_pos cap with h0 | h0
 ·subst h0
  obtain rfl : len = 0 := by omega
  obtain rfl : n = 0 := by omega
  cases a with
  | none =>
   go_enter Tryz.func76, Tryz.ntmps76
   go_wp2
   go_loopw [21] (fun i w' => ∃ (k : Nat) (v : Value) (R : List Int), k <= 0 /\ i = .int .i64 (k : Int) /\ R.length <= k /\ Stk w' (w.heap.size + 1) (w.heap.size + 1) v R /\ openL ((l.take 0).drop k) k R = T /\ Below (w.heap.size + 1) (w.alloc (.cells zeros 132)) w') (fun i _ => 0 - (intOf i).toNat)
   case atStart => exact ⟨0, _, [], Nat.zero_le _, rfl, by simp, hS0.out, HO.out, hB0.out⟩
   case round =>
    obtain ⟨k, v, R, hk, rfl, hR, hS, hT, hB⟩ := hrel
    have HZ := hB.size
    rw [World.size_alloc] at HZ
    by_cases hlt : k < 0
    ·omega
    ·obtain rfl : k = 0 := by omega
     rw [List.drop_eq_nil_of_le (by rw [List.length_take]; omega), openL] at hT
     obtain ⟨cs, g1, g2, hz, hc, h1, ho, hbel, g3, g4⟩ := open_leaves hS hB
     rw [hT] at hc ho
     clear hS hB hT HO
     unfold zeros at *
     go_wp2_with (first | refine wpList_load_row rfl 132 _ rfl (w.heap.size + 1) rfl 132 cs (0, 0) _ g1 Tryz.underlying132 rfl (by rw [hz]; exact info47) ?_ | refine wpList_put_row rfl 132 _ _ rfl w.heap.size cs rfl rfl 132 _ g2 (by rw [hz]; exact info47) (by rw [hz]; rfl) h1 ?_)
     refine bodyPost_ret (results_cell_row rfl _ _ w.heap.size 132 cs (0, 0) _ rfl g3 Tryz.underlying132 rfl (by rw [hz]; exact info47)) rfl ?_
     exact ⟨cs, _, rfl, hc, ho, hbel⟩
  | some x =>
   go_enter Tryz.func76, Tryz.ntmps76
   go_wp2
   go_loopw [21] (fun i w' => ∃ (k : Nat) (v : Value) (R : List Int), k <= 0 /\ i = .int .i64 (k : Int) /\ R.length <= k /\ Stk w' (w.heap.size + 1) (w.heap.size + 1) v R /\ openL ((l.take 0).drop k) k R = T /\ Below (w.heap.size + 1) (w.alloc (.cells zeros 132)) w') (fun i _ => 0 - (intOf i).toNat)
   case atStart => exact ⟨0, _, [], Nat.zero_le _, rfl, by simp, hS0.out, HO.out, hB0.out⟩
   case round =>
    obtain ⟨k, v, R, hk, rfl, hR, hS, hT, hB⟩ := hrel
    have HZ := hB.size
    rw [World.size_alloc] at HZ
    by_cases hlt : k < 0
    ·omega
    ·obtain rfl : k = 0 := by omega
     rw [List.drop_eq_nil_of_le (by rw [List.length_take]; omega), openL] at hT
     obtain ⟨cs, g1, g2, hz, hc, h1, ho, hbel, g3, g4⟩ := open_leaves hS hB
     rw [hT] at hc ho
     clear hS hB hT HO
     unfold zeros at *
     go_wp2_with (first | refine wpList_load_row rfl 132 _ rfl (w.heap.size + 1) rfl 132 cs (0, 0) _ g1 Tryz.underlying132 rfl (by rw [hz]; exact info47) ?_ | refine wpList_put_row rfl 132 _ _ rfl w.heap.size cs rfl rfl 132 _ g2 (by rw [hz]; exact info47) (by rw [hz]; rfl) h1 ?_)
     refine bodyPost_ret (results_cell_row rfl _ _ w.heap.size 132 cs (0, 0) _ rfl g3 Tryz.underlying132 rfl (by rw [hz]; exact info47)) rfl ?_
     exact ⟨cs, _, rfl, hc, ho, hbel⟩
 ·cases a with
  | none => exact absurd (ha rfl) (by omega)
  | some x =>
   obtain ⟨b, o, sp⟩ := x
   obtain rfl : sp = none := hspot _ rfl h0
   go_enter Tryz.func76, Tryz.ntmps76
   go_wp2
   go_loopw [21] (fun i w' => ∃ (k : Nat) (v : Value) (R : List Int), k <= n /\ i = .int .i64 (k : Int) /\ R.length <= k /\ Stk w' (w.heap.size + 1) (w.heap.size + 1) v R /\ openL ((l.take n).drop k) k R = T /\ Below (w.heap.size + 1) (w.alloc (.cells zeros 132)) w') (fun i _ => n - (intOf i).toNat)
   case atStart => exact ⟨0, _, [], Nat.zero_le _, rfl, by simp, hS0.out, HO.out, hB0.out⟩
   case round =>
    obtain ⟨k, v, R, hk, rfl, hR, hS, hT, hB⟩ := hrel
    have HZ := hB.size
    rw [World.size_alloc] at HZ
    by_cases hlt : k < n
    ·obtain ⟨x, hx, hst⟩ := openL_step (l := l) (N := n) hlt (by rw [hl.1]; exact hn) R
     obtain ⟨b', o', x', eb, hbl, hx', hc⟩ := hl.token (k := k) (by omega)
     cases eb
     rw [hx] at hx'
     obtain rfl := Option.some.inj hx'
     have hBw : Below w.heap.size w wr := ((Below.refl _ w).alloc (Nat.le_refl _) _).trans (hB.mono (by omega))
     obtain ⟨c0, c1, c2, c3⟩ := hc wr hBw
     rw [hst] at hT
     have HT : Hid (openL ((l.take n).drop (k + 1)) (k + 1) (turn x k R) = T) := hT
     have HP : Hid (∀ o, Calls Tryz.prog 80 #[.pointer (some ⟨w.heap.size + 1, 0, none⟩), .int .i64 (k : Int), tokV x] (wr.alloc o) fun e w' => e = .returned (.tuple #[]) /\ ∃ v', Stk w' (w.heap.size + 1) (w.heap.size + 1) v' (turn x k R) /\ Below (w.heap.size + 1) (wr.alloc o) w') := by
      intro o
      have hSo := hS.alloc o
      refine (fpass_calls (w.heap.size + 1) (w.heap.size + 1) v R k x _ hSo (by simp; omega) (by omega)).mono ?_
      rintro e w' ⟨e1, v', e2, e3, _⟩
      exact ⟨e1, v', e2, e3.below (Nat.le_refl _) (fun j hj => (own_base hSo.2.1 j hj).1) (by simp; omega)⟩
     have HTL : Hid ((turn x k R).length <= k + 1) := by
      show (turn x k R).length <= k + 1
      unfold turn
      split <;> (try split) <;> first | omega | (simp; omega)
     clear hT hst hx hc hl hS HO hBw
     generalize turn x k R = R' at *
     obtain ⟨xk, xt, xn, xm⟩ := x
     simp only [tokV] at *
     go_wp2_with fail
     refine (HP.out _).mono ?_
     rintro e W2 ⟨rfl, v', hS2, hB4⟩
     have hB5 := (hB.alloc (by omega) _).trans hB4
     go_wp2
     go_roundw
     case rel => exact ⟨k + 1, v', R', by omega, rfl, HTL.out, hS2, HT.out, hB5⟩
     case measure => simp [intOf]; omega
    ·obtain rfl : k = n := by omega
     rw [List.drop_eq_nil_of_le (by rw [List.length_take]; omega), openL] at hT
     obtain ⟨cs, g1, g2, hz, hc, h1, ho, hbel, g3, g4⟩ := open_leaves hS hB
     rw [hT] at hc ho
     clear hS hB hT HO
     unfold zeros at *
     go_wp2_with (first | refine wpList_load_row rfl 132 _ rfl (w.heap.size + 1) rfl 132 cs (0, 0) _ g1 Tryz.underlying132 rfl (by rw [hz]; exact info47) ?_ | refine wpList_put_row rfl 132 _ _ rfl w.heap.size cs rfl rfl 132 _ g2 (by rw [hz]; exact info47) (by rw [hz]; rfl) h1 ?_)
     refine bodyPost_ret (results_cell_row rfl _ _ w.heap.size 132 cs (0, 0) _ rfl g3 Tryz.underlying132 rfl (by rw [hz]; exact info47)) rfl ?_
     exact ⟨cs, _, rfl, hc, ho, hbel⟩
end Go.Proofs.YtbkpehfaofhmaaaGreatDoor
