/-
  PROVED HERE: what the texts FPartner, FPart, FKidsO say (each has its own words below).
-/
import Derived.Test.YtgpopploimeeaaaCB6
/- FPartner: flat.endOf and flat.Partner at every slice of tokens and every number: what they return; nothing that lay before is turned. -/
namespace Go.Proofs.Ytgpopploimeeaaa
open Go.RowKit

theorem turn_length_le (x : Tok) (k : Nat) (R : List Int) : (turn x k R).length ≤ R.length + 1 := by
  unfold turn
  split <;> (try split) <;> first | omega | (simp; done) | (simp; omega)

set_option maxRecDepth 100000 in
set_option maxHeartbeats 4000000 in
theorem fend_calls (a : Option Addr) (len cap : Nat) (l : List Tok) (i : Nat) (w : World) (hl : Toks w a len l) (hsz : len ≤ 4398046511104) (hi : i < len) (hk1 : kindAt l i = 1) :
    Calls Try.prog 37 #[.slice a len cap, .int .i64 (i : Int)] w fun e w' => e = .returned (.int .i64 (partner l i)) ∧ Below w.heap.size w w' := by
  have hL := hl.1
  have HP0 : Hid (Seeks l i i (partner l i)) := .inl ⟨rfl, partner_open l i (by omega) hk1⟩
  have HS0 : Hid (Since l i i []) := .inl ⟨rfl, rfl⟩
  have HN : Hid (Stk (w.alloc (.cells zeros 80)) w.heap.size w.heap.size (.slice none 0 0) []) := stk_new w
  have HB0 : Hid (∀ o, Below w.heap.size w (w.alloc o)) := fun o => (Below.refl _ w).alloc (Nat.le_refl _) o
  have HK1 : Hid (kindAt l i = 1) := hk1
  clear hk1
  generalize partner l i = P at *
  go_enter Try.func37, Try.ntmps37
  go_wp2
  go_loopw [6] (fun u w' => ∃ (k : Nat) (v : Value) (R : List Int), k ≤ len ∧ i ≤ k ∧ u = .int .i64 (k : Int) ∧ R.length ≤ k ∧ Stk w' w.heap.size w.heap.size v R ∧ Since l i k R ∧ Seeks l i k P ∧ Below w.heap.size w w') (fun u _ => len - (intOf u).toNat)
  case atStart => exact ⟨i, _, [], by omega, by omega, rfl, by simp, HN.out, HS0.out, HP0.out, HB0.out _⟩
  case round =>
    obtain ⟨k, v, R, hk, hik, rfl, hR, hS, hSi, hSe, hB⟩ := hrel
    clear HP0 HS0 HN HB0
    by_cases hlt : k < len
    · obtain ⟨b, o, x, rfl, hbl, hx, hc⟩ := hl.token hlt
      obtain ⟨c0, c1, c2, c3⟩ := hc wr hB
      have HP : Hid (Calls Try.prog 36 #[.pointer (some ⟨w.heap.size, 0, none⟩), .int .i64 (k : Int), tokV x] wr fun e w' => e = .returned (.tuple #[]) ∧ ∃ v', Stk w' w.heap.size w.heap.size v' (turn x k R) ∧ Below w.heap.size wr w') := by
        refine (fpass_calls w.heap.size w.heap.size v R k x wr hS hB.size (by omega)).mono ?_
        rintro e w' ⟨e1, v', e2, e3, _⟩
        exact ⟨e1, v', e2, e3.below (Nat.le_refl _) (fun j hj => (own_base hS.2.1 j hj).1) hB.size⟩
      have HL := turn_length_le x k R
      have hst := end_step hSi hik (by omega) hx HK1.out hSe
      clear hc hl hSi hSe hS hx
      generalize turn x k R = R' at *
      obtain ⟨xk, xt, xn, xm⟩ := x
      simp only [tokV] at *
      rcases hst with ⟨rfl, hP⟩ | ⟨h1, h2, h3⟩
      · have HE : Hid (P = k) := hP
        clear hP
        go_wp2_with fail
        refine HP.out.mono ?_
        rintro e W2 ⟨rfl, v', hS2, hB4⟩
        have hB5 := hB.trans hB4
        obtain ⟨-, s33, -⟩ := hS2.cells
        simp only [List.length_nil] at s33
        clear hS2
        go_wp2
        go_ret
        exact ⟨by rw [HE.out]; rfl, hB5⟩
      · have HE1 : Hid (Since l i (k + 1) R') := h2
        have HE2 : Hid (Seeks l i (k + 1) P) := h3
        have ne : ((R'.length : Int) == 0) = false := by simpa using h1
        clear h1 h2 h3
        go_wp2_with fail
        refine HP.out.mono ?_
        rintro e W2 ⟨rfl, v', hS2, hB4⟩
        have hB5 := hB.trans hB4
        obtain ⟨-, s33, -⟩ := hS2.cells
        have HS2 : Hid (Stk W2 w.heap.size w.heap.size v' R') := hS2
        clear hS2
        go_wp2
        go_roundw
        case rel => exact ⟨k + 1, v', R', by omega, by omega, rfl, by omega, HS2.out, HE1.out, HE2.out, hB5⟩
        case measure => simp [intOf]; omega
    · obtain rfl : k = len := by omega
      have HE : Hid (P = -1) := end_none (l := l) (i := i) (by omega) (by rw [hL]; exact hSe)
      clear hSi hSe hS hl
      go_wp2
      go_ret
      exact ⟨by rw [HE.out]; rfl, hB⟩

set_option maxRecDepth 100000 in
set_option maxHeartbeats 2000000 in
theorem fpartner_calls (a : Option Addr) (len cap : Nat) (l : List Tok) (i : Int) (w : World) (hl : Toks w a len l) (hsz : len ≤ 4398046511104) (hlie : Lies a len cap) :
    Calls Try.prog 19 #[.slice a len cap, .int .i64 i] w fun e w' => e = .returned (.int .i64 (partner l i)) ∧ Below w.heap.size w w' := by
  have hp : partner l i = if i < 0 ∨ (len : Int) ≤ i then -1 else if kindAt l i.toNat = 2 then around l i else if kindAt l i.toNat = 1 then seek l i (i.toNat + 1) (len - (i.toNat + 1)) else -1 := by unfold partner; rw [hl.1]
  by_cases h0 : i < 0
  · rw [hp, if_pos (.inl h0)]
    go_enter Try.func19, Try.ntmps19
    go_wp2
    go_ret
    exact ⟨rfl, Below.refl _ _⟩
  have e0 : decide (i < 0) = false := by simpa using h0
  by_cases h1 : (len : Int) ≤ i
  · rw [hp, if_pos (.inr h1)]
    go_enter Try.func19, Try.ntmps19
    go_wp2
    go_ret
    exact ⟨rfl, Below.refl _ _⟩
  obtain ⟨n, rfl⟩ := Int.eq_ofNat_of_zero_le (show 0 ≤ i by omega)
  have hn : n < len := by omega
  have hE := fun h1 W (hW : Below w.heap.size w W) => fend_calls a len cap l n W (hl.below hW) hsz hn h1
  have hA := fun W (hW : Below w.heap.size w W) => faround_calls a len cap l (n : Int) W (hl.below hW) hsz hlie
  obtain ⟨b, o, rfl, hbl, hc⟩ := hl.kindAt hn
  have hc0 := hc w (Below.refl _ _)
  rw [if_neg (by omega), Int.toNat_natCast] at hp
  have e1 : decide ((len : Int) ≤ (n : Int)) = false := by simp; omega
  by_cases k2 : kindAt l n = 2
  · rw [if_pos k2] at hp
    rw [k2] at hc0
    rw [hp]
    clear hE
    generalize around l (n : Int) = y at *
    go_enter Try.func19, Try.ntmps19
    go_wp2_with fail
    refine (hA _ (Below.refl _ _)).mono ?_
    rintro e W1 ⟨rfl, hB⟩
    go_wp2
    go_ret
    exact ⟨rfl, hB⟩
  by_cases k1 : kindAt l n = 1
  · rw [k1] at hc0
    have hE' := hE k1
    clear hE hp hA
    generalize partner l (n : Int) = y at *
    go_enter Try.func19, Try.ntmps19
    go_wp2_with fail
    refine (hE' _ (Below.refl _ _)).mono ?_
    rintro e W1 ⟨rfl, hB⟩
    go_wp2
    go_ret
    exact ⟨rfl, hB⟩
  · rw [if_neg k2, if_neg k1] at hp
    rw [hp]
    clear hE hA
    generalize kindAt l n = z at *
    have e1 : (z == 1) = false := by simpa using k1
    have e2 : (z == 2) = false := by simpa using k2
    go_enter Try.func19, Try.ntmps19
    go_wp2
    go_ret
    exact ⟨rfl, Below.refl _ _⟩
end Go.Proofs.Ytgpopploimeeaaa

/- FPart: flat.isOpen, flat.isPart and flat.Kids at every slice of tokens and every number: what they return; nothing that lay before is turned. -/
namespace Go.Proofs.Ytgpopploimeeaaa
open Go.RowKit

set_option maxRecDepth 100000 in
set_option maxHeartbeats 1000000 in
theorem fisopen_calls (a : Option Addr) (len cap : Nat) (l : List Tok) (i : Int) (w : World) (hl : Toks w a len l) :
    Calls Try.prog 33 #[.slice a len cap, .int .i64 i] w fun e w' => e = .returned (.bool (decide (0 ≤ i ∧ i < len ∧ kindAt l i.toNat = 1))) ∧ w' = w := by
  by_cases h0 : 0 ≤ i
  · by_cases h1 : i < len
    · obtain ⟨n, rfl⟩ := Int.eq_ofNat_of_zero_le h0
      obtain ⟨b, o, rfl, hbl, hc⟩ := hl.kindAt (k := n) (by omega)
      have hc0 := hc w (Below.refl _ _)
      rw [show decide (0 ≤ (n : Int) ∧ (n : Int) < len ∧ kindAt l (n : Int).toNat = 1) = (kindAt l n == 1) from by rw [Bool.eq_iff_iff]; simp; omega]
      clear hc
      generalize kindAt l n = z at *
      go_enter Try.func33, Try.ntmps33
      go_wp2
      go_ret
      exact ⟨rfl, rfl⟩
    · rw [show decide (0 ≤ i ∧ i < len ∧ kindAt l i.toNat = 1) = false from by simp; omega]
      have e1 : decide (i < (len : Int)) = false := by simpa using h1
      go_enter Try.func33, Try.ntmps33
      go_wp2
      go_ret
      exact ⟨rfl, rfl⟩
  · rw [show decide (0 ≤ i ∧ i < len ∧ kindAt l i.toNat = 1) = false from by simp; omega]
    have e1 : decide (0 ≤ i) = false := by simpa using h0
    go_enter Try.func33, Try.ntmps33
    go_wp2
    go_ret
    exact ⟨rfl, rfl⟩
def part (x : Tok) : Bool := x.k == 0 || (x.k == 1 || x.k == 3)
set_option maxRecDepth 100000 in
set_option maxHeartbeats 1000000 in
theorem fispart_calls (x : Tok) (w : World) : Calls Try.prog 35 #[tokV x] w fun e w' => e = .returned (.bool (part x)) ∧ Below w.heap.size w w' := by
  obtain ⟨k, t, n, m⟩ := x
  unfold part tokV
  simp only
  by_cases k0 : k = 0
  · subst k0
    go_enter Try.func35, Try.ntmps35
    go_wp2
    go_ret
    exact ⟨rfl, (Below.refl _ _).alloc (Nat.le_refl _) _⟩
  have e0 : (k == 0) = false := by simpa using k0
  by_cases k1 : k = 1
  · subst k1
    go_enter Try.func35, Try.ntmps35
    go_wp2
    go_ret
    exact ⟨rfl, (Below.refl _ _).alloc (Nat.le_refl _) _⟩
  have e1 : (k == 1) = false := by simpa using k1
  by_cases k3 : k = 3
  · subst k3
    go_enter Try.func35, Try.ntmps35
    go_wp2
    go_ret
    exact ⟨rfl, (Below.refl _ _).alloc (Nat.le_refl _) _⟩
  have e3 : (k == 3) = false := by simpa using k3
  rw [e0, e1, e3]
  go_enter Try.func35, Try.ntmps35
  go_wp2
  go_ret
  exact ⟨rfl, (Below.refl _ _).alloc (Nat.le_refl _) _⟩

/-- Two rows of the call's own lie apart. -/
def Apart (u v : Value) : Prop := ∀ k, u.ownBlock = some k → v.ownBlock ≠ some k
/-- Behind an append to the row u: the stack is as it was. -/
theorem kids_append {w w2 : World} {B g : Nat} {u u2 v : Value} {R : List Int} {o : Obj} {n : Nat} {xs : List Value} (hS : Stk w B g v R) (hu : w.ownsRow B 3 1 u n xs) (hA : Apart u v) (hgrow : (w.alloc o).grownBy w2 u.ownBlock) (hat : u2.ownBlock = u.ownBlock ∨ u2.ownBlock = some (w.alloc o).heap.size) :
    Stk w2 B g v R ∧ Apart u2 v ∧ (∀ k, k < w.heap.size → u.ownBlock ≠ some k → w2.heap[k]? = w.heap[k]?) ∧ Below B w w2 := by
  have hk : ∀ k, k < w.heap.size → u.ownBlock ≠ some k → w2.heap[k]? = w.heap[k]? := fun k h1 h2 => by
    rw [hgrow.block k (by simp; omega) (fun e => h2 e.symm), Below.heap_alloc w o k h1]
  have hg := hS.cells.2.2.2.2.2
  obtain ⟨h0, h1, cs, h2, h3⟩ := hS
  have hug : u.ownBlock ≠ some g := by
    intro e
    obtain ⟨_, _, cur, h4⟩ := own_base hu g e
    rw [h2] at h4
    exact absurd (Obj.cells.inj (Option.some.inj h4)).2.1 (by decide)
  refine ⟨⟨h0, ?_, cs, (hk g hg hug).trans h2, h3⟩, ?_, hk, ?_⟩
  · obtain ⟨k1, k2 | ⟨b, cap, cur, rfl, hb, hc, k3⟩⟩ := h1
    · exact ⟨k1, .inl k2⟩
    · refine ⟨k1, .inr ⟨b, cap, cur, rfl, hb, ?_, k3⟩⟩
      rw [hk b (Array.getElem?_eq_some_iff.1 hc).1 (fun e => hA b e rfl)]
      exact hc
  · intro k hk2
    rcases hat with e | e
    · exact hA k (e ▸ hk2)
    · intro hv
      have := (own_base h1 k hv).2.1
      rw [e] at hk2
      simp at hk2
      omega
  · have hBw : B ≤ w.heap.size := by omega
    exact ⟨hgrow.os, hgrow.tape, hgrow.output, by have := hgrow.size; simp at this; omega, fun k hk2 => hk k (by omega) (fun e => by have := (own_base hu k e).1; omega)⟩
/-- Behind a pass: the row u is as it was. -/
theorem kids_pass {w w2 : World} {B g : Nat} {u v v' : Value} {R : List Int} {n : Nat} {xs : List Value} (hS : Stk w B g v R) (hu : w.ownsRow B 3 1 u n xs) (hA : Apart u v) (hK : Kept g v.ownBlock w w2) (hF : v'.ownBlock = v.ownBlock ∨ ∀ k, v'.ownBlock = some k → w.heap.size ≤ k) :
    w2.ownsRow B 3 1 u n xs ∧ Apart u v' ∧ Below B w w2 := by
  have hg := hS.cells.2.2.2.2.2
  obtain ⟨h0, h1, cs, h2, h3⟩ := hS
  have hug : u.ownBlock ≠ some g := by
    intro e
    obtain ⟨_, _, cur, h4⟩ := own_base hu g e
    rw [h2] at h4
    exact absurd (Obj.cells.inj (Option.some.inj h4)).2.1 (by decide)
  refine ⟨?_, ?_, hK.below h0 (fun k e => (own_base h1 k e).1) (by omega)⟩
  · obtain ⟨k1, k2 | ⟨b, cap, cur, rfl, hb, hc, k3⟩⟩ := hu
    · exact ⟨k1, .inl k2⟩
    · refine ⟨k1, .inr ⟨b, cap, cur, rfl, hb, ?_, k3⟩⟩
      rw [hK.block b (Array.getElem?_eq_some_iff.1 hc).1 (fun e => hug (by simp [Value.ownBlock, e])) (fun e => hA b rfl e.symm)]
      exact hc
  · intro k hk
    rcases hF with e | e
    · rw [e]
      exact hA k hk
    · intro hv
      have := e k hv
      have := (own_base hu k hk).2.1
      omega
theorem part_kept (i : Int) (x : Tok) (k : Nat) (S out : List Int) : kept i x k S out = if S.getLast?.getD (-1) = i ∧ part x = true then out ++ [(k : Int)] else out := by
  have hp : part x = true ↔ (x.k = 0 ∨ x.k = 1 ∨ x.k = 3) := by simp [part]
  unfold kept
  by_cases h : S.getLast?.getD (-1) = i ∧ part x = true
  · rw [if_pos h, if_pos ⟨h.1, hp.1 h.2⟩]
  · rw [if_neg h, if_neg (fun h2 => h ⟨h2.1, hp.2 h2.2⟩)]
end Go.Proofs.Ytgpopploimeeaaa

/- FKidsO: flat.Kids at every slice of tokens and every number: what it returns; nothing that lay before is turned. -/
namespace Go.Proofs.Ytgpopploimeeaaa
open Go.RowKit

theorem below_of_drewN {B : Nat} {w W : World} {q : Nat} (h : Below B (w.drewN q) W) : Below B w W := ⟨h.os, h.tape, h.output, h.size, h.block⟩

set_option maxRecDepth 100000 in
set_option maxHeartbeats 1000000 in
theorem fkids_out (a : Option Addr) (len cap : Nat) (l : List Tok) (w : World) (hl : Toks w a len l) (hsz : len ≤ 4398046511104) :
    Calls Try.prog 18 #[.slice a len cap, .int .i64 (-1)] w fun e w' => ∃ a' cap', e = .returned (.slice a' (kids l (-1)).length cap') ∧ Row .i64 w' a' (kids l (-1)).length (kids l (-1)) ∧ Below w.heap.size w w' := by
  obtain ⟨i0, hi, hz0, hz1, hz2⟩ := info_parts info3
  have hL := hl.1
  have HG0 : Hid (Gathers l (-1) 0 [] (kids l (-1))) := .inr ⟨by omega, by unfold kids; rw [if_neg (by omega)]; rfl⟩
  have HS0 : Hid (opened l ((0 : Nat) : Int) = []) := opened_zero l
  have HN0 : Hid (Stk (w.alloc (.cells zeros 80)) w.heap.size w.heap.size (.slice none 0 0) []) := stk_new w
  have HB0 : Hid (∀ o, Below w.heap.size w (w.alloc o)) := fun o => (Below.refl _ w).alloc (Nat.le_refl _) o
  generalize kids l (-1) = K at *
  go_enter Try.func18, Try.ntmps18
  go_wp2
  go_loopw [5, 7] (fun u u7 w' => ∃ (k : Nat) (v : Value) (R out : List Int), k ≤ len ∧ 0 ≤ k ∧ u7 = .int .i64 (k : Int) ∧ R.length ≤ k ∧ out.length ≤ k ∧ Stk w' w.heap.size w.heap.size v R ∧ w'.ownsRow w.heap.size 3 1 u out.length (out.map (Value.int .i64)) ∧ Apart u v ∧ opened l (k : Int) = R ∧ Gathers l (-1) k out K ∧ Below w.heap.size w w') (fun _ u7 _ => len - (intOf u7).toNat)
  case atStart => exact ⟨0, _, [], [], by omega, by omega, by simp, by simp, by simp, HN0.out, World.ownsRow_nil _ _ _ _, fun _ h => by simp [Value.ownBlock] at h, HS0.out, HG0.out, HB0.out _⟩
  case round =>
    obtain ⟨k, v, R, out, hk, hik, rfl, hR, hO, hS, hu, hA, hSi, hG, hB⟩ := hrel
    clear HS0 HG0 HN0 HB0
    by_cases hlt : k < len
    · obtain ⟨b, o, x, rfl, hbl, hx, hc⟩ := hl.token hlt
      obtain ⟨c0, c1, c2, c3⟩ := hc wr hB
      have hst0 : Hid (opened l ((k + 1 : Nat) : Int) = turn x k R ∧ Gathers l (-1) (k + 1) (kept (-1) x k R out) K) := by
        show _ ∧ _
        rw [opened_succ l k x hx, hSi]
        exact ⟨rfl, by have := kids_out (by omega) hx hG; rw [hSi] at this; exact this⟩
      have hst := hst0.out
      clear hst0
      have HL := turn_length_le x k R
      have HOL : Hid ((kept (-1) x k R out).length ≤ k + 1) := by
        show (kept (-1) x k R out).length ≤ k + 1
        unfold kept
        split <;> first | omega | (simp; omega)
      have HTop : Hid (∀ o, Calls Try.prog 34 #[.pointer (some ⟨w.heap.size, 0, none⟩)] (wr.alloc o) fun e w' => e = .returned (.int .i64 (R.getLast?.getD (-1))) ∧ ∃ q, w' = (wr.alloc o).drewN q) := fun o => ftop_calls _ _ _ _ _ (hS.alloc o) (by omega)
      have HPart := fun W => fispart_calls x W
      have HPass : Hid (∀ W u (n : Nat) (xs : List Value), Stk W w.heap.size w.heap.size v R → W.ownsRow w.heap.size 3 1 u n xs → Apart u v → w.heap.size ≤ W.heap.size → Calls Try.prog 36 #[.pointer (some ⟨w.heap.size, 0, none⟩), .int .i64 (k : Int), tokV x] W fun e w' => e = .returned (.tuple #[]) ∧ ∃ v', Stk w' w.heap.size w.heap.size v' (turn x k R) ∧ w'.ownsRow w.heap.size 3 1 u n xs ∧ Apart u v' ∧ Below w.heap.size W w') := by
        intro W u n xs g1 g2 g3 g4
        refine (fpass_calls w.heap.size w.heap.size v R k x W g1 g4 (by omega)).mono ?_
        rintro e w' ⟨e1, v', e2, e3, e4⟩
        obtain ⟨f1, f2, f3⟩ := kids_pass g1 g2 g3 e3 e4
        exact ⟨e1, v', e2, f1, f2, f3⟩
      have HSz := hB.size
      have HTu : Hid (∀ j, u5.ownBlock = some j → j < wr.heap.size) := fun j hj => (own_base hu j hj).2.1
      rw [part_kept] at hst HOL
      clear hc hl hx hSi hG
      generalize turn x k R = R' at *
      generalize hy : R.getLast?.getD (-1) = y at *
      generalize part x = pq at *
      obtain ⟨xk, xt, xn, xm⟩ := x
      simp only [tokV] at *
      by_cases hyi : y = -1
      · subst hyi
        cases pq
        · rw [if_neg (fun h => by simp at h)] at hst HOL
          obtain ⟨g1, g2⟩ := hst
          have HE1 : Hid (opened l ((k + 1 : Nat) : Int) = R') := g1
          have HE2 : Hid (Gathers l (-1) (k + 1) (out) K) := g2
          clear g1 g2
          go_wp2_with fail
          refine (HTop.out _).mono ?_
          rintro e W0 ⟨rfl, q, rfl⟩
          go_wp2_with fail
          refine (HPart _).mono ?_
          rintro e W1 ⟨rfl, hB1⟩
          obtain ⟨t0, t1, t2, t3, hB2⟩ := tok_kept (below_of_drewN hB1)
          have sP := hS.below hB2
          have uP := own_below hu hB2 HSz
          have aP := hA
          have bP := hB.trans (hB2.mono HSz)
          have HZ1 := hB2.size
          clear hB2 hB1 HPart HTop
          go_wp2_with fail
          refine (HPass.out _ _ _ _ sP uP aP bP.size).mono ?_
          rintro e W2 ⟨rfl, v', s2, u2, a2, b2⟩
          have bQ := bP.trans b2
          clear sP uP aP bP b2 HPass
          obtain ⟨-, s33, -⟩ := s2.cells
          go_wp2
          go_roundw
          case rel => exact ⟨k + 1, v', R', out, by omega, by omega, rfl, by omega, HOL.out, s2, by simpa using u2, a2, HE1.out, HE2.out, bQ⟩
          case measure => simp [intOf]; omega
        · rw [if_pos ⟨rfl, rfl⟩] at hst HOL
          obtain ⟨g1, g2⟩ := hst
          have HE1 : Hid (opened l ((k + 1 : Nat) : Int) = R') := g1
          have HE2 : Hid (Gathers l (-1) (k + 1) (out ++ [(k : Int)]) K) := g2
          clear g1 g2
          go_wp2_with fail
          refine (HTop.out _).mono ?_
          rintro e W0 ⟨rfl, q, rfl⟩
          go_wp2_with fail
          refine (HPart _).mono ?_
          rintro e W1 ⟨rfl, hB1⟩
          obtain ⟨t0, t1, t2, t3, hB2⟩ := tok_kept (below_of_drewN hB1)
          have sP := hS.below hB2
          have uP := own_below hu hB2 HSz
          have aP := hA
          have bP := hB.trans (hB2.mono HSz)
          have HZ1 := hB2.size
          have HT1 : wr.heap.size < W1.heap.size := by
            have := hB1.size
            simp at this
            omega
          clear hB2 hB1 HPart HTop hS hu hA
          go_wp2_with (at_builtin; refine wpList_append_own_at _ rfl _ _ 45 rfl w.heap.size 3 i0 (.int .i64 0) 1 8 Try.underlying45 hi hz0 hz1 hz2 rfl (by decide) _ _ _ rfl (uP.alloc _) ⟨W1.heap.size, 0, none⟩ 1 1 [.int .i64 (k : Int)] rfl rfl (cell_one_new _ _ _) (by simp [Value.oneCell']) (by unfold maxLen; omega) (by omega) (by simp; omega) ?_; intro v2 w2 hown2 hgrow hnil2 hat; obtain ⟨sP2, aP2, hk2, bP2⟩ := kids_append sP uP aP hgrow hat; have hT := hk2 wr.heap.size HT1 (fun e => Nat.lt_irrefl _ (HTu.out _ e)); have r0 : w2.cell? ⟨wr.heap.size, 0, none⟩ = some (.int .i64 xk) := (World.cell?_of_block (a := ⟨wr.heap.size, 0, none⟩) hT).trans t0; have r1 : w2.cell? ⟨wr.heap.size, 1, none⟩ = some (.int .i64 xt) := (World.cell?_of_block (a := ⟨wr.heap.size, 1, none⟩) hT).trans t1; have r2 : w2.cell? ⟨wr.heap.size, 2, none⟩ = some (.int .i64 xn) := (World.cell?_of_block (a := ⟨wr.heap.size, 2, none⟩) hT).trans t2; have r3 : w2.cell? ⟨wr.heap.size, 3, none⟩ = some (.int .i64 xm) := (World.cell?_of_block (a := ⟨wr.heap.size, 3, none⟩) hT).trans t3; have bP3 := bP.trans bP2; clear sP uP aP bP hk2 bP2 hT t0 t1 t2 t3 hgrow hat hnil2)
          refine (HPass.out _ _ _ _ sP2 hown2 aP2 bP3.size).mono ?_
          rintro e W2 ⟨rfl, v', s2, u2, a2, b2⟩
          have bQ := bP3.trans b2
          clear sP2 hown2 aP2 bP3 b2 HPass
          obtain ⟨-, s33, -⟩ := s2.cells
          go_wp2
          go_roundw
          case rel => exact ⟨k + 1, v', R', out ++ [(k : Int)], by omega, by omega, rfl, by omega, HOL.out, s2, by simpa using u2, a2, HE1.out, HE2.out, bQ⟩
          case measure => simp [intOf]; omega
      · have ey : (y == -1) = false := by simpa using hyi
        rw [if_neg (fun h => hyi h.1)] at hst HOL
        obtain ⟨g1, g2⟩ := hst
        have HE1 : Hid (opened l ((k + 1 : Nat) : Int) = R') := g1
        have HE2 : Hid (Gathers l (-1) (k + 1) (out) K) := g2
        clear g1 g2
        go_wp2_with fail
        refine (HTop.out _).mono ?_
        rintro e W0 ⟨rfl, q, rfl⟩
        have bT : Below (wr.alloc (.cells #[.int .i64 xk, .int .i64 xt, .int .i64 xn, .int .i64 xm] 62)).heap.size (wr.alloc (.cells #[.int .i64 xk, .int .i64 xt, .int .i64 xn, .int .i64 xm] 62)) ((wr.alloc (.cells #[.int .i64 xk, .int .i64 xt, .int .i64 xn, .int .i64 xm] 62)).drewN q) := below_drewN (Below.refl _ _) _
        obtain ⟨t0, t1, t2, t3, hB2⟩ := tok_kept bT
        have sP := hS.below hB2
        have uP := own_below hu hB2 HSz
        have aP := hA
        have bP := hB.trans (hB2.mono HSz)
        clear hB2 bT HPart HTop
        go_wp2_with fail
        refine (HPass.out _ _ _ _ sP uP aP bP.size).mono ?_
        rintro e W2 ⟨rfl, v', s2, u2, a2, b2⟩
        have bQ := bP.trans b2
        clear sP uP aP bP b2 HPass
        obtain ⟨-, s33, -⟩ := s2.cells
        go_wp2
        go_roundw
        case rel => exact ⟨k + 1, v', R', out, by omega, by omega, rfl, by omega, HOL.out, s2, by simpa using u2, a2, HE1.out, HE2.out, bQ⟩
        case measure => simp [intOf]; omega
    · obtain rfl : k = len := by omega
      have HE : Hid (K = out) := kids_none (l := l) (i := -1) (by omega) (by rw [hL]; exact hG)
      obtain ⟨a', cap', hu', hr⟩ := row_of_owns hu
      rw [← HE.out] at hr hu'
      obtain ⟨N, hN⟩ : ∃ N, K.length = N := ⟨_, rfl⟩
      have HN : Hid (K.length = N) := hN
      rw [hN] at hr hu'
      clear hSi hG hS hu hA hl hN
      subst hu'
      go_wp2
      go_ret
      first | exact ⟨a', ⟨cap', by rw [HN.out]; rfl⟩, by rw [HN.out]; exact hr, hB⟩ | exact ⟨a', cap', by rw [HN.out]; rfl, by rw [HN.out]; exact hr, hB⟩
end Go.Proofs.Ytgpopploimeeaaa
