/-
  PROVED HERE: flat.isOpen, flat.isPart and flat.Kids at every slice of tokens and every number: what they return; nothing that lay before is turned.
-/
import Derived.Test.YtgpopploimeeaaaFPartner
namespace Go.Proofs.Ytgpopploimeeaaa
open Go.RowKit

set_option maxRecDepth 100000 in
set_option maxHeartbeats 1000000 in
theorem fisopen_calls (a : Option Addr) (len cap : Nat) (l : List Tok) (i : Int) (w : World) (hl : Toks w a len l) :
    Calls Try.prog 33 #[.slice a len cap, .int .i64 i] w fun e w' => e = .returned (.bool (decide (0 ≤ i ∧ i < len ∧ kindAt l i.toNat = 1))) ∧ w' = w := by
  by_cases h0 : 0 ≤ i
  · by_cases h1 : i < len
    · obtain ⟨n, rfl⟩ := Int.eq_ofNat_of_zero_le h0
      obtain ⟨b, o, rfl, hbl, hc⟩ := hl.kindAt (k := n) (by omega)
      have hc0 := hc w (Below.refl _ _)
      rw [show decide (0 ≤ (n : Int) ∧ (n : Int) < len ∧ kindAt l (n : Int).toNat = 1) = (kindAt l n == 1) from by rw [Bool.eq_iff_iff]; simp; omega]
      clear hc
      generalize kindAt l n = z at *
      go_enter Try.func33, Try.ntmps33
      go_wp2
      go_ret
      exact ⟨rfl, rfl⟩
    · rw [show decide (0 ≤ i ∧ i < len ∧ kindAt l i.toNat = 1) = false from by simp; omega]
      have e1 : decide (i < (len : Int)) = false := by simpa using h1
      go_enter Try.func33, Try.ntmps33
      go_wp2
      go_ret
      exact ⟨rfl, rfl⟩
  · rw [show decide (0 ≤ i ∧ i < len ∧ kindAt l i.toNat = 1) = false from by simp; omega]
    have e1 : decide (0 ≤ i) = false := by simpa using h0
    go_enter Try.func33, Try.ntmps33
    go_wp2
    go_ret
    exact ⟨rfl, rfl⟩
def part (x : Tok) : Bool := x.k == 0 || (x.k == 1 || x.k == 3)
set_option maxRecDepth 100000 in
set_option maxHeartbeats 1000000 in
theorem fispart_calls (x : Tok) (w : World) : Calls Try.prog 35 #[tokV x] w fun e w' => e = .returned (.bool (part x)) ∧ Below w.heap.size w w' := by
  obtain ⟨k, t, n, m⟩ := x
  unfold part tokV
  simp only
  by_cases k0 : k = 0
  · subst k0
    go_enter Try.func35, Try.ntmps35
    go_wp2
    go_ret
    exact ⟨rfl, (Below.refl _ _).alloc (Nat.le_refl _) _⟩
  have e0 : (k == 0) = false := by simpa using k0
  by_cases k1 : k = 1
  · subst k1
    go_enter Try.func35, Try.ntmps35
    go_wp2
    go_ret
    exact ⟨rfl, (Below.refl _ _).alloc (Nat.le_refl _) _⟩
  have e1 : (k == 1) = false := by simpa using k1
  by_cases k3 : k = 3
  · subst k3
    go_enter Try.func35, Try.ntmps35
    go_wp2
    go_ret
    exact ⟨rfl, (Below.refl _ _).alloc (Nat.le_refl _) _⟩
  have e3 : (k == 3) = false := by simpa using k3
  rw [e0, e1, e3]
  go_enter Try.func35, Try.ntmps35
  go_wp2
  go_ret
  exact ⟨rfl, (Below.refl _ _).alloc (Nat.le_refl _) _⟩

/-- Two rows of the call's own lie apart. -/
def Apart (u v : Value) : Prop := ∀ k, u.ownBlock = some k → v.ownBlock ≠ some k
/-- Behind an append to the row u: the stack is as it was. -/
theorem kids_append {w w2 : World} {B g : Nat} {u u2 v : Value} {R : List Int} {o : Obj} {n : Nat} {xs : List Value} (hS : Stk w B g v R) (hu : w.ownsRow B 3 1 u n xs) (hA : Apart u v) (hgrow : (w.alloc o).grownBy w2 u.ownBlock) (hat : u2.ownBlock = u.ownBlock ∨ u2.ownBlock = some (w.alloc o).heap.size) :
    Stk w2 B g v R ∧ Apart u2 v ∧ (∀ k, k < w.heap.size → u.ownBlock ≠ some k → w2.heap[k]? = w.heap[k]?) ∧ Below B w w2 := by
  have hk : ∀ k, k < w.heap.size → u.ownBlock ≠ some k → w2.heap[k]? = w.heap[k]? := fun k h1 h2 => by
    rw [hgrow.block k (by simp; omega) (fun e => h2 e.symm), Below.heap_alloc w o k h1]
  have hg := hS.cells.2.2.2.2.2
  obtain ⟨h0, h1, cs, h2, h3⟩ := hS
  have hug : u.ownBlock ≠ some g := by
    intro e
    obtain ⟨_, _, cur, h4⟩ := own_base hu g e
    rw [h2] at h4
    exact absurd (Obj.cells.inj (Option.some.inj h4)).2.1 (by decide)
  refine ⟨⟨h0, ?_, cs, (hk g hg hug).trans h2, h3⟩, ?_, hk, ?_⟩
  · obtain ⟨k1, k2 | ⟨b, cap, cur, rfl, hb, hc, k3⟩⟩ := h1
    · exact ⟨k1, .inl k2⟩
    · refine ⟨k1, .inr ⟨b, cap, cur, rfl, hb, ?_, k3⟩⟩
      rw [hk b (Array.getElem?_eq_some_iff.1 hc).1 (fun e => hA b e rfl)]
      exact hc
  · intro k hk2
    rcases hat with e | e
    · exact hA k (e ▸ hk2)
    · intro hv
      have := (own_base h1 k hv).2.1
      rw [e] at hk2
      simp at hk2
      omega
  · have hBw : B ≤ w.heap.size := by omega
    exact ⟨hgrow.os, hgrow.tape, hgrow.output, by have := hgrow.size; simp at this; omega, fun k hk2 => hk k (by omega) (fun e => by have := (own_base hu k e).1; omega)⟩
/-- Behind a pass: the row u is as it was. -/
theorem kids_pass {w w2 : World} {B g : Nat} {u v v' : Value} {R : List Int} {n : Nat} {xs : List Value} (hS : Stk w B g v R) (hu : w.ownsRow B 3 1 u n xs) (hA : Apart u v) (hK : Kept g v.ownBlock w w2) (hF : v'.ownBlock = v.ownBlock ∨ ∀ k, v'.ownBlock = some k → w.heap.size ≤ k) :
    w2.ownsRow B 3 1 u n xs ∧ Apart u v' ∧ Below B w w2 := by
  have hg := hS.cells.2.2.2.2.2
  obtain ⟨h0, h1, cs, h2, h3⟩ := hS
  have hug : u.ownBlock ≠ some g := by
    intro e
    obtain ⟨_, _, cur, h4⟩ := own_base hu g e
    rw [h2] at h4
    exact absurd (Obj.cells.inj (Option.some.inj h4)).2.1 (by decide)
  refine ⟨?_, ?_, hK.below h0 (fun k e => (own_base h1 k e).1) (by omega)⟩
  · obtain ⟨k1, k2 | ⟨b, cap, cur, rfl, hb, hc, k3⟩⟩ := hu
    · exact ⟨k1, .inl k2⟩
    · refine ⟨k1, .inr ⟨b, cap, cur, rfl, hb, ?_, k3⟩⟩
      rw [hK.block b (Array.getElem?_eq_some_iff.1 hc).1 (fun e => hug (by simp [Value.ownBlock, e])) (fun e => hA b rfl e.symm)]
      exact hc
  · intro k hk
    rcases hF with e | e
    · rw [e]
      exact hA k hk
    · intro hv
      have := e k hv
      have := (own_base hu k hk).2.1
      omega
theorem part_kept (i : Int) (x : Tok) (k : Nat) (S out : List Int) : kept i x k S out = if S.getLast?.getD (-1) = i ∧ part x = true then out ++ [(k : Int)] else out := by
  have hp : part x = true ↔ (x.k = 0 ∨ x.k = 1 ∨ x.k = 3) := by simp [part]
  unfold kept
  by_cases h : S.getLast?.getD (-1) = i ∧ part x = true
  · rw [if_pos h, if_pos ⟨h.1, hp.1 h.2⟩]
  · rw [if_neg h, if_neg (fun h2 => h ⟨h2.1, hp.2 h2.2⟩)]
end Go.Proofs.Ytgpopploimeeaaa
