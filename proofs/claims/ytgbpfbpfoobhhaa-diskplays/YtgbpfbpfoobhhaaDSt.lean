/-
  PROVED HERE: a disk of the program and one of the document, side by side in one memory: what is done to one leaves the other.
-/
import Derived.Test.YtgbpfbpfoobhhaaDCopy
import Derived.Test.YtgbpfbpfoobhhaaDRef2
import Derived.Test.YtgbpfbpfoobhhaaDPart
import Derived.Test.YtgbpfbpfoobhhaaDAwk
namespace Go.Proofs.Ytgbpfbpfoobhhaa
open Go.RowKit

/-- Their bytes lie apart. -/
def Apt (v u : Value) : Prop := ∀ j, v.ownBlock = some j → u.ownBlock ≠ some j
/-- Both disks hold the same. -/
structure Two (W : World) (B b C c : Nat) (v u : Value) (bs : List Int) (s m : Int) : Prop where
  d : Dk W B b v bs s m
  r : Rk W C c u bs s m
  apt : Apt v u

section
variable {W W' W1 W2 : World} {B b C c : Nat} {v u : Value} {bs bs' bs2 : List Int} {s s' s2 m : Int}
theorem dk_block (h : Dk W B b v bs s m) {k : Nat} (e : v.ownBlock = some k) : ∃ cur, W.heap[k]? = some (.cells cur 5 (0, 0)) := by
  rcases h.own.2 with ⟨rfl, _⟩ | ⟨g, cap, cur, rfl, _, hg, _⟩
  · cases e
  · cases e
    exact ⟨cur, hg⟩
theorem rk_block (h : Rk W C c u bs s m) {k : Nat} (e : u.ownBlock = some k) : ∃ cur, W.heap[k]? = some (.cells cur 5 (0, 0)) := by
  rcases h.own.2 with ⟨rfl, _⟩ | ⟨g, cap, cur, rfl, _, hg, _⟩
  · cases e
  · cases e
    exact ⟨cur, hg⟩
theorem bc_ne (h : Dk W B b v bs s m) (r : Rk W C c u bs' s' m) : b ≠ c := by
  rintro rfl
  have := h.blk
  rw [r.blk] at this
  simp at this
theorem uc_ne (h : Dk W B b v bs s m) (r : Rk W C c u bs' s' m) : v.ownBlock ≠ some c := fun e => by
  obtain ⟨cur, hc⟩ := dk_block h e
  rw [r.blk] at hc
  simp at hc
theorem ub_ne (h : Dk W B b v bs s m) (r : Rk W C c u bs' s' m) : u.ownBlock ≠ some b := fun e => by
  obtain ⟨cur, hc⟩ := rk_block r e
  rw [h.blk] at hc
  simp at hc
theorem Two.below (h : Two W B b C c v u bs s m) (hB : Below W.heap.size W W') : Two W' B b C c v u bs s m := ⟨h.d.below hB, h.r.below hB, h.apt⟩

/-- The document's disk behind what was done to the program's. -/
theorem rk_after (h : Dk W B b v bs2 s2 m) (r : Rk W C c u bs s m) (ap : Apt v u) (hd : Done W W1 B b v bs' s' m) : Rk W1 C c u bs s m := by
  obtain ⟨v', _, h2, _⟩ := hd
  refine r.but h2 (fun e => ?_) (fun k e hk => ?_)
  · rcases e with e | e
    · exact bc_ne h r e.symm
    · exact uc_ne h r e
  · rcases hk with rfl | hk
    · exact ub_ne h r e
    · exact ap k hk e
theorem dk_after (h : Dk W B b v bs2 s2 m) (r : Rk W C c u bs s m) (hd : DoneR W W1 C c u bs' s' m) : Dk W1 B b v bs2 s2 m := by
  obtain ⟨u', _, h2, _⟩ := hd
  refine h.but h2 (bc_ne h r) (fun k e hk => ?_)
  subst hk
  exact uc_ne h r e

theorem two_both (h : Two W B b C c v u bs s m) (hd : Done W W1 B b v bs' s' m) (hr : DoneR W1 W2 C c u bs' s' m) : ∃ v' u', Two W2 B b C c v' u' bs' s' m := by
  obtain ⟨v', d1, d2, d3⟩ := hd
  have r1 := rk_after h.d h.r h.apt ⟨v', d1, d2, d3⟩
  have d4 := dk_after d1 r1 hr
  obtain ⟨u', q1, q2, q3⟩ := hr
  refine ⟨v', u', d4, q1, fun j e1 e2 => ?_⟩
  rcases d3 j e1 with e | e
  · rcases q3 j e2 with f | f
    · exact h.apt j e f
    · have := (h.d.own_lt j e).2
      have := d2.size
      omega
  · rcases q3 j e2 with f | f
    · have := (h.r.own_lt j f).2
      omega
    · have := (d1.own_lt j e1).2
      omega

theorem two_both' (h : Two W B b C c v u bs s m) (hr : DoneR W W1 C c u bs' s' m) (hd : Done W1 W2 B b v bs' s' m) : ∃ v' u', Two W2 B b C c v' u' bs' s' m := by
  have d4 := dk_after h.d h.r hr
  obtain ⟨u', q1, q2, q3⟩ := hr
  have ap : Apt v u' := fun j e1 e2 => by
    rcases q3 j e2 with f | f
    · exact h.apt j e1 f
    · have := (h.d.own_lt j e1).2
      omega
  have r1 := rk_after d4 q1 ap hd
  obtain ⟨v', d1, d2, d3⟩ := hd
  refine ⟨v', u', d1, r1, fun j e1 e2 => ?_⟩
  rcases d3 j e1 with e | e
  · exact ap j e e2
  · have := (q1.own_lt j e2).2
    omega
end

theorem DoneR.to_below {w w' : World} {C c : Nat} {u : Value} {bs bs0 : List Int} {s s0 m : Int} {n : Nat} (h : DoneR w w' C c u bs s m) (h0 : Rk w C c u bs0 s0 m) (hn : n ≤ C) : Below n w w' := by
  obtain ⟨u', _, h2, _⟩ := h
  refine h2.below (by have := h0.ge; have := h0.lt; omega) (fun k e => ?_)
  subst e
  have := h0.ge
  omega

/-- Both disks, whatever they hold. -/
def St (w W : World) (m : Int) : Prop := ∃ v u bs s, Two W w.heap.size w.heap.size (w.heap.size + 1) (w.heap.size + 1) v u bs s m ∧ Below w.heap.size w W
theorem St.below {w W W' : World} {m : Int} (h : St w W m) (hB : Below W.heap.size W W') : St w W' m := by
  obtain ⟨v, u, bs, s, h1, h2⟩ := h
  exact ⟨v, u, bs, s, h1.below hB, h2.trans (hB.mono h2.size)⟩
end Go.Proofs.Ytgbpfbpfoobhhaa
