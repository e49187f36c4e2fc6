/-
  PROVED HERE: a disk of the program and one of the document, as they lie; what keeps them; a slice put behind bytes that are owned; a beginning of them.
-/
import Derived.Test.YtgbpfbpfoobhhaaSArgs
import Derived.Laws.AppendOwnNone
namespace Go.Proofs.Ytgbpfbpfoobhhaa
open Go.RowKit

theorem hide_ {p : Prop} (h : p) : Hid p := h

/-- What there was is as it was, but for the blocks in D. -/
structure But (D : Nat → Prop) (w w' : World) : Prop where
  os : w'.os = w.os
  tape : w'.tape = w.tape
  output : w'.output = w.output
  size : w.heap.size ≤ w'.heap.size
  block : ∀ k, k < w.heap.size → ¬ D k → w'.heap[k]? = w.heap[k]?

theorem But.refl (D : Nat → Prop) (w : World) : But D w w := ⟨rfl, rfl, rfl, Nat.le_refl _, fun _ _ _ => rfl⟩
theorem But.trans {D E : Nat → Prop} {a b c : World} (h : But D a b) (k : But E b c) (hE : ∀ j, j < a.heap.size → E j → D j) : But D a c :=
  ⟨k.os.trans h.os, k.tape.trans h.tape, k.output.trans h.output, Nat.le_trans h.size k.size, fun j hj hd => (k.block j (Nat.lt_of_lt_of_le hj h.size) (fun e => hd (hE j hj e))).trans (h.block j hj hd)⟩
theorem But.mono {D E : Nat → Prop} {a b : World} (h : But D a b) (hE : ∀ j, j < a.heap.size → D j → E j) : But E a b := ⟨h.os, h.tape, h.output, h.size, fun j hj he => h.block j hj (fun d => he (hE j hj d))⟩
theorem But.below {D : Nat → Prop} {B : Nat} {a b : World} (h : But D a b) (hB : B ≤ a.heap.size) (hD : ∀ k, D k → B ≤ k) : Below B a b := ⟨h.os, h.tape, h.output, h.size, fun j hj => h.block j (by omega) (fun e => by have := hD j e; omega)⟩
theorem But.of_below {D : Nat → Prop} {B : Nat} {a b : World} (h : Below B a b) (hB : ∀ k, k < a.heap.size → ¬ D k → k < B) : But D a b := ⟨h.os, h.tape, h.output, h.size, fun j hj hd => h.block j (hB j hj hd)⟩
theorem But.of_grown {D : Nat → Prop} {a b : World} {row : Option Nat} (h : a.grownBy b row) (hD : ∀ k, row = some k → D k) : But D a b := ⟨h.os, h.tape, h.output, h.size, fun j hj hd => h.block j hj (fun e => hd (hD j e.symm))⟩
theorem But.setCell (D : Nat → Prop) (w : World) (p : Addr) (u : Value) (hp : D p.block) : But D w (w.setCell p u) := ⟨rfl, rfl, rfl, by simp [World.setCell], fun k _ hd => Below.heap_setCell w p u k (fun e => hd (e ▸ hp))⟩

theorem owns_nil_len {W : World} {base n : Nat} {v : Value} {xs : List Value} (h : W.ownsRow base 5 1 v n xs) : xs.length = n := by have := h.1; omega

/-- What a slice owns, nil or not, read. -/
theorem row_any {W : World} {base : Nat} {v : Value} {n : Nat} {bs : List Int} (h : W.ownsRow base 5 1 v n (bs.map (Value.int .u8))) : ∃ a cap, v = .slice a n cap ∧ n ≤ cap ∧ cap ≤ maxLen ∧ Row .u8 W a n bs ∧ (a = none → cap = 0) := by
  rcases h.2 with ⟨rfl, rfl⟩ | ⟨g, cap, cur, rfl, _, _, hc1, hc2, _, _⟩
  · have : bs = [] := by have := h.1; simpa using this
    subst this
    exact ⟨none, 0, rfl, Nat.le_refl _, Nat.zero_le _, row_nil _ _, fun _ => rfl⟩
  · obtain ⟨g', cap', e, _, _, _, hr⟩ := row_of_owns h (by simp)
    cases e
    exact ⟨_, _, rfl, hc1, hc2, hr, fun e => by cases e⟩

/-- A beginning of what is owned. -/
theorem owns_take {W : World} {base : Nat} {a : Option Addr} {n cap : Nat} {bs : List Int} (h : W.ownsRow base 5 1 (.slice a n cap) n (bs.map (Value.int .u8))) (m : Nat) (hm : m ≤ n) : W.ownsRow base 5 1 (.slice a m cap) m ((bs.take m).map (Value.int .u8)) := by
  have hl : bs.length = n := by have := h.1; simpa using this
  refine ⟨by rw [List.length_map, List.length_take]; omega, ?_⟩
  rcases h.2 with ⟨e, rfl⟩ | ⟨g, cap', cur, e, hb, hg, hc1, hc2, hc3, hc4⟩
  · cases e
    obtain rfl : m = 0 := by omega
    exact .inl ⟨rfl, rfl⟩
  · cases e
    refine .inr ⟨g, cap, cur, rfl, hb, hg, by omega, hc2, hc3, ?_⟩
    rw [List.map_take, ← hc4, List.take_take, Nat.mul_one, Nat.mul_one, Nat.min_eq_left hm]

theorem owns_later {W W' : World} {base : Nat} {v : Value} {n : Nat} {xs : List Value} (h : W.ownsRow base 5 1 v n xs) (hb : ∀ k, v.ownBlock = some k → W'.heap[k]? = W.heap[k]?) : W'.ownsRow base 5 1 v n xs := by
  refine ⟨h.1, ?_⟩
  rcases h.2 with hn | ⟨g, cap, cur, rfl, hbb, hgg, rest⟩
  · exact .inl hn
  · exact .inr ⟨g, cap, cur, rfl, hbb, by rw [hb g rfl]; exact hgg, rest⟩
theorem owns_base {W : World} {base base' : Nat} {v : Value} {n : Nat} {xs : List Value} (h : W.ownsRow base 5 1 v n xs) (hb : ∀ k, v.ownBlock = some k → base' ≤ k) : W.ownsRow base' 5 1 v n xs := by
  refine ⟨h.1, ?_⟩
  rcases h.2 with hn | ⟨g, cap, cur, rfl, hbb, rest⟩
  · exact .inl hn
  · exact .inr ⟨g, cap, cur, rfl, hb g rfl, rest⟩

/-- append of bytes to what the call owns, nil or not. -/
theorem append_any (base : Nat) (v : Value) (n : Nat) (xs : List Int) (W : World) (hown : W.ownsRow base 5 1 v n (xs.map (Value.int .u8))) (hbase : base ≤ W.heap.size) (a : Option Addr) (len cap : Nat) (bs : List Int) (hr : Row .u8 W a len bs) (hcap : a = none → cap = 0) (hsz : n + len ≤ 140737488355328) :
    ∃ v' W1, (Builtin.append_ #[22, 22] 22 #[v, .slice a len cap]).run Try.prog W = .ok v' W1 ∧ W1.ownsRow base 5 1 v' (n + len) ((xs ++ bs).map (Value.int .u8)) ∧ W.grownBy W1 v.ownBlock ∧ (v'.ownBlock = v.ownBlock ∨ v'.ownBlock = some W.heap.size) := by
  obtain ⟨i0, hi, hz0, hz1, hz2⟩ := info_parts info5
  cases a with
  | none =>
    obtain rfl := hcap rfl
    have h0 : len = 0 := by
      rcases hr.2 with h | ⟨b, o, h, _⟩
      · exact h
      · cases h
    subst h0
    obtain rfl : bs = [] := List.length_eq_zero_iff.1 hr.1
    have h3 := run_append_owned_none (P := Try.prog) (w := W) base 22 22 5 i0 1 Try.underlying22 hi v n _ hown
    exact ⟨v, W, h3, by rw [List.append_nil]; exact hown, .refl _ _, .inl rfl⟩
  | some p =>
    have hcells : ∀ j u, (bs.map (Value.int .u8))[j]? = some u → W.cell? (p.add j) = some u := by
      intro j u hj
      have hr' := hr
      obtain ⟨hl, h0 | ⟨b, o, e, _, _⟩⟩ := hr'
      · have : j < bs.length := by
          have := (List.getElem?_eq_some_iff.1 hj).1
          simpa using this
        omega
      · cases e
        exact row_cells hr j u hj
    obtain ⟨v', W1, hrun, r1, r2, _, r4⟩ := run_append_own_at (P := Try.prog) W base 22 22 5 i0 (.int .u8 0) 1 1 Try.underlying22 hi hz0 hz1 hz2 rfl (by decide) v n _ hown p len cap (bs.map (Value.int .u8)) (by simp [hr.1]) hcells (by simp [Value.oneCell']) (by unfold maxLen; omega) (by omega) hbase
    rw [← List.map_append] at r1
    exact ⟨_, _, hrun, r1, r2, r4⟩

/-- A disk as it lies: its struct at b, its bytes in v. -/
structure Dk (W : World) (base b : Nat) (v : Value) (bs : List Int) (s m : Int) : Prop where
  blk : W.heap[b]? = some (.cells #[v, .int .i64 s, .int .i64 m, .bool true] 48 (0, 0))
  own : W.ownsRow base 5 1 v bs.length (bs.map (Value.int .u8))
  ge : base ≤ b
  byt : Bytes bs
  s0 : 0 ≤ s
  s1 : s ≤ bs.length
  m0 : (bs.length : Int) ≤ m
  m1 : m ≤ 262144

/-- What is done to a disk turns its struct and its bytes alone. -/
def Dm (b : Nat) (v : Value) (k : Nat) : Prop := k = b ∨ v.ownBlock = some k
/-- New bytes lie where the old ones lay, or in new memory. -/
def Nw (W : World) (v v' : Value) : Prop := ∀ k, v'.ownBlock = some k → v.ownBlock = some k ∨ W.heap.size ≤ k

section
variable {W W' : World} {base b : Nat} {v : Value} {bs : List Int} {s m : Int}
theorem Dk.lt (h : Dk W base b v bs s m) : b < W.heap.size := (Array.getElem?_eq_some_iff.1 h.blk).1
theorem Dk.cell0 (h : Dk W base b v bs s m) : W.cell? ⟨b, 0, none⟩ = some v := by
  simp only [World.cell?]
  rw [h.blk]
  rfl
theorem Dk.cell1 (h : Dk W base b v bs s m) : W.cell? ⟨b, 1, none⟩ = some (.int .i64 s) := by
  simp only [World.cell?]
  rw [h.blk]
  rfl
theorem Dk.cell2 (h : Dk W base b v bs s m) : W.cell? ⟨b, 2, none⟩ = some (.int .i64 m) := by
  simp only [World.cell?]
  rw [h.blk]
  rfl
theorem Dk.cell3 (h : Dk W base b v bs s m) : W.cell? ⟨b, 3, none⟩ = some (.bool true) := by
  simp only [World.cell?]
  rw [h.blk]
  rfl
theorem Dk.frozen (h : Dk W base b v bs s m) (o : Nat) : W.frozen? ⟨b, o, none⟩ = false := by
  simp [World.frozen?, h.blk]
theorem Dk.row (h : Dk W base b v bs s m) : ∃ a cap, v = .slice a bs.length cap ∧ bs.length ≤ cap ∧ cap ≤ maxLen ∧ Row .u8 W a bs.length bs ∧ (a = none → cap = 0) := row_any h.own
theorem Dk.own_ne (h : Dk W base b v bs s m) : v.ownBlock ≠ some b := by
  intro e
  rcases h.own.2 with ⟨rfl, _⟩ | ⟨g, cap, cur, rfl, _, hg, _⟩
  · cases e
  · cases e
    have := h.blk
    rw [hg] at this
    simp at this
theorem Dk.own_lt (h : Dk W base b v bs s m) : ∀ k, v.ownBlock = some k → base ≤ k ∧ k < W.heap.size := fun k e => World.ownsRow.lt h.own k e
theorem Dk.later (h : Dk W base b v bs s m) (hb : W'.heap[b]? = W.heap[b]?) (hv : ∀ k, v.ownBlock = some k → W'.heap[k]? = W.heap[k]?) : Dk W' base b v bs s m :=
  ⟨by rw [hb]; exact h.blk, owns_later h.own hv, h.ge, h.byt, h.s0, h.s1, h.m0, h.m1⟩
theorem Dk.below (h : Dk W base b v bs s m) (hB : Below W.heap.size W W') : Dk W' base b v bs s m := h.later (hB.block b h.lt) (fun k e => hB.block k (h.own_lt k e).2)
theorem Dk.but {D : Nat → Prop} (h : Dk W base b v bs s m) (hB : But D W W') (hb : ¬ D b) (hv : ∀ k, v.ownBlock = some k → ¬ D k) : Dk W' base b v bs s m := h.later (hB.block b h.lt hb) (fun k e => hB.block k (h.own_lt k e).2 (hv k e))
end

theorem heap_setCell_row (W : World) (b o : Nat) (cur : Array Value) (t : TypeId) (u : Value) (h : W.heap[b]? = some (.cells cur t (0, 0))) : (W.setCell ⟨b, o, none⟩ u).heap[b]? = some (.cells (cur.setIfInBounds o u) t (0, 0)) := by
  have hlt : b < W.heap.size := (Array.getElem?_eq_some_iff.1 h).1
  have hg : W.heap[b] = .cells cur t (0, 0) := by
    rw [Array.getElem?_eq_getElem hlt] at h
    exact Option.some.inj h
  simp [World.setCell, hlt, Array.getElem_modify, hg]

/-- A disk of the document as it lies. -/
structure Rk (W : World) (base c : Nat) (v : Value) (bs : List Int) (s m : Int) : Prop where
  blk : W.heap[c]? = some (.cells #[v, .int .i64 s, .int .i64 m] 41 (0, 0))
  own : W.ownsRow base 5 1 v bs.length (bs.map (Value.int .u8))
  ge : base ≤ c
  byt : Bytes bs
  s0 : 0 ≤ s
  s1 : s ≤ bs.length
  m0 : (bs.length : Int) ≤ m
  m1 : m ≤ 262144

section
variable {W W' : World} {base c : Nat} {v : Value} {bs : List Int} {s m : Int}
theorem Rk.lt (h : Rk W base c v bs s m) : c < W.heap.size := (Array.getElem?_eq_some_iff.1 h.blk).1
theorem Rk.cell0 (h : Rk W base c v bs s m) : W.cell? ⟨c, 0, none⟩ = some v := by
  simp only [World.cell?]
  rw [h.blk]
  rfl
theorem Rk.cell1 (h : Rk W base c v bs s m) : W.cell? ⟨c, 1, none⟩ = some (.int .i64 s) := by
  simp only [World.cell?]
  rw [h.blk]
  rfl
theorem Rk.cell2 (h : Rk W base c v bs s m) : W.cell? ⟨c, 2, none⟩ = some (.int .i64 m) := by
  simp only [World.cell?]
  rw [h.blk]
  rfl
theorem Rk.frozen (h : Rk W base c v bs s m) (o : Nat) : W.frozen? ⟨c, o, none⟩ = false := by
  simp [World.frozen?, h.blk]
theorem Rk.row (h : Rk W base c v bs s m) : ∃ a cap, v = .slice a bs.length cap ∧ bs.length ≤ cap ∧ cap ≤ maxLen ∧ Row .u8 W a bs.length bs ∧ (a = none → cap = 0) := row_any h.own
theorem Rk.own_lt (h : Rk W base c v bs s m) : ∀ k, v.ownBlock = some k → base ≤ k ∧ k < W.heap.size := fun k e => World.ownsRow.lt h.own k e
theorem Rk.own_ne (h : Rk W base c v bs s m) : v.ownBlock ≠ some c := by
  intro e
  rcases h.own.2 with ⟨rfl, _⟩ | ⟨g, cap, cur, rfl, _, hg, _⟩
  · cases e
  · cases e
    have := h.blk
    rw [hg] at this
    simp at this
theorem Rk.later (h : Rk W base c v bs s m) (hb : W'.heap[c]? = W.heap[c]?) (hv : ∀ k, v.ownBlock = some k → W'.heap[k]? = W.heap[k]?) : Rk W' base c v bs s m :=
  ⟨by rw [hb]; exact h.blk, owns_later h.own hv, h.ge, h.byt, h.s0, h.s1, h.m0, h.m1⟩
theorem Rk.below (h : Rk W base c v bs s m) (hB : Below W.heap.size W W') : Rk W' base c v bs s m := h.later (hB.block c h.lt) (fun k e => hB.block k (h.own_lt k e).2)
theorem Rk.but {D : Nat → Prop} (h : Rk W base c v bs s m) (hB : But D W W') (hb : ¬ D c) (hv : ∀ k, v.ownBlock = some k → ¬ D k) : Rk W' base c v bs s m := h.later (hB.block c h.lt hb) (fun k e => hB.block k (h.own_lt k e).2 (hv k e))
end
end Go.Proofs.Ytgbpfbpfoobhhaa
