/-
  PROVED HERE: trees in memory apart from one block (a parser's own), and what keeps them; what is left of a text at a place.
-/
import Derived.Test.YtafidabopcgkhaaDoorBound
import Derived.Test.YtafidabopcgkhaaDoorPeek
namespace Go.Proofs.YtafidabopcgkhaaDoor
open Go.RowKit

/-- All that lay there lies there, but for the block g. -/
structure Kept (g : Nat) (w w' : World) : Prop where
  os : w'.os = w.os
  tape : w'.tape = w.tape
  output : w'.output = w.output
  size : w.heap.size ≤ w'.heap.size
  block : ∀ k, k < w.heap.size → k ≠ g → w'.heap[k]? = w.heap[k]?
theorem Kept.refl (g : Nat) (w : World) : Kept g w w := ⟨rfl, rfl, rfl, Nat.le_refl _, fun _ _ _ => rfl⟩
theorem Kept.trans {g : Nat} {w w' w'' : World} (h : Kept g w w') (h' : Kept g w' w'') : Kept g w w'' :=
  ⟨h'.os.trans h.os, h'.tape.trans h.tape, h'.output.trans h.output, Nat.le_trans h.size h'.size, fun k hk hg => (h'.block k (Nat.lt_of_lt_of_le hk h.size) hg).trans (h.block k hk hg)⟩
theorem Only.kept {g : Nat} {w w' : World} (h : Only g w w') : Kept g w w' := ⟨h.os, h.tape, h.output, Nat.le_of_eq h.size.symm, fun k _ hg => h.block k hg⟩
theorem Kept.cell {g : Nat} {w w' : World} (h : Kept g w w') {b o : Nat} (hb : b < w.heap.size) (hg : b ≠ g) : w'.cell? ⟨b, o, none⟩ = w.cell? ⟨b, o, none⟩ := by
  unfold World.cell?
  rw [h.block b hb hg]
/-- A tree that lies apart from the block g. -/
def ExK (g : Nat) (w : World) : Nat → DataW Unit → Value → Prop
  | 0, _, _ => False
  | n + 1, t, v => ∃ (k : Int) (s : ByteArray) (a : Option Addr) (len cap : Nat) (ts : List (DataW Unit)), t = node k s ts ∧ v = .agg #[.int .i64 k, .string s, .slice a len cap] ∧ ts.length = len ∧ len ≤ 4398046511104 ∧
      (len = 0 ∨ ∃ b o, a = some ⟨b, o, none⟩ ∧ b < w.heap.size ∧ b ≠ g ∧ ∀ i x, ts[i]? = some x → ∃ (k' : Int) (s' : ByteArray) (a' : Option Addr) (len' cap' : Nat),
        w.cell? ⟨b, o + i * 3, none⟩ = some (.int .i64 k') ∧ w.cell? ⟨b, o + i * 3 + 1, none⟩ = some (.string s') ∧ w.cell? ⟨b, o + i * 3 + 2, none⟩ = some (.slice a' len' cap') ∧ ExK g w n x (.agg #[.int .i64 k', .string s', .slice a' len' cap']))
theorem ExK.ex {g : Nat} {w : World} : ∀ (n : Nat) (t : DataW Unit) (v : Value), ExK g w n t v → Ex w n t v := by
  intro n
  induction n with
  | zero => intro t v h; exact h
  | succ n ih =>
    rintro t v ⟨k, s, a, len, cap, ts, h1, h2, h3, h4, h5⟩
    refine ⟨k, s, a, len, cap, ts, h1, h2, h3, h4, ?_⟩
    rcases h5 with h5 | ⟨b, o, h5, h6, _, hc⟩
    · exact .inl h5
    · refine .inr ⟨b, o, h5, h6, fun i x hx => ?_⟩
      obtain ⟨k', s', a', len', cap', c0, c1, c2, c3⟩ := hc i x hx
      exact ⟨k', s', a', len', cap', c0, c1, c2, ih _ _ c3⟩
theorem ExK.kept {g : Nat} {w w' : World} (hk : Kept g w w') : ∀ (n : Nat) (t : DataW Unit) (v : Value), ExK g w n t v → ExK g w' n t v := by
  intro n
  induction n with
  | zero => intro t v h; exact h
  | succ n ih =>
    rintro t v ⟨k, s, a, len, cap, ts, h1, h2, h3, h4, h5⟩
    refine ⟨k, s, a, len, cap, ts, h1, h2, h3, h4, ?_⟩
    rcases h5 with h5 | ⟨b, o, rfl, hlt, hg, hc⟩
    · exact .inl h5
    · refine .inr ⟨b, o, rfl, Nat.lt_of_lt_of_le hlt hk.size, hg, fun i x hx => ?_⟩
      obtain ⟨k', s', a', len', cap', c0, c1, c2, c3⟩ := hc i x hx
      exact ⟨k', s', a', len', cap', (hk.cell hlt hg).trans c0, (hk.cell hlt hg).trans c1, (hk.cell hlt hg).trans c2, ih _ _ c3⟩
/-- More may lie within one another. -/
theorem ExK.up {g : Nat} {w : World} : ∀ (n : Nat) (t : DataW Unit) (v : Value), ExK g w n t v → ExK g w (n + 1) t v := by
  intro n
  induction n with
  | zero => intro t v h; exact h.elim
  | succ n ih =>
    rintro t v ⟨k, s, a, len, cap, ts, h1, h2, h3, h4, h5⟩
    refine ⟨k, s, a, len, cap, ts, h1, h2, h3, h4, ?_⟩
    rcases h5 with h5 | ⟨b, o, h5, h6, h7, hc⟩
    · exact .inl h5
    · refine .inr ⟨b, o, h5, h6, h7, fun i x hx => ?_⟩
      obtain ⟨k', s', a', len', cap', c0, c1, c2, c3⟩ := hc i x hx
      exact ⟨k', s', a', len', cap', c0, c1, c2, ih _ _ c3⟩
theorem ExK.upto {g : Nat} {w : World} {n m : Nat} (h : n ≤ m) {t : DataW Unit} {v : Value} (hx : ExK g w n t v) : ExK g w m t v := by
  induction h with
  | refl => exact hx
  | step _ ih => exact ExK.up _ _ _ ih
/-- A tree with none within it. -/
theorem ExK.leaf (g : Nat) (w : World) (n : Nat) (k : Int) (s : ByteArray) (a : Option Addr) (cap : Nat) : ExK g w (n + 1) (node k s []) (.agg #[.int .i64 k, .string s, .slice a 0 cap]) :=
  ⟨k, s, a, 0, cap, [], rfl, rfl, rfl, by omega, .inl rfl⟩
/-- What is left at a place. -/
def left (s : ByteArray) (i : Nat) : List UInt8 := (bts s).drop i
theorem left_cons {s : ByteArray} {i : Nat} (h : i < s.size) : left s i = s[i]'h :: left s (i + 1) := by
  have h1 := toList_at s i h
  rw [bts_toList] at h1
  obtain ⟨h2, h3⟩ := List.getElem?_eq_some_iff.1 h1
  unfold left
  rw [List.drop_eq_getElem_cons h2, h3]
theorem left_end (s : ByteArray) : left s s.size = [] := by
  unfold left
  refine List.drop_eq_nil_of_le ?_
  rw [← bts_toList, toList_length]
  exact Nat.le_refl _
theorem left_length (s : ByteArray) (i : Nat) : (left s i).length = s.size - i := by
  unfold left
  rw [List.length_drop, ← bts_toList, toList_length]
theorem left_skip (s : ByteArray) : ∀ (d i : Nat), s.size = i + d → left s (skip s i) = skipL (left s i) := by
  intro d
  induction d with
  | zero =>
    intro i h
    obtain rfl : i = s.size := by omega
    rw [skip_end, left_end, skipL]
  | succ d ih =>
    intro i h
    have hi : i < s.size := by omega
    have hb := byteAt_get s i hi
    rw [left_cons hi, skipL]
    by_cases h32 : byteAt s i = 32
    · rw [skip_step hi h32, ih (i + 1) (by omega), if_pos (UInt8.toNat_inj.1 (by rw [hb, h32]; rfl))]
    · rw [skip_stay hi h32, left_cons hi, if_neg (fun e => h32 (by rw [← hb, e]; rfl))]
/-- What peek tells of what is left. -/
theorem peek_nil {s : ByteArray} {i : Nat} (h : i ≤ s.size) : peekC s i false = 0 ↔ left s i = [] := by
  unfold peekC
  constructor
  · intro e
    split at e
    · rename_i h1
      rcases h1 with h1 | rfl
      · cases h1
      · exact left_end s
    · omega
  · intro e
    have := left_length s i
    rw [e, List.length_nil] at this
    rw [if_pos (.inr (by omega))]
theorem peek_cons {s : ByteArray} {i : Nat} (h : i < s.size) : peekC s i false = max ((s[i]'h).toNat : Int) 1 := by
  unfold peekC
  rw [if_neg (by rintro (h1 | h1); cases h1; omega), byteAt_get]
end Go.Proofs.YtafidabopcgkhaaDoor
