/-
  PROVED HERE: a row that the document's own parser reads, the trees as they come: what its loop holds, and what join makes of it.
-/
import Derived.Test.YtafidabopcgkhaaDoorRPart
namespace Go.Proofs.YtafidabopcgkhaaDoor
open Go.RowKit

/-- A row of trees that is read: what the loop holds. -/
structure HeldQ (kd : Int) (g : Nat) (s : ByteArray) (f : Bool) (w wr : World) (i0 i : Nat) (l : List (DataW Unit)) (v : Value) (n : Nat) : Prop where
  pat : PAt wr g s i f
  kept : Kept g w wr
  good : ∀ x ∈ l, Good x
  kinds : ∀ x ∈ l, kindT x ≠ 99
  len : l.length = n
  pos : 0 < n
  lei : n + i0 ≤ i + 1
  flat : (flatT kd l).length + i0 ≤ i + 1
  flat0 : f = false → (flatT kd l).length + i0 ≤ i ∧ n + i0 ≤ i
  wid : ∀ x ∈ l, (subs x).length + i0 ≤ i + 1
  wid0 : f = false → ∀ x ∈ l, (subs x).length + i0 ≤ i
  big : w.heap.size < wr.heap.size
  zero : wr.heap[w.heap.size]? = some (.cells #[.int .i64 0, .string ⟨#[]⟩, .slice none 0 0] 24 (0, 0))
  rows : ∃ m rs, wr.ownsRow (w.heap.size + 1) 24 3 v n (rawC rs) ∧ Rows3 (fun b => w.heap.size < b ∧ v.ownBlock ≠ some b) wr m l rs
/-- The bound that a tree keeps. -/
def Wid (f : Bool) (t : DataW Unit) (i j : Nat) : Prop := (f = false ∧ i < j ∧ (subs t).length + i ≤ j) ∨ (f = true ∧ i ≤ j ∧ (subs t).length + i ≤ j + 1)
theorem Wid.flat {kd : Int} {f : Bool} {t : DataW Unit} {i j : Nat} (h : Wid f t i j) : (if kindT t = kd then subs t else [t]).length + i ≤ j + 1 ∧ (f = false → (if kindT t = kd then subs t else [t]).length + i ≤ j) := by
  rcases h with ⟨rfl, h1, h2⟩ | ⟨rfl, h1, h2⟩
  · split
    · exact ⟨by omega, fun _ => h2⟩
    · rw [List.length_singleton]; exact ⟨by omega, fun _ => by omega⟩
  · split
    · exact ⟨h2, fun e => by cases e⟩
    · rw [List.length_singleton]; exact ⟨by omega, fun e => by cases e⟩
theorem HeldQ.start (kd : Int) {g : Nat} {s : ByteArray} {f : Bool} {w W1 : World} (hgw : g < w.heap.size) {o : Obj} (ho : o = .cells #[.int .i64 0, .string ⟨#[]⟩, .slice none 0 0] 24) (hK : Kept g (w.alloc o) W1) {i0 j : Nat} (hP : PAt W1 g s j f) {t : DataW Unit} (hG : Good t) (h99 : kindT t ≠ 99) {m : Nat} {k : Int} {nm : ByteArray} {a : Option Addr} {ln cp : Nat}
    (hX : ExA (fun b => (w.alloc o).heap.size ≤ b) W1 m t (.agg #[.int .i64 k, .string nm, .slice a ln cp])) (hw : Wid f t i0 j) :
    HeldQ kd g s f w (W1.alloc (.cells #[.int .i64 k, .string nm, .slice a ln cp] 24)) i0 j [t] (.slice (some ⟨W1.heap.size, 0, none⟩) 1 1) 1 := by
  have hs := hK.size
  rw [World.size_alloc] at hs
  obtain ⟨f1, f2⟩ := hw.flat (kd := kd)
  have hfl : flatT kd [t] = if kindT t = kd then subs t else [t] := by simp [flatT]
  have hij : i0 ≤ j ∧ (f = false → i0 < j) ∧ (subs t).length + i0 ≤ j + 1 ∧ (f = false → (subs t).length + i0 ≤ j) := by
    rcases hw with ⟨rfl, h1, h2⟩ | ⟨rfl, h1, h2⟩
    · exact ⟨by omega, fun _ => h1, by omega, fun _ => h2⟩
    · exact ⟨h1, fun e => by (cases e), h2, fun e => by (cases e)⟩
  refine ⟨hP.alloc _, ((Kept.refl g w).alloc o).trans (hK.alloc _), ?_, ?_, rfl, by omega, by omega, by rw [hfl]; exact f1, fun e => ⟨by rw [hfl]; exact f2 e, by have := hij.2.1 e; omega⟩, ?_, ?_, by rw [World.size_alloc]; omega, ?_, m, [(k, nm, a, ln, cp)], World.ownsRow_lit W1 #[.int .i64 k, .string nm, .slice a ln cp] 1 (by omega) (by decide) rfl, ?_⟩
  · intro x hx
    obtain rfl : x = t := by simpa using hx
    exact hG
  · intro x hx
    obtain rfl : x = t := by simpa using hx
    exact h99
  · intro x hx
    obtain rfl : x = t := by simpa using hx
    exact hij.2.2.1
  · intro e x hx
    obtain rfl : x = t := by simpa using hx
    exact hij.2.2.2 e
  · rw [Below.heap_alloc W1 _ _ (by omega), hK.block _ (by rw [World.size_alloc]; omega) (by omega), heap_alloc_new, ho]
  · refine Rows3.one (r := (k, nm, a, ln, cp)) (ExA.kept (w := W1) (by rw [World.size_alloc]; omega) (fun b hb hA => ⟨⟨?_, ?_⟩, Below.heap_alloc W1 _ b hb⟩) _ _ _ hX)
    · rw [World.size_alloc] at hA
      omega
    · intro e
      have e2 : W1.heap.size = b := Option.some.inj e
      omega
theorem HeldQ.append {kd : Int} {g : Nat} {s : ByteArray} {f : Bool} {w wr : World} {i0 i i1 : Nat} {l : List (DataW Unit)} {v : Value} {n : Nat} (h : HeldQ kd g s false w wr i0 i l v n) (hgw : g < w.heap.size) {W1 : World} (hK : Kept g wr W1) {j : Nat} (hP : PAt W1 g s j f) (hii : i ≤ i1) {t : DataW Unit} (hG : Good t) (h99 : kindT t ≠ 99) {m : Nat} {k : Int} {nm : ByteArray} {a : Option Addr} {ln cp : Nat}
    (hX : ExA (fun b => wr.heap.size ≤ b) W1 m t (.agg #[.int .i64 k, .string nm, .slice a ln cp])) (hw : Wid f t i1 j) (hj : j ≤ 200) :
    ∃ v' W3, (Builtin.append_ #[22, 22] 22 #[v, .slice (some ⟨W1.heap.size, 0, none⟩) 1 1]).run Tryd.prog (W1.alloc (.cells #[.int .i64 k, .string nm, .slice a ln cp] 24)) = .ok v' W3 ∧ HeldQ kd g s f w W3 i0 j (l ++ [t]) v' (n + 1) := by
  obtain ⟨m0, rs, hown, hrows⟩ := h.rows
  have hsz : w.heap.size ≤ wr.heap.size := h.kept.size
  have hbg := h.big
  have hsz2 := hK.size
  have hlei := h.lei
  have hfl := h.flat
  obtain ⟨hfl0, hle0⟩ := h.flat0 rfl
  obtain ⟨f1, f2⟩ := hw.flat (kd := kd)
  have hij : i1 ≤ j ∧ (f = false → i1 < j) ∧ (subs t).length + i1 ≤ j + 1 ∧ (f = false → (subs t).length + i1 ≤ j) := by
    rcases hw with ⟨rfl, h1, h2⟩ | ⟨rfl, h1, h2⟩
    · exact ⟨by omega, fun _ => h1, by omega, fun _ => h2⟩
    · exact ⟨h1, fun e => by (cases e), h2, fun e => by (cases e)⟩
  obtain ⟨Y, hY⟩ : ∃ Y : Obj, Y = .cells #[.int .i64 k, .string nm, .slice a ln cp] 24 := ⟨_, rfl⟩
  rw [← hY]
  have hne : ∀ k, v.ownBlock = some k → k ≠ g := fun k hk => by have := (own_lies hown hk).1; omega
  have hown1 : W1.ownsRow (w.heap.size + 1) 24 3 v n (rawC rs) := owns_kept hown fun k hk => hK.block k (own_lies hown hk).2 (hne k hk)
  have hown2 : (W1.alloc Y).ownsRow (w.heap.size + 1) 24 3 v n (rawC rs) := hown1.alloc Y
  have hrows2 : Rows3 (fun b => w.heap.size < b ∧ v.ownBlock ≠ some b) (W1.alloc Y) m0 l rs := hrows.kept (by rw [World.size_alloc]; omega) fun b hb hA => ⟨hA, (Below.heap_alloc W1 Y b (by omega)).trans (hK.block b hb (by have := hA.1; omega))⟩
  have hX2 : Rows3 (fun b => w.heap.size < b ∧ v.ownBlock ≠ some b) (W1.alloc Y) m [t] [(k, nm, a, ln, cp)] := Rows3.one (ExA.kept (w := W1) (by rw [World.size_alloc]; omega) (fun b hb hA => ⟨⟨by omega, fun e => by have := (own_lies hown e).2; omega⟩, Below.heap_alloc W1 Y b hb⟩) _ _ _ hX)
  have hall : Rows3 (fun b => w.heap.size < b ∧ v.ownBlock ≠ some b) (W1.alloc Y) (max m0 m) (l ++ [t]) (rs ++ ([(k, nm, a, ln, cp)] : List Raw)) := (hrows2.upto (by omega)).append (hX2.upto (by omega))
  have hcell : ∀ j, (W1.alloc Y).cell? ⟨W1.heap.size, j, none⟩ = (#[Value.int .i64 k, .string nm, .slice a ln cp] : Array Value)[j]? := fun j => by
    have := heap_alloc_new W1 Y
    rw [hY] at this ⊢
    exact cell_of_row _ _ j _ _ _ this
  obtain ⟨v', W3, hrun, ho, hgr, hat⟩ := expr_append (qs := [(k, nm, a, ln, cp)]) hown2 (by rw [World.size_alloc]; omega) W1.heap.size 0 1 1 rfl (fun j u hj => by
    rw [add_none]
    refine rawC_cells [((k, nm, a, ln, cp) : Raw)] 0 (fun i x hx => ?_) j u hj
    cases i with
    | zero =>
      have hx2 : ((k, nm, a, ln, cp) : Raw) = x := Option.some.inj hx
      subst hx2
      exact ⟨hcell 0, hcell 1, hcell 2⟩
    | succ i => cases hx) (by omega)
  have hblk : ∀ b, b < W1.heap.size → v.ownBlock ≠ some b → W3.heap[b]? = W1.heap[b]? := fun b hb hn => (hgr.block b (by rw [World.size_alloc]; omega) (fun e => hn e.symm)).trans (Below.heap_alloc W1 Y b hb)
  have hs3 := hgr.size
  rw [World.size_alloc] at hs3
  refine ⟨v', W3, hrun, ⟨?_, ?_, ?_, ?_, ?_, by omega, by omega, ?_, ?_, ?_, ?_, by omega, ?_, max m0 m, rs ++ ([(k, nm, a, ln, cp)] : List Raw), ho, ?_⟩⟩
  · exact (hblk g (by omega) (fun e => hne g e rfl)).trans hP
  · refine ⟨hgr.os.trans (hK.os.trans h.kept.os), hgr.tape.trans (hK.tape.trans h.kept.tape), hgr.output.trans (hK.output.trans h.kept.output), by omega, fun k hk hg => ?_⟩
    rw [hblk k (by omega) (fun e => by have := (own_lies hown e).1; omega), hK.block k (by omega) hg, h.kept.block k hk hg]
  · intro x hx
    rcases List.mem_append.1 hx with hx | hx
    · exact h.good x hx
    · obtain rfl : x = t := by simpa using hx
      exact hG
  · intro x hx
    rcases List.mem_append.1 hx with hx | hx
    · exact h.kinds x hx
    · obtain rfl : x = t := by simpa using hx
      exact h99
  · rw [List.length_append, h.len, List.length_singleton]
  · rw [flat_add, List.length_append]
    omega
  · intro e
    have := f2 e
    have := hij.2.1 e
    rw [flat_add, List.length_append]
    exact ⟨by omega, by omega⟩
  · intro x hx
    rcases List.mem_append.1 hx with hx | hx
    · have := h.wid x hx
      omega
    · obtain rfl : x = t := by simpa using hx
      have := hij.2.2.1
      omega
  · intro e x hx
    have := hij.2.1 e
    rcases List.mem_append.1 hx with hx | hx
    · have := h.wid0 rfl x hx
      omega
    · obtain rfl : x = t := by simpa using hx
      have := hij.2.2.2 e
      omega
  · rw [hblk _ (by omega) (fun e => by have := (own_lies hown e).1; omega), hK.block _ (by omega) (by omega)]
    exact h.zero
  · refine hall.kept (by rw [World.size_alloc]; omega) fun b hb hA => ⟨⟨hA.1, ?_⟩, hgr.block b hb (fun e => hA.2 e.symm)⟩
    rcases hat with e | e
    · rw [e]; exact hA.2
    · rw [e]
      intro e2
      cases e2
      omega
/-- In a later world. -/
theorem HeldQ.next {kd : Int} {g : Nat} {s : ByteArray} {w wr : World} {i0 i : Nat} {l : List (DataW Unit)} {v : Value} {n : Nat} (h : HeldQ kd g s false w wr i0 i l v n) (hgw : g < w.heap.size) {W : World} (hK : Kept g wr W) {j : Nat} (hP : PAt W g s j false) (hij : i ≤ j) : HeldQ kd g s false w W i0 j l v n := by
  obtain ⟨m0, rs, hown, hrows⟩ := h.rows
  have hle := h.lei
  have hbg := h.big
  have hsz := hK.size
  have hfl := h.flat
  refine ⟨hP, h.kept.trans hK, h.good, h.kinds, h.len, h.pos, by omega, by omega, fun e => by have := h.flat0 e; omega, fun x hx => by have := h.wid x hx; omega, fun e x hx => by have := h.wid0 e x hx; omega, by omega, ?_, m0, rs, ?_, ?_⟩
  · exact (hK.block _ hbg (by omega)).trans h.zero
  · exact owns_kept hown fun k hk => hK.block k (own_lies hown hk).2 (by have := (own_lies hown hk).1; omega)
  · exact hrows.kept hsz fun b hb hA => ⟨hA, hK.block b hb (by have := hA.1; omega)⟩
/-- What join makes of it. -/
theorem HeldQ.joins {kd : Int} (hkd : kd = 2 ∨ kd = 3) {g : Nat} {s : ByteArray} {f : Bool} {w wr : World} {i0 i : Nat} {l : List (DataW Unit)} {v : Value} {n : Nat} (h : HeldQ kd g s f w wr i0 i l v n) (_hgw : g < w.heap.size) (hi : i ≤ 200) :
    Calls Tryd.prog 34 #[.int .i64 kd, v] wr fun e w' => Kept g w w' ∧ PAt w' g s i f ∧ w'.heap[w.heap.size]? = some (.cells #[.int .i64 0, .string ⟨#[]⟩, .slice none 0 0] 24 (0, 0)) ∧ w.heap.size < w'.heap.size ∧ ∃ r m', e = .returned (rawV r) ∧ ExA (fun b => w.heap.size < b) w' m' (joinT kd l) (rawV r) ∧ Good (joinT kd l) ∧ kindT (joinT kd l) ≠ 99 ∧ (subs (joinT kd l)).length + i0 ≤ i + 1 ∧ (f = false → (subs (joinT kd l)).length + i0 ≤ i ∧ i0 < i) := by
  obtain ⟨m0, rs, hown, hrows⟩ := h.rows
  have hn := h.pos
  obtain ⟨n', rfl⟩ : ∃ n', n = n' + 1 := ⟨n - 1, by omega⟩
  obtain ⟨b, cap, rfl, _, _⟩ : ∃ b cap, v = .slice (some ⟨b, 0, none⟩) (n' + 1) cap ∧ w.heap.size + 1 ≤ b ∧ b < wr.heap.size := by
    obtain ⟨_, ⟨_, h0⟩ | ⟨b, cap, cur, hv, hb, hgb, _⟩⟩ := hown
    · cases h0
    · exact ⟨b, cap, hv, hb, (Array.getElem?_eq_some_iff.1 hgb).1⟩
  have hbb := own_lies hown (k := b) rfl
  have hbg := h.big
  have hfl := h.flat
  have hl0 : l ≠ [] := fun e => by have := h.len; rw [e] at this; cases this
  obtain ⟨hG, hcase⟩ := join_cases hkd l h.good hl0
  have hL : LRow wr (some ⟨b, 0, none⟩) (n' + 1) m0 (w.heap.size + 1) l rs := ⟨b, 0, rfl, hbb.2, h.len, hrows.kept (Nat.le_refl _) fun x _ hA => ⟨by have := hA.1; omega, rfl⟩, hown.cells rfl⟩
  refine (join_calls kd hkd (some ⟨b, 0, none⟩) (n' + 1) cap m0 (w.heap.size + 1) l rs wr hL (by omega) h.good (by omega) (by omega)).mono ?_
  rintro e w' ⟨hB, r, m', rfl, hX⟩
  have hKw : Kept g wr w' := Kept.of_below hB
  refine ⟨h.kept.trans hKw, h.pat.below hB, (hB.block _ hbg).trans h.zero, by have := hB.size; omega, r, m', rfl, hX.mono fun b _ hA => by omega, hG, ?_, ?_, ?_⟩
  · rcases hcase with ⟨_, _, h3⟩ | ⟨_, _, h3⟩
    · exact h.kinds _ h3
    · rw [h3, kindT_node]
      omega
  · rcases hcase with ⟨_, _, h3⟩ | ⟨_, _, h3⟩
    · exact h.wid _ h3
    · rw [h3, subs_node]
      exact hfl
  · intro e
    obtain ⟨q1, q2⟩ := h.flat0 e
    refine ⟨?_, by omega⟩
    rcases hcase with ⟨_, _, h3⟩ | ⟨_, _, h3⟩
    · exact h.wid0 e _ h3
    · rw [h3, subs_node]
      exact q1
end Go.Proofs.YtafidabopcgkhaaDoor
