/-
  PROVED HERE: expr.row at any two functions that read and ask: what it returns and leaves.
-/
import Derived.Test.YtafidabopcgkhaaDoorJoin
namespace Go.Proofs.YtafidabopcgkhaaDoor
open Go.RowKit

/-- What is read: a refusal, or a tree of new blocks. -/
def Said (g : Nat) (s : ByteArray) (lo i : Nat) (F : Nat → Prop) (D : DataW Unit → Nat → Prop) (e : Ending) (w' : World) : Prop :=
  (∃ j, RAt w' g s j ∧ F j ∧ e = .returned (.tuple #[zE, refV j 4])) ∨
  (∃ j t m r, RAt w' g s j ∧ D t j ∧ Good t ∧ i < j ∧ (subs t).length + i ≤ j ∧ ExA (fun b => lo ≤ b) w' m t (rawV r) ∧ e = .returned (.tuple #[rawV r, .nilIface]))
theorem ExA.node {A : Nat → Prop} {w : World} {m : Nat} {t : DataW Unit} {r : Raw} (h : ExA A w m t (rawV r)) : kindT t = r.1 ∧ (subs t).length = r.2.2.2.1 := by
  cases m with
  | zero => exact h.elim
  | succ m =>
    obtain ⟨k, s, a, len, cap, ts, rfl, hv, hl, _⟩ := h
    unfold rawV at hv
    have := Array.toList_inj.2 (Value.agg.inj hv)
    simp only [List.cons.injEq, Value.int.injEq, Value.string.injEq, Value.slice.injEq, and_true, true_and] at this
    rw [kindT_node, subs_node]
    exact ⟨this.1.symm, by rw [hl, this.2.2.2.1]⟩
/-- A row that is read: what the loop holds. -/
structure Held (kd : Int) (g : Nat) (s : ByteArray) (w wr : World) (i0 i : Nat) (l : List (DataW Unit)) (v : Value) (n : Nat) : Prop where
  rat : RAt wr g s i
  kept : Kept g w wr
  good : ∀ x ∈ l, Good x
  len : (flatT kd l).length = n
  lei : n + i0 ≤ i
  big : w.heap.size < wr.heap.size
  wid : ∀ x ∈ l, (subs x).length + i0 ≤ i
  rows : ∃ m rs, wr.ownsRow (w.heap.size + 1) 24 3 v n (rawC rs) ∧ Rows3 (fun b => w.heap.size < b ∧ v.ownBlock ≠ some b) wr m (flatT kd l) rs
theorem Held.start (kd : Int) {g : Nat} {s : ByteArray} {w : World} {i0 : Nat} (h : RAt w g s i0) (o : Obj) : Held kd g s w (w.alloc o) i0 i0 [] (.slice none 0 0) 0 :=
  ⟨h.alloc o, (Kept.refl g w).alloc o, fun x hx => (by cases hx), rfl, by omega, by simp, fun x hx => (by cases hx), 0, [], World.ownsRow_nil _ _ _ _, Rows3.nil _ _ _⟩
/-- What a call owns, where its own block is as it was. -/
theorem owns_kept {w w' : World} {base : Nat} {e : TypeId} {sz : Nat} {v : Value} {n : Nat} {xs : List Value} (h : w.ownsRow base e sz v n xs) (hk : ∀ k, v.ownBlock = some k → w'.heap[k]? = w.heap[k]?) : w'.ownsRow base e sz v n xs := by
  obtain ⟨hl, h1 | ⟨g, cap, cur, rfl, hb, hg, hc⟩⟩ := h
  · exact ⟨hl, .inl h1⟩
  · exact ⟨hl, .inr ⟨g, cap, cur, rfl, hb, (hk g rfl).trans hg, hc⟩⟩
theorem own_lies {w : World} {base : Nat} {e : TypeId} {sz : Nat} {v : Value} {n : Nat} {xs : List Value} (h : w.ownsRow base e sz v n xs) {k : Nat} (hk : v.ownBlock = some k) : base ≤ k ∧ k < w.heap.size := by
  obtain ⟨hl, ⟨rfl, _⟩ | ⟨g, cap, cur, rfl, hb, hg, hc⟩⟩ := h
  · cases hk
  · cases hk
    exact ⟨hb, (Array.getElem?_eq_some_iff.1 hg).1⟩
theorem Held.append {kd : Int} {g : Nat} {s : ByteArray} {w wr : World} {i0 i : Nat} {l : List (DataW Unit)} {v : Value} {n : Nat} (h : Held kd g s w wr i0 i l v n) (hgw : g < w.heap.size) {W : World} (hK : Kept g wr W) {j : Nat} (hR : RAt W g s j) {t : DataW Unit} (hG : Good t)
    {us : List (DataW Unit)} (hus : us = if kindT t = kd then subs t else [t]) {m : Nat} {qs : List Raw} (hX : Rows3 (fun b => wr.heap.size ≤ b) W m us qs) {len : Nat} (hlen : us.length = len) (hij : i + len ≤ j) (hwd : (subs t).length + i ≤ j) (hj : j ≤ 200) (b o cap : Nat) (hc : ∀ j u, (rawC qs)[j]? = some u → W.cell? ((⟨b, o, none⟩ : Addr).add j) = some u) :
    ∃ v' W3, (Builtin.append_ #[22, 22] 22 #[v, .slice (some ⟨b, o, none⟩) len cap]).run Tryd.prog W = .ok v' W3 ∧ Held kd g s w W3 i0 j (l ++ [t]) v' (n + len) ∧ (∀ k, k < W.heap.size → v.ownBlock ≠ some k → W3.heap[k]? = W.heap[k]?) := by
  obtain ⟨m0, rs, hown, hrows⟩ := h.rows
  have hsz : w.heap.size ≤ wr.heap.size := h.kept.size
  have hbg0 := h.big
  have hsz2 := hK.size
  have hne : ∀ k, v.ownBlock = some k → k ≠ g := fun k hk => by have := (own_lies hown hk).1; omega
  have hown2 : W.ownsRow (w.heap.size + 1) 24 3 v n (rawC rs) := owns_kept hown fun k hk => hK.block k (own_lies hown hk).2 (hne k hk)
  have hrows2 : Rows3 (fun b => w.heap.size < b ∧ v.ownBlock ≠ some b) W m0 (flatT kd l) rs := hrows.kept hsz2 fun b hb hA => ⟨hA, hK.block b hb (by have := hA.1; omega)⟩
  have hX2 : Rows3 (fun b => w.heap.size < b ∧ v.ownBlock ≠ some b) W m us qs := hX.kept (Nat.le_refl _) fun b hb hA => ⟨⟨by omega, fun e => by have := (own_lies hown e).2; omega⟩, rfl⟩
  have hall : Rows3 (fun b => w.heap.size < b ∧ v.ownBlock ≠ some b) W (max m0 m) (flatT kd l ++ us) (rs ++ qs) := (hrows2.upto (by omega)).append (hX2.upto (by omega))
  have hle := h.lei
  have hbg := h.big
  obtain ⟨v', W3, hrun, ho, hgr, hat⟩ := expr_append hown2 (by omega) b o len cap (by rw [hX.1, hlen]) hc (by omega)
  refine ⟨v', W3, hrun, ⟨?_, ?_, ?_, ?_, by omega, by have := hgr.size; omega, ?_, max m0 m, rs ++ qs, ho, ?_⟩, fun k hk hn => hgr.block k hk (fun e => hn e.symm)⟩
  · exact (hgr.block g hR.lt (fun e => hne g e.symm rfl)).trans hR
  · refine ⟨hgr.os.trans (hK.os.trans h.kept.os), hgr.tape.trans (hK.tape.trans h.kept.tape), hgr.output.trans (hK.output.trans h.kept.output), by have := hgr.size; omega, fun k hk hg => ?_⟩
    rw [hgr.block k (by omega) (fun e => by have := (own_lies hown e.symm).1; omega), hK.block k (by omega) hg, h.kept.block k hk hg]
  · intro x hx
    rcases List.mem_append.1 hx with hx | hx
    · exact h.good x hx
    · obtain rfl : x = t := by simpa using hx
      exact hG
  · rw [flat_add, List.length_append, h.len, ← hus, hlen]
  · intro x hx
    rcases List.mem_append.1 hx with hx | hx
    · have := h.wid x hx
      omega
    · obtain rfl : x = t := by simpa using hx
      omega
  · rw [flat_add, ← hus]
    refine hall.kept hgr.size fun b hb hA => ⟨⟨hA.1, ?_⟩, hgr.block b hb (fun e => hA.2 e.symm)⟩
    rcases hat with e | e
    · rw [e]; exact hA.2
    · rw [e]
      intro e2
      cases e2
      omega
/-- A tree that is a row gives those within. -/
theorem Held.many {kd : Int} {g : Nat} {s : ByteArray} {w wr : World} {i0 i : Nat} {l : List (DataW Unit)} {v : Value} {n : Nat} (h : Held kd g s w wr i0 i l v n) (hkd : kd = 2 ∨ kd = 3) (hgw : g < w.heap.size) {W1 : World} (hK : Kept g wr W1) {j : Nat} (hR : RAt W1 g s j) {t : DataW Unit} (hG : Good t) {m : Nat} {k : Int} {nm : ByteArray} {a : Option Addr} {ln cp : Nat}
    (hX : ExA (fun b => wr.heap.size ≤ b) W1 m t (.agg #[.int .i64 k, .string nm, .slice a ln cp])) (hk : k = kd) (hij : (subs t).length + i ≤ j) (hj : j ≤ 200) (X : Obj) :
    ∃ v' W3, (Builtin.append_ #[22, 22] 22 #[v, .slice a ln cp]).run Tryd.prog (W1.alloc X) = .ok v' W3 ∧ Held kd g s w W3 i0 j (l ++ [t]) v' (n + ln) ∧ (∀ k, k < W1.heap.size → v.ownBlock ≠ some k → W3.heap[k]? = W1.heap[k]?) := by
  have hn := ExA.node (r := (k, nm, a, ln, cp)) hX
  have hn1 : kindT t = kd := hn.1.trans hk
  have hn2 : (subs t).length = ln := hn.2
  have hg2 := (hG.2 (by rw [hn1]; exact hkd)).2
  cases m with
  | zero => exact hX.elim
  | succ m =>
    obtain ⟨-, -, -, b, o, rs, rfl, hb, hA, hr, hc⟩ := hX.kids (by omega)
    have hK2 : Kept g wr (W1.alloc X) := hK.alloc X
    obtain ⟨v', W3, h1, h2, h3⟩ := h.append hgw hK2 (hR.alloc X) hG (us := subs t) (by rw [if_pos hn1]) (hr.kept (w' := W1.alloc X) (by simp) fun b hb hA => ⟨hA, Below.heap_alloc W1 X b hb⟩) hn2 (by omega) (by omega) hj b o cp (fun j u hj => by
      have := hc j u hj
      rw [add_none] at this ⊢
      rw [World.cell?_alloc_lt _ _ ⟨b, o + j, none⟩ hb]
      exact this)
    exact ⟨v', W3, h1, h2, fun k hk hv => (h3 k (by simp; omega) hv).trans (Below.heap_alloc W1 X k hk)⟩
/-- A tree of another kind comes as it is. -/
theorem Held.one {kd : Int} {g : Nat} {s : ByteArray} {w wr : World} {i0 i : Nat} {l : List (DataW Unit)} {v : Value} {n : Nat} (h : Held kd g s w wr i0 i l v n) (hgw : g < w.heap.size) {W1 : World} (hK : Kept g wr W1) {j : Nat} (hR : RAt W1 g s j) {t : DataW Unit} (hG : Good t) {m : Nat} {k : Int} {nm : ByteArray} {a : Option Addr} {ln cp : Nat}
    (hX : ExA (fun b => wr.heap.size ≤ b) W1 m t (.agg #[.int .i64 k, .string nm, .slice a ln cp])) (hk : k ≠ kd) (hij : i < j) (hwd : (subs t).length + i ≤ j) (hj : j ≤ 200) (X : Obj) :
    ∃ v' W3, (Builtin.append_ #[22, 22] 22 #[v, .slice (some ⟨(W1.alloc X).heap.size, 0, none⟩) 1 1]).run Tryd.prog ((W1.alloc X).alloc (.cells #[.int .i64 k, .string nm, .slice a ln cp] 24)) = .ok v' W3 ∧ Held kd g s w W3 i0 j (l ++ [t]) v' (n + 1) ∧ (∀ k, k < W1.heap.size → v.ownBlock ≠ some k → W3.heap[k]? = W1.heap[k]?) := by
  have hn := ExA.node (r := (k, nm, a, ln, cp)) hX
  have hn1 : kindT t ≠ kd := fun e => hk (hn.1.symm.trans e)
  obtain ⟨Y, hY⟩ : ∃ Y : Obj, Y = .cells #[.int .i64 k, .string nm, .slice a ln cp] 24 := ⟨_, rfl⟩
  have hK2 : Kept g wr ((W1.alloc X).alloc Y) := (hK.alloc X).alloc Y
  have hk2 : ∀ b, b < W1.heap.size → ((W1.alloc X).alloc Y).heap[b]? = W1.heap[b]? := fun b hb => (Below.heap_alloc _ Y b (by simp; omega)).trans (Below.heap_alloc W1 X b hb)
  have hX2 : ExA (fun b => wr.heap.size ≤ b) ((W1.alloc X).alloc Y) m t (rawV (k, nm, a, ln, cp)) := ExA.kept (w := W1) (by rw [World.size_alloc, World.size_alloc]; omega) (fun b hb hA => ⟨hA, hk2 b hb⟩) _ _ _ hX
  obtain ⟨v', W3, h1, h2, h3⟩ := h.append (len := 1) hgw hK2 ((hR.alloc X).alloc Y) hG (us := [t]) (by rw [if_neg hn1]) (Rows3.one hX2) rfl (by omega) hwd hj (W1.alloc X).heap.size 0 1 (fun j u hj => by
    rw [add_none]
    refine rawC_cells [((k, nm, a, ln, cp) : Raw)] 0 (fun i x hx => ?_) j u hj
    have hcell : ∀ j, ((W1.alloc X).alloc Y).cell? ⟨(W1.alloc X).heap.size, j, none⟩ = (#[Value.int .i64 k, .string nm, .slice a ln cp] : Array Value)[j]? := fun j => by
      have := heap_alloc_new (W1.alloc X) Y
      rw [hY] at this ⊢
      exact cell_of_row _ _ j _ _ _ this
    cases i with
    | zero =>
      have hx2 : ((k, nm, a, ln, cp) : Raw) = x := Option.some.inj hx
      subst hx2
      exact ⟨hcell 0, hcell 1, hcell 2⟩
    | succ i => cases hx)
  rw [hY] at h1
  exact ⟨v', W3, h1, h2, fun k hk hv => (h3 k (by rw [World.size_alloc, World.size_alloc]; omega) hv).trans (hk2 k hk)⟩
theorem Held.apart {kd : Int} {g : Nat} {s : ByteArray} {w wr : World} {i0 i : Nat} {l : List (DataW Unit)} {v : Value} {n : Nat} (h : Held kd g s w wr i0 i l v n) : v.ownBlock ≠ some w.heap.size := fun e => by
  obtain ⟨m, rs, hown, _⟩ := h.rows
  have := (own_lies hown e).1
  omega
/-- In a later world. -/
theorem Held.next {kd : Int} {g : Nat} {s : ByteArray} {w wr : World} {i0 i : Nat} {l : List (DataW Unit)} {v : Value} {n : Nat} (h : Held kd g s w wr i0 i l v n) (hgw : g < w.heap.size) {W : World} (hK : Kept g wr W) {j : Nat} (hR : RAt W g s j) (hij : i ≤ j) : Held kd g s w W i0 j l v n := by
  obtain ⟨m0, rs, hown, hrows⟩ := h.rows
  have hle := h.lei
  have hbg := h.big
  have hsz := hK.size
  refine ⟨hR, h.kept.trans hK, h.good, h.len, by omega, by omega, fun x hx => by have := h.wid x hx; omega, m0, rs, ?_, ?_⟩
  · exact owns_kept hown fun k hk => hK.block k (own_lies hown hk).2 (by have := (own_lies hown hk).1; omega)
  · exact hrows.kept hsz fun b hb hA => ⟨hA, hK.block b hb (by have := hA.1; omega)⟩
/-- The row that is handed back. -/
theorem Held.tree {kd : Int} {g : Nat} {s : ByteArray} {w wr : World} {i0 i : Nat} {l : List (DataW Unit)} {v : Value} {n : Nat} (h : Held kd g s w wr i0 i l v n) (hkd : kd = 2 ∨ kd = 3) (hl : l ≠ []) (hi : i ≤ 200) :
    Good (joinT kd l) ∧ (subs (joinT kd l)).length + i0 ≤ i ∧ ((n = 1 ∧ ∃ m b k nm a ln cp cap, v = .slice (some ⟨b, 0, none⟩) 1 cap ∧ wr.cell? ⟨b, 0, none⟩ = some (.int .i64 k) ∧ wr.cell? ⟨b, 1, none⟩ = some (.string nm) ∧ wr.cell? ⟨b, 2, none⟩ = some (.slice a ln cp) ∧ ExA (fun b => w.heap.size < b) wr m (joinT kd l) (.agg #[.int .i64 k, .string nm, .slice a ln cp])) ∨
      (n ≠ 1 ∧ ∃ m a cap, v = .slice a n cap ∧ ExA (fun b => w.heap.size < b) wr m (joinT kd l) (.agg #[.int .i64 kd, .string ⟨#[]⟩, .slice a n cap]))) := by
  obtain ⟨m0, rs, hown, hrows⟩ := h.rows
  have hle := h.lei
  obtain ⟨hG, hcase⟩ := join_cases hkd l h.good hl
  refine ⟨hG, ?_, ?_⟩
  · rcases hcase with ⟨_, _, h3⟩ | ⟨_, _, h3⟩
    · exact h.wid _ h3
    · rw [h3, subs_node, h.len]
      exact hle
  rw [h.len] at hcase
  have hr1 : rs.length = n := by rw [hrows.1, h.len]
  rcases hcase with ⟨h1, h2, _⟩ | ⟨h1, h2, h3⟩
  · refine .inl ⟨h1, ?_⟩
    subst h1
    rw [h2] at hrows
    obtain ⟨r, hr, hx⟩ := hrows.2 0 _ rfl
    obtain ⟨hl', ⟨_, h0⟩ | ⟨b, cap, cur, rfl, hb, hgb, hc1, hc2, hc3, hc4⟩⟩ := hown
    · cases h0
    · obtain ⟨f0, f1, f2⟩ := rawC_at rs 0 r hr
      have key : ∀ j u, (rawC rs)[j]? = some u → wr.cell? ⟨b, j, none⟩ = some u := by
        intro j u hj
        have hjl : j < 1 * 3 := by
          have := (List.getElem?_eq_some_iff.1 hj).1
          rw [rawC_length, hr1] at this
          omega
        rw [← hc4, List.getElem?_take, if_pos hjl, Array.getElem?_toList] at hj
        simp [World.cell?, hgb, hj]
      exact ⟨m0, b, r.1, r.2.1, r.2.2.1, r.2.2.2.1, r.2.2.2.2, cap, rfl, key _ _ f0, key _ _ f1, key _ _ f2, hx.mono fun b _ hA => hA.1⟩
  · refine .inr ⟨h1, ?_⟩
    obtain ⟨a, cap, rfl, _, hx⟩ := ExA.of_owns (A := fun b => w.heap.size < b) hown (hrows.kept (Nat.le_refl _) fun b _ hA => ⟨hA.1, rfl⟩) (by omega) (fun g hg => by have := (own_lies hown hg).1; omega) kd ⟨#[]⟩
    rw [← h3] at hx
    exact ⟨_, a, cap, rfl, hx⟩
end Go.Proofs.YtafidabopcgkhaaDoor
