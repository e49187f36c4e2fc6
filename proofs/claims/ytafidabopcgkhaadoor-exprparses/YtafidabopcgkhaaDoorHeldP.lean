/-
  PROVED HERE: a row that the document's own parser reads: what its loop holds.
-/
import Derived.Test.YtafidabopcgkhaaDoorHeld
namespace Go.Proofs.YtafidabopcgkhaaDoor
open Go.RowKit

theorem PAt.lt {w : World} {g : Nat} {s : ByteArray} {i : Nat} {e : Bool} (h : PAt w g s i e) : g < w.heap.size := (Array.getElem?_eq_some_iff.1 h).1
theorem PAt.alloc {w : World} {g : Nat} {s : ByteArray} {i : Nat} {e : Bool} (h : PAt w g s i e) (o : Obj) : PAt (w.alloc o) g s i e := (Below.heap_alloc w o g h.lt).trans h
theorem PAt.setRow {w : World} {g : Nat} {s : ByteArray} {i : Nat} {e : Bool} (h : PAt w g s i e) (b : Nat) (cs : Array Value) (hb : b ≠ g) : PAt (w.setRow b cs) g s i e := (setRow_other w b g cs (Ne.symm hb)).trans h
theorem PAt.below {w w' : World} {g : Nat} {s : ByteArray} {i : Nat} {e : Bool} (h : PAt w g s i e) (hB : Below w.heap.size w w') : PAt w' g s i e := (hB.block g h.lt).trans h
theorem PAt.err {w : World} {g : Nat} {s : ByteArray} {i : Nat} {e : Bool} (h : PAt w g s i e) : PAt (w.setCell ⟨g, 2, none⟩ (.bool true)) g s i true := heap_setCell_same w g 2 _ _ _ h
/-- A row that is read: what the loop holds. -/
structure HeldP (kd : Int) (g : Nat) (s : ByteArray) (e : Bool) (w wr : World) (i0 i : Nat) (l : List (DataW Unit)) (v : Value) (n : Nat) : Prop where
  rat : PAt wr g s i e
  kept : Kept g w wr
  good : ∀ x ∈ l, Good x
  len : (flatT kd l).length = n
  lei : n + i0 ≤ i
  big : w.heap.size < wr.heap.size
  wid : ∀ x ∈ l, (subs x).length + i0 ≤ i
  rows : ∃ m rs, wr.ownsRow (w.heap.size + 1) 24 3 v n (rawC rs) ∧ Rows3 (fun b => w.heap.size < b ∧ v.ownBlock ≠ some b) wr m (flatT kd l) rs
theorem HeldP.start (kd : Int) {g : Nat} {s : ByteArray} {e : Bool} {w : World} {i0 : Nat} (h : PAt w g s i0 e) (o : Obj) : HeldP kd g s e w (w.alloc o) i0 i0 [] (.slice none 0 0) 0 :=
  ⟨h.alloc o, (Kept.refl g w).alloc o, fun x hx => (by cases hx), rfl, by omega, by simp, fun x hx => (by cases hx), 0, [], World.ownsRow_nil _ _ _ _, Rows3.nil _ _ _⟩
theorem HeldP.append {kd : Int} {g : Nat} {s : ByteArray} {e e0 : Bool} {w wr : World} {i0 i : Nat} {l : List (DataW Unit)} {v : Value} {n : Nat} (h : HeldP kd g s e0 w wr i0 i l v n) (hgw : g < w.heap.size) {W : World} (hK : Kept g wr W) {j : Nat} (hR : PAt W g s j e) {t : DataW Unit} (hG : Good t)
    {us : List (DataW Unit)} (hus : us = if kindT t = kd then subs t else [t]) {m : Nat} {qs : List Raw} (hX : Rows3 (fun b => wr.heap.size ≤ b) W m us qs) {len : Nat} (hlen : us.length = len) (hij : i + len ≤ j) (hwd : (subs t).length + i ≤ j) (hj : j ≤ 200) (b o cap : Nat) (hc : ∀ j u, (rawC qs)[j]? = some u → W.cell? ((⟨b, o, none⟩ : Addr).add j) = some u) :
    ∃ v' W3, (Builtin.append_ #[22, 22] 22 #[v, .slice (some ⟨b, o, none⟩) len cap]).run Tryd.prog W = .ok v' W3 ∧ HeldP kd g s e w W3 i0 j (l ++ [t]) v' (n + len) ∧ (∀ k, k < W.heap.size → v.ownBlock ≠ some k → W3.heap[k]? = W.heap[k]?) := by
  obtain ⟨m0, rs, hown, hrows⟩ := h.rows
  have hsz : w.heap.size ≤ wr.heap.size := h.kept.size
  have hbg0 := h.big
  have hsz2 := hK.size
  have hne : ∀ k, v.ownBlock = some k → k ≠ g := fun k hk => by have := (own_lies hown hk).1; omega
  have hown2 : W.ownsRow (w.heap.size + 1) 24 3 v n (rawC rs) := owns_kept hown fun k hk => hK.block k (own_lies hown hk).2 (hne k hk)
  have hrows2 : Rows3 (fun b => w.heap.size < b ∧ v.ownBlock ≠ some b) W m0 (flatT kd l) rs := hrows.kept hsz2 fun b hb hA => ⟨hA, hK.block b hb (by have := hA.1; omega)⟩
  have hX2 : Rows3 (fun b => w.heap.size < b ∧ v.ownBlock ≠ some b) W m us qs := hX.kept (Nat.le_refl _) fun b hb hA => ⟨⟨by omega, fun e => by have := (own_lies hown e).2; omega⟩, rfl⟩
  have hall : Rows3 (fun b => w.heap.size < b ∧ v.ownBlock ≠ some b) W (max m0 m) (flatT kd l ++ us) (rs ++ qs) := (hrows2.upto (by omega)).append (hX2.upto (by omega))
  have hle := h.lei
  have hbg := h.big
  obtain ⟨v', W3, hrun, ho, hgr, hat⟩ := expr_append hown2 (by omega) b o len cap (by rw [hX.1, hlen]) hc (by omega)
  refine ⟨v', W3, hrun, ⟨?_, ?_, ?_, ?_, by omega, by have := hgr.size; omega, ?_, max m0 m, rs ++ qs, ho, ?_⟩, fun k hk hn => hgr.block k hk (fun e => hn e.symm)⟩
  · exact (hgr.block g hR.lt (fun e => hne g e.symm rfl)).trans hR
  · refine ⟨hgr.os.trans (hK.os.trans h.kept.os), hgr.tape.trans (hK.tape.trans h.kept.tape), hgr.output.trans (hK.output.trans h.kept.output), by have := hgr.size; omega, fun k hk hg => ?_⟩
    rw [hgr.block k (by omega) (fun e => by have := (own_lies hown e.symm).1; omega), hK.block k (by omega) hg, h.kept.block k hk hg]
  · intro x hx
    rcases List.mem_append.1 hx with hx | hx
    · exact h.good x hx
    · obtain rfl : x = t := by simpa using hx
      exact hG
  · rw [flat_add, List.length_append, h.len, ← hus, hlen]
  · intro x hx
    rcases List.mem_append.1 hx with hx | hx
    · have := h.wid x hx
      omega
    · obtain rfl : x = t := by simpa using hx
      omega
  · rw [flat_add, ← hus]
    refine hall.kept hgr.size fun b hb hA => ⟨⟨hA.1, ?_⟩, hgr.block b hb (fun e => hA.2 e.symm)⟩
    rcases hat with e | e
    · rw [e]; exact hA.2
    · rw [e]
      intro e2
      cases e2
      omega
/-- A tree of another kind comes as it is. -/
theorem HeldP.one {kd : Int} {g : Nat} {s : ByteArray} {e e0 : Bool} {w wr : World} {i0 i : Nat} {l : List (DataW Unit)} {v : Value} {n : Nat} (h : HeldP kd g s e0 w wr i0 i l v n) (hgw : g < w.heap.size) {W1 : World} (hK : Kept g wr W1) {j : Nat} (hR : PAt W1 g s j e) {t : DataW Unit} (hG : Good t) {m : Nat} {k : Int} {nm : ByteArray} {a : Option Addr} {ln cp : Nat}
    (hX : ExA (fun b => wr.heap.size ≤ b) W1 m t (.agg #[.int .i64 k, .string nm, .slice a ln cp])) (hk : k ≠ kd) (hij : i < j) (hwd : (subs t).length + i ≤ j) (hj : j ≤ 200) (X : Obj) :
    ∃ v' W3, (Builtin.append_ #[22, 22] 22 #[v, .slice (some ⟨(W1.alloc X).heap.size, 0, none⟩) 1 1]).run Tryd.prog ((W1.alloc X).alloc (.cells #[.int .i64 k, .string nm, .slice a ln cp] 24)) = .ok v' W3 ∧ HeldP kd g s e w W3 i0 j (l ++ [t]) v' (n + 1) ∧ (∀ k, k < W1.heap.size → v.ownBlock ≠ some k → W3.heap[k]? = W1.heap[k]?) := by
  have hn := ExA.node (r := (k, nm, a, ln, cp)) hX
  have hn1 : kindT t ≠ kd := fun e => hk (hn.1.symm.trans e)
  obtain ⟨Y, hY⟩ : ∃ Y : Obj, Y = .cells #[.int .i64 k, .string nm, .slice a ln cp] 24 := ⟨_, rfl⟩
  have hK2 : Kept g wr ((W1.alloc X).alloc Y) := (hK.alloc X).alloc Y
  have hk2 : ∀ b, b < W1.heap.size → ((W1.alloc X).alloc Y).heap[b]? = W1.heap[b]? := fun b hb => (Below.heap_alloc _ Y b (by simp; omega)).trans (Below.heap_alloc W1 X b hb)
  have hX2 : ExA (fun b => wr.heap.size ≤ b) ((W1.alloc X).alloc Y) m t (rawV (k, nm, a, ln, cp)) := ExA.kept (w := W1) (by rw [World.size_alloc, World.size_alloc]; omega) (fun b hb hA => ⟨hA, hk2 b hb⟩) _ _ _ hX
  obtain ⟨v', W3, h1, h2, h3⟩ := h.append (len := 1) hgw hK2 ((hR.alloc X).alloc Y) hG (us := [t]) (by rw [if_neg hn1]) (Rows3.one hX2) rfl (by omega) hwd hj (W1.alloc X).heap.size 0 1 (fun j u hj => by
    rw [add_none]
    refine rawC_cells [((k, nm, a, ln, cp) : Raw)] 0 (fun i x hx => ?_) j u hj
    have hcell : ∀ j, ((W1.alloc X).alloc Y).cell? ⟨(W1.alloc X).heap.size, j, none⟩ = (#[Value.int .i64 k, .string nm, .slice a ln cp] : Array Value)[j]? := fun j => by
      have := heap_alloc_new (W1.alloc X) Y
      rw [hY] at this ⊢
      exact cell_of_row _ _ j _ _ _ this
    cases i with
    | zero =>
      have hx2 : ((k, nm, a, ln, cp) : Raw) = x := Option.some.inj hx
      subst hx2
      exact ⟨hcell 0, hcell 1, hcell 2⟩
    | succ i => cases hx)
  rw [hY] at h1
  exact ⟨v', W3, h1, h2, fun k hk hv => (h3 k (by rw [World.size_alloc, World.size_alloc]; omega) hv).trans (hk2 k hk)⟩
theorem HeldP.apart {kd : Int} {g : Nat} {s : ByteArray} {e0 : Bool} {w wr : World} {i0 i : Nat} {l : List (DataW Unit)} {v : Value} {n : Nat} (h : HeldP kd g s e0 w wr i0 i l v n) : v.ownBlock ≠ some w.heap.size := fun e => by
  obtain ⟨m, rs, hown, _⟩ := h.rows
  have := (own_lies hown e).1
  omega
/-- In a later world. -/
theorem HeldP.next {kd : Int} {g : Nat} {s : ByteArray} {e e0 : Bool} {w wr : World} {i0 i : Nat} {l : List (DataW Unit)} {v : Value} {n : Nat} (h : HeldP kd g s e0 w wr i0 i l v n) (hgw : g < w.heap.size) {W : World} (hK : Kept g wr W) {j : Nat} (hR : PAt W g s j e) (hij : i ≤ j) : HeldP kd g s e w W i0 j l v n := by
  obtain ⟨m0, rs, hown, hrows⟩ := h.rows
  have hle := h.lei
  have hbg := h.big
  have hsz := hK.size
  refine ⟨hR, h.kept.trans hK, h.good, h.len, by omega, by omega, fun x hx => by have := h.wid x hx; omega, m0, rs, ?_, ?_⟩
  · exact owns_kept hown fun k hk => hK.block k (own_lies hown hk).2 (by have := (own_lies hown hk).1; omega)
  · exact hrows.kept hsz fun b hb hA => ⟨hA, hK.block b hb (by have := hA.1; omega)⟩
end Go.Proofs.YtafidabopcgkhaaDoor
