/-
  PROVED HERE: what Accepts says of a tree, and goes on saying wherever nothing was turned.
-/
import Derived.Test.YtajabenlkmgjeaaDoorApd
namespace Go.Proofs.YtajabenlkmgjeaaDoor
open Go.RowKit

theorem at_new {W : World} {k : Nat} {o : Obj} (h : k = W.heap.size) : (W.alloc o).heap[k]? = some o := by rw [h]; exact World.alloc_heap_new W o
theorem at_old {W : World} {k : Nat} {o : Obj} (h : k < W.heap.size) : (W.alloc o).heap[k]? = W.heap[k]? := Below.heap_alloc _ _ _ h
/-- Behind w6 Accepts of the tree v says of each word whether L holds of it. -/
def Says (w6 : World) (v : Value) (ga : Option Addr) (gl gc : Nat) (L : List Int → Prop) : Prop :=
  ∀ (X : World) (za : Option Addr) (zl zc : Nat) (zs : List Int), Below w6.heap.size w6 X → Ints X za zl zs → Calls Tryd.prog 10 #[v, .slice ga gl gc, .slice za zl zc] X fun e w' => ∃ b : Bool, e = .returned (.bool b) ∧ (b = true ↔ L zs) ∧ Below X.heap.size X w'
theorem says_of {w6 : World} {n : Nat} {t : DataW Unit} {v : Value} {ga : Option Addr} {gl gc : Nat} {gs : List Grp} {L : List Int → Prop} (hE : Ex w6 n t v) (hN : named n t) (hG : Groups w6 ga gl gs) (hc : chk n t gs = 0) (hL : ∀ zs, LangD gs n t zs ↔ L zs) : Says w6 v ga gl gc L := by
  intro X za zl zc zs hX hZ
  refine (accepts_calls n t v ga gl gc gs za zl zc zs X (Ex.below hX _ _ _ hE) hN (hG.below hX) hZ).mono ?_
  rintro e w' ⟨b, h1, h2, h3⟩
  refine ⟨b, h1, ?_, h3⟩
  rw [h2, ← hL]
  exact ⟨fun q => q.2, fun q => ⟨hc, q⟩⟩
end Go.Proofs.YtajabenlkmgjeaaDoor
