/-
  PROVED HERE: what the texts Asks6, FilledW say (each has its own words below).
-/
import Derived.Test.YtgkplmnhmobnnaaGreatDoorSM22
import Derived.Test.YtgkplmnhmobnnaaGreatDoorSMFilling
import Derived.Test.YtgkplmnhmobnnaaGreatDoorSMParseC
/- Asks6: what Accepts says of a tree, and goes on saying wherever nothing was turned. -/
namespace Go.Proofs.YtgkplmnhmobnnaaGreatDoor
open Go.RowKit

theorem at_new {W : World} {k : Nat} {o : Obj} (h : k = W.heap.size) : (W.alloc o).heap[k]? = some o := by rw [h]; exact World.alloc_heap_new W o
theorem at_old {W : World} {k : Nat} {o : Obj} (h : k < W.heap.size) : (W.alloc o).heap[k]? = W.heap[k]? := Below.heap_alloc _ _ _ h
/-- Behind w6 Accepts of the tree v says of each word whether L holds of it. -/
def Says (w6 : World) (v : Value) (ga : Option Addr) (gl gc : Nat) (L : List Int → Prop) : Prop :=
  ∀ (X : World) (za : Option Addr) (zl zc : Nat) (zs : List Int), Below w6.heap.size w6 X → Ints X za zl zs → Calls Tryz.prog 42 #[v, .slice ga gl gc, .slice za zl zc] X fun e w' => ∃ b : Bool, e = .returned (.bool b) ∧ (b = true ↔ L zs) ∧ Below X.heap.size X w'
theorem says_of {w6 : World} {n : Nat} {t : DataW Unit} {v : Value} {ga : Option Addr} {gl gc : Nat} {gs : List Grp} {L : List Int → Prop} (hE : Ex w6 n t v) (hN : named n t) (hG : Groups w6 ga gl gs) (hc : chk n t gs = 0) (hL : ∀ zs, LangD gs n t zs ↔ L zs) : Says w6 v ga gl gc L := by
  intro X za zl zc zs hX hZ
  refine (accepts_calls n t v ga gl gc gs za zl zc zs X (Ex.below hX _ _ _ hE) hN (hG.below hX) hZ).mono ?_
  rintro e w' ⟨b, h1, h2, h3⟩
  refine ⟨b, h1, ?_, h3⟩
  rw [h2, ← hL]
  exact ⟨fun q => q.2, fun q => ⟨hc, q⟩⟩
end Go.Proofs.YtgkplmnhmobnnaaGreatDoor

/- FilledW: the walk of RegFilled. -/
namespace Go.Proofs.YtgkplmnhmobnnaaGreatDoor
open Go.RowKit

theorem out_named (s : ByteArray) : named 200 (outTree s) := by
  unfold outTree
  cases h : outT s with
  | none => exact emptyT_named
  | some t =>
    show named 200 t
    unfold outT at h
    split at h
    · cases h
    · rename_i hs
      split at h
      · cases h
      · rename_i t' hr
        split at h
        · cases h
          unfold readT at hr
          split at hr
          · cases hr
            exact emptyT_named
          · split at hr
            · rename_i t2 ha
              cases hr
              exact (altN_named _ _ _ _ ha (by rw [bts_length]; omega)).1 200
            · cases hr
        · cases h
/-- What may be asked of the tree v with these groups behind w. -/
structure Asked (w : World) (v : Value) (ga : Option Addr) (gl gc : Nat) (gs : List Grp) (n : Nat) (t : DataW Unit) : Prop where
  chk : ∀ X, Below w.heap.size w X → Calls Tryz.prog 105 #[v, .slice ga gl gc] X fun e w' => e = .returned (.int .i64 (chk n t gs)) ∧ Below X.heap.size X w'
  fill : Go.Proofs.YtgkplmnhmobnnaaGreatDoor.chk n t gs = 0 → ∀ (X : World) (za : Option Addr) (zl zc : Nat) (zs : List Int), Below w.heap.size w X → Ints X za zl zs → Calls Tryz.prog 87 #[v, .slice ga gl gc, .slice za zl zc] X fun e w' => Filled gs n t zs X w' e
  begins : Go.Proofs.YtgkplmnhmobnnaaGreatDoor.chk n t gs = 0 → ∀ (X : World) (za : Option Addr) (zl zc : Nat) (zs : List Int), Below w.heap.size w X → Ints X za zl zs → Calls Tryz.prog 122 #[v, .slice ga gl gc, .slice za zl zc] X fun e w' => ∃ i : Nat, e = .returned (.int .i64 (i : Int)) ∧ LongD gs n t zs i ∧ Below X.heap.size X w'
  says : Go.Proofs.YtgkplmnhmobnnaaGreatDoor.chk n t gs = 0 → Says w v ga gl gc (LangD gs n t)
theorem asked_of {w : World} {v : Value} {ga : Option Addr} {gl gc : Nat} {gs : List Grp} {n : Nat} {t : DataW Unit} (hX : Ex w n t v) (hN : named n t) (hG : Groups w ga gl gs) (hT : Tab w) (hw0 : 0 < w.heap.size) : Asked w v ga gl gc gs n t :=
  ⟨fun X hB => rcheck_calls n t v ga gl gc gs X (Ex.below hB _ _ _ hX) hN (hG.below hB),
   fun hc X za zl zc zs hB hZ => fill_calls n t v ga gl gc gs za zl zc zs X (Ex.below hB _ _ _ hX) hN (hG.below hB) hZ hc (hT.below hB hw0) (Nat.lt_of_lt_of_le hw0 hB.size),
   fun hc X za zl zc zs hB hZ => begins_calls n t v ga gl gc gs za zl zc zs X (Ex.below hB _ _ _ hX) hN (hG.below hB) hZ hc,
   fun hc => says_of hX hN hG hc (fun _ => Iff.rfl)⟩
/-- What Fill says, in short. -/
def FilledS (PD : List Int → Prop) (LA : List Int → Prop) (zs : List Int) (w w' : World) (e : Ending) : Prop :=
  Below w.heap.size w w' ∧ ((¬ PD zs ∧ e = .returned (.tuple #[.slice none 0 0, .bool false])) ∨ (PD zs ∧ ∃ (a : Option Addr) (c : Nat) (xs : List Int), e = .returned (.tuple #[.slice a xs.length c, .bool true]) ∧ Ints w' a xs.length xs ∧ (a = none → c = 0) ∧ xs.length ≤ 300 ∧ LA (zs ++ xs) ∧ (xs.length = 0 ↔ LA zs)))
theorem filled_short {gs : List Grp} {n : Nat} {t : DataW Unit} {zs : List Int} {w w' : World} {e : Ending} (hc : chk n t gs = 0) (h : Filled gs n t zs w w' e) : FilledS (PreD gs n t) (LangD gs n t) zs w w' e := by
  refine ⟨h.1, ?_⟩
  rcases h.2 with h2 | ⟨hp, a, c, xs, m, h1, h2, h3, h4, h5, h6, h7, h8⟩
  · exact .inl h2
  · refine .inr ⟨hp, a, c, xs, h1, h2, filled_none h3 rfl, by omega, h8, ?_⟩
    rw [h4, min_zero (plan_sound hc).1.wf (afterS_shut (startS_shut _ _) _) h6, after_lang hc]
end Go.Proofs.YtgkplmnhmobnnaaGreatDoor
