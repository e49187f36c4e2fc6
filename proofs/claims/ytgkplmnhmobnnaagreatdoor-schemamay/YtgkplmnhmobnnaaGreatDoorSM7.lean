/-
  PROVED HERE: what the texts LaidE, ParseD, Auto, Grp, Typ say (each has its own words below).
-/
import Derived.Test.YtgkplmnhmobnnaaGreatDoorCards
import Derived.Test.YtgkplmnhmobnnaaGreatDoorTie
import Derived.Test.YtgkplmnhmobnnaaGreatDoorSMParseC
import Derived.WalkKit
import Derived.ProofKit
import Derived.OpenShut
import Derived.Deep.DeepHandedRow
import Derived.LaidLaws
import Derived.LaidHandle
import Derived.ChangeMaps5
import Derived.DataShut
import Derived.ChangeSame
import Derived.ChangeArms
import Derived.Test.YtgkplmnhmobnnaaGreatDoorSMPRight
import Derived.Laws.BitsAllLaws
/- LaidE: what the row's list says of the package variable that errors.As reads; a world that meets it. -/
namespace Go.Proofs.YtgkplmnhmobnnaaGreatDoor
open Go.ChangeShapes Go.WideShapes Go.ChangeAt Go.RowKit

theorem q_et : Tryz.prog.globalNamed "errors.errorType" = some 1 := by kernel_rfl
theorem q_rt : (Tryz.prog.cutTypes.find? (·.1 == "internal/reflectlite.rtype")).map (·.2) = some 226 := by kernel_rfl
theorem q_oneRow : ((List.range 269).filter fun t => Tryz.prog.rowNamed t [101, 114, 114, 111, 114]) = [189] := by kernel_rfl
theorem q_size : Tryz.prog.types.size = 269 := by kernel_rfl
def listedE : List (String × DataW Unit) := [("errors.errorType", Rows.laid_errors_errorType)]
/-- What the condition gives a walk: the variable's one cell. -/
theorem ety_of_laidE {W : World} (h : laidMetH Tryz.prog listedE W) : ETy W := by
  have h' : laidMet Tryz.prog [] W ∧ handlesMet Tryz.prog listedE W := h
  obtain ⟨name, u, ty, e1, e2, e3, e4, e5⟩ := h'.2 _ (List.mem_singleton.2 rfl)
  have en : name = [101, 114, 114, 111, 114] := (Option.some.inj e1).symm
  subst en
  obtain rfl := Option.some.inj (q_rt.symm.trans e2)
  have hm : ty ∈ (List.range 269).filter fun t => Tryz.prog.rowNamed t [101, 114, 114, 111, 114] := List.mem_filter.2 ⟨List.mem_range.2 (by rw [← q_size]; exact e3), e4⟩
  rw [q_oneRow] at hm
  obtain rfl := List.mem_singleton.1 hm
  have hh : typeHandle Tryz.prog 189 = .pointer (some ⟨3, 189, none⟩) := by kernel_rfl
  rw [hh] at e5
  unfold ETy
  simpa using World.var?_cell q_et e5 0
/-- A world that meets the condition: the settled one, the variable's cell laid. -/
noncomputable def laidWorldE (os : Os) : World :=
  let w0 := World.holding Tryz.prog os ⟨#[], #[], []⟩
  { w0 with heap := w0.heap.modify 1 fun
      | .cells _ t frozen => .cells #[.iface 226 (.agg #[.pointer (some ⟨3, 189, none⟩)])] t frozen
      | o => o }
theorem laid_metE (os : Os) (args : Array Value) : laidMetH Tryz.prog listedE ((laidWorldE os).forCall (fun _ _ => 0) ⟨#[], args, []⟩).memory :=
  laidMetH_of_parts (laidMet_nil _ _) (by kernel_rfl)
end Go.Proofs.YtgkplmnhmobnnaaGreatDoor

/- ParseD: expr.Parse at every text: the tree that it answers lies in memory of its own. -/
namespace Go.Proofs.YtgkplmnhmobnnaaGreatDoor
open Go.RowKit

set_option maxRecDepth 100000 in
set_option maxHeartbeats 4000000 in
theorem parsea_calls (s : ByteArray) (hs : s.size ≤ 9223372036854775807) (w : World) (hg : ETy w) :
    Calls Tryz.prog 112 #[.string s] w fun e w' => Below w.heap.size w w' ∧ ∃ r, ExA (fun b => w.heap.size ≤ b) w' 200 (outTree s) (rawV r) ∧ e = .returned (.tuple #[rawV r, .int .i64 (outN s : Int), .int .i64 (outE s)]) := by
  have HR : Hid (∀ W, Calls Tryz.prog 142 #[.string s] W fun e w' => Below W.heap.size W w' ∧ Rdd W.heap.size s e w') := fun W => read_calls s hs W
  have HT : Hid (∀ W, Below w.heap.size w W → Calls Tryz.prog 143 #[refV (outN s) (outE s)] W fun e w' => e = .returned (.tuple #[.int .i64 (outN s : Int), .int .i64 (outE s)]) ∧ Below W.heap.size W w') := fun W hW => told_calls (outN s) (outE s) W (hg.below hW)
  clear hg hs
  go_enter Tryz.func112, Tryz.ntmps112
  go_wp2_with fail
  refine (HR.out _).mono ?_
  rintro e1 W1 ⟨hB1, hE⟩
  have hz1 : W1.heap[w.heap.size]? = some (.cells #[.int .i64 0, .string ⟨#[]⟩, .slice none 0 0] 64 (0, 0)) := (hB1.block _ (by simp)).trans (heap_alloc_new w _)
  have hB : Below w.heap.size w W1 := ((Below.refl _ w).alloc (Nat.le_refl _) _).trans (hB1.mono (by simp))
  have hs1 : w.heap.size < W1.heap.size := by have := hB1.size; simp only [World.size_alloc] at this; omega
  clear HR
  rcases hE with ⟨t, r, o1, o2, o3, hX, rfl⟩ | ⟨o1, o2, rfl⟩
  · obtain ⟨k, nm, a, ln, cp⟩ := r
    unfold rawV at hX ⊢
    simp only at hX ⊢
    have HO : Hid (outT s = some t ∧ outE s = 0 ∧ outN s = s.size) := ⟨o1, o2, o3⟩
    have HZ : Hid (∀ o, (W1.alloc o).heap[w.heap.size]? = some (.cells #[.int .i64 0, .string ⟨#[]⟩, .slice none 0 0] 64 (0, 0))) := fun o => (Below.heap_alloc W1 o _ hs1).trans hz1
    have HF : Hid (∀ o cs, Below w.heap.size w ((W1.alloc o).setRow w.heap.size cs)) := fun o cs => below_setRow (hB.alloc (by omega) o) (Nat.le_refl _) cs
    have HX : Hid (∀ o cs, ExA (fun b => w.heap.size ≤ b) ((W1.alloc o).setRow w.heap.size cs) 200 t (.agg #[.int .i64 k, .string nm, .slice a ln cp])) := fun o cs => ExA.kept (by rw [size_setRow]; simp) (fun b hb hA => by simp only [World.size_alloc] at hA; exact ⟨by omega, (setRow_other _ _ _ _ (by omega)).trans (Below.heap_alloc W1 o b hb)⟩) _ _ _ hX
    clear hX hz1 hB hB1 hs1 o1 o2 o3 HT
    go_wp2_with (refine wpList_store_row rfl 64 _ _ rfl w.heap.size #[.int .i64 k, .string nm, .slice a ln cp] rfl rfl 64 _ (HZ.out _) sizeExpr rfl (ones3 _ _ _ _ _) ?_)
    refine bodyPost_ret (results_row_tmp2 rfl _ _ w.heap.size 64 #[.int .i64 k, .string nm, .slice a ln cp] (0, 0) _ rfl (setRow_heap _ _ _ _ _ _ (HZ.out _)) Tryz.underlying64 rfl sizeExpr) rfl ?_
    refine ⟨HF.out _ _, (k, nm, a, ln, cp), ?_, ?_⟩
    · unfold outTree
      rw [HO.out.1]
      exact HX.out _ _
    · rw [HO.out.2.1, HO.out.2.2]
      rfl
  · have HO : Hid (outT s = none) := o1
    have HZ : Hid ((W1.alloc (.cells #[.int .i64 0, .string ⟨#[]⟩, .slice none 0 0] 64)).heap[w.heap.size]? = some (.cells #[.int .i64 0, .string ⟨#[]⟩, .slice none 0 0] 64 (0, 0))) := (Below.heap_alloc W1 _ _ hs1).trans hz1
    have HB : Hid (Below w.heap.size w (W1.alloc (.cells #[.int .i64 0, .string ⟨#[]⟩, .slice none 0 0] 64)) ∧ w.heap.size < (W1.alloc (.cells #[.int .i64 0, .string ⟨#[]⟩, .slice none 0 0] 64)).heap.size) := ⟨hB.alloc (by omega) _, by simp; omega⟩
    clear hz1 hB hB1 hs1 o1
    unfold zE
    obtain ⟨N, hN⟩ : ∃ N, outN s = N := ⟨_, rfl⟩
    obtain ⟨E, hEE⟩ : ∃ E, outE s = E := ⟨_, rfl⟩
    have HN : Hid (outN s = N ∧ outE s = E) := ⟨hN, hEE⟩
    rw [hN, hEE] at HT ⊢
    clear hN hEE o2
    unfold refV at HT ⊢
    go_wp2_with fail
    refine (HT.out _ HB.out.1).mono ?_
    rintro e3 W3 ⟨rfl, hB3⟩
    have HZ3 : Hid (W3.heap[w.heap.size]? = some (.cells #[.int .i64 0, .string ⟨#[]⟩, .slice none 0 0] 64 (0, 0))) := (hB3.block _ HB.out.2).trans HZ.out
    have HF : Hid (∀ cs, Below w.heap.size w (W3.setRow w.heap.size cs)) := fun cs => below_setRow (HB.out.1.trans (hB3.mono HB.out.1.size)) (Nat.le_refl _) cs
    clear hB3 HZ HB HT
    go_wp2_with (refine wpList_store_row rfl 64 _ _ rfl w.heap.size #[.int .i64 0, .string ⟨#[]⟩, .slice none 0 0] rfl rfl 64 _ HZ3.out sizeExpr rfl (ones3 _ _ _ _ _) ?_)
    refine bodyPost_ret (results_row_tmp2 rfl _ _ w.heap.size 64 #[.int .i64 0, .string ⟨#[]⟩, .slice none 0 0] (0, 0) _ rfl (setRow_heap _ _ _ _ _ _ HZ3.out) Tryz.underlying64 rfl sizeExpr) rfl ?_
    refine ⟨HF.out _, (0, ⟨#[]⟩, none, 0, 0), ?_, by rw [HN.out.1, HN.out.2]; rfl⟩
    unfold outTree
    rw [HO.out]
    exact ExA.leaf _ _ 199 0 ⟨#[]⟩ none 0
end Go.Proofs.YtgkplmnhmobnnaaGreatDoor

/- Auto: plain facts on places, as the program lays them: what each place needs to the end, and what words lead there. -/
namespace Go.Proofs.YtgkplmnhmobnnaaGreatDoor

/-- A place: the types that it takes, as bits; where it goes on; the fewest types to the end. -/
abbrev Place : Type := Nat × List Nat × Nat
def leastAt (L : List Place) (p : Nat) : Nat :=
  match L[p]? with
  | some x => x.2.2
  | none => 0
def takes (m : Nat) (t : Int) : Bool := decide (0 ≤ t) && decide (t < 16) && m.testBit t.toNat
theorem takes_zero (t : Int) : takes 0 t = false := by unfold takes; simp
theorem leastAt_some {L : List Place} {p : Nat} {x : Place} (h : L[p]? = some x) : leastAt L p = x.2.2 := by unfold leastAt; rw [h]
theorem leastAt_congr {L L' : List Place} {p : Nat} (h : L'[p]? = L[p]?) : leastAt L' p = leastAt L p := by unfold leastAt; rw [h]
def StepAt (L : List Place) (p : Nat) (x : Place) : Prop := x.1 ≠ 0 ∧ ∃ q, x.2.1 = [q] ∧ q < p ∧ x.2.2 = leastAt L q + 1
def ForkAt (L : List Place) (p : Nat) (x : Place) : Prop := x.1 = 0 ∧ (∀ q ∈ x.2.1, q < L.length ∧ x.2.2 ≤ leastAt L q) ∧ ∃ q ∈ x.2.1, q < p ∧ x.2.2 = leastAt L q
/-- Each place but the end takes a type and goes on to one laid before, or is a fork of which one way, laid before, is the shortest. -/
def wf (L : List Place) : Prop := L[0]? = some (0, [], 0) ∧ ∀ p x, 0 < p → L[p]? = some x → StepAt L p x ∨ ForkAt L p x
theorem wf.pos {L : List Place} (h : wf L) : 0 < L.length := (List.getElem?_eq_some_iff.1 h.1).1
theorem wf_one : wf [((0, [], 0) : Place)] := ⟨rfl, fun p x hp hx => by
  have := (List.getElem?_eq_some_iff.1 hx).1
  simp at this
  omega⟩
theorem get_snoc_lt {L : List Place} {y : Place} {p : Nat} (h : p < L.length) : (L ++ [y])[p]? = L[p]? := List.getElem?_append_left h
theorem get_snoc_eq {L : List Place} {y : Place} : (L ++ [y])[L.length]? = some y := by simp
theorem wf_add {L : List Place} (h : wf L) {y : Place} (hy : (y.1 ≠ 0 ∧ ∃ q, y.2.1 = [q] ∧ q < L.length ∧ y.2.2 = leastAt L q + 1) ∨ (y.1 = 0 ∧ (∀ q ∈ y.2.1, q < L.length ∧ y.2.2 ≤ leastAt L q) ∧ ∃ q ∈ y.2.1, y.2.2 = leastAt L q)) : wf (L ++ [y]) := by
  have hl : ∀ q, q < L.length → leastAt (L ++ [y]) q = leastAt L q := fun q hq => leastAt_congr (get_snoc_lt hq)
  refine ⟨by rw [get_snoc_lt h.pos]; exact h.1, fun p x hp hx => ?_⟩
  rcases Nat.lt_or_ge p L.length with hlt | hge
  · rw [get_snoc_lt hlt] at hx
    rcases h.2 p x hp hx with ⟨h1, q, h2, h3, h4⟩ | ⟨h1, h2, q, h3, h4, h5⟩
    · exact .inl ⟨h1, q, h2, h3, by rw [hl q (by omega)]; exact h4⟩
    · refine .inr ⟨h1, fun r hr => ?_, q, h3, h4, by rw [hl q (by omega)]; exact h5⟩
      obtain ⟨g1, g2⟩ := h2 r hr
      exact ⟨by simp; omega, by rw [hl r g1]; exact g2⟩
  · have hpl : p = L.length := by
      have := (List.getElem?_eq_some_iff.1 hx).1
      simp at this
      omega
    subst hpl
    rw [get_snoc_eq] at hx
    cases hx
    rcases hy with ⟨h1, q, h2, h3, h4⟩ | ⟨h1, h2, q, h3, h4⟩
    · exact .inl ⟨h1, q, h2, h3, by rw [hl q h3]; exact h4⟩
    · refine .inr ⟨h1, fun r hr => ?_, q, h3, (h2 q h3).1, by rw [hl q (h2 q h3).1]; exact h4⟩
      obtain ⟨g1, g2⟩ := h2 r hr
      exact ⟨by simp; omega, by rw [hl r g1]; exact g2⟩
/-- One way more from a place. -/
def addNext (L : List Place) (i q : Nat) : List Place := L.modify i (fun x => (x.1, x.2.1 ++ [q], x.2.2))
theorem addNext_length (L : List Place) (i q : Nat) : (addNext L i q).length = L.length := by unfold addNext; simp
theorem addNext_ne {L : List Place} {i q p : Nat} (h : p ≠ i) : (addNext L i q)[p]? = L[p]? := by unfold addNext; rw [List.getElem?_modify]; simp [Ne.symm h]
theorem addNext_eq {L : List Place} {i q : Nat} {x : Place} (h : L[i]? = some x) : (addNext L i q)[i]? = some (x.1, x.2.1 ++ [q], x.2.2) := by unfold addNext; rw [List.getElem?_modify, h]; simp
theorem addNext_least (L : List Place) (i q p : Nat) : leastAt (addNext L i q) p = leastAt L p := by
  by_cases h : p = i
  · subst h
    cases hx : L[p]? with
    | none =>
      have : (addNext L p q)[p]? = none := by
        rw [List.getElem?_eq_none_iff] at hx ⊢
        rw [addNext_length]
        exact hx
      unfold leastAt
      rw [hx, this]
    | some x => rw [leastAt_some hx, leastAt_some (addNext_eq hx)]
  · exact leastAt_congr (addNext_ne h)
theorem wf_next {L : List Place} (h : wf L) {i q : Nat} {y : Place} (hi : 0 < i) (hy : L[i]? = some y) (hz : y.1 = 0) (hq : q < L.length) (hl : y.2.2 ≤ leastAt L q) : wf (addNext L i q) := by
  refine ⟨by rw [addNext_ne (by omega)]; exact h.1, fun p x hp hx => ?_⟩
  by_cases hpi : p = i
  · subst hpi
    rw [addNext_eq hy] at hx
    cases hx
    rcases h.2 p y hp hy with ⟨h1, _⟩ | ⟨h1, h2, r, h3, h4, h5⟩
    · exact absurd hz h1
    · refine .inr ⟨h1, fun s hs => ?_, r, List.mem_append_left _ h3, h4, by rw [addNext_least]; exact h5⟩
      rw [addNext_length, addNext_least]
      rcases List.mem_append.1 hs with hs | hs
      · exact h2 s hs
      · simp at hs
        subst hs
        exact ⟨hq, hl⟩
  · rw [addNext_ne hpi] at hx
    rcases h.2 p x hp hx with ⟨h1, r, h2, h3, h4⟩ | ⟨h1, h2, r, h3, h4, h5⟩
    · exact .inl ⟨h1, r, h2, h3, by rw [addNext_least]; exact h4⟩
    · refine .inr ⟨h1, fun s hs => ?_, r, h3, h4, by rw [addNext_least]; exact h5⟩
      rw [addNext_length, addNext_least]
      exact h2 s hs
/-- What leads from a place to the end, in at most k moves. -/
def Reads (F : List Place) : Nat → Nat → List Int → Prop
  | 0, p, w => p = 0 ∧ w = []
  | k + 1, p, w => (p = 0 ∧ w = []) ∨ ∃ x, F[p]? = some x ∧ ((x.1 = 0 ∧ ∃ q ∈ x.2.1, Reads F k q w) ∨ (x.1 ≠ 0 ∧ ∃ t v q, w = t :: v ∧ takes x.1 t = true ∧ x.2.1[0]? = some q ∧ Reads F k q v))
theorem Reads.up {F : List Place} : ∀ {k p : Nat} {w : List Int}, Reads F k p w → Reads F (k + 1) p w := by
  intro k
  induction k with
  | zero => intro p w h; exact .inl h
  | succ k ih =>
    intro p w h
    rcases h with h | ⟨x, hx, ⟨h0, q, hq, hr⟩ | ⟨h0, t, v, q, e, ht, hq, hr⟩⟩
    · exact .inl h
    · exact .inr ⟨x, hx, .inl ⟨h0, q, hq, ih hr⟩⟩
    · exact .inr ⟨x, hx, .inr ⟨h0, t, v, q, e, ht, hq, ih hr⟩⟩
theorem Reads.upto {F : List Place} {k m p : Nat} {w : List Int} (h : k ≤ m) (hr : Reads F k p w) : Reads F m p w := by
  induction h with
  | refl => exact hr
  | step _ ih => exact Reads.up ih
/-- No word to the end is shorter than the place says. -/
theorem Reads.long {F : List Place} (hF : wf F) : ∀ {k p : Nat} {w : List Int}, Reads F k p w → leastAt F p ≤ w.length := by
  have h00 : leastAt F 0 = 0 := leastAt_some hF.1
  intro k
  induction k with
  | zero => rintro p w ⟨rfl, rfl⟩; rw [h00]; exact Nat.zero_le _
  | succ k ih =>
    intro p w h
    rcases h with ⟨rfl, rfl⟩ | ⟨x, hx, ⟨h0, q, hq, hr⟩ | ⟨h0, t, v, q, rfl, ht, hq, hr⟩⟩
    · rw [h00]; exact Nat.zero_le _
    · have := ih hr
      rcases Nat.eq_zero_or_pos p with rfl | hp
      · rw [h00]; exact Nat.zero_le _
      · rcases hF.2 p x hp hx with ⟨h1, _⟩ | ⟨_, h2, _⟩
        · exact absurd h0 h1
        · rw [leastAt_some hx]
          exact Nat.le_trans (h2 q hq).2 this
    · have := ih hr
      rcases Nat.eq_zero_or_pos p with rfl | hp
      · rw [h00]; exact Nat.zero_le _
      · rcases hF.2 p x hp hx with ⟨_, r, h2, _, h4⟩ | ⟨h1, _⟩
        · rw [h2] at hq
          cases hq
          rw [leastAt_some hx, h4, List.length_cons]
          omega
        · exact absurd h1 h0
end Go.Proofs.YtgkplmnhmobnnaaGreatDoor

/- Grp: groups in memory; reg's isType, rightGroups, typesOf: what they return; nothing that lay before is turned. -/
namespace Go.Proofs.YtgkplmnhmobnnaaGreatDoor
open Go.RowKit

/-- A slice's elements are the integers zs. -/
def Ints (w : World) (a : Option Addr) (len : Nat) (zs : List Int) : Prop :=
  zs.length = len ∧ len ≤ 9223372036854775807 ∧ (len = 0 ∨ ∃ b o, a = some ⟨b, o, none⟩ ∧ b < w.heap.size ∧ ∀ i x, zs[i]? = some x → w.cell? ⟨b, o + i, none⟩ = some (.int .i64 x))
theorem Ints.below {w w' : World} {a : Option Addr} {len : Nat} {zs : List Int} (h : Ints w a len zs) (hb : Below w.heap.size w w') : Ints w' a len zs := by
  obtain ⟨h1, h2, h3⟩ := h
  refine ⟨h1, h2, ?_⟩
  rcases h3 with h3 | ⟨b, o, rfl, hlt, hc⟩
  · exact .inl h3
  · exact .inr ⟨b, o, rfl, Nat.lt_of_lt_of_le hlt hb.size, fun i x hx => (hb.cell (p := ⟨b, o + i, none⟩) hlt).trans (hc i x hx)⟩
theorem Ints.at {w : World} {a : Option Addr} {len : Nat} {zs : List Int} (h : Ints w a len zs) {i : Nat} (hi : i < len) : ∃ b o x, a = some ⟨b, o, none⟩ ∧ zs[i]? = some x ∧ ∀ W : World, Below w.heap.size w W → W.cell? ⟨b, o + i, none⟩ = some (.int .i64 x) := by
  obtain ⟨h1, _, h3⟩ := h
  rcases h3 with h3 | ⟨b, o, rfl, hlt, hc⟩
  · omega
  · have hx : zs[i]? = some (zs[i]'(by omega)) := List.getElem?_eq_getElem (by omega)
    exact ⟨b, o, _, rfl, hx, fun W hb => (hb.cell (p := ⟨b, o + i, none⟩) hlt).trans (hc i _ hx)⟩
/-- A group: its name and its types. -/
abbrev Grp : Type := ByteArray × List Int
def Groups (w : World) (a : Option Addr) (len : Nat) (gs : List Grp) : Prop :=
  gs.length = len ∧ len ≤ 9223372036854775807 ∧ (len = 0 ∨ ∃ b o, a = some ⟨b, o, none⟩ ∧ b < w.heap.size ∧ ∀ i g, gs[i]? = some g → ∃ a' len' cap',
    w.cell? ⟨b, o + i * 2, none⟩ = some (.string g.1) ∧ w.cell? ⟨b, o + i * 2 + 1, none⟩ = some (.slice a' len' cap') ∧ Ints w a' len' g.2)
theorem Groups.below {w w' : World} {a : Option Addr} {len : Nat} {gs : List Grp} (h : Groups w a len gs) (hb : Below w.heap.size w w') : Groups w' a len gs := by
  obtain ⟨h1, h2, h3⟩ := h
  refine ⟨h1, h2, ?_⟩
  rcases h3 with h3 | ⟨b, o, rfl, hlt, hc⟩
  · exact .inl h3
  · refine .inr ⟨b, o, rfl, Nat.lt_of_lt_of_le hlt hb.size, fun i g hg => ?_⟩
    obtain ⟨a', len', cap', c0, c1, c2⟩ := hc i g hg
    exact ⟨a', len', cap', (hb.cell (p := ⟨b, _, none⟩) hlt).trans c0, (hb.cell (p := ⟨b, _, none⟩) hlt).trans c1, c2.below hb⟩
theorem Groups.at {w : World} {a : Option Addr} {len : Nat} {gs : List Grp} (h : Groups w a len gs) {i : Nat} (hi : i < len) : ∃ b o g a' len' cap', a = some ⟨b, o, none⟩ ∧ gs[i]? = some g ∧ Ints w a' len' g.2 ∧ ∀ W : World, Below w.heap.size w W →
    W.cell? ⟨b, o + i * 2, none⟩ = some (.string g.1) ∧ W.cell? ⟨b, o + i * 2 + 1, none⟩ = some (.slice a' len' cap') := by
  obtain ⟨h1, _, h3⟩ := h
  rcases h3 with h3 | ⟨b, o, rfl, hlt, hc⟩
  · omega
  · have hx : gs[i]? = some (gs[i]'(by omega)) := List.getElem?_eq_getElem (by omega)
    obtain ⟨a', len', cap', c0, c1, c2⟩ := hc i _ hx
    exact ⟨b, o, _, a', len', cap', rfl, hx, c2, fun W hb => ⟨(hb.cell (p := ⟨b, _, none⟩) hlt).trans c0, (hb.cell (p := ⟨b, _, none⟩) hlt).trans c1⟩⟩
def isTy (t : Int) : Bool := decide (0 ≤ t) && decide (t < 16)
set_option maxRecDepth 100000 in
set_option maxHeartbeats 2000000 in
theorem istype_calls (t : Int) (w : World) : Calls Tryz.prog 151 #[.int .i64 t] w fun e w' => e = .returned (.bool (isTy t)) ∧ w' = w := by
  unfold isTy
  by_cases h1 : 0 ≤ t
  · go_enter Tryz.func151, Tryz.ntmps151
    go_wp2
    go_ret
    exact ⟨by first | rfl | simp [h1], rfl⟩
  · have h2 : decide (0 ≤ t) = false := by simpa using h1
    go_enter Tryz.func151, Tryz.ntmps151
    go_wp2
    go_ret
    exact ⟨by first | rfl | simp [h1], rfl⟩
def rightTs (l : List Int) : Bool := decide (l.length ≤ 16) && l.all isTy
def rightG (gs : List Grp) : Bool := decide (gs.length ≤ 16) && gs.all (fun g => rightTs g.2)
theorem allI_step {α : Type} {p : α → Bool} {ts : List α} {i : Nat} {x : α} (h : ts[i]? = some x) : (ts.take (i + 1)).all p = ((ts.take i).all p && p x) := by
  rw [List.take_add_one, h, List.all_append]
  simp
theorem allI_not {α : Type} {p : α → Bool} {ts : List α} {i : Nat} {x : α} (h : ts[i]? = some x) (hp : p x = false) : ts.all p = false := by
  cases ha : ts.all p with
  | false => rfl
  | true =>
    have := List.all_eq_true.1 ha x (List.mem_of_getElem? h)
    rw [hp] at this
    cases this
set_option maxRecDepth 100000 in
set_option maxHeartbeats 2000000 in
theorem rightgroups_calls (a : Option Addr) (len cap : Nat) (gs : List Grp) (w : World) (h : Groups w a len gs) :
    Calls Tryz.prog 132 #[.slice a len cap] w fun e w' => e = .returned (.bool (rightG gs)) ∧ Below w.heap.size w w' := by
  obtain ⟨hl, hz, _⟩ := id h
  obtain ⟨R, hR⟩ : ∃ R, rightG gs = R := ⟨_, rfl⟩
  rw [hR]
  have HR : Hid (rightG gs = R) := hR
  clear hR
  have HT : Hid (∀ t W, Calls Tryz.prog 151 #[.int .i64 t] W fun e w' => e = .returned (.bool (isTy t)) ∧ w' = W) := fun t W => istype_calls t W
  by_cases hlen : len ≤ 16
  · have hn : ¬ ((16 : Int) < (len : Int)) := by omega
    go_enter Tryz.func132, Tryz.ntmps132
    go_wp2
    go_loopw [12] (fun i w' => ∃ j : Nat, j ≤ len ∧ i = .int .i64 (j : Int) ∧ (gs.take j).all (fun g => rightTs g.2) = true ∧ Below w.heap.size w w') (fun i _ => len - (intOf i).toNat)
    case atStart => exact ⟨0, by omega, rfl, rfl, Below.refl _ _⟩
    case round =>
      obtain ⟨i, hi, rfl, hT, hB⟩ := hrel
      by_cases hlt : i < len
      · obtain ⟨b, o, g, a', len', cap', rfl, hg, hI, hc⟩ := h.at hlt
        obtain ⟨c0, c1⟩ := hc wr hB
        obtain ⟨hl2, hz2, _⟩ := id hI
        have hst : (gs.take (i + 1)).all (fun g => rightTs g.2) = rightTs g.2 := by rw [allI_step hg, hT, Bool.true_and]
        have hno : rightTs g.2 = false → R = false := fun e => by
          rw [← HR.out]
          unfold rightG
          rw [allI_not hg e, Bool.and_false]
        have HST : Hid ((gs.take (i + 1)).all (fun g => rightTs g.2) = rightTs g.2) := hst
        have HNO : Hid (rightTs g.2 = false → R = false) := hno
        obtain ⟨nm, zs⟩ := g
        simp only at hI hl2 HST HNO c0
        have HB0 : Hid (∀ o, Below w.heap.size w (wr.alloc o)) := fun o => hB.alloc hB.size o
        have hBI : Hid (∀ W, Below w.heap.size w W → ∀ i, i < len' → ∃ b o x, a' = some ⟨b, o, none⟩ ∧ zs[i]? = some x ∧ W.cell? ⟨b, o + i, none⟩ = some (.int .i64 x)) := fun W hW i hi => by
          obtain ⟨b, o, x, h1, h2, h3⟩ := hI.at hi
          exact ⟨b, o, x, h1, h2, h3 W hW⟩
        clear hc hI hst hno hg hT
        by_cases hlen2 : len' ≤ 16
        · have hn2 : ¬ ((16 : Int) < (len' : Int)) := by omega
          go_wp2
          go_loopw [23] (fun i2 w' => ∃ j : Nat, j ≤ len' ∧ i2 = .int .i64 (j : Int) ∧ (zs.take j).all isTy = true ∧ w' = (wr.alloc (.cells #[.string nm, .slice a' len' cap'] 59))) (fun i2 _ => len' - (intOf i2).toNat)
          case atStart => exact ⟨0, by omega, rfl, rfl, rfl⟩
          case round =>
            obtain ⟨j, hj, rfl, hT2, rfl⟩ := hrel
            by_cases hlt2 : j < len'
            · obtain ⟨b2, o2, x, rfl, hx, hc2⟩ := hBI.out (wr.alloc (.cells #[.string nm, .slice a' len' cap'] 59)) (HB0.out _) j hlt2
              have HS2 : Hid ((zs.take (j + 1)).all isTy = isTy x) := by show _ = _; rw [allI_step hx, hT2, Bool.true_and]
              have HN2 : Hid (isTy x = false → R = false) := fun e => HNO.out (by unfold rightTs; rw [allI_not hx e, Bool.and_false])
              have HTx := fun W => HT.out x W
              clear hx hT2
              generalize isTy x = q at *
              cases q with
              | true =>
                go_wp2_with fail
                refine (HTx _).mono ?_
                rintro e W ⟨rfl, hW⟩
                rw [hW]
                go_wp2
                go_roundw
                case rel => exact ⟨j + 1, by omega, rfl, HS2.out, by first | rfl | trivial⟩
                case measure => simp [intOf]; omega
              | false =>
                have HF : Hid (R = false) := HN2.out rfl
                clear HN2
                go_wp2_with fail
                refine (HTx _).mono ?_
                rintro e W ⟨rfl, hW⟩
                rw [hW]
                go_wp2
                go_ret
                exact ⟨by rw [HF.out]; rfl, HB0.out _⟩
            · obtain rfl : j = len' := by omega
              have HF : Hid (rightTs zs = true) := by
                show _ = _
                rw [List.take_of_length_le (Nat.le_of_eq hl2)] at hT2
                unfold rightTs
                rw [hT2, hl2]
                simpa using hlen2
              clear hT2
              go_wp2
              go_roundw
              case rel => exact ⟨i + 1, by omega, rfl, by rw [HST.out, HF.out], HB0.out _⟩
              case measure => simp [intOf]; omega
        · have hn2 : (16 : Int) < (len' : Int) := by omega
          have HF : Hid (R = false) := HNO.out (by unfold rightTs; rw [hl2]; simp; omega)
          go_wp2
          go_ret
          exact ⟨by rw [HF.out]; rfl, HB0.out _⟩
      · obtain rfl : i = len := by omega
        have HF : Hid (R = true) := by
          show _ = _
          rw [← HR.out]
          rw [List.take_of_length_le (Nat.le_of_eq hl)] at hT
          unfold rightG
          rw [hT, hl]
          simpa using hlen
        clear hT h
        go_wp2
        go_ret
        exact ⟨by rw [HF.out]; rfl, hB⟩
  · have hn : (16 : Int) < (len : Int) := by omega
    have HF : Hid (R = false) := by
      show _ = _
      rw [← HR.out]
      unfold rightG
      rw [hl]
      simp
      omega
    clear h
    go_enter Tryz.func132, Tryz.ntmps132
    go_wp2
    go_ret
    exact ⟨by rw [HF.out]; rfl, Below.refl _ _⟩
end Go.Proofs.YtgkplmnhmobnnaaGreatDoor

/- Typ: reg's typesOf: what it returns; nothing that lay before is turned. -/
namespace Go.Proofs.YtgkplmnhmobnnaaGreatDoor
open Go.RowKit

/-- Types as bits. -/
def maskOf (l : List Int) : Nat := l.foldl (fun m t => m ||| 2 ^ t.toNat) 0
theorem maskOf_snoc (l : List Int) (t : Int) : maskOf (l ++ [t]) = maskOf l ||| 2 ^ t.toNat := by unfold maskOf; rw [List.foldl_append]; rfl
theorem pow_lt (t : Int) (h : t < 16) : 2 ^ t.toNat < 65536 := by
  have : t.toNat < 16 := by omega
  exact Nat.pow_lt_pow_right (by decide) this
theorem wrap_pow (t : Int) (h : t < 16) : IntKind.u16.wrap ((2 : Int) ^ t.toNat) = ((2 ^ t.toNat : Nat) : Int) := by
  have h1 := pow_lt t h
  rw [show ((2 : Int) ^ t.toNat) = ((2 ^ t.toNat : Nat) : Int) from by simp]
  generalize 2 ^ t.toNat = m at *
  show ((m : Int) % 65536) = _
  omega
theorem maskOf_lt (l : List Int) (h : l.all isTy = true) : maskOf l < 65536 := by
  have key : ∀ (l : List Int) (m : Nat), m < 65536 → l.all isTy = true → l.foldl (fun m t => m ||| 2 ^ t.toNat) m < 65536 := by
    intro l
    induction l with
    | nil => intro m hm _; exact hm
    | cons t r ih =>
      intro m hm hl
      rw [List.all_cons, Bool.and_eq_true] at hl
      rw [List.foldl_cons]
      refine ih _ ?_ hl.2
      have ht : t < 16 := by
        have := hl.1
        unfold isTy at this
        simp at this
        exact this.2
      exact Nat.or_lt_two_pow (n := 16) hm (pow_lt t ht)
  exact key l 0 (by decide) h
/-- The types that a name stands for. -/
def maskG : List Grp → ByteArray → Nat
  | [], _ => 0
  | g :: r, s => if (g.1.toList == s.toList) = true then maskOf g.2 else maskG r s
theorem maskG_at : ∀ (gs : List Grp) (s : ByteArray) (i : Nat) (g : Grp), gs[i]? = some g → (∀ x ∈ gs.take i, (x.1.toList == s.toList) = false) → (g.1.toList == s.toList) = true → maskG gs s = maskOf g.2 := by
  intro gs
  induction gs with
  | nil => intro s i g h; simp at h
  | cons y r ih =>
    intro s i g h hn he
    rw [maskG]
    cases i with
    | zero =>
      obtain rfl : y = g := by simpa using h
      rw [if_pos he]
    | succ i =>
      have hy := hn y (by simp)
      rw [if_neg (by rw [hy]; simp)]
      exact ih s i g (by simpa using h) (fun x hx => hn x (by simp; exact .inr hx)) he
theorem maskG_none (s : ByteArray) : ∀ (gs : List Grp), (∀ x ∈ gs, (x.1.toList == s.toList) = false) → maskG gs s = 0 := by
  intro gs
  induction gs with
  | nil => intro _; rfl
  | cons y r ih =>
    intro h
    rw [maskG, if_neg (by rw [h y (List.mem_cons_self ..)]; simp)]
    exact ih (fun x hx => h x (List.mem_cons_of_mem _ hx))
theorem maskG_lt (gs : List Grp) (hr : rightG gs = true) (s : ByteArray) : maskG gs s < 65536 := by
  unfold rightG at hr
  rw [Bool.and_eq_true] at hr
  have h := hr.2
  clear hr
  induction gs with
  | nil => show 0 < 65536; decide
  | cons y r ih =>
    rw [List.all_cons, Bool.and_eq_true] at h
    rw [maskG]
    split
    · refine maskOf_lt _ ?_
      have := h.1
      unfold rightTs at this
      rw [Bool.and_eq_true] at this
      exact this.2
    · exact ih h.2
set_option maxRecDepth 100000 in
set_option maxHeartbeats 2000000 in
theorem typesof_calls (s : ByteArray) (a : Option Addr) (len cap : Nat) (gs : List Grp) (w : World) (h : Groups w a len gs) (hr : rightG gs = true) :
    Calls Tryz.prog 135 #[.string s, .slice a len cap] w fun e w' => e = .returned (.int .u16 (maskG gs s : Int)) ∧ Below w.heap.size w w' := by
  obtain ⟨hl, hz, _⟩ := id h
  obtain ⟨R, hR⟩ : ∃ R, maskG gs s = R := ⟨_, rfl⟩
  rw [hR]
  have HR : Hid (maskG gs s = R) := hR
  clear hR
  have hlen : len ≤ 16 := by
    unfold rightG at hr
    rw [Bool.and_eq_true, hl] at hr
    exact of_decide_eq_true hr.1
  have hgr : ∀ g ∈ gs, rightTs g.2 = true := by
    unfold rightG at hr
    rw [Bool.and_eq_true] at hr
    exact List.all_eq_true.1 hr.2
  clear hr
  go_enter Tryz.func135, Tryz.ntmps135
  go_wp2
  go_loopw [12] (fun i w' => ∃ j : Nat, j ≤ len ∧ i = .int .i64 (j : Int) ∧ (∀ x ∈ gs.take j, (x.1.toList == s.toList) = false) ∧ Below w.heap.size w w') (fun i _ => len - (intOf i).toNat)
  case atStart => exact ⟨0, by omega, rfl, by simp, Below.refl _ _⟩
  case round =>
    obtain ⟨i, hi, rfl, hT, hB⟩ := hrel
    by_cases hlt : i < len
    · obtain ⟨b, o, g, a', len', cap', rfl, hg, hI, hc⟩ := h.at hlt
      obtain ⟨c0, c1⟩ := hc wr hB
      obtain ⟨hl2, hz2, _⟩ := id hI
      have hrt := hgr g (List.mem_of_getElem? hg)
      obtain ⟨nm, zs⟩ := g
      simp only at hI hl2 c0 hrt
      have HB0 : Hid (∀ o, Below w.heap.size w (wr.alloc o)) := fun o => hB.alloc hB.size o
      cases he : (nm.toList == s.toList) with
      | false =>
        have HN : Hid (∀ x ∈ gs.take (i + 1), (x.1.toList == s.toList) = false) := by
          intro x hx
          rw [List.take_add_one, hg] at hx
          rcases List.mem_append.1 hx with hx | hx
          · exact hT x hx
          · simp at hx
            rw [hx]
            exact he
        clear hc hI hg hT hgr h hrt
        go_wp2
        go_roundw
        case rel => exact ⟨i + 1, by omega, rfl, HN.out, HB0.out _⟩
        case measure => simp [intOf]; omega
      | true =>
        have HM : Hid (R = maskOf zs) := by
          show _ = _
          rw [← HR.out]
          exact maskG_at gs s i (nm, zs) hg hT he
        have hlen2 : len' ≤ 16 ∧ zs.all isTy = true := by
          unfold rightTs at hrt
          rw [Bool.and_eq_true, hl2] at hrt
          exact ⟨of_decide_eq_true hrt.1, hrt.2⟩
        have hty : Hid (∀ (i : Nat) (x : Int), zs[i]? = some x → 0 ≤ x ∧ x < 16) := fun i x hx => by
          have := List.all_eq_true.1 hlen2.2 x (List.mem_of_getElem? hx)
          unfold isTy at this
          simpa using this
        have hml : Hid (∀ j, maskOf (zs.take j) < 65536) := fun j => maskOf_lt _ (by
          rw [List.all_eq_true]
          intro x hx
          exact List.all_eq_true.1 hlen2.2 x (List.mem_of_mem_take hx))
        have hlen3 := hlen2.1
        have hBI : Hid (∀ W, Below w.heap.size w W → ∀ i : Nat, i < len' → ∃ b o x, a' = some ⟨b, o, none⟩ ∧ zs[i]? = some x ∧ W.cell? ⟨b, o + i, none⟩ = some (.int .i64 x)) := fun W hW i hi => by
          obtain ⟨b, o, x, h1, h2, h3⟩ := hI.at hi
          exact ⟨b, o, x, h1, h2, h3 W hW⟩
        clear hc hI hg hT hgr h hrt hlen2
        go_wp2
        go_loopw [7, 23] (fun m i2 w' => ∃ j : Nat, j ≤ len' ∧ i2 = .int .i64 (j : Int) ∧ m = .int .u16 (maskOf (zs.take j) : Int) ∧ w' = (wr.alloc (.cells #[.string nm, .slice a' len' cap'] 59))) (fun _ i2 _ => len' - (intOf i2).toNat)
        case atStart => exact ⟨0, by omega, rfl, rfl, rfl⟩
        case round =>
          obtain ⟨j, hj, rfl, rfl, rfl⟩ := hrel
          have hm := hml.out j
          by_cases hlt2 : j < len'
          · obtain ⟨b2, o2, x, rfl, hx, hc2⟩ := hBI.out (wr.alloc (.cells #[.string nm, .slice a' len' cap'] 59)) (HB0.out _) j hlt2
            obtain ⟨x0, x1⟩ := hty.out j x hx
            have HS2 : Hid (maskOf (zs.take (j + 1)) = maskOf (zs.take j) ||| 2 ^ x.toNat) := by show _ = _; rw [List.take_add_one, hx]; exact maskOf_snoc _ _
            have hor := u16_or_nat (maskOf (zs.take j)) (2 ^ x.toNat) hm (pow_lt x x1)
            clear hx
            generalize maskOf (zs.take j) = m at *
            go_wp2
            go_roundw
            case rel => exact ⟨j + 1, by omega, rfl, by rw [wrap_pow x x1, hor, HS2.out], by first | rfl | trivial⟩
            case measure => simp [intOf]; omega
          · obtain rfl : j = len' := by omega
            rw [List.take_of_length_le (Nat.le_of_eq hl2), ← HM.out]
            go_wp2
            go_ret
            exact ⟨rfl, HB0.out _⟩
    · obtain rfl : i = len := by omega
      have HF : Hid (R = 0) := by
        show _ = _
        rw [← HR.out]
        rw [List.take_of_length_le (Nat.le_of_eq hl)] at hT
        exact maskG_none s gs hT
      clear hT h hgr
      go_wp2
      go_ret
      exact ⟨by rw [HF.out]; rfl, hB⟩
end Go.Proofs.YtgkplmnhmobnnaaGreatDoor
