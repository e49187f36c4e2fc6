/-
  PROVED HERE: sets of places in memory; reg's reach, and the search that it hands back: what they return and leave; nothing else is turned.
-/
import Derived.Test.YtajabenlkmgjeaaDoorLayAll
import Derived.Test.YtajabenlkmgjeaaDoorSets0
import Derived.Maps.RangeWalk
import Derived.Laws.EntriesVeiled
namespace Go.Proofs.YtajabenlkmgjeaaDoor
open Go.RowKit Go.Maps

theorem lawI : Keyed Tryd.prog 3 := int_keyed Tryd.underlying3
theorem zeroU (w : World) : (zeroValue 87).run Tryd.prog w = .ok (.agg #[]) w := by kernel_rfl
theorem wfN {p : Nat} (h : p < 9223372036854775808) : (Lit.int .i64 (p : Int)).wf = true := WalkArith.wf_i64 (by omega)
/-- A map is the set S of places below N. -/
def SetAt (w : World) (b N : Nat) (S : Nat → Bool) : Prop := ∃ D : DataW Unit, w.ownsMap Tryd.prog 3 unitElem b N D ∧ (∀ p, S p = true → p < N) ∧ ∀ kl, Maps.has D kl = true ↔ ∃ p : Nat, kl = .int .i64 (p : Int) ∧ S p = true
theorem has_iff {D : DataW Unit} {S : Nat → Bool} (h : ∀ kl, Maps.has D kl = true ↔ ∃ p : Nat, kl = .int .i64 (p : Int) ∧ S p = true) (p : Nat) : Maps.has D (.int .i64 (p : Int)) = S p := by
  rw [Bool.eq_iff_iff, h]
  constructor
  · rintro ⟨q, e, hq⟩
    have : (p : Int) = (q : Int) := by injection e
    rw [show p = q from by omega]
    exact hq
  · intro hp
    exact ⟨p, rfl, hp⟩
theorem size_bound {D : DataW Unit} (hD : Tidy D) {N : Nat} (h : ∀ kl, Maps.has D kl = true → ∃ p : Nat, kl = .int .i64 (p : Int) ∧ p < N) (hk : ∀ es, D = .map es → ∀ e ∈ es, WideAt.IsKeyLit e.1) : Maps.size D ≤ N := by
  obtain ⟨es, rfl, hp⟩ := hD
  show es.length ≤ N
  have hex : ∀ e ∈ es, ∃ p : Nat, e.1 = .int .i64 (p : Int) ∧ p < N := fun e he => h e.1 (List.any_eq_true.2 ⟨e, he, WideAt.sameKey_self (hk es rfl e he)⟩)
  clear h hk
  induction N generalizing es with
  | zero =>
    cases es with
    | nil => exact Nat.le_refl _
    | cons e r => obtain ⟨p, _, hp⟩ := hex e (List.mem_cons_self ..); omega
  | succ N ih =>
    have hsplit : (es.filter (fun e => !(e.1.sameKey (.int .i64 (N : Int))))).length + 1 ≥ es.length := by
      have := Maps.length_strike (k := .int .i64 (N : Int)) es hp
      split at this <;> omega
    have := ih (es.filter (fun e => !(e.1.sameKey (.int .i64 (N : Int))))) (hp.filter _) (fun e he => by
      rw [List.mem_filter] at he
      obtain ⟨p, e1, hp⟩ := hex e he.1
      refine ⟨p, e1, ?_⟩
      rcases Nat.lt_or_ge p N with hlt | hge
      · exact hlt
      · exfalso
        obtain rfl : p = N := by omega
        have h2 := he.2
        rw [e1, WideAt.sameKey_self (by trivial)] at h2
        cases h2)
    omega
theorem owns_size {w : World} {b n : Nat} {D : DataW Unit} (h : w.ownsMap Tryd.prog 3 unitElem b n D) {N : Nat} (hN : Maps.size D ≤ N) : w.ownsMap Tryd.prog 3 unitElem b N D := by
  obtain ⟨es, clock, hb, F, hs, rfl⟩ := h
  refine ⟨es, clock, hb, F, ?_, rfl⟩
  simpa [Maps.size, length_sorted] using hN
theorem set_of {w : World} {b n N : Nat} {D : DataW Unit} {S : Nat → Bool} (h : w.ownsMap Tryd.prog 3 unitElem b n D) (hS : ∀ p, S p = true → p < N) (hD : ∀ kl, Maps.has D kl = true ↔ ∃ p : Nat, kl = .int .i64 (p : Int) ∧ S p = true) : SetAt w b N S := by
  refine ⟨D, owns_size h (size_bound (h.tidy lawI) (fun kl hk => ?_) (fun es e x hx => ?_)), hS, hD⟩
  · obtain ⟨p, e, hp⟩ := (hD kl).1 hk
    exact ⟨p, e, hS p hp⟩
  · obtain ⟨es', e', _, hk⟩ := h.entries lawI
    rw [e] at e'
    cases e'
    exact hk x hx
theorem SetAt.kept {w w' : World} {row : Option Nat} {b N : Nat} {S : Nat → Bool} (h : SetAt w b N S) (hg : w.grownBy w' row) (hne : some b ≠ row) : SetAt w' b N S := by
  obtain ⟨D, h1, h2⟩ := h
  exact ⟨D, h1.kept hg hne, h2⟩
theorem SetAt.lt {w : World} {b N : Nat} {S : Nat → Bool} (h : SetAt w b N S) : b < w.heap.size := by
  obtain ⟨D, h1, _⟩ := h
  exact h1.lt
theorem SetAt.notCells {w : World} {b N : Nat} {S : Nat → Bool} (h : SetAt w b N S) {c : Array Value} {t : TypeId} {fz : Nat × Nat} : w.heap[b]? ≠ some (.cells c t fz) := by
  obtain ⟨D, ⟨es, clock, hb, _⟩, _⟩ := h
  rw [hb]
  intro e
  cases e
theorem SetAt.others {w w' : World} {b N : Nat} {S : Nat → Bool} (h : SetAt w b N S) (hg : w.grownBy w' (some b)) : ∀ (k : Nat) (c : Array Value) (t : TypeId), w.heap[k]? = some (.cells c t (0, 0)) → w'.heap[k]? = w.heap[k]? := fun k c t hk =>
  hg.block k (Array.getElem?_eq_some_iff.1 hk).1 (fun e => by cases e; exact h.notCells hk)
/-- Places that lie where a slice says. -/
def Places (w : World) (lv : Value) (F : List Place) : Prop := ∃ rs : List RawP, w.ownsRow 0 59 3 lv F.length (rowP rs) ∧ ∀ (i : Nat) (x : Place), F[i]? = some x → ∃ r, rs[i]? = some r ∧ r.1 = x.1 ∧ r.2.2 = x.2.2 ∧ w.ownsRow 0 3 1 r.2.1 x.2.1.length (numsV x.2.1)
theorem Places.others {w w' : World} {lv : Value} {F : List Place} (h : Places w lv F) (hs : ∀ (b : Nat) (c : Array Value) (t : TypeId), w.heap[b]? = some (.cells c t (0, 0)) → w'.heap[b]? = w.heap[b]?) : Places w' lv F := by
  obtain ⟨rs, h1, h2⟩ := h
  refine ⟨rs, owns_same h1 fun g hg => ?_, fun i x hx => ?_⟩
  · obtain ⟨_, c, hc⟩ := owns_lt h1 hg
    exact hs g _ _ hc
  · obtain ⟨r, r1, r2, r3, r4⟩ := h2 i x hx
    exact ⟨r, r1, r2, r3, owns_same r4 fun g hg => by
      obtain ⟨_, c, hc⟩ := owns_lt r4 hg
      exact hs g _ _ hc⟩
theorem PlanIn.places {A : Nat → Prop} {w : World} {B : Nat} {gv : Value} {L : List Place} (h : PlanIn A w B gv L) : ∃ lv, w.heap[B]? = some (.cells #[gv, lv] 84 (0, 0)) ∧ Places w lv L := by
  obtain ⟨v, rs, h⟩ := h
  refine ⟨v, h.plan, rs, h.row, fun i x hx => ?_⟩
  obtain ⟨r, h1, h2, h3, h4, _⟩ := h.each i x hx
  exact ⟨r, h1, h2, h3, h4⟩
theorem Places.slice {w : World} {lv : Value} {F : List Place} (h : Places w lv F) (h0 : 0 < F.length) : ∃ g cap, lv = .slice (some ⟨g, 0, none⟩) F.length cap ∧ ∀ (i : Nat) (x : Place), F[i]? = some x →
    w.cell? ⟨g, i * 3, none⟩ = some (.int .u16 (x.1 : Int)) ∧ w.cell? ⟨g, i * 3 + 2, none⟩ = some (.int .i64 (x.2.2 : Int)) ∧ ∃ a n c, w.cell? ⟨g, i * 3 + 1, none⟩ = some (.slice a n c) ∧ w.ownsRow 0 3 1 (.slice a n c) x.2.1.length (numsV x.2.1) := by
  obtain ⟨rs, h1, h2⟩ := h
  obtain ⟨g, cap, e, hc⟩ := owns_cell h1 h0
  refine ⟨g, cap, e, fun i x hx => ?_⟩
  obtain ⟨r, r1, r2, r3, r4⟩ := h2 i x hx
  obtain ⟨f0, f1, f2⟩ := rowP_at rs i r r1
  rw [r2] at f0
  rw [r3] at f2
  have hv : ∃ a n c, r.2.1 = .slice a n c := by
    rcases r4.2 with ⟨e, _⟩ | ⟨g', c', _, e, _⟩
    · exact ⟨_, _, _, e⟩
    · exact ⟨_, _, _, e⟩
  obtain ⟨a, n, c, e2⟩ := hv
  rw [e2] at f1 r4
  exact ⟨hc _ _ f0, hc _ _ f2, a, n, c, hc _ _ f1, r4⟩
/-- The three boxes of the search. -/
def Clo (w : World) (bs B1 B2 B3 : Nat) (lv : Value) : Prop := Boxed w B1 69 lv ∧ Boxed w B2 71 (.map (some bs)) ∧ Boxed w B3 76 (.func (.func 62) #[] #[.pointer (some ⟨B2, 0, none⟩), .pointer (some ⟨B1, 0, none⟩), .pointer (some ⟨B3, 0, none⟩)])
theorem Clo.others {w w' : World} {bs B1 B2 B3 : Nat} {lv : Value} (h : Clo w bs B1 B2 B3 lv) (hs : ∀ (b : Nat) (c : Array Value) (t : TypeId), w.heap[b]? = some (.cells c t (0, 0)) → w'.heap[b]? = w.heap[b]?) : Clo w' bs B1 B2 B3 lv :=
  ⟨(hs _ _ _ h.1).trans h.1, (hs _ _ _ h.2.1).trans h.2.1, (hs _ _ _ h.2.2).trans h.2.2⟩
set_option maxRecDepth 100000 in
set_option maxHeartbeats 1000000 in
theorem reach_calls (w : World) (a : Option Addr) (n c bs : Nat) :
    Calls Tryd.prog 47 #[.slice a n c, .map (some bs)] w fun e w' => e = .returned (.func (.func 62) #[] #[.pointer (some ⟨w.heap.size + 1, 0, none⟩), .pointer (some ⟨w.heap.size, 0, none⟩), .pointer (some ⟨w.heap.size + 1 + 1, 0, none⟩)]) ∧ Clo w' bs w.heap.size (w.heap.size + 1) (w.heap.size + 1 + 1) (.slice a n c) ∧ w.grownBy w' none := by
  have hmf : ∀ (fn : Fn) (first cap : Array Value) (w : World), (Instr.makeFunc fn first cap).run Tryd.prog w = .ok (.func fn first cap) w := fun _ _ _ _ => rfl
  obtain ⟨v, hv⟩ : ∃ v, v = Value.func (.func 62) #[] #[.pointer (some ⟨w.heap.size + 1, 0, none⟩), .pointer (some ⟨w.heap.size, 0, none⟩), .pointer (some ⟨w.heap.size + 1 + 1, 0, none⟩)] := ⟨_, rfl⟩
  have HE : Hid (Clo (((w.alloc (.cells #[.slice a n c] 69)).alloc (.cells #[.map (some bs)] 71)).alloc (.cells #[v] 76)) bs w.heap.size (w.heap.size + 1) (w.heap.size + 1 + 1) (.slice a n c) ∧ w.grownBy (((w.alloc (.cells #[.slice a n c] 69)).alloc (.cells #[.map (some bs)] 71)).alloc (.cells #[v] 76)) none) := by
    have b1 : Boxed ((w.alloc (.cells #[.slice a n c] 69)).alloc (.cells #[.map (some bs)] 71)) (w.heap.size + 1) 71 (.map (some bs)) := by
      have := Boxed.new (w.alloc (.cells #[.slice a n c] 69)) 71 (.map (some bs))
      rwa [World.size_alloc] at this
    have b2 : Boxed (((w.alloc (.cells #[.slice a n c] 69)).alloc (.cells #[.map (some bs)] 71)).alloc (.cells #[v] 76)) (w.heap.size + 1 + 1) 76 v := by
      have := Boxed.new ((w.alloc (.cells #[.slice a n c] 69)).alloc (.cells #[.map (some bs)] 71)) 76 v
      rwa [World.size_alloc, World.size_alloc] at this
    refine ⟨⟨((Boxed.new w 69 (.slice a n c)).alloc (.cells #[.map (some bs)] 71)).alloc (.cells #[v] 76), b1.alloc _, ?_⟩, ((World.grownBy_alloc w _ none).trans (World.grownBy_alloc _ _ none)).trans (World.grownBy_alloc _ _ none)⟩
    rw [← hv]
    exact b2
  have HV : Hid (v = Value.func (.func 62) #[] #[.pointer (some ⟨w.heap.size + 1, 0, none⟩), .pointer (some ⟨w.heap.size, 0, none⟩), .pointer (some ⟨w.heap.size + 1 + 1, 0, none⟩)]) := hv
  clear hv
  go_enter Tryd.func47, Tryd.ntmps47
  go_wp2
  go_ret
  exact ⟨rfl, by have := HE.out; rw [HV.out] at this; exact this⟩
end Go.Proofs.YtajabenlkmgjeaaDoor
