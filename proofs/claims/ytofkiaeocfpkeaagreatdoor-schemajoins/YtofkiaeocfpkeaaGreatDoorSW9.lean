/-
  PROVED HERE: what the texts Take, Sane, Walked, Acc, Awake, Signs6, Apd, Sp, NamesA say (each has its own words below).
-/
import Derived.Test.YtofkiaeocfpkeaaGreatDoorSW8
import Derived.Maps.AppendAt
import Derived.Laws.AppendOwnNone
import Derived.Laws.Cover3
/- Take: reg's take at every walk and number: what it leaves; nothing else is turned. -/
namespace Go.Proofs.YtofkiaeocfpkeaaGreatDoor
open Go.RowKit Go.Maps

theorem key_nat {x : Int} {kl : Lit} (h : keyOf Tryz.prog 3 (.int .i64 x) = some kl) : kl = .int .i64 x ∧ (Lit.int .i64 x).wf = true := by
  obtain ⟨y, e1, e2, e3⟩ := keyOf_int_inv Tryz.underlying3 h
  cases e1
  exact ⟨e2, e3⟩
set_option maxRecDepth 100000 in
set_option maxHeartbeats 1000000 in
theorem take_calls (F : List Place) (N : Nat) (hF : Sound1 F N) (Bw bh bs : Nat) (lv : Value) (Sh : Nat → Bool) (t : Int) (w : World) (h : WalkAt w Bw lv bh bs N F Sh) :
    Calls Tryz.prog 42 #[.pointer (some ⟨Bw, 0, none⟩), .int .i64 t] w fun e w' => e = .returned (.tuple #[]) ∧ ∃ S', WalkAt w' Bw lv bs bh N F S' ∧ (∀ q, S' q = true ↔ stepS F (fun p => Sh p = true) t q) ∧ Below 0 w w' ∧ ∀ k, k < w.heap.size → k ≠ Bw → k ≠ bh → k ≠ bs → w'.heap[k]? = w.heap[k]? := by
  have hF0 : 0 < F.length := hF.wf.pos
  obtain ⟨g, cap, rfl, hcell⟩ := h.pl.slice hF0
  obtain ⟨c0, c1, c2, _, _⟩ := cells3 h.blk
  have hBlt : Bw < w.heap.size := (Array.getElem?_eq_some_iff.1 h.blk).1
  have hbhl := h.here.lt
  have hbsl := h.spare.lt
  have hBh : Bw ≠ bh := fun e => h.here.notCells (by rw [← e]; exact h.blk)
  have hBs : Bw ≠ bs := fun e => h.spare.notCells (by rw [← e]; exact h.blk)
  -- behind reach
  have HR : Hid (Calls Tryz.prog 90 #[.slice (some ⟨g, 0, none⟩) F.length cap, .map (some bs)] w.drew fun e w' => e = .returned (.func (.func 137) #[] #[.pointer (some ⟨w.heap.size + 1, 0, none⟩), .pointer (some ⟨w.heap.size, 0, none⟩), .pointer (some ⟨w.heap.size + 1 + 1, 0, none⟩)]) ∧ Clo w' bs w.heap.size (w.heap.size + 1) (w.heap.size + 1 + 1) (.slice (some ⟨g, 0, none⟩) F.length cap) ∧ w.drew.grownBy w' none) := reach_calls w.drew (some ⟨g, 0, none⟩) F.length cap bs
  -- the beginning of the loop
  have HST : Hid (∀ (W1 : World) (w0 : World) (D : DataW Unit), w.drew.grownBy W1 none → (∀ kl, Maps.has D kl = true ↔ ∃ p : Nat, kl = .int .i64 (p : Int) ∧ Sh p = true) → w0.ranges Tryz.prog 3 unitElem bh W1.heap.size N D (Maps.has D) (Maps.size D) → W1.grownBy w0 none → TakeI F N (.slice (some ⟨g, 0, none⟩) F.length cap) Sh t bh bs W1.heap.size W1 w0 (Maps.has D) (Maps.size D) D (fun _ => false)) := by
    intro W1 w0 D g1 hD hrg g0
    refine ⟨hrg, fun _ => rfl, fun kl hk => (hD kl).1 hk, ?_, fun q x hq => (by cases hq), fun q => ⟨fun e => (by cases e), ?_⟩, fun b c ty hb => g0.block b (Array.getElem?_eq_some_iff.1 hb).1 (by simp), grownBy_below g0, fun k hk _ _ => g0.block k hk (by simp)⟩
    · exact (SetAt.kept (w := w.drew) h.spare g1 (by simp)).kept g0 (by simp)
    · rintro ⟨p, x, r, k, h1, h2, _⟩
      have : Maps.has D (.int .i64 (p : Int)) = true := (hD _).2 ⟨p, rfl, h1⟩
      rw [this] at h2
      cases h2
  -- the end
  have HEND : Hid (∀ (W1 wr : World) (left : Lit → Bool) (cnt : Nat) (D1 : DataW Unit) (S1 : Nat → Bool), w.drew.grownBy W1 none → TakeI F N (.slice (some ⟨g, 0, none⟩) F.length cap) Sh t bh bs W1.heap.size W1 wr left cnt D1 S1 → (∀ kl, left kl = false) →
      (wr.cell? ⟨Bw, 1, none⟩ = some (.map (some bh)) ∧ wr.cell? ⟨Bw, 2, none⟩ = some (.map (some bs)) ∧ wr.frozen? ⟨Bw, 1, none⟩ = false ∧ wr.frozen? ⟨Bw, 2, none⟩ = false) ∧ ∃ S', WalkAt ((wr.drew.setCell ⟨Bw, 1, none⟩ (.map (some bs))).setCell ⟨Bw, 2, none⟩ (.map (some bh))) Bw (.slice (some ⟨g, 0, none⟩) F.length cap) bs bh N F S' ∧ (∀ q, S' q = true ↔ stepS F (fun p => Sh p = true) t q) ∧ Below 0 w ((wr.drew.setCell ⟨Bw, 1, none⟩ (.map (some bs))).setCell ⟨Bw, 2, none⟩ (.map (some bh))) ∧ ∀ k, k < w.heap.size → k ≠ Bw → k ≠ bh → k ≠ bs → ((wr.drew.setCell ⟨Bw, 1, none⟩ (.map (some bs))).setCell ⟨Bw, 2, none⟩ (.map (some bh))).heap[k]? = w.heap[k]?) := by
    intro W1 wr left cnt D1 S1 g1 hI hl
    have hb1 : W1.heap[Bw]? = some (.cells #[.slice (some ⟨g, 0, none⟩) F.length cap, .map (some bh), .map (some bs)] 81 (0, 0)) := (g1.block Bw hBlt (by simp)).trans h.blk
    have hbr := (hI.cl _ _ _ hb1).trans hb1
    obtain ⟨d0, d1, d2, f1, f2⟩ := cells3 hbr
    have hset : ∀ k, k ≠ Bw → ((wr.drew.setCell ⟨Bw, 1, none⟩ (.map (some bs))).setCell ⟨Bw, 2, none⟩ (.map (some bh))).heap[k]? = wr.heap[k]? := fun k hk => (Below.heap_setCell _ _ _ k hk).trans (Below.heap_setCell _ _ _ k hk)
    have hnew : ((wr.drew.setCell ⟨Bw, 1, none⟩ (.map (some bs))).setCell ⟨Bw, 2, none⟩ (.map (some bh))).heap[Bw]? = some (.cells #[.slice (some ⟨g, 0, none⟩) F.length cap, .map (some bs), .map (some bh)] 81 (0, 0)) := by
      have s1 := heap_setCell_same wr.drew Bw 1 _ _ (.map (some bs)) hbr
      have s2 := heap_setCell_same _ Bw 2 _ _ (.map (some bh)) s1
      exact s2
    have hgs : wr.grownBy ((wr.drew.setCell ⟨Bw, 1, none⟩ (.map (some bs))).setCell ⟨Bw, 2, none⟩ (.map (some bh))) (some Bw) := ⟨rfl, rfl, rfl, by simp, fun k _ hk => hset k (fun e => hk (by rw [e]))⟩
    refine ⟨⟨d1, d2, f1, f2⟩, S1, ⟨hnew, hI.sp.kept hgs (by simp; exact Ne.symm hBs), ?_, Ne.symm h.ne, ?_⟩, fun q => ?_, ?_, fun k hk h1 h2 h3 => ?_⟩
    · have : SetAt wr bh N (fun _ => false) := set_of hI.rg.owns (fun p hp => by cases hp) (fun kl => by
        rw [hI.hs, hl]
        constructor
        · intro e; cases e
        · rintro ⟨_, _, e⟩; cases e)
      exact this.kept hgs (by simp; exact Ne.symm hBh)
    · have hP1 : Places W1 (.slice (some ⟨g, 0, none⟩) F.length cap) F := h.pl.others fun b c ty hb => g1.block b (Array.getElem?_eq_some_iff.1 hb).1 (by simp)
      have hPr := hP1.others hI.cl
      refine hPr.kinds fun b c ty hb hk => hset b (fun e => ?_)
      subst e
      rw [hbr] at hb
      cases hb
      rcases hk with e | e <;> cases e
    · rw [hI.iff]
      constructor
      · rintro ⟨p, x, r, k, h1, _, h3, h4, h5, h6⟩
        exact ⟨p, x, r, k, h1, h3, h4, h5, h6⟩
      · rintro ⟨p, x, r, k, h1, h3, h4, h5, h6⟩
        exact ⟨p, x, r, k, h1, hl _, h3, h4, h5, h6⟩
    · exact (grownBy_below (w := w) ⟨g1.os, g1.tape, g1.output, g1.size, g1.block⟩).trans (hI.bel.trans (grownBy_below hgs))
    · rw [hset k h1, hI.same k (Nat.lt_of_lt_of_le hk g1.size) h2 h3, g1.block k hk (by simp)]
      rfl
  -- a round
  have HPL : Hid (∀ (W1 wr : World) (left : Lit → Bool) (cnt : Nat) (D1 : DataW Unit) (S1 : Nat → Bool), w.drew.grownBy W1 none → TakeI F N (.slice (some ⟨g, 0, none⟩) F.length cap) Sh t bh bs W1.heap.size W1 wr left cnt D1 S1 → ∀ p : Nat, Sh p = true → ∃ m nx ls a n c, F[p]? = some (m, nx, ls) ∧ m < 65536 ∧ p < N ∧ (takes m t = true → ∃ r hg, nx = [r] ∧ r < N ∧ a = some ⟨hg, 0, none⟩ ∧ n = 1) ∧
      ∀ X : World, (∀ (b : Nat) (c : Array Value) (ty : TypeId), wr.heap[b]? = some (.cells c ty (0, 0)) → X.heap[b]? = wr.heap[b]?) → X.cell? ⟨Bw, 0, none⟩ = some (.slice (some ⟨g, 0, none⟩) F.length cap) ∧ X.cell? ⟨Bw, 1, none⟩ = some (.map (some bh)) ∧ X.cell? ⟨g, p * 3, none⟩ = some (.int .u16 (m : Int)) ∧ X.cell? ⟨g, p * 3 + 1, none⟩ = some (.slice a n c) ∧ X.cell? ⟨g, p * 3 + 2, none⟩ = some (.int .i64 (ls : Int)) ∧ Places X (.slice (some ⟨g, 0, none⟩) F.length cap) F ∧ (∀ r hg, nx = [r] → a = some ⟨hg, 0, none⟩ → X.cell? ⟨hg, 0, none⟩ = some (.int .i64 (r : Int)))) := by
    intro W1 wr left cnt D1 S1 g1 hI p hp
    have hpN : p < N := by
      obtain ⟨D, _, h2, _⟩ := h.here
      exact h2 p hp
    obtain ⟨x, hx⟩ : ∃ x, F[p]? = some x := ⟨_, List.getElem?_eq_getElem (by rw [hF.len]; exact hpN)⟩
    obtain ⟨t0, t2, a, n, c, t1, hrow0⟩ := hcell p x hx
    have hb1 : W1.heap[Bw]? = some (.cells #[.slice (some ⟨g, 0, none⟩) F.length cap, .map (some bh), .map (some bs)] 81 (0, 0)) := (g1.block Bw hBlt (by simp)).trans h.blk
    have hbr := (hI.cl _ _ _ hb1).trans hb1
    have hcw : ∀ (b : Nat) (c : Array Value) (ty : TypeId), w.heap[b]? = some (.cells c ty (0, 0)) → wr.heap[b]? = w.heap[b]? := fun b c ty hb => by
      have e1 : W1.heap[b]? = w.heap[b]? := g1.block b (Array.getElem?_eq_some_iff.1 hb).1 (by simp)
      rw [hI.cl b c ty (e1.trans hb), e1]
    refine ⟨x.1, x.2.1, x.2.2, a, n, c, hx, hF.mask p x hx, hpN, fun ht => ?_, fun X hX => ?_⟩
    · have h0 : x.1 ≠ 0 := fun e => by rw [e, takes_zero] at ht; cases ht
      obtain ⟨q, e, hq⟩ := hF.step hx h0
      rw [e] at hrow0
      obtain ⟨hg, cc, e2, _⟩ := owns_cell hrow0 (by simp)
      cases e2
      exact ⟨q, hg, e, hq, rfl, rfl⟩
    · have hPX : Places X (.slice (some ⟨g, 0, none⟩) F.length cap) F := (h.pl.others hcw).others hX
      obtain ⟨d0, d1, _⟩ := cells3 ((hX _ _ _ hbr).trans hbr)
      have hold : ∀ (b : Nat) (c : Array Value) (ty : TypeId), w.heap[b]? = some (.cells c ty (0, 0)) → X.heap[b]? = w.heap[b]? := fun b c ty hb => by rw [hX _ _ _ ((hcw _ _ _ hb).trans hb), hcw _ _ _ hb]
      have hgw : X.heap[g]? = w.heap[g]? := by
        obtain ⟨rs, q1, _⟩ := id h.pl
        obtain ⟨_, cu, hcu⟩ := owns_lt q1 (g := g) rfl
        exact hold _ _ _ hcu
      refine ⟨d0, d1, (World.cell?_of_block (w := w) (a := ⟨g, p * 3, none⟩) hgw).trans t0, (World.cell?_of_block (w := w) (a := ⟨g, p * 3 + 1, none⟩) hgw).trans t1, (World.cell?_of_block (w := w) (a := ⟨g, p * 3 + 2, none⟩) hgw).trans t2, hPX, fun r hg e1 e2 => ?_⟩
      subst e2
      have hrowX : X.ownsRow 0 3 1 (.slice (some ⟨hg, 0, none⟩) n c) x.2.1.length (numsV x.2.1) := owns_same hrow0 fun k hk => by
        obtain ⟨_, cu, hcu⟩ := owns_lt hrow0 hk
        exact hold _ _ _ hcu
      rw [e1] at hrowX
      obtain ⟨hg', cc, e3, hcc⟩ := owns_cell hrowX (by simp)
      cases e3
      exact hcc 0 _ rfl
  have HGR : Hid (∀ (B1 B2 B3 p : Nat) (X : World) (S : Nat → Bool), SetAt X bs N S → Places X (.slice (some ⟨g, 0, none⟩) F.length cap) F → Clo X bs B1 B2 B3 (.slice (some ⟨g, 0, none⟩) F.length cap) → p < N → Calls Tryz.prog 137 #[.int .i64 (p : Int), .pointer (some ⟨B2, 0, none⟩), .pointer (some ⟨B1, 0, none⟩), .pointer (some ⟨B3, 0, none⟩)] X fun e w' => e = .returned (.tuple #[]) ∧ ∃ S', SetAt w' bs N S' ∧ Grown F S S' p ∧ X.grownBy w' (some bs)) :=
    fun B1 B2 B3 p X S h1 h2 h3 h4 => grow_calls F _ bs B1 B2 B3 N hF.len hF.small hF.lt hF.next (outS S N) p X S (Nat.le_refl _) h1 h2 h3 h4
  obtain ⟨D, hown, _, hD⟩ := id h.here
  have HDD : Hid (∀ kl, Maps.has D kl = true ↔ ∃ p : Nat, kl = .int .i64 (p : Int) ∧ Sh p = true) := hD
  have hne := h.ne
  have hFi : (F.length : Int) ≤ 1000000000 := by have := hF.small; have := hF.len; omega
  have HFN : Hid (F.length = N) := hF.len
  have hNs := hF.small
  have hdS : w.drew.cell? ⟨Bw, 0, none⟩ = some (.slice (some ⟨g, 0, none⟩) F.length cap) ∧ w.drew.cell? ⟨Bw, 2, none⟩ = some (.map (some bs)) := ⟨c0, c2⟩
  clear hD h hF hcell c0 c2
  go_enter Tryz.func42, Tryz.ntmps42
  go_wp2_with fail
  refine wp_region_held_drew (S := fun X => X.cell? ⟨Bw, 0, none⟩ = some (.slice (some ⟨g, 0, none⟩) F.length cap) ∧ X.cell? ⟨Bw, 2, none⟩ = some (.map (some bs))) hmx hdS (fun hS => ?_)
  refine takeD 0 (some 6) (v := ?_) rfl rfl (by kernel_rfl) (by kernel_rfl) (by kernel_rfl) (fun _ _ _ h => h) (Or.inl ⟨by rfl, ?_⟩) hS ?_
  rotate_left
  · intro w hSw
    obtain ⟨s1, s2⟩ := hSw
    try go_simp
    with_reducible rfl
  try simp only [Act.put, List.setIfInBounds_toArray, List.set_cons_zero, List.set_cons_succ]
  refine takeD 1 (some 7) (v := ?_) rfl rfl (by kernel_rfl) (by kernel_rfl) (by kernel_rfl) (fun _ _ _ h => h) (Or.inl ⟨by rfl, ?_⟩) hS ?_
  rotate_left
  · intro w hSw
    obtain ⟨s1, s2⟩ := hSw
    go_simp
    with_reducible rfl
  try simp only [Act.put, List.setIfInBounds_toArray, List.set_cons_zero, List.set_cons_succ]
  refine takeD 2 (some 8) (v := ?_) rfl rfl (by kernel_rfl) (by kernel_rfl) (by kernel_rfl) (fun _ _ _ h => h) (Or.inl ⟨by rfl, ?_⟩) hS ?_
  rotate_left
  · intro w hSw
    obtain ⟨s1, s2⟩ := hSw
    go_simp
    with_reducible rfl
  try simp only [Act.put, List.setIfInBounds_toArray, List.set_cons_zero, List.set_cons_succ]
  refine takeD 3 (some 9) (v := ?_) rfl rfl (by kernel_rfl) (by kernel_rfl) (by kernel_rfl) (fun _ _ _ h => h) (Or.inl ⟨by rfl, ?_⟩) hS ?_
  rotate_left
  · intro w hSw
    obtain ⟨s1, s2⟩ := hSw
    go_simp
    with_reducible rfl
  try simp only [Act.put, List.setIfInBounds_toArray, List.set_cons_zero, List.set_cons_succ]
  refine takeD 4 (some 10) (v := ?_) rfl rfl (by kernel_rfl) (by kernel_rfl) (by kernel_rfl) (fun _ _ _ h => h) (Or.inl ⟨by rfl, ?_⟩) hS ?_
  rotate_left
  · intro w hSw
    obtain ⟨s1, s2⟩ := hSw
    try go_simp
    with_reducible rfl
  try simp only [Act.put, List.setIfInBounds_toArray, List.set_cons_zero, List.set_cons_succ]
  refine takeD 5 (some 11) (v := ?_) rfl rfl (by kernel_rfl) (by kernel_rfl) (by kernel_rfl) (fun _ _ _ h => h) (Or.inl ⟨by rfl, ?_⟩) hS ?_
  rotate_left
  · intro w hSw
    obtain ⟨s1, s2⟩ := hSw
    go_simp
    with_reducible rfl
  try simp only [Act.put, List.setIfInBounds_toArray, List.set_cons_zero, List.set_cons_succ]
  refine takeD 6 (some 12) (v := ?_) rfl rfl (by kernel_rfl) (by kernel_rfl) (by kernel_rfl) (fun _ _ _ h => h) (Or.inl ⟨by rfl, ?_⟩) hS ?_
  rotate_left
  · intro w hSw
    obtain ⟨s1, s2⟩ := hSw
    go_simp
    with_reducible rfl
  try simp only [Act.put, List.setIfInBounds_toArray, List.set_cons_zero, List.set_cons_succ]
  refine takeD 7 (some 13) (v := ?_) rfl rfl (by kernel_rfl) (by kernel_rfl) (by kernel_rfl) (fun _ _ _ h => h) (Or.inl ⟨by rfl, ?_⟩) hS ?_
  rotate_left
  · intro w hSw
    obtain ⟨s1, s2⟩ := hSw
    go_simp
    with_reducible rfl
  try simp only [Act.put, List.setIfInBounds_toArray, List.set_cons_zero, List.set_cons_succ]
  refine callD 8 (by kernel_rfl) rfl (fun K hK => ?_)
  go_simp
  refine HR.out.mono ?_
  rintro e W1 ⟨rfl, hC1, hg1⟩
  have hS1 : W1.cell? ⟨Bw, 0, none⟩ = some (.slice (some ⟨g, 0, none⟩) F.length cap) ∧ W1.cell? ⟨Bw, 2, none⟩ = some (.map (some bs)) := by
    have hB1 : W1.heap[Bw]? = w.drew.heap[Bw]? := hg1.block Bw hBlt (by simp)
    exact ⟨(World.cell?_of_block (w := w.drew) (a := ⟨Bw, 0, none⟩) hB1).trans hdS.1, (World.cell?_of_block (w := w.drew) (a := ⟨Bw, 2, none⟩) hB1).trans hdS.2⟩
  have k1 : W1.cell? ⟨Bw, 1, none⟩ = some (.map (some bh)) := (World.cell?_of_block (w := w.drew) (a := ⟨Bw, 1, none⟩) (hg1.block Bw hBlt (by simp))).trans c1
  refine hK.out _ _ hS1 (fun _ => ?_)
  clear hK K
  try simp only [Act.put, List.setIfInBounds_toArray, List.set_cons_zero, List.set_cons_succ]
  refine takeD 9 (some 4) (v := ?_) rfl rfl (by kernel_rfl) (by kernel_rfl) (by kernel_rfl) (fun _ _ _ h => h) (Or.inl ⟨by rfl, ?_⟩) hS1 ?_
  rotate_left
  · intro w hSw
    obtain ⟨s1, s2⟩ := hSw
    try go_simp
    with_reducible rfl
  try simp only [Act.put, List.setIfInBounds_toArray, List.set_cons_zero, List.set_cons_succ]
  refine wpAnyH_done (by kernel_rfl) ?_ _
  have hown1 : W1.ownsMap Tryz.prog 3 unitElem bh N D := World.ownsMap.kept (w := w.drew) hown hg1 (by simp)
  clear HR hS1 hS hdS c1
  go_wp2_with (first
    | (at_range; refine wpList_range_own _ rfl _ 79 rfl 3 198 lawI Tryz.underlying79 _ bh N D rfl hown1 ?_; intro w0 hrg0 hg0 hs0)
    | go_in)
  go_frame
  have hC1' : Clo W1 bs w.heap.size (w.heap.size + 1) (w.heap.size + 1 + 1) (.slice (some ⟨g, 0, none⟩) F.length cap) := hC1
  have HI0 : Hid (TakeI F N (.slice (some ⟨g, 0, none⟩) F.length cap) Sh t bh bs W1.heap.size W1 w0 (Maps.has D) (Maps.size D) D (fun _ => false)) := HST.out W1 w0 D hg1 HDD.out hrg0 hg0
  have HG1 : Hid (w.drew.grownBy W1 none) := hg1
  have HC1 : Hid (Clo W1 bs w.heap.size (w.heap.size + 1) (w.heap.size + 1 + 1) (.slice (some ⟨g, 0, none⟩) F.length cap)) := hC1'
  have hbs1 : bs < W1.heap.size := Nat.lt_of_lt_of_le hbsl hg1.size
  clear hrg0 hg0 hs0 hC1 hC1' hown1 hown k1 HST hg1
  go_loopw [5] (fun _ wr => ∃ (left : Lit → Bool) (cnt : Nat) (D1 : DataW Unit) (S1 : Nat → Bool), TakeI F N (.slice (some ⟨g, 0, none⟩) F.length cap) Sh t bh bs W1.heap.size W1 wr left cnt D1 S1) (fun _ wr => wr.rangeLeft bh W1.heap.size)
  case atStart => exact ⟨_, _, _, _, HI0.out⟩
  case round =>
    obtain ⟨left, cnt, D1, S1, hI⟩ := hrel
    have hrg := hI.rg
    have HI : Hid (TakeI F N (.slice (some ⟨g, 0, none⟩) F.length cap) Sh t bh bs W1.heap.size W1 wr left cnt D1 S1) := hI
    clear hI HI0
    go_wp2_with (first
      | (at_next; refine wpList_next_ranges _ rfl _ rfl 3 lawI unitElem (Value.int .i64) (fun _ : Unit => Value.agg #[]) (fun key kl hkey => by obtain ⟨x, e, _⟩ := keyOf_int_inv Tryz.underlying3 hkey; exact ⟨x, e⟩) (fun v y hv => ⟨(), (unitElem_inv hv).1⟩) bh W1.heap.size N _ _ _ rfl hrg ?_ ?_)
      | go_in)
    · intro _ hl0
      obtain ⟨⟨e1, e2, f1, f2⟩, HE⟩ := HEND.out W1 wr left cnt D1 S1 HG1.out HI.out hl0
      have HE' : Hid (∃ S', WalkAt ((wr.drew.setCell ⟨Bw, 1, none⟩ (.map (some bs))).setCell ⟨Bw, 2, none⟩ (.map (some bh))) Bw (.slice (some ⟨g, 0, none⟩) F.length cap) bs bh N F S' ∧ (∀ q, S' q = true ↔ stepS F (fun p => Sh p = true) t q) ∧ Below 0 w ((wr.drew.setCell ⟨Bw, 1, none⟩ (.map (some bs))).setCell ⟨Bw, 2, none⟩ (.map (some bh))) ∧ ∀ k, k < w.heap.size → k ≠ Bw → k ≠ bh → k ≠ bs → ((wr.drew.setCell ⟨Bw, 1, none⟩ (.map (some bs))).setCell ⟨Bw, 2, none⟩ (.map (some bh))).heap[k]? = w.heap[k]?) := HE
      have e1' : wr.drew.cell? ⟨Bw, 1, none⟩ = some (.map (some bh)) := e1
      have e2' : wr.drew.cell? ⟨Bw, 2, none⟩ = some (.map (some bs)) := e2
      have f1' : wr.drew.frozen? ⟨Bw, 1, none⟩ = false := f1
      have f2' : wr.drew.frozen? ⟨Bw, 2, none⟩ = false := f2
      clear HE HEND HPL HGR HI hrg hl0
      go_wp2_with fail
      refine wp_region_held_drew (S := fun _ => True) hmx trivial (fun hS => ?_)
      refine takeD 0 (some 50) (v := ?_) rfl rfl (by kernel_rfl) (by kernel_rfl) (by kernel_rfl) (fun _ _ _ h => h) (Or.inl ⟨by rfl, ?_⟩) trivial ?_
      rotate_left
      · intro w hSw
        try go_simp
        with_reducible rfl
      try simp only [Act.put, List.setIfInBounds_toArray, List.set_cons_zero, List.set_cons_succ]
      refine takeD 1 (some 51) (v := ?_) rfl rfl (by kernel_rfl) (by kernel_rfl) (by kernel_rfl) (fun _ _ _ h => h) (Or.inl ⟨by rfl, ?_⟩) trivial ?_
      rotate_left
      · intro w hSw
        try go_simp
        with_reducible rfl
      try simp only [Act.put, List.setIfInBounds_toArray, List.set_cons_zero, List.set_cons_succ]
      refine takeD 2 (some 52) (v := ?_) rfl rfl (by kernel_rfl) (by kernel_rfl) (by kernel_rfl) (fun _ _ _ h => h) (Or.inl ⟨by rfl, ?_⟩) trivial ?_
      rotate_left
      · intro w hSw
        try go_simp
        with_reducible rfl
      try simp only [Act.put, List.setIfInBounds_toArray, List.set_cons_zero, List.set_cons_succ]
      refine takeD 3 (some 53) (v := ?_) rfl rfl (by kernel_rfl) (by kernel_rfl) (by kernel_rfl) (fun _ _ _ h => h) (Or.inl ⟨by rfl, ?_⟩) trivial ?_
      rotate_left
      · intro w hSw
        go_simp
        with_reducible rfl
      try simp only [Act.put, List.setIfInBounds_toArray, List.set_cons_zero, List.set_cons_succ]
      refine takeD 4 (some 54) (v := ?_) rfl rfl (by kernel_rfl) (by kernel_rfl) (by kernel_rfl) (fun _ _ _ h => h) (Or.inl ⟨by rfl, ?_⟩) trivial ?_
      rotate_left
      · intro w hSw
        go_simp
        with_reducible rfl
      try simp only [Act.put, List.setIfInBounds_toArray, List.set_cons_zero, List.set_cons_succ]
      refine takeD 6 (some 56) (v := ?_) rfl rfl (by kernel_rfl) (by kernel_rfl) (by kernel_rfl) (fun _ _ _ h => h) (Or.inl ⟨by rfl, ?_⟩) trivial ?_
      rotate_left
      · intro w hSw
        try go_simp
        with_reducible rfl
      try simp only [Act.put, List.setIfInBounds_toArray, List.set_cons_zero, List.set_cons_succ]
      refine takeD 7 (some 57) (v := ?_) rfl rfl (by kernel_rfl) (by kernel_rfl) (by kernel_rfl) (fun _ _ _ h => h) (Or.inl ⟨by rfl, ?_⟩) trivial ?_
      rotate_left
      · intro w hSw
        go_simp
        with_reducible rfl
      try simp only [Act.put, List.setIfInBounds_toArray, List.set_cons_zero, List.set_cons_succ]
      refine takeD 8 (some 58) (v := ?_) rfl rfl (by kernel_rfl) (by kernel_rfl) (by kernel_rfl) (fun _ _ _ h => h) (Or.inl ⟨by rfl, ?_⟩) trivial ?_
      rotate_left
      · intro w hSw
        go_simp
        with_reducible rfl
      try simp only [Act.put, List.setIfInBounds_toArray, List.set_cons_zero, List.set_cons_succ]
      refine wpAnyH_ready (rs := [5, 9]) (by kernel_rfl) (by simp) (AllReadyH.cons rfl (fun K hK => ?_) (AllReadyH.cons rfl (fun K hK => ?_) AllReadyH.nil))
      · go_simp
        refine hK.out _ _ trivial (fun _ => ?_)
        clear hK K
        try simp only [Act.put, List.setIfInBounds_toArray, List.set_cons_zero, List.set_cons_succ]
        refine callD 9 (by kernel_rfl) rfl (fun K hK => ?_)
        go_simp
        refine hK.out _ _ trivial (fun _ => ?_)
        clear hK K
        try simp only [Act.put, List.setIfInBounds_toArray, List.set_cons_zero, List.set_cons_succ]
        refine takeD 10 (some 60) (v := ?_) rfl rfl (by kernel_rfl) (by kernel_rfl) (by kernel_rfl) (fun _ _ _ h => h) (Or.inl ⟨by rfl, ?_⟩) trivial ?_
        rotate_left
        · intro w hSw
          go_simp
          with_reducible rfl
        try simp only [Act.put, List.setIfInBounds_toArray, List.set_cons_zero, List.set_cons_succ]
        refine takeD 11 (some 61) (v := ?_) rfl rfl (by kernel_rfl) (by kernel_rfl) (by kernel_rfl) (fun _ _ _ h => h) (Or.inl ⟨by rfl, ?_⟩) trivial ?_
        rotate_left
        · intro w hSw
          go_simp
          with_reducible rfl
        try simp only [Act.put, List.setIfInBounds_toArray, List.set_cons_zero, List.set_cons_succ]
        refine callD 12 (by kernel_rfl) rfl (fun K hK => ?_)
        rw [if_pos (by rfl)]
        go_simp
        refine hK.out _ _ trivial (fun _ => ?_)
        clear hK K
        try simp only [Act.put, List.setIfInBounds_toArray, List.set_cons_zero, List.set_cons_succ]
        refine takeD 13 (some 62) (v := ?_) rfl rfl (by kernel_rfl) (by kernel_rfl) (by kernel_rfl) (fun _ _ _ h => h) (Or.inl ⟨by rfl, ?_⟩) trivial ?_
        rotate_left
        · intro w hSw
          go_simp
          with_reducible rfl
        try simp only [Act.put, List.setIfInBounds_toArray, List.set_cons_zero, List.set_cons_succ]
        refine takeD 14 (some 63) (v := ?_) rfl rfl (by kernel_rfl) (by kernel_rfl) (by kernel_rfl) (fun _ _ _ h => h) (Or.inl ⟨by rfl, ?_⟩) trivial ?_
        rotate_left
        · intro w hSw
          go_simp
          with_reducible rfl
        try simp only [Act.put, List.setIfInBounds_toArray, List.set_cons_zero, List.set_cons_succ]
        refine callD 15 (by kernel_rfl) rfl (fun K hK => ?_)
        rw [if_pos (by rfl)]
        go_simp
        refine hK.out _ _ trivial (fun _ => ?_)
        clear hK K
        try simp only [Act.put, List.setIfInBounds_toArray, List.set_cons_zero, List.set_cons_succ]
        refine wpAnyH_done (by kernel_rfl) ?_ _
        go_wp2
        go_end0
        exact ⟨rfl, HE'.out⟩
      · go_simp
        refine hK.out _ _ trivial (fun _ => ?_)
        clear hK K
        try simp only [Act.put, List.setIfInBounds_toArray, List.set_cons_zero, List.set_cons_succ]
        refine callD 5 (by kernel_rfl) rfl (fun K hK => ?_)
        go_simp
        refine hK.out _ _ trivial (fun _ => ?_)
        clear hK K
        try simp only [Act.put, List.setIfInBounds_toArray, List.set_cons_zero, List.set_cons_succ]
        refine takeD 10 (some 60) (v := ?_) rfl rfl (by kernel_rfl) (by kernel_rfl) (by kernel_rfl) (fun _ _ _ h => h) (Or.inl ⟨by rfl, ?_⟩) trivial ?_
        rotate_left
        · intro w hSw
          go_simp
          with_reducible rfl
        try simp only [Act.put, List.setIfInBounds_toArray, List.set_cons_zero, List.set_cons_succ]
        refine takeD 11 (some 61) (v := ?_) rfl rfl (by kernel_rfl) (by kernel_rfl) (by kernel_rfl) (fun _ _ _ h => h) (Or.inl ⟨by rfl, ?_⟩) trivial ?_
        rotate_left
        · intro w hSw
          go_simp
          with_reducible rfl
        try simp only [Act.put, List.setIfInBounds_toArray, List.set_cons_zero, List.set_cons_succ]
        refine callD 12 (by kernel_rfl) rfl (fun K hK => ?_)
        rw [if_pos (by rfl)]
        go_simp
        refine hK.out _ _ trivial (fun _ => ?_)
        clear hK K
        try simp only [Act.put, List.setIfInBounds_toArray, List.set_cons_zero, List.set_cons_succ]
        refine takeD 13 (some 62) (v := ?_) rfl rfl (by kernel_rfl) (by kernel_rfl) (by kernel_rfl) (fun _ _ _ h => h) (Or.inl ⟨by rfl, ?_⟩) trivial ?_
        rotate_left
        · intro w hSw
          go_simp
          with_reducible rfl
        try simp only [Act.put, List.setIfInBounds_toArray, List.set_cons_zero, List.set_cons_succ]
        refine takeD 14 (some 63) (v := ?_) rfl rfl (by kernel_rfl) (by kernel_rfl) (by kernel_rfl) (fun _ _ _ h => h) (Or.inl ⟨by rfl, ?_⟩) trivial ?_
        rotate_left
        · intro w hSw
          go_simp
          with_reducible rfl
        try simp only [Act.put, List.setIfInBounds_toArray, List.set_cons_zero, List.set_cons_succ]
        refine callD 15 (by kernel_rfl) rfl (fun K hK => ?_)
        rw [if_pos (by rfl)]
        go_simp
        refine hK.out _ _ trivial (fun _ => ?_)
        clear hK K
        try simp only [Act.put, List.setIfInBounds_toArray, List.set_cons_zero, List.set_cons_succ]
        refine wpAnyH_done (by kernel_rfl) ?_ _
        go_wp2
        go_end0
        exact ⟨rfl, HE'.out⟩
    · intro x c kl y w1 cnt1 hkey hlk hv hat hrg1 hlt hg1 hs1 hen
      obtain ⟨rfl, hwx⟩ := key_nat hkey
      obtain ⟨p, ep, hp⟩ := HI.out.sub _ hlk
      obtain rfl : x = (p : Int) := by injection ep
      obtain ⟨m, nx, ls, a, n, c', hx, hm, hpN, htk, hX⟩ := HPL.out W1 wr left cnt D1 S1 HG1.out HI.out p hp
      have hc1 : ∀ (b : Nat) (c : Array Value) (ty : TypeId), wr.heap[b]? = some (.cells c ty (0, 0)) → w1.heap[b]? = wr.heap[b]? := fun b c ty hb => hg1.block b (Array.getElem?_eq_some_iff.1 hb).1 (fun e => by
        cases e
        obtain ⟨es, clock, since, seen, c0, _, _, _, _, hri, _⟩ := HI.out.rg
        rw [hb] at hri
        cases hri)
      have hbhm : ∀ (c : Array Value) (ty : TypeId), wr.heap[bh]? ≠ some (.cells c ty (0, 0)) := fun c ty hb => by
        obtain ⟨es, clock, since, seen, c0, hbb, _⟩ := HI.out.rg
        rw [hb] at hbb
        cases hbb
      have HX : Hid (∀ X : World, (∀ (b : Nat) (c : Array Value) (ty : TypeId), wr.heap[b]? = some (.cells c ty (0, 0)) → X.heap[b]? = wr.heap[b]?) → X.cell? ⟨Bw, 0, none⟩ = some (.slice (some ⟨g, 0, none⟩) F.length cap) ∧ X.cell? ⟨Bw, 1, none⟩ = some (.map (some bh)) ∧ X.cell? ⟨g, p * 3, none⟩ = some (.int .u16 (m : Int)) ∧ X.cell? ⟨g, p * 3 + 1, none⟩ = some (.slice a n c') ∧ X.cell? ⟨g, p * 3 + 2, none⟩ = some (.int .i64 (ls : Int)) ∧ Places X (.slice (some ⟨g, 0, none⟩) F.length cap) F ∧ (∀ r hg, nx = [r] → a = some ⟨hg, 0, none⟩ → X.cell? ⟨hg, 0, none⟩ = some (.int .i64 (r : Int)))) := hX
      obtain ⟨x0, x1, x2, x3, x4, _, _⟩ := hX w1 hc1
      have H2 : Hid (∀ w2 : World, w1.grownBy w2 (some bh) → ∀ (b : Nat) (c : Array Value) (ty : TypeId), wr.heap[b]? = some (.cells c ty (0, 0)) → w2.heap[b]? = wr.heap[b]?) := fun w2 g2 b c ty hb => (g2.block b (Nat.lt_of_lt_of_le (Array.getElem?_eq_some_iff.1 hb).1 hg1.size) (fun e => by cases e; exact hbhm _ _ hb)).trans (hc1 b c ty hb)
      have H3 : Hid (∀ w2 w3 : World, w1.grownBy w2 (some bh) → w2.grownBy w3 none → (∀ (b : Nat) (c : Array Value) (ty : TypeId), wr.heap[b]? = some (.cells c ty (0, 0)) → w3.heap[b]? = wr.heap[b]?) ∧ SetAt w3 bs N S1 ∧ Clo w3 bs w.heap.size (w.heap.size + 1) (w.heap.size + 1 + 1) (.slice (some ⟨g, 0, none⟩) F.length cap)) := fun w2 w3 g2 g3 => by
        have hcs : ∀ (b : Nat) (c : Array Value) (ty : TypeId), wr.heap[b]? = some (.cells c ty (0, 0)) → w3.heap[b]? = wr.heap[b]? := fun b c ty hb => (g3.block b (by have := (Array.getElem?_eq_some_iff.1 hb).1; have := hg1.size; have := g2.size; omega) (by simp)).trans (H2.out w2 g2 b c ty hb)
        exact ⟨hcs, ((HI.out.sp.kept hg1 (by simp; omega)).kept g2 (by simp; exact Ne.symm hne)).kept g3 (by simp), (HC1.out.others HI.out.cl).others hcs⟩
      have hpi : (p : Int) < (F.length : Int) := by have := HFN.out; omega
      have hp0 : (0 : Int) ≤ (p : Int) := by omega
      have HK : Hid (∀ (w2 w3 w4 : World) (cnt2 : Nat), w1.grownBy w2 (some bh) → w2.ranges Tryz.prog 3 unitElem bh W1.heap.size N (D1.del (.int .i64 (p : Int))) (fun z => (left z && !z.sameKey (.int .i64 (p : Int))) && !z.sameKey (.int .i64 (p : Int))) cnt2 → cnt2 ≤ cnt1 → w2.grownBy w3 none → w3.grownBy w4 (some bs) → ∀ S2, SetAt w4 bs N S2 → ((takes m t = true ∧ ∃ r, nx[0]? = some r ∧ Grown F S1 S2 r) ∨ (takes m t = false ∧ S2 = S1)) → (∃ (left : Lit → Bool) (cnt : Nat) (D1 : DataW Unit) (S1 : Nat → Bool), TakeI F N (.slice (some ⟨g, 0, none⟩) F.length cap) Sh t bh bs W1.heap.size W1 w4 left cnt D1 S1) ∧ w4.rangeLeft bh W1.heap.size < wr.rangeLeft bh W1.heap.size) := by
        intro w2 w3 w4 cnt2 g2 hrg2 hle g3 g4 S2 hS2 hG
        rw [strike_twice] at hrg2
        have hI2 := HI.out.on (Nat.le_refl _) hne hbs1 hp hx hwx hg1 g2 hrg2 g3 g4 hS2 hG hlk
        refine ⟨⟨_, _, _, _, hI2⟩, ?_⟩
        rw [hI2.rg.left_eq, HI.out.rg.left_eq]
        omega
      have HTK := fun W => takes_calls m hm a n c' (ls : Int) t W
      clear hX HPL HEND hx hat hv hkey ep hlk hp hbhm hc1
      generalize htt : takes m t = tk at *
      cases tk with
      | true =>
        obtain ⟨r, hg', rfl, hrN, rfl, rfl⟩ := htk rfl
        go_wp2_with (at_delete; refine wpList_delete_ranges _ rfl _ _ 79 3 rfl 198 lawI Tryz.underlying79 _ bh W1.heap.size N _ _ _ rfl hrg1 _ _ rfl (keyOf_int_mk Tryz.underlying3 hwx) ?_; intro w2 cnt2 hrg2 hle hturn; have hg2 := hturn.grown; obtain ⟨y0, y1, y2, y3, y4, _, _⟩ := HX.out w2 (H2.out w2 hg2); go_frame)
        refine (HTK _).mono ?_
        rintro e w3 ⟨rfl, hg3⟩
        obtain ⟨hcs3, hS3, hC3⟩ := H3.out w2 w3 hg2 hg3
        obtain ⟨z0, z1, z2, z3, z4, hP3, hz⟩ := HX.out w3 hcs3
        have z5 := hz r hg' rfl rfl
        have HCALL := HGR.out _ _ _ r w3 S1 hS3 hP3 hC3 hrN
        have HKK : Hid (∀ (w4 : World) (S2 : Nat → Bool), w3.grownBy w4 (some bs) → SetAt w4 bs N S2 → Grown F S1 S2 r → (∃ (left : Lit → Bool) (cnt : Nat) (D1 : DataW Unit) (S1 : Nat → Bool), TakeI F N (.slice (some ⟨g, 0, none⟩) F.length cap) Sh t bh bs W1.heap.size W1 w4 left cnt D1 S1) ∧ w4.rangeLeft bh W1.heap.size < wr.rangeLeft bh W1.heap.size) := fun w4 S2 g4 h4 hG => HK.out w2 w3 w4 cnt2 hg2 hrg2 hle hg3 g4 S2 h4 (.inl ⟨by first | rfl | trivial, r, rfl, hG⟩)
        clear HK HX H2 H3 HGR hrg1 hrg2 hrg hg2 hg3 hturn hS3 hC3 hP3 hcs3 hz hen y0 y1 y2 y3 y4 x0 x1 x2 x3 x4 HTK HC1 HI
        go_wp2_with fail
        refine HCALL.mono ?_
        rintro e w4 ⟨rfl, S2, hS4, hG4, hg4⟩
        obtain ⟨HQ1, HQ2⟩ := HKK.out w4 S2 hg4 hS4 hG4
        clear HCALL HKK hS4 hG4 hg4
        go_wp2
        go_roundw
        case rel => exact HQ1
        case measure => exact HQ2
      | false =>
        go_wp2_with (at_delete; refine wpList_delete_ranges _ rfl _ _ 79 3 rfl 198 lawI Tryz.underlying79 _ bh W1.heap.size N _ _ _ rfl hrg1 _ _ rfl (keyOf_int_mk Tryz.underlying3 hwx) ?_; intro w2 cnt2 hrg2 hle hturn; have hg2 := hturn.grown; obtain ⟨y0, y1, y2, y3, y4, _, _⟩ := HX.out w2 (H2.out w2 hg2); go_frame)
        refine (HTK _).mono ?_
        rintro e w3 ⟨rfl, hg3⟩
        obtain ⟨hcs3, hS3, hC3⟩ := H3.out w2 w3 hg2 hg3
        obtain ⟨HQ1, HQ2⟩ := HK.out w2 w3 w3 cnt2 hg2 hrg2 hle hg3 ⟨rfl, rfl, rfl, Nat.le_refl _, fun _ _ _ => rfl⟩ S1 hS3 (.inr ⟨by first | rfl | trivial, rfl⟩)
        clear HK HX H2 H3 HGR hrg1 hrg2 hrg hg2 hg3 hturn hS3 hC3 hcs3 hen y0 y1 y2 y3 y4 x0 x1 x2 x3 x4 HTK HC1 HI
        go_wp2
        go_roundw
        case rel => exact HQ1
        case measure => exact HQ2
end Go.Proofs.YtofkiaeocfpkeaaGreatDoor

/- Sane: what reg's Check lets by: right trees whose places are right and few. -/
namespace Go.Proofs.YtofkiaeocfpkeaaGreatDoor
open Go.RowKit

section
variable {T : Type} (K : T → Int) (M : T → Nat) (U : T → List T)
/-- No place takes more than sixteen types; none has more than m ways. -/
def Few (m : Nat) (L : List Place) : Prop := ∀ (i : Nat) (x : Place), L[i]? = some x → x.1 < 65536 ∧ x.2.1.length ≤ m
theorem Few.snoc {m : Nat} {L : List Place} (h : Few m L) {y : Place} (h1 : y.1 < 65536) (h2 : y.2.1.length ≤ m) : Few m (L ++ [y]) := by
  intro i x hx
  rcases Nat.lt_or_ge i L.length with hi | hi
  · rw [get_snoc_lt hi] at hx
    exact h i x hx
  · have : i = L.length := by
      have := (List.getElem?_eq_some_iff.1 hx).1
      simp at this
      omega
    subst this
    rw [get_snoc_eq] at hx
    cases hx
    exact ⟨h1, h2⟩
theorem Few.next {m : Nat} {L : List Place} (h : Few m L) {i q : Nat} {y : Place} (hy : L[i]? = some y) (h2 : y.2.1.length + 1 ≤ m) : Few m (addNext L i q) := by
  intro j x hx
  by_cases e : j = i
  · subst e
    rw [addNext_eq hy] at hx
    cases hx
    exact ⟨(h j y hy).1, by simpa using h2⟩
  · rw [addNext_ne e] at hx
    exact h j x hx
theorem seq_few {f : T → Nat → List Place → List Place × Nat} {m : Nat} : ∀ (l : List T), (∀ x ∈ l, ∀ next L, Few m L → Few m (f x next L).1) → ∀ next L, Few m L → Few m (laySeq f l next L).1 := by
  intro l
  induction l with
  | nil => intro _ next L h; exact h
  | cons x r ih => intro h next L hL; rw [laySeq]; exact ih (fun y hy => h y (List.mem_cons_of_mem _ hy)) _ _ (h x (List.mem_cons_self ..) _ _ hL)
theorem alt_few {f : T → Nat → List Place → List Place × Nat} {m : Nat} (next : Nat) : ∀ (l : List T), (∀ x ∈ l, ∀ next L, Few m L → Few m (f x next L).1) → ∀ L ws, Few m L → Few m (layAlt f next l L ws).1 ∧ (layAlt f next l L ws).2.length = ws.length + l.length := by
  intro l
  induction l with
  | nil => intro _ L ws h; exact ⟨h, rfl⟩
  | cons x r ih =>
    intro h L ws hL
    rw [layAlt]
    obtain ⟨h1, h2⟩ := ih (fun y hy => h y (List.mem_cons_of_mem _ hy)) (f x next L).1 (ws ++ [(f x next L).2]) (h x (List.mem_cons_self ..) _ _ hL)
    refine ⟨h1, ?_⟩
    rw [h2]
    simp
    omega
theorem lay_few (hM : ∀ t, M t < 65536) (m : Nat) (hm : 2 ≤ m) : ∀ (n : Nat) (t : T), Sane K M U n t → size U n t ≤ m → ∀ next L, wf L → next < L.length → Few m L → Few m (lay K M U n t next L).1 := by
  intro n
  induction n with
  | zero => intro t h; exact h.elim
  | succ n ih =>
    intro t hS hsz next L hL hn hF
    obtain ⟨s1, s3, s4, sk⟩ := hS
    have hgood : ∀ x ∈ U t, Good (lay K M U n) (size U n) x := fun x hx => lay_good K M U n x (sk x hx)
    have hszx : ∀ x ∈ U t, size U n x ≤ m := fun x hx => by
      have := sum_ge_mem (f := size U n) (U t) hx
      rw [size] at hsz
      omega
    rw [lay]
    by_cases k1 : K t = 1
    · rw [if_pos k1]
      exact hF.snoc (hM t) (by simp; omega)
    rw [if_neg k1]
    by_cases k2 : K t = 2
    · rw [if_pos k2]
      have : ∀ (l : List T), (∀ x ∈ l, x ∈ U t) → ∀ next L, wf L → next < L.length → Few m L → Few m (laySeq (lay K M U n) l next L).1 := by
        intro l
        induction l with
        | nil => intro _ next L _ _ h; exact h
        | cons x r ihl =>
          intro hl next L hL hn hF
          obtain ⟨a1, a2, _⟩ := hgood x (hl x (List.mem_cons_self ..)) next L hL hn
          rw [laySeq]
          exact ihl (fun y hy => hl y (List.mem_cons_of_mem _ hy)) _ _ a1 a2 (ih x (sk x (hl x (List.mem_cons_self ..))) (hszx x (hl x (List.mem_cons_self ..))) next L hL hn hF)
      exact this _ (fun x hx => List.mem_reverse.1 hx) next L hL hn hF
    rw [if_neg k2]
    by_cases k3 : K t = 3
    · rw [if_pos k3]
      have : ∀ (l : List T), (∀ x ∈ l, x ∈ U t) → ∀ L ws, wf L → next < L.length → Few m L → Few m (layAlt (lay K M U n) next l L ws).1 ∧ (layAlt (lay K M U n) next l L ws).2.length = ws.length + l.length := by
        intro l
        induction l with
        | nil => intro _ L ws _ _ h; exact ⟨h, rfl⟩
        | cons x r ihl =>
          intro hl L ws hL hn hF
          obtain ⟨a1, a2, a3, _⟩ := hgood x (hl x (List.mem_cons_self ..)) next L hL hn
          rw [layAlt]
          obtain ⟨h1, h2⟩ := ihl (fun y hy => hl y (List.mem_cons_of_mem _ hy)) (lay K M U n x next L).1 (ws ++ [(lay K M U n x next L).2]) a1 (by omega) (ih x (sk x (hl x (List.mem_cons_self ..))) (hszx x (hl x (List.mem_cons_self ..))) next L hL hn hF)
          refine ⟨h1, ?_⟩
          rw [h2]
          simp
          omega
      obtain ⟨h1, h2⟩ := this (U t) (fun x hx => hx) L [] hL hn hF
      refine h1.snoc (by show 0 < 65536; decide) ?_
      show (layAlt (lay K M U n) next (U t) L []).2.length ≤ m
      rw [h2]
      have : (U t).length ≤ ((U t).map (size U n)).sum ∨ n = 0 := by
        cases n with
        | zero => exact .inr rfl
        | succ n =>
          left
          have : ∀ l : List T, l.length ≤ (l.map (size U (n + 1))).sum := by
            intro l
            induction l with
            | nil => exact Nat.le_refl _
            | cons x r ih =>
              have h1 : 1 ≤ size U (n + 1) x := by rw [size]; omega
              rw [List.map_cons, List.sum_cons, List.length_cons]
              omega
          exact this _
      rcases this with h | h
      · rw [size] at hsz
        simp
        omega
      · subst h
        cases hu : U t with
        | nil => simp
        | cons x r => exact (sk x (by rw [hu]; exact List.mem_cons_self ..)).elim
    rw [if_neg k3]
    have hloop : ∀ x, U t = [x] → Few m (layLoop (lay K M U n) [x] next L).1 := fun x hx => by
      have hxm : x ∈ U t := by rw [hx]; exact List.mem_singleton.2 rfl
      obtain ⟨c1, c2, c3, c4, c5⟩ := forkL_ok hL (ways := [next]) (by simp) (by simpa using hn) (m := leastAt L next) (by simp)
      obtain ⟨a1, a2, a3, a4, _⟩ := hgood x hxm L.length (forkL L [next]).1 c1 (by omega)
      have hf1 : Few m (forkL L [next]).1 := hF.snoc (by show 0 < 65536; decide) (by simp; omega)
      have hf2 := ih x (sk x hxm) (hszx x hxm) L.length (forkL L [next]).1 c1 (by omega) hf1
      rw [layLoop]
      exact hf2.next (y := (0, [next], forkLeast L [next])) ((a4 _ (by omega)).trans get_snoc_eq) (by simpa using hm)
    by_cases k4 : K t = 4
    · rw [if_pos k4]
      obtain ⟨x, hx⟩ := s4 (.inl k4)
      rw [hx]
      exact hloop x hx
    rw [if_neg k4]
    by_cases k5 : K t = 5
    · rw [if_pos k5]
      obtain ⟨x, hx⟩ := s4 (.inr (.inl k5))
      rw [hx]
      exact hloop x hx
    rw [if_neg k5]
    by_cases k6 : K t = 6
    · rw [if_pos k6]
      obtain ⟨x, hx⟩ := s4 (.inr (.inr k6))
      have hxm : x ∈ U t := by rw [hx]; exact List.mem_singleton.2 rfl
      rw [hx, layOpt]
      exact (ih x (sk x hxm) (hszx x hxm) next L hL hn hF).snoc (by show 0 < 65536; decide) (by simpa using hm)
    rw [if_neg k6]
    exact hF
end
theorem cnt_size : ∀ (n : Nat) (t : DataW Unit), cnt n t = (size subs n t : Int) := by
  intro n
  induction n with
  | zero => intro t; rfl
  | succ n ih =>
    intro t
    rw [cnt, size]
    have : ∀ l : List (DataW Unit), total (cnt n) l = ((l.map (size subs n)).sum : Int) := by
      intro l
      induction l with
      | nil => rfl
      | cons x r ihl => rw [total, ihl, ih]; simp
    rw [this]
    omega
theorem sane_of (gs : List Grp) : ∀ (n : Nat) (t : DataW Unit), rightE n t = true → nmd gs n t = true → SaneD gs n t := by
  intro n
  induction n with
  | zero => intro t h; cases h
  | succ n ih =>
    intro t hr hn
    rw [rightE, Bool.and_eq_true, List.all_eq_true] at hr
    obtain ⟨h1, h2⟩ := hr
    rw [nmd] at hn
    unfold SaneD
    rw [Sane]
    unfold shapely at h2
    have hlen0 : (subs t).length = 0 → subs t = [] := List.length_eq_zero_iff.1
    refine ⟨fun k1 => ?_, fun k => ?_, fun k => ?_, fun x hx => ?_⟩
    · rw [if_pos k1] at hn
      intro e
      rw [e] at hn
      cases hn
    · rw [if_neg (by omega), if_neg (by omega), if_neg (by omega), if_pos k] at h2
      simp at h2
      intro e
      rw [e] at h2
      simp at h2
    · rw [if_neg (by omega), if_neg (by omega), if_pos k] at h2
      simp at h2
      exact List.length_eq_one_iff.1 h2.2
    · by_cases k1 : kindT t = 1
      · rw [if_neg (by omega), if_pos k1] at h2
        simp at h2
        rw [h2.2] at hx
        cases hx
      · rw [if_neg k1, List.all_eq_true] at hn
        have := h1 x hx
        rw [Bool.and_eq_true] at this
        exact ih x this.2 (hn x hx)
theorem chk_zero {n : Nat} {t : DataW Unit} {gs : List Grp} (h : chk n t gs = 0) : SaneD gs n t ∧ rightG gs = true ∧ size subs n t ≤ 200 := by
  unfold chk at h
  split at h
  · rename_i hc
    split at h
    · rename_i hr
      split at h
      · rename_i hn
        unfold checkE at hc
        split at hc
        · cases hc
        · rename_i h1
          split at hc
          · rename_i h2
            refine ⟨sane_of gs n t h2 hn, hr, ?_⟩
            have := cnt_size n t
            omega
          · cases hc
      · cases h
    · cases h
  · rename_i hc
    exact absurd h hc
/-- The places of a tree: all behind the end. -/
def planF (gs : List Grp) (n : Nat) (t : DataW Unit) : List Place := (layD gs n t 0 [((0, [], 0) : Place)]).1
def firstF (gs : List Grp) (n : Nat) (t : DataW Unit) : Nat := (layD gs n t 0 [((0, [], 0) : Place)]).2
theorem plan_sound {n : Nat} {t : DataW Unit} {gs : List Grp} (h : chk n t gs = 0) : Sound1 (planF gs n t) (planF gs n t).length ∧ firstF gs n t < (planF gs n t).length := by
  obtain ⟨h1, h2, h3⟩ := chk_zero h
  obtain ⟨a1, a2, a3, a4, a5, a6⟩ := layD_good gs n t h1 0 [((0, [], 0) : Place)] wf_one (by simp)
  have hf := lay_few kindT (fun t => maskG gs (nameT t)) subs (fun t => maskG_lt gs h2 _) 200 (by decide) n t h1 h3 0 [((0, [], 0) : Place)] wf_one (by simp) (fun i x hx => by
    cases i with
    | zero => simp at hx; rw [← hx]; exact ⟨by decide, by decide⟩
    | succ i => simp at hx)
  refine ⟨⟨a1, rfl, ?_, fun i x hx => (hf i x hx).1, fun i x hx => Nat.le_trans (hf i x hx).2 (by decide)⟩, a2⟩
  have : (planF gs n t).length ≤ 1 + size subs n t := a6
  omega
end Go.Proofs.YtofkiaeocfpkeaaGreatDoor

/- Walked: reg's walked at every tree, all groups and every word: what it returns; nothing that lay before is turned. -/
namespace Go.Proofs.YtofkiaeocfpkeaaGreatDoor
open Go.RowKit Go.Maps

/-- How a word is read from the place p: S: where one is then; i: how much of it begins a word. -/
def Read (F : List Place) (p : Nat) (zs : List Int) (S : Nat → Bool) (i : Nat) : Prop :=
  i ≤ zs.length ∧ (∃ q, afterS F (startS F p) (zs.take i) q) ∧ ((i = zs.length ∧ ∀ q, S q = true ↔ afterS F (startS F p) zs q) ∨ (i < zs.length ∧ (∀ q, S q = false) ∧ ∀ q, ¬ afterS F (startS F p) (zs.take (i + 1)) q))
/-- A walk that was made. -/
def Made (w0 w : World) (Bw : Nat) (F : List Place) (S : Nat → Bool) : Prop := w0.heap.size ≤ Bw ∧ ∃ lv bh bs, w0.heap.size ≤ bh ∧ w0.heap.size ≤ bs ∧ WalkAt w Bw lv bh bs F.length F S
theorem size_zero {w : World} {b n : Nat} {D : DataW Unit} {S : Nat → Bool} (h : w.ownsMap Tryz.prog 3 unitElem b n D) (hD : ∀ kl, Maps.has D kl = true ↔ ∃ p : Nat, kl = .int .i64 (p : Int) ∧ S p = true) : Maps.size D = 0 ↔ ∀ p, S p = false := by
  obtain ⟨es, e, _, hk⟩ := h.entries lawI
  subst e
  rw [Maps.size_eq]
  constructor
  · intro h0 p
    have : es = [] := List.length_eq_zero_iff.1 h0
    subst this
    cases hp : S p with
    | false => rfl
    | true =>
      have := (hD (.int .i64 (p : Int))).2 ⟨p, rfl, hp⟩
      cases this
  · intro hS
    cases es with
    | nil => rfl
    | cons x r =>
      have : Maps.has (.map (x :: r)) x.1 = true := List.any_eq_true.2 ⟨x, List.mem_cons_self .., WideAt.sameKey_self (hk x (List.mem_cons_self ..))⟩
      obtain ⟨p, _, hp⟩ := (hD x.1).1 this
      rw [hS p] at hp
      cases hp
theorem take_step {F : List Place} {p : Nat} {zs : List Int} {i : Nat} {t : Int} (h : zs[i]? = some t) : afterS F (startS F p) (zs.take (i + 1)) = stepS F (afterS F (startS F p) (zs.take i)) t := by
  rw [List.take_add_one, h]
  exact afterS_snoc F _ _ _
theorem stepS_congr {F : List Place} {S S' : Nat → Prop} (h : ∀ q, S q ↔ S' q) (t : Int) (q : Nat) : stepS F S t q ↔ stepS F S' t q := by
  constructor
  · rintro ⟨a, x, r, k, h1, h2⟩
    exact ⟨a, x, r, k, (h a).1 h1, h2⟩
  · rintro ⟨a, x, r, k, h1, h2⟩
    exact ⟨a, x, r, k, (h a).2 h1, h2⟩
set_option maxRecDepth 100000 in
set_option maxHeartbeats 1000000 in
theorem walked_no (n : Nat) (t : DataW Unit) (v : Value) (ga : Option Addr) (gl gc : Nat) (gs : List Grp) (za : Option Addr) (zl zc : Nat) (w : World) (h : Ex w n t v) (hN : named n t) (hG : Groups w ga gl gs) (hc : chk n t gs ≠ 0) :
    Calls Tryz.prog 37 #[v, .slice ga gl gc, .slice za zl zc] w fun e w' => ∃ Bw, e = .returned (.tuple #[.pointer (some ⟨Bw, 0, none⟩), .int .i64 0]) ∧ w'.heap[Bw]? = some (.cells #[.slice none 0 0, .map none, .map none] 81 (0, 0)) ∧ Below w.heap.size w w' := by
  have H1 : Hid (∀ W, Below w.heap.size w W → Calls Tryz.prog 88 #[v, .slice ga gl gc] W fun e w' => e = .returned (.int .i64 (chk n t gs)) ∧ Below W.heap.size W w') := fun W hW => rcheck_calls n t v ga gl gc gs W (Ex.below hW _ _ _ h) hN (hG.below hW)
  generalize chk n t gs = c at *
  have e0 : (c == 0) = false := by simpa using hc
  have e1 : (c != 0) = true := by simp [bne, e0]
  have HB0 : Hid (∀ o, Below w.heap.size w (w.alloc o)) := fun o => (Below.refl _ w).alloc (Nat.le_refl _) _
  obtain ⟨k, s, a, len, cap, rfl⟩ : ∃ k s a len cap, v = .agg #[.int .i64 k, .string s, .slice a len cap] := by
    cases n with
    | zero => exact h.elim
    | succ n => obtain ⟨k, s, a, len, cap, ts, _, rfl, _⟩ := h; exact ⟨k, s, a, len, cap, rfl⟩
  clear h hN hG hc
  go_enter Tryz.func37, Tryz.ntmps37
  go_wp2_with fail
  refine (H1.out _ (HB0.out _)).mono ?_
  rintro e W ⟨rfl, hW⟩
  have hB1 : Below w.heap.size w W := (HB0.out _).trans (hW.mono (by simp))
  have HE : Hid ((W.alloc (.cells #[.slice none 0 0, .map none, .map none] 81)).heap[W.heap.size]? = some (.cells #[.slice none 0 0, .map none, .map none] 81 (0, 0)) ∧ Below w.heap.size w (W.alloc (.cells #[.slice none 0 0, .map none, .map none] 81))) := ⟨World.alloc_heap_new W _, hB1.alloc hB1.size _⟩
  clear hW hB1
  go_wp2
  go_ret2
  exact ⟨_, rfl, HE.out⟩
set_option maxRecDepth 100000 in
set_option maxHeartbeats 1000000 in
theorem walked_calls (n : Nat) (t : DataW Unit) (v : Value) (ga : Option Addr) (gl gc : Nat) (gs : List Grp) (za : Option Addr) (zl zc : Nat) (zs : List Int) (w : World) (h : Ex w n t v) (hN : named n t) (hG : Groups w ga gl gs) (hZ : Ints w za zl zs) (hc : chk n t gs = 0) :
    Calls Tryz.prog 37 #[v, .slice ga gl gc, .slice za zl zc] w fun e w' => ∃ (Bw : Nat) (S : Nat → Bool) (i : Nat), e = .returned (.tuple #[.pointer (some ⟨Bw, 0, none⟩), .int .i64 (i : Int)]) ∧ Made w w' Bw (planF gs n t) S ∧ Read (planF gs n t) (firstF gs n t) zs S i ∧ Below w.heap.size w w' := by
  have H1 : Hid (∀ W, Below w.heap.size w W → Calls Tryz.prog 88 #[v, .slice ga gl gc] W fun e w' => e = .returned (.int .i64 0) ∧ Below W.heap.size W w') := fun W hW => by
    have := rcheck_calls n t v ga gl gc gs W (Ex.below hW _ _ _ h) hN (hG.below hW)
    rwa [hc] at this
  obtain ⟨hsane, hgr, hsz⟩ := chk_zero hc
  obtain ⟨hsound, hfirst⟩ := plan_sound hc
  have hneed : need subs n t ≤ 40003 * size subs n t := need_le subs n t hsz (fun _ _ _ _ => .inr trivial)
  have HB0 : Hid (∀ o, Below w.heap.size w (w.alloc o)) := fun o => (Below.refl _ w).alloc (Nat.le_refl _) _
  obtain ⟨k, s, a, len, cap, rfl⟩ : ∃ k s a len cap, v = .agg #[.int .i64 k, .string s, .slice a len cap] := by
    cases n with
    | zero => exact h.elim
    | succ n => obtain ⟨k, s, a, len, cap, ts, _, rfl, _⟩ := h; exact ⟨k, s, a, len, cap, rfl⟩
  obtain ⟨hzl, hzs, _⟩ := id hZ
  have HF0 : Hid (∀ W : World, Below (w.alloc (.cells #[.int .i64 k, .string s, .slice a len cap] 26)).heap.size (w.alloc (.cells #[.int .i64 k, .string s, .slice a len cap] 26)) W → W.cell? ⟨w.heap.size, 0, none⟩ = some (.int .i64 k) ∧ W.cell? ⟨w.heap.size, 1, none⟩ = some (.string s) ∧ W.cell? ⟨w.heap.size, 2, none⟩ = some (.slice a len cap) ∧ Below w.heap.size w W) := fun W hW => one_kept hW
  -- the plan, and lay
  have HL : Hid (∀ W : World, Below (w.alloc (.cells #[.int .i64 k, .string s, .slice a len cap] 26)).heap.size (w.alloc (.cells #[.int .i64 k, .string s, .slice a len cap] 26)) W →
      ∃ W2, W2 = (W.alloc (.cells #[.int .u16 0, .slice none 0 0, .int .i64 0] 87)).alloc (.cells #[.slice ga gl gc, .slice (some ⟨W.heap.size, 0, none⟩) 1 1] 151) ∧ W2.cell? ⟨w.heap.size, 0, none⟩ = some (.int .i64 k) ∧ W2.cell? ⟨w.heap.size, 1, none⟩ = some (.string s) ∧ W2.cell? ⟨w.heap.size, 2, none⟩ = some (.slice a len cap) ∧
      Calls Tryz.prog 89 #[.pointer (some ⟨W.heap.size + 1, 0, none⟩), .agg #[.int .i64 k, .string s, .slice a len cap], .int .i64 0] W2 fun e W3 => e = .returned (.int .i64 (firstF gs n t : Int)) ∧ ∃ g cap, W3.cell? ⟨W.heap.size + 1, 1, none⟩ = some (.slice (some ⟨g, 0, none⟩) (planF gs n t).length cap) ∧ Places W3 (.slice (some ⟨g, 0, none⟩) (planF gs n t).length cap) (planF gs n t) ∧ Below w.heap.size w W3) := by
    intro W hW
    have hBw := (HF0.out W hW).2.2.2
    obtain ⟨W2, hW2⟩ : ∃ W2, W2 = (W.alloc (.cells #[.int .u16 0, .slice none 0 0, .int .i64 0] 87)).alloc (.cells #[.slice ga gl gc, .slice (some ⟨W.heap.size, 0, none⟩) 1 1] 151) := ⟨_, rfl⟩
    have hb2 : Below W.heap.size W W2 := by rw [hW2]; exact ((Below.refl _ W).alloc (Nat.le_refl _) _).alloc (by simp) _
    have hs2 : W2.heap.size = W.heap.size + 2 := by rw [hW2]; simp
    have m0 : W2.heap[W.heap.size]? = some (.cells #[.int .u16 0, .slice none 0 0, .int .i64 0] 87 (0, 0)) := by rw [hW2, Below.heap_alloc _ _ _ (by simp)]; exact World.alloc_heap_new W _
    have m1 : W2.heap[W.heap.size + 1]? = some (.cells #[.slice ga gl gc, .slice (some ⟨W.heap.size, 0, none⟩) 1 1] 151 (0, 0)) := by
      rw [hW2]
      have := World.alloc_heap_new (W.alloc (.cells #[.int .u16 0, .slice none 0 0, .int .i64 0] 87)) (.cells #[.slice ga gl gc, .slice (some ⟨W.heap.size, 0, none⟩) 1 1] 151)
      rwa [World.size_alloc] at this
    have hPlan : PlanIn (fun b => W.heap.size ≤ b) W2 (W.heap.size + 1) (.slice ga gl gc) [((0, [], 0) : Place)] := by
      refine ⟨.slice (some ⟨W.heap.size, 0, none⟩) 1 1, [(0, .slice none 0 0, 0)], m1, by omega, ⟨rfl, .inr ⟨W.heap.size, 1, _, rfl, Nat.zero_le _, m0, Nat.le_refl _, by unfold maxLen; omega, rfl, rfl⟩⟩, fun g hg => ?_, rfl, fun i x hx => ?_, fun i j ri rj g hi hj => ?_⟩
      · have := own_some hg
        omega
      · cases i with
        | zero =>
          simp at hx
          subst hx
          exact ⟨_, rfl, rfl, rfl, World.ownsRow_nil .., fun g hg => by cases hg⟩
        | succ i => simp at hx
      · cases i with
        | zero => cases j with
          | zero => intro _ _; rfl
          | succ j => simp at hj
        | succ i => simp at hi
    obtain ⟨q0, q1, q2, _⟩ := HF0.out W2 (hW.trans (hb2.mono hW.size))
    refine ⟨W2, hW2, q0, q1, q2, ?_⟩
    have hsz1 : w.heap.size ≤ W.heap.size := hBw.size
    have := lay_calls w gs ga gl gc hG hgr n t _ W2 0 (fun b => W.heap.size ≤ b) (W.heap.size + 1) _ h hsane (hBw.trans (hb2.mono hsz1)) (fun b hb => by omega) hPlan wf_one (by simp) (by simp; omega)
    refine this.mono ?_
    rintro e W3 ⟨rfl, A', hP', hF'⟩
    obtain ⟨lv, hblk, hpl⟩ := hP'.places
    obtain ⟨g, cap', rfl, _⟩ := hpl.slice hsound.wf.pos
    refine ⟨rfl, g, cap', (cells_plan hblk).2.1, hpl, ?_⟩
    exact (hBw.trans (hb2.mono hsz1)).trans (hF'.toBelow (base := w.heap.size) (by omega) (fun b hb hA => by omega))
  -- the walk, and the first set
  have HM : Hid (∀ (W3 : World) (g cap : Nat), Places W3 (.slice (some ⟨g, 0, none⟩) (planF gs n t).length cap) (planF gs n t) → Below w.heap.size w W3 → ∃ W4, W4 = ((W3.alloc (.map #[] 0)).alloc (.map #[] 0)).alloc (.cells #[.slice (some ⟨g, 0, none⟩) (planF gs n t).length cap, .map (some W3.heap.size), .map (some (W3.heap.size + 1))] 81) ∧ W4.cell? ⟨W3.heap.size + 1 + 1, 0, none⟩ = some (.slice (some ⟨g, 0, none⟩) (planF gs n t).length cap) ∧ W4.cell? ⟨W3.heap.size + 1 + 1, 1, none⟩ = some (.map (some W3.heap.size)) ∧
      WalkAt W4 (W3.heap.size + 1 + 1) (.slice (some ⟨g, 0, none⟩) (planF gs n t).length cap) W3.heap.size (W3.heap.size + 1) (planF gs n t).length (planF gs n t) (fun _ => false) ∧ W4.heap.size = W3.heap.size + 3 ∧ Below w.heap.size w W4) := by
    intro W3 g cap' hpl hB3
    obtain ⟨W4, hW4⟩ : ∃ W4, W4 = ((W3.alloc (.map #[] 0)).alloc (.map #[] 0)).alloc (.cells #[.slice (some ⟨g, 0, none⟩) (planF gs n t).length cap', .map (some W3.heap.size), .map (some (W3.heap.size + 1))] 81) := ⟨_, rfl⟩
    have hblk : W4.heap[W3.heap.size + 1 + 1]? = some (.cells #[.slice (some ⟨g, 0, none⟩) (planF gs n t).length cap', .map (some W3.heap.size), .map (some (W3.heap.size + 1))] 81 (0, 0)) := by
      rw [hW4]
      have := World.alloc_heap_new ((W3.alloc (.map #[] 0)).alloc (.map #[] 0)) (.cells #[.slice (some ⟨g, 0, none⟩) (planF gs n t).length cap', .map (some W3.heap.size), .map (some (W3.heap.size + 1))] 81)
      rwa [World.size_alloc, World.size_alloc] at this
    have hg4 : W3.grownBy W4 none := by rw [hW4]; exact ((World.grownBy_alloc W3 _ none).trans (World.grownBy_alloc _ _ none)).trans (World.grownBy_alloc _ _ none)
    have hemp : ∀ (X : World) (b : Nat), X.ownsMap Tryz.prog 3 (unitElem (H := Unit)) b 0 (.map []) → SetAt X b (planF gs n t).length (fun _ => false) := fun X b hX => set_of hX (fun p hp => by cases hp) (fun kl => ⟨fun e => (by cases e), fun ⟨_, _, e⟩ => (by cases e)⟩)
    have s1 : SetAt W4 W3.heap.size (planF gs n t).length (fun _ => false) := by
      rw [hW4]
      exact hemp _ _ (((World.ownsMap_made W3 Tryz.prog 3 unitElem).alloc _).alloc _)
    have s2 : SetAt W4 (W3.heap.size + 1) (planF gs n t).length (fun _ => false) := by
      rw [hW4]
      have := (World.ownsMap_made (W3.alloc (.map #[] 0)) Tryz.prog 3 (unitElem (H := Unit))).alloc (.cells #[.slice (some ⟨g, 0, none⟩) (planF gs n t).length cap', .map (some W3.heap.size), .map (some (W3.heap.size + 1))] 81)
      rw [World.size_alloc] at this
      exact hemp _ _ this
    obtain ⟨c0, c1, _⟩ := cells3 hblk
    refine ⟨W4, hW4, c0, c1, ⟨hblk, s1, s2, by omega, hpl.others fun b c ty hb => hg4.block b (Array.getElem?_eq_some_iff.1 hb).1 (by simp)⟩, by rw [hW4]; simp, ?_⟩
    rw [hW4]
    exact ((hB3.alloc hB3.size _).alloc (by have := hB3.size; simp; omega) _).alloc (by have := hB3.size; simp; omega) _
  generalize hFd : planF gs n t = F at *
  generalize hfd : firstF gs n t = first at *
  have HGS : Hid (∀ (W4 W5 W6 : World) (Bw bh bs : Nat) (lv : Value) (S' : Nat → Bool), WalkAt W4 Bw lv bh bs F.length F (fun _ => false) → w.heap.size ≤ bh → w.heap.size ≤ bs → w.heap.size ≤ Bw → Below w.heap.size w W4 → W4.drew.grownBy W5 none → W5.grownBy W6 (some bh) → SetAt W6 bh F.length S' → Grown F (fun _ => false) S' first → ∃ bh bs S, WalkAt W6 Bw lv bh bs F.length F S ∧ w.heap.size ≤ bh ∧ w.heap.size ≤ bs ∧ (∀ q, S q = true ↔ afterS F (startS F first) (zs.take 0) q) ∧ (∃ q, afterS F (startS F first) (zs.take 0) q) ∧ Below w.heap.size w W6) := by
    intro W4 W5 W6 Bw bh bs lv S' hW h1 h2 h3 hB g5 g6 hS hG
    have hB5 : Below w.heap.size w W5 := hB.drew.trans ⟨g5.os, g5.tape, g5.output, g5.size, fun k hk => g5.block k (Nat.lt_of_lt_of_le hk hB.size) (by simp)⟩
    have hB6 : Below w.heap.size w W6 := hB5.grown g6 hB5.size (fun k e => by cases e; exact h1)
    have hs5 : ∀ k, k < W4.heap.size → W5.heap[k]? = W4.heap[k]? := fun k hk => g5.block k hk (by simp)
    have hs6 : ∀ k, k < W4.heap.size → k ≠ bh → W6.heap[k]? = W4.heap[k]? := fun k hk hne => (g6.block k (Nat.lt_of_lt_of_le hk g5.size) (fun e => hne (by cases e; rfl))).trans (hs5 k hk)
    have hcs : ∀ (b : Nat) (c : Array Value) (ty : TypeId), W4.heap[b]? = some (.cells c ty (0, 0)) → W6.heap[b]? = W4.heap[b]? := fun b c ty hb => hs6 b (Array.getElem?_eq_some_iff.1 hb).1 (fun e => by subst e; exact hW.here.notCells hb)
    have hsp : SetAt W6 bs F.length (fun _ => false) := by
      obtain ⟨D, ⟨es, ck, hb, r1⟩, r2⟩ := hW.spare
      exact ⟨D, ⟨es, ck, (hs6 bs (Array.getElem?_eq_some_iff.1 hb).1 (Ne.symm hW.ne)).trans hb, r1⟩, r2⟩
    refine ⟨bh, bs, S', ⟨(hcs _ _ _ hW.blk).trans hW.blk, hS, hsp, hW.ne, hW.pl.others hcs⟩, h1, h2, fun q => ?_, ⟨first, 0, rfl⟩, hB6⟩
    rw [(hG.iff (fun q x hq => by cases hq)).2]
    show _ ↔ startS F first q
    constructor
    · rintro (e | e)
      · cases e
      · exact e
    · intro e; exact .inr e
  have HRE : Hid (∀ (W4 : World) (g cap bh : Nat), Calls Tryz.prog 90 #[.slice (some ⟨g, 0, none⟩) F.length cap, .map (some bh)] W4.drew fun e w' => e = .returned (.func (.func 137) #[] #[.pointer (some ⟨W4.heap.size + 1, 0, none⟩), .pointer (some ⟨W4.heap.size, 0, none⟩), .pointer (some ⟨W4.heap.size + 1 + 1, 0, none⟩)]) ∧ Clo w' bh W4.heap.size (W4.heap.size + 1) (W4.heap.size + 1 + 1) (.slice (some ⟨g, 0, none⟩) F.length cap) ∧ W4.drew.grownBy w' none) := fun W4 g cap bh => reach_calls W4.drew (some ⟨g, 0, none⟩) F.length cap bh
  have HGR : Hid (∀ (W4 W5 : World) (Bw bh bs B1 B2 B3 : Nat) (lv : Value), WalkAt W4 Bw lv bh bs F.length F (fun _ => false) → W4.drew.grownBy W5 none → Clo W5 bh B1 B2 B3 lv → Calls Tryz.prog 137 #[.int .i64 (first : Int), .pointer (some ⟨B2, 0, none⟩), .pointer (some ⟨B1, 0, none⟩), .pointer (some ⟨B3, 0, none⟩)] W5 fun e w' => e = .returned (.tuple #[]) ∧ ∃ S', SetAt w' bh F.length S' ∧ Grown F (fun _ => false) S' first ∧ W5.grownBy w' (some bh)) := by
    intro W4 W5 Bw bh bs B1 B2 B3 lv hW g5 hC
    exact grow_calls F lv bh B1 B2 B3 F.length rfl hsound.small hsound.lt hsound.next _ first W5 (fun _ => false) (Nat.le_refl _) (SetAt.kept (w := W4.drew) hW.here g5 (by simp)) (hW.pl.others fun b c ty hb => g5.block b (Array.getElem?_eq_some_iff.1 hb).1 (by simp)) hC hfirst
  -- a round
  have HT : Hid (∀ (j : Nat) (tt : Int) (wr : World) (Bw bh bs : Nat) (lv : Value) (S : Nat → Bool), zs[j]? = some tt → WalkAt wr Bw lv bh bs F.length F S → w.heap.size ≤ Bw → w.heap.size ≤ bh → w.heap.size ≤ bs → (∀ q, S q = true ↔ afterS F (startS F first) (zs.take j) q) → Below w.heap.size w wr → Calls Tryz.prog 42 #[.pointer (some ⟨Bw, 0, none⟩), .int .i64 tt] wr fun e w' => e = .returned (.tuple #[]) ∧ ∃ S', WalkAt w' Bw lv bs bh F.length F S' ∧ (∀ q, S' q = true ↔ afterS F (startS F first) (zs.take (j + 1)) q) ∧ Below w.heap.size w w') := by
    intro j tt wr Bw bh bs lv S hj hW h1 h2 h3 hS hB
    refine (take_calls F F.length hsound Bw bh bs lv S tt wr hW).mono ?_
    rintro e W' ⟨rfl, S', hW', hS', hb0, hsm⟩
    refine ⟨rfl, S', hW', fun q => ?_, ?_⟩
    · rw [hS', take_step hj]
      exact stepS_congr hS tt q
    · exact hB.trans ⟨hb0.os, hb0.tape, hb0.output, hb0.size, fun k hk => hsm k (Nat.lt_of_lt_of_le hk hB.size) (by omega) (by omega) (by omega)⟩
  have HZ : Hid (∀ (wr : World) (j : Nat), Below w.heap.size w wr → j < zl → ∃ b o x, za = some ⟨b, o, none⟩ ∧ zs[j]? = some x ∧ wr.cell? ⟨b, o + j, none⟩ = some (.int .i64 x)) := fun wr j hB hj => by
    obtain ⟨b, o, x, e1, e2, e3⟩ := hZ.at hj
    exact ⟨b, o, x, e1, e2, e3 wr hB⟩
  clear hZ h hN hG hc hsane hgr hsz hneed hfirst hFd hfd
  go_enter Tryz.func37, Tryz.ntmps37
  go_wp2_with fail
  refine (H1.out _ (HB0.out _)).mono ?_
  rintro e W ⟨rfl, hW⟩
  obtain ⟨W2, hW2, x0, x1, x2, hlay⟩ := HL.out W hW
  obtain ⟨y0, y1, y2, hBW⟩ := HF0.out W hW
  have hlt : w.heap.size < W.heap.size := by have := hW.size; simp at this; omega
  have HW2 : Hid (W2 = (W.alloc (.cells #[.int .u16 0, .slice none 0 0, .int .i64 0] 87)).alloc (.cells #[.slice ga gl gc, .slice (some ⟨W.heap.size, 0, none⟩) 1 1] 151)) := hW2
  subst hW2
  clear hW HL HF0 H1 HB0 hBW
  go_wp2_with fail
  refine hlay.mono ?_
  rintro e W3 ⟨rfl, g, cap3, p1, hpl, hB3⟩
  obtain ⟨W4, hW4, d0, d1, hWalk, hs4, hB4⟩ := HM.out W3 g cap3 hpl hB3
  have HW4 : Hid (W4 = ((W3.alloc (.map #[] 0)).alloc (.map #[] 0)).alloc (.cells #[.slice (some ⟨g, 0, none⟩) F.length cap3, .map (some W3.heap.size), .map (some (W3.heap.size + 1))] 81)) := hW4
  have hs3 : w.heap.size ≤ W3.heap.size := hB3.size
  have HS4 : Hid (W4.heap.size = W3.heap.size + 3) := hs4
  clear hs4
  have hmm := @run_makeMap Tryz.prog
  clear hlay hW4 HM x0 x1 x2 y0 y1 y2 hpl hB3 HW2
  go_wp2_with fail
  rw [← HW4.out]
  clear HW4 hmm p1
  refine wp_region_held_drew (S := fun X => X.cell? ⟨W3.heap.size + 1 + 1, 0, none⟩ = some (.slice (some ⟨g, 0, none⟩) F.length cap3) ∧ X.cell? ⟨W3.heap.size + 1 + 1, 1, none⟩ = some (.map (some W3.heap.size))) hmx ⟨d0, d1⟩ (fun hS => ?_)
  refine takeD 0 (some 35) (v := ?_) rfl rfl (by kernel_rfl) (by kernel_rfl) (by kernel_rfl) (fun _ _ _ h => h) (Or.inl ⟨by rfl, ?_⟩) hS ?_
  rotate_left
  · intro w hSw
    obtain ⟨s1, s2⟩ := hSw
    try go_simp
    with_reducible rfl
  try simp only [Act.put, List.setIfInBounds_toArray, List.set_cons_zero, List.set_cons_succ]
  refine takeD 1 (some 36) (v := ?_) rfl rfl (by kernel_rfl) (by kernel_rfl) (by kernel_rfl) (fun _ _ _ h => h) (Or.inl ⟨by rfl, ?_⟩) hS ?_
  rotate_left
  · intro w hSw
    obtain ⟨s1, s2⟩ := hSw
    go_simp
    with_reducible rfl
  try simp only [Act.put, List.setIfInBounds_toArray, List.set_cons_zero, List.set_cons_succ]
  refine takeD 2 (some 37) (v := ?_) rfl rfl (by kernel_rfl) (by kernel_rfl) (by kernel_rfl) (fun _ _ _ h => h) (Or.inl ⟨by rfl, ?_⟩) hS ?_
  rotate_left
  · intro w hSw
    obtain ⟨s1, s2⟩ := hSw
    go_simp
    with_reducible rfl
  try simp only [Act.put, List.setIfInBounds_toArray, List.set_cons_zero, List.set_cons_succ]
  refine takeD 3 (some 38) (v := ?_) rfl rfl (by kernel_rfl) (by kernel_rfl) (by kernel_rfl) (fun _ _ _ h => h) (Or.inl ⟨by rfl, ?_⟩) hS ?_
  rotate_left
  · intro w hSw
    obtain ⟨s1, s2⟩ := hSw
    go_simp
    with_reducible rfl
  try simp only [Act.put, List.setIfInBounds_toArray, List.set_cons_zero, List.set_cons_succ]
  refine takeD 4 (some 39) (v := ?_) rfl rfl (by kernel_rfl) (by kernel_rfl) (by kernel_rfl) (fun _ _ _ h => h) (Or.inl ⟨by rfl, ?_⟩) hS ?_
  rotate_left
  · intro w hSw
    obtain ⟨s1, s2⟩ := hSw
    try go_simp
    with_reducible rfl
  try simp only [Act.put, List.setIfInBounds_toArray, List.set_cons_zero, List.set_cons_succ]
  refine takeD 5 (some 40) (v := ?_) rfl rfl (by kernel_rfl) (by kernel_rfl) (by kernel_rfl) (fun _ _ _ h => h) (Or.inl ⟨by rfl, ?_⟩) hS ?_
  rotate_left
  · intro w hSw
    obtain ⟨s1, s2⟩ := hSw
    go_simp
    with_reducible rfl
  try simp only [Act.put, List.setIfInBounds_toArray, List.set_cons_zero, List.set_cons_succ]
  refine takeD 6 (some 41) (v := ?_) rfl rfl (by kernel_rfl) (by kernel_rfl) (by kernel_rfl) (fun _ _ _ h => h) (Or.inl ⟨by rfl, ?_⟩) hS ?_
  rotate_left
  · intro w hSw
    obtain ⟨s1, s2⟩ := hSw
    go_simp
    with_reducible rfl
  try simp only [Act.put, List.setIfInBounds_toArray, List.set_cons_zero, List.set_cons_succ]
  refine takeD 7 (some 42) (v := ?_) rfl rfl (by kernel_rfl) (by kernel_rfl) (by kernel_rfl) (fun _ _ _ h => h) (Or.inl ⟨by rfl, ?_⟩) hS ?_
  rotate_left
  · intro w hSw
    obtain ⟨s1, s2⟩ := hSw
    go_simp
    with_reducible rfl
  try simp only [Act.put, List.setIfInBounds_toArray, List.set_cons_zero, List.set_cons_succ]
  refine takeD 9 (some 44) (v := ?_) rfl rfl (by kernel_rfl) (by kernel_rfl) (by kernel_rfl) (fun _ _ _ h => h) (Or.inl ⟨by rfl, ?_⟩) hS ?_
  rotate_left
  · intro w hSw
    obtain ⟨s1, s2⟩ := hSw
    try go_simp
    with_reducible rfl
  try simp only [Act.put, List.setIfInBounds_toArray, List.set_cons_zero, List.set_cons_succ]
  refine callD 8 (by kernel_rfl) rfl (fun K hK => ?_)
  go_simp
  refine (HRE.out _ _ _ _).mono ?_
  rintro e W5 ⟨rfl, hC5, hg5⟩
  have hBlt : W3.heap.size + 1 + 1 < W4.heap.size := by have := HS4.out; omega
  have hS5 : W5.cell? ⟨W3.heap.size + 1 + 1, 0, none⟩ = some (.slice (some ⟨g, 0, none⟩) F.length cap3) ∧ W5.cell? ⟨W3.heap.size + 1 + 1, 1, none⟩ = some (.map (some W3.heap.size)) := by
    have hb : W5.heap[W3.heap.size + 1 + 1]? = W4.drew.heap[W3.heap.size + 1 + 1]? := hg5.block _ hBlt (by simp)
    exact ⟨(World.cell?_of_block (w := W4.drew) (a := ⟨W3.heap.size + 1 + 1, 0, none⟩) hb).trans d0, (World.cell?_of_block (w := W4.drew) (a := ⟨W3.heap.size + 1 + 1, 1, none⟩) hb).trans d1⟩
  have HCA := HGR.out W4 W5 _ _ _ _ _ _ _ hWalk hg5 hC5
  refine hK.out _ _ hS5 (fun _ => ?_)
  clear hK K
  try simp only [Act.put, List.setIfInBounds_toArray, List.set_cons_zero, List.set_cons_succ]
  refine callD 10 (by kernel_rfl) rfl (fun K hK => ?_)
  go_simp
  refine HCA.mono ?_
  rintro e W6 ⟨rfl, S0, hS6, hG6, hg6⟩
  have HI0 : Hid (∃ bh bs S, WalkAt W6 (W3.heap.size + 1 + 1) (.slice (some ⟨g, 0, none⟩) F.length cap3) bh bs F.length F S ∧ w.heap.size ≤ bh ∧ w.heap.size ≤ bs ∧ (∀ q, S q = true ↔ afterS F (startS F first) (zs.take 0) q) ∧ (∃ q, afterS F (startS F first) (zs.take 0) q) ∧ Below w.heap.size w W6) := HGS.out W4 W5 W6 _ _ _ _ S0 hWalk (by omega) (by omega) (by omega) hB4 hg5 hg6 hS6 hG6
  have hS6' : W6.cell? ⟨W3.heap.size + 1 + 1, 0, none⟩ = some (.slice (some ⟨g, 0, none⟩) F.length cap3) ∧ W6.cell? ⟨W3.heap.size + 1 + 1, 1, none⟩ = some (.map (some W3.heap.size)) := by
    have hb : W6.heap[W3.heap.size + 1 + 1]? = W5.heap[W3.heap.size + 1 + 1]? := hg6.block _ (Nat.lt_of_lt_of_le hBlt hg5.size) (by simp; omega)
    exact ⟨(World.cell?_of_block (w := W5) (a := ⟨W3.heap.size + 1 + 1, 0, none⟩) hb).trans hS5.1, (World.cell?_of_block (w := W5) (a := ⟨W3.heap.size + 1 + 1, 1, none⟩) hb).trans hS5.2⟩
  refine hK.out _ _ hS6' (fun _ => ?_)
  clear hK K
  try simp only [Act.put, List.setIfInBounds_toArray, List.set_cons_zero, List.set_cons_succ]
  refine wpAnyH_done (by kernel_rfl) ?_ _
  obtain ⟨Bw, hBw⟩ : ∃ Bw, W3.heap.size + 1 + 1 = Bw := ⟨_, rfl⟩
  have HBw : Hid (w.heap.size ≤ Bw) := by show _ ≤ _; omega
  have hzl' : (zl : Int) ≤ 9223372036854775807 := by omega
  have HZL : Hid (zs.length = zl) := hzl
  clear HCA hS6' hS5 hC5 hg5 hg6 hS6 hG6 hWalk hB4 HGS HGR HRE d0 d1 hS HS4 hBlt hzl hs3 hlt
  rw [hBw] at HI0 ⊢
  clear hBw
  go_wp2_with fail
  go_loopw [48] (fun i wr => ∃ j : Nat, j ≤ zl ∧ i = .int .i64 (j : Int) ∧ ∃ bh bs S, WalkAt wr Bw (.slice (some ⟨g, 0, none⟩) F.length cap3) bh bs F.length F S ∧ w.heap.size ≤ bh ∧ w.heap.size ≤ bs ∧ (∀ q, S q = true ↔ afterS F (startS F first) (zs.take j) q) ∧ (∃ q, afterS F (startS F first) (zs.take j) q) ∧ Below w.heap.size w wr) (fun i _ => zl - (intOf i).toNat)
  case atStart => exact ⟨0, Nat.zero_le _, rfl, HI0.out⟩
  case round =>
    obtain ⟨j, hj, rfl, bh, bs, S, hWk, hbh, hbs, hSq, hne, hB⟩ := hrel
    by_cases hlt : j < zl
    · obtain ⟨b, o, x, rfl, hx, hcx⟩ := HZ.out wr j hB hlt
      have HCA := HT.out j x wr Bw bh bs _ S hx hWk HBw.out hbh hbs hSq hB
      have hji : (j : Int) < (zl : Int) := by omega
      have HNE : Hid (∃ q, afterS F (startS F first) (zs.take j) q) := hne
      clear hWk hSq hne hB HT HI0
      go_wp2_with fail
      refine HCA.mono ?_
      rintro e W' ⟨rfl, S', hW', hS', hB'⟩
      clear HCA
      obtain ⟨c0, c1, _⟩ := cells3 hW'.blk
      obtain ⟨D, hown, _, hD⟩ := id hW'.here
      have hsz := size_zero hown hD
      have HE1 : Hid (Maps.size D = 0 → Made w W' Bw F S' ∧ Read F first zs S' j ∧ Below w.heap.size w W') := fun h0 => by
        have hall := hsz.1 h0
        refine ⟨⟨HBw.out, _, _, _, hbs, hbh, hW'⟩, ⟨by have := HZL.out; omega, HNE.out, .inr ⟨by have := HZL.out; omega, hall, fun q hq => ?_⟩⟩, hB'⟩
        have := (hS' q).2 hq
        rw [hall q] at this
        cases this
      have HE2 : Hid (Maps.size D ≠ 0 → ∃ bh bs S, WalkAt W' Bw (.slice (some ⟨g, 0, none⟩) F.length cap3) bh bs F.length F S ∧ w.heap.size ≤ bh ∧ w.heap.size ≤ bs ∧ (∀ q, S q = true ↔ afterS F (startS F first) (zs.take (j + 1)) q) ∧ (∃ q, afterS F (startS F first) (zs.take (j + 1)) q) ∧ Below w.heap.size w W') := fun h0 => by
        refine ⟨bs, bh, S', hW', hbs, hbh, hS', ?_, hB'⟩
        have : ¬ ∀ p, S' p = false := fun h => h0 (hsz.2 h)
        have hex : ∃ p, S' p ≠ false := Classical.not_forall.1 this
        obtain ⟨p, hp⟩ := hex
        exact ⟨p, (hS' p).1 (by cases h : S' p with | true => rfl | false => exact absurd h hp)⟩
      clear hsz hD hW' hS' hB' hx hcx
      by_cases h0 : Maps.size D = 0
      · have hd : (((Maps.size D : Nat) : Int) == 0) = true := by rw [h0]; rfl
        have HE : Hid (Made w W' Bw F S' ∧ Read F first zs S' j ∧ Below w.heap.size w W') := HE1.out h0
        clear HE1 HE2 h0
        go_wp2_with (first
          | (at_len; refine wpList_len_own _ rfl _ 79 rfl 3 198 Tryz.underlying79 _ _ F.length D rfl hown ?_)
          | go_in)
        go_ret2
        exact ⟨Bw, S', j, rfl, HE.out⟩
      · have hd : (((Maps.size D : Nat) : Int) == 0) = false := by rw [beq_eq_false_iff_ne]; omega
        have HE : Hid (∃ bh bs S, WalkAt W' Bw (.slice (some ⟨g, 0, none⟩) F.length cap3) bh bs F.length F S ∧ w.heap.size ≤ bh ∧ w.heap.size ≤ bs ∧ (∀ q, S q = true ↔ afterS F (startS F first) (zs.take (j + 1)) q) ∧ (∃ q, afterS F (startS F first) (zs.take (j + 1)) q) ∧ Below w.heap.size w W') := HE2.out h0
        clear HE1 HE2 h0
        go_wp2_with (first
          | (at_len; refine wpList_len_own _ rfl _ 79 rfl 3 198 Tryz.underlying79 _ _ F.length D rfl hown ?_)
          | go_in)
        go_roundw
        case rel => exact ⟨j + 1, by omega, by first | rfl | go_num, HE.out⟩
        case measure => simp [intOf]; omega
    · obtain rfl : j = zl := by omega
      have HE : Hid (Made w wr Bw F S ∧ Read F first zs S j ∧ Below w.heap.size w wr) := by
        have hl := HZL.out
        refine ⟨⟨HBw.out, _, _, _, hbh, hbs, hWk⟩, ⟨by omega, hne, .inl ⟨hl.symm, fun q => ?_⟩⟩, hB⟩
        rw [hSq q, List.take_of_length_le (by omega)]
      clear hWk hSq hne hB HT HI0 HZ
      go_wp2
      go_ret2
      exact ⟨Bw, S, j, rfl, HE.out⟩
end Go.Proofs.YtofkiaeocfpkeaaGreatDoor

/- Acc: reg's Accepts at every tree, all groups and every word: it answers whether the word is of the tree's language; nothing that lay before is turned. -/
namespace Go.Proofs.YtofkiaeocfpkeaaGreatDoor
open Go.RowKit Go.Maps

/-- The words of a tree with these groups. -/
def LangD (gs : List Grp) : Nat → DataW Unit → List Int → Prop := Lang kindT (fun t => maskG gs (nameT t)) subs
theorem reads_end {F : List Place} (h0 : F[0]? = some (0, [], 0)) : ∀ {k : Nat} {v : List Int}, Reads F k 0 v → v = [] := by
  intro k v h
  cases k with
  | zero => exact h.2
  | succ k =>
    rcases h with h | ⟨x, hx, h⟩
    · exact h.2
    · rw [h0] at hx
      cases hx
      rcases h with ⟨_, q, hq, _⟩ | ⟨h, _⟩
      · cases hq
      · exact absurd rfl h
theorem via_reads {F : List Place} {q : Nat} {v : List Int} {m : Nat} (hR : Reads F m q v) : ∀ {k p : Nat}, Via F k p q → Reads F (k + m) p v := by
  intro k
  induction k with
  | zero => rintro p rfl; simpa using hR
  | succ k ih =>
    intro p hp
    rw [show k + 1 + m = k + m + 1 from by omega]
    rcases hp with rfl | ⟨y, hy, hz, s, hs, hp⟩
    · exact Reads.upto (by omega) hR
    · exact .inr ⟨y, hy, .inl ⟨hz, s, hs, ih hp⟩⟩
/-- What comes to the end behind a word is what has it. -/
theorem after_lang {n : Nat} {t : DataW Unit} {gs : List Grp} (h : chk n t gs = 0) (zs : List Int) : afterS (planF gs n t) (startS (planF gs n t) (firstF gs n t)) zs 0 ↔ LangD gs n t zs := by
  obtain ⟨h1, h2, h3⟩ := chk_zero h
  obtain ⟨hS, hf⟩ := plan_sound h
  have h0 := hS.wf.1
  rw [← reads_after h0 zs _ (startS_shut _ _)]
  have hlike : Like (planF gs n t) (planF gs n t) 1 (planF gs n t).length := fun _ _ _ => rfl
  constructor
  · rintro ⟨a, k, ⟨m, hm⟩, hr⟩
    obtain ⟨u, v, k', _, rfl, hu, hv⟩ := lay_sound kindT (fun t => maskG gs (nameT t)) subs (F := planF gs n t) n t h1 0 [((0, [], 0) : Place)] wf_one (by simp) hlike (m + k) zs (via_reads hr hm)
    rw [reads_end h0 hv, List.append_nil]
    exact hu
  · intro hl
    obtain ⟨k', hk⟩ := lay_full kindT (fun t => maskG gs (nameT t)) subs (F := planF gs n t) n t h1 0 [((0, [], 0) : Place)] wf_one (by simp) hlike zs [] 0 hl ⟨rfl, rfl⟩
    rw [List.append_nil] at hk
    exact ⟨_, k', ⟨0, rfl⟩, hk⟩
theorem read_zero {F : List Place} {p : Nat} {zs : List Int} {S : Nat → Bool} {i : Nat} (h : Read F p zs S i) : S 0 = true ↔ afterS F (startS F p) zs 0 := by
  obtain ⟨h1, h2, ⟨_, h3⟩ | ⟨h3, h4, h5⟩⟩ := h
  · exact h3 0
  · rw [h4 0]
    constructor
    · intro e; cases e
    · intro e
      exfalso
      have hsplit : zs = zs.take (i + 1) ++ zs.drop (i + 1) := (List.take_append_drop _ _).symm
      rw [hsplit] at e
      unfold afterS at e
      rw [List.foldl_append] at e
      exact afterS_empty (S := List.foldl (stepS F) (startS F p) (zs.take (i + 1))) h5 (zs.drop (i + 1)) 0 e
theorem look_nil0 (w : World) : (Instr.lookup 79 (.map none) (.int .i64 0) true).run Tryz.prog w = .ok (.tuple #[.agg #[], .bool false]) w := by
  have := Maps.look_nil (P := Tryz.prog) (w := w) (t := 79) (e := 198) true lawI Tryz.underlying79 (zeroU w) (keyOf_int_mk Tryz.underlying3 (a := 0) (by decide))
  simpa using this
set_option maxRecDepth 100000 in
set_option maxHeartbeats 1000000 in
theorem mayend_calls (w0 w : World) (Bw : Nat) (F : List Place) (S : Nat → Bool) (h : Made w0 w Bw F S) (_hN : F.length ≤ 1000000000) :
    Calls Tryz.prog 87 #[.pointer (some ⟨Bw, 0, none⟩)] w fun e w' => e = .returned (.bool (S 0)) ∧ Below w.heap.size w w' := by
  obtain ⟨_, lv, bh, bs, _, _, hW⟩ := h
  obtain ⟨c0, c1, _⟩ := cells3 hW.blk
  obtain ⟨D, hown, _, hD⟩ := hW.here
  have hk := has_iff hD 0
  have HB0 : Hid (∀ o, Below w.heap.size w (w.alloc o)) := fun o => (Below.refl _ w).alloc (Nat.le_refl _) _
  generalize S 0 = b at *
  clear hD hW
  go_enter Tryz.func87, Tryz.ntmps87
  go_wp2_with (first
    | (at_lookup; refine wpList_lookup_own_unit _ rfl _ _ 79 rfl 3 198 lawI Tryz.underlying79 (zeroU _) bh F.length D rfl hown _ _ rfl (keyOf_int_mk Tryz.underlying3 (a := 0) (by decide)) ?_; rw [show Maps.has D (.int .i64 0) = b from hk])
    | go_in)
  go_ret
  exact ⟨rfl, HB0.out _⟩
set_option maxRecDepth 100000 in
set_option maxHeartbeats 1000000 in
theorem mayend_nil (w : World) (Bw : Nat) (h : w.heap[Bw]? = some (.cells #[.slice none 0 0, .map none, .map none] 81 (0, 0))) :
    Calls Tryz.prog 87 #[.pointer (some ⟨Bw, 0, none⟩)] w fun e w' => e = .returned (.bool false) ∧ Below w.heap.size w w' := by
  obtain ⟨c0, c1, _⟩ := cells3 h
  have hl := fun w => look_nil0 w
  have HB0 : Hid (∀ o, Below w.heap.size w (w.alloc o)) := fun o => (Below.refl _ w).alloc (Nat.le_refl _) _
  clear h
  go_enter Tryz.func87, Tryz.ntmps87
  go_wp2
  go_ret
  exact ⟨rfl, HB0.out _⟩
set_option maxRecDepth 100000 in
set_option maxHeartbeats 1000000 in
theorem accepts_calls (n : Nat) (t : DataW Unit) (v : Value) (ga : Option Addr) (gl gc : Nat) (gs : List Grp) (za : Option Addr) (zl zc : Nat) (zs : List Int) (w : World) (h : Ex w n t v) (hN : named n t) (hG : Groups w ga gl gs) (hZ : Ints w za zl zs) :
    Calls Tryz.prog 36 #[v, .slice ga gl gc, .slice za zl zc] w fun e w' => ∃ b, e = .returned (.bool b) ∧ (b = true ↔ (chk n t gs = 0 ∧ LangD gs n t zs)) ∧ Below w.heap.size w w' := by
  have HB0 : Hid (∀ o, Below w.heap.size w (w.alloc o)) := fun o => (Below.refl _ w).alloc (Nat.le_refl _) _
  by_cases hc : chk n t gs = 0
  · have H1 : Hid (∀ W, Below w.heap.size w W → Calls Tryz.prog 37 #[v, .slice ga gl gc, .slice za zl zc] W fun e w' => ∃ (Bw : Nat) (S : Nat → Bool) (i : Nat), e = .returned (.tuple #[.pointer (some ⟨Bw, 0, none⟩), .int .i64 (i : Int)]) ∧ Made W w' Bw (planF gs n t) S ∧ Read (planF gs n t) (firstF gs n t) zs S i ∧ Below W.heap.size W w') := fun W hW => walked_calls n t v ga gl gc gs za zl zc zs W (Ex.below hW _ _ _ h) hN (hG.below hW) (hZ.below hW) hc
    have hsm := (plan_sound hc).1.small
    have HE : Hid (∀ S i, Read (planF gs n t) (firstF gs n t) zs S i → (S 0 = true ↔ (chk n t gs = 0 ∧ LangD gs n t zs))) := fun S i hr => by
      rw [read_zero hr, after_lang hc zs]
      exact ⟨fun e => ⟨hc, e⟩, fun e => e.2⟩
    obtain ⟨k, s, a, len, cap, rfl⟩ : ∃ k s a len cap, v = .agg #[.int .i64 k, .string s, .slice a len cap] := by
      cases n with
      | zero => exact h.elim
      | succ n => obtain ⟨k, s, a, len, cap, ts, _, rfl, _⟩ := h; exact ⟨k, s, a, len, cap, rfl⟩
    clear h hN hG hZ hc
    generalize planF gs n t = F at *
    generalize firstF gs n t = first at *
    go_enter Tryz.func36, Tryz.ntmps36
    go_wp2_with fail
    refine (H1.out _ (HB0.out _)).mono ?_
    rintro e W ⟨Bw, S, i, rfl, hM, hR, hW⟩
    have HM := mayend_calls _ W Bw F S hM hsm
    have hb := HE.out S i hR
    have HB : Hid (Below w.heap.size w W) := (HB0.out _).trans (hW.mono (by simp))
    have HI : Hid (S 0 = true ↔ (chk n t gs = 0 ∧ LangD gs n t zs)) := hb
    clear hM hR hW hb HE H1
    generalize S 0 = b at *
    go_wp2_with fail
    refine HM.mono ?_
    rintro e W2 ⟨rfl, hW2⟩
    go_wp2
    go_ret
    exact ⟨b, rfl, HI.out, HB.out.trans (hW2.mono HB.out.size)⟩
  · have H1 : Hid (∀ W, Below w.heap.size w W → Calls Tryz.prog 37 #[v, .slice ga gl gc, .slice za zl zc] W fun e w' => ∃ Bw, e = .returned (.tuple #[.pointer (some ⟨Bw, 0, none⟩), .int .i64 0]) ∧ w'.heap[Bw]? = some (.cells #[.slice none 0 0, .map none, .map none] 81 (0, 0)) ∧ Below W.heap.size W w') := fun W hW => walked_no n t v ga gl gc gs za zl zc W (Ex.below hW _ _ _ h) hN (hG.below hW) hc
    have HI : Hid (false = true ↔ (chk n t gs = 0 ∧ LangD gs n t zs)) := ⟨fun e => (by cases e), fun e => absurd e.1 hc⟩
    obtain ⟨k, s, a, len, cap, rfl⟩ : ∃ k s a len cap, v = .agg #[.int .i64 k, .string s, .slice a len cap] := by
      cases n with
      | zero => exact h.elim
      | succ n => obtain ⟨k, s, a, len, cap, ts, _, rfl, _⟩ := h; exact ⟨k, s, a, len, cap, rfl⟩
    clear h hN hG hZ hc
    generalize LangD gs n t zs = Q at *
    generalize (chk n t gs = 0) = Q2 at *
    go_enter Tryz.func36, Tryz.ntmps36
    go_wp2_with fail
    refine (H1.out _ (HB0.out _)).mono ?_
    rintro e W ⟨Bw, rfl, hM, hW⟩
    have HM := mayend_nil W Bw hM
    have HB : Hid (Below w.heap.size w W) := (HB0.out _).trans (hW.mono (by simp))
    clear hM hW H1
    go_wp2_with fail
    refine HM.mono ?_
    rintro e W2 ⟨rfl, hW2⟩
    go_wp2
    go_ret
    exact ⟨false, rfl, HI.out, HB.out.trans (hW2.mono HB.out.size)⟩
end Go.Proofs.YtofkiaeocfpkeaaGreatDoor

/- Awake: a name's language; the law's own awake answers true; nothing that lay before is turned. -/
namespace Go.Proofs.YtofkiaeocfpkeaaGreatDoor
open Go.RowKit

theorem bit_fold : ∀ (l : List Int) (m k : Nat), (l.foldl (fun m t => m ||| 2 ^ t.toNat) m).testBit k = (m.testBit k || l.any (fun t => t.toNat == k)) := by
  intro l
  induction l with
  | nil => intro m k; simp
  | cons t r ih =>
    intro m k
    rw [List.foldl_cons, ih, Nat.testBit_or, Nat.testBit_two_pow, List.any_cons, Bool.or_assoc]
    congr 2
theorem takes_mem {ts : List Int} (h : ts.all isTy = true) (a : Int) : takes (maskOf ts) a = true ↔ a ∈ ts := by
  have hty : ∀ x ∈ ts, 0 ≤ x ∧ x < 16 := fun x hx => by
    have := List.all_eq_true.1 h x hx
    unfold isTy at this
    simpa using this
  unfold takes maskOf
  rw [bit_fold]
  simp only [Nat.zero_testBit, Bool.false_or, Bool.and_eq_true, decide_eq_true_eq, List.any_eq_true, beq_iff_eq]
  constructor
  · rintro ⟨⟨h0, h1⟩, x, hx, e⟩
    have := hty x hx
    rw [show a = x from by omega]
    exact hx
  · intro ha
    exact ⟨hty a ha, a, ha, rfl⟩
def aName : ByteArray := ⟨#[97]⟩
theorem letters_a : letters ⟨#[97]⟩ = true := by simp [letters, ByteArray.toList_eq, letter]
theorem name_check : checkE 1 (node 1 ⟨#[97]⟩ []) = 0 := by
  have h3 : rightE 1 (node 1 ⟨#[97]⟩ []) = true := by
    rw [rightE, subs_node, kindT_node, nameT_node]
    simp [shapely, letters_a]
  unfold checkE
  rw [show cnt 1 (node 1 ⟨#[97]⟩ []) = 1 from rfl, show dp 1 (node 1 ⟨#[97]⟩ []) = 1 from rfl, if_neg (by decide), if_pos h3]
theorem maskG_one (ts : List Int) : maskG [(⟨#[97]⟩, ts)] ⟨#[97]⟩ = maskOf ts := by rw [maskG, if_pos (by simp)]
theorem rightG_one (ts : List Int) : rightG [(⟨#[97]⟩, ts)] = rightTs ts := by unfold rightG; simp
/-- What Check says of the name a alone, with one group of that name. -/
theorem name_chk (ts : List Int) : chk 1 (node 1 ⟨#[97]⟩ []) [(⟨#[97]⟩, ts)] = 0 ↔ rightTs ts = true ∧ ts ≠ [] := by
  unfold chk
  rw [if_pos name_check, rightG_one]
  have hn : nmd [(⟨#[97]⟩, ts)] 1 (node 1 ⟨#[97]⟩ []) = !(((maskOf ts : Nat) : Int) == 0) := by rw [nmd, kindT_node, if_pos rfl, nameT_node, maskG_one]
  rw [hn]
  cases hr : rightTs ts with
  | false => simp
  | true =>
    have hall : ts.all isTy = true := by unfold rightTs at hr; rw [Bool.and_eq_true] at hr; exact hr.2
    have hz : maskOf ts = 0 ↔ ts = [] := by
      constructor
      · intro e
        cases ts with
        | nil => rfl
        | cons x r =>
          have := (takes_mem hall x).2 (List.mem_cons_self ..)
          rw [e, takes_zero] at this
          cases this
      · intro e; rw [e]; rfl
    by_cases e : ts = []
    · rw [if_pos rfl, hz.2 e]
      simp [e]
    · have : maskOf ts ≠ 0 := fun h => e (hz.1 h)
      rw [if_pos rfl, if_pos (by simp; omega)]
      simp [e]
theorem name_lang (ts : List Int) (zs : List Int) (h : rightTs ts = true) : LangD [(⟨#[97]⟩, ts)] 1 (node 1 ⟨#[97]⟩ []) zs ↔ ∃ a, zs = [a] ∧ a ∈ ts := by
  have hall : ts.all isTy = true := by unfold rightTs at h; rw [Bool.and_eq_true] at h; exact h.2
  unfold LangD
  rw [Lang, kindT_node, if_pos rfl, nameT_node, maskG_one]
  constructor
  · rintro ⟨a, e, ha⟩
    exact ⟨a, e, (takes_mem hall a).1 ha⟩
  · rintro ⟨a, e, ha⟩
    exact ⟨a, e, (takes_mem hall a).2 ha⟩
theorem Ex.leaf (w : World) (k : Int) (s : ByteArray) (a : Option Addr) (cap : Nat) : Ex w 1 (node k s []) (.agg #[.int .i64 k, .string s, .slice a 0 cap]) := ⟨k, s, a, 0, cap, [], rfl, rfl, rfl, by omega, .inl rfl⟩
theorem named_a : named 1 (node 1 ⟨#[97]⟩ []) := ⟨by rw [nameT_node]; decide, fun x hx => by cases hx⟩
/-- A group of one name that was just made. -/
theorem Groups.one {w : World} {b : Nat} {s : ByteArray} {a : Option Addr} {len cap : Nat} {ts : List Int} (hb : w.heap[b]? = some (.cells #[.string s, .slice a len cap] 73 (0, 0))) (hT : Ints w a len ts) : Groups w (some ⟨b, 0, none⟩) 1 [(s, ts)] := by
  refine ⟨rfl, by omega, .inr ⟨b, 0, rfl, (Array.getElem?_eq_some_iff.1 hb).1, fun i g hg => ?_⟩⟩
  cases i with
  | zero =>
    simp at hg
    subst hg
    exact ⟨a, len, cap, cell_of_row w b 0 _ _ _ hb, cell_of_row w b 1 _ _ _ hb, hT⟩
  | succ i => simp at hg
theorem Ints.none0 (w : World) : Ints w none 0 [] := ⟨rfl, by omega, .inl rfl⟩
theorem Ints.one {w : World} {b : Nat} {x : Int} (hb : w.heap[b]? = some (.cells #[.int .i64 x] 3 (0, 0))) : Ints w (some ⟨b, 0, none⟩) 1 [x] := by
  refine ⟨rfl, by omega, .inr ⟨b, 0, rfl, (Array.getElem?_eq_some_iff.1 hb).1, fun i y hy => ?_⟩⟩
  cases i with
  | zero => simp at hy; subst hy; exact cell_of_row w b 0 _ _ _ hb
  | succ i => simp at hy
theorem Ints.two {w : World} {b : Nat} {x y : Int} (hb : w.heap[b]? = some (.cells #[.int .i64 x, .int .i64 y] 3 (0, 0))) : Ints w (some ⟨b, 0, none⟩) 2 [x, y] := by
  refine ⟨rfl, by omega, .inr ⟨b, 0, rfl, (Array.getElem?_eq_some_iff.1 hb).1, fun i z hz => ?_⟩⟩
  match i, hz with
  | 0, hz => simp at hz; subst hz; exact cell_of_row w b 0 _ _ _ hb
  | 1, hz => simp at hz; subst hz; exact cell_of_row w b 1 _ _ _ hb
set_option maxRecDepth 100000 in
set_option maxHeartbeats 1000000 in
theorem awake_calls (w : World) : Calls Tryz.prog 11 #[] w fun e w' => e = .returned (.bool true) ∧ Below w.heap.size w w' := by
  obtain ⟨w3, hw3⟩ : ∃ w3, w3 = ((w.alloc (.cells #[.int .i64 1] 3)).alloc (.cells #[.string ⟨#[97]⟩, .slice (some ⟨w.heap.size, 0, none⟩) 1 1] 73)).alloc (.cells #[.int .i64 1] 3) := ⟨_, rfl⟩
  have hb3 : Below w.heap.size w w3 := by rw [hw3]; exact (((Below.refl _ w).alloc (Nat.le_refl _) _).alloc (by simp) _).alloc (by simp; omega) _
  have m0 : w3.heap[w.heap.size]? = some (.cells #[.int .i64 1] 3 (0, 0)) := by rw [hw3, Below.heap_alloc _ _ _ (by simp; omega), Below.heap_alloc _ _ _ (by simp)]; exact World.alloc_heap_new w _
  have m1 : w3.heap[w.heap.size + 1]? = some (.cells #[.string ⟨#[97]⟩, .slice (some ⟨w.heap.size, 0, none⟩) 1 1] 73 (0, 0)) := by
    rw [hw3, Below.heap_alloc _ _ _ (by simp)]
    have := World.alloc_heap_new (w.alloc (.cells #[.int .i64 1] 3)) (.cells #[.string ⟨#[97]⟩, .slice (some ⟨w.heap.size, 0, none⟩) 1 1] 73)
    rwa [World.size_alloc] at this
  have m2 : w3.heap[w.heap.size + 1 + 1]? = some (.cells #[.int .i64 1] 3 (0, 0)) := by
    rw [hw3]
    have := World.alloc_heap_new ((w.alloc (.cells #[.int .i64 1] 3)).alloc (.cells #[.string ⟨#[97]⟩, .slice (some ⟨w.heap.size, 0, none⟩) 1 1] 73)) (.cells #[.int .i64 1] 3)
    rwa [World.size_alloc, World.size_alloc] at this
  have hA := accepts_calls 1 (node 1 ⟨#[97]⟩ []) _ (some ⟨w.heap.size + 1, 0, none⟩) 1 1 [(⟨#[97]⟩, [1])] (some ⟨w.heap.size + 1 + 1, 0, none⟩) 1 1 [1] w3 (Ex.leaf w3 1 ⟨#[97]⟩ none 0) named_a (Groups.one m1 (Ints.one m0)) (Ints.one m2)
  have hr : rightTs [1] = true := by decide
  have htrue : chk 1 (node 1 ⟨#[97]⟩ []) [(⟨#[97]⟩, [1])] = 0 ∧ LangD [(⟨#[97]⟩, [1])] 1 (node 1 ⟨#[97]⟩ []) [1] := ⟨(name_chk [1]).2 ⟨hr, by simp⟩, (name_lang [1] [1] hr).2 ⟨1, rfl, by simp⟩⟩
  have HA : Hid (Calls Tryz.prog 36 #[.agg #[.int .i64 1, .string ⟨#[97]⟩, .slice none 0 0], .slice (some ⟨w.heap.size + 1, 0, none⟩) 1 1, .slice (some ⟨w.heap.size + 1 + 1, 0, none⟩) 1 1] w3 fun e w' => e = .returned (.bool true) ∧ Below w3.heap.size w3 w') := hA.mono (by
    rintro e W ⟨b, rfl, hb, hB⟩
    rw [hb.2 htrue]
    exact ⟨rfl, hB⟩)
  have HW : Hid (((w.alloc (.cells #[.int .i64 1] 3)).alloc (.cells #[.string ⟨#[97]⟩, .slice (some ⟨w.heap.size, 0, none⟩) 1 1] 73)).alloc (.cells #[.int .i64 1] 3) = w3) := hw3.symm
  have HB : Hid (Below w.heap.size w w3) := hb3
  clear hA htrue m0 m1 m2 hb3 hw3
  go_enter Tryz.func11, Tryz.ntmps11
  go_wp2_with fail
  rw [HW.out]
  refine HA.out.mono ?_
  rintro e W ⟨rfl, hW⟩
  go_wp2
  go_ret
  exact ⟨rfl, HB.out.trans (hW.mono HB.out.size)⟩
end Go.Proofs.YtofkiaeocfpkeaaGreatDoor

/- Signs6: what Check and the language say of a tree behind a sign. -/
namespace Go.Proofs.YtofkiaeocfpkeaaGreatDoor
open Go.RowKit

theorem one_tree {n : Nat} {k : Int} {t : DataW Unit} {gs : List Grp} (hk : k = 4 ∨ k = 5 ∨ k = 6) : chk (n + 1) (node k ⟨#[]⟩ [t]) gs = 0 ↔ (1 + cnt n t ≤ 200 ∧ dp n t + 1 ≤ 60 ∧ kindT t ≠ 0 ∧ rightE n t = true ∧ rightG gs = true ∧ nmd gs n t = true) := by
  have hc : cnt (n + 1) (node k ⟨#[]⟩ [t]) = 1 + cnt n t := by rw [cnt, subs_node]; simp [total]
  have hd : dp (n + 1) (node k ⟨#[]⟩ [t]) = dp n t + 1 := by
    have := dp_nonneg n t
    rw [dp, subs_node]
    simp only [greatest]
    omega
  have hr : rightE (n + 1) (node k ⟨#[]⟩ [t]) = (!(kindT t == 0) && rightE n t) := by
    rw [rightE, subs_node, kindT_node, nameT_node]
    unfold shapely
    rw [if_neg (by omega), if_neg (by omega), if_pos hk]
    simp
  have hn : nmd gs (n + 1) (node k ⟨#[]⟩ [t]) = nmd gs n t := by
    rw [nmd, kindT_node, if_neg (by omega), subs_node]
    simp
  unfold chk
  rw [hn]
  have hE : checkE (n + 1) (node k ⟨#[]⟩ [t]) = 0 ↔ (1 + cnt n t ≤ 200 ∧ dp n t + 1 ≤ 60 ∧ kindT t ≠ 0 ∧ rightE n t = true) := by
    unfold checkE
    rw [hc, hd, hr]
    by_cases h1 : 200 < 1 + cnt n t ∨ 60 < dp n t + 1
    · rw [if_pos h1]
      constructor
      · intro e; cases e
      · rintro ⟨h2, h3, _⟩; omega
    · rw [if_neg h1]
      by_cases h2 : kindT t = 0
      · simp [h2]
      · cases h3 : rightE n t with
        | false => simp
        | true => simp [h2]; omega
  constructor
  · intro h
    split at h
    · rename_i h1
      split at h
      · rename_i h2
        split at h
        · rename_i h3
          obtain ⟨e1, e2, e3, e4⟩ := hE.1 h1
          exact ⟨e1, e2, e3, e4, h2, h3⟩
        · cases h
      · cases h
    · rename_i h1
      exact absurd h h1
  · rintro ⟨e1, e2, e3, e4, h2, h3⟩
    rw [if_pos (hE.2 ⟨e1, e2, e3, e4⟩), if_pos h2, if_pos h3]
theorem one_within {n : Nat} {k : Int} {t : DataW Unit} {gs : List Grp} (hk : k = 4 ∨ k = 5 ∨ k = 6) (h : chk (n + 1) (node k ⟨#[]⟩ [t]) gs = 0) : chk n t gs = 0 := by
  obtain ⟨e1, e2, e3, e4, h2, h3⟩ := (one_tree hk).1 h
  have : checkE n t = 0 := by
    unfold checkE
    rw [if_neg (by omega), if_pos e4]
  unfold chk
  rw [if_pos this, if_pos h2, if_pos h3]
theorem one_other {n : Nat} {k k' : Int} {t : DataW Unit} {gs : List Grp} (hk : k = 4 ∨ k = 5 ∨ k = 6) (hk' : k' = 4 ∨ k' = 5 ∨ k' = 6) (h : chk (n + 1) (node k ⟨#[]⟩ [t]) gs = 0) : chk (n + 1) (node k' ⟨#[]⟩ [t]) gs = 0 := (one_tree hk').2 ((one_tree hk).1 h)
theorem lang_opt (gs : List Grp) (n : Nat) (t : DataW Unit) (zs : List Int) : LangD gs (n + 1) (node 6 ⟨#[]⟩ [t]) zs ↔ (zs = [] ∨ LangD gs n t zs) := by
  unfold LangD
  rw [Lang, kindT_node, subs_node]
  simp
theorem lang_star (gs : List Grp) (n : Nat) (t : DataW Unit) (zs : List Int) : LangD gs (n + 1) (node 4 ⟨#[]⟩ [t]) zs ↔ ∃ m, LPow (LangD gs n t) m zs := by
  unfold LangD
  rw [Lang, kindT_node, subs_node]
  simp
theorem lang_plus (gs : List Grp) (n : Nat) (t : DataW Unit) (zs : List Int) : LangD gs (n + 1) (node 5 ⟨#[]⟩ [t]) zs ↔ ∃ m, LPow (LangD gs n t) (m + 1) zs := by
  unfold LangD
  rw [Lang, kindT_node, subs_node]
  simp
theorem pow_one {f : List Int → Prop} {a : List Int} (h : f a) : LPow f 1 a := ⟨a, [], by simp, h, rfl⟩
theorem pow_two {f : List Int → Prop} {a b : List Int} (h : f a) (h' : f b) : LPow f 2 (a ++ b) := ⟨a, b, rfl, h, pow_one h'⟩
theorem pow_nil {f : List Int → Prop} {m : Nat} (h : LPow f (m + 1) []) : f [] := by
  obtain ⟨u, v, e, h1, _⟩ := h
  have : u = [] := by
    cases u with
    | nil => rfl
    | cons x r => cases e
  rwa [this] at h1
/-- A tree that is laid behind a sign, in memory. -/
theorem Ex.behind {w : World} {n : Nat} {t : DataW Unit} {b : Nat} {k : Int} {s : ByteArray} {a : Option Addr} {len cap c : Nat} (k' : Int) (hb : w.heap[b]? = some (.cells #[.int .i64 k, .string s, .slice a len cap] 26 (0, 0))) (h : Ex w n t (.agg #[.int .i64 k, .string s, .slice a len cap])) : Ex w (n + 1) (node k' ⟨#[]⟩ [t]) (.agg #[.int .i64 k', .string ⟨#[]⟩, .slice (some ⟨b, 0, none⟩) 1 c]) := by
  refine ⟨k', ⟨#[]⟩, some ⟨b, 0, none⟩, 1, c, [t], rfl, rfl, rfl, by omega, .inr ⟨b, 0, rfl, (Array.getElem?_eq_some_iff.1 hb).1, fun i x hx => ?_⟩⟩
  cases i with
  | zero =>
    simp at hx
    subst hx
    exact ⟨k, s, a, len, cap, cell_of_row w b 0 _ _ _ hb, cell_of_row w b 1 _ _ _ hb, cell_of_row w b 2 _ _ _ hb, h⟩
  | succ i => simp at hx
theorem named_behind {n : Nat} {t : DataW Unit} (k : Int) (h : named n t) : named (n + 1) (node k ⟨#[]⟩ [t]) := by
  refine ⟨by rw [nameT_node]; decide, fun x hx => ?_⟩
  rw [subs_node] at hx
  simp at hx
  rw [hx]
  exact h
end Go.Proofs.YtofkiaeocfpkeaaGreatDoor

/- Apd: a slice of integers that is put behind another, whose cells the call made itself. -/
namespace Go.Proofs.YtofkiaeocfpkeaaGreatDoor
open Go.ChangeShapes Go.WideShapes Go.ChangeAt Go.RowKit

theorem open_rowc {H : Type} {enc : TypeId × Value → H} {W : World} {a : Option Addr} {len cap : Nat} {d : DataW H} {p : List MemPlace} (h : DataW.Trod enc Tryz.prog W 0 (fun _ => true) true 23 (.slice a len cap) d p) : a = none → cap = 0 := by
  obtain ⟨fuel, hf⟩ := h
  rcases open_ints Tryz.underlying23 Tryz.underlying3 (by kernel_rfl) hf with ⟨hcs, _⟩ | ⟨y, l, c, zs, hcs, _⟩
  · simp [Value.cells] at hcs
    obtain ⟨rfl, rfl, rfl⟩ := hcs
    intro _; rfl
  · simp [Value.cells] at hcs
    obtain ⟨rfl, rfl, rfl⟩ := hcs
    intro e; cases e
def intsV (zs : List Int) : List Value := zs.map (Value.int .i64)
theorem intsV_append (xs zs : List Int) : intsV xs ++ intsV zs = intsV (xs ++ zs) := (List.map_append ..).symm
theorem owned_nil (w : World) (base : Nat) (hb : base ≤ w.heap.size) : (w.alloc (.cells #[] 3)).ownsRow base 3 1 (.slice (some ⟨w.heap.size, 0, none⟩) 0 0) 0 (intsV []) :=
  ⟨rfl, .inr ⟨w.heap.size, 0, _, rfl, hb, World.alloc_heap_new w _, Nat.le_refl _, by unfold maxLen; omega, rfl, rfl⟩⟩
theorem owned_ints {w : World} {base n : Nat} {v : Value} {zs : List Int} (h : w.ownsRow base 3 1 v n (intsV zs)) (hn : n ≤ 9223372036854775807) : ∃ a c, v = .slice a n c ∧ Ints w a n zs := by
  have hl : zs.length = n := by
    have := h.1
    unfold intsV at this
    rw [List.length_map] at this
    omega
  rcases Nat.eq_zero_or_pos n with h0 | h0
  · subst h0
    rcases h.2 with ⟨rfl, _⟩ | ⟨g, cap, cur, rfl, _⟩
    · exact ⟨none, 0, rfl, hl, hn, .inl rfl⟩
    · exact ⟨_, _, rfl, hl, hn, .inl rfl⟩
  · obtain ⟨g, cap, rfl, hc⟩ := owns_cell h h0
    obtain ⟨hlt, _⟩ := owns_lt h (g := g) rfl
    refine ⟨_, _, rfl, hl, hn, .inr ⟨g, 0, rfl, hlt, fun i x hx => ?_⟩⟩
    rw [Nat.zero_add]
    exact hc i _ (by unfold intsV; rw [List.getElem?_map, hx]; rfl)
theorem owned_base {w : World} {base n : Nat} {v : Value} {e : TypeId} {sz : Nat} {xs : List Value} (h : w.ownsRow base e sz v n xs) {g : Nat} (hg : v.ownBlock = some g) : base ≤ g := by
  rcases h.2 with ⟨rfl, _⟩ | ⟨g', cap, cur, rfl, hb, _⟩
  · cases hg
  · cases hg
    exact hb
theorem wpList_append_ints {w : World} {ops : Array Oper} {rest : List Oper} {o : Oper} {a : Act} {Q : Exit → Act → World → Prop} (hgd : o.guard = none) (s x : Operand)
    (ho : o.op = .call { callee := .builtin .append, args := #[s, x], argTypes := #[23, 23] }) (base : Nat) (v : Value) (n : Nat) (xs : List Int) (hs : a.eval s = v) (hown : w.ownsRow base 3 1 v n (intsV xs))
    (za : Option Addr) (zl zc : Nat) (zs : List Int) (hx : a.eval x = .slice za zl zc) (hc : za = none → zc = 0) (hZ : Ints w za zl zs) (h63 : n + zl ≤ 1000000000) (hbase : base ≤ w.heap.size)
    (h : ∀ v' w', w'.ownsRow base 3 1 v' (n + zl) (intsV (xs ++ zs)) → Below base w w' → wpList Tryz.prog ops Q rest (a.put o.dst v') w') : wpList Tryz.prog ops Q (o :: rest) a w := by
  obtain ⟨i0, hi, hz0, hz1, hz2⟩ := info_parts infoInt
  obtain ⟨hl, _, hz⟩ := hZ
  cases za with
  | none =>
    have hzl : zl = 0 := by
      rcases hz with hz | ⟨b, o, e, _⟩
      · exact hz
      · cases e
    subst hzl
    rw [hc rfl] at hx
    have : zs = [] := List.length_eq_zero_iff.1 hl
    subst this
    refine wpList_append_own_none hgd s x 23 ho base 3 i0 1 Tryz.underlying23 hi v n _ hs hown hx ?_
    refine h v w ?_ (Below.refl _ _)
    rw [List.append_nil]
    exact hown
  | some ad =>
    refine wpList_append_own_at w hgd s x 23 ho base 3 i0 _ 1 8 Tryz.underlying23 hi hz0 hz1 hz2 rfl (by decide) v n _ hs hown ad zl zc (intsV zs) hx (by unfold intsV; rw [List.length_map]; omega) (fun j u hj => ?_) (fun u hu => ?_) (by unfold maxLen; omega) (by omega) hbase ?_
    · unfold intsV at hj
      rw [List.getElem?_map] at hj
      cases hq : zs[j]? with
      | none => rw [hq] at hj; cases hj
      | some y =>
        rw [hq] at hj
        cases hj
        rcases hz with hz | ⟨b, o, e, _, hcc⟩
        · have := (List.getElem?_eq_some_iff.1 hq).1
          omega
        · cases e
          rw [add_none]
          exact hcc j y hq
    · unfold intsV at hu
      obtain ⟨y, _, rfl⟩ := List.mem_map.1 hu
      rfl
    · intro v' w' q1 q2 _ _
      rw [intsV_append] at q1
      exact h v' w' q1 ((Below.refl base w).grown q2 hbase (fun k e => owned_base hown e))
end Go.Proofs.YtofkiaeocfpkeaaGreatDoor

/- Sp: types as plain data, and how a slice of them lies in memory; the row of kinds that schema.New makes of them. -/
namespace Go.Proofs.YtofkiaeocfpkeaaGreatDoor
open Go.RowKit

/-- A type, as it is handed in. -/
structure SpecD where
  name : ByteArray
  expr : ByteArray
  leaf : Bool
  marks : Int
  least : Int
  most : Int
  lines : Bool
def specC (s : SpecD) : List Value := [.string s.name, .string s.expr, .bool s.leaf, .int .i64 s.marks, .int .i64 s.least, .int .i64 s.most, .bool s.lines]
def specV (s : SpecD) : Value := .agg #[.string s.name, .string s.expr, .bool s.leaf, .int .i64 s.marks, .int .i64 s.least, .int .i64 s.most, .bool s.lines]
/-- How the cells of a type lie from a place on. -/
def SpecAt (w : World) (b o : Nat) (s : SpecD) : Prop := w.cell? ⟨b, o, none⟩ = some (.string s.name) ∧ w.cell? ⟨b, o + 1, none⟩ = some (.string s.expr) ∧ w.cell? ⟨b, o + 2, none⟩ = some (.bool s.leaf) ∧ w.cell? ⟨b, o + 3, none⟩ = some (.int .i64 s.marks) ∧ w.cell? ⟨b, o + 4, none⟩ = some (.int .i64 s.least) ∧ w.cell? ⟨b, o + 5, none⟩ = some (.int .i64 s.most) ∧ w.cell? ⟨b, o + 6, none⟩ = some (.bool s.lines)
theorem SpecAt.same {w w' : World} {b o : Nat} {s : SpecD} (h : SpecAt w b o s) (hb : w'.heap[b]? = w.heap[b]?) : SpecAt w' b o s := by
  have e : ∀ k, w'.cell? ⟨b, k, none⟩ = w.cell? ⟨b, k, none⟩ := fun k => World.cell?_of_block hb
  unfold SpecAt
  rw [e, e, e, e, e, e, e]
  exact h
def Specs (w : World) (a : Option Addr) (len : Nat) (l : List SpecD) : Prop :=
  l.length = len ∧ len ≤ 9223372036854775807 ∧ (len = 0 ∨ ∃ b o, a = some ⟨b, o, none⟩ ∧ b < w.heap.size ∧ ∀ i x, l[i]? = some x → SpecAt w b (o + i * 7) x)
theorem Specs.below {w w' : World} {a : Option Addr} {len : Nat} {l : List SpecD} (h : Specs w a len l) (hb : Below w.heap.size w w') : Specs w' a len l := by
  obtain ⟨h1, h2, h3⟩ := h
  refine ⟨h1, h2, ?_⟩
  rcases h3 with h3 | ⟨b, o, e, hlt, hc⟩
  · exact .inl h3
  · exact .inr ⟨b, o, e, Nat.lt_of_lt_of_le hlt hb.size, fun i x hx => (hc i x hx).same (hb.block b hlt)⟩
theorem Specs.at {w : World} {a : Option Addr} {len : Nat} {l : List SpecD} (h : Specs w a len l) {i : Nat} (hi : i < len) : ∃ b o x, a = some ⟨b, o, none⟩ ∧ b < w.heap.size ∧ l[i]? = some x ∧ ∀ W : World, Below w.heap.size w W → SpecAt W b (o + i * 7) x := by
  obtain ⟨h1, _, h3⟩ := h
  rcases h3 with h3 | ⟨b, o, rfl, hlt, hc⟩
  · omega
  · have hx : l[i]? = some (l[i]'(by omega)) := List.getElem?_eq_getElem (by omega)
    exact ⟨b, o, _, rfl, hlt, hx, fun W hb => (hc i _ hx).same (hb.block b hlt)⟩
/-- A kind: a type and its tree, as it lies. -/
abbrev KindD : Type := SpecD × Int × ByteArray × Option Addr × Nat × Nat
def kindC (x : KindD) : List Value := specC x.1 ++ [.int .i64 x.2.1, .string x.2.2.1, .slice x.2.2.2.1 x.2.2.2.2.1 x.2.2.2.2.2]
def flatK : List KindD → List Value
  | [] => []
  | x :: r => kindC x ++ flatK r
def zeroS : SpecD := ⟨⟨#[]⟩, ⟨#[]⟩, false, 0, 0, 0, false⟩
def bareK (s : SpecD) : KindD := (s, 0, ⟨#[]⟩, none, 0, 0)
theorem kindC_length (x : KindD) : (kindC x).length = 10 := rfl
theorem flatK_append (l m : List KindD) : flatK (l ++ m) = flatK l ++ flatK m := by
  induction l with
  | nil => rfl
  | cons e r ih => rw [List.cons_append, flatK, flatK, ih, List.append_assoc]
theorem flatK_length (l : List KindD) : (flatK l).length = l.length * 10 := by
  induction l with
  | nil => rfl
  | cons e r ih => rw [flatK, List.length_append, ih, List.length_cons, kindC_length]; omega
theorem flatK_at : ∀ {l : List KindD} {i : Nat} {x : KindD} {j : Nat} {u : Value}, l[i]? = some x → (kindC x)[j]? = some u → (flatK l)[i * 10 + j]? = some u := by
  intro l
  induction l with
  | nil => intro i x j u h; simp at h
  | cons y r ih =>
    intro i x j u h hj
    have hj10 : j < 10 := by
      have := (List.getElem?_eq_some_iff.1 hj).1
      rw [kindC_length] at this
      exact this
    cases i with
    | zero =>
      simp only [List.getElem?_cons_zero, Option.some.injEq] at h
      subst h
      rw [flatK, Nat.zero_mul, Nat.zero_add, List.getElem?_append_left (by rw [kindC_length]; exact hj10)]
      exact hj
    | succ i =>
      rw [List.getElem?_cons_succ] at h
      rw [flatK, List.getElem?_append_right (by rw [kindC_length]; omega), kindC_length]
      have e : (i + 1) * 10 + j - 10 = i * 10 + j := by omega
      rw [e]
      exact ih h hj
theorem infoKind : (Tryz.prog.info? 115).map (fun i => (i.zero, i.size, i.bytes)) = some (some (.agg #[.string ⟨#[]⟩, .string ⟨#[]⟩, .bool false, .int .i64 0, .int .i64 0, .int .i64 0, .bool false, .int .i64 0, .string ⟨#[]⟩, .slice none 0 0]), 10, 120) := by kernel_rfl
theorem kindC_one (x : KindD) : ∀ u ∈ kindC x, u.oneCell' = true := by
  intro u hu
  simp only [kindC, specC, List.mem_append, List.mem_cons, List.not_mem_nil, or_false] at hu
  rcases hu with (rfl | rfl | rfl | rfl | rfl | rfl | rfl) | (rfl | rfl | rfl) <;> rfl
theorem ten_new (w : World) (x : KindD) (t : TypeId) : ∀ j u, (kindC x)[j]? = some u → (w.alloc (.cells (kindC x).toArray t)).cell? ((⟨w.heap.size, 0, none⟩ : Addr).add j) = some u := by
  intro j u hj
  have hadd : (⟨w.heap.size, 0, none⟩ : Addr).add j = ⟨w.heap.size, j, none⟩ := by unfold Addr.add; split <;> simp_all
  rw [hadd, cell_of_row _ _ j _ _ _ (World.alloc_heap_new w _), List.getElem?_toArray]
  exact hj
/-- A kind more. -/
theorem kind_put (W : World) (base : Nat) (v : Value) (ks : List KindD) (hown : W.ownsRow base 115 10 v ks.length (flatK ks)) (x : KindD) (hlen : ks.length ≤ 1000000) (hbase : base ≤ W.heap.size) (b cap : Nat) (hc : ∀ j u, (kindC x)[j]? = some u → W.cell? ((⟨b, 0, none⟩ : Addr).add j) = some u) :
    ∃ g' cap' W1, (Builtin.append_ #[118, 118] 118 #[v, .slice (some ⟨b, 0, none⟩) 1 cap]).run Tryz.prog W = .ok (.slice (some ⟨g', 0, none⟩) (ks.length + 1) cap') W1 ∧ W1.ownsRow base 115 10 (.slice (some ⟨g', 0, none⟩) (ks.length + 1) cap') (ks ++ [x]).length (flatK (ks ++ [x])) ∧ Below base W W1 := by
  obtain ⟨i0, hi, hz0, hz1, hz2⟩ := info_parts infoKind
  obtain ⟨v', W1, hrun, r1, r2, _, _⟩ := run_append_own_at (P := Tryz.prog) W base 118 118 115 i0 _ 10 120 Tryz.underlying118 hi hz0 hz1 hz2 rfl (by decide) v ks.length _ hown ⟨b, 0, none⟩ 1 cap (kindC x) rfl hc (kindC_one x) (by unfold maxLen; omega) (by omega) hbase
  have e1 : flatK ks ++ kindC x = flatK (ks ++ [x]) := by rw [flatK_append]; simp [flatK]
  rw [e1] at r1
  obtain ⟨g, cap', rfl, _⟩ := owns_cell r1 (Nat.succ_pos _)
  exact ⟨g, cap', W1, hrun, by rw [List.length_append]; exact r1, (Below.refl base W).grown r2 hbase (fun k e => owned_base hown e)⟩
end Go.Proofs.YtofkiaeocfpkeaaGreatDoor

/- NamesA: the names of a schema, as they lie in memory; schema's namesOf: text, the types, the groups, in memory of their own. -/
namespace Go.Proofs.YtofkiaeocfpkeaaGreatDoor
open Go.RowKit

/-- A group as it lies: its name, where its types lie, what they are. -/
abbrev GrpD : Type := ByteArray × Option Addr × Nat × List Int
def grpC (x : GrpD) : List Value := [.string x.1, .slice x.2.1 x.2.2.2.length x.2.2.1]
def flatG : List GrpD → List Value
  | [] => []
  | x :: r => grpC x ++ flatG r
def plainG (x : GrpD) : Grp := (x.1, x.2.2.2)
theorem flatG_append (l m : List GrpD) : flatG (l ++ m) = flatG l ++ flatG m := by
  induction l with
  | nil => rfl
  | cons e r ih => rw [List.cons_append, flatG, flatG, ih, List.append_assoc]
theorem flatG_at : ∀ {l : List GrpD} {i : Nat} {e : GrpD}, l[i]? = some e → (flatG l)[i * 2]? = some (.string e.1) ∧ (flatG l)[i * 2 + 1]? = some (.slice e.2.1 e.2.2.2.length e.2.2.1) := by
  intro l
  induction l with
  | nil => intro i e h; simp at h
  | cons x r ih =>
    intro i e h
    cases i with
    | zero =>
      simp only [List.getElem?_cons_zero, Option.some.injEq] at h
      subst h
      exact ⟨rfl, rfl⟩
    | succ i =>
      rw [List.getElem?_cons_succ] at h
      obtain ⟨h1, h2⟩ := ih h
      rw [flatG]
      have e1 : (i + 1) * 2 = (grpC x).length + i * 2 := by simp only [grpC, List.length_cons, List.length_nil]; omega
      rw [e1, Nat.add_assoc, List.getElem?_append_right (Nat.le_add_right ..), List.getElem?_append_right (Nat.le_add_right ..), Nat.add_sub_cancel_left, Nat.add_sub_cancel_left]
      exact ⟨h1, h2⟩
theorem infoGrp : (Tryz.prog.info? 73).map (fun i => (i.zero, i.size, i.bytes)) = some (some (.agg #[.string ⟨#[]⟩, .slice none 0 0]), 2, 40) := by kernel_rfl
def GrpOk (W : World) (x : GrpD) : Prop := W.ownsRow 0 3 1 (.slice x.2.1 x.2.2.2.length x.2.2.1) x.2.2.2.length (intsV x.2.2.2) ∧ x.2.2.2.length ≤ 1000000
structure Nms (base : Nat) (W : World) (v : Value) (xs : List GrpD) : Prop where
  row : W.ownsRow base 73 2 v xs.length (flatG xs)
  ok : ∀ x ∈ xs, GrpOk W x
theorem GrpOk.below {W W' : World} {x : GrpD} (h : GrpOk W x) (hB : Below W.heap.size W W') : GrpOk W' x := ⟨owns_same h.1 fun g hg => hB.block g (owns_lt h.1 hg).1, h.2⟩
theorem Nms.below {base : Nat} {W W' : World} {v : Value} {xs : List GrpD} (h : Nms base W v xs) (hB : Below W.heap.size W W') : Nms base W' v xs :=
  ⟨owns_same h.row fun g hg => hB.block g (owns_lt h.row hg).1, fun e he => (h.ok e he).below hB⟩
theorem grp_type : 3 ≠ 73 := by decide
theorem Nms.put {base : Nat} {W : World} {v : Value} {xs : List GrpD} (h : Nms base W v xs) (x : GrpD) (hx : GrpOk W x) (hlen : xs.length ≤ 1000000) (hbase : base ≤ W.heap.size) (b cap : Nat) (hc : ∀ j u, (grpC x)[j]? = some u → W.cell? ((⟨b, 0, none⟩ : Addr).add j) = some u) :
    ∃ g' cap' W1, (Builtin.append_ #[22, 22] 22 #[v, .slice (some ⟨b, 0, none⟩) 1 cap]).run Tryz.prog W = .ok (.slice (some ⟨g', 0, none⟩) (xs.length + 1) cap') W1 ∧ Nms base W1 (.slice (some ⟨g', 0, none⟩) (xs.length + 1) cap') (xs ++ [x]) ∧ W.grownBy W1 v.ownBlock := by
  obtain ⟨i0, hi, hz0, hz1, hz2⟩ := info_parts infoGrp
  obtain ⟨v', W1, hrun, r1, r2, _, _⟩ := run_append_own_at (P := Tryz.prog) W base 22 22 73 i0 _ 2 40 Tryz.underlying22 hi hz0 hz1 hz2 rfl (by decide) v xs.length _ h.row ⟨b, 0, none⟩ 1 cap (grpC x) rfl hc (fun u hu => by
    simp only [grpC, List.mem_cons, List.not_mem_nil, or_false] at hu
    rcases hu with rfl | rfl <;> rfl) (by unfold maxLen; omega) (by omega) hbase
  have e1 : flatG xs ++ grpC x = flatG (xs ++ [x]) := by rw [flatG_append]; simp [flatG]
  rw [e1] at r1
  have keep : ∀ y, GrpOk W y → GrpOk W1 y := fun y hy => ⟨owns_same hy.1 fun g hg' => by
    obtain ⟨hl, cur, hcur⟩ := owns_lt hy.1 hg'
    refine r2.block g hl (fun he => ?_)
    obtain ⟨_, cur', hcur'⟩ := owns_lt h.row he.symm
    rw [hcur'] at hcur
    injection hcur with hk
    injection hk with _ h2 _
    exact grp_type h2.symm, hy.2⟩
  obtain ⟨g, cap', rfl, _⟩ := owns_cell r1 (Nat.succ_pos _)
  refine ⟨g, cap', W1, hrun, ⟨by rw [List.length_append]; exact r1, fun y hy => ?_⟩, r2⟩
  rcases List.mem_append.1 hy with hy | hy
  · exact keep y (h.ok y hy)
  · rw [List.mem_singleton] at hy
    subst hy
    exact keep _ hx
theorem Nms.groups {base : Nat} {W : World} {g c : Nat} {n : Nat} {xs : List GrpD} (h : Nms base W (.slice (some ⟨g, 0, none⟩) n c) xs) (hn : n = xs.length) (hlen : xs.length ≤ 1000000) : Groups W (some ⟨g, 0, none⟩) n (xs.map plainG) := by
  subst hn
  refine ⟨by rw [List.length_map], by omega, ?_⟩
  rcases Nat.eq_zero_or_pos xs.length with h0 | h0
  · exact .inl h0
  · obtain ⟨g', cap', e, hc⟩ := owns_cell h.row h0
    injection e with e1
    injection e1 with e1
    injection e1 with e1
    subst e1
    refine .inr ⟨g, 0, rfl, (owns_lt h.row (g := g) rfl).1, fun i y hy => ?_⟩
    rw [List.getElem?_map] at hy
    cases hx : xs[i]? with
    | none => rw [hx] at hy; cases hy
    | some x =>
      rw [hx] at hy
      cases hy
      obtain ⟨f1, f2⟩ := flatG_at hx
      obtain ⟨h1, h2⟩ := h.ok x (List.mem_of_getElem? hx)
      obtain ⟨a', c', e, hints⟩ := owned_ints h1 (by omega)
      injection e with e1
      subst e1
      rw [Nat.zero_add]
      exact ⟨x.2.1, x.2.2.2.length, x.2.2.1, hc _ _ f1, hc _ _ f2, hints⟩
theorem two_cells (w : World) (x0 x1 : Value) (t : TypeId) : ∀ j u, [x0, x1][j]? = some u → (w.alloc (.cells #[x0, x1] t)).cell? ((⟨w.heap.size, 0, none⟩ : Addr).add j) = some u := by
  intro j u hj
  have hadd : (⟨w.heap.size, 0, none⟩ : Addr).add j = ⟨w.heap.size, j, none⟩ := by unfold Addr.add; split <;> simp_all
  rw [hadd]
  match j, hj with
  | 0, hj => simp at hj; subst hj; simp
  | 1, hj => simp at hj; subst hj; simp
theorem shape_owns {w : World} {base : Nat} {e : TypeId} {sz : Nat} {v : Value} {n : Nat} {xs : List Value} (h : w.ownsRow base e sz v n xs) : ∃ a c, v = .slice a n c := by
  rcases h.2 with ⟨e, hn⟩ | ⟨g, cap, cur, e, _⟩
  · exact ⟨none, 0, by rw [e, hn]⟩
  · exact ⟨_, _, e⟩
theorem eql_nilI (a : Option Addr) (l c : Nat) (W : World) : (binOp .eql 23 (.slice a l c) (.slice none 0 0)).run Tryz.prog W = .ok (.bool a.isNone) W := by
  simp only [binOp]
  simp [run_equal_slice_nil W 23 _ a l c Tryz.underlying23]
set_option maxRecDepth 100000 in
set_option maxHeartbeats 400000 in
theorem iclone_calls (a : Option Addr) (len cap : Nat) (zs : List Int) (w : World) (hZ : Ints w a len zs) (hlen : len ≤ 1000000) :
    Calls Tryz.prog 109 #[.slice a len cap] w fun e w' => ∃ a1 c1, e = .returned (.slice a1 len c1) ∧ w'.ownsRow w.heap.size 3 1 (.slice a1 len c1) len (intsV zs) ∧ Below w.heap.size w w' := by
  cases a with
  | none =>
    have h0 : len = 0 := by
      rcases hZ.2.2 with h | ⟨b, o, e, _⟩
      · exact h
      · cases e
    subst h0
    have hz : zs = [] := List.length_eq_zero_iff.1 hZ.1
    subst hz
    have hq := eql_nilI none 0 cap w
    have HE : Hid (w.ownsRow w.heap.size 3 1 (.slice none 0 0) 0 (intsV []) ∧ Below w.heap.size w w) := ⟨World.ownsRow_nil .., Below.refl _ _⟩
    clear hZ
    go_enter Tryz.func109, Tryz.ntmps109
    go_wp2
    go_ret
    exact ⟨none, 0, rfl, HE.out⟩
  | some ad =>
    have hq := eql_nilI (some ad) len cap w
    have hB45 : Below w.heap.size w (w.alloc (.cells #[] 3)) := (Below.refl _ w).alloc (Nat.le_refl _) _
    have HOWN0 : Hid ((w.alloc (.cells #[] 3)).ownsRow w.heap.size 3 1 (.slice (some ⟨w.heap.size, 0, none⟩) 0 0) 0 (intsV [])) := owned_nil w w.heap.size (Nat.le_refl _)
    have HXI5 : Hid (Ints (w.alloc (.cells #[] 3)) (some ad) len zs) := hZ.below hB45
    have HB45 : Hid (Below w.heap.size w (w.alloc (.cells #[] 3))) := hB45
    have hs1 : 0 + len ≤ 1000000000 := by omega
    clear hZ hB45
    go_enter Tryz.func109, Tryz.ntmps109
    go_wp2_with (first
      | (at_builtin; (refine wpList_append_ints rfl (.tmp 5) (.tmp 6) rfl w.heap.size _ 0 [] rfl HOWN0.out (some ad) len cap zs rfl (fun e => by cases e) HXI5.out hs1 HB45.out.size ?_; intro v1 W6 hown1 hB56; rw [Nat.zero_add, List.nil_append] at hown1; obtain ⟨ua1, uc1, rfl⟩ := shape_owns hown1; have HE : Hid (W6.ownsRow w.heap.size 3 1 (.slice ua1 len uc1) len (intsV zs) ∧ Below w.heap.size w W6) := ⟨hown1, HB45.out.trans hB56⟩; clear hown1 hB56 HOWN0 HXI5))
      | fail)
    go_ret
    exact ⟨ua1, uc1, rfl, HE.out⟩
end Go.Proofs.YtofkiaeocfpkeaaGreatDoor
