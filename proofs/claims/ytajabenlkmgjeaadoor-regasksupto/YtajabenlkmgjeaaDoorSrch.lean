/-
  PROVED HERE: the search that reg's reach hands back: it adds to the set all that forks reach from a place, and turns nothing else.
-/
import Derived.Test.YtajabenlkmgjeaaDoorSets
namespace Go.Proofs.YtajabenlkmgjeaaDoor
open Go.RowKit Go.Maps

theorem has_put {D : DataW Unit} {S : Nat → Bool} (hm : IsMap D) (h : ∀ kl, Maps.has D kl = true ↔ ∃ p : Nat, kl = .int .i64 (p : Int) ∧ S p = true) (p : Nat) (d : DataW Unit) : ∀ kl, Maps.has (D.put (.int .i64 (p : Int)) d) kl = true ↔ ∃ q : Nat, kl = .int .i64 (q : Int) ∧ putS S p q = true := by
  intro kl
  by_cases e : kl = .int .i64 (p : Int)
  · rw [e, has_put_same hm (by trivial)]
    exact ⟨fun _ => ⟨p, rfl, by simp [putS]⟩, fun _ => rfl⟩
  · rw [has_put_other e, h]
    constructor
    · rintro ⟨q, e1, hq⟩
      exact ⟨q, e1, by simp [putS, hq]⟩
    · rintro ⟨q, e1, hq⟩
      refine ⟨q, e1, ?_⟩
      simp [putS] at hq
      rcases hq with hq | hq
      · exact hq
      · exact absurd (by rw [e1, hq]) e
set_option maxRecDepth 100000 in
set_option maxHeartbeats 1000000 in
theorem grow_in (F : List Place) (lv : Value) (bs B1 B2 B3 N : Nat) (hN : N ≤ 1000000000) (p : Nat) (w : World) (S : Nat → Bool) (hS : SetAt w bs N S) (hC : Clo w bs B1 B2 B3 lv) (hp : p < N) (hSp : S p = true) :
    Calls Tryd.prog 62 #[.int .i64 (p : Int), .pointer (some ⟨B2, 0, none⟩), .pointer (some ⟨B1, 0, none⟩), .pointer (some ⟨B3, 0, none⟩)] w fun e w' => e = .returned (.tuple #[]) ∧ ∃ S', SetAt w' bs N S' ∧ Grown F S S' p ∧ w.grownBy w' (some bs) := by
  obtain ⟨D, hown, hlt, hD⟩ := id hS
  have hk1 : Maps.has D (.int .i64 (p : Int)) = true := by rw [has_iff hD p, hSp]
  have c2 := hC.2.1.cell
  have HE : Hid (∃ S', SetAt (w.alloc (.cells #[] 87)) bs N S' ∧ Grown F S S' p ∧ w.grownBy (w.alloc (.cells #[] 87)) (some bs)) := ⟨S, hS.kept (World.grownBy_alloc w _ none) (by simp), Grown.refl hSp, World.grownBy_alloc w _ _⟩
  clear hS hC hD
  go_enter Tryd.func62, Tryd.ntmps62
  go_wp2_with (first
    | (at_lookup; refine wpList_lookup_own_unit _ rfl _ _ 71 rfl 3 87 lawI Tryd.underlying71 (zeroU _) bs N D rfl hown _ _ rfl (keyOf_int_mk Tryd.underlying3 (wfN (by omega))) ?_; rw [hk1])
    | go_in)
  refine bodyPost_ret (results_none rfl _ _ _) rfl ?_
  exact ⟨rfl, HE.out⟩
set_option maxRecDepth 100000 in
set_option maxHeartbeats 1000000 in
theorem grow_calls (F : List Place) (lv : Value) (bs B1 B2 B3 N : Nat) (hFN : F.length = N) (hN : N ≤ 1000000000) (hnx : ∀ (i : Nat) (x : Place), F[i]? = some x → x.1 = 0 → ∀ q ∈ x.2.1, q < N) (hnl : ∀ (i : Nat) (x : Place), F[i]? = some x → x.2.1.length ≤ 2000000000) : ∀ (m p : Nat) (w : World) (S : Nat → Bool), outS S N ≤ m → SetAt w bs N S → Places w lv F → Clo w bs B1 B2 B3 lv → p < N →
    Calls Tryd.prog 62 #[.int .i64 (p : Int), .pointer (some ⟨B2, 0, none⟩), .pointer (some ⟨B1, 0, none⟩), .pointer (some ⟨B3, 0, none⟩)] w fun e w' => e = .returned (.tuple #[]) ∧ ∃ S', SetAt w' bs N S' ∧ Grown F S S' p ∧ w.grownBy w' (some bs) := by
  intro m
  induction m with
  | zero =>
    intro p w S hm hS hL hC hp
    have hSp : S p = true := by
      cases h : S p with
      | true => rfl
      | false =>
        exfalso
        have : p ∈ (List.range N).filter (fun p => !S p) := List.mem_filter.2 ⟨List.mem_range.2 hp, by rw [h]; rfl⟩
        have := List.length_pos_of_mem this
        unfold outS at hm
        omega
    exact grow_in F lv bs B1 B2 B3 N hN p w S hS hC hp hSp
  | succ m ih =>
    intro p w S hm hS hL hC hp
    cases hSp : S p with
    | true => exact grow_in F lv bs B1 B2 B3 N hN p w S hS hC hp hSp
    | false =>
      obtain ⟨D, hown, hltS, hD⟩ := id hS
      have hk1 : Maps.has D (.int .i64 (p : Int)) = false := by rw [has_iff hD p, hSp]
      have hout : outS (putS S p) N ≤ m := by
        have := outS_lt (S := S) (S' := putS S p) (fun q h => by simp [putS, h]) hp hSp (by simp [putS])
        omega
      obtain ⟨x, hx⟩ : ∃ x, F[p]? = some x := ⟨_, List.getElem?_eq_getElem (by omega)⟩
      obtain ⟨g, cap, rfl, hcell⟩ := hL.slice (by omega)
      obtain ⟨t0, _, ha, hnn, hc, t1, hrow⟩ := hcell p x hx
      -- in any world whose cells are as they were
      have HW : Hid (∀ W : World, (∀ (b : Nat) (c : Array Value) (t : TypeId), w.heap[b]? = some (.cells c t (0, 0)) → W.heap[b]? = w.heap[b]?) → (W.cell? ⟨B2, 0, none⟩ = some (.map (some bs)) ∧ W.cell? ⟨B1, 0, none⟩ = some (.slice (some ⟨g, 0, none⟩) F.length cap) ∧ W.cell? ⟨B3, 0, none⟩ = some (.func (.func 62) #[] #[.pointer (some ⟨B2, 0, none⟩), .pointer (some ⟨B1, 0, none⟩), .pointer (some ⟨B3, 0, none⟩)]) ∧
          W.cell? ⟨g, p * 3, none⟩ = some (.int .u16 (x.1 : Int)) ∧ W.cell? ⟨g, p * 3 + 1, none⟩ = some (.slice ha hnn hc)) ∧ Clo W bs B1 B2 B3 (.slice (some ⟨g, 0, none⟩) F.length cap) ∧ Places W (.slice (some ⟨g, 0, none⟩) F.length cap) F ∧ (∀ (j q : Nat), x.2.1[j]? = some q → ∃ hg, ha = some ⟨hg, 0, none⟩ ∧ hnn = x.2.1.length ∧ W.cell? ⟨hg, j, none⟩ = some (.int .i64 (q : Int)))) := by
        intro W hW
        have hC' := hC.others hW
        have hL' := hL.others hW
        have hg : W.heap[g]? = w.heap[g]? := by
          obtain ⟨rs, h1, _⟩ := id hL
          obtain ⟨_, c, hc⟩ := owns_lt h1 (g := g) rfl
          exact hW g _ _ hc
        refine ⟨⟨hC'.2.1.cell, hC'.1.cell, hC'.2.2.cell, (World.cell?_of_block (w := w) (a := ⟨g, p * 3, none⟩) hg).trans t0, (World.cell?_of_block (w := w) (a := ⟨g, p * 3 + 1, none⟩) hg).trans t1⟩, hC', hL', fun j q hq => ?_⟩
        have hpos : 0 < x.2.1.length := Nat.lt_of_le_of_lt (Nat.zero_le _) (List.getElem?_eq_some_iff.1 hq).1
        have hrow' : W.ownsRow 0 3 1 (.slice ha hnn hc) x.2.1.length (numsV x.2.1) := owns_same hrow fun k hk => by
          obtain ⟨_, c, hc⟩ := owns_lt hrow hk
          exact hW k _ _ hc
        obtain ⟨hg', hc', e, hcc⟩ := owns_cell hrow' hpos
        cases e
        exact ⟨hg', rfl, rfl, hcc j _ (numsV_at hq)⟩
      obtain ⟨⟨c2, c1, c3, d0, d1⟩, _⟩ := HW.out w (fun _ _ _ _ => rfl)
      have hlen0 : hnn = x.2.1.length := by
        rcases hrow.2 with ⟨e, h0⟩ | ⟨g', c', _, e, _⟩
        · cases e
          exact h0.symm
        · cases e
          rfl
      subst hlen0
      have hnlx := hnl p x hx
      have hnxx := hnx p x hx
      have HSET : Hid (∀ w2 : World, w2.ownsMap Tryd.prog 3 unitElem bs (N + 1) (D.put (.int .i64 (p : Int)) (.agg [])) → (w.alloc (.cells #[] 87)).grownBy w2 (some bs) → SetAt w2 bs N (putS S p) ∧ w.grownBy w2 (some bs) ∧ ∀ (b : Nat) (c : Array Value) (t : TypeId), w.heap[b]? = some (.cells c t (0, 0)) → w2.heap[b]? = w.heap[b]?) := by
        intro w2 h2 g2
        have hg : w.grownBy w2 (some bs) := (World.grownBy_alloc w _ (some bs)).trans g2
        refine ⟨set_of h2 (fun q hq => ?_) (has_put hown.isMap hD p _), hg, hS.others hg⟩
        simp [putS] at hq
        rcases hq with hq | hq
        · exact hltS q hq
        · omega
      have hown1 := hown.alloc (.cells #[] 87)
      have hb2 : B2 < w.heap.size := hC.2.1.lt
      have hb1 : B1 < w.heap.size := hC.1.lt
      obtain ⟨y, nx, ls⟩ := x
      simp only at *
      clear hC hL hrow hcell t0 t1
      by_cases hy : y = 0
      · subst hy
        have HSt := GrownS.start F S p
        have HD : Hid (∀ S', GrownS F S S' p nx → Grown F S S' p) := fun S' h => h.done hx
        have HStep : Hid (∀ (S1 S2 : Nat → Bool) (j q : Nat), nx[j]? = some q → GrownS F S S1 p (nx.take j) → Grown F S1 S2 q → GrownS F S S2 p (nx.take (j + 1))) := fun S1 S2 j q hq h g => by
          have := h.step hx rfl (List.mem_of_getElem? hq) g
          rw [List.take_add_one, hq]
          exact this
        have HSt' : Hid (GrownS F S (putS S p) p (nx.take 0)) := HSt
        have HNx : Hid (∀ q ∈ nx, q < N) := hnxx rfl
        have HIH : Hid (∀ (q : Nat) (W : World) (S1 : Nat → Bool), outS S1 N ≤ m → SetAt W bs N S1 → Places W (.slice (some ⟨g, 0, none⟩) F.length cap) F → Clo W bs B1 B2 B3 (.slice (some ⟨g, 0, none⟩) F.length cap) → q < N → Calls Tryd.prog 62 #[.int .i64 (q : Int), .pointer (some ⟨B2, 0, none⟩), .pointer (some ⟨B1, 0, none⟩), .pointer (some ⟨B3, 0, none⟩)] W fun e w' => e = .returned (.tuple #[]) ∧ ∃ S', SetAt w' bs N S' ∧ Grown F S1 S' q ∧ W.grownBy w' (some bs)) := ih
        clear ih HSt hnxx hx hnx hnl hD hS hSp hm
        have hpi : (p : Int) < (F.length : Int) := by omega
        have hp0 : (0 : Int) ≤ (p : Int) := by omega
        have hty : (((0 : Nat) : Int) == 0) = true := rfl
        go_enter Tryd.func62, Tryd.ntmps62
        go_wp2_with (first
          | (at_lookup; refine wpList_lookup_own_unit _ rfl _ _ 71 rfl 3 87 lawI Tryd.underlying71 (zeroU _) bs N D rfl hown _ _ rfl (keyOf_int_mk Tryd.underlying3 (wfN (by omega))) ?_; rw [hk1])
          | (at_mapUpdate; refine wpList_mapUpdate_own _ rfl _ _ _ 71 rfl 3 87 lawI Tryd.underlying71 _ bs N D rfl hown1 (by unfold maxLen; omega) _ _ _ rfl rfl (keyOf_int_mk Tryd.underlying3 (wfN (by omega))) _ [] unitElem_mk ?_; intro w2 hown2 hgrow2; obtain ⟨hS2, hg2, hcells2⟩ := HSET.out w2 hown2 hgrow2; obtain ⟨⟨c2', c1', c3', d0', d1'⟩, _⟩ := HW.out w2 hcells2)
          | go_in)
        have HC2 : Hid (∀ W : World, w2.grownBy W (some bs) → ∀ (b : Nat) (c : Array Value) (t : TypeId), w.heap[b]? = some (.cells c t (0, 0)) → W.heap[b]? = w.heap[b]?) := fun W hW b c t hb => (hS2.others hW b c t ((hcells2 b c t hb).trans hb)).trans (hcells2 b c t hb)
        have HG2 : Hid (w.grownBy w2 (some bs)) := hg2
        go_loopw [31] (fun i wr => ∃ (j : Nat) (S1 : Nat → Bool), j ≤ nx.length ∧ i = .int .i64 (j : Int) ∧ SetAt wr bs N S1 ∧ GrownS F S S1 p (nx.take j) ∧ outS S1 N ≤ m ∧ w2.grownBy wr (some bs)) (fun i _ => nx.length - (intOf i).toNat)
        case atStart => exact ⟨0, putS S p, Nat.zero_le _, rfl, hS2, HSt'.out, hout, ⟨rfl, rfl, rfl, Nat.le_refl _, fun _ _ _ => rfl⟩⟩
        case round =>
          obtain ⟨j, S1, hj, rfl, hS1, hGS, hou, hgw⟩ := hrel
          obtain ⟨⟨k2, k1, k3, k4, k5⟩, hC3, hL3, hkid⟩ := HW.out wr (HC2.out wr hgw)
          by_cases hlt : j < nx.length
          · have hq : nx[j]? = some nx[j] := List.getElem?_eq_getElem hlt
            obtain ⟨hg', e1, e2, hcq⟩ := hkid j _ hq
            subst e1
            have hqN := HNx.out _ (List.mem_of_getElem? hq)
            have HCALL := HIH.out nx[j] wr S1 hou hS1 hL3 hC3 hqN
            have HS3 : Hid (∀ S2, Grown F S1 S2 nx[j] → GrownS F S S2 p (nx.take (j + 1)) ∧ outS S2 N ≤ m) := fun S2 g => ⟨HStep.out S1 S2 j _ hq hGS g, Nat.le_trans (outS_le g.1) hou⟩
            have hji : (j : Int) < (nx.length : Int) := by omega
            have HGW : Hid (w2.grownBy wr (some bs)) := hgw
            clear hkid hq hS1 hGS hgw hC3 hL3 HC2 HW HSET
            generalize nx[j] = q at *
            go_wp2_with fail
            refine HCALL.mono ?_
            rintro e W ⟨rfl, S2, hS2', hG, hgW⟩
            obtain ⟨hGS', hou'⟩ := HS3.out S2 hG
            clear HCALL
            go_wp2
            go_roundw
            case rel => exact ⟨j + 1, S2, by omega, by first | rfl | go_num, hS2', hGS', hou', HGW.out.trans hgW⟩
            case measure => simp [intOf]; omega
          · obtain rfl : j = nx.length := by omega
            rw [List.take_of_length_le (Nat.le_refl _)] at hGS
            have HE : Hid (∃ S', SetAt wr bs N S' ∧ Grown F S S' p ∧ w.grownBy wr (some bs)) := ⟨S1, hS1, HD.out S1 hGS, HG2.out.trans hgw⟩
            clear hkid hS1 hGS hgw hC3 hL3 HC2 HW HSET HIH HStep
            go_wp2
            go_end0
            exact ⟨rfl, HE.out⟩
      · have hty : ((y : Int) == 0) = false := by rw [beq_eq_false_iff_ne]; omega
        have HD : Hid (Grown F S (putS S p) p) := by
          obtain ⟨h1, h2, h3, h4, h5⟩ := GrownS.start F S p
          refine ⟨h1, h2, h4, fun q z hq hn hz h0 r hr => ?_⟩
          by_cases e : q = p
          · subst e
            rw [hx] at hz
            cases hz
            exact absurd h0 hy
          · exact h5 q z hq hn e hz h0 r hr
        clear ih hnxx hx hnx hnl hD hS hSp hm
        have hpi : (p : Int) < (F.length : Int) := by omega
        have hp0 : (0 : Int) ≤ (p : Int) := by omega
        go_enter Tryd.func62, Tryd.ntmps62
        go_wp2_with (first
          | (at_lookup; refine wpList_lookup_own_unit _ rfl _ _ 71 rfl 3 87 lawI Tryd.underlying71 (zeroU _) bs N D rfl hown _ _ rfl (keyOf_int_mk Tryd.underlying3 (wfN (by omega))) ?_; rw [hk1])
          | (at_mapUpdate; refine wpList_mapUpdate_own _ rfl _ _ _ 71 rfl 3 87 lawI Tryd.underlying71 _ bs N D rfl hown1 (by unfold maxLen; omega) _ _ _ rfl rfl (keyOf_int_mk Tryd.underlying3 (wfN (by omega))) _ [] unitElem_mk ?_; intro w2 hown2 hgrow2; obtain ⟨hS2, hg2, hcells2⟩ := HSET.out w2 hown2 hgrow2; obtain ⟨⟨c2', c1', c3', d0', d1'⟩, _⟩ := HW.out w2 hcells2)
          | go_in)
        first | go_end0 | refine bodyPost_ret (results_none rfl _ _ _) rfl ?_
        exact ⟨rfl, _, hS2, HD.out, hg2⟩
end Go.Proofs.YtajabenlkmgjeaaDoor
