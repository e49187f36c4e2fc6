/-
  PROVED HERE: what the texts NetsD, RefChk, Types6 say (each has its own words below).
-/
import Derived.Test.YtofkiaeocfpkeaaGreatDoorRF12
import Derived.WalkSmall
/- NetsD: the walk through the net: what is reached, one type, a word. -/
namespace Go.Proofs.YtofkiaeocfpkeaaGreatDoor
open Go.RowKit

theorem infoBool : (Tryz.prog.info? 4).map (fun i => (i.zero, i.size, i.bytes)) = some (some (.bool false), 1, 1) := by kernel_rfl
theorem boolsV_append (l m : List Bool) : boolsV (l ++ m) = boolsV l ++ boolsV m := by unfold boolsV; simp
theorem run_append_bools (w : World) (base : Nat) (v : Value) (hown : w.ownsRow base 4 1 v 0 []) (ad : Addr) (zl zc : Nat) (zs : List Bool) (hZ : Bools w (some ad) zl zs) (h0 : 0 < zl) (h63 : zl ≤ 1000000) (hbase : base ≤ w.heap.size) :
    ∃ v' w', (Builtin.append_ #[93, 93] 93 #[v, .slice (some ad) zl zc]).run Tryz.prog w = .ok v' w' ∧ w'.ownsRow base 4 1 v' zl (boolsV zs) ∧ w.grownBy w' v.ownBlock := by
  obtain ⟨i0, hi, hz0, hz1, hz2⟩ := info_parts infoBool
  obtain ⟨hl, _, hz⟩ := hZ
  obtain ⟨b, o, e, _, hcc⟩ := hz.resolve_left (by omega)
  cases e
  obtain ⟨v', w', hr, q1, q2, _, _⟩ := run_append_own_at (P := Tryz.prog) w base 93 93 4 i0 _ 1 1 Tryz.underlying93 hi hz0 hz1 hz2 rfl (by decide) v 0 _ hown ⟨b, o, none⟩ zl zc (boolsV zs) (by unfold boolsV; rw [List.length_map]; omega) (fun j u hj => by
    unfold boolsV at hj
    rw [List.getElem?_map] at hj
    cases hq : zs[j]? with
    | none => rw [hq] at hj; cases hj
    | some y =>
      rw [hq] at hj
      cases hj
      rw [add_none]
      exact hcc j y hq) (fun u hu => by
    unfold boolsV at hu
    obtain ⟨y, _, rfl⟩ := List.mem_map.1 hu
    rfl) (by unfold maxLen; omega) (by omega) hbase
  rw [Nat.zero_add, List.nil_append] at q1
  exact ⟨v', w', hr, q1, q2⟩
/-- How many are false. -/
def outB (bs : List Bool) : Nat := bs.count false
theorem outB_set : ∀ {bs : List Bool} {q : Nat}, bs[q]? = some false → outB (bs.set q true) + 1 = outB bs := by
  intro bs
  induction bs with
  | nil => intro q h; simp at h
  | cons x r ih =>
    intro q h
    cases q with
    | zero =>
      simp at h
      subst h
      simp [outB]
    | succ q =>
      have := ih (q := q) (by simpa using h)
      unfold outB at this ⊢
      rw [List.set_cons_succ, List.count_cons, List.count_cons]
      omega
/-- The ways of a place of the set lead into it. -/
def ClB (F : List Node) (bs : List Bool) (i : Nat) : Prop := bs[i]? = some true → ∀ x, F[i]? = some x → ∀ q ∈ x.1, bs[q]? = some true
/-- How far spread is. -/
structure Spr (F : List Node) (bs0 : List Bool) (W wr : World) (g c : Nat) (bs : List Bool) : Prop where
  len : bs.length = F.length
  row : wr.ownsRow W.heap.size 4 1 (.slice (some ⟨g, 0, none⟩) F.length c) F.length (boolsV bs)
  bel : Below W.heap.size W wr
  sub : ∀ q : Nat, bs0[q]? = some true → bs[q]? = some true
  sound : ∀ q : Nat, bs[q]? = some true → spreadM F (fun p => bs0[p]? = some true) q
theorem Spr.cell {F : List Node} {bs0 : List Bool} {W wr : World} {g c : Nat} {bs : List Bool} (h : Spr F bs0 W wr g c bs) {i : Nat} (hi : i < F.length) : ∃ x, bs[i]? = some x ∧ wr.cell? ⟨g, i, none⟩ = some (.bool x) ∧ wr.frozen? ⟨g, i, none⟩ = false := by
  obtain ⟨x, hx⟩ : ∃ x, bs[i]? = some x := ⟨_, List.getElem?_eq_getElem (by rw [h.len]; exact hi)⟩
  obtain ⟨g', c', e, hc⟩ := owns_cell h.row (by omega)
  injection e with e1
  injection e1 with e2
  injection e2 with e3
  subst e3
  obtain ⟨_, cur, hcur⟩ := owns_lt h.row (g := g) rfl
  exact ⟨x, hx, hc i _ (by unfold boolsV; rw [List.getElem?_map, hx]; rfl), by simp [World.frozen?, hcur]⟩
theorem Spr.put {F : List Node} {bs0 : List Bool} {W wr : World} {g c : Nat} {bs : List Bool} (h : Spr F bs0 W wr g c bs) {i q : Nat} {x : Node} (hi : bs[i]? = some true) (hx : F[i]? = some x) (hq : q ∈ x.1) : Spr F bs0 W (wr.setCell ⟨g, q, none⟩ (.bool true)) g c (bs.set q true) := by
  refine ⟨by rw [List.length_set]; exact h.len, ?_, h.bel.setCell (owned_base h.row (g := g) rfl) _, fun p hp => ?_, fun p hp => ?_⟩
  · have := owns_setb h.row q (.bool true)
    have e : boolsV (bs.set q true) = (boolsV bs).set q (.bool true) := by unfold boolsV; rw [List.map_set]
    rwa [e]
  · rw [List.getElem?_set]
    split
    · rename_i e
      subst e
      have := h.sub q hp
      rw [if_pos (List.getElem?_eq_some_iff.1 this).1]
    · exact h.sub p hp
  · rcases set_at hp with ⟨rfl, _, _⟩ | ⟨_, hp⟩
    · exact spreadM_shut F _ i x (h.sound i hi) hx p hq
    · exact h.sound p hp
theorem spread_done {F : List Node} {bs0 bs : List Bool} (hs : ∀ q : Nat, bs0[q]? = some true → bs[q]? = some true) (hv : ∀ q : Nat, bs[q]? = some true → spreadM F (fun p => bs0[p]? = some true) q) (hc : ∀ i, i < F.length → ClB F bs i) : ∀ q : Nat, bs[q]? = some true ↔ spreadM F (fun p => bs0[p]? = some true) q := by
  intro q
  refine ⟨hv q, ?_⟩
  rintro ⟨p, k, hp, hvia⟩
  have hshut : ShutM F (fun p => bs[p]? = some true) := fun i x hi hx r hr => hc i (List.getElem?_eq_some_iff.1 hx).1 hi x hx r hr
  exact hshut.via (hs p hp) hvia
set_option maxRecDepth 100000 in
set_option maxHeartbeats 4000000 in
theorem spread_calls (w0 W : World) (Bn : Nat) (F : List Node) (hN : NetIn w0 W Bn F) (hF : FitN F) (h0 : 0 < F.length) (hlen : F.length ≤ 50000) (hfew : FewN 50000 F) (ad : Addr) (ic : Nat) (bs0 : List Bool) (hI : Bools W (some ad) F.length bs0) :
    Calls Tryz.prog 97 #[.pointer (some ⟨Bn, 0, none⟩), .slice (some ad) F.length ic] W fun e w' => ∃ (a : Addr) (c : Nat) (bs : List Bool), e = .returned (.slice (some a) F.length c) ∧ Bools w' (some a) F.length bs ∧ (∀ q : Nat, bs[q]? = some true ↔ spreadM F (fun p => bs0[p]? = some true) q) ∧ Below W.heap.size W w' := by
  obtain ⟨gt, ct, gb, cb, gn, cn, hread⟩ := hN.read h0
  have hA : Below W.heap.size W (W.alloc (.cells #[] 4)) := (Below.refl _ W).alloc (Nat.le_refl _) _
  have hnil : (W.alloc (.cells #[] 4)).ownsRow W.heap.size 4 1 (.slice (some ⟨W.heap.size, 0, none⟩) 0 0) 0 [] := ⟨rfl, .inr ⟨W.heap.size, 0, _, rfl, Nat.le_refl _, World.alloc_heap_new W _, Nat.le_refl _, by unfold maxLen; omega, rfl, rfl⟩⟩
  obtain ⟨v', W1, hr, hrow, hg⟩ := run_append_bools (W.alloc (.cells #[] 4)) W.heap.size (.slice (some ⟨W.heap.size, 0, none⟩) 0 0) hnil ad F.length ic bs0 (hI.below hA) h0 (by omega) hA.size
  have hB1 : Below W.heap.size W W1 := hA.grown hg hA.size (fun k e => owned_base hnil e)
  obtain ⟨g, c, rfl, _⟩ := owns_cell hrow h0
  have HI0 : Hid (Spr F bs0 W W1 g c bs0) := ⟨hI.1, hrow, hB1, fun _ h => h, fun q hq => ⟨q, 0, hq, rfl⟩⟩
  have HRD : Hid (∀ X, Below W.heap.size W X → X.cell? ⟨Bn, 0, none⟩ = some (.slice (some ⟨gt, 0, none⟩) F.length ct) ∧ ∀ (i : Nat) (x : Node), F[i]? = some x → ∃ ta tc, X.cell? ⟨gt, i, none⟩ = some (.slice ta x.1.length tc) ∧ ∀ (k q : Nat), x.1[k]? = some q → ∃ g, ta = some ⟨g, 0, none⟩ ∧ X.cell? ⟨g, k, none⟩ = some (.int .i64 (q : Int))) := fun X hX => ⟨(hread X hX).1, fun i x hx => ((hread X hX).2.2.2 i x hx).2.1⟩
  have HFIT : Hid (FitN F ∧ FewN 50000 F) := ⟨hF, hfew⟩
  have HR : Hid _ := hr
  have hli : (F.length : Int) ≤ 50000 := by omega
  have hl0 : (0 : Int) < (F.length : Int) := by omega
  clear hread hA hnil hg hrow hB1 hI hN hF hfew hr
  go_enter Tryz.func97, Tryz.ntmps97
  go_wp2_with (first
    | (at_builtin; refine wpList_run_append rfl (.tmp 9) (.tmp 10) 93 rfl _ _ _ W1 rfl rfl HR.out ?_)
    | fail)
  clear HR
  go_loopg [6] (outB bs0 + 1) (fun gk u wr => ∃ (more : Bool) (bs : List Bool), u = .bool more ∧ Spr F bs0 W wr g c bs ∧ ((more = true ∧ outB bs < gk) ∨ (more = false ∧ ∀ i, i < F.length → ClB F bs i)))
  case atStart => exact ⟨true, bs0, rfl, HI0.out, .inl ⟨rfl, Nat.lt_succ_self _⟩⟩
  case round =>
    obtain ⟨more, bs, rfl, hS, hmore⟩ := hrel
    clear HI0
    rcases hmore with ⟨rfl, hgk⟩ | ⟨rfl, hcl⟩
    · have HGK : Hid (outB bs < gk) := hgk
      have HS : Hid (Spr F bs0 W wr g c bs) := hS
      clear hgk hS
      go_wp2_with fail
      go_loopg [6, 7] (F.length + 1) (fun gk2 u v wr2 => ∃ (i : Nat) (m : Bool) (bs2 : List Bool), i ≤ F.length ∧ F.length < i + gk2 ∧ u = .bool m ∧ v = .int .i64 (i : Int) ∧ Spr F bs0 W wr2 g c bs2 ∧ ((m = true ∧ outB bs2 < outB bs) ∨ (m = false ∧ bs2 = bs ∧ ∀ j, j < i → ClB F bs j)))
      case atStart => exact ⟨0, false, bs, Nat.zero_le _, by omega, rfl, rfl, HS.out, .inr ⟨rfl, rfl, fun j hj => absurd hj (Nat.not_lt_zero j)⟩⟩
      case round =>
        obtain ⟨i, m, bs2, hi, hgk2, rfl, rfl, hS2, hm⟩ := hrel
        by_cases hlt : i < F.length
        · obtain ⟨x, hx⟩ : ∃ x, F[i]? = some x := ⟨_, List.getElem?_eq_getElem hlt⟩
          obtain ⟨rd0, rd1⟩ := HRD.out wr hS2.bel
          have hii : (i : Int) < (F.length : Int) := by omega
          have hi0 : (0 : Int) ≤ (i : Int) := by omega
          have HS2 : Hid (Spr F bs0 W wr g c bs2) := hS2
          have HM : Hid ((m = true ∧ outB bs2 < outB bs) ∨ (m = false ∧ bs2 = bs ∧ ∀ j, j < i → ClB F bs j)) := hm
          have HG2 : Hid (F.length < i + gk) := hgk2
          have HXF : Hid (F[i]? = some x) := hx
          have hxl : x.1.length ≤ 50000 := HFIT.out.2 i x hx
          have HXQ : Hid (∀ k q, x.1[k]? = some q → q < F.length) := fun k q hq => (HFIT.out.1 i x hx).1 q (List.mem_of_getElem? hq)
          clear hS2 hm hgk2 hx rd1
          go_wp2_with fail
          go_loopg [6, 8] (x.1.length + 1) (fun gk3 u v wr3 => ∃ (k : Nat) (m3 : Bool) (bs3 : List Bool), k ≤ x.1.length ∧ x.1.length < k + gk3 ∧ u = .bool m3 ∧ v = .int .i64 (k : Int) ∧ Spr F bs0 W wr3 g c bs3 ∧ (bs2[i]? = some true → bs3[i]? = some true) ∧ ((m3 = true ∧ outB bs3 < outB bs) ∨ (m3 = false ∧ bs3 = bs ∧ (∀ j, j < i → ClB F bs j) ∧ ∀ k' q, k' < k → x.1[k']? = some q → bs[q]? = some true)))
          case atStart =>
            refine ⟨0, m, bs2, Nat.zero_le _, by omega, rfl, rfl, HS2.out, fun h => h, ?_⟩
            rcases HM.out with h | ⟨h1, h2, h3⟩
            · exact .inl h
            · exact .inr ⟨h1, h2, h3, fun k' q hk => absurd hk (Nat.not_lt_zero k')⟩
          case round =>
            obtain ⟨k, m3, bs3, hk, hgk3, rfl, rfl, hS3, hkeep, hm3⟩ := hrel
            obtain ⟨rd0, rd1⟩ := HRD.out wr hS3.bel
            obtain ⟨ta, tc, r1, r2⟩ := rd1 i x HXF.out
            obtain ⟨y, hy, cy, _⟩ := hS3.cell hlt
            cases y with
            | false =>
              have HE : Hid (∃ (i' : Nat) (m' : Bool) (bs' : List Bool), i + 1 ≤ F.length ∧ Spr F bs0 W wr g c bs3 ∧ ((m3 = true ∧ outB bs3 < outB bs) ∨ (m3 = false ∧ bs3 = bs ∧ ∀ j, j < i + 1 → ClB F bs j))) := by
                refine ⟨0, true, [], by omega, hS3, ?_⟩
                rcases hm3 with h | ⟨h1, h2, h3, h4⟩
                · exact .inl h
                · refine .inr ⟨h1, h2, fun j hj => ?_⟩
                  rcases Nat.lt_or_ge j i with hlt' | hge
                  · exact h3 j hlt'
                  · obtain rfl : j = i := by omega
                    intro ht
                    rw [← h2, hy] at ht
                    cases ht
              clear hS3 hm3 hkeep rd1 r2 hgk3
              go_wp2_with fail
              go_roundg (F.length - i)
              case measure => have := HG2.out; omega
              case rel =>
                obtain ⟨_, _, _, e1, e2, e3⟩ := HE.out
                exact ⟨i + 1, m3, bs3, e1, by omega, rfl, by first | rfl | go_num, e2, e3⟩
            | true =>
              by_cases hkl : k < x.1.length
              · obtain ⟨q, hq⟩ : ∃ q, x.1[k]? = some q := ⟨_, List.getElem?_eq_getElem hkl⟩
                obtain ⟨sg, rfl, cq⟩ := r2 k q hq
                have hqF := HXQ.out k q hq
                obtain ⟨z, hz, cz, fz⟩ := hS3.cell hqF
                have hki : (k : Int) < (x.1.length : Int) := by omega
                have hk0 : (0 : Int) ≤ (k : Int) := by omega
                have hqi : (q : Int) < (F.length : Int) := by omega
                have hq0 : (0 : Int) ≤ (q : Int) := by omega
                have hxi : (x.1.length : Int) ≤ 50000 := by omega
                have HG3 : Hid (x.1.length < k + gk) := hgk3
                cases z with
                | true =>
                  have HE : Hid (Spr F bs0 W wr g c bs3 ∧ (bs2[i]? = some true → bs3[i]? = some true) ∧ ((m3 = true ∧ outB bs3 < outB bs) ∨ (m3 = false ∧ bs3 = bs ∧ (∀ j, j < i → ClB F bs j) ∧ ∀ k' q, k' < k + 1 → x.1[k']? = some q → bs[q]? = some true))) := by
                    refine ⟨hS3, hkeep, ?_⟩
                    rcases hm3 with h | ⟨h1, h2, h3, h4⟩
                    · exact .inl h
                    · refine .inr ⟨h1, h2, h3, fun k' q' hk' hq' => ?_⟩
                      rcases Nat.lt_or_ge k' k with hlt' | hge
                      · exact h4 k' q' hlt' hq'
                      · obtain rfl : k' = k := by omega
                        rw [hq] at hq'
                        cases hq'
                        rw [← h2]
                        exact hz
                  clear hS3 hm3 hkeep rd1 r2 hgk3 hq hy hz
                  go_wp2_with fail
                  go_roundg (x.1.length - k)
                  case measure => have := HG3.out; omega
                  case rel => exact ⟨k + 1, m3, bs3, by omega, by omega, rfl, by first | rfl | go_num, HE.out⟩
                | false =>
                  have HE : Hid (Spr F bs0 W (wr.setCell ⟨g, q, none⟩ (.bool true)) g c (bs3.set q true) ∧ (bs2[i]? = some true → (bs3.set q true)[i]? = some true) ∧ outB (bs3.set q true) < outB bs) := by
                    refine ⟨hS3.put hy HXF.out (List.mem_of_getElem? hq), fun h => ?_, ?_⟩
                    · rw [List.getElem?_set]
                      split
                      · rename_i e
                        rw [if_pos (by rw [hS3.len]; exact hqF)]
                      · exact hkeep h
                    · have := outB_set hz
                      rcases hm3 with h | ⟨h1, h2, _⟩
                      · omega
                      · rw [h2] at this ⊢
                        omega
                  clear hS3 hm3 hkeep rd1 r2 hgk3 hq hy hz
                  go_wp2_with fail
                  go_roundg (x.1.length - k)
                  case measure => have := HG3.out; omega
                  case rel => exact ⟨k + 1, true, bs3.set q true, by omega, by omega, rfl, by first | rfl | go_num, HE.out.1, HE.out.2.1, .inl ⟨rfl, HE.out.2.2⟩⟩
              · obtain rfl : k = x.1.length := by omega
                have HE : Hid (i + 1 ≤ F.length ∧ Spr F bs0 W wr g c bs3 ∧ ((m3 = true ∧ outB bs3 < outB bs) ∨ (m3 = false ∧ bs3 = bs ∧ ∀ j, j < i + 1 → ClB F bs j))) := by
                  refine ⟨by omega, hS3, ?_⟩
                  rcases hm3 with h | ⟨h1, h2, h3, h4⟩
                  · exact .inl h
                  · refine .inr ⟨h1, h2, fun j hj => ?_⟩
                    rcases Nat.lt_or_ge j i with hlt' | hge
                    · exact h3 j hlt'
                    · obtain rfl : j = i := by omega
                      intro ht y hy' q hq
                      have hxy := HXF.out
                      rw [hy'] at hxy
                      cases hxy
                      obtain ⟨k', hk'⟩ := List.getElem?_of_mem hq
                      exact h4 k' q (List.getElem?_eq_some_iff.1 hk').1 hk'
                have hxi : (x.1.length : Int) ≤ 50000 := by omega
                clear hS3 hm3 hkeep rd1 r2 hgk3 hy
                go_wp2_with fail
                go_roundg (F.length - i)
                case measure => have := HG2.out; omega
                case rel => exact ⟨i + 1, m3, bs3, HE.out.1, by omega, rfl, by first | rfl | go_num, HE.out.2⟩
        · obtain rfl : i = F.length := by omega
          have HE : Hid (Spr F bs0 W wr g c bs2 ∧ ((m = true ∧ outB bs2 < outB bs) ∨ (m = false ∧ ∀ j, j < F.length → ClB F bs2 j))) := by
            refine ⟨hS2, ?_⟩
            rcases hm with h | ⟨h1, h2, h3⟩
            · exact .inl h
            · exact .inr ⟨h1, by rw [h2]; exact h3⟩
          clear hS2 hm hgk2
          go_wp2_with fail
          go_roundg (outB bs)
          case measure => exact HGK.out
          case rel => exact ⟨m, bs2, rfl, HE.out⟩
    · have HE : Hid (∃ c' bs', Bools wr (some ⟨g, 0, none⟩) F.length bs' ∧ (∀ q : Nat, bs'[q]? = some true ↔ spreadM F (fun p => bs0[p]? = some true) q) ∧ Below W.heap.size W wr ∧ c' = c) := by
        obtain ⟨a, c', e, hb⟩ := owned_bools hS.row (by omega)
        injection e with e1
        subst e1
        exact ⟨c, bs, hb, spread_done hS.sub hS.sound hcl, hS.bel, rfl⟩
      clear hS hcl
      go_wp2_with fail
      go_ret
      obtain ⟨c', bs', e1, e2, e3, _⟩ := HE.out
      first | exact ⟨⟨g, 0, none⟩, ⟨c, rfl⟩, bs', e1, e2, e3⟩ | exact ⟨⟨g, 0, none⟩, c, bs', rfl, e1, e2, e3⟩
end Go.Proofs.YtofkiaeocfpkeaaGreatDoor

/- NetStep: the document's first and step at every net: where one is at the beginning, and behind a type; nothing that lay before is turned. -/
namespace Go.Proofs.YtofkiaeocfpkeaaGreatDoor
open Go.RowKit

theorem made_bools (n : Nat) : (madeCells (Value.bool false).cells (n * 1)).toList = boolsV (List.replicate n false) := by
  show (madeCells #[Value.bool false] (n * 1)).toList = _
  rw [Nat.mul_one, toList_madeCells_one]
  unfold boolsV
  rw [List.map_replicate]
/-- A net that can be walked. -/
structure NetOk (w0 W : World) (Bn : Nat) (F : List Node) : Prop where
  net : NetIn w0 W Bn F
  fit : FitN F
  two : 2 ≤ F.length
  len : F.length ≤ 50000
  few : FewN 50000 F
theorem NetOk.keep {w0 W W' : World} {Bn : Nat} {F : List Node} (h : NetOk w0 W Bn F) (hB : Below W.heap.size W W') : NetOk w0 W' Bn F := ⟨h.net.keep hB, h.fit, h.two, h.len, h.few⟩
theorem first_set {n : Nat} (h : 0 < n) (p : Nat) : ((List.replicate n false).set 0 true)[p]? = some true ↔ p = 0 := by
  constructor
  · intro e
    rcases set_at e with ⟨h, _⟩ | ⟨_, e⟩
    · exact h
    · rw [List.getElem?_replicate] at e
      split at e <;> simp at e
  · rintro rfl
    rw [List.getElem?_set_self (by simpa using h)]
theorem spreadM_congr {F : List Node} {S S' : Nat → Prop} (h : ∀ q, S q ↔ S' q) (q : Nat) : spreadM F S q ↔ spreadM F S' q := by
  constructor
  · rintro ⟨p, k, hp, hv⟩; exact ⟨p, k, (h p).1 hp, hv⟩
  · rintro ⟨p, k, hp, hv⟩; exact ⟨p, k, (h p).2 hp, hv⟩
set_option maxRecDepth 100000 in
set_option maxHeartbeats 1000000 in
theorem first_calls (w0 W : World) (Bn : Nat) (F : List Node) (h : NetOk w0 W Bn F) :
    Calls Tryz.prog 96 #[.pointer (some ⟨Bn, 0, none⟩)] W fun e w' => ∃ (a : Addr) (c : Nat) (bs : List Bool), e = .returned (.slice (some a) F.length c) ∧ Bools w' (some a) F.length bs ∧ (∀ q : Nat, bs[q]? = some true ↔ firstM F q) ∧ Below W.heap.size W w' := by
  have h2 := h.two
  have hl := h.len
  obtain ⟨gt, ct, gb, cb, gn, cn, hread⟩ := h.net.read (by omega)
  obtain ⟨_, _, r2, _⟩ := hread W (Below.refl _ _)
  obtain ⟨i0, hi, hz0, hz1, hz2⟩ := info_parts infoBool
  have HSP : Hid (∀ (X : World), Below W.heap.size W X → X.ownsRow W.heap.size 4 1 (.slice (some ⟨W.heap.size, 0, none⟩) F.length F.length) F.length (boolsV (List.replicate F.length false)) → Calls Tryz.prog 97 #[.pointer (some ⟨Bn, 0, none⟩), .slice (some ⟨W.heap.size, 0, none⟩) F.length F.length] (X.setCell ⟨W.heap.size, 0, none⟩ (.bool true)) fun e w' => ∃ (a : Addr) (c : Nat) (bs : List Bool), e = .returned (.slice (some a) F.length c) ∧ Bools w' (some a) F.length bs ∧ (∀ q : Nat, bs[q]? = some true ↔ firstM F q) ∧ Below W.heap.size W w') := fun X hX hrow => by
    have hB : Below W.heap.size W (X.setCell ⟨W.heap.size, 0, none⟩ (.bool true)) := hX.setCell (Nat.le_refl _) _
    have hr := owns_setb hrow 0 (.bool true)
    have e : (boolsV (List.replicate F.length false)).set 0 (.bool true) = boolsV ((List.replicate F.length false).set 0 true) := by unfold boolsV; rw [List.map_set]
    rw [e] at hr
    obtain ⟨a, c, e, hb⟩ := owned_bools hr (by omega)
    injection e with e1
    subst e1
    have hk := h.keep hB
    refine (spread_calls w0 _ Bn F hk.net hk.fit (by omega) hk.len hk.few _ _ _ hb).mono ?_
    rintro e w' ⟨a, c, bs, h1, h2, h3, h4⟩
    refine ⟨a, c, bs, h1, h2, fun q => ?_, hB.trans (h4.mono hB.size)⟩
    rw [h3]
    exact spreadM_congr (first_set (by omega)) q
  have hli : (F.length : Int) ≤ 50000 := by omega
  have hl0 : (0 : Int) < (F.length : Int) := by omega
  clear hread h
  go_enter Tryz.func96, Tryz.ntmps96
  go_wp2_with (first
    | (at_make; refine wpList_make_full _ rfl (.tmp 8) (.tmp 8) 93 rfl W.heap.size 4 i0 _ 1 Tryz.underlying93 hi hz0 hz1 .i64 .i64 _ _ F.length rfl rfl rfl rfl (by rw [hz2]; omega) (by unfold maxLen; omega) (Nat.le_refl _) ?_; intro X hrow hgr; rw [made_bools] at hrow; have hBX : Below W.heap.size W X := (Below.refl _ W).grown hgr (Nat.le_refl _) (fun k e => by cases e); have HS := HSP.out X hBX hrow; obtain ⟨g', c', eg, hcc⟩ := owns_cell hrow (by omega); (have hc0 : X.cell? ⟨W.heap.size, 0, none⟩ = some (.bool false) := by injection eg with e1; injection e1 with e2; injection e2 with e3; rw [e3]; exact hcc 0 _ (by unfold boolsV; rw [List.getElem?_map, List.getElem?_replicate, if_pos (by omega)]; rfl)); (have hf0 : X.frozen? ⟨W.heap.size, 0, none⟩ = false := by obtain ⟨_, cur, hcur⟩ := owns_lt hrow (g := W.heap.size) rfl; simp [World.frozen?, hcur]); clear hrow hgr hBX hcc eg HSP)
    | fail)
  refine HS.mono ?_
  rintro e X2 ⟨a, c, bs, rfl, e1, e2, e3⟩
  have HE : Hid (Bools X2 (some a) F.length bs ∧ (∀ q : Nat, bs[q]? = some true ↔ firstM F q) ∧ Below W.heap.size W X2) := ⟨e1, e2, e3⟩
  clear e1 e2 e3 HS
  go_wp2
  go_ret
  first | exact ⟨a, ⟨c, rfl⟩, bs, HE.out⟩ | exact ⟨a, c, bs, rfl, HE.out⟩
/-- What is reached at once by those ahead of i, and by the first k types of i. -/
def HopTo (F : List Node) (S : Nat → Prop) (t : Int) (i k : Nat) (q : Nat) : Prop := (∃ a x, a < i ∧ S a ∧ F[a]? = some x ∧ t ∈ x.2.1 ∧ x.2.2 = (q : Int)) ∨ (S i ∧ ∃ x, F[i]? = some x ∧ t ∈ x.2.1.take k ∧ x.2.2 = (q : Int))
/-- How far step is. -/
structure Stp (F : List Node) (W wr : World) (g c : Nat) (bs : List Bool) (P : Nat → Prop) (sm : Bool) : Prop where
  len : bs.length = F.length
  row : wr.ownsRow W.heap.size 4 1 (.slice (some ⟨g, 0, none⟩) F.length c) F.length (boolsV bs)
  bel : Below W.heap.size W wr
  iff : ∀ q : Nat, bs[q]? = some true ↔ P q
  some : sm = true ↔ ∃ q, P q
theorem Stp.cell {F : List Node} {W wr : World} {g c : Nat} {bs : List Bool} {P : Nat → Prop} {sm : Bool} (h : Stp F W wr g c bs P sm) {i : Nat} (hi : i < F.length) : ∃ x, wr.cell? ⟨g, i, none⟩ = Option.some (.bool x) ∧ wr.frozen? ⟨g, i, none⟩ = false := by
  obtain ⟨x, hx⟩ : ∃ x, bs[i]? = Option.some x := ⟨_, List.getElem?_eq_getElem (by rw [h.len]; exact hi)⟩
  obtain ⟨g', c', e, hc⟩ := owns_cell h.row (by omega)
  injection e with e1
  injection e1 with e2
  injection e2 with e3
  subst e3
  obtain ⟨_, cur, hcur⟩ := owns_lt h.row (g := g) rfl
  exact ⟨x, hc i _ (by unfold boolsV; rw [List.getElem?_map, hx]; rfl), by simp [World.frozen?, hcur]⟩
theorem Stp.same {F : List Node} {W wr : World} {g c : Nat} {bs : List Bool} {P P' : Nat → Prop} {sm : Bool} (h : Stp F W wr g c bs P sm) (hP : ∀ q, P q ↔ P' q) : Stp F W wr g c bs P' sm :=
  ⟨h.len, h.row, h.bel, fun q => (h.iff q).trans (hP q), h.some.trans ⟨fun ⟨q, hq⟩ => ⟨q, (hP q).1 hq⟩, fun ⟨q, hq⟩ => ⟨q, (hP q).2 hq⟩⟩⟩
theorem Stp.put {F : List Node} {W wr : World} {g c : Nat} {bs : List Bool} {P P' : Nat → Prop} {sm : Bool} (h : Stp F W wr g c bs P sm) {q : Nat} (hq : q < F.length) (hP : ∀ r, P' r ↔ (P r ∨ r = q)) : Stp F W (wr.setCell ⟨g, q, none⟩ (.bool true)) g c (bs.set q true) P' true := by
  refine ⟨by rw [List.length_set]; exact h.len, ?_, h.bel.setCell (owned_base h.row (g := g) rfl) _, fun r => ?_, ⟨fun _ => ⟨q, (hP q).2 (.inr rfl)⟩, fun _ => rfl⟩⟩
  · have := owns_setb h.row q (.bool true)
    have e : boolsV (bs.set q true) = (boolsV bs).set q (.bool true) := by unfold boolsV; rw [List.map_set]
    rwa [e]
  · rw [hP, ← h.iff, List.getElem?_set]
    constructor
    · intro e
      split at e
      · rename_i hqr; exact .inr hqr.symm
      · exact .inl e
    · rintro (e | rfl)
      · split
        · rename_i hqr; rw [if_pos (by rw [h.len]; exact hq)]
        · exact e
      · rw [if_pos rfl, if_pos (by rw [h.len]; exact hq)]
theorem hop_zero {F : List Node} {S : Nat → Prop} {t : Int} (q : Nat) : HopTo F S t 0 0 q ↔ False := by
  constructor
  · rintro (⟨a, x, h, _⟩ | ⟨_, x, _, h, _⟩)
    · omega
    · simp at h
  · intro h; cases h
theorem hop_next {F : List Node} {S : Nat → Prop} {t : Int} {i : Nat} {x : Node} (hx : F[i]? = some x) (q : Nat) : HopTo F S t i x.2.1.length q ↔ HopTo F S t (i + 1) 0 q := by
  constructor
  · rintro (⟨a, y, h1, h2⟩ | ⟨h1, y, hy, h2, h3⟩)
    · exact .inl ⟨a, y, by omega, h2⟩
    · rw [hx] at hy
      cases hy
      rw [List.take_of_length_le (Nat.le_refl _)] at h2
      exact .inl ⟨i, x, by omega, h1, hx, h2, h3⟩
  · rintro (⟨a, y, h1, h2, h3, h4, h5⟩ | ⟨_, y, _, h2, _⟩)
    · rcases Nat.lt_or_ge a i with hlt | hge
      · exact .inl ⟨a, y, hlt, h2, h3, h4, h5⟩
      · obtain rfl : a = i := by omega
        rw [hx] at h3
        cases h3
        exact .inr ⟨h2, x, hx, by rw [List.take_of_length_le (Nat.le_refl _)]; exact h4, h5⟩
    · simp at h2
theorem hop_skip {F : List Node} {S : Nat → Prop} {t : Int} {i k : Nat} (hS : ¬ S i) (q : Nat) : HopTo F S t i k q ↔ HopTo F S t (i + 1) 0 q := by
  constructor
  · rintro (⟨a, y, h1, h2⟩ | ⟨h1, _⟩)
    · exact .inl ⟨a, y, by omega, h2⟩
    · exact absurd h1 hS
  · rintro (⟨a, y, h1, h2, h3⟩ | ⟨_, y, _, h2, _⟩)
    · rcases Nat.lt_or_ge a i with hlt | hge
      · exact .inl ⟨a, y, hlt, h2, h3⟩
      · obtain rfl : a = i := by omega
        exact absurd h2 hS
    · simp at h2
theorem hop_type {F : List Node} {S : Nat → Prop} {t : Int} {i k : Nat} {x : Node} (hx : F[i]? = some x) (hS : S i) {z : Int} (hz : x.2.1[k]? = some z) (q : Nat) : HopTo F S t i (k + 1) q ↔ (HopTo F S t i k q ∨ (z = t ∧ x.2.2 = (q : Int))) := by
  have htk : x.2.1.take (k + 1) = x.2.1.take k ++ [z] := by rw [List.take_add_one, hz]; rfl
  constructor
  · rintro (h | ⟨h1, y, hy, h2, h3⟩)
    · exact .inl (.inl h)
    · rw [hx] at hy
      cases hy
      rw [htk] at h2
      rcases List.mem_append.1 h2 with h2 | h2
      · exact .inl (.inr ⟨h1, x, hx, h2, h3⟩)
      · simp at h2
        exact .inr ⟨h2.symm, h3⟩
  · rintro ((h | ⟨h1, y, hy, h2, h3⟩) | ⟨rfl, h3⟩)
    · exact .inl h
    · rw [hx] at hy
      cases hy
      exact .inr ⟨h1, x, hx, by rw [htk]; exact List.mem_append_left _ h2, h3⟩
    · exact .inr ⟨hS, x, hx, by rw [htk]; simp, h3⟩
theorem hop_all {F : List Node} {S : Nat → Prop} {t : Int} (q : Nat) : HopTo F S t F.length 0 q ↔ hopM F S t q := by
  constructor
  · rintro (⟨a, x, _, h2, h3, h4, h5⟩ | ⟨_, x, _, h, _⟩)
    · exact ⟨a, x, h2, h3, h4, h5⟩
    · simp at h
  · rintro ⟨a, x, h2, h3, h4, h5⟩
    exact .inl ⟨a, x, (List.getElem?_eq_some_iff.1 h3).1, h2, h3, h4, h5⟩
set_option maxRecDepth 100000 in
set_option maxHeartbeats 4000000 in
theorem step_calls (w0 W : World) (Bn : Nat) (F : List Node) (h : NetOk w0 W Bn F) (htf : ∀ (i : Nat) (x : Node), F[i]? = some x → x.2.1.length ≤ 16) (ia : Addr) (ic : Nat) (bs0 : List Bool) (hI : Bools W (some ia) F.length bs0) (t : Int) :
    Calls Tryz.prog 46 #[.pointer (some ⟨Bn, 0, none⟩), .slice (some ia) F.length ic, .int .i64 t] W fun e w' => ∃ (a : Addr) (c : Nat) (bs : List Bool) (sm : Bool), e = .returned (.tuple #[.slice (some a) F.length c, .bool sm]) ∧ Bools w' (some a) F.length bs ∧ (∀ q : Nat, bs[q]? = some true ↔ stepM F (fun p => bs0[p]? = some true) t q) ∧ (sm = true ↔ ∃ q, hopM F (fun p => bs0[p]? = some true) t q) ∧ Below W.heap.size W w' := by
  have h2 := h.two
  have hl := h.len
  obtain ⟨gt, ct, gb, cb, gn, cn, hread⟩ := h.net.read (by omega)
  obtain ⟨_, _, r2, _⟩ := hread W (Below.refl _ _)
  obtain ⟨i0, hi, hz0, hz1, hz2⟩ := info_parts infoBool
  have HST : Hid (∀ X, Below W.heap.size W X → X.ownsRow W.heap.size 4 1 (.slice (some ⟨W.heap.size, 0, none⟩) F.length F.length) F.length (boolsV (List.replicate F.length false)) → Stp F W X W.heap.size F.length (List.replicate F.length false) (HopTo F (fun p => bs0[p]? = some true) t 0 0) false) := fun X hX hrow => by
    refine ⟨by simp, hrow, hX, fun q => ?_, ⟨fun e => (by cases e), fun ⟨q, hq⟩ => ((hop_zero q).1 hq).elim⟩⟩
    rw [hop_zero]
    constructor
    · intro e
      rw [List.getElem?_replicate] at e
      split at e <;> simp at e
    · intro e; cases e
  have HEND : Hid (∀ (X : World) (bs : List Bool) (sm : Bool), Stp F W X W.heap.size F.length bs (HopTo F (fun p => bs0[p]? = some true) t F.length 0) sm → Calls Tryz.prog 97 #[.pointer (some ⟨Bn, 0, none⟩), .slice (some ⟨W.heap.size, 0, none⟩) F.length F.length] X fun e w' => ∃ (a : Addr) (c : Nat) (bs : List Bool), e = .returned (.slice (some a) F.length c) ∧ Bools w' (some a) F.length bs ∧ (∀ q : Nat, bs[q]? = some true ↔ stepM F (fun p => bs0[p]? = some true) t q) ∧ (sm = true ↔ ∃ q, hopM F (fun p => bs0[p]? = some true) t q) ∧ Below W.heap.size W w') := fun X bs sm hS => by
    have hS' := hS.same hop_all
    obtain ⟨a, c, e, hb⟩ := owned_bools hS.row (by omega)
    injection e with e1
    subst e1
    have hk := h.keep hS.bel
    refine (spread_calls w0 _ Bn F hk.net hk.fit (by omega) hk.len hk.few _ _ _ hb).mono ?_
    rintro e w' ⟨a, c, bs', h1, h2, h3, h4⟩
    refine ⟨a, c, bs', h1, h2, fun q => ?_, hS'.some, hS.bel.trans (h4.mono hS.bel.size)⟩
    rw [h3]
    exact spreadM_congr hS'.iff q
  have HRD : Hid (∀ X, Below W.heap.size W X → X.cell? ⟨Bn, 1, none⟩ = some (.slice (some ⟨gb, 0, none⟩) F.length cb) ∧ X.cell? ⟨Bn, 2, none⟩ = some (.slice (some ⟨gn, 0, none⟩) F.length cn) ∧ ∀ (i : Nat) (x : Node), F[i]? = some x → X.cell? ⟨gn, i, none⟩ = some (.int .i64 x.2.2) ∧ ∃ ba bc, X.cell? ⟨gb, i, none⟩ = some (.slice ba x.2.1.length bc) ∧ ∀ (k : Nat) (z : Int), x.2.1[k]? = some z → ∃ g o, ba = some ⟨g, o, none⟩ ∧ X.cell? ⟨g, o + k, none⟩ = some (.int .i64 z)) := fun X hX => ⟨(hread X hX).2.1, (hread X hX).2.2.1, fun i x hx => ⟨((hread X hX).2.2.2 i x hx).1, ((hread X hX).2.2.2 i x hx).2.2⟩⟩
  have HIN : Hid (∀ X, Below W.heap.size W X → ∀ i, i < F.length → ∃ b o y, ia = ⟨b, o, none⟩ ∧ bs0[i]? = some y ∧ X.cell? ⟨b, o + i, none⟩ = some (.bool y)) := fun X hX i hi => by
    obtain ⟨b, o, y, e1, e2, e3⟩ := hI.at hi
    injection e1 with e1
    exact ⟨b, o, y, e1, e2, e3 X hX⟩
  have HFIT : Hid (FitN F) := h.fit
  have HTF : Hid (∀ (i : Nat) (x : Node), F[i]? = some x → x.2.1.length ≤ 16) := htf
  have hli : (F.length : Int) ≤ 50000 := by omega
  have hl0 : (0 : Int) < (F.length : Int) := by omega
  clear hread h hI htf
  go_enter Tryz.func46, Tryz.ntmps46
  go_wp2_with (first
    | (at_make; refine wpList_make_full _ rfl (.tmp 16) (.tmp 16) 93 rfl W.heap.size 4 i0 _ 1 Tryz.underlying93 hi hz0 hz1 .i64 .i64 _ _ F.length rfl rfl rfl rfl (by rw [hz2]; omega) (by unfold maxLen; omega) (Nat.le_refl _) ?_; intro X hrow hgr; rw [made_bools] at hrow; have hBX : Below W.heap.size W X := (Below.refl _ W).grown hgr (Nat.le_refl _) (fun k e => by cases e); have hS0 := HST.out X hBX hrow; clear hrow hgr hBX HST)
    | fail)
  have HS0 : Hid (Stp F W X W.heap.size F.length (List.replicate F.length false) (HopTo F (fun p => bs0[p]? = some true) t 0 0) false) := hS0
  clear hS0 r2
  go_loopg [9, 10] (F.length + 1) (fun gk u v wr => ∃ (i : Nat) (sm : Bool) (bs : List Bool), i ≤ F.length ∧ F.length < i + gk ∧ u = .bool sm ∧ v = .int .i64 (i : Int) ∧ Stp F W wr W.heap.size F.length bs (HopTo F (fun p => bs0[p]? = some true) t i 0) sm)
  case atStart => exact ⟨0, false, _, Nat.zero_le _, by omega, rfl, rfl, HS0.out⟩
  case round =>
    obtain ⟨i, sm, bs, hi', hgk, rfl, rfl, hS⟩ := hrel
    clear HS0
    obtain ⟨d1, d2, d3⟩ := HRD.out wr hS.bel
    by_cases hlt : i < F.length
    · obtain ⟨x, hx⟩ : ∃ x, F[i]? = some x := ⟨_, List.getElem?_eq_getElem hlt⟩
      have HXF : Hid (F[i]? = some x) := hx
      have hx16 := HTF.out i x hx
      have HXN : Hid (x.2.1 = [] ∨ ∃ q : Nat, x.2.2 = (q : Int) ∧ q < F.length) := (HFIT.out i x hx).2
      have hii : (i : Int) < (F.length : Int) := by omega
      have hi0' : (0 : Int) ≤ (i : Int) := by omega
      have hxi : (x.2.1.length : Int) ≤ 16 := by omega
      have HS : Hid (Stp F W wr W.heap.size F.length bs (HopTo F (fun p => bs0[p]? = some true) t i 0) sm) := hS
      have HGK : Hid (F.length < i + gk) := hgk
      clear hS hx d3 hgk
      go_wp2_with fail
      go_loopg [9, 11] (x.2.1.length + 1) (fun gk2 u v wr2 => ∃ (k : Nat) (sm2 : Bool) (bs2 : List Bool), k ≤ x.2.1.length ∧ x.2.1.length < k + gk2 ∧ u = .bool sm2 ∧ v = .int .i64 (k : Int) ∧ Stp F W wr2 W.heap.size F.length bs2 (HopTo F (fun p => bs0[p]? = some true) t i k) sm2)
      case atStart => exact ⟨0, sm, bs, Nat.zero_le _, by omega, rfl, rfl, HS.out⟩
      case round =>
        obtain ⟨k, sm2, bs2, hk, hgk2, rfl, rfl, hS2⟩ := hrel
        obtain ⟨d1, d2, d3⟩ := HRD.out wr hS2.bel
        obtain ⟨dn, ba, bc, db, dk⟩ := d3 i x HXF.out
        obtain ⟨b, o, y, rfl, hy, cy⟩ := HIN.out wr hS2.bel i hlt
        cases y with
        | false =>
          have HE : Hid (Stp F W wr W.heap.size F.length bs2 (HopTo F (fun p => bs0[p]? = some true) t (i + 1) 0) sm2) := hS2.same (hop_skip (by rw [hy]; simp))
          clear hS2 d3 dk hgk2 hy
          go_wp2_with fail
          go_roundg (F.length - i)
          case measure => have := HGK.out; omega
          case rel => exact ⟨i + 1, sm2, bs2, by omega, by omega, rfl, by first | rfl | go_num, HE.out⟩
        | true =>
          by_cases hkl : k < x.2.1.length
          · obtain ⟨z, hz⟩ : ∃ z, x.2.1[k]? = some z := ⟨_, List.getElem?_eq_getElem hkl⟩
            obtain ⟨sg, so, rfl, cz⟩ := dk k z hz
            have hki : (k : Int) < (x.2.1.length : Int) := by omega
            have hk0 : (0 : Int) ≤ (k : Int) := by omega
            have HG2 : Hid (x.2.1.length < k + gk) := hgk2
            obtain ⟨q, hq, hqF⟩ := HXN.out.resolve_left (fun e => by rw [e] at hkl; simp at hkl)
            have hqi : (q : Int) < (F.length : Int) := by omega
            have hq0 : (0 : Int) ≤ (q : Int) := by omega
            rw [hq] at dn
            obtain ⟨zc, cq, fq⟩ := hS2.cell hqF
            have ht := fun r => hop_type (t := t) (S := fun p => bs0[p]? = some true) HXF.out hy hz r
            by_cases hzt : z = t
            · have hzz : (z == t) = true := by rw [hzt]; simp
              have HE : Hid (Stp F W (wr.setCell ⟨W.heap.size, q, none⟩ (.bool true)) W.heap.size F.length (bs2.set q true) (HopTo F (fun p => bs0[p]? = some true) t i (k + 1)) true) := hS2.put hqF (fun r => by
                rw [ht r, hq]
                constructor
                · rintro (e | ⟨_, e⟩)
                  · exact .inl e
                  · exact .inr (by omega)
                · rintro (e | rfl)
                  · exact .inl e
                  · exact .inr ⟨hzt, rfl⟩)
              clear hS2 d3 dk hgk2 hy hz ht hzt hq
              go_wp2_with fail
              go_roundg (x.2.1.length - k)
              case measure => have := HG2.out; omega
              case rel => exact ⟨k + 1, true, bs2.set q true, by omega, by omega, rfl, by first | rfl | go_num, HE.out⟩
            · have hzz : (z == t) = false := by rw [beq_eq_false_iff_ne]; exact hzt
              have HE : Hid (Stp F W wr W.heap.size F.length bs2 (HopTo F (fun p => bs0[p]? = some true) t i (k + 1)) sm2) := hS2.same (fun r => by
                rw [ht r]
                constructor
                · intro e; exact .inl e
                · rintro (e | ⟨e, _⟩)
                  · exact e
                  · exact absurd e hzt)
              clear hS2 d3 dk hgk2 hy hz ht hzt hq
              go_wp2_with fail
              go_roundg (x.2.1.length - k)
              case measure => have := HG2.out; omega
              case rel => exact ⟨k + 1, sm2, bs2, by omega, by omega, rfl, by first | rfl | go_num, HE.out⟩
          · obtain rfl : k = x.2.1.length := by omega
            have HE : Hid (Stp F W wr W.heap.size F.length bs2 (HopTo F (fun p => bs0[p]? = some true) t (i + 1) 0) sm2) := hS2.same (hop_next HXF.out)
            clear hS2 d3 dk hgk2 hy
            go_wp2_with fail
            go_roundg (F.length - i)
            case measure => have := HGK.out; omega
            case rel => exact ⟨i + 1, sm2, bs2, by omega, by omega, rfl, by first | rfl | go_num, HE.out⟩
    · obtain rfl : i = F.length := by omega
      have HC := HEND.out wr bs sm hS
      clear hS d3 hgk HEND
      go_wp2_with fail
      refine HC.mono ?_
      rintro e X2 ⟨a, c, bs', rfl, e1, e2, e3, e4⟩
      have HE : Hid (Bools X2 (some a) F.length bs' ∧ (∀ q : Nat, bs'[q]? = some true ↔ stepM F (fun p => bs0[p]? = some true) t q) ∧ (sm = true ↔ ∃ q, hopM F (fun p => bs0[p]? = some true) t q) ∧ Below W.heap.size W X2) := ⟨e1, e2, e3, e4⟩
      clear e1 e2 e3 e4 HC
      go_wp2
      go_ret2
      first | exact ⟨a, c, bs', sm, rfl, HE.out⟩ | exact ⟨a, ⟨c, rfl⟩, bs', sm, HE.out⟩
end Go.Proofs.YtofkiaeocfpkeaaGreatDoor

/- NetRun: the document's run at every net and word: where one is behind its longest beginning, and how long that is; nothing that lay before is turned. -/
namespace Go.Proofs.YtofkiaeocfpkeaaGreatDoor
open Go.RowKit

theorem stepM_congr {F : List Node} {S S' : Nat → Prop} (h : ∀ q, S q ↔ S' q) (t : Int) (q : Nat) : stepM F S t q ↔ stepM F S' t q := by
  refine spreadM_congr (fun r => ?_) q
  constructor
  · rintro ⟨a, x, h1, h2⟩; exact ⟨a, x, (h a).1 h1, h2⟩
  · rintro ⟨a, x, h1, h2⟩; exact ⟨a, x, (h a).2 h1, h2⟩
theorem hopM_congr {F : List Node} {S S' : Nat → Prop} (h : ∀ q, S q ↔ S' q) (t : Int) (q : Nat) : hopM F S t q ↔ hopM F S' t q := by
  constructor
  · rintro ⟨a, x, h1, h2⟩; exact ⟨a, x, (h a).1 h1, h2⟩
  · rintro ⟨a, x, h1, h2⟩; exact ⟨a, x, (h a).2 h1, h2⟩
theorem hop_some {F : List Node} {S : Nat → Prop} {t : Int} : (∃ q, hopM F S t q) ↔ ∃ q, stepM F S t q := by
  constructor
  · rintro ⟨q, h⟩; exact ⟨q, q, 0, h, rfl⟩
  · rintro ⟨q, p, k, h, _⟩; exact ⟨p, h⟩
/-- Where a word leads, and that it leads somewhere. -/
def Sit (F : List Node) (zs : List Int) (bs : List Bool) (i : Nat) : Prop := (∃ q, afterM F (zs.take i) q) ∧ ∀ q : Nat, bs[q]? = some true ↔ afterM F (zs.take i) q
/-- How a word is read. -/
def ReadM (F : List Node) (zs : List Int) (bs : List Bool) (i : Nat) : Prop :=
  i ≤ zs.length ∧ Sit F zs bs i ∧ (i < zs.length → ¬ ∃ q, afterM F (zs.take (i + 1)) q)
theorem afterM_step {F : List Node} {zs : List Int} {i : Nat} {t : Int} (h : zs[i]? = some t) : afterM F (zs.take (i + 1)) = stepM F (afterM F (zs.take i)) t := by
  rw [List.take_add_one, h]
  exact afterM_snoc F _ _
set_option maxRecDepth 100000 in
set_option maxHeartbeats 2000000 in
theorem run_calls (w0 W : World) (Bn : Nat) (F : List Node) (h : NetOk w0 W Bn F) (htf : ∀ (i : Nat) (x : Node), F[i]? = some x → x.2.1.length ≤ 16) (za : Option Addr) (zl zc : Nat) (zs : List Int) (hZ : Ints W za zl zs) :
    Calls Tryz.prog 45 #[.pointer (some ⟨Bn, 0, none⟩), .slice za zl zc] W fun e w' => ∃ (a : Addr) (c : Nat) (bs : List Bool) (i : Nat), e = .returned (.tuple #[.slice (some a) F.length c, .int .i64 (i : Int)]) ∧ Bools w' (some a) F.length bs ∧ ReadM F zs bs i ∧ Below W.heap.size W w' := by
  have HF := first_calls w0 W Bn F h
  have HST : Hid (∀ (X : World) (a : Addr) (c : Nat) (bs : List Bool) (t : Int), Below W.heap.size W X → Bools X (some a) F.length bs → Calls Tryz.prog 46 #[.pointer (some ⟨Bn, 0, none⟩), .slice (some a) F.length c, .int .i64 t] X fun e w' => ∃ (a' : Addr) (c' : Nat) (bs' : List Bool) (sm : Bool), e = .returned (.tuple #[.slice (some a') F.length c', .bool sm]) ∧ Bools w' (some a') F.length bs' ∧ (∀ q : Nat, bs'[q]? = some true ↔ stepM F (fun p => bs[p]? = some true) t q) ∧ (sm = true ↔ ∃ q, hopM F (fun p => bs[p]? = some true) t q) ∧ Below X.heap.size X w') := fun X a c bs t hX hb => step_calls w0 X Bn F (h.keep hX) htf a c bs hb t
  have HZ : Hid (∀ (X : World) (i : Nat), Below W.heap.size W X → i < zl → ∃ b o x, za = some ⟨b, o, none⟩ ∧ zs[i]? = some x ∧ X.cell? ⟨b, o + i, none⟩ = some (.int .i64 x)) := fun X i hX hi => by
    obtain ⟨b, o, x, e1, e2, e3⟩ := hZ.at hi
    exact ⟨b, o, x, e1, e2, e3 X hX⟩
  have HZL : Hid (zs.length = zl) := hZ.1
  have hzi : (zl : Int) ≤ 9223372036854775807 := by have := hZ.2.1; omega
  clear h htf hZ
  go_enter Tryz.func45, Tryz.ntmps45
  go_wp2_with fail
  refine HF.mono ?_
  rintro e W1 ⟨a, c, bs, rfl, hb, hq, hB⟩
  have HI0 : Hid (Bools W1 (some a) F.length bs ∧ Sit F zs bs 0 ∧ Below W.heap.size W W1) := ⟨hb, ⟨⟨0, 0, 0, rfl, rfl⟩, hq⟩, hB⟩
  clear HF hb hq hB
  go_wp2_with fail
  go_loopg [6, 7] (zl + 1) (fun gk u v wr => ∃ (i : Nat) (a : Addr) (c : Nat) (bs : List Bool), i ≤ zl ∧ zl < i + gk ∧ u = .slice (some a) F.length c ∧ v = .int .i64 (i : Int) ∧ Bools wr (some a) F.length bs ∧ Sit F zs bs i ∧ Below W.heap.size W wr)
  case atStart => exact ⟨0, a, c, bs, Nat.zero_le _, by omega, rfl, rfl, HI0.out⟩
  case round =>
    obtain ⟨i, a, c, bs, hi, hgk, rfl, rfl, hb, hq, hB⟩ := hrel
    clear HI0
    by_cases hlt : i < zl
    · obtain ⟨b, o, x, rfl, hx, cx⟩ := HZ.out wr i hB hlt
      have HS := HST.out wr a c bs x hB hb
      have hii : (i : Int) < (zl : Int) := by omega
      have hi0 : (0 : Int) ≤ (i : Int) := by omega
      have HG : Hid (zl < i + gk) := hgk
      have HB : Hid (Below W.heap.size W wr ∧ Bools wr (some a) F.length bs ∧ Sit F zs bs i) := ⟨hB, hb, hq⟩
      have HX : Hid (zs[i]? = some x) := hx
      clear hgk hB hb hq hx
      go_wp2_with fail
      refine HS.mono ?_
      rintro e W2 ⟨a', c', bs', sm, rfl, hb', hq', hs', hB'⟩
      have hBB : Below W.heap.size W W2 := HB.out.1.trans (hB'.mono HB.out.1.size)
      have HSM : Hid (sm = true ↔ ∃ q, afterM F (zs.take (i + 1)) q) := by
        show _ ↔ _
        rw [hs', afterM_step HX.out, hop_some]
        exact ⟨fun ⟨q, h⟩ => ⟨q, (stepM_congr HB.out.2.2.2 x q).1 h⟩, fun ⟨q, h⟩ => ⟨q, (stepM_congr HB.out.2.2.2 x q).2 h⟩⟩
      have HN : Hid (sm = true → Bools W2 (some a') F.length bs' ∧ Sit F zs bs' (i + 1) ∧ Below W.heap.size W W2) := by
        refine fun e => ⟨hb', ⟨HSM.out.1 e, fun q => ?_⟩, hBB⟩
        rw [hq', afterM_step HX.out]
        exact stepM_congr HB.out.2.2.2 x q
      have HOLD : Hid (Bools W2 (some a) F.length bs) := HB.out.2.1.below hB'
      clear HS hb' hq' hs' hB'
      cases sm with
      | true =>
        go_wp2_with fail
        go_roundg (zl - i)
        case measure => have := HG.out; omega
        case rel => exact ⟨i + 1, a', c', bs', by omega, by omega, rfl, by first | rfl | go_num, HN.out (by first | rfl | trivial)⟩
      | false =>
        have HE : Hid (Bools W2 (some a) F.length bs ∧ ReadM F zs bs i ∧ Below W.heap.size W W2) := by
          refine ⟨HOLD.out, ⟨by have := HZL.out; omega, HB.out.2.2, fun _ hex => ?_⟩, hBB⟩
          have := HSM.out.2 hex
          cases this
        clear hBB
        go_wp2_with fail
        go_ret2
        first | exact ⟨a, c, bs, i, rfl, HE.out⟩ | exact ⟨a, ⟨c, rfl⟩, bs, i, HE.out⟩
    · obtain rfl : i = zl := by omega
      have HE : Hid (Bools wr (some a) F.length bs ∧ ReadM F zs bs i ∧ Below W.heap.size W wr) := by
        have := HZL.out
        exact ⟨hb, ⟨by omega, hq, fun h => by omega⟩, hB⟩
      clear hb hq hB hgk
      go_wp2_with fail
      go_ret2
      first | exact ⟨a, c, bs, i, rfl, HE.out⟩ | exact ⟨a, ⟨c, rfl⟩, bs, i, HE.out⟩
end Go.Proofs.YtofkiaeocfpkeaaGreatDoor

/- RefChk: what the document calls Check answers. -/
namespace Go.Proofs.YtofkiaeocfpkeaaGreatDoor
open Go.RowKit


set_option maxRecDepth 100000 in
set_option maxHeartbeats 2000000 in
theorem count_calls : ∀ (n : Nat) (t : DataW Unit) (v : Value) (w : World), Ex w n t v → cnt n t ≤ 1152921504606846976 →
    Calls Tryz.prog 139 #[v] w fun e w' => e = .returned (.int .i64 (cnt n t)) ∧ Below w.heap.size w w' := by
  intro n
  induction n with
  | zero => intro t v w h; exact h.elim
  | succ n ih =>
    intro t v w h hc
    obtain ⟨k, s, a, len, cap, ts, rfl, rfl, hl, hz, hk⟩ := h
    have hcn := cnt_nonneg n
    rw [cnt, subs_node] at *
    generalize cnt n = f at *
    have hall : Hid (total f (ts.take len) = total f ts) := by show _ = _; rw [List.take_of_length_le (Nat.le_of_eq hl)]
    generalize hR : total f ts = R at *
    have HR : Hid (total f ts = R) := hR
    clear hR
    go_enter Tryz.func139, Tryz.ntmps139
    go_wp2
    go_loopw [3, 4] (fun u i w' => ∃ j : Nat, j ≤ len ∧ i = .int .i64 (j : Int) ∧ u = .int .i64 (1 + total f (ts.take j)) ∧ Below (w.alloc (.cells #[.int .i64 k, .string s, .slice a len cap] 26)).heap.size (w.alloc (.cells #[.int .i64 k, .string s, .slice a len cap] 26)) w') (fun _ i _ => len - (intOf i).toNat)
    case atStart => exact ⟨0, by omega, rfl, by simp [total], Below.refl _ _⟩
    case round =>
      obtain ⟨i, hi, rfl, rfl, hB⟩ := hrel
      obtain ⟨-, -, b0, hBw⟩ := one_kept hB
      by_cases hlt : i < len
      · obtain ⟨b, o, x, kx, sx, ax, lx, cx, rfl, _, hx, hcx⟩ := kid_at hl hk hlt
        obtain ⟨p0, p1, p2, p3⟩ := hcx wr hBw
        have hst := total_take (f := f) hx
        have h1 := total_part hcn ts (i + 1)
        have h2 := total_nonneg hcn (ts.take i)
        have h3 := hcn x
        rw [HR.out] at h1
        rw [hst] at h1
        have HS : Hid (total f (ts.take (i + 1)) = total f (ts.take i) + f x) := hst
        have HC := ih x _ wr p3 (by omega)
        clear hcx hk p3 hst hx ih
        generalize total f (ts.take i) = z at *
        generalize f x = y at *
        go_wp2_with fail
        refine HC.mono ?_
        rintro e W1 ⟨rfl, hB1⟩
        go_wp2
        go_roundw
        case rel => exact ⟨i + 1, by omega, rfl, by rw [HS.out]; congr 1; omega, hB.trans (hB1.mono hB.size)⟩
        case measure => simp [intOf]; omega
      · obtain rfl : i = len := by omega
        rw [hall.out]
        clear hk ih
        go_wp2
        go_ret
        exact ⟨rfl, hBw⟩

set_option maxRecDepth 100000 in
set_option maxHeartbeats 2000000 in
theorem deep_calls : ∀ (n : Nat) (t : DataW Unit) (v : Value) (w : World), Ex w n t v → cnt n t ≤ 1152921504606846976 →
    Calls Tryz.prog 140 #[v] w fun e w' => e = .returned (.int .i64 (dp n t)) ∧ Below w.heap.size w w' := by
  intro n
  induction n with
  | zero => intro t v w h; exact h.elim
  | succ n ih =>
    intro t v w h hc
    obtain ⟨k, s, a, len, cap, ts, rfl, rfl, hl, hz, hk⟩ := h
    have hcn := cnt_nonneg n
    have hdn := dp_nonneg n
    have hdc := dp_cnt n
    rw [cnt, subs_node] at hc
    rw [dp, subs_node]
    generalize cnt n = f at *
    generalize dp n = d at *
    have hall : Hid (greatest d (ts.take len) = greatest d ts) := by show _ = _; rw [List.take_of_length_le (Nat.le_of_eq hl)]
    have hg0 := greatest_total hdc hcn ts
    have hg1 := greatest_nonneg d ts
    generalize hR : greatest d ts = R at *
    clear hR
    go_enter Tryz.func140, Tryz.ntmps140
    go_wp2
    go_loopw [3, 4] (fun u i w' => ∃ j : Nat, j ≤ len ∧ i = .int .i64 (j : Int) ∧ u = .int .i64 (greatest d (ts.take j)) ∧ Below (w.alloc (.cells #[.int .i64 k, .string s, .slice a len cap] 26)).heap.size (w.alloc (.cells #[.int .i64 k, .string s, .slice a len cap] 26)) w') (fun _ i _ => len - (intOf i).toNat)
    case atStart => exact ⟨0, by omega, rfl, by simp [greatest], Below.refl _ _⟩
    case round =>
      obtain ⟨i, hi, rfl, rfl, hB⟩ := hrel
      obtain ⟨-, -, b0, hBw⟩ := one_kept hB
      by_cases hlt : i < len
      · obtain ⟨b, o, x, kx, sx, ax, lx, cx, rfl, _, hx, hcx⟩ := kid_at hl hk hlt
        obtain ⟨p0, p1, p2, p3⟩ := hcx wr hBw
        have HS : Hid (greatest d (ts.take (i + 1)) = max (greatest d (ts.take i)) (d x)) := greatest_take hx hdn
        have h1 := total_mem hcn (List.mem_of_getElem? hx)
        have HC := ih x _ wr p3 (by omega)
        clear hcx hk p3 hx ih
        generalize greatest d (ts.take i) = z at *
        generalize d x = y at *
        go_wp2_with fail
        refine HC.mono ?_
        rintro e W1 ⟨rfl, hB1⟩
        go_wp2
        go_roundw
        case rel => exact ⟨i + 1, by omega, rfl, by (rw [HS.out]) <;> (congr 1 <;> (split <;> omega)), hB.trans (hB1.mono hB.size)⟩
        case measure => simp [intOf]; omega
      · obtain rfl : i = len := by omega
        rw [hall.out]
        clear hk ih
        go_wp2
        go_ret
        exact ⟨rfl, hBw⟩
end Go.Proofs.YtofkiaeocfpkeaaGreatDoor

/- RefLetters: the document's own Letters at every text: what it returns; the world is as it was. -/
namespace Go.Proofs.YtofkiaeocfpkeaaGreatDoor
open Go.RowKit


set_option maxRecDepth 100000 in
set_option maxHeartbeats 2000000 in
theorem letters_calls (s : ByteArray) (w : World) (hs : s.size ≤ 9223372036854775807) : Calls Tryz.prog 114 #[.string s] w fun e w' => e = .returned (.bool (letters s)) ∧ w' = w := by
  obtain ⟨R, hR⟩ : ∃ R, letters s = R := ⟨_, rfl⟩
  rw [hR]
  have HR : Hid (letters s = R) := hR
  clear hR
  go_enter Tryz.func114, Tryz.ntmps114
  go_wp2
  go_loop [3] (fun u => ∃ j : Nat, j ≤ s.size ∧ u = .int .i64 (j : Int) ∧ (s.toList.take j).all letter = true) (fun u => s.size - (intOf u).toNat)
  case atStart => exact ⟨0, by omega, rfl, rfl⟩
  case round =>
    obtain ⟨i, hi, rfl, hT⟩ := hrel
    by_cases hlt : i < s.size
    · have hat := all_take hlt
      rw [hT, Bool.true_and] at hat
      cases hc : letter (s[i]'hlt) with
      | true =>
        rw [hc] at hat
        have HT : Hid ((s.toList.take (i + 1)).all letter = true) := hat
        simp only [letter, Bool.and_eq_true, decide_eq_true_eq] at hc
        have h1 : decide (((s[i]'hlt).toNat : Int) < 97) = false := by simp; omega
        have h2 : decide ((122 : Int) < ((s[i]'hlt).toNat : Int)) = false := by simp; omega
        have h3 : ¬ (((s[i]'hlt).toNat : Int) < 97) := by omega
        have h4 : ¬ ((122 : Int) < ((s[i]'hlt).toNat : Int)) := by omega
        clear hat hT hc
        go_wp2
        go_round
        case rel => exact ⟨i + 1, by omega, rfl, HT.out⟩
        case measure => simp [intOf]; omega
      | false =>
        have HF : Hid (R = false) := by
          show R = false
          rw [← HR.out]
          unfold letters
          have : s.toList.all letter = false := by
            cases ha : s.toList.all letter with
            | false => rfl
            | true =>
              have := List.all_eq_true.1 ha (s[i]'hlt) (List.mem_of_getElem? (toList_at s i hlt))
              rw [hc] at this
              cases this
          rw [this]
          rfl
        have hd : ((s[i]'hlt).toNat : Int) < 97 ∨ (decide (((s[i]'hlt).toNat : Int) < 97) = false ∧ (122 : Int) < ((s[i]'hlt).toNat : Int)) := by
          simp only [letter, Bool.and_eq_false_iff, decide_eq_false_iff_not] at hc
          by_cases h : (s[i]'hlt).toNat < 97
          · exact .inl (by omega)
          · exact .inr ⟨by simp; omega, by omega⟩
        clear hat hT hc
        rcases hd with hd | ⟨hd, hd2⟩
        all_goals
          go_wp2
          go_ret
          exact ⟨by rw [HF.out]; rfl, rfl⟩
    · obtain rfl : i = s.size := by omega
      have HF : Hid (R = !s.toList.isEmpty) := by
        show R = _
        rw [← HR.out]
        unfold letters
        rw [List.take_of_length_le (by rw [toList_length]; exact Nat.le_refl _)] at hT
        rw [hT, Bool.true_and]
      clear hT
      go_wp2
      go_ret
      exact ⟨by rw [HF.out]; rfl, rfl⟩
end Go.Proofs.YtofkiaeocfpkeaaGreatDoor

/- RefRight: whether a tree is right, by the document's own right, and its Check: what they return; nothing that lay before is turned. -/
namespace Go.Proofs.YtofkiaeocfpkeaaGreatDoor
open Go.RowKit


set_option maxRecDepth 100000 in
set_option maxHeartbeats 4000000 in
theorem right_calls : ∀ (n : Nat) (t : DataW Unit) (v : Value) (w : World), Ex w n t v → named n t →
    Calls Tryz.prog 141 #[v] w fun e w' => e = .returned (.bool (rightE n t)) ∧ Below w.heap.size w w' := by
  intro n
  induction n with
  | zero => intro t v w h; exact h.elim
  | succ n ih =>
    intro t v w h hN
    obtain ⟨k, s, a, len, cap, ts, rfl, rfl, hl, hz, hk⟩ := h
    obtain ⟨hN1, hN2⟩ := hN
    rw [nameT_node] at hN1
    rw [subs_node] at hN2
    rw [rightE, subs_node, kindT_node, nameT_node]
    generalize hp : (fun x => !(kindT x == 0) && rightE n x) = p at *
    have HP : Hid (∀ x, p x = (!(kindT x == 0) && rightE n x)) := fun x => by rw [← hp]
    clear hp
    obtain ⟨R, hR⟩ : ∃ R, (ts.all p && shapely k s ts) = R := ⟨_, rfl⟩
    rw [hR]
    have HR : Hid ((ts.all p && shapely k s ts) = R) := hR
    clear hR
    go_enter Tryz.func141, Tryz.ntmps141
    go_wp2
    go_loopw [3] (fun i w' => ∃ j : Nat, j ≤ len ∧ i = .int .i64 (j : Int) ∧ (ts.take j).all p = true ∧ Below (w.alloc (.cells #[.int .i64 k, .string s, .slice a len cap] 26)).heap.size (w.alloc (.cells #[.int .i64 k, .string s, .slice a len cap] 26)) w') (fun i _ => len - (intOf i).toNat)
    case atStart => exact ⟨0, by omega, rfl, rfl, Below.refl _ _⟩
    case round =>
      obtain ⟨i, hi, rfl, hT, hB⟩ := hrel
      obtain ⟨b0, b1, b2, hBw⟩ := one_kept hB
      by_cases hlt : i < len
      · obtain ⟨b, o, x, kx, sx, ax, lx, cx, rfl, _, hx, hcx⟩ := kid_at hl hk hlt
        obtain ⟨p0, p1, p2, p3⟩ := hcx wr hBw
        have hkx := ex_kind p3
        have hat := all_step (p := p) hx
        rw [hT, Bool.true_and] at hat
        have hpx := HP.out x
        rw [hkx] at hpx
        by_cases z0 : kx = 0
        · subst z0
          have HF : Hid (R = false) := by show R = false; rw [← HR.out, all_not hx (by rw [hpx]; rfl)]; rfl
          clear hcx hk ih p3 hat hpx hx
          go_wp2
          go_ret
          exact ⟨by rw [HF.out]; rfl, hBw⟩
        · have e0 : (kx == 0) = false := by simpa using z0
          rw [e0] at hpx
          have HC := ih x _ wr p3 (hN2 x (List.mem_of_getElem? hx))
          cases hr : rightE n x with
          | false =>
            rw [hr] at hpx HC
            have HF : Hid (R = false) := by show R = false; rw [← HR.out, all_not hx (by rw [hpx]; rfl)]; rfl
            clear hcx hk ih p3 hat hpx hx hr
            go_wp2_with fail
            refine HC.mono ?_
            rintro e W1 ⟨rfl, hB1⟩
            go_wp2
            go_ret
            exact ⟨by rw [HF.out]; rfl, hBw.trans (hB1.mono hBw.size)⟩
          | true =>
            rw [hr] at hpx HC
            rw [hpx] at hat
            have HT : Hid ((ts.take (i + 1)).all p = true) := hat
            clear hcx hk ih p3 hat hpx hx hr hT
            go_wp2_with fail
            refine HC.mono ?_
            rintro e W1 ⟨rfl, hB1⟩
            go_wp2
            go_roundw
            case rel => exact ⟨i + 1, by omega, rfl, HT.out, hB.trans (hB1.mono hB.size)⟩
            case measure => simp [intOf]; omega
      · obtain rfl : i = len := by omega
        rw [List.take_of_length_le (Nat.le_of_eq hl)] at hT
        have HRs : Hid (R = shapely k s ts) := by show R = _; rw [← HR.out, hT, Bool.true_and]
        clear hT HR HP ih hN2
        by_cases k0 : k = 0
        · subst k0
          replace HRs : Hid (R = (s.toList.isEmpty && ((i : Int) == 0))) := by show R = _; rw [HRs.out]; unfold shapely; rw [if_pos rfl, hl, int_beq]; rfl
          clear hk
          cases hs : s.toList.isEmpty with
          | true =>
            have HS : Hid (R = ((i : Int) == 0)) := by show R = _; rw [HRs.out, hs, Bool.true_and]
            clear HRs
            go_wp2
            go_ret
            exact ⟨by rw [HS.out]; rfl, hBw⟩
          | false =>
            have HS : Hid (R = false) := by show R = _; rw [HRs.out, hs]; rfl
            clear HRs
            go_wp2
            go_ret
            exact ⟨by rw [HS.out]; rfl, hBw⟩
        have e0 : (k == 0) = false := by simpa using k0
        by_cases k1 : k = 1
        · subst k1
          replace HRs : Hid (R = (letters s && ((i : Int) == 0))) := by show R = _; rw [HRs.out]; unfold shapely; rw [if_neg (by omega), if_pos rfl, hl, int_beq]; rfl
          have HL := letters_calls s wr hN1
          clear hk
          cases hs : letters s with
          | true =>
            have HS : Hid (R = ((i : Int) == 0)) := by show R = _; rw [HRs.out, hs, Bool.true_and]
            clear HRs
            rw [hs] at HL
            go_wp2_with fail
            refine HL.mono ?_
            rintro e W1 ⟨rfl, hW1⟩
            rw [hW1]
            go_wp2
            go_ret
            exact ⟨by rw [HS.out]; rfl, hBw⟩
          | false =>
            have HS : Hid (R = false) := by show R = _; rw [HRs.out, hs]; rfl
            clear HRs
            rw [hs] at HL
            go_wp2_with fail
            refine HL.mono ?_
            rintro e W1 ⟨rfl, hW1⟩
            rw [hW1]
            go_wp2
            go_ret
            exact ⟨by rw [HS.out]; rfl, hBw⟩
        have e1 : (k == 1) = false := by simpa using k1
        by_cases k4 : k = 4
        · subst k4
          replace HRs : Hid (R = (s.toList.isEmpty && ((i : Int) == 1))) := by show R = _; rw [HRs.out]; unfold shapely; rw [if_neg (by omega), if_neg (by omega), if_pos (by omega), hl, int_beq]; rfl
          clear hk
          cases hs : s.toList.isEmpty with
          | true =>
            have HS : Hid (R = ((i : Int) == 1)) := by show R = _; rw [HRs.out, hs, Bool.true_and]
            clear HRs
            go_wp2
            go_ret
            exact ⟨by rw [HS.out]; rfl, hBw⟩
          | false =>
            have HS : Hid (R = false) := by show R = _; rw [HRs.out, hs]; rfl
            clear HRs
            go_wp2
            go_ret
            exact ⟨by rw [HS.out]; rfl, hBw⟩
        have e4 : (k == 4) = false := by simpa using k4
        by_cases k5 : k = 5
        · subst k5
          replace HRs : Hid (R = (s.toList.isEmpty && ((i : Int) == 1))) := by show R = _; rw [HRs.out]; unfold shapely; rw [if_neg (by omega), if_neg (by omega), if_pos (by omega), hl, int_beq]; rfl
          clear hk
          cases hs : s.toList.isEmpty with
          | true =>
            have HS : Hid (R = ((i : Int) == 1)) := by show R = _; rw [HRs.out, hs, Bool.true_and]
            clear HRs
            go_wp2
            go_ret
            exact ⟨by rw [HS.out]; rfl, hBw⟩
          | false =>
            have HS : Hid (R = false) := by show R = _; rw [HRs.out, hs]; rfl
            clear HRs
            go_wp2
            go_ret
            exact ⟨by rw [HS.out]; rfl, hBw⟩
        have e5 : (k == 5) = false := by simpa using k5
        by_cases k6 : k = 6
        · subst k6
          replace HRs : Hid (R = (s.toList.isEmpty && ((i : Int) == 1))) := by show R = _; rw [HRs.out]; unfold shapely; rw [if_neg (by omega), if_neg (by omega), if_pos (by omega), hl, int_beq]; rfl
          clear hk
          cases hs : s.toList.isEmpty with
          | true =>
            have HS : Hid (R = ((i : Int) == 1)) := by show R = _; rw [HRs.out, hs, Bool.true_and]
            clear HRs
            go_wp2
            go_ret
            exact ⟨by rw [HS.out]; rfl, hBw⟩
          | false =>
            have HS : Hid (R = false) := by show R = _; rw [HRs.out, hs]; rfl
            clear HRs
            go_wp2
            go_ret
            exact ⟨by rw [HS.out]; rfl, hBw⟩
        have e6 : (k == 6) = false := by simpa using k6
        by_cases k2 : k = 2
        · subst k2
          replace HRs : Hid (R = (ts.all (fun x => !(kindT x == 2)) && (s.toList.isEmpty && decide ((2 : Int) ≤ (i : Int))))) := by show R = _; rw [HRs.out]; unfold shapely; rw [if_neg (by omega), if_neg (by omega), if_neg (by omega), if_pos (by omega), hl, int_le]
          go_wp2
          go_loopw [4] (fun u w' => ∃ j : Nat, j ≤ i ∧ u = .int .i64 (j : Int) ∧ (ts.take j).all (fun x => !(kindT x == 2)) = true ∧ Below (w.alloc (.cells #[.int .i64 2, .string s, .slice a i cap] 26)).heap.size (w.alloc (.cells #[.int .i64 2, .string s, .slice a i cap] 26)) w') (fun u _ => i - (intOf u).toNat)
          case atStart => exact ⟨0, by omega, rfl, rfl, hB⟩
          case round =>
            rename_i wr0
            clear b0 b1 b2 hBw hB
            obtain ⟨j, hj, rfl, hT, hB⟩ := hrel
            obtain ⟨b0, b1, b2, hBw⟩ := one_kept hB
            by_cases hlt2 : j < i
            · obtain ⟨b, o, x, kx, sx, ax, lx, cx, rfl, _, hx, hcx⟩ := kid_at hl hk hlt2
              obtain ⟨p0, p1, p2, p3⟩ := hcx _ hBw
              have hkx := ex_kind p3
              have hat := all_step (p := fun x => !(kindT x == 2)) hx
              rw [hT, Bool.true_and] at hat
              simp only [hkx] at hat
              have hno := all_not (p := fun x => !(kindT x == 2)) hx
              simp only [hkx] at hno
              cases hq : kx == 2 with
              | true =>
                have HS : Hid (R = false) := by show R = _; rw [HRs.out, hno (by rw [hq]; rfl)]; rfl
                clear hcx hk p3 hat hno hx hT HRs
                go_wp2_with fail
                go_quiet (fail)
                go_wp2
                go_ret
                exact ⟨by rw [HS.out]; rfl, below_drewN hBw _⟩
              | false =>
                rw [hq] at hat
                have HT : Hid ((ts.take (j + 1)).all (fun x => !(kindT x == 2)) = true) := hat
                clear hcx hk p3 hat hno hx hT
                go_wp2_with fail
                go_quiet (fail)
                go_wp2
                go_roundw
                case rel => exact ⟨j + 1, by omega, rfl, HT.out, below_drewN hB _⟩
                case measure => simp [intOf]; omega
            · obtain rfl : j = i := by omega
              rw [List.take_of_length_le (Nat.le_of_eq hl)] at hT
              replace HRs : Hid (R = (s.toList.isEmpty && decide ((2 : Int) ≤ (j : Int)))) := by show R = _; rw [HRs.out, hT, Bool.true_and]
              clear hk hT
              cases hs : s.toList.isEmpty with
              | true =>
                have HS : Hid (R = decide ((2 : Int) ≤ (j : Int))) := by show R = _; rw [HRs.out, hs, Bool.true_and]
                clear HRs
                go_wp2
                go_ret
                exact ⟨by rw [HS.out]; rfl, hBw⟩
              | false =>
                have HS : Hid (R = false) := by show R = _; rw [HRs.out, hs]; rfl
                clear HRs
                go_wp2
                go_ret
                exact ⟨by rw [HS.out]; rfl, hBw⟩
        have e2 : (k == 2) = false := by simpa using k2
        by_cases k3 : k = 3
        · subst k3
          replace HRs : Hid (R = (ts.all (fun x => !(kindT x == 3)) && (s.toList.isEmpty && decide ((2 : Int) ≤ (i : Int))))) := by show R = _; rw [HRs.out]; unfold shapely; rw [if_neg (by omega), if_neg (by omega), if_neg (by omega), if_pos (by omega), hl, int_le]
          go_wp2
          go_loopw [4] (fun u w' => ∃ j : Nat, j ≤ i ∧ u = .int .i64 (j : Int) ∧ (ts.take j).all (fun x => !(kindT x == 3)) = true ∧ Below (w.alloc (.cells #[.int .i64 3, .string s, .slice a i cap] 26)).heap.size (w.alloc (.cells #[.int .i64 3, .string s, .slice a i cap] 26)) w') (fun u _ => i - (intOf u).toNat)
          case atStart => exact ⟨0, by omega, rfl, rfl, hB⟩
          case round =>
            rename_i wr0
            clear b0 b1 b2 hBw hB
            obtain ⟨j, hj, rfl, hT, hB⟩ := hrel
            obtain ⟨b0, b1, b2, hBw⟩ := one_kept hB
            by_cases hlt2 : j < i
            · obtain ⟨b, o, x, kx, sx, ax, lx, cx, rfl, _, hx, hcx⟩ := kid_at hl hk hlt2
              obtain ⟨p0, p1, p2, p3⟩ := hcx _ hBw
              have hkx := ex_kind p3
              have hat := all_step (p := fun x => !(kindT x == 3)) hx
              rw [hT, Bool.true_and] at hat
              simp only [hkx] at hat
              have hno := all_not (p := fun x => !(kindT x == 3)) hx
              simp only [hkx] at hno
              cases hq : kx == 3 with
              | true =>
                have HS : Hid (R = false) := by show R = _; rw [HRs.out, hno (by rw [hq]; rfl)]; rfl
                clear hcx hk p3 hat hno hx hT HRs
                go_wp2_with fail
                go_quiet (fail)
                go_wp2
                go_ret
                exact ⟨by rw [HS.out]; rfl, below_drewN hBw _⟩
              | false =>
                rw [hq] at hat
                have HT : Hid ((ts.take (j + 1)).all (fun x => !(kindT x == 3)) = true) := hat
                clear hcx hk p3 hat hno hx hT
                go_wp2_with fail
                go_quiet (fail)
                go_wp2
                go_roundw
                case rel => exact ⟨j + 1, by omega, rfl, HT.out, below_drewN hB _⟩
                case measure => simp [intOf]; omega
            · obtain rfl : j = i := by omega
              rw [List.take_of_length_le (Nat.le_of_eq hl)] at hT
              replace HRs : Hid (R = (s.toList.isEmpty && decide ((2 : Int) ≤ (j : Int)))) := by show R = _; rw [HRs.out, hT, Bool.true_and]
              clear hk hT
              cases hs : s.toList.isEmpty with
              | true =>
                have HS : Hid (R = decide ((2 : Int) ≤ (j : Int))) := by show R = _; rw [HRs.out, hs, Bool.true_and]
                clear HRs
                go_wp2
                go_ret
                exact ⟨by rw [HS.out]; rfl, hBw⟩
              | false =>
                have HS : Hid (R = false) := by show R = _; rw [HRs.out, hs]; rfl
                clear HRs
                go_wp2
                go_ret
                exact ⟨by rw [HS.out]; rfl, hBw⟩
        have e3 : (k == 3) = false := by simpa using k3
        have HS : Hid (R = false) := by show R = _; rw [HRs.out]; unfold shapely; rw [if_neg (by omega), if_neg (by omega), if_neg (by omega), if_neg (by omega)]
        clear hk HRs
        go_wp2
        go_ret
        exact ⟨by rw [HS.out]; rfl, hBw⟩
end Go.Proofs.YtofkiaeocfpkeaaGreatDoor

/- RefCheckE: the document's own Check at every tree: what it returns; nothing that lay before is turned. -/
namespace Go.Proofs.YtofkiaeocfpkeaaGreatDoor
open Go.RowKit


set_option maxRecDepth 100000 in
set_option maxHeartbeats 2000000 in
theorem checkE_calls (n : Nat) (t : DataW Unit) (v : Value) (w : World) (h : Ex w n t v) (hc : cnt n t ≤ 1152921504606846976) (hN : named n t) :
    Calls Tryz.prog 92 #[v] w fun e w' => e = .returned (.int .i64 (checkE n t)) ∧ Below w.heap.size w w' := by
  have H1 := fun W (hW : Below w.heap.size w W) => count_calls n t v W (Ex.below hW _ _ _ h) hc
  have H2 := fun W (hW : Below w.heap.size w W) => deep_calls n t v W (Ex.below hW _ _ _ h) hc
  have H3 := fun W (hW : Below w.heap.size w W) => right_calls n t v W (Ex.below hW _ _ _ h) hN
  have hx : ∃ k s a len cap, v = .agg #[.int .i64 k, .string s, .slice a len cap] := by
    cases n with
    | zero => exact h.elim
    | succ n =>
      obtain ⟨k, s, a, len, cap, ts, _, e, _⟩ := h
      exact ⟨k, s, a, len, cap, e⟩
  obtain ⟨k, s, a, len, cap, rfl⟩ := hx
  unfold checkE
  generalize cnt n t = x1 at *
  generalize dp n t = x2 at *
  generalize rightE n t = x3 at *
  clear h hN
  have hB0 : ∀ o, Below w.heap.size w (w.alloc o) := fun o => (Below.refl _ w).alloc (Nat.le_refl _) o
  by_cases h1 : 200 < x1
  · rw [if_pos (.inl h1)]
    go_enter Tryz.func92, Tryz.ntmps92
    go_wp2_with fail
    refine (H1 _ (hB0 _)).mono ?_
    rintro e W1 ⟨rfl, b1⟩
    obtain ⟨c0, c1, c2, g1⟩ := one_kept b1
    go_wp2
    go_ret
    exact ⟨rfl, g1⟩
  have e1 : decide (200 < x1) = false := by simpa using h1
  by_cases h2 : 60 < x2
  · rw [if_pos (.inr h2)]
    go_enter Tryz.func92, Tryz.ntmps92
    go_wp2_with fail
    refine (H1 _ (hB0 _)).mono ?_
    rintro e W1 ⟨rfl, b1⟩
    obtain ⟨c0, c1, c2, g1⟩ := one_kept b1
    go_wp2_with fail
    refine (H2 _ g1).mono ?_
    rintro e W2 ⟨rfl, b2⟩
    go_wp2
    go_ret
    exact ⟨rfl, g1.trans (b2.mono g1.size)⟩
  have e2 : decide (60 < x2) = false := by simpa using h2
  rw [if_neg (by omega)]
  cases x3
  all_goals
    simp only [Bool.false_eq_true, if_false, if_true]
    go_enter Tryz.func92, Tryz.ntmps92
    go_wp2_with fail
    refine (H1 _ (hB0 _)).mono ?_
    rintro e W1 ⟨rfl, b1⟩
    obtain ⟨c0, c1, c2, g1⟩ := one_kept b1
    go_wp2_with fail
    refine (H2 _ g1).mono ?_
    rintro e W2 ⟨rfl, b2⟩
    obtain ⟨d0, d1, d2, _⟩ := one_kept (b1.trans (b2.mono b1.size))
    have g2 := g1.trans (b2.mono g1.size)
    go_wp2_with fail
    refine (H3 _ g2).mono ?_
    rintro e W3 ⟨rfl, b3⟩
    go_wp2
    go_ret
    exact ⟨rfl, g2.trans (b3.mono g2.size)⟩
end Go.Proofs.YtofkiaeocfpkeaaGreatDoor

/- RefKnown: the document's known and Check of layer 6: what they return; nothing that lay before is turned. -/
namespace Go.Proofs.YtofkiaeocfpkeaaGreatDoor
open Go.RowKit

/-- Have all names types? -/
def knw (gs : List Grp) : Nat → DataW Unit → Bool
  | 0, _ => true
  | n + 1, t => !(decide (kindT t = 1) && (tyG gs (nameT t)).isEmpty) && (subs t).all (knw gs n)
set_option maxRecDepth 100000 in
set_option maxHeartbeats 2000000 in
theorem known_calls (w0 : World) (ga : Option Addr) (gl gc : Nat) (gs : List Grp) (hG : Groups w0 ga gl gs) : ∀ (n : Nat) (t : DataW Unit) (v : Value) (w : World), Ex w0 n t v → Below w0.heap.size w0 w →
    Calls Tryz.prog 93 #[v, .slice ga gl gc] w fun e w' => e = .returned (.bool (knw gs n t)) ∧ Below w.heap.size w w' := by
  intro n
  induction n with
  | zero => intro t v w h; exact h.elim
  | succ n ih =>
    intro t v w h hB0
    obtain ⟨k, s, ka, kl, kc, ts, rfl, rfl, hl, hz, hk⟩ := h
    obtain ⟨R, hR⟩ : ∃ R, knw gs (n + 1) (node k s ts) = R := ⟨_, rfl⟩
    rw [hR]
    rw [knw, kindT_node, nameT_node, subs_node] at hR
    obtain ⟨w1, hw1⟩ : ∃ w1, w1 = w.alloc (.cells #[.int .i64 k, .string s, .slice ka kl kc] 26) := ⟨_, rfl⟩
    have hB1 : Below w.heap.size w w1 := by rw [hw1]; exact (Below.refl _ w).alloc (Nat.le_refl _) _
    have hB01 : Below w0.heap.size w0 w1 := hB0.trans (hB1.mono hB0.size)
    have m0 : w1.heap[w.heap.size]? = some (.cells #[.int .i64 k, .string s, .slice ka kl kc] 26 (0, 0)) := by rw [hw1]; exact World.alloc_heap_new w _
    have hlt1 : w.heap.size < w1.heap.size := (Array.getElem?_eq_some_iff.1 m0).1
    have HK : Hid (∀ X : World, Below w1.heap.size w1 X → X.cell? ⟨w.heap.size, 0, none⟩ = some (.int .i64 k) ∧ X.cell? ⟨w.heap.size, 1, none⟩ = some (.string s) ∧ X.cell? ⟨w.heap.size, 2, none⟩ = some (.slice ka kl kc)) := fun X hX => by
      obtain ⟨a0, a1, a2, _⟩ := cells3 ((hX.block _ hlt1).trans m0)
      exact ⟨a0, a1, a2⟩
    have HW1 : Hid (w.alloc (.cells #[.int .i64 k, .string s, .slice ka kl kc] 26) = w1) := hw1.symm
    have HBW : Hid (∀ X, Below w1.heap.size w1 X → Below w.heap.size w X ∧ Below w0.heap.size w0 X) := fun X hX => ⟨hB1.trans (hX.mono hB1.size), hB01.trans (hX.mono hB01.size)⟩
    have HT : Hid (Calls Tryz.prog 142 #[.slice ga gl gc, .string s] w1 fun e w' => ∃ a' n c, e = .returned (.slice a' n c) ∧ Ints w0 a' n (tyG gs s) ∧ w' = w1) := types_calls s ga gl gc gs w0 w1 hG hB01
    have HKID : Hid (∀ i, i < kl → ∃ b' o x k' s' a' len' cap', ka = some ⟨b', o, none⟩ ∧ ts[i]? = some x ∧ (∀ W : World, Below w0.heap.size w0 W → W.cell? ⟨b', o + i * 3, none⟩ = some (.int .i64 k') ∧ W.cell? ⟨b', o + i * 3 + 1, none⟩ = some (.string s') ∧ W.cell? ⟨b', o + i * 3 + 2, none⟩ = some (.slice a' len' cap') ∧ Calls Tryz.prog 93 #[.agg #[.int .i64 k', .string s', .slice a' len' cap'], .slice ga gl gc] W fun e w' => e = .returned (.bool (knw gs n x)) ∧ Below W.heap.size W w')) := fun i hi => by
      obtain ⟨b', o, x, k', s', a', len', cap', e1, _, e2, e3⟩ := kid_at hl hk hi
      exact ⟨b', o, x, k', s', a', len', cap', e1, e2, fun W hW => ⟨(e3 W hW).1, (e3 W hW).2.1, (e3 W hW).2.2.1, ih x _ W (e3 w0 (Below.refl _ _)).2.2.2 hW⟩⟩
    have HTL : Hid (ts.length = kl) := hl
    have hzi : (kl : Int) ≤ 9223372036854775807 := by omega
    have hR1 : Below w1.heap.size w1 w1 := Below.refl _ _
    obtain ⟨q0, q1, q2⟩ := HK.out w1 hR1
    have HR : Hid ((!(decide (k = 1) && (tyG gs s).isEmpty) && ts.all (knw gs n)) = R) := hR
    clear hk hB0 hB1 hB01 m0 hlt1 hw1 hR ih hl hz
    -- the loop, from whatever world
    by_cases h1 : k = 1 ∧ tyG gs s = []
    · obtain ⟨rfl, hty⟩ := h1
      have HRF : Hid (R = false) := by
        show _ = _
        rw [← HR.out, hty]
        simp
      have HTE : Hid (tyG gs s = []) := hty
      clear HKID hty
      go_enter Tryz.func93, Tryz.ntmps93
      go_wp2_with fail
      rw [HW1.out]
      refine HT.out.mono ?_
      rintro e W ⟨a', n', c', rfl, hI, hWW⟩
      subst hWW
      obtain rfl : n' = 0 := by
        have := hI.1
        rw [HTE.out] at this
        simpa using this.symm
      have HEND : Hid (Below w.heap.size w W) := (HBW.out W hR1).1
      clear hI
      go_wp2
      go_ret
      exact ⟨by rw [HRF.out]; rfl, HEND.out⟩
    · have HR2 : Hid (ts.all (knw gs n) = R) := by
        show _ = _
        rw [← HR.out]
        have : (decide (k = 1) && (tyG gs s).isEmpty) = false := by
          rw [Bool.and_eq_false_iff]
          by_cases hk1 : k = 1
          · right
            cases ht : tyG gs s with
            | nil => exact absurd ⟨hk1, ht⟩ h1
            | cons _ _ => rfl
          · left
            exact decide_eq_false hk1
        rw [this]
        simp
      have HLEN : Hid (k = 1 → tyG gs s ≠ []) := fun e h => h1 ⟨e, h⟩
      have hk1 : (k == 1) = true ∨ (k == 1) = false := by cases (k == 1) <;> simp
      have HK1 : Hid ((k == 1) = true → k = 1) := fun e => by simpa using e
      clear h1 HR
      rcases hk1 with hk1 | hk1
      · go_enter Tryz.func93, Tryz.ntmps93
        go_wp2_with fail
        rw [HW1.out]
        refine HT.out.mono ?_
        rintro e W ⟨a', n', c', rfl, hI, hWW⟩
        rw [hWW]
        have hn : ((n' : Int) == 0) = false := by
          rw [beq_eq_false_iff_ne]
          intro e
          have h0 : n' = 0 := by omega
          have := hI.1
          rw [h0] at this
          exact HLEN.out (HK1.out hk1) (List.length_eq_zero_iff.1 this)
        have hni : (n' : Int) ≤ 9223372036854775807 := by have := hI.2.1; omega
        clear hI HT HLEN hWW
        go_wp2_with fail
        go_loopw [5] (fun u wr => ∃ j : Nat, j ≤ kl ∧ u = .int .i64 (j : Int) ∧ (ts.take j).all (knw gs n) = true ∧ Below w1.heap.size w1 wr) (fun u _ => kl - (intOf u).toNat)
        case atStart => exact ⟨0, Nat.zero_le _, rfl, rfl, hR1⟩
        case round =>
          obtain ⟨j, hj, rfl, hall, hBj⟩ := hrel
          obtain ⟨q0, q1, q2⟩ := HK.out wr hBj
          by_cases hlt : j < kl
          · obtain ⟨b', o, x, k', s', a', len', cap', rfl, hx, hcx⟩ := HKID.out j hlt
            obtain ⟨r0, r1, r2, hcall⟩ := hcx wr (HBW.out wr hBj).2
            have hji : (j : Int) < (kl : Int) := by omega
            have hj0 : (0 : Int) ≤ (j : Int) := by omega
            have HS : Hid ((ts.take (j + 1)).all (knw gs n) = knw gs n x) := by
              show _ = _
              rw [allI_step hx, hall, Bool.true_and]
            have HNO : Hid (knw gs n x = false → R = false) := fun e => by
              rw [← HR2.out, ← List.take_append_drop (j + 1) ts, List.all_append, HS.out, e, Bool.false_and]
            have HBJ : Hid (Below w1.heap.size w1 wr) := hBj
            generalize knw gs n x = B at *
            clear hcx hall hx hBj
            go_wp2_with fail
            refine hcall.mono ?_
            rintro e X ⟨rfl, hBX⟩
            have hB2 : Below w1.heap.size w1 X := HBJ.out.trans (hBX.mono HBJ.out.size)
            obtain ⟨p0, p1, p2⟩ := HK.out X hB2
            clear hcall hBX q0 q1 q2 r0 r1 r2
            cases B with
            | true =>
              go_wp2_with fail
              go_roundw
              case rel => exact ⟨j + 1, by omega, by first | rfl | go_num, HS.out, hB2⟩
              case measure => simp [intOf]; omega
            | false =>
              have HEND : Hid (Below w.heap.size w X) := (HBW.out X hB2).1
              have HRF := HNO.out rfl
              have HRF' : Hid (R = false) := HRF
              clear HRF hB2
              go_wp2
              go_ret
              exact ⟨by rw [HRF'.out]; rfl, HEND.out⟩
          · obtain rfl : j = kl := by omega
            have HEND : Hid (Below w.heap.size w wr ∧ R = true) := ⟨(HBW.out wr hBj).1, by rw [← HR2.out, ← hall, List.take_of_length_le (Nat.le_of_eq HTL.out)]⟩
            clear hall hBj
            go_wp2
            go_ret
            exact ⟨by rw [HEND.out.2]; rfl, HEND.out.1⟩
      · go_enter Tryz.func93, Tryz.ntmps93
        go_wp2_with fail
        rw [HW1.out]
        go_loopw [5] (fun u wr => ∃ j : Nat, j ≤ kl ∧ u = .int .i64 (j : Int) ∧ (ts.take j).all (knw gs n) = true ∧ Below w1.heap.size w1 wr) (fun u _ => kl - (intOf u).toNat)
        case atStart => exact ⟨0, Nat.zero_le _, rfl, rfl, hR1⟩
        case round =>
          obtain ⟨j, hj, rfl, hall, hBj⟩ := hrel
          obtain ⟨q0, q1, q2⟩ := HK.out wr hBj
          by_cases hlt : j < kl
          · obtain ⟨b', o, x, k', s', a', len', cap', rfl, hx, hcx⟩ := HKID.out j hlt
            obtain ⟨r0, r1, r2, hcall⟩ := hcx wr (HBW.out wr hBj).2
            have hji : (j : Int) < (kl : Int) := by omega
            have hj0 : (0 : Int) ≤ (j : Int) := by omega
            have HS : Hid ((ts.take (j + 1)).all (knw gs n) = knw gs n x) := by
              show _ = _
              rw [allI_step hx, hall, Bool.true_and]
            have HNO : Hid (knw gs n x = false → R = false) := fun e => by
              rw [← HR2.out, ← List.take_append_drop (j + 1) ts, List.all_append, HS.out, e, Bool.false_and]
            have HBJ : Hid (Below w1.heap.size w1 wr) := hBj
            generalize knw gs n x = B at *
            clear hcx hall hx hBj
            go_wp2_with fail
            refine hcall.mono ?_
            rintro e X ⟨rfl, hBX⟩
            have hB2 : Below w1.heap.size w1 X := HBJ.out.trans (hBX.mono HBJ.out.size)
            obtain ⟨p0, p1, p2⟩ := HK.out X hB2
            clear hcall hBX q0 q1 q2 r0 r1 r2
            cases B with
            | true =>
              go_wp2_with fail
              go_roundw
              case rel => exact ⟨j + 1, by omega, by first | rfl | go_num, HS.out, hB2⟩
              case measure => simp [intOf]; omega
            | false =>
              have HEND : Hid (Below w.heap.size w X) := (HBW.out X hB2).1
              have HRF := HNO.out rfl
              have HRF' : Hid (R = false) := HRF
              clear HRF hB2
              go_wp2
              go_ret
              exact ⟨by rw [HRF'.out]; rfl, HEND.out⟩
          · obtain rfl : j = kl := by omega
            have HEND : Hid (Below w.heap.size w wr ∧ R = true) := ⟨(HBW.out wr hBj).1, by rw [← HR2.out, ← hall, List.take_of_length_le (Nat.le_of_eq HTL.out)]⟩
            clear hall hBj
            go_wp2
            go_ret
            exact ⟨by rw [HEND.out.2]; rfl, HEND.out.1⟩
end Go.Proofs.YtofkiaeocfpkeaaGreatDoor

/- RefCheck6: the document's Check of layer 6 at every tree (not too great) and all groups: it answers what reg's Check answers; nothing that lay before is turned. -/
namespace Go.Proofs.YtofkiaeocfpkeaaGreatDoor
open Go.RowKit

theorem knw_nmd {gs : List Grp} (hr : rightG gs = true) : ∀ (n : Nat) (t : DataW Unit), rightE n t = true → knw gs n t = nmd gs n t := by
  intro n
  induction n with
  | zero => intro t h; cases h
  | succ n ih =>
    intro t h
    rw [rightE, Bool.and_eq_true, List.all_eq_true] at h
    obtain ⟨h1, h2⟩ := h
    rw [knw, nmd]
    by_cases k1 : kindT t = 1
    · rw [if_pos k1]
      have hs : subs t = [] := by
        unfold shapely at h2
        rw [if_neg (by omega), if_pos k1] at h2
        simp at h2
        exact h2.2
      rw [hs]
      have hz := tyG_zero hr (nameT t)
      rw [decide_eq_true k1]
      cases ht : tyG gs (nameT t) with
      | nil =>
        rw [hz.2 ht]
        rfl
      | cons x r =>
        have hne : ¬ maskG gs (nameT t) = 0 := fun e => by
          have := hz.1 e
          rw [ht] at this
          cases this
        simp [hne]
    · rw [if_neg k1, decide_eq_false k1]
      simp only [Bool.false_and, Bool.not_false, Bool.true_and]
      rw [Bool.eq_iff_iff, List.all_eq_true, List.all_eq_true]
      constructor
      · intro h x hx
        rw [← ih x (by have := h1 x hx; rw [Bool.and_eq_true] at this; exact this.2)]
        exact h x hx
      · intro h x hx
        rw [ih x (by have := h1 x hx; rw [Bool.and_eq_true] at this; exact this.2)]
        exact h x hx
theorem checkE_right {n : Nat} {t : DataW Unit} (h : checkE n t = 0) : rightE n t = true := by
  unfold checkE at h
  split at h
  · cases h
  · split at h
    · rename_i h2; exact h2
    · cases h
theorem rightG_take {gs : List Grp} (hl : gs.length ≤ 16) : rightG gs = gs.all (fun g => rightTs g.2) := by
  unfold rightG
  rw [decide_eq_true hl, Bool.true_and]
set_option maxRecDepth 100000 in
set_option maxHeartbeats 4000000 in
theorem refcheck_calls (n : Nat) (t : DataW Unit) (v : Value) (ga : Option Addr) (gl gc : Nat) (gs : List Grp) (w : World) (h : Ex w n t v) (hN : named n t) (hc : cnt n t ≤ 1152921504606846976) (hG : Groups w ga gl gs) :
    Calls Tryz.prog 43 #[v, .slice ga gl gc] w fun e w' => e = .returned (.int .i64 (chk n t gs)) ∧ Below w.heap.size w w' := by
  obtain ⟨k, s, ka, kl, kc, rfl⟩ : ∃ k s a len cap, v = .agg #[.int .i64 k, .string s, .slice a len cap] := by
    cases n with
    | zero => exact h.elim
    | succ n => obtain ⟨k, s, a, len, cap, ts, _, rfl, _⟩ := h; exact ⟨k, s, a, len, cap, rfl⟩
  obtain ⟨w1, hw1⟩ : ∃ w1, w1 = w.alloc (.cells #[.int .i64 k, .string s, .slice ka kl kc] 26) := ⟨_, rfl⟩
  have hB1 : Below w.heap.size w w1 := by rw [hw1]; exact (Below.refl _ w).alloc (Nat.le_refl _) _
  have m0 : w1.heap[w.heap.size]? = some (.cells #[.int .i64 k, .string s, .slice ka kl kc] 26 (0, 0)) := by rw [hw1]; exact World.alloc_heap_new w _
  have hlt1 : w.heap.size < w1.heap.size := (Array.getElem?_eq_some_iff.1 m0).1
  have HK : Hid (∀ X : World, Below w1.heap.size w1 X → X.cell? ⟨w.heap.size, 0, none⟩ = some (.int .i64 k) ∧ X.cell? ⟨w.heap.size, 1, none⟩ = some (.string s) ∧ X.cell? ⟨w.heap.size, 2, none⟩ = some (.slice ka kl kc)) := fun X hX => by
    obtain ⟨a0, a1, a2, _⟩ := cells3 ((hX.block _ hlt1).trans m0)
    exact ⟨a0, a1, a2⟩
  have HW1 : Hid (w.alloc (.cells #[.int .i64 k, .string s, .slice ka kl kc] 26) = w1) := hw1.symm
  have HBW : Hid (∀ X, Below w1.heap.size w1 X → Below w.heap.size w X) := fun X hX => hB1.trans (hX.mono hB1.size)
  have HC : Hid (Calls Tryz.prog 92 #[.agg #[.int .i64 k, .string s, .slice ka kl kc]] w1 fun e w' => e = .returned (.int .i64 (checkE n t)) ∧ Below w1.heap.size w1 w') := checkE_calls n t _ w1 (Ex.below hB1 _ _ _ h) hc hN
  have HKN : Hid (∀ X, Below w.heap.size w X → Calls Tryz.prog 93 #[.agg #[.int .i64 k, .string s, .slice ka kl kc], .slice ga gl gc] X fun e w' => e = .returned (.bool (knw gs n t)) ∧ Below X.heap.size X w') := fun X hX => known_calls w ga gl gc gs hG n t _ X h hX
  have HGA : Hid (∀ i, i < gl → ∃ b o g a' len' cap', ga = some ⟨b, o, none⟩ ∧ gs[i]? = some g ∧ Ints w a' len' g.2 ∧ ∀ W : World, Below w.heap.size w W → W.cell? ⟨b, o + i * 2, none⟩ = some (.string g.1) ∧ W.cell? ⟨b, o + i * 2 + 1, none⟩ = some (.slice a' len' cap')) := fun i hi => by
    obtain ⟨b, o, g, a', len', cap', e1, e2, e3, e4⟩ := hG.at hi
    exact ⟨b, o, g, a', len', cap', e1, e2, e3, e4⟩
  have HGL : Hid (gs.length = gl) := hG.1
  have hgi : (gl : Int) ≤ 9223372036854775807 := by have := hG.2.1; omega
  obtain ⟨R, hR⟩ : ∃ R, chk n t gs = R := ⟨_, rfl⟩
  rw [hR]
  have HR : Hid (chk n t gs = R) := hR
  obtain ⟨f, hf⟩ : ∃ f, checkE n t = f := ⟨_, rfl⟩
  rw [hf] at HC
  have HF : Hid (checkE n t = f) := hf
  obtain ⟨q0, q1, q2⟩ := HK.out w1 (Below.refl _ _)
  clear h hN hc hG hB1 m0 hlt1 hw1 hR hf
  by_cases hf0 : f ≠ 0
  · have e0 : (f == 0) = false := by simpa using hf0
    have e1 : (f != 0) = true := by simp [bne, e0]
    have HRF : Hid (R = f) := by
      show _ = _
      rw [← HR.out]
      unfold chk
      rw [if_neg (by rw [HF.out]; exact hf0), HF.out]
    clear HKN HGA
    go_enter Tryz.func43, Tryz.ntmps43
    go_wp2_with fail
    rw [HW1.out]
    refine HC.out.mono ?_
    rintro e X ⟨rfl, hX⟩
    have HEND : Hid (Below w.heap.size w X) := HBW.out X hX
    clear hX
    go_wp2
    go_ret
    exact ⟨by rw [HRF.out]; rfl, HEND.out⟩
  · have hf0 : f = 0 := Classical.not_not.1 hf0
    subst hf0
    have hb0 : ((0 : Int) != 0) = false := rfl
    have HRR : Hid (R = if rightG gs = true then (if nmd gs n t = true then 0 else 6) else 1) := by
      show _ = _
      rw [← HR.out]
      unfold chk
      rw [if_pos HF.out]
    by_cases hg16 : 16 < gl
    · have hd : decide ((16 : Int) < (gl : Int)) = true := by simp; omega
      have hd' : decide (16 < gl) = true := by simp; omega
      have HRF : Hid (R = 1) := by
        show _ = _
        rw [HRR.out, if_neg]
        unfold rightG
        rw [decide_eq_false (by have := HGL.out; omega)]
        simp
      clear HKN HGA
      go_enter Tryz.func43, Tryz.ntmps43
      go_wp2_with fail
      rw [HW1.out]
      refine HC.out.mono ?_
      rintro e X ⟨rfl, hX⟩
      have HEND : Hid (Below w.heap.size w X) := HBW.out X hX
      clear hX
      go_wp2
      go_ret
      exact ⟨by rw [HRF.out]; rfl, HEND.out⟩
    · have hd : decide ((16 : Int) < (gl : Int)) = false := by simp; omega
      have hd' : decide (16 < gl) = false := by simp; omega
      have HRG : Hid (rightG gs = gs.all (fun g => rightTs g.2)) := rightG_take (by have := HGL.out; omega)
      have HNO : Hid (∀ (i : Nat) (g : Grp), gs[i]? = some g → rightTs g.2 = false → R = 1) := fun i g hi hg => by
        rw [HRR.out, if_neg]
        rw [HRG.out, List.all_eq_true]
        intro hall
        have := hall g (List.mem_of_getElem? hi)
        rw [hg] at this
        cases this
      have hgli : (gl : Int) ≤ 16 := by omega
      go_enter Tryz.func43, Tryz.ntmps43
      go_wp2_with fail
      rw [HW1.out]
      refine HC.out.mono ?_
      rintro e X ⟨rfl, hX⟩
      obtain ⟨p0, p1, p2⟩ := HK.out X hX
      have HEND : Hid (Below w.heap.size w X) := HBW.out X hX
      have HC1 := HKN.out X HEND.out
      clear hX HC q0 q1 q2 HKN
      go_wp2_with fail
      go_loop [6] (fun u => ∃ i : Nat, i ≤ gl ∧ u = .int .i64 (i : Int) ∧ (gs.take i).all (fun g => rightTs g.2) = true) (fun u => gl - (intOf u).toNat)
      case atStart => exact ⟨0, Nat.zero_le _, rfl, rfl⟩
      case round =>
        obtain ⟨i, hi, rfl, hall⟩ := hrel
        by_cases hlt : i < gl
        · obtain ⟨b, o, g, a', len', cap', rfl, hg, hI, hcg⟩ := HGA.out i hlt
          obtain ⟨c0, c1⟩ := hcg X HEND.out
          have hii : (i : Int) < (gl : Int) := by omega
          have hi0 : (0 : Int) ≤ (i : Int) := by omega
          have hl2 := hI.1
          have hz2 : (len' : Int) ≤ 9223372036854775807 := by have := hI.2.1; omega
          have HN1 := HNO.out i g hg
          have HNG : Hid (rightTs g.2 = false → R = 1) := HN1
          obtain ⟨nm, zs⟩ := g
          simp only at hI hl2 c0 HNG
          have HS : Hid ((gs.take (i + 1)).all (fun g => rightTs g.2) = rightTs zs) := by
            show _ = _
            rw [allI_step hg, hall, Bool.true_and]
          have HII : Hid (∀ k, k < len' → ∃ b o x, a' = some ⟨b, o, none⟩ ∧ zs[k]? = some x ∧ X.cell? ⟨b, o + k, none⟩ = some (.int .i64 x)) := fun k hk => by
            obtain ⟨b, o, x, e1, e2, e3⟩ := hI.at hk
            exact ⟨b, o, x, e1, e2, e3 X HEND.out⟩
          have HL2 : Hid (zs.length = len') := hl2
          clear HN1 hall hg hI hcg hl2
          by_cases h16 : 16 < len'
          · have hd2 : decide ((16 : Int) < (len' : Int)) = true := by simp; omega
            have hd2' : decide (16 < len') = true := by simp; omega
            have HRF : Hid (R = 1) := HNG.out (by unfold rightTs; rw [decide_eq_false (by have := HL2.out; omega)]; rfl)
            go_wp2
            go_ret
            exact ⟨by rw [HRF.out]; rfl, HEND.out⟩
          · have hd2 : decide ((16 : Int) < (len' : Int)) = false := by simp; omega
            have hd2' : decide (16 < len') = false := by simp; omega
            have HRT : Hid (rightTs zs = zs.all isTy) := by
              show _ = _
              unfold rightTs
              rw [decide_eq_true (by have := HL2.out; omega), Bool.true_and]
            have hlen16 : (len' : Int) ≤ 16 := by omega
            go_wp2_with fail
            go_loop [7] (fun u => ∃ j : Nat, j ≤ len' ∧ u = .int .i64 (j : Int) ∧ (zs.take j).all isTy = true) (fun u => len' - (intOf u).toNat)
            case atStart => exact ⟨0, Nat.zero_le _, rfl, rfl⟩
            case round =>
              obtain ⟨j, hj, rfl, hallj⟩ := hrel
              by_cases hltj : j < len'
              · obtain ⟨b2, o2, x, rfl, hx, cx⟩ := HII.out j hltj
                have hji : (j : Int) < (len' : Int) := by omega
                have hj0 : (0 : Int) ≤ (j : Int) := by omega
                have HSJ : Hid ((zs.take (j + 1)).all isTy = isTy x) := by
                  show _ = _
                  rw [allI_step hx, hallj, Bool.true_and]
                have HNJ : Hid (isTy x = false → R = 1) := fun e => HNG.out (by
                  rw [HRT.out, ← List.take_append_drop (j + 1) zs, List.all_append, HSJ.out, e, Bool.false_and])
                clear hallj hx
                by_cases hx0 : x < 0
                · have HRF : Hid (R = 1) := HNJ.out (by unfold isTy; simp; omega)
                  have e1 : decide (x < 0) = true := by simp; omega
                  go_wp2
                  go_ret
                  exact ⟨by rw [HRF.out]; rfl, HEND.out⟩
                · have e1 : decide (x < 0) = false := by simp; omega
                  by_cases hx16 : 16 ≤ x
                  · have HRF : Hid (R = 1) := HNJ.out (by unfold isTy; simp; omega)
                    have e2 : decide (16 ≤ x) = true := by simp; omega
                    go_wp2
                    go_ret
                    exact ⟨by rw [HRF.out]; rfl, HEND.out⟩
                  · have e2 : decide (16 ≤ x) = false := by simp; omega
                    have HOK : Hid (isTy x = true) := by show _ = _; unfold isTy; simp; omega
                    go_wp2_with fail
                    go_round
                    case rel => exact ⟨j + 1, by omega, by first | rfl | go_num, by rw [HSJ.out]; exact HOK.out⟩
                    case measure => simp [intOf]; omega
              · obtain rfl : j = len' := by omega
                have HOK : Hid ((gs.take (i + 1)).all (fun g => rightTs g.2) = true) := by
                  show _ = _
                  rw [HS.out, HRT.out, ← hallj, List.take_of_length_le (Nat.le_of_eq HL2.out)]
                clear hallj
                go_wp2_with fail
                go_round
                case rel => exact ⟨i + 1, by omega, by first | rfl | go_num, HOK.out⟩
                case measure => simp [intOf]; omega
        · obtain rfl : i = gl := by omega
          have HRT : Hid (rightG gs = true) := by
            show _ = _
            rw [HRG.out, ← hall, List.take_of_length_le (Nat.le_of_eq HGL.out)]
          have HRV : Hid (R = if knw gs n t = true then 0 else 6) := by
            show _ = _
            rw [HRR.out, if_pos HRT.out, knw_nmd HRT.out n t (checkE_right HF.out)]
          have HXB : Hid (∀ Y, Below X.heap.size X Y → Below w.heap.size w Y) := fun Y hY => HEND.out.trans (hY.mono HEND.out.size)
          generalize knw gs n t = B at *
          clear hall
          go_wp2_with fail
          refine HC1.mono ?_
          rintro e Y ⟨rfl, hY⟩
          have HE2 : Hid (Below w.heap.size w Y) := HXB.out Y hY
          clear HC1 hY
          cases B with
          | true =>
            go_wp2
            go_ret
            exact ⟨by rw [HRV.out]; rfl, HE2.out⟩
          | false =>
            go_wp2
            go_ret
            exact ⟨by rw [HRV.out]; rfl, HE2.out⟩
end Go.Proofs.YtofkiaeocfpkeaaGreatDoor

/- Types6: reg's types at every walk: what the places that fit would take; nothing that lay before is turned. -/
namespace Go.Proofs.YtofkiaeocfpkeaaGreatDoor
open Go.RowKit Go.Maps

/-- What the places of S that fit would take, of those that are no more left: its bits. -/
def TakenBy (F : List Place) (S : Nat → Bool) (ok : Nat → Bool) (left : Lit → Bool) (j : Nat) : Prop := ∃ (p : Nat) (x : Place), S p = true ∧ left (.int .i64 (p : Int)) = false ∧ F[p]? = some x ∧ ok x.2.2 = true ∧ x.1.testBit j = true
/-- How far the walk over the set is. -/
structure TypI (F : List Place) (N : Nat) (S : Nat → Bool) (ok : Nat → Bool) (bh : Nat) (W1 wr : World) (D : DataW Unit) (left : Lit → Bool) (cnt acc : Nat) : Prop where
  rg : wr.ranges Tryz.prog 3 unitElem bh W1.heap.size N D left cnt
  sub : ∀ kl, left kl = true → ∃ p : Nat, kl = .int .i64 (p : Int) ∧ S p = true
  iff : ∀ j, acc.testBit j = true ↔ TakenBy F S ok left j
  lt : acc < 65536
  bel : Below W1.heap.size W1 wr
theorem TypI.on {F : List Place} {N : Nat} {S ok : Nat → Bool} {bh : Nat} {W1 wr : World} {D : DataW Unit} {left : Lit → Bool} {cnt acc : Nat} (h : TypI F N S ok bh W1 wr D left cnt acc) {p : Nat} {x : Place} (hp : S p = true) (hx : F[p]? = some x) (hm : x.1 < 65536) {w1 w2 : World} {cnt1 : Nat} (hg1 : wr.grownBy w1 (some W1.heap.size)) (hrg : w1.ranges Tryz.prog 3 unitElem bh W1.heap.size N D (fun z => left z && !z.sameKey (.int .i64 (p : Int))) cnt1) (hg2 : w1.grownBy w2 none) :
    TypI F N S ok bh W1 w2 D (fun z => left z && !z.sameKey (.int .i64 (p : Int))) cnt1 (if ok x.2.2 = true then acc ||| x.1 else acc) := by
  have hkey : WideAt.IsKeyLit (.int .i64 (p : Int)) := by trivial
  have hsame : ∀ z : Lit, z.sameKey (.int .i64 (p : Int)) = true ↔ z = .int .i64 (p : Int) := fun z => ⟨fun e => WideAt.sameKey_eq e, fun e => by rw [e]; exact WideAt.sameKey_self hkey⟩
  have hleft : ∀ q : Nat, (left (.int .i64 (q : Int)) && !(Lit.int .i64 (q : Int)).sameKey (.int .i64 (p : Int))) = false ↔ (left (.int .i64 (q : Int)) = false ∨ q = p) := fun q => by
    rw [Bool.and_eq_false_iff, Bool.not_eq_false', hsame]
    constructor
    · rintro (e | e)
      · exact .inl e
      · right
        have : (q : Int) = (p : Int) := by injection e
        omega
    · rintro (e | e)
      · exact .inl e
      · exact .inr (by rw [e])
  have hT : ∀ j, TakenBy F S ok (fun z => left z && !z.sameKey (.int .i64 (p : Int))) j ↔ (TakenBy F S ok left j ∨ (ok x.2.2 = true ∧ x.1.testBit j = true)) := fun j => by
    constructor
    · rintro ⟨q, y, h1, h2, h3, h4, h5⟩
      rcases (hleft q).1 h2 with e | e
      · exact .inl ⟨q, y, h1, e, h3, h4, h5⟩
      · subst e
        rw [hx] at h3
        cases h3
        exact .inr ⟨h4, h5⟩
    · rintro (⟨q, y, h1, h2, h3, h4, h5⟩ | ⟨h4, h5⟩)
      · exact ⟨q, y, h1, (hleft q).2 (.inl h2), h3, h4, h5⟩
      · exact ⟨p, x, hp, (hleft p).2 (.inr rfl), hx, h4, h5⟩
  refine ⟨hrg.kept hg2 (by simp) (by simp), fun kl hk => h.sub kl (by rw [Bool.and_eq_true] at hk; exact hk.1), fun j => ?_, ?_, ?_⟩
  · rw [hT, ← h.iff]
    split
    · rename_i e
      rw [Nat.testBit_or, Bool.or_eq_true]
      exact ⟨fun q => q.imp_right fun r => ⟨e, r⟩, fun q => q.imp_right fun r => r.2⟩
    · rename_i e
      exact ⟨.inl, fun q => q.elim id fun r => absurd r.1 e⟩
  · split
    · exact Nat.or_lt_two_pow (n := 16) h.lt hm
    · exact h.lt
  · exact (h.bel.grown hg1 h.bel.size (fun k e => by cases e; exact Nat.le_refl _)).grown hg2 (Nat.le_trans h.bel.size hg1.size) (fun k e => by cases e)
end Go.Proofs.YtofkiaeocfpkeaaGreatDoor
