/-
  PROVED HERE: what the texts NewF, HouseT, Tok say (each has its own words below).
-/
import Derived.Test.YtgkplmnhmobnnaaGreatDoorSMReadA
import Derived.Test.YtgkplmnhmobnnaaGreatDoorSM30
import Derived.Test.YtgkplmnhmobnnaaGreatDoorProg
import Derived.WalkKit
import Derived.Below
import Derived.Deep.Light
/- NewF: schema.New at every expression, types and groups: what it returns, and the schema as it lies in memory. -/
namespace Go.Proofs.YtgkplmnhmobnnaaGreatDoor
open Go.RowKit

/-- What New answers. -/
noncomputable def newE (whole : ByteArray) (l : List SpecD) (gs : List Grp) : Int :=
  open Classical in
  if 15 < l.length ∨ 16 < gs.length then 1
  else if l.all okS = true ∧ RightN (namesD l gs) then firstE (whole :: l.map (·.expr)) (namesD l gs)
  else 1
/-- A schema that was made, as it lies. -/
structure SchAt (w : World) (B g c ng nc : Nat) (ks : List KindD) (gs : List Grp) (ts : List (DataW Unit)) : Prop where
  sch : w.heap[B]? = some (.cells #[.slice (some ⟨g, 0, none⟩) ks.length c, .slice (some ⟨ng, 0, none⟩) gs.length nc] 81 (0, 0))
  glt : g < w.heap.size
  kinds : ∀ (i : Nat) (x : KindD), ks[i]? = some x → SpecAt w g (i * 10) x.1 ∧ w.cell? ⟨g, i * 10 + 7, none⟩ = some (.int .i64 x.2.1) ∧ w.cell? ⟨g, i * 10 + 8, none⟩ = some (.string x.2.2.1) ∧ w.cell? ⟨g, i * 10 + 9, none⟩ = some (.slice x.2.2.2.1 x.2.2.2.2.1 x.2.2.2.2.2)
  names : Groups w (some ⟨ng, 0, none⟩) gs.length gs
  len : ts.length = ks.length
  cap : ks.length ≤ c ∧ c ≤ 9223372036854775807 ∧ ks.length ≤ 16
  trees : ∀ (i : Nat) (x : KindD) (t : DataW Unit), ks[i]? = some x → ts[i]? = some t → Ex w 200 t (rawV x.2) ∧ named 200 t ∧ chk 200 t gs = 0
theorem SchAt.below {w w' : World} {B g c ng nc : Nat} {ks : List KindD} {gs : List Grp} {ts : List (DataW Unit)} (h : SchAt w B g c ng nc ks gs ts) (hB : Below w.heap.size w w') : SchAt w' B g c ng nc ks gs ts := by
  have e : ∀ k, w'.cell? ⟨g, k, none⟩ = w.cell? ⟨g, k, none⟩ := fun k => World.cell?_of_block (hB.block g h.glt)
  refine ⟨(hB.block B (Array.getElem?_eq_some_iff.1 h.sch).1).trans h.sch, Nat.lt_of_lt_of_le h.glt hB.size, fun i x hx => ?_, h.names.below hB, h.len, h.cap, fun i x t hx ht => ?_⟩
  · obtain ⟨h1, h2, h3, h4⟩ := h.kinds i x hx
    exact ⟨h1.same (hB.block g h.glt), by rw [e]; exact h2, by rw [e]; exact h3, by rw [e]; exact h4⟩
  · obtain ⟨h1, h2, h3⟩ := h.trees i x t hx ht
    exact ⟨Ex.below hB _ _ _ h1, h2, h3⟩
/-- The trees of a schema. -/
def treesOf (whole : ByteArray) (l : List SpecD) : List (DataW Unit) := (whole :: l.map (·.expr)).map outTree
/-- What was made of these. -/
def MadeS (w : World) (B : Nat) (whole : ByteArray) (l : List SpecD) (gs : List Grp) : Prop := ∃ g c ng nc ks, SchAt w B g c ng nc ks (namesD l gs) (treesOf whole l) ∧ ks.map (·.1) = zeroS :: l
theorem MadeS.below {w w' : World} {B : Nat} {whole : ByteArray} {l : List SpecD} {gs : List Grp} (h : MadeS w B whole l gs) (hB : Below w.heap.size w w') : MadeS w' B whole l gs := by
  obtain ⟨g, c, ng, nc, ks, h1, h2⟩ := h
  exact ⟨g, c, ng, nc, ks, h1.below hB, h2⟩
theorem readE_zero {s : ByteArray} {gs : List Grp} (h : readE s gs = 0) : chk 200 (outTree s) gs = 0 := by
  unfold readE at h
  split at h
  · rename_i h1
    exact absurd h h1
  · exact h
theorem RdI.made {base : Nat} {w0 : World} {B g c ng nc : Nat} {xs : List GrpD} {whole : ByteArray} {l : List SpecD} {gs : List Grp} {wr : World} {ks : List KindD} (h : RdI base w0 B g c ng nc xs (whole :: l.map (·.expr)) (zeroS :: l) wr ks ks.length) (hn : xs.map plainG = namesD l gs) (hl : l.length ≤ 15) (hxl : xs.length ≤ 1000) : MadeS wr B whole l gs := by
  have hkl : ks.length = l.length + 1 := by have := congrArg List.length h.spec; rw [List.length_map, List.length_cons] at this; exact this
  have hnl : (namesD l gs).length = xs.length := by rw [← hn, List.length_map]
  obtain ⟨hgl, _⟩ := owns_lt h.row (g := g) rfl
  have hcap : ks.length ≤ c ∧ c ≤ maxLen := by
    rcases h.row.2 with ⟨e, _⟩ | ⟨g', cap, cur, e, _, _, h1, h2, _⟩
    · cases e
    · injection e with _ _ e3
      subst e3
      exact ⟨h1, h2⟩
  refine ⟨g, c, ng, nc, ks, ⟨by rw [hnl]; exact h.sch, hgl, fun i x hx => ?_, by rw [hnl, ← hn]; exact h.nms.groups rfl (by omega), by unfold treesOf; simp; omega, ⟨hcap.1, by have := hcap.2; unfold maxLen at this; omega, by omega⟩, fun i x t hx ht => ?_⟩, h.spec⟩
  · obtain ⟨g', cap', e, hc⟩ := owns_cell h.row (by omega)
    injection e with e1
    injection e1 with e1
    injection e1 with e1
    subst e1
    exact ⟨(kinds_at h.row).2 i x hx, hc _ _ (flatK_at (j := 7) hx rfl), hc _ _ (flatK_at (j := 8) hx rfl), hc _ _ (flatK_at (j := 9) hx rfl)⟩
  · unfold treesOf at ht
    rw [List.getElem?_map] at ht
    cases hs : (whole :: l.map (·.expr))[i]? with
    | none => rw [hs] at ht; cases ht
    | some s =>
      rw [hs] at ht
      cases ht
      have hi : i < ks.length := (List.getElem?_eq_some_iff.1 hx).1
      refine ⟨ExA.ex _ _ _ (h.tree i x s hi hx hs), out_named s, ?_⟩
      have := readE_zero (h.zero i s hi hs)
      rw [hn] at this
      exact this
theorem Nms.base {b b' : Nat} {W : World} {v : Value} {xs : List GrpD} (h : Nms b W v xs) (hb : b' ≤ b) : Nms b' W v xs := by
  refine ⟨⟨h.row.1, ?_⟩, h.ok⟩
  rcases h.row.2 with h2 | ⟨g, cap, cur, h1, h2, h3⟩
  · exact .inl h2
  · exact .inr ⟨g, cap, cur, h1, Nat.le_trans hb h2, h3⟩
theorem bare_expr (l : List SpecD) (whole : ByteArray) : ∀ (j : Nat) (x : KindD), 1 ≤ j → (bareK zeroS :: l.map bareK)[j]? = some x → (whole :: l.map (·.expr))[j]? = some x.1.expr := by
  intro j x hj hx
  obtain ⟨k, rfl⟩ : ∃ k, j = k + 1 := ⟨j - 1, by omega⟩
  rw [List.getElem?_cons_succ, List.getElem?_map] at hx ⊢
  cases hq : l[k]? with
  | none => rw [hq] at hx; cases hx
  | some y =>
    rw [hq] at hx
    cases hx
    rfl
theorem all_bare (l : List SpecD) : (((bareK zeroS :: l.map bareK).drop 1).all fun x => okS x.1) = l.all okS := by
  rw [List.drop_succ_cons, List.drop_zero, List.all_map]
  rfl
set_option maxRecDepth 100000 in
set_option maxHeartbeats 800000 in
theorem new_calls (whole : ByteArray) (a : Option Addr) (len cap : Nat) (l : List SpecD) (ga : Option Addr) (gl gc : Nat) (gs : List Grp) (w : World) (hw : whole.size ≤ 9223372036854775807) (hl : Specs w a len l) (hG : Groups w ga gl gs) (hls : ∀ x ∈ l, x.name.size ≤ 9223372036854775807 ∧ x.expr.size ≤ 9223372036854775807) (hgs : ∀ x ∈ gs, x.1.size ≤ 9223372036854775807 ∧ x.2.length ≤ 1000000) (hE : ETy w) :
    Calls Tryz.prog 17 #[.string whole, .slice a len cap, .slice ga gl gc] w fun e w' => Below w.heap.size w w' ∧ ((newE whole l gs ≠ 0 ∧ e = .returned (.tuple #[.pointer none, .int .i64 (newE whole l gs)])) ∨ (newE whole l gs = 0 ∧ ∃ B, e = .returned (.tuple #[.pointer (some ⟨B, 0, none⟩), .int .i64 0]) ∧ MadeS w' B whole l gs)) := by
  have hll := hl.1
  have hgl := hG.1
  have hl63 := hl.2.1
  have hg63 := hG.2.1
  have hli : (len : Int) ≤ 9223372036854775807 := by omega
  have hgi : (gl : Int) ≤ 9223372036854775807 := by omega
  by_cases h1 : 15 < len
  · have HN : Hid (newE whole l gs = 1) := by
      show newE whole l gs = 1
      unfold newE
      rw [if_pos (.inl (by omega))]
    have hd : decide ((15 : Int) < (len : Int)) = true := by simp; omega
    have HR : Hid (Below w.heap.size w w) := Below.refl _ _
    clear hl hG hls hgs hE
    go_enter Tryz.func17, Tryz.ntmps17
    go_wp2
    go_ret2
    exact ⟨HR.out, .inl ⟨by rw [HN.out]; decide, by rw [HN.out]; rfl⟩⟩
  have hd1 : decide ((15 : Int) < (len : Int)) = false := by simp; omega
  by_cases h2 : 16 < gl
  · have HN : Hid (newE whole l gs = 1) := by
      show newE whole l gs = 1
      unfold newE
      rw [if_pos (.inr (by omega))]
    have hd : decide ((16 : Int) < (gl : Int)) = true := by simp; omega
    have HR : Hid (Below w.heap.size w w) := Below.refl _ _
    clear hl hG hls hgs hE
    go_enter Tryz.func17, Tryz.ntmps17
    go_wp2
    go_ret2
    exact ⟨HR.out, .inl ⟨by rw [HN.out]; decide, by rw [HN.out]; rfl⟩⟩
  have hd2 : decide ((16 : Int) < (gl : Int)) = false := by simp; omega
  have hnE : newE whole l gs = (open Classical in if l.all okS = true ∧ RightN (namesD l gs) then firstE (whole :: l.map (·.expr)) (namesD l gs) else 1) := by
    unfold newE
    rw [if_neg (by omega)]
  have HKO := Hid.mk_ (kindsof_calls a len cap l w hl (by omega))
  have HNO : Hid (∀ X, Below w.heap.size w X → Calls Tryz.prog 47 #[.slice a len cap, .slice ga gl gc] X fun e w' => ∃ (g c : Nat) (xs : List GrpD), e = .returned (.slice (some ⟨g, 0, none⟩) xs.length c) ∧ Nms X.heap.size w' (.slice (some ⟨g, 0, none⟩) xs.length c) xs ∧ xs.map plainG = namesD l gs ∧ Below X.heap.size X w') := fun X hX => namesof_calls a len cap l ga gl gc gs X (hl.below hX) (hG.below hX) (by omega) (by omega) (fun x hx => (hgs x hx).2)
  have hsz : ∀ x ∈ namesD l gs, x.1.size ≤ 9223372036854775807 := by
    intro x hx
    unfold namesD at hx
    rcases List.mem_cons.1 hx with rfl | hx
    · decide
    · rcases List.mem_append.1 hx with hx | hx
      · have : ∀ (l : List SpecD) (i : Nat) (x : Grp), x ∈ specNames i l → ∃ s ∈ l, x.1 = s.name := by
          intro l
          induction l with
          | nil => intro i x hx; cases hx
          | cons s r ih =>
            intro i x hx
            rw [specNames] at hx
            rcases List.mem_cons.1 hx with rfl | hx
            · exact ⟨s, List.mem_cons_self .., rfl⟩
            · obtain ⟨q, h1, h2⟩ := ih _ _ hx
              exact ⟨q, List.mem_cons_of_mem _ h1, h2⟩
        obtain ⟨s, h1, h2⟩ := this l 0 x hx
        rw [h2]
        exact (hls s h1).1
      · exact (hgs x hx).1
  have hnl : (namesD l gs).length ≤ 100 := by
    unfold namesD
    rw [List.length_cons, List.length_append, specNames_length]
    omega
  -- what comes behind namesOf
  have HALL : Hid (∀ (X1 X2 : World) (g c ng nc : Nat) (xs : List GrpD), X1.ownsRow w.heap.size 76 10 (.slice (some ⟨g, 0, none⟩) (len + 1) c) (bareK zeroS :: l.map bareK).length (flatK (bareK zeroS :: l.map bareK)) → Below w.heap.size w X1 → Nms X1.heap.size X2 (.slice (some ⟨ng, 0, none⟩) xs.length nc) xs → xs.map plainG = namesD l gs → Below X1.heap.size X1 X2 → ∀ X3 X4, X3 = X2.alloc (.cells #[.slice (some ⟨g, 0, none⟩) (len + 1) c, .slice (some ⟨ng, 0, none⟩) xs.length nc] 81) → X4 = X3.alloc (.cells #[.func (.func 49) #[] #[], .func (.func 50) #[] #[], .func (.func 51) #[] #[]] 86) →
      Below w.heap.size w X4 ∧ (∀ X, Below X4.heap.size X4 X → X.cell? ⟨X2.heap.size, 0, none⟩ = some (.slice (some ⟨g, 0, none⟩) (len + 1) c) ∧ X.cell? ⟨X2.heap.size, 1, none⟩ = some (.slice (some ⟨ng, 0, none⟩) xs.length nc)) ∧ Calls Tryz.prog 48 #[.pointer (some ⟨X2.heap.size, 0, none⟩), .slice (some ⟨X3.heap.size, 0, none⟩) 3 3] X4 (fun e w' => e = .returned (.bool (l.all okS)) ∧ Below X4.heap.size X4 w') ∧
      (∀ X, Below X4.heap.size X4 X → Calls Tryz.prog 52 #[.slice (some ⟨ng, 0, none⟩) xs.length nc] X fun e w' => ∃ r : Bool, e = .returned (.bool r) ∧ (r = true ↔ RightN (namesD l gs)) ∧ Below X.heap.size X w') ∧
      (∀ X, Below X4.heap.size X4 X → Calls Tryz.prog 53 #[.pointer (some ⟨X2.heap.size, 0, none⟩), .string whole] X fun e w' => e = .returned (.int .i64 (firstE (whole :: l.map (·.expr)) (namesD l gs))) ∧ Below w.heap.size w w' ∧ (firstE (whole :: l.map (·.expr)) (namesD l gs) = 0 → MadeS w' X2.heap.size whole l gs))) := by
    intro X1 X2 g c ng nc xs hown hB1 hnm hxn hB2 X3 X4 hX3 hX4
    have hxl : xs.length = (namesD l gs).length := by rw [← hxn, List.length_map]
    have hkl : (bareK zeroS :: l.map bareK).length = len + 1 := by rw [List.length_cons, List.length_map]; omega
    have hB12 : Below w.heap.size w X2 := hB1.trans (hB2.mono hB1.size)
    have hB23 : Below X2.heap.size X2 X3 := by rw [hX3]; exact (Below.refl _ _).alloc (Nat.le_refl _) _
    have hB34 : Below X3.heap.size X3 X4 := by rw [hX4]; exact (Below.refl _ _).alloc (Nat.le_refl _) _
    have m3 : X3.heap[X2.heap.size]? = some (.cells #[.slice (some ⟨g, 0, none⟩) (len + 1) c, .slice (some ⟨ng, 0, none⟩) xs.length nc] 81 (0, 0)) := by rw [hX3]; exact World.alloc_heap_new X2 _
    have hlt3 : X2.heap.size < X3.heap.size := (Array.getElem?_eq_some_iff.1 m3).1
    have m4 : X4.heap[X2.heap.size]? = some (.cells #[.slice (some ⟨g, 0, none⟩) (len + 1) c, .slice (some ⟨ng, 0, none⟩) xs.length nc] 81 (0, 0)) := (hB34.block _ hlt3).trans m3
    have f4 : X4.heap[X3.heap.size]? = some (.cells #[.func (.func 49) #[] #[], .func (.func 50) #[] #[], .func (.func 51) #[] #[]] 86 (0, 0)) := by rw [hX4]; exact World.alloc_heap_new X3 _
    have hB24 : Below X2.heap.size X2 X4 := hB23.trans (hB34.mono hB23.size)
    have hB14 : Below X1.heap.size X1 X4 := hB2.trans (hB24.mono hB2.size)
    have hB4 : Below w.heap.size w X4 := hB12.trans (hB24.mono hB12.size)
    have hlt4 : X2.heap.size < X4.heap.size := (Array.getElem?_eq_some_iff.1 m4).1
    have hown4 : X4.ownsRow w.heap.size 76 10 (.slice (some ⟨g, 0, none⟩) (len + 1) c) (bareK zeroS :: l.map bareK).length (flatK (bareK zeroS :: l.map bareK)) := owns_same hown fun k hk => hB14.block k (owns_lt hown hk).1
    have hnm4 : Nms w.heap.size X4 (.slice (some ⟨ng, 0, none⟩) xs.length nc) xs := (hnm.below hB24).base hB1.size
    refine ⟨hB4, fun X hX => ?_, ?_, fun X hX => ?_, fun X hX => ?_⟩
    · have hc := fun j => cell_of_row X X2.heap.size j _ _ _ ((hX.block _ hlt4).trans m4)
      exact ⟨hc 0, hc 1⟩
    · have := everytype_calls X2.heap.size g c X3.heap.size (.slice (some ⟨ng, 0, none⟩) xs.length nc) (bareK zeroS :: l.map bareK) X4 (by rw [hkl]; exact m4) (kinds_at hown4) f4 (by omega)
      rw [all_bare] at this
      exact this
    · have hgr := (hnm4.below hX).groups rfl (by omega)
      rw [hxn] at hgr
      have hcap : xs.length ≤ nc ∧ nc ≤ maxLen := by
        rcases hnm4.row.2 with ⟨e, _⟩ | ⟨g', cap, cur, e, _, _, h1, h2, _⟩
        · cases e
        · injection e with _ _ e3
          subst e3
          exact ⟨h1, h2⟩
      exact rightnames_calls ng nc xs.length (namesD l gs) X hgr (by omega) hcap.1 (by have := hcap.2; unfold maxLen at this; omega) hsz
    · have hBX : Below w.heap.size w X := hB4.trans (hX.mono hB4.size)
      have hR : RdI w.heap.size X X2.heap.size g c ng nc xs (whole :: l.map (·.expr)) (zeroS :: l) X (bareK zeroS :: l.map bareK) 0 := by
        refine ⟨by rw [hkl]; exact (hX.block _ hlt4).trans m4, ?_, hnm4.below hX, ?_, fun j x s hj => by omega, fun j s hj => by omega, ⟨rfl, rfl, rfl, Nat.le_refl _, fun _ _ _ => rfl⟩, hE.below hBX⟩
        · have := owns_same hown4 (w' := X) fun k hk => hX.block k (owns_lt hown4 hk).1
          rw [hkl] at this ⊢
          exact this
        · rw [List.map_cons, List.map_map]
          show zeroS :: l.map _ = zeroS :: l
          congr 1
          exact List.map_id' l
      have het : 1 < w.heap.size := hE.lt
      refine (readall_calls w.heap.size X2.heap.size g c ng nc xs whole (whole :: l.map (·.expr)) (zeroS :: l) X (bareK zeroS :: l.map bareK) hR het rfl (bare_expr l whole) (by simp) (fun s hs => ?_) (by omega) (by omega)).mono ?_
      · rcases List.mem_cons.1 hs with rfl | hs
        · exact hw
        · obtain ⟨q, hq, rfl⟩ := List.mem_map.1 hs
          exact (hls q hq).2
      · rintro e w' ⟨rfl, hgr, hz⟩
        rw [hxn] at hz ⊢
        refine ⟨rfl, hBX.grown hgr hBX.size (fun k e => by injection e with e; subst e; exact owned_base hown (g := g) rfl), fun h0 => ?_⟩
        obtain ⟨ks', hk', hI⟩ := hz h0
        rw [← hk'] at hI
        exact hI.made hxn (by omega) (by omega)
  generalize hnew : newE whole l gs = NE at *
  have HNE := Hid.mk_ hnE
  clear hl hG hls hgs hE hsz hnl hnE hnew
  go_enter Tryz.func17, Tryz.ntmps17
  go_wp2_with fail
  refine HKO.out.mono ?_
  rintro e X1 ⟨g, c, rfl, hown, hB1⟩
  have HX1 : Hid (X1.ownsRow w.heap.size 76 10 (.slice (some ⟨g, 0, none⟩) (len + 1) c) (bareK zeroS :: l.map bareK).length (flatK (bareK zeroS :: l.map bareK)) ∧ Below w.heap.size w X1) := ⟨hown, hB1⟩
  have HN1 := HNO.out X1 hB1
  clear hown hB1 HKO HNO
  go_wp2_with fail
  refine HN1.mono ?_
  rintro e X2 ⟨ng, nc, xs, rfl, hnm, hxn, hB2⟩
  obtain ⟨hB4, hcells, hev, hrn, hra⟩ := HALL.out X1 X2 g c ng nc xs HX1.out.1 HX1.out.2 hnm hxn hB2 _ _ rfl rfl
  have HB4 := Hid.mk_ hB4
  have HCE := Hid.mk_ hcells
  have HRN := Hid.mk_ hrn
  have HRA := Hid.mk_ hra
  obtain ⟨ca, hca⟩ : ∃ r, r = l.all okS := ⟨_, rfl⟩
  rw [← hca] at hev HNE
  clear hnm hxn hB2 HALL HN1 HX1 hB4 hcells hrn hra hca
  rw [World.size_alloc] at hev
  go_wp2_with fail
  refine hev.mono ?_
  rintro e X5 ⟨rfl, hB5⟩
  have HB5 : Hid (Below w.heap.size w X5) := HB4.out.trans (hB5.mono HB4.out.size)
  have HBX5 := Hid.mk_ hB5
  obtain ⟨k0, k1⟩ := HCE.out X5 hB5
  have HRN5 := HRN.out X5 hB5
  clear hB5 hev
  cases ca with
  | false =>
    have HN : Hid (NE = 1) := by
      show NE = 1
      rw [HNE.out, if_neg (by simp)]
    clear HRN5
    go_wp2
    go_ret2
    exact ⟨HB5.out, .inl ⟨by rw [HN.out]; decide, by rw [HN.out]; rfl⟩⟩
  | true =>
    go_wp2_with fail
    refine HRN5.mono ?_
    rintro e X6 ⟨r, rfl, hr, hB6⟩
    have hB46 := HBX5.out.trans (hB6.mono HBX5.out.size)
    have HB6 : Hid (Below w.heap.size w X6) := HB4.out.trans (hB46.mono HB4.out.size)
    have HRA6 := HRA.out X6 hB46
    have HR := Hid.mk_ hr
    clear hB6 hB46 hr HRN5 HRN HRA
    cases r with
    | false =>
      have HN : Hid (NE = 1) := by
        show NE = 1
        rw [HNE.out, if_neg (fun h => by cases HR.out.2 h.2)]
      clear HRA6
      go_wp2
      go_ret2
      exact ⟨HB6.out, .inl ⟨by rw [HN.out]; decide, by rw [HN.out]; rfl⟩⟩
    | true =>
      have hN : NE = firstE (whole :: l.map (·.expr)) (namesD l gs) := by
        rw [HNE.out, if_pos ⟨rfl, HR.out.1 (by first | rfl | trivial)⟩]
      rw [← hN] at HRA6
      clear HNE hN HR
      go_wp2_with fail
      refine HRA6.mono ?_
      rintro e X7 ⟨rfl, hB7, hmade⟩
      have HE : Hid (Below w.heap.size w X7 ∧ (NE = 0 → MadeS X7 X2.heap.size whole l gs)) := ⟨hB7, hmade⟩
      clear hB7 hmade HRA6
      by_cases hz : NE = 0
      · subst hz
        have hb0 : ((0 : Int) != 0) = false := rfl
        go_wp2
        go_ret2
        first | exact ⟨HE.out.1, .inr ⟨rfl, X2.heap.size, rfl, HE.out.2 rfl⟩⟩ | exact ⟨HE.out.1, X2.heap.size, rfl, HE.out.2 (by first | rfl | trivial)⟩
      · have e0 : (NE == 0) = false := by simpa using hz
        have e1 : (NE != 0) = true := by simp [bne, e0]
        go_wp2
        go_ret2
        exact ⟨HE.out.1, .inl ⟨hz, rfl⟩⟩
end Go.Proofs.YtgkplmnhmobnnaaGreatDoor

/- HouseT: the house's schema: what House makes, at every memory. -/
namespace Go.Proofs.YtgkplmnhmobnnaaGreatDoor
open Go.RowKit

def houseW : ByteArray := ⟨#[98, 108, 111, 99, 107, 43]⟩
def textS : ByteArray := ⟨#[116, 101, 120, 116, 42]⟩
def itemS : ByteArray := ⟨#[105, 116, 101, 109, 43]⟩
def houseL : List SpecD := [⟨⟨#[112, 97, 114, 97]⟩, textS, false, 7, 0, 0, false⟩, ⟨⟨#[104, 101, 97, 100]⟩, textS, false, 7, 1, 6, false⟩, ⟨⟨#[113, 117, 111, 116, 101]⟩, houseW, false, 0, 0, 0, false⟩, ⟨⟨#[99, 111, 100, 101]⟩, textS, false, 0, 0, 0, true⟩, ⟨⟨#[108, 105, 115, 116]⟩, itemS, false, 0, 0, 1, false⟩, ⟨⟨#[105, 116, 101, 109]⟩, houseW, false, 0, 0, 0, false⟩, ⟨⟨#[114, 117, 108, 101]⟩, ⟨#[]⟩, true, 0, 0, 0, false⟩]
def houseG : List Grp := [(⟨#[98, 108, 111, 99, 107]⟩, [1, 2, 3, 4, 5, 7])]
/-- As a test. -/
def rightNB (gs : List Grp) : Bool := (List.range gs.length).all fun i => match gs[i]? with
  | some x => letters x.1 && !((gs.take i).any fun y => y.1.toList == x.1.toList)
  | none => false
theorem rightN_of {gs : List Grp} (h : rightNB gs = true) : RightN gs := by
  intro i x hx
  have hi := (List.getElem?_eq_some_iff.1 hx).1
  have h1 := List.all_eq_true.1 h i (List.mem_range.2 hi)
  rw [hx] at h1
  simp only [Bool.and_eq_true, Bool.not_eq_true'] at h1
  refine ⟨h1.1, fun ⟨j, y, h2, h3, h4⟩ => ?_⟩
  have := List.any_eq_false.1 h1.2 y (List.mem_of_getElem? (i := j) (by rw [List.getElem?_take, if_pos h2]; exact h3))
  exact this h4
theorem house_new : newE houseW houseL houseG = 0 := by
  unfold newE
  rw [if_neg (by decide), if_pos ⟨by kernel_rfl, rightN_of (by kernel_rfl)⟩]
  kernel_rfl
theorem specs_house (w : World) (b : Nat) (f : Nat × Nat) (h : w.heap[b]? = some (.cells #[.string ⟨#[112, 97, 114, 97]⟩, .string ⟨#[116, 101, 120, 116, 42]⟩, .bool false, .int .i64 7, .int .i64 0, .int .i64 0, .bool false, .string ⟨#[104, 101, 97, 100]⟩, .string ⟨#[116, 101, 120, 116, 42]⟩, .bool false, .int .i64 7, .int .i64 1, .int .i64 6, .bool false, .string ⟨#[113, 117, 111, 116, 101]⟩, .string ⟨#[98, 108, 111, 99, 107, 43]⟩, .bool false, .int .i64 0, .int .i64 0, .int .i64 0, .bool false, .string ⟨#[99, 111, 100, 101]⟩, .string ⟨#[116, 101, 120, 116, 42]⟩, .bool false, .int .i64 0, .int .i64 0, .int .i64 0, .bool true, .string ⟨#[108, 105, 115, 116]⟩, .string ⟨#[105, 116, 101, 109, 43]⟩, .bool false, .int .i64 0, .int .i64 0, .int .i64 1, .bool false, .string ⟨#[105, 116, 101, 109]⟩, .string ⟨#[98, 108, 111, 99, 107, 43]⟩, .bool false, .int .i64 0, .int .i64 0, .int .i64 0, .bool false, .string ⟨#[114, 117, 108, 101]⟩, .string ⟨#[]⟩, .bool true, .int .i64 0, .int .i64 0, .int .i64 0, .bool false] 34 f)) : Specs w (some ⟨b, 0, none⟩) 7 houseL := by
  have hc := fun j => cell_of_row w b j _ _ _ h
  refine ⟨rfl, by omega, .inr ⟨b, 0, rfl, (Array.getElem?_eq_some_iff.1 h).1, fun i x hx => ?_⟩⟩
  match i, hx with
  | 0, hx => cases hx; exact ⟨hc 0, hc 1, hc 2, hc 3, hc 4, hc 5, hc 6⟩
  | 1, hx => cases hx; exact ⟨hc 7, hc 8, hc 9, hc 10, hc 11, hc 12, hc 13⟩
  | 2, hx => cases hx; exact ⟨hc 14, hc 15, hc 16, hc 17, hc 18, hc 19, hc 20⟩
  | 3, hx => cases hx; exact ⟨hc 21, hc 22, hc 23, hc 24, hc 25, hc 26, hc 27⟩
  | 4, hx => cases hx; exact ⟨hc 28, hc 29, hc 30, hc 31, hc 32, hc 33, hc 34⟩
  | 5, hx => cases hx; exact ⟨hc 35, hc 36, hc 37, hc 38, hc 39, hc 40, hc 41⟩
  | 6, hx => cases hx; exact ⟨hc 42, hc 43, hc 44, hc 45, hc 46, hc 47, hc 48⟩
  | n + 7, hx => simp [houseL] at hx
set_option maxRecDepth 100000 in
set_option maxHeartbeats 400000 in
theorem housetypes_calls (w : World) : Calls Tryz.prog 26 #[] w fun e w' => ∃ b, e = .returned (.slice (some ⟨b, 0, none⟩) 7 7) ∧ Specs w' (some ⟨b, 0, none⟩) 7 houseL ∧ Below w.heap.size w w' := by
  have HB : Hid (∀ o, Below w.heap.size w (w.alloc o)) := fun o => (Below.refl _ w).alloc (Nat.le_refl _) _
  go_enter Tryz.func26, Tryz.ntmps26
  go_wp2
  go_ret
  exact ⟨w.heap.size, rfl, specs_house _ _ _ (World.alloc_heap_new w _), HB.out _⟩
theorem groups_house (w : World) (b b1 : Nat) (h : w.heap[b]? = some (.cells #[.string ⟨#[98, 108, 111, 99, 107]⟩, .slice (some ⟨b1, 0, none⟩) 6 6] 59 (0, 0))) (h1 : w.heap[b1]? = some (.cells #[.int .i64 1, .int .i64 2, .int .i64 3, .int .i64 4, .int .i64 5, .int .i64 7] 3 (0, 0))) : Groups w (some ⟨b, 0, none⟩) 1 houseG := by
  have hc := fun j => cell_of_row w b j _ _ _ h
  have hd := fun j => cell_of_row w b1 j _ _ _ h1
  refine ⟨rfl, by omega, .inr ⟨b, 0, rfl, (Array.getElem?_eq_some_iff.1 h).1, fun i x hx => ?_⟩⟩
  match i, hx with
  | 0, hx =>
    cases hx
    refine ⟨some ⟨b1, 0, none⟩, 6, 6, hc 0, hc 1, rfl, by omega, .inr ⟨b1, 0, rfl, (Array.getElem?_eq_some_iff.1 h1).1, fun k y hy => ?_⟩⟩
    match k, hy with
    | 0, hy => cases hy; exact hd 0
    | 1, hy => cases hy; exact hd 1
    | 2, hy => cases hy; exact hd 2
    | 3, hy => cases hy; exact hd 3
    | 4, hy => cases hy; exact hd 4
    | 5, hy => cases hy; exact hd 5
    | n + 6, hy => simp at hy
  | n + 1, hx => simp [houseG] at hx
set_option maxRecDepth 100000 in
set_option maxHeartbeats 400000 in
theorem housegroups_calls (w : World) : Calls Tryz.prog 27 #[] w fun e w' => ∃ b, e = .returned (.slice (some ⟨b, 0, none⟩) 1 1) ∧ Groups w' (some ⟨b, 0, none⟩) 1 houseG ∧ Below w.heap.size w w' := by
  have hB1 : Below w.heap.size w (w.alloc (.cells #[.int .i64 1, .int .i64 2, .int .i64 3, .int .i64 4, .int .i64 5, .int .i64 7] 3)) := (Below.refl _ w).alloc (Nat.le_refl _) _
  have HG : Hid (Groups ((w.alloc (.cells #[.int .i64 1, .int .i64 2, .int .i64 3, .int .i64 4, .int .i64 5, .int .i64 7] 3)).alloc (.cells #[.string ⟨#[98, 108, 111, 99, 107]⟩, .slice (some ⟨w.heap.size, 0, none⟩) 6 6] 59)) (some ⟨w.heap.size + 1, 0, none⟩) 1 houseG ∧ Below w.heap.size w ((w.alloc (.cells #[.int .i64 1, .int .i64 2, .int .i64 3, .int .i64 4, .int .i64 5, .int .i64 7] 3)).alloc (.cells #[.string ⟨#[98, 108, 111, 99, 107]⟩, .slice (some ⟨w.heap.size, 0, none⟩) 6 6] 59))) := by
    refine ⟨groups_house _ _ w.heap.size ?_ ?_, hB1.alloc hB1.size _⟩
    · have := World.alloc_heap_new (w.alloc (.cells #[.int .i64 1, .int .i64 2, .int .i64 3, .int .i64 4, .int .i64 5, .int .i64 7] 3)) (.cells #[.string ⟨#[98, 108, 111, 99, 107]⟩, .slice (some ⟨w.heap.size, 0, none⟩) 6 6] 59)
      rw [World.size_alloc] at this
      exact this
    · exact (Below.heap_alloc _ _ _ (by rw [World.size_alloc]; omega)).trans (World.alloc_heap_new w _)
  clear hB1
  go_enter Tryz.func27, Tryz.ntmps27
  go_wp2
  go_ret
  exact ⟨w.heap.size + 1, rfl, HG.out⟩
set_option maxRecDepth 100000 in
set_option maxHeartbeats 400000 in
theorem house_calls (w : World) (hE : ETy w) : Calls Tryz.prog 9 #[] w fun e w' => ∃ B, e = .returned (.pointer (some ⟨B, 0, none⟩)) ∧ MadeS w' B houseW houseL houseG ∧ Below w.heap.size w w' := by
  have HT := Hid.mk_ (housetypes_calls w)
  have HG : Hid (∀ X : World, Calls Tryz.prog 27 #[] X fun e w' => ∃ b, e = .returned (.slice (some ⟨b, 0, none⟩) 1 1) ∧ Groups w' (some ⟨b, 0, none⟩) 1 houseG ∧ Below X.heap.size X w') := fun X => housegroups_calls X
  have HN : Hid (∀ (X : World) (b1 b2 : Nat), Below w.heap.size w X → Specs X (some ⟨b1, 0, none⟩) 7 houseL → Groups X (some ⟨b2, 0, none⟩) 1 houseG → Calls Tryz.prog 17 #[.string ⟨#[98, 108, 111, 99, 107, 43]⟩, .slice (some ⟨b1, 0, none⟩) 7 7, .slice (some ⟨b2, 0, none⟩) 1 1] X fun e w' => Below X.heap.size X w' ∧ ∃ B, e = .returned (.tuple #[.pointer (some ⟨B, 0, none⟩), .int .i64 0]) ∧ MadeS w' B houseW houseL houseG) := fun X b1 b2 hX h1 h2 => by
    refine (new_calls houseW (some ⟨b1, 0, none⟩) 7 7 houseL (some ⟨b2, 0, none⟩) 1 1 houseG X (by decide) h1 h2 (by decide) (by decide) (hE.below hX)).mono ?_
    rintro e w' ⟨hB, ⟨hn, _⟩ | ⟨_, B, rfl, hm⟩⟩
    · exact absurd house_new hn
    · exact ⟨hB, B, rfl, hm⟩
  clear hE
  go_enter Tryz.func9, Tryz.ntmps9
  go_wp2_with fail
  refine HT.out.mono ?_
  rintro e X1 ⟨b1, rfl, hs1, hB1⟩
  have HS1 : Hid (Specs X1 (some ⟨b1, 0, none⟩) 7 houseL ∧ Below w.heap.size w X1) := ⟨hs1, hB1⟩
  clear hs1 hB1 HT
  go_wp2_with fail
  refine (HG.out X1).mono ?_
  rintro e X2 ⟨b2, rfl, hg2, hB2⟩
  have hB02 := HS1.out.2.trans (hB2.mono HS1.out.2.size)
  have HN2 := HN.out X2 b1 b2 hB02 (HS1.out.1.below hB2) hg2
  have HB02 := Hid.mk_ hB02
  clear hg2 hB2 hB02 HN HG HS1
  go_wp2_with fail
  refine HN2.mono ?_
  rintro e X3 ⟨hB3, B, rfl, hm⟩
  have HE : Hid (MadeS X3 B houseW houseL houseG ∧ Below w.heap.size w X3) := ⟨hm, HB02.out.trans (hB3.mono HB02.out.size)⟩
  clear hm hB3 HN2
  go_wp2
  go_ret
  exact ⟨B, rfl, HE.out⟩
end Go.Proofs.YtgkplmnhmobnnaaGreatDoor

/- Tok: tokens as plain data, and in a slice; plain functions on them. -/
namespace Go.Proofs.YtgkplmnhmobnnaaGreatDoor
open Go.RowKit

structure Tok where
  k : Int
  t : Int
  n : Int
  m : Int

/-- The same token, the same tokens. -/
def tokEq (x y : Tok) : Bool := x.k == y.k && (x.t == y.t && (x.n == y.n && x.m == y.m))
theorem tokEq_iff (x y : Tok) : tokEq x y = true ↔ x = y := by
  obtain ⟨a, b, c, d⟩ := x
  obtain ⟨a', b', c', d'⟩ := y
  simp [tokEq]
def eqL : List Tok → List Tok → Bool
  | [], [] => true
  | x :: r, y :: s => tokEq x y && eqL r s
  | [], _ :: _ => false
  | _ :: _, [] => false
theorem eqL_iff (l m : List Tok) : eqL l m = true ↔ l = m := by
  induction l generalizing m with
  | nil => cases m <;> simp [eqL]
  | cons x r ih =>
    cases m with
    | nil => simp [eqL]
    | cons y s => rw [eqL, Bool.and_eq_true, tokEq_iff, ih, List.cons.injEq]
theorem eqL_false {l m : List Tok} (h : l ≠ m) : eqL l m = false := by
  cases e : eqL l m with
  | false => rfl
  | true => exact absurd ((eqL_iff l m).1 e) h
theorem tokEq_false {x y : Tok} (h : x ≠ y) : tokEq x y = false := by
  cases e : tokEq x y with
  | false => rfl
  | true => exact absurd ((tokEq_iff x y).1 e) h

def tokV (x : Tok) : Value := .agg #[.int .i64 x.k, .int .i64 x.t, .int .i64 x.n, .int .i64 x.m]

def point (n : Int) : Bool := decide (0 ≤ n) && decide (n ≤ 1114111) && (decide (n < 55296) || decide (57343 < n))
def rightM (s : Int) : Bool := decide (0 ≤ s) && decide (s ≤ 4)
def rightT (x : Tok) : Bool :=
  if x.k = 0 then x.t == 0 && point x.n && rightM x.m
  else if x.k = 1 ∨ x.k = 3 then decide (1 ≤ x.t) && decide (x.t < 16) && decide (0 ≤ x.n) && decide (x.n ≤ 15) && x.m == 0
  else if x.k = 2 then x.t == 0 && x.n == 0 && x.m == 0
  else false

/-- A slice's elements are the tokens l. -/
def Toks (w : World) (a : Option Addr) (len : Nat) (l : List Tok) : Prop :=
  l.length = len ∧ (len = 0 ∨ ∃ b o, a = some ⟨b, o, none⟩ ∧ b < w.heap.size ∧ ∀ i x, l[i]? = some x → w.cell? ⟨b, o + i * 4, none⟩ = some (.int .i64 x.k) ∧ w.cell? ⟨b, o + i * 4 + 1, none⟩ = some (.int .i64 x.t) ∧
    w.cell? ⟨b, o + i * 4 + 2, none⟩ = some (.int .i64 x.n) ∧ w.cell? ⟨b, o + i * 4 + 3, none⟩ = some (.int .i64 x.m))

theorem Toks.below {w w' : World} {a : Option Addr} {len : Nat} {l : List Tok} (h : Toks w a len l) (hb : Below w.heap.size w w') : Toks w' a len l := by
  obtain ⟨h1, h2⟩ := h
  refine ⟨h1, ?_⟩
  rcases h2 with h2 | ⟨b, o, rfl, hlt, hc⟩
  · exact .inl h2
  · refine .inr ⟨b, o, rfl, Nat.lt_of_lt_of_le hlt hb.size, fun i x hx => ?_⟩
    obtain ⟨c0, c1, c2, c3⟩ := hc i x hx
    exact ⟨(hb.cell (p := ⟨b, _, none⟩) hlt).trans c0, (hb.cell (p := ⟨b, _, none⟩) hlt).trans c1, (hb.cell (p := ⟨b, _, none⟩) hlt).trans c2, (hb.cell (p := ⟨b, _, none⟩) hlt).trans c3⟩

/-- The tokens from the k-th on, d open: what is told. -/
def checkL : List Tok → Nat → Int → Int × Int
  | [], i, d => if 0 < d then (i, 3) else (i, 0)
  | x :: r, i, d =>
    if (!rightT x || (x.k == 2 && d == 0)) = true then (i, 4)
    else if 32 < (if x.k = 1 then d + 1 else if x.k = 2 then d - 1 else d) then (i, 8)
    else checkL r (i + 1) (if x.k = 1 then d + 1 else if x.k = 2 then d - 1 else d)
def check (l : List Tok) : Int × Int := if 2048 < l.length then (0, 2) else checkL l 0 0

theorem drop_getD {l : List Tok} {k : Nat} (h : k < l.length) : ∃ x, l[k]? = some x ∧ l.drop k = x :: l.drop (k + 1) := ⟨l[k], List.getElem?_eq_getElem h, List.drop_eq_getElem_cons h⟩

/-- The k-th token lies where it lay, in every later world. -/
theorem Toks.token {w : World} {a : Option Addr} {len : Nat} {l : List Tok} (h : Toks w a len l) {k : Nat} (hk : k < len) : ∃ b o x, a = some ⟨b, o, none⟩ ∧ b < w.heap.size ∧ l[k]? = some x ∧ ∀ W : World, Below w.heap.size w W →
    W.cell? ⟨b, o + k * 4, none⟩ = some (.int .i64 x.k) ∧ W.cell? ⟨b, o + k * 4 + 1, none⟩ = some (.int .i64 x.t) ∧ W.cell? ⟨b, o + k * 4 + 2, none⟩ = some (.int .i64 x.n) ∧ W.cell? ⟨b, o + k * 4 + 3, none⟩ = some (.int .i64 x.m) := by
  obtain ⟨h1, h2 | ⟨b, o, rfl, hlt, hc⟩⟩ := h
  · omega
  · have hx : l[k]? = some (l[k]'(by omega)) := List.getElem?_eq_getElem (by omega)
    refine ⟨b, o, _, rfl, hlt, hx, fun W hb => ?_⟩
    obtain ⟨c0, c1, c2, c3⟩ := hc k _ hx
    exact ⟨(hb.cell (p := ⟨b, _, none⟩) hlt).trans c0, (hb.cell (p := ⟨b, _, none⟩) hlt).trans c1, (hb.cell (p := ⟨b, _, none⟩) hlt).trans c2, (hb.cell (p := ⟨b, _, none⟩) hlt).trans c3⟩
end Go.Proofs.YtgkplmnhmobnnaaGreatDoor
