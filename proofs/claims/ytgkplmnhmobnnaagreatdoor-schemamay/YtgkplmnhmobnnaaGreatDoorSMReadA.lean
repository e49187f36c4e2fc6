/-
  PROVED HERE: schema's readAll: the trees of the whole and of each type; the first error.
-/
import Derived.Test.YtgkplmnhmobnnaaGreatDoorSMReadK
namespace Go.Proofs.YtgkplmnhmobnnaaGreatDoor
open Go.RowKit

/-- The first error of expressions with these names. -/
def firstE : List ByteArray → List Grp → Int
  | [], _ => 0
  | s :: r, gs => if readE s gs ≠ 0 then readE s gs else firstE r gs
theorem firstE_at : ∀ (ss : List ByteArray) (gs : List Grp) (i : Nat) (s : ByteArray), ss[i]? = some s → (∀ (j : Nat) (q : ByteArray), j < i → ss[j]? = some q → readE q gs = 0) → readE s gs ≠ 0 → firstE ss gs = readE s gs := by
  intro ss gs
  induction ss with
  | nil => intro i s h; simp at h
  | cons x r ih =>
    intro i s h hz hne
    cases i with
    | zero =>
      simp only [List.getElem?_cons_zero, Option.some.injEq] at h
      subst h
      rw [firstE, if_pos hne]
    | succ i =>
      rw [List.getElem?_cons_succ] at h
      rw [firstE, if_neg (by rw [hz 0 x (by omega) rfl]; simp)]
      exact ih i s h (fun j q hj hq => hz (j + 1) q (by omega) (by rw [List.getElem?_cons_succ]; exact hq)) hne
theorem firstE_zero : ∀ (ss : List ByteArray) (gs : List Grp), (∀ (j : Nat) (q : ByteArray), ss[j]? = some q → readE q gs = 0) → firstE ss gs = 0 := by
  intro ss gs
  induction ss with
  | nil => intro _; rfl
  | cons x r ih =>
    intro hz
    rw [firstE, if_neg (by rw [hz 0 x rfl]; simp)]
    exact ih (fun j q hq => hz (j + 1) q (by rw [List.getElem?_cons_succ]; exact hq))
/-- A schema that is being made. -/
structure RdI (base : Nat) (w0 : World) (B g c ng nc : Nat) (xs : List GrpD) (ss : List ByteArray) (sp : List SpecD) (wr : World) (ks : List KindD) (m : Nat) : Prop where
  sch : wr.heap[B]? = some (.cells #[.slice (some ⟨g, 0, none⟩) ks.length c, .slice (some ⟨ng, 0, none⟩) xs.length nc] 81 (0, 0))
  row : wr.ownsRow base 76 10 (.slice (some ⟨g, 0, none⟩) ks.length c) ks.length (flatK ks)
  nms : Nms base wr (.slice (some ⟨ng, 0, none⟩) xs.length nc) xs
  spec : ks.map (·.1) = sp
  tree : ∀ (j : Nat) (x : KindD) (s : ByteArray), j < m → ks[j]? = some x → ss[j]? = some s → ExA (fun b => b ≠ g) wr 200 (outTree s) (rawV x.2)
  zero : ∀ (j : Nat) (s : ByteArray), j < m → ss[j]? = some s → readE s (xs.map plainG) = 0
  grown : w0.grownBy wr (some g)
  ety : ETy wr
theorem RdI.cells {base : Nat} {w0 : World} {B g c ng nc : Nat} {xs : List GrpD} {ss : List ByteArray} {sp : List SpecD} {wr : World} {ks : List KindD} {m : Nat} (h : RdI base w0 B g c ng nc xs ss sp wr ks m) : wr.cell? ⟨B, 0, none⟩ = some (.slice (some ⟨g, 0, none⟩) ks.length c) ∧ wr.cell? ⟨B, 1, none⟩ = some (.slice (some ⟨ng, 0, none⟩) xs.length nc) := by
  have hc := fun j => cell_of_row wr B j _ _ _ h.sch
  exact ⟨hc 0, hc 1⟩
theorem RdI.expr {base : Nat} {w0 : World} {B g c ng nc : Nat} {xs : List GrpD} {ss : List ByteArray} {sp : List SpecD} {wr : World} {ks : List KindD} {m : Nat} (h : RdI base w0 B g c ng nc xs ss sp wr ks m) {i : Nat} {x : KindD} (hx : ks[i]? = some x) : wr.cell? ⟨g, i * 10 + 1, none⟩ = some (.string x.1.expr) := ((kinds_at h.row).2 i x hx).2.1
/-- One tree more. -/
theorem RdI.next {base : Nat} {w0 : World} {B g c ng nc : Nat} {xs : List GrpD} {ss : List ByteArray} {sp : List SpecD} {wr Y : World} {ks : List KindD} {m : Nat} (h : RdI base w0 B g c ng nc xs ss sp wr ks m) {x : KindD} {s : ByteArray} (hx : ks[m]? = some x) (hs : ss[m]? = some s) (hz : readE s (xs.map plainG) = 0) (hg : wr.grownBy Y (some g)) {r : Raw} (hr : Y.ownsRow base 76 10 (.slice (some ⟨g, 0, none⟩) ks.length c) ks.length (flatK (ks.set m (x.1, r.1, r.2.1, r.2.2.1, r.2.2.2.1, r.2.2.2.2)))) (hX : ExA (fun b => wr.heap.size ≤ b) Y 200 (outTree s) (rawV r)) (he : ETy Y) :
    RdI base w0 B g c ng nc xs ss sp Y (ks.set m (x.1, r.1, r.2.1, r.2.2.1, r.2.2.2.1, r.2.2.2.2)) (m + 1) := by
  obtain ⟨hgl, cur, hcur⟩ := owns_lt h.row (g := g) rfl
  have hBg : some B ≠ some g := fun e => by
    injection e with e
    subst e
    have := h.sch
    rw [hcur] at this
    injection this with this
    injection this with _ t2 _
    exact absurd t2 (by decide)
  refine ⟨?_, by rw [List.length_set]; exact hr, h.nms.grown hg hcur, ?_, ?_, ?_, grown_trans h.grown hg, he⟩
  · rw [List.length_set]
    exact (hg.block B (Array.getElem?_eq_some_iff.1 h.sch).1 hBg).trans h.sch
  · rw [List.map_set, h.spec]
    have e : sp[m]? = some x.1 := by rw [← h.spec, List.getElem?_map, hx]; rfl
    refine List.ext_getElem? fun q => ?_
    rw [List.getElem?_set]
    split
    · rename_i e'
      subst e'
      rw [if_pos (List.getElem?_eq_some_iff.1 e).1, e]
    · rfl
  · intro j y q hj hy hq
    by_cases e : j = m
    · subst e
      rw [List.getElem?_set, if_pos rfl, if_pos (List.getElem?_eq_some_iff.1 hx).1] at hy
      cases hy
      rw [hs] at hq
      cases hq
      exact ExA.mono (fun b _ hb => by omega) hX
    · rw [List.getElem?_set, if_neg (fun e' => e e'.symm)] at hy
      exact ExA.kept hg.size (fun b hb hA => ⟨hA, hg.block b hb (fun e' => hA (by injection e'))⟩) _ _ _ (h.tree j y q (by omega) hy hq)
  · intro j q hj hq
    by_cases e : j = m
    · subst e
      rw [hs] at hq
      cases hq
      exact hz
    · exact h.zero j q (by omega) hq
theorem ETy.grown {w w' : World} {g : Nat} (h : ETy w) (hg : w.grownBy w' (some g)) (hne : 1 ≠ g) : ETy w' := by
  have hl := h.lt
  unfold ETy at h ⊢
  exact (World.cell?_of_block (hg.block 1 hl (by intro e; injection e with e; exact hne e))).trans h
/-- What one reading says of what comes of all. -/
def RdQ (base : Nat) (w0 : World) (B g c ng nc : Nat) (xs : List GrpD) (ss : List ByteArray) (sp : List SpecD) (n : Nat) (Y : World) (f : Int) (m : Nat) : Prop := w0.grownBy Y (some g) ∧ Y.cell? ⟨B, 0, none⟩ = some (.slice (some ⟨g, 0, none⟩) n c) ∧ ((f = 0 ∧ ∃ ks, ks.length = n ∧ RdI base w0 B g c ng nc xs ss sp Y ks m) ∨ (f ≠ 0 ∧ firstE ss (xs.map plainG) = f))
theorem RdI.post {base : Nat} {w0 : World} {B g c ng nc : Nat} {xs : List GrpD} {ss : List ByteArray} {sp : List SpecD} {wr : World} {ks : List KindD} {m : Nat} (h : RdI base w0 B g c ng nc xs ss sp wr ks m) (hbase : 1 < base) {x : KindD} {s : ByteArray} (hx : ks[m]? = some x) (hs : ss[m]? = some s) {q : Nat} {y : KindD} (hy : ks[q]? = some y) {X : World} (hBX : Below wr.heap.size wr X) :
    ∀ (e : Ending) (Y : World), (e = .returned (.int .i64 (readE s (xs.map plainG))) ∧ X.grownBy Y (some g) ∧ ∃ ks' : List KindD, ks'.map (·.1) = ks.map (·.1) ∧ Y.ownsRow base 76 10 (.slice (some ⟨g, 0, none⟩) ks.length c) ks.length (flatK ks') ∧ (readE s (xs.map plainG) = 0 → ∃ r : Raw, ks' = ks.set m (x.1, r.1, r.2.1, r.2.2.1, r.2.2.2.1, r.2.2.2.2) ∧ ExA (fun b => X.heap.size ≤ b) Y 200 (outTree s) (rawV r))) → e = .returned (.int .i64 (readE s (xs.map plainG))) ∧ (Y.cell? ⟨B, 0, none⟩ = some (.slice (some ⟨g, 0, none⟩) ks.length c) ∧ Y.cell? ⟨B, 1, none⟩ = some (.slice (some ⟨ng, 0, none⟩) xs.length nc) ∧ Y.cell? ⟨g, q * 10 + 1, none⟩ = some (.string y.1.expr)) ∧ RdQ base w0 B g c ng nc xs ss sp ks.length Y (readE s (xs.map plainG)) (m + 1) := by
  rintro e Y ⟨rfl, hg0, ks', hsp, hrow, hr⟩
  have hg : wr.grownBy Y (some g) := grown_trans (grown_below hBX) hg0
  obtain ⟨hgl, cur, hcur⟩ := owns_lt h.row (g := g) rfl
  have hgb := owned_base h.row (g := g) rfl
  have hBg : some B ≠ some g := fun e => by
    injection e with e
    subst e
    have := h.sch
    rw [hcur] at this
    injection this with this
    injection this with _ t2 _
    exact absurd t2 (by decide)
  have hsY := (hg.block B (Array.getElem?_eq_some_iff.1 h.sch).1 hBg).trans h.sch
  have hc := fun j => cell_of_row Y B j _ _ _ hsY
  have hce : Y.cell? ⟨g, q * 10 + 1, none⟩ = some (.string y.1.expr) := by
    have hl : ks'.length = ks.length := by have := congrArg List.length hsp; rw [List.length_map, List.length_map] at this; exact this
    have e1 : (ks'.map (·.1))[q]? = (ks.map (·.1))[q]? := by rw [hsp]
    obtain ⟨z, hz⟩ : ∃ z, ks'[q]? = some z := ⟨_, List.getElem?_eq_getElem (by have := (List.getElem?_eq_some_iff.1 hy).1; omega)⟩
    rw [List.getElem?_map, List.getElem?_map, hz, hy] at e1
    have e2 : z.1 = y.1 := by simpa using e1
    rw [← hl] at hrow
    rw [← e2]
    exact ((kinds_at hrow).2 q z hz).2.1
  refine ⟨rfl, ⟨hc 0, hc 1, hce⟩, grown_trans h.grown hg, hc 0, ?_⟩
  by_cases hz : readE s (xs.map plainG) = 0
  · obtain ⟨r, r1, r2⟩ := hr hz
    rw [r1] at hrow
    exact .inl ⟨hz, _, by rw [List.length_set], h.next hx hs hz hg hrow (ExA.mono (fun b _ hb => Nat.le_trans hBX.size hb) r2) (h.ety.grown hg (by omega))⟩
  · exact .inr ⟨hz, firstE_at ss _ m s hs (fun j q hj hq => h.zero j q hj hq) hz⟩
theorem RdI.below {base : Nat} {w0 : World} {B g c ng nc : Nat} {xs : List GrpD} {ss : List ByteArray} {sp : List SpecD} {wr X : World} {ks : List KindD} {m : Nat} (h : RdI base w0 B g c ng nc xs ss sp wr ks m) (hB : Below wr.heap.size wr X) : RdI base w0 B g c ng nc xs ss sp X ks m :=
  ⟨(hB.block B (Array.getElem?_eq_some_iff.1 h.sch).1).trans h.sch, owns_same h.row fun k hk => hB.block k (owns_lt h.row hk).1, h.nms.below hB, h.spec, fun j x s h1 h2 h3 => ExA.kept hB.size (fun b hb hA => ⟨hA, hB.block b hb⟩) _ _ _ (h.tree j x s h1 h2 h3), h.zero, grown_trans h.grown (grown_below hB), h.ety.below hB⟩
set_option maxRecDepth 100000 in
set_option maxHeartbeats 800000 in
theorem readall_calls (base B g c ng nc : Nat) (xs : List GrpD) (whole : ByteArray) (ss : List ByteArray) (sp : List SpecD) (w : World) (ks : List KindD) (h : RdI base w B g c ng nc xs ss sp w ks 0) (hbase : 1 < base) (h0 : ss[0]? = some whole) (hss : ∀ (j : Nat) (x : KindD), 1 ≤ j → ks[j]? = some x → ss[j]? = some x.1.expr) (hsl : ss.length = ks.length) (hsz : ∀ s ∈ ss, s.size ≤ 9223372036854775807) (hlen : ks.length ≤ 1000) (hxl : xs.length ≤ 1000) :
    Calls Tryz.prog 53 #[.pointer (some ⟨B, 0, none⟩), .string whole] w fun e w' => e = .returned (.int .i64 (firstE ss (xs.map plainG))) ∧ w.grownBy w' (some g) ∧ (firstE ss (xs.map plainG) = 0 → ∃ ks', ks'.length = ks.length ∧ RdI base w B g c ng nc xs ss sp w' ks' ks.length) := by
  have hpos : 0 < ks.length := by have := (List.getElem?_eq_some_iff.1 h0).1; omega
  obtain ⟨x0, hx0⟩ : ∃ x, ks[0]? = some x := ⟨_, List.getElem?_eq_getElem hpos⟩
  have HSP : Hid (∀ (ks' : List KindD) (Y : World) (m : Nat), RdI base w B g c ng nc xs ss sp Y ks' m → ks'.length = ks.length → ∀ (j : Nat) (x : KindD), 1 ≤ j → ks'[j]? = some x → ss[j]? = some x.1.expr) := fun ks' Y m h' hl j x h1 hx => by
    obtain ⟨y, hy⟩ : ∃ y, ks[j]? = some y := ⟨_, List.getElem?_eq_getElem (by have := (List.getElem?_eq_some_iff.1 hx).1; omega)⟩
    have e1 : (ks'.map (·.1))[j]? = (ks.map (·.1))[j]? := by rw [h'.spec, h.spec]
    rw [List.getElem?_map, List.getElem?_map, hx, hy] at e1
    have e2 : x.1 = y.1 := by simpa using e1
    rw [e2]
    exact hss j y h1 hy
  have HSZ : Hid (∀ (j : Nat) (s : ByteArray), ss[j]? = some s → s.size ≤ 9223372036854775807) := fun j s hs => hsz s (List.mem_of_getElem? hs)
  have HB : Hid (1 < base) := hbase
  have HXL : Hid (xs.length ≤ 1000) := hxl
  have HSL : Hid (ss.length = ks.length) := hsl
  have HFZ : Hid (∀ (Y : World) (ks' : List KindD), RdI base w B g c ng nc xs ss sp Y ks' ks.length → firstE ss (xs.map plainG) = 0) := fun Y ks' h' => firstE_zero ss _ (fun j q hq => h'.zero j q (by have := (List.getElem?_eq_some_iff.1 hq).1; omega) hq)
  have hBd : Below w.heap.size w w.drew := (Below.refl _ _).drew
  have HRD := Hid.mk_ (kread_calls base base g c 0 ks x0 whole w.drew ng nc xs (h.below hBd).row hx0 (h.below hBd).nms hxl (hsz _ (List.mem_of_getElem? h0)) (h.below hBd).ety)
  have HPOST : Hid (∀ (e : Ending) (Y : World), _ → e = .returned (.int .i64 (readE whole (xs.map plainG))) ∧ (Y.cell? ⟨B, 0, none⟩ = some (.slice (some ⟨g, 0, none⟩) ks.length c) ∧ Y.cell? ⟨B, 1, none⟩ = some (.slice (some ⟨ng, 0, none⟩) xs.length nc) ∧ True) ∧ RdQ base w B g c ng nc xs ss sp ks.length Y (readE whole (xs.map plainG)) 1) := fun e Y hp => by
    obtain ⟨r1, r2, r3⟩ := h.post hbase hx0 h0 hx0 hBd e Y hp
    exact ⟨r1, ⟨r2.1, r2.2.1, trivial⟩, r3⟩
  have hcs := h.cells
  have hli : (ks.length : Int) ≤ 1000 := by omega
  have hpi : (0 : Int) < (ks.length : Int) := by omega
  obtain ⟨f0, hf0⟩ : ∃ f0, f0 = readE whole (xs.map plainG) := ⟨_, rfl⟩
  rw [Nat.zero_mul, ← hf0] at HRD
  rw [← hf0] at HPOST
  clear h hss hsl hsz hbase hxl h0 hx0 hf0 hBd
  go_enter Tryz.func53, Tryz.ntmps53
  go_wp2_with fail
  refine wp_region_held_drew (S := fun X => X.cell? ⟨B, 0, none⟩ = some (.slice (some ⟨g, 0, none⟩) ks.length c) ∧ X.cell? ⟨B, 1, none⟩ = some (.slice (some ⟨ng, 0, none⟩) xs.length nc) ∧ True) hmx ⟨hcs.1, hcs.2, trivial⟩ (fun hS => ?_)
  refine takeD 0 (some 7) (v := ?_) rfl rfl (by kernel_rfl) (by kernel_rfl) (by kernel_rfl) (fun _ _ _ h => h) (Or.inl ⟨by rfl, ?_⟩) hS ?_
  rotate_left
  · intro w hSw
    try go_simp
    with_reducible rfl
  try simp only [Act.put, List.setIfInBounds_toArray, List.set_cons_zero, List.set_cons_succ]
  refine takeD 1 (some 8) (v := ?_) rfl rfl (by kernel_rfl) (by kernel_rfl) (by kernel_rfl) (fun _ _ _ h => h) (Or.inl ⟨by rfl, ?_⟩) hS ?_
  rotate_left
  · intro w hSw
    go_simp
    with_reducible rfl
  try simp only [Act.put, List.setIfInBounds_toArray, List.set_cons_zero, List.set_cons_succ]
  refine takeD 2 (some 9) (v := ?_) rfl rfl (by kernel_rfl) (by kernel_rfl) (by kernel_rfl) (fun _ _ _ h => h) (Or.inl ⟨by rfl, ?_⟩) hS ?_
  rotate_left
  · intro w hSw
    go_simp
    with_reducible rfl
  try simp only [Act.put, List.setIfInBounds_toArray, List.set_cons_zero, List.set_cons_succ]
  refine takeD 3 (some 10) (v := ?_) rfl rfl (by kernel_rfl) (by kernel_rfl) (by kernel_rfl) (fun _ _ _ h => h) (Or.inl ⟨by rfl, ?_⟩) hS ?_
  rotate_left
  · intro w hSw
    obtain ⟨k0, k1, k2⟩ := hSw
    go_simp
    with_reducible rfl
  try simp only [Act.put, List.setIfInBounds_toArray, List.set_cons_zero, List.set_cons_succ]
  refine takeD 4 (some 11) (v := ?_) rfl rfl (by kernel_rfl) (by kernel_rfl) (by kernel_rfl) (fun _ _ _ h => h) (Or.inl ⟨by rfl, ?_⟩) hS ?_
  rotate_left
  · intro w hSw
    go_simp
    with_reducible rfl
  try simp only [Act.put, List.setIfInBounds_toArray, List.set_cons_zero, List.set_cons_succ]
  refine takeD 5 (some 12) (v := ?_) rfl rfl (by kernel_rfl) (by kernel_rfl) (by kernel_rfl) (fun _ _ _ h => h) (Or.inl ⟨by rfl, ?_⟩) hS ?_
  rotate_left
  · intro w hSw
    try go_simp
    with_reducible rfl
  try simp only [Act.put, List.setIfInBounds_toArray, List.set_cons_zero, List.set_cons_succ]
  refine takeD 6 (some 13) (v := ?_) rfl rfl (by kernel_rfl) (by kernel_rfl) (by kernel_rfl) (fun _ _ _ h => h) (Or.inl ⟨by rfl, ?_⟩) hS ?_
  rotate_left
  · intro w hSw
    try go_simp
    with_reducible rfl
  try simp only [Act.put, List.setIfInBounds_toArray, List.set_cons_zero, List.set_cons_succ]
  refine takeD 7 (some 14) (v := ?_) rfl rfl (by kernel_rfl) (by kernel_rfl) (by kernel_rfl) (fun _ _ _ h => h) (Or.inl ⟨by rfl, ?_⟩) hS ?_
  rotate_left
  · intro w hSw
    go_simp
    with_reducible rfl
  try simp only [Act.put, List.setIfInBounds_toArray, List.set_cons_zero, List.set_cons_succ]
  refine takeD 8 (some 15) (v := ?_) rfl rfl (by kernel_rfl) (by kernel_rfl) (by kernel_rfl) (fun _ _ _ h => h) (Or.inl ⟨by rfl, ?_⟩) hS ?_
  rotate_left
  · intro w hSw
    go_simp
    with_reducible rfl
  try simp only [Act.put, List.setIfInBounds_toArray, List.set_cons_zero, List.set_cons_succ]
  refine takeD 9 (some 16) (v := ?_) rfl rfl (by kernel_rfl) (by kernel_rfl) (by kernel_rfl) (fun _ _ _ h => h) (Or.inl ⟨by rfl, ?_⟩) hS ?_
  rotate_left
  · intro w hSw
    obtain ⟨k0, k1, k2⟩ := hSw
    go_simp
    with_reducible rfl
  try simp only [Act.put, List.setIfInBounds_toArray, List.set_cons_zero, List.set_cons_succ]
  refine callD 10 (by kernel_rfl) rfl (fun K hK => ?_)
  rw [if_pos (by rfl)]
  go_simp
  refine HRD.out.mono ?_
  rintro e Y hpost
  obtain ⟨rfl, hSY, hpost⟩ := HPOST.out e Y hpost
  have HQ := Hid.mk_ hpost
  clear hpost
  refine hK.out _ _ hSY (fun _ => ?_)
  clear hK K
  try simp only [Act.put, List.setIfInBounds_toArray, List.set_cons_zero, List.set_cons_succ]
  refine takeD 11 (some 5) (v := ?_) rfl rfl (by kernel_rfl) (by kernel_rfl) (by kernel_rfl) (fun _ _ _ h => h) (Or.inl ⟨by rfl, ?_⟩) hSY ?_
  rotate_left
  · intro w hSw
    try go_simp
    with_reducible rfl
  try simp only [Act.put, List.setIfInBounds_toArray, List.set_cons_zero, List.set_cons_succ]
  refine wpAnyH_done (by kernel_rfl) ?_ _
  go_wp2
  clear HRD HPOST hcs hSY hS
  go_loopg [5, 6] (ks.length + 1) (fun gk u v wr => ∃ (i : Nat) (f : Int), 1 ≤ i ∧ ks.length < i + gk ∧ u = .int .i64 f ∧ v = .int .i64 (i : Int) ∧ i ≤ ks.length ∧ RdQ base w B g c ng nc xs ss sp ks.length wr f i)
  case atStart => exact ⟨1, f0, by omega, by omega, rfl, rfl, by omega, HQ.out⟩
  case round =>
    obtain ⟨i, f, hi1, hgk, rfl, rfl, hin, hq⟩ := hrel
    clear HQ
    obtain ⟨hgr, hcb, hq⟩ := hq
    by_cases hlt : i < ks.length
    · have hdi : decide ((i : Int) < (ks.length : Int)) = true := by simp; omega
      have hii : (i : Int) < (ks.length : Int) := by omega
      have hi0 : (0 : Int) ≤ (i : Int) := by omega
      rcases hq with ⟨rfl, ks1, hl1, hI⟩ | ⟨hf, hfe⟩
      · have hf0 : ((0 : Int) == 0) = true := rfl
        obtain ⟨x, hx⟩ : ∃ x, ks1[i]? = some x := ⟨_, List.getElem?_eq_getElem (by omega)⟩
        have hs := HSP.out ks1 wr i hI hl1 i x hi1 hx
        have hBd : Below wr.heap.size wr wr.drew := (Below.refl _ _).drew
        have HRD := Hid.mk_ (kread_calls base base g c i ks1 x x.1.expr wr.drew ng nc xs (hI.below hBd).row hx (hI.below hBd).nms HXL.out (HSZ.out i _ hs) (hI.below hBd).ety)
        have HPOST : Hid (∀ (e : Ending) (Y : World), _ → e = .returned (.int .i64 (readE x.1.expr (xs.map plainG))) ∧ (Y.cell? ⟨B, 0, none⟩ = some (.slice (some ⟨g, 0, none⟩) ks.length c) ∧ Y.cell? ⟨B, 1, none⟩ = some (.slice (some ⟨ng, 0, none⟩) xs.length nc) ∧ Y.cell? ⟨g, i * 10 + 1, none⟩ = some (.string x.1.expr)) ∧ RdQ base w B g c ng nc xs ss sp ks.length Y (readE x.1.expr (xs.map plainG)) (i + 1)) := fun e Y hp => by
          obtain ⟨r1, r2, r3⟩ := hI.post HB.out hx hs hx hBd e Y hp
          rw [hl1] at r2 r3
          exact ⟨r1, r2, r3⟩
        have hcs := hI.cells
        have hce := hI.expr hx
        rw [hl1] at hcs HRD
        rw [hl1] at HPOST
        obtain ⟨f1, hf1⟩ : ∃ f1, f1 = readE x.1.expr (xs.map plainG) := ⟨_, rfl⟩
        rw [← hf1] at HRD HPOST
        obtain ⟨ex, hex⟩ : ∃ ex, ex = x.1.expr := ⟨_, rfl⟩
        rw [← hex] at HRD HPOST hce
        clear hI hx hs hf1 hex hBd hgr hcb
        obtain ⟨k0, k1⟩ := hcs
        go_wp2_with fail
        refine wp_region_held_drew (S := fun X => X.cell? ⟨B, 0, none⟩ = some (.slice (some ⟨g, 0, none⟩) ks.length c) ∧ X.cell? ⟨B, 1, none⟩ = some (.slice (some ⟨ng, 0, none⟩) xs.length nc) ∧ X.cell? ⟨g, i * 10 + 1, none⟩ = some (.string ex)) hmx ⟨k0, k1, hce⟩ (fun hS => ?_)
        refine takeD 0 (some 31) (v := ?_) rfl rfl (by kernel_rfl) (by kernel_rfl) (by kernel_rfl) (fun _ _ _ h => h) (Or.inl ⟨by rfl, ?_⟩) hS ?_
        rotate_left
        · intro w hSw
          try go_simp
          with_reducible rfl
        try simp only [Act.put, List.setIfInBounds_toArray, List.set_cons_zero, List.set_cons_succ]
        refine takeD 1 (some 32) (v := ?_) rfl rfl (by kernel_rfl) (by kernel_rfl) (by kernel_rfl) (fun _ _ _ h => h) (Or.inl ⟨by rfl, ?_⟩) hS ?_
        rotate_left
        · intro w hSw
          go_simp
          with_reducible rfl
        try simp only [Act.put, List.setIfInBounds_toArray, List.set_cons_zero, List.set_cons_succ]
        refine takeD 2 (some 33) (v := ?_) rfl rfl (by kernel_rfl) (by kernel_rfl) (by kernel_rfl) (fun _ _ _ h => h) (Or.inl ⟨by rfl, ?_⟩) hS ?_
        rotate_left
        · intro w hSw
          go_simp
          with_reducible rfl
        try simp only [Act.put, List.setIfInBounds_toArray, List.set_cons_zero, List.set_cons_succ]
        refine takeD 3 (some 34) (v := ?_) rfl rfl (by kernel_rfl) (by kernel_rfl) (by kernel_rfl) (fun _ _ _ h => h) (Or.inl ⟨by rfl, ?_⟩) hS ?_
        rotate_left
        · intro w hSw
          obtain ⟨k0, k1, k2⟩ := hSw
          go_simp
          with_reducible rfl
        try simp only [Act.put, List.setIfInBounds_toArray, List.set_cons_zero, List.set_cons_succ]
        refine takeD 4 (some 35) (v := ?_) rfl rfl (by kernel_rfl) (by kernel_rfl) (by kernel_rfl) (fun _ _ _ h => h) (Or.inl ⟨by rfl, ?_⟩) hS ?_
        rotate_left
        · intro w hSw
          try go_simp
          with_reducible rfl
        try simp only [Act.put, List.setIfInBounds_toArray, List.set_cons_zero, List.set_cons_succ]
        refine takeD 5 (some 36) (v := ?_) rfl rfl (by kernel_rfl) (by kernel_rfl) (by kernel_rfl) (fun _ _ _ h => h) (Or.inl ⟨by rfl, ?_⟩) hS ?_
        rotate_left
        · intro w hSw
          go_simp
          with_reducible rfl
        try simp only [Act.put, List.setIfInBounds_toArray, List.set_cons_zero, List.set_cons_succ]
        refine takeD 6 (some 37) (v := ?_) rfl rfl (by kernel_rfl) (by kernel_rfl) (by kernel_rfl) (fun _ _ _ h => h) (Or.inl ⟨by rfl, ?_⟩) hS ?_
        rotate_left
        · intro w hSw
          try go_simp
          with_reducible rfl
        try simp only [Act.put, List.setIfInBounds_toArray, List.set_cons_zero, List.set_cons_succ]
        refine takeD 7 (some 38) (v := ?_) rfl rfl (by kernel_rfl) (by kernel_rfl) (by kernel_rfl) (fun _ _ _ h => h) (Or.inl ⟨by rfl, ?_⟩) hS ?_
        rotate_left
        · intro w hSw
          go_simp
          with_reducible rfl
        try simp only [Act.put, List.setIfInBounds_toArray, List.set_cons_zero, List.set_cons_succ]
        refine takeD 8 (some 39) (v := ?_) rfl rfl (by kernel_rfl) (by kernel_rfl) (by kernel_rfl) (fun _ _ _ h => h) (Or.inl ⟨by rfl, ?_⟩) hS ?_
        rotate_left
        · intro w hSw
          go_simp
          with_reducible rfl
        try simp only [Act.put, List.setIfInBounds_toArray, List.set_cons_zero, List.set_cons_succ]
        refine takeD 9 (some 40) (v := ?_) rfl rfl (by kernel_rfl) (by kernel_rfl) (by kernel_rfl) (fun _ _ _ h => h) (Or.inl ⟨by rfl, ?_⟩) hS ?_
        rotate_left
        · intro w hSw
          obtain ⟨k0, k1, k2⟩ := hSw
          go_simp
          with_reducible rfl
        try simp only [Act.put, List.setIfInBounds_toArray, List.set_cons_zero, List.set_cons_succ]
        refine takeD 10 (some 41) (v := ?_) rfl rfl (by kernel_rfl) (by kernel_rfl) (by kernel_rfl) (fun _ _ _ h => h) (Or.inl ⟨by rfl, ?_⟩) hS ?_
        rotate_left
        · intro w hSw
          try go_simp
          with_reducible rfl
        try simp only [Act.put, List.setIfInBounds_toArray, List.set_cons_zero, List.set_cons_succ]
        refine takeD 11 (some 42) (v := ?_) rfl rfl (by kernel_rfl) (by kernel_rfl) (by kernel_rfl) (fun _ _ _ h => h) (Or.inl ⟨by rfl, ?_⟩) hS ?_
        rotate_left
        · intro w hSw
          go_simp
          with_reducible rfl
        try simp only [Act.put, List.setIfInBounds_toArray, List.set_cons_zero, List.set_cons_succ]
        refine takeD 12 (some 43) (v := ?_) rfl rfl (by kernel_rfl) (by kernel_rfl) (by kernel_rfl) (fun _ _ _ h => h) (Or.inl ⟨by rfl, ?_⟩) hS ?_
        rotate_left
        · intro w hSw
          go_simp
          with_reducible rfl
        try simp only [Act.put, List.setIfInBounds_toArray, List.set_cons_zero, List.set_cons_succ]
        refine takeD 13 (some 44) (v := ?_) rfl rfl (by kernel_rfl) (by kernel_rfl) (by kernel_rfl) (fun _ _ _ h => h) (Or.inl ⟨by rfl, ?_⟩) hS ?_
        rotate_left
        · intro w hSw
          go_simp
          with_reducible rfl
        try simp only [Act.put, List.setIfInBounds_toArray, List.set_cons_zero, List.set_cons_succ]
        refine takeD 14 (some 45) (v := ?_) rfl rfl (by kernel_rfl) (by kernel_rfl) (by kernel_rfl) (fun _ _ _ h => h) (Or.inl ⟨by rfl, ?_⟩) hS ?_
        rotate_left
        · intro w hSw
          obtain ⟨k0, k1, k2⟩ := hSw
          go_simp
          with_reducible rfl
        try simp only [Act.put, List.setIfInBounds_toArray, List.set_cons_zero, List.set_cons_succ]
        refine takeD 15 (some 46) (v := ?_) rfl rfl (by kernel_rfl) (by kernel_rfl) (by kernel_rfl) (fun _ _ _ h => h) (Or.inl ⟨by rfl, ?_⟩) hS ?_
        rotate_left
        · intro w hSw
          try go_simp
          with_reducible rfl
        try simp only [Act.put, List.setIfInBounds_toArray, List.set_cons_zero, List.set_cons_succ]
        refine takeD 16 (some 47) (v := ?_) rfl rfl (by kernel_rfl) (by kernel_rfl) (by kernel_rfl) (fun _ _ _ h => h) (Or.inl ⟨by rfl, ?_⟩) hS ?_
        rotate_left
        · intro w hSw
          go_simp
          with_reducible rfl
        try simp only [Act.put, List.setIfInBounds_toArray, List.set_cons_zero, List.set_cons_succ]
        refine takeD 17 (some 48) (v := ?_) rfl rfl (by kernel_rfl) (by kernel_rfl) (by kernel_rfl) (fun _ _ _ h => h) (Or.inl ⟨by rfl, ?_⟩) hS ?_
        rotate_left
        · intro w hSw
          go_simp
          with_reducible rfl
        try simp only [Act.put, List.setIfInBounds_toArray, List.set_cons_zero, List.set_cons_succ]
        refine takeD 18 (some 49) (v := ?_) rfl rfl (by kernel_rfl) (by kernel_rfl) (by kernel_rfl) (fun _ _ _ h => h) (Or.inl ⟨by rfl, ?_⟩) hS ?_
        rotate_left
        · intro w hSw
          obtain ⟨k0, k1, k2⟩ := hSw
          go_simp
          with_reducible rfl
        try simp only [Act.put, List.setIfInBounds_toArray, List.set_cons_zero, List.set_cons_succ]
        refine callD 19 (by kernel_rfl) rfl (fun K hK => ?_)
        rw [if_pos (by rfl)]
        go_simp
        refine HRD.out.mono ?_
        rintro e Y hpost
        obtain ⟨rfl, hSY, hpost⟩ := HPOST.out e Y hpost
        have HQ := Hid.mk_ hpost
        clear hpost
        refine hK.out _ _ hSY (fun _ => ?_)
        clear hK K
        try simp only [Act.put, List.setIfInBounds_toArray, List.set_cons_zero, List.set_cons_succ]
        refine takeD 20 (some 5) (v := ?_) rfl rfl (by kernel_rfl) (by kernel_rfl) (by kernel_rfl) (fun _ _ _ h => h) (Or.inl ⟨by rfl, ?_⟩) hSY ?_
        rotate_left
        · intro w hSw
          try go_simp
          with_reducible rfl
        try simp only [Act.put, List.setIfInBounds_toArray, List.set_cons_zero, List.set_cons_succ]
        refine wpAnyH_done (by kernel_rfl) ?_ _
        go_wp2
        go_roundg (ks.length - i)
        case measure => omega
        case rel => exact ⟨i + 1, _, by omega, by omega, rfl, by first | rfl | go_num, by omega, HQ.out⟩
      · have hf0 : (f == 0) = false := by simpa using hf
        have HE : Hid (firstE ss (xs.map plainG) = f ∧ w.grownBy wr (some g)) := ⟨hfe, hgr⟩
        clear hfe hgr
        go_wp2
        go_ret
        exact ⟨by rw [HE.out.1]; rfl, HE.out.2, fun e => absurd (HE.out.1.symm.trans e) hf⟩
    · have hie : i = ks.length := by omega
      subst hie
      have hdi : decide ((ks.length : Int) < (ks.length : Int)) = false := by simp
      have HE : Hid (firstE ss (xs.map plainG) = f ∧ w.grownBy wr (some g) ∧ (firstE ss (xs.map plainG) = 0 → ∃ ks', ks'.length = ks.length ∧ RdI base w B g c ng nc xs ss sp wr ks' ks.length)) := by
        rcases hq with ⟨rfl, ks1, hl1, hI⟩ | ⟨hf, hfe⟩
        · exact ⟨HFZ.out wr ks1 hI, hgr, fun _ => ⟨ks1, hl1, hI⟩⟩
        · exact ⟨hfe, hgr, fun e => absurd (hfe.symm.trans e) hf⟩
      clear hq hgr
      go_wp2
      go_ret
      exact ⟨by rw [HE.out.1]; rfl, HE.out.2⟩
end Go.Proofs.YtgkplmnhmobnnaaGreatDoor
