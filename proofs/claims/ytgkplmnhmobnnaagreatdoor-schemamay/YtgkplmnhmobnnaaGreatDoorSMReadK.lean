/-
  PROVED HERE: schema's read of a kind's tree: what it returns, and the row of kinds behind it.
-/
import Derived.Test.YtgkplmnhmobnnaaGreatDoorSM7
import Derived.Test.YtgkplmnhmobnnaaGreatDoorSM23
import Derived.Test.YtgkplmnhmobnnaaGreatDoorSM24
import Derived.Test.YtgkplmnhmobnnaaGreatDoorSM8
import Derived.Test.YtgkplmnhmobnnaaGreatDoorSM27
namespace Go.Proofs.YtgkplmnhmobnnaaGreatDoor
open Go.RowKit

theorem row_setb {w : World} {base : Nat} {e : TypeId} {sz g n cap : Nat} {xs : List Value} (h : w.ownsRow base e sz (.slice (some ⟨g, 0, none⟩) n cap) n xs) (k : Nat) (u : Value) : (w.setCell ⟨g, k, none⟩ u).ownsRow base e sz (.slice (some ⟨g, 0, none⟩) n cap) n (xs.set k u) := by
  obtain ⟨h1, h2⟩ := h
  refine ⟨by rw [List.length_set]; exact h1, ?_⟩
  rcases h2 with ⟨e1, _⟩ | ⟨g', cap', cur, e1, hb, hg, h3, h4, h5, h6⟩
  · cases e1
  · cases e1
    refine .inr ⟨g, cap, cur.setIfInBounds k u, rfl, hb, heap_setCell_same w g k cur e u hg, h3, h4, by simpa using h5, ?_⟩
    rw [Array.toList_setIfInBounds, List.take_set, h6]
/-- What comes of an expression with these names. -/
def readE (s : ByteArray) (gs : List Grp) : Int := if outE s ≠ 0 then outE s else chk 200 (outTree s) gs
theorem set_three (l r : List Value) (a b c : Value) (x y z u v w p : Value) (hl : l = [x, y, z, u, v, w, p]) : ∀ (d e f : Value), ((((l ++ [d, e, f]) ++ r).set 7 a).set 8 b).set 9 c = (l ++ [a, b, c]) ++ r := by
  intro d e f
  subst hl
  rfl
theorem flatK_tree : ∀ (ks : List KindD) (i : Nat) (x : KindD) (r : Raw), ks[i]? = some x → (((flatK ks).set (i * 10 + 7) (.int .i64 r.1)).set (i * 10 + 7 + 1) (.string r.2.1)).set (i * 10 + 7 + 2) (.slice r.2.2.1 r.2.2.2.1 r.2.2.2.2) = flatK (ks.set i (x.1, r.1, r.2.1, r.2.2.1, r.2.2.2.1, r.2.2.2.2)) := by
  intro ks
  induction ks with
  | nil => intro i x r h; simp at h
  | cons y q ih =>
    intro i x r h
    cases i with
    | zero =>
      simp only [List.getElem?_cons_zero, Option.some.injEq] at h
      subst h
      rw [List.set_cons_zero, flatK, flatK]
      exact set_three (specC y.1) (flatK q) _ _ _ _ _ _ _ _ _ _ rfl _ _ _
    | succ i =>
      rw [List.getElem?_cons_succ] at h
      rw [List.set_cons_succ, flatK, flatK, ← ih i x r h]
      have e : ∀ (L : List Value) (k : Nat) (v : Value), (kindC y ++ L).set ((i + 1) * 10 + 7 + k) v = kindC y ++ L.set (i * 10 + 7 + k) v := fun L k v => by
        rw [List.set_append_right _ _ (by rw [kindC_length]; omega), kindC_length]
        congr 2
        omega
      have e0 := e (flatK q) 0 (.int .i64 r.1)
      rw [Nat.add_zero, Nat.add_zero] at e0
      rw [e0, e _ 1, e _ 2]
theorem Nms.grown {base : Nat} {W W' : World} {v : Value} {xs : List GrpD} {g : Nat} {c : Array Value} {f : Nat × Nat} (h : Nms base W v xs) (hg : W.grownBy W' (some g)) (hk : W.heap[g]? = some (.cells c 76 f)) : Nms base W' v xs := by
  have hne : ∀ (k : Nat) c' t f', W.heap[k]? = some (.cells c' t f') → t ≠ 76 → some k ≠ some g := fun k c' t f' hk' ht e => by
    injection e with e
    subst e
    rw [hk] at hk'
    injection hk' with hk'
    injection hk' with _ h2 _
    exact ht h2.symm
  refine ⟨owns_same h.row fun k hk' => ?_, fun x hx => ⟨owns_same (h.ok x hx).1 fun k hk' => ?_, (h.ok x hx).2⟩⟩
  · obtain ⟨hl, cur, hcur⟩ := owns_lt h.row hk'
    exact hg.block k hl (hne k cur _ _ hcur (by decide))
  · obtain ⟨hl, cur, hcur⟩ := owns_lt (h.ok x hx).1 hk'
    exact hg.block k hl (hne k cur _ _ hcur (by decide))
theorem grown_below {w w' : World} {g : Nat} (h : Below w.heap.size w w') : w.grownBy w' (some g) := ⟨h.os, h.tape, h.output, h.size, fun k hk _ => h.block k hk⟩
theorem grown_trans {w w' w'' : World} {g : Option Nat} (h : w.grownBy w' g) (h' : w'.grownBy w'' g) : w.grownBy w'' g := ⟨h'.os.trans h.os, h'.tape.trans h.tape, h'.output.trans h.output, Nat.le_trans h.size h'.size, fun k hk hne => (h'.block k (Nat.lt_of_lt_of_le hk h.size) hne).trans (h.block k hk hne)⟩
theorem grown_set (w : World) (g o : Nat) (u : Value) : w.grownBy (w.setCell ⟨g, o, none⟩ u) (some g) := ⟨rfl, rfl, rfl, Nat.le_of_eq (by simp), fun k _ hne => Below.heap_setCell w _ u k (fun e => hne (by rw [e]))⟩
set_option maxRecDepth 100000 in
set_option maxHeartbeats 600000 in
theorem kread_calls (base base' g c i : Nat) (ks : List KindD) (x : KindD) (s : ByteArray) (w : World) (ng nc : Nat) (xs : List GrpD) (hown : w.ownsRow base 76 10 (.slice (some ⟨g, 0, none⟩) ks.length c) ks.length (flatK ks)) (hx : ks[i]? = some x) (hN : Nms base' w (.slice (some ⟨ng, 0, none⟩) xs.length nc) xs) (hxl : xs.length ≤ 1000) (hs : s.size ≤ 9223372036854775807) (hE : ETy w) :
    Calls Tryz.prog 83 #[.pointer (some ⟨g, i * 10, none⟩), .string s, .slice (some ⟨ng, 0, none⟩) xs.length nc] w fun e w' => e = .returned (.int .i64 (readE s (xs.map plainG))) ∧ w.grownBy w' (some g) ∧ ∃ ks' : List KindD, ks'.map (·.1) = ks.map (·.1) ∧ w'.ownsRow base 76 10 (.slice (some ⟨g, 0, none⟩) ks.length c) ks.length (flatK ks') ∧ (readE s (xs.map plainG) = 0 → ∃ r : Raw, ks' = ks.set i (x.1, r.1, r.2.1, r.2.2.1, r.2.2.2.1, r.2.2.2.2) ∧ ExA (fun b => w.heap.size ≤ b) w' 200 (outTree s) (rawV r)) := by
  have hP := parsea_calls s hs w hE
  have hg := (owns_lt hown (g := g) rfl)
  obtain ⟨f, hf⟩ : ∃ f, f = outE s := ⟨_, rfl⟩
  by_cases h0 : f ≠ 0
  · have HP : Hid (Calls Tryz.prog 112 #[.string s] w fun e w' => Below w.heap.size w w' ∧ ∃ (k : Int) (nm : ByteArray) (a : Option Addr) (ln cp : Nat) (pn : Int), e = .returned (.tuple #[.agg #[.int .i64 k, .string nm, .slice a ln cp], .int .i64 pn, .int .i64 f])) := by
      refine hP.mono ?_
      rintro e w' ⟨h1, ⟨k, nm, a, ln, cp⟩, _, rfl⟩
      exact ⟨h1, k, nm, a, ln, cp, _, by rw [hf]; rfl⟩
    have e0 : (f == 0) = false := by simpa using h0
    have e1 : (f != 0) = true := by simp [bne, e0]
    have HR : Hid (readE s (xs.map plainG) = f) := by
      show readE s (xs.map plainG) = f
      unfold readE
      rw [← hf, if_pos h0]
    have HOW : Hid (∀ X, Below w.heap.size w X → X.ownsRow base 76 10 (.slice (some ⟨g, 0, none⟩) ks.length c) ks.length (flatK ks)) := fun X hX => owns_same hown fun k hk => hX.block k (owns_lt hown hk).1
    clear hP hg hown hN hx hs hE hf
    go_enter Tryz.func83, Tryz.ntmps83
    go_wp2_with fail
    refine HP.out.mono ?_
    rintro e W ⟨hB, k, nm, a, ln, cp, pn, rfl⟩
    have HB : Hid (w.grownBy (W.alloc (.cells #[.int .i64 k, .string nm, .slice a ln cp] 64)) (some g) ∧ (W.alloc (.cells #[.int .i64 k, .string nm, .slice a ln cp] 64)).ownsRow base 76 10 (.slice (some ⟨g, 0, none⟩) ks.length c) ks.length (flatK ks)) := ⟨grown_below (hB.alloc hB.size _), HOW.out _ (hB.alloc hB.size _)⟩
    clear hB HP
    go_wp2
    go_ret
    exact ⟨by rw [HR.out]; rfl, HB.out.1, ks, rfl, HB.out.2, fun h => absurd (HR.out.symm.trans h) h0⟩
  · have h0 : f = 0 := Classical.not_not.1 h0
    subst h0
    have HP : Hid (Calls Tryz.prog 112 #[.string s] w fun e w' => Below w.heap.size w w' ∧ ∃ (k : Int) (nm : ByteArray) (a : Option Addr) (ln cp : Nat) (pn : Int), ExA (fun b => w.heap.size ≤ b) w' 200 (outTree s) (rawV (k, nm, a, ln, cp)) ∧ e = .returned (.tuple #[.agg #[.int .i64 k, .string nm, .slice a ln cp], .int .i64 pn, .int .i64 0])) := by
      refine hP.mono ?_
      rintro e w' ⟨h1, ⟨k, nm, a, ln, cp⟩, h2, rfl⟩
      exact ⟨h1, k, nm, a, ln, cp, _, h2, by rw [← hf]; rfl⟩
    have HR : Hid (readE s (xs.map plainG) = chk 200 (outTree s) (xs.map plainG)) := by
      show readE s (xs.map plainG) = chk 200 (outTree s) (xs.map plainG)
      unfold readE
      rw [← hf, if_neg (by simp)]
    have HMAIN : Hid (∀ (W : World) (k : Int) (nm : ByteArray) (a : Option Addr) (ln cp : Nat), Below w.heap.size w W → ExA (fun b => w.heap.size ≤ b) W 200 (outTree s) (rawV (k, nm, a, ln, cp)) → ∀ V, V = W.alloc (.cells #[.int .i64 k, .string nm, .slice a ln cp] 64) → (∃ v0, V.cell? ⟨g, i * 10 + 7, none⟩ = some v0) ∧ (∃ v1, (V.setCell ⟨g, i * 10 + 7, none⟩ (.int .i64 k)).cell? ⟨g, i * 10 + 7 + 1, none⟩ = some v1) ∧ (∃ v2, ((V.setCell ⟨g, i * 10 + 7, none⟩ (.int .i64 k)).setCell ⟨g, i * 10 + 7 + 1, none⟩ (.string nm)).cell? ⟨g, i * 10 + 7 + 2, none⟩ = some v2) ∧ (V.frozen? ⟨g, i * 10 + 7, none⟩ = false ∧ (V.setCell ⟨g, i * 10 + 7, none⟩ (.int .i64 k)).frozen? ⟨g, i * 10 + 7 + 1, none⟩ = false ∧ ((V.setCell ⟨g, i * 10 + 7, none⟩ (.int .i64 k)).setCell ⟨g, i * 10 + 7 + 1, none⟩ (.string nm)).frozen? ⟨g, i * 10 + 7 + 2, none⟩ = false) ∧
        ∀ Z, Z = (((V.setCell ⟨g, i * 10 + 7, none⟩ (.int .i64 k)).setCell ⟨g, i * 10 + 7 + 1, none⟩ (.string nm)).setCell ⟨g, i * 10 + 7 + 2, none⟩ (.slice a ln cp)) → Z.cell? ⟨W.heap.size, 0, none⟩ = some (.int .i64 k) ∧ Z.cell? ⟨W.heap.size, 1, none⟩ = some (.string nm) ∧ Z.cell? ⟨W.heap.size, 2, none⟩ = some (.slice a ln cp) ∧ Calls Tryz.prog 105 #[.agg #[.int .i64 k, .string nm, .slice a ln cp], .slice (some ⟨ng, 0, none⟩) xs.length nc] Z fun e w' => e = .returned (.int .i64 (chk 200 (outTree s) (xs.map plainG))) ∧ w.grownBy w' (some g) ∧ ∃ r : Raw, w'.ownsRow base 76 10 (.slice (some ⟨g, 0, none⟩) ks.length c) ks.length (flatK (ks.set i (x.1, r.1, r.2.1, r.2.2.1, r.2.2.2.1, r.2.2.2.2))) ∧ ExA (fun b => w.heap.size ≤ b) w' 200 (outTree s) (rawV r)) := by
      intro W k nm a ln cp hB hX V hV
      have hBV : Below w.heap.size w V := by rw [hV]; exact hB.alloc hB.size _
      have hOV : V.ownsRow base 76 10 (.slice (some ⟨g, 0, none⟩) ks.length c) ks.length (flatK ks) := owns_same hown fun k hk => hBV.block k (owns_lt hown hk).1
      have hil : i < ks.length := (List.getElem?_eq_some_iff.1 hx).1
      have cell : ∀ (Y : World) (L : List Value) (q : Nat), Y.ownsRow base 76 10 (.slice (some ⟨g, 0, none⟩) ks.length c) ks.length L → q < ks.length * 10 → ∃ v, Y.cell? ⟨g, q, none⟩ = some v := fun Y L q hY hq => by
        obtain ⟨g', cap', e, hc⟩ := owns_cell hY (by omega)
        injection e with e1
        injection e1 with e1
        injection e1 with e1
        subst e1
        have hl := hY.1
        exact ⟨_, hc q _ (List.getElem?_eq_getElem (by rw [hl]; exact hq))⟩
      have froz : ∀ (Y : World) (L : List Value) (q : Nat), Y.ownsRow base 76 10 (.slice (some ⟨g, 0, none⟩) ks.length c) ks.length L → Y.frozen? ⟨g, q, none⟩ = false := fun Y L q hY => by
        obtain ⟨_, cur, hcur⟩ := owns_lt hY (g := g) rfl
        simp [World.frozen?, hcur]
      have o1 := row_setb hOV (i * 10 + 7) (.int .i64 k)
      have o2 := row_setb o1 (i * 10 + 7 + 1) (.string nm)
      have o3 := row_setb o2 (i * 10 + 7 + 2) (.slice a ln cp)
      rw [flatK_tree ks i x (k, nm, a, ln, cp) hx] at o3
      refine ⟨cell _ _ _ hOV (by omega), cell _ _ _ o1 (by omega), cell _ _ _ o2 (by omega), ⟨froz _ _ _ hOV, froz _ _ _ o1, froz _ _ _ o2⟩, fun Z hZ => ?_⟩
      rw [← hZ] at o3
      have gVZ : V.grownBy Z (some g) := by
        rw [hZ]
        exact grown_trans (grown_trans (grown_set _ _ _ _) (grown_set _ _ _ _)) (grown_set _ _ _ _)
      have gwZ : w.grownBy Z (some g) := grown_trans (grown_below hBV) gVZ
      have mV : V.heap[W.heap.size]? = some (.cells #[.int .i64 k, .string nm, .slice a ln cp] 64 (0, 0)) := by rw [hV]; exact World.alloc_heap_new W _
      have hgW : g < W.heap.size := Nat.lt_of_lt_of_le hg.1 hB.size
      have mZ : Z.heap[W.heap.size]? = some (.cells #[.int .i64 k, .string nm, .slice a ln cp] 64 (0, 0)) := (gVZ.block _ (Array.getElem?_eq_some_iff.1 mV).1 (by intro e; injection e with e; omega)).trans mV
      have hc := fun j => cell_of_row Z W.heap.size j _ _ _ mZ
      have hXZ : ExA (fun b => w.heap.size ≤ b) Z 200 (outTree s) (rawV (k, nm, a, ln, cp)) := by
        have hXV : ExA (fun b => w.heap.size ≤ b) V 200 (outTree s) (rawV (k, nm, a, ln, cp)) := ExA.kept (by rw [hV]; simp) (fun b hb hA => ⟨hA, by rw [hV]; exact Below.heap_alloc W _ _ hb⟩) _ _ _ hX
        exact ExA.kept gVZ.size (fun b hb hA => ⟨hA, gVZ.block b hb (by intro e; injection e with e; omega)⟩) _ _ _ hXV
      obtain ⟨_, cur, hcur⟩ := owns_lt hOV (g := g) rfl
      have hNZ : Nms base' Z (.slice (some ⟨ng, 0, none⟩) xs.length nc) xs := by
        have hNV : Nms base' V (.slice (some ⟨ng, 0, none⟩) xs.length nc) xs := hN.below hBV
        exact hNV.grown gVZ hcur
      refine ⟨hc 0, hc 1, hc 2, ?_⟩
      refine (rcheck_calls 200 (outTree s) _ (some ⟨ng, 0, none⟩) xs.length nc (xs.map plainG) Z (ExA.ex _ _ _ hXZ) (out_named s) (hNZ.groups rfl (by omega))).mono ?_
      rintro e w' ⟨rfl, hB'⟩
      refine ⟨rfl, grown_trans gwZ (grown_below hB'), (k, nm, a, ln, cp), owns_same o3 fun q hq => hB'.block q (owns_lt o3 hq).1, ?_⟩
      exact ExA.kept hB'.size (fun b hb hA => ⟨hA, hB'.block b hb⟩) _ _ _ hXZ
    have HSET : Hid (∀ r : Raw, (ks.set i (x.1, r.1, r.2.1, r.2.2.1, r.2.2.2.1, r.2.2.2.2)).map (·.1) = ks.map (·.1)) := fun r => by
      rw [List.map_set]
      refine List.ext_getElem? fun q => ?_
      rw [List.getElem?_set]
      split
      · rename_i e'
        subst e'
        rw [List.length_map, if_pos (List.getElem?_eq_some_iff.1 hx).1, List.getElem?_map, hx]
        rfl
      · rfl
    clear hP hown hN hx hs hE hf hg
    have hf0 : ((0 : Int) != 0) = false := rfl
    go_enter Tryz.func83, Tryz.ntmps83
    go_wp2_with fail
    refine HP.out.mono ?_
    rintro e W ⟨hB, k, nm, a, ln, cp, pn, hX, rfl⟩
    obtain ⟨⟨v0, hv0⟩, ⟨v1, hv1⟩, ⟨v2, hv2⟩, ⟨f0, f1, f2⟩, hZ⟩ := HMAIN.out W k nm a ln cp hB hX _ rfl
    obtain ⟨z0, z1, z2, HC⟩ := hZ _ rfl
    clear hB hX HP HMAIN hZ
    go_wp2_with fail
    refine HC.mono ?_
    rintro e W3 ⟨rfl, h1, h2⟩
    have HE : Hid (w.grownBy W3 (some g) ∧ ∃ r : Raw, W3.ownsRow base 76 10 (.slice (some ⟨g, 0, none⟩) ks.length c) ks.length (flatK (ks.set i (x.1, r.1, r.2.1, r.2.2.1, r.2.2.2.1, r.2.2.2.2))) ∧ ExA (fun b => w.heap.size ≤ b) W3 200 (outTree s) (rawV r)) := ⟨h1, h2⟩
    clear h1 h2 HC
    go_wp2
    go_ret
    obtain ⟨q1, r, q2, q3⟩ := HE.out
    exact ⟨by rw [HR.out]; rfl, q1, _, HSET.out r, q2, fun _ => ⟨r, rfl, q3⟩⟩
end Go.Proofs.YtgkplmnhmobnnaaGreatDoor
