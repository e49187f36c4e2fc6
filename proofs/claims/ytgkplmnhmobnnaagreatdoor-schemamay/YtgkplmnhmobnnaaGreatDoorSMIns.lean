/-
  PROVED HERE: slices.BinarySearch and slices.Insert (of one) at integers: what they return; only the row itself is turned.
-/
import Derived.Test.YtgkplmnhmobnnaaGreatDoorSM23
import Derived.Shelf.Spec.SlicesInsertGrow
import Derived.Shelf.Slices.SearchI
namespace Go.Proofs.YtgkplmnhmobnnaaGreatDoor
open Go.RowKit

def iren : Go.Shelf.Ren := ⟨fun | 21 => 40 | 27 => 75 | 28 => 76 | 35 => 104 | 39 => 130 | n => n, fun | 22 => 57 | 3 => 3 | 4 => 4 | 0 => 0 | n => n, fun | n => n⟩
theorem ilays : Go.Proofs.Lays2.n21 Tryz.prog iren := {
  mixed := by kernel_rfl
  f21 := Tryz.func40.trans (congrArg some (by kernel_rfl))
  f27 := Tryz.func75.trans (congrArg some (by kernel_rfl))
  f28 := Tryz.func76.trans (congrArg some (by kernel_rfl))
  f35 := Tryz.func104.trans (congrArg some (by kernel_rfl))
  f39 := Tryz.func130.trans (congrArg some (by kernel_rfl))
  t0 := Tryz.underlying0
  a0 := Tryz.isAgg0
  z0 := Tryz.sizeOf0
  v0 := Tryz.zeroValue0
  t3 := Tryz.underlying3
  a3 := Tryz.isAgg3
  z3 := Tryz.sizeOf3
  v3 := Tryz.zeroValue3
  t4 := Tryz.underlying4
  a4 := Tryz.isAgg4
  z4 := Tryz.sizeOf4
  v4 := Tryz.zeroValue4
  t22 := Tryz.underlying57
  a22 := Tryz.isAgg57
  z22 := Tryz.sizeOf57
  v22 := Tryz.zeroValue57
  i3 := by kernel_rfl }
def bren : Go.Shelf.Ren := ⟨fun | 25 => 39 | 31 => 73 | 32 => 74 | 37 => 103 | n => n, fun | 22 => 57 | 3 => 3 | 4 => 4 | 40 => 109 | 0 => 0 | n => n, fun | n => n⟩
theorem blays : Go.Proofs.Lays2.n25 Tryz.prog bren := {
  mixed := by kernel_rfl
  f25 := Tryz.func39.trans (congrArg some (by kernel_rfl))
  f31 := Tryz.func73.trans (congrArg some (by kernel_rfl))
  f32 := Tryz.func74.trans (congrArg some (by kernel_rfl))
  f37 := Tryz.func103.trans (congrArg some (by kernel_rfl))
  t0 := Tryz.underlying0
  a0 := Tryz.isAgg0
  z0 := Tryz.sizeOf0
  v0 := Tryz.zeroValue0
  t3 := Tryz.underlying3
  a3 := Tryz.isAgg3
  z3 := Tryz.sizeOf3
  v3 := Tryz.zeroValue3
  t4 := Tryz.underlying4
  a4 := Tryz.isAgg4
  z4 := Tryz.sizeOf4
  v4 := Tryz.zeroValue4
  t22 := Tryz.underlying57
  a22 := Tryz.isAgg57
  z22 := Tryz.sizeOf57
  v22 := Tryz.zeroValue57
  t40 := Tryz.underlying109
  a40 := Tryz.isAgg109
  z40 := Tryz.sizeOf109
  v40 := Tryz.zeroValue109 }
theorem below_drewN (w : World) (q : Nat) : Below w.heap.size w (w.drewN q) := ⟨rfl, rfl, rfl, Nat.le_refl _, fun _ _ => rfl⟩
theorem size_setCells' (b : Nat) : ∀ (vs : List Value) (o : Nat) (w : World), (w.setCells b o vs).heap.size = w.heap.size
  | [], _, _ => rfl
  | v :: r, o, w => by rw [World.setCells, size_setCells' b r]; simp
theorem block_setCells (b : Nat) : ∀ (vs : List Value) (o : Nat) (w : World) (k : Nat), k ≠ b → (w.setCells b o vs).heap[k]? = w.heap[k]?
  | [], _, _, _, _ => rfl
  | v :: r, o, w, k, h => by rw [World.setCells, block_setCells b r _ _ k h]; exact Below.heap_setCell w _ v k (fun e => h e)
theorem below_setCells {B : Nat} {w w' : World} (h : Below B w w') {b : Nat} (hb : B ≤ b) (vs : List Value) (o : Nat) : Below B w (w'.setCells b o vs) := by
  have key : ∀ (vs : List Value) (o : Nat) (X : World), (X.setCells b o vs).os = X.os ∧ (X.setCells b o vs).tape = X.tape ∧ (X.setCells b o vs).output = X.output := by
    intro vs
    induction vs with
    | nil => intro o X; exact ⟨rfl, rfl, rfl⟩
    | cons v r ih =>
      intro o X
      rw [World.setCells]
      obtain ⟨h1, h2, h3⟩ := ih (o + 1) (X.setCell ⟨b, o, none⟩ v)
      exact ⟨h1.trans rfl, h2.trans rfl, h3.trans rfl⟩
  obtain ⟨k1, k2, k3⟩ := key vs o w'
  exact ⟨k1.trans h.os, k2.trans h.tape, k3.trans h.output, by rw [size_setCells']; exact h.size, fun k hk => (block_setCells b vs o w' k (by omega)).trans (h.block k hk)⟩
theorem search_calls (b o n c : Nat) (zs : List Int) (x : Int) (w : World) (h : Ints w (some ⟨b, o, none⟩) n zs) (hn : n ≤ 5000) (hs : zs.Pairwise (· < ·)) :
    Calls Tryz.prog 39 #[.slice (some ⟨b, o, none⟩) n c, .int .i64 x] w fun e w' => ∃ r : Bool, e = .returned (.tuple #[.int .i64 ((zs.countP (· < x) : Nat) : Int), .bool r]) ∧ Below w.heap.size w w' := by
  have hl := h.1
  refine (Any.slices_BinarySearch_int blays b o n c zs x w (by omega) (by omega) (fun j hj => ?_) ?_).mono ?_
  · obtain ⟨b', o', p, h1, h2, h3⟩ := h.at (i := j) (by omega)
    cases h1
    rw [List.getD_eq_getElem?_getD, h2]
    exact h3 w (Below.refl _ _)
  · rw [List.take_of_length_le (by omega)]
    exact hs.imp fun h => by omega
  · rintro e w' ⟨rfl, q, rfl⟩
    rw [List.take_of_length_le (by omega)]
    exact ⟨_, rfl, below_drewN w q⟩
theorem search_nil (c : Nat) (a : Option Addr) (x : Int) (w : World) : Calls Tryz.prog 39 #[.slice a 0 c, .int .i64 x] w fun e w' => ∃ r : Bool, e = .returned (.tuple #[.int .i64 0, .bool r]) ∧ Below w.heap.size w w' := by
  go_enter Tryz.func39, Tryz.ntmps39
  go_wp2
  go_loopg [7, 8] 1 (fun _ u v wr => u = .int .i64 0 ∧ v = .int .i64 0 ∧ wr = w)
  case atStart => exact ⟨rfl, rfl, rfl⟩
  case round =>
    obtain ⟨rfl, rfl, rfl⟩ := hrel
    go_wp2
    go_ret2
    exact ⟨_, rfl, ⟨rfl, rfl, rfl, Nat.le_refl _, fun _ _ => rfl⟩⟩
theorem cells_ints {w : World} {b o n : Nat} {zs : List Int} (h : Ints w (some ⟨b, o, none⟩) n zs) : ∀ (j : Nat) v, (intsV zs)[j]? = some v → w.cell? ⟨b, o + j, none⟩ = some v := fun j v hv => by
  unfold intsV at hv
  rw [List.getElem?_map] at hv
  cases hz : zs[j]? with
  | none => rw [hz] at hv; cases hv
  | some z =>
    rw [hz] at hv
    cases hv
    obtain ⟨b', o', p, h1, h2, h3⟩ := h.at (i := j) (by have := h.1; have := (List.getElem?_eq_some_iff.1 hz).1; omega)
    cases h1
    rw [hz] at h2
    cases h2
    exact h3 w (Below.refl _ _)
theorem ints_one (zs : List Int) : ∀ v ∈ intsV zs, v.oneCell' = true := fun v hv => by
  unfold intsV at hv
  obtain ⟨z, _, rfl⟩ := List.mem_map.1 hv
  rfl
theorem ints_of_cells {w : World} {b n : Nat} {zs : List Int} (hl : zs.length = n) (hn : n ≤ 9223372036854775807) (hb : b < w.heap.size) (h : ∀ (j : Nat) (z : Int), zs[j]? = some z → w.cell? ⟨b, j, none⟩ = some (.int .i64 z)) : Ints w (some ⟨b, 0, none⟩) n zs :=
  ⟨hl, hn, .inr ⟨b, 0, rfl, hb, fun i x hx => by rw [Nat.zero_add]; exact h i x hx⟩⟩
theorem cell_block {w : World} {b j : Nat} {cs : Array Value} {t : TypeId} {f : Nat × Nat} (h : w.heap[b]? = some (.cells cs t f)) : w.cell? ⟨b, j, none⟩ = cs[j]? := by
  simp [World.cell?, h]
theorem put_at {zs : List Int} {i : Nat} {x : Int} (hi : i ≤ zs.length) : ∀ (j : Nat) (z : Int), (zs.take i ++ x :: zs.drop i)[j]? = some z → (j < i ∧ zs[j]? = some z) ∨ (j = i ∧ z = x) ∨ (i < j ∧ (zs.drop i)[j - (i + 1)]? = some z) := fun j z hz => by
  by_cases h1 : j < i
  · rw [List.getElem?_append_left (by rw [List.length_take]; omega), List.getElem?_take_of_lt h1] at hz
    exact .inl ⟨h1, hz⟩
  · rw [List.getElem?_append_right (by rw [List.length_take]; omega), List.length_take, Nat.min_eq_left hi] at hz
    by_cases h2 : j = i
    · subst h2
      rw [Nat.sub_self] at hz
      cases hz
      exact .inr (.inl ⟨rfl, rfl⟩)
    · rw [show j - i = (j - (i + 1)) + 1 by omega, List.getElem?_cons_succ] at hz
      exact .inr (.inr ⟨by omega, hz⟩)
/-- One put into a row that the call owns. -/
theorem insert_calls (base : Nat) (wa : Option Addr) (n c : Nat) (zs : List Int) (i : Nat) (x : Int) (vb : Nat) (w : World) (hO : w.ownsRow base 3 1 (.slice wa n c) n (intsV zs)) (hi : i ≤ n) (hn : n ≤ 5000) (hv : w.heap[vb]? = some (.cells #[.int .i64 x] 3 (0, 0))) (hne : ∀ b, wa = some b → b.block ≠ vb) (hbase : base ≤ w.heap.size) :
    Calls Tryz.prog 40 #[.slice wa n c, .int .i64 (i : Int), .slice (some ⟨vb, 0, none⟩) 1 1] w fun e w' => ∃ a' c', e = .returned (.slice a' (n + 1) c') ∧ Ints w' a' (n + 1) (zs.take i ++ x :: zs.drop i) ∧ Below base w w' := by
  have hzl : zs.length = n := by
    have := hO.1
    unfold intsV at this
    rw [List.length_map] at this
    omega
  have hil : (intsV zs).length = n := by unfold intsV; rw [List.length_map]; exact hzl
  have hol : (zs.take i ++ x :: zs.drop i).length = n + 1 := by rw [List.length_append, List.length_cons, List.length_take, List.length_drop]; omega
  have hvs : ∀ (j : Nat) v, [Value.int .i64 x][j]? = some v → w.cell? ⟨vb, 0 + j, none⟩ = some v := fun j v hj => by
    rw [Nat.zero_add, cell_block hv]
    rw [List.getElem?_toArray]
    exact hj
  have h1v : ∀ v ∈ [Value.int .i64 x], v.oneCell' = true := fun v hv => by rw [List.mem_singleton] at hv; subst hv; rfl
  have hdrop : ∀ j, ((intsV zs).drop i)[j]? = ((zs.drop i)[j]?).map (Value.int .i64) := fun j => by unfold intsV; rw [← List.map_drop, List.getElem?_map]
  have htake : ∀ j, ((intsV zs).take i)[j]? = ((zs.take i)[j]?).map (Value.int .i64) := fun j => by unfold intsV; rw [← List.map_take, List.getElem?_map]
  by_cases hend : i = n
  · subst hend
    have e1 : zs.take i ++ x :: zs.drop i = zs ++ [x] := by rw [List.take_of_length_le (by omega), List.drop_eq_nil_of_le (by omega)]
    rw [e1] at hol ⊢
    by_cases hroom : i + 1 ≤ c
    · rcases hO.2 with ⟨e, h0⟩ | ⟨g, cap, cur, e, hb, hg, hc1, hc2, hcs, hct⟩
      · cases e; omega
      · injection e with e1 e2 e3
        subst e1 e3
        rw [Nat.mul_one] at hcs hct
        refine (Any2.slices_Insert_int_end_room ilays g 0 i c vb 0 1 1 [.int .i64 x] w (by omega) hroom (by unfold maxLen at hc2; omega) rfl (fun j hj => ?_) (fun j hj => ?_) hvs h1v).mono ?_
        · rw [cell_block hg, Array.getElem?_eq_getElem (by omega)]; rfl
        · simp [World.frozen?, hg]
        · rintro e w' ⟨rfl, rfl⟩
          have hgl : g < w.heap.size := (Array.getElem?_eq_some_iff.1 hg).1
          refine ⟨_, _, rfl, ints_of_cells hol (by omega) (by rw [size_setCells']; exact hgl) (fun j z hz => ?_), below_setCells (Below.refl _ _) hb _ _⟩
          by_cases hj : j < i
          · rw [World.cell?_setCells_out g _ _ w ⟨g, j, none⟩ (fun _ _ => .inl (by show j < 0 + i; omega)), cell_block hg]
            rw [List.getElem?_append_left (by omega)] at hz
            have := congrArg (·[j]?) hct
            simp only [List.getElem?_take_of_lt hj, Array.getElem?_toList] at this
            rw [this]
            unfold intsV
            rw [List.getElem?_map, hz]
            rfl
          · have hjl := (List.getElem?_eq_some_iff.1 hz).1
            obtain rfl : j = i := by omega
            rw [List.getElem?_append_right (by omega), hzl, Nat.sub_self] at hz
            cases hz
            have := World.cell?_setCells_in g [.int .i64 x] (0 + j) w (fun q hq => ?_) 0 (by simp)
            · rw [Nat.add_zero, Nat.zero_add] at this
              rw [Nat.zero_add]
              exact this
            · rw [cell_block hg, Array.getElem?_eq_getElem (by simp at hq; omega)]; rfl
    · have hnc : i ≤ c := by
        rcases hO.2 with ⟨e, h0⟩ | ⟨g, cap, cur, e, hb, hg, hc1, _⟩
        · cases e; omega
        · injection e with _ _ e3; omega
      refine (Any2.slices_Insert_int_end_grow ilays wa i c vb 0 1 1 (intsV zs) [.int .i64 x] w (by omega) hnc (by omega) (by omega) hil rfl (fun e => ?_) (fun a ha j v hj => ?_) hvs h1v).mono ?_
      · rcases hO.2 with ⟨_, h0⟩ | ⟨g, cap, cur, e', _⟩
        · exact h0
        · injection e' with e1; rw [e] at e1; cases e1
      · obtain ⟨g, cap, e', hc⟩ := owns_cell hO (by have := (List.getElem?_eq_some_iff.1 hj).1; omega)
        injection e' with e1
        rw [ha] at e1
        cases e1
        rw [show (⟨g, 0, none⟩ : Addr).add j = ⟨g, j, none⟩ by unfold Addr.add; split <;> simp_all]
        exact hc j v hj
      · rintro e w' ⟨rfl, rfl⟩
        have hal := World.alloc_heap_new w.drew (.cells ((intsV zs ++ [Value.int .i64 x]).toArray ++ Builtin.zeroCells (Value.int .i64 0).cells (grownCap w (i + 1) c (iren.t 3) - (i + 1))) (iren.t 3))
        refine ⟨_, _, rfl, ints_of_cells hol (by omega) (by rw [World.size_alloc]; show w.heap.size < w.heap.size + 1; omega) (fun j z hz => ?_), ?_⟩
        · have hj := (List.getElem?_eq_some_iff.1 hz).1
          have e2 : intsV zs ++ [Value.int .i64 x] = intsV (zs ++ [x]) := by unfold intsV; rw [List.map_append]; rfl
          show World.cell? _ ⟨w.drew.heap.size, j, none⟩ = _
          rw [cell_block hal, Array.getElem?_append_left (by rw [e2]; unfold intsV; simp; omega), e2, List.getElem?_toArray]
          unfold intsV
          rw [List.getElem?_map, hz]
          rfl
        · have : Below w.heap.size w w.drew := ⟨rfl, rfl, rfl, Nat.le_refl _, fun _ _ => rfl⟩
          exact (this.alloc (Nat.le_refl _) _).mono hbase
  · have hlt : i < n := by omega
    obtain ⟨g, cap, e', hc⟩ := owns_cell hO (by omega)
    injection e' with e1 _ e3
    subst e1 e3
    have hcs : ∀ (j : Nat) v, (intsV zs)[j]? = some v → w.cell? ⟨g, 0 + j, none⟩ = some v := fun j v hj => by rw [Nat.zero_add]; exact hc j v hj
    by_cases hroom : n + 1 ≤ c
    · rcases hO.2 with ⟨e, h0⟩ | ⟨g', cap', cur, e, hb, hg, hc1, hc2, hcz, hct⟩
      · cases e
      · injection e with e1 _ e3
        injection e1 with e1
        injection e1 with e1
        subst e1 e3
        rw [Nat.mul_one] at hcz hct
        have hne' : vb ≠ g := fun e => hne _ rfl e.symm
        have hsome : ∀ j, j < c → (w.cell? ⟨g, j, none⟩).isSome = true := fun j hj => by rw [cell_block hg, Array.getElem?_eq_getElem (by omega)]; rfl
        refine (Any2.slices_Insert_int_shift ilays g 0 n c i vb 0 1 1 (intsV zs) [.int .i64 x] w hlt (by omega) hroom (by unfold maxLen at hc2; omega) hne' hil rfl hcs (fun j hj => by rw [Nat.zero_add]; exact hsome j (by omega)) (fun j hj => by simp [World.frozen?, hg]) hvs (ints_one zs) h1v 3 3 1 cur.size (by simp [World.shape?, hv]) (by simp [World.shape?, hg]) (by omega) (by simp [World.frozen?, hv]) (by simp [World.frozen?, hv])).mono ?_
        rintro e w' ⟨rfl, rfl⟩
        have hgl : g < w.heap.size := (Array.getElem?_eq_some_iff.1 hg).1
        have hdl : ((intsV zs).drop i).length = n - i := by rw [List.length_drop, hil]
        have hd : Below w.heap.size w w.drew := ⟨rfl, rfl, rfl, Nat.le_refl _, fun _ _ => rfl⟩
        have hs2 : ∀ j, j < c → ((w.drew.setCells g (0 + (i + 1)) ((intsV zs).drop i)).cell? ⟨g, j, none⟩).isSome = true := fun j hj => isSome_setCells g _ _ w.drew (fun q hq => by show (w.cell? _).isSome = true; exact hsome _ (by omega)) j (by show (w.cell? _).isSome = true; exact hsome j hj)
        refine ⟨_, _, rfl, ints_of_cells hol (by omega) (by rw [size_setCells', size_setCells']; exact hgl) (fun j z hz => ?_), below_setCells (below_setCells (hd.mono hbase) hb _ _) hb _ _⟩
        rcases put_at (by omega) j z hz with ⟨h1, h2⟩ | ⟨rfl, rfl⟩ | ⟨h1, h2⟩
        · rw [World.cell?_setCells_out g _ _ _ ⟨g, j, none⟩ (fun _ _ => .inl (by show j < 0 + i; omega)), World.cell?_setCells_out g _ _ _ ⟨g, j, none⟩ (fun _ _ => .inl (by show j < 0 + (i + 1); omega))]
          show w.cell? _ = _
          refine hc j _ ?_
          unfold intsV
          rw [List.getElem?_map, h2]
          rfl
        · have := World.cell?_setCells_in g [.int .i64 z] (0 + j) _ (fun q hq => by simp at hq; subst hq; rw [Nat.add_zero, Nat.zero_add]; exact hs2 j (by omega)) 0 (by simp)
          rw [show 0 + j + 0 = j by omega] at this
          exact this
        · rw [World.cell?_setCells_out g _ _ _ ⟨g, j, none⟩ (fun _ _ => .inr (by show 0 + i + 1 ≤ j; omega))]
          have hq : j - (i + 1) < ((intsV zs).drop i).length := by
            have := (List.getElem?_eq_some_iff.1 h2).1
            rw [List.length_drop] at this
            omega
          have := World.cell?_setCells_in g ((intsV zs).drop i) (0 + (i + 1)) w.drew (fun q hq => by show (w.cell? _).isSome = true; exact hsome _ (by omega)) (j - (i + 1)) hq
          rw [show 0 + (i + 1) + (j - (i + 1)) = j by omega] at this
          rw [this, ← List.getElem?_eq_getElem hq, hdrop, h2]
          rfl
    · have hnc : n ≤ c := by
        rcases hO.2 with ⟨e, h0⟩ | ⟨g', cap, cur, e, hb, hg, hc1, _⟩
        · cases e
        · injection e with _ _ e3; omega
      refine (Any2.slices_Insert_int_grow ilays g 0 n c i vb 0 1 1 (intsV zs) [.int .i64 x] w hlt (by omega) hnc (by omega) (by omega) hil rfl hcs hvs (ints_one zs) h1v).mono ?_
      rintro e w' ⟨rfl, rfl⟩
      obtain ⟨gc, hgc⟩ : ∃ gc, grownCap w (n + 1) c (iren.t 3) = gc := ⟨_, rfl⟩
      rw [hgc]
      obtain ⟨W1, hW1⟩ : ∃ W1, w.alloc (.cells (((intsV zs).take i).toArray ++ Builtin.zeroCells (Value.int .i64 0).cells (n + 1 - i) ++ Builtin.zeroCells (Value.int .i64 0).cells (gc - (n + 1))) (iren.t 3)) = W1 := ⟨_, rfl⟩
      have hal := World.alloc_heap_new w (.cells (((intsV zs).take i).toArray ++ Builtin.zeroCells (Value.int .i64 0).cells (n + 1 - i) ++ Builtin.zeroCells (Value.int .i64 0).cells (gc - (n + 1))) (iren.t 3))
      have hsz1 : W1.heap.size = w.heap.size + 1 := by rw [← hW1, World.size_alloc]
      have hB1 : Below w.heap.size w W1 := by rw [← hW1]; exact (Below.refl _ w).alloc (Nat.le_refl _) _
      rw [hW1] at hal ⊢
      have htl : ((intsV zs).take i).length = i := by rw [List.length_take, hil]; omega
      have hzc : ∀ m, (Builtin.zeroCells (Value.int .i64 0).cells m).size = m := fun m => by simp [Builtin.zeroCells, Value.cells]
      have hsome : ∀ j, j < n + 1 → (W1.cell? ⟨w.heap.size, j, none⟩).isSome = true := fun j hj => by
        rw [cell_block hal, Array.getElem?_eq_getElem (by simp only [Array.size_append, hzc, List.size_toArray, htl]; omega)]; rfl
      have hsome2 : ∀ j, j < n + 1 → ((W1.drew.setCells w.heap.size i [.int .i64 x]).cell? ⟨w.heap.size, j, none⟩).isSome = true := fun j hj => isSome_setCells _ _ _ W1.drew (fun q hq => by show (W1.cell? _).isSome = true; simp at hq; exact hsome _ (by omega)) j (by show (W1.cell? _).isSome = true; exact hsome j hj)
      have hB2 : Below w.heap.size w W1.drew := ⟨hB1.os, hB1.tape, hB1.output, hB1.size, hB1.block⟩
      have hB3 := below_setCells hB2 (Nat.le_refl _) [.int .i64 x] i
      have hB4 : Below w.heap.size w (W1.drew.setCells w.heap.size i [.int .i64 x]).drew := ⟨hB3.os, hB3.tape, hB3.output, hB3.size, hB3.block⟩
      refine ⟨_, _, rfl, ints_of_cells hol (by omega) (by rw [size_setCells']; show w.heap.size < (W1.drew.setCells _ _ _).heap.size; rw [size_setCells']; show w.heap.size < W1.heap.size; omega) (fun j z hz => ?_), (below_setCells hB4 (Nat.le_refl _) _ _).mono hbase⟩
      rcases put_at (by omega) j z hz with ⟨h1, h2⟩ | ⟨rfl, rfl⟩ | ⟨h1, h2⟩
      · rw [World.cell?_setCells_out _ _ _ _ ⟨w.heap.size, j, none⟩ (fun _ _ => .inl (by show j < i + 1; omega))]
        show (W1.drew.setCells w.heap.size i [.int .i64 x]).cell? _ = _
        rw [World.cell?_setCells_out _ _ _ _ ⟨w.heap.size, j, none⟩ (fun _ _ => .inl (by show j < i; omega))]
        show W1.cell? _ = _
        rw [cell_block hal, Array.getElem?_append_left (by simp only [Array.size_append, hzc, List.size_toArray, htl]; omega), Array.getElem?_append_left (by simp only [List.size_toArray, htl]; omega), List.getElem?_toArray, htake, List.getElem?_take_of_lt h1, h2]
        rfl
      · rw [World.cell?_setCells_out _ _ _ _ ⟨w.heap.size, j, none⟩ (fun _ _ => .inl (by show j < j + 1; omega))]
        show (W1.drew.setCells w.heap.size j [.int .i64 z]).cell? _ = _
        exact World.cell?_setCells_in w.heap.size [.int .i64 z] j W1.drew (fun q hq => by show (W1.cell? _).isSome = true; simp at hq; exact hsome _ (by omega)) 0 (by simp)
      · have hdl : ((intsV zs).drop i).length = n - i := by rw [List.length_drop, hil]
        have hq : j - (i + 1) < ((intsV zs).drop i).length := by
          have := (List.getElem?_eq_some_iff.1 h2).1
          rw [List.length_drop] at this
          omega
        have := World.cell?_setCells_in w.heap.size ((intsV zs).drop i) (i + 1) (W1.drew.setCells w.heap.size i [.int .i64 x]).drew (fun q hq => by show ((W1.drew.setCells w.heap.size i [.int .i64 x]).cell? _).isSome = true; exact hsome2 _ (by omega)) (j - (i + 1)) hq
        rw [show i + 1 + (j - (i + 1)) = j by omega] at this
        rw [this, ← List.getElem?_eq_getElem hq, hdrop, h2]
        rfl
end Go.Proofs.YtgkplmnhmobnnaaGreatDoor
