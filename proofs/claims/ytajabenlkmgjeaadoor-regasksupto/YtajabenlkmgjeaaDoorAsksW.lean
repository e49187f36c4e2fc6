/-
  PROVED HERE: the walk of RegAsks.
-/
import Derived.Test.YtajabenlkmgjeaaDoorProgAsks
import Derived.Test.YtajabenlkmgjeaaDoorAsks6
namespace Go.Proofs.YtajabenlkmgjeaaDoor
open Go.RowKit

theorem long_one {gs : List Grp} {n : Nat} {t : DataW Unit} {zs : List Int} {i j : Nat} (h : LongD gs n t zs i) (h' : LongD gs n t zs j) : i = j := by
  have key : ∀ {i j : Nat}, LongD gs n t zs i → LongD gs n t zs j → j ≤ i := fun {i j} h h' => by
    rcases Nat.lt_or_ge i j with hlt | hge
    · exfalso
      refine h.2.2 (by have := h'.1; omega) ?_
      have hp := h'.2.1
      rw [show zs.take j = zs.take (i + 1) ++ (zs.take j).drop (i + 1) from by
        have e := List.take_append_drop (i + 1) (zs.take j)
        rw [List.take_take, Nat.min_eq_left (by omega)] at e
        exact e.symm] at hp
      exact pre_less hp
    · exact hge
  exact Nat.le_antisymm (key h' h) (key h h')
/-- What Begins says. -/
def BegD (gs : List Grp) (n : Nat) (t : DataW Unit) (zs : List Int) (i : Nat) : Prop := (chk n t gs = 0 → LongD gs n t zs i) ∧ (chk n t gs ≠ 0 → i = 0)
theorem BegD.one {gs : List Grp} {n : Nat} {t : DataW Unit} {zs : List Int} {i j : Nat} (h : BegD gs n t zs i) (h' : BegD gs n t zs j) : i = j := by
  by_cases hc : chk n t gs = 0
  · exact long_one (h.1 hc) (h'.1 hc)
  · rw [h.2 hc, h'.2 hc]
/-- What Nexts says. -/
def NexD (gs : List Grp) (n : Nat) (t : DataW Unit) (zs xs : List Int) : Prop := (∀ x : Int, x ∈ xs ↔ (chk n t gs = 0 ∧ PreD gs n t (zs ++ [x]))) ∧ xs.Pairwise (· < ·)
set_option maxRecDepth 100000 in
set_option maxHeartbeats 8000000 in
theorem asks_walk (n : Nat) (t : DataW Unit) (k : Int) (s : ByteArray) (a : Option Addr) (len cap : Nat) (ga : Option Addr) (gl gc : Nat) (gs : List Grp) (za : Option Addr) (zl zc : Nat) (zs : List Int) (w : World) (h : Ex w n t (.agg #[.int .i64 k, .string s, .slice a len cap])) (hN : named n t) (hb : cnt n t ≤ 1152921504606846976) (hG : Groups w ga gl gs) (hZ : Ints w za zl zs) (hT : Tab w) (hw0 : 0 < w.heap.size) :
    Calls Tryd.prog 3 #[(.agg #[.int .i64 k, .string s, .slice a len cap]), .slice ga gl gc, .slice za zl zc] w fun e w' => e = .returned (.bool true) ∧ Below w.heap.size w w' := by
  have HAW : Hid (∀ W : World, Calls Tryd.prog 7 #[] W fun e w' => e = .returned (.bool true) ∧ Below W.heap.size W w') := fun W => awake_calls W
  have HLI : Hid (∀ (W : World) (xa ya : Option Addr) (xc yc : Nat) (xs : List Int), Ints W xa xs.length xs → Ints W ya xs.length xs → Calls Tryd.prog 14 #[.slice xa xs.length xc, .slice ya xs.length yc] W fun e w' => e = .returned (.bool true) ∧ Below W.heap.size W w') := fun W xa ya xc yc xs h1 h2 => list_calls W xa ya xc yc xs h1 h2
  have HLT : Hid (∀ W : World, Calls Tryd.prog 6 #[.slice ga gl gc, .slice za zl zc] W fun e w' => ∃ b, e = .returned (.bool b) ∧ w' = W) := fun W => light_calls ga gl gc za zl zc W
  obtain ⟨w1, hw1⟩ : ∃ w1, w1 = w.alloc (.cells #[.int .i64 k, .string s, .slice a len cap] 24) := ⟨_, rfl⟩
  have hb1 : Below w.heap.size w w1 := by rw [hw1]; exact (Below.refl _ w).alloc (Nat.le_refl _) _
  have hs1 : w1.heap.size = w.heap.size + 1 := by rw [hw1]; simp
  have m0 : w1.heap[w.heap.size]? = some (.cells #[.int .i64 k, .string s, .slice a len cap] 24 (0, 0)) := by rw [hw1]; exact World.alloc_heap_new w _
  have HW1 : Hid (w.alloc (.cells #[.int .i64 k, .string s, .slice a len cap] 24) = w1) := hw1.symm
  have HB1 : Hid (∀ X : World, Below w1.heap.size w1 X → Below w.heap.size w X) := fun X hX => hb1.trans (hX.mono hb1.size)
  have HK : Hid (∀ X : World, Below w1.heap.size w1 X → X.cell? ⟨w.heap.size, 0, none⟩ = some (.int .i64 k) ∧ X.cell? ⟨w.heap.size, 1, none⟩ = some (.string s) ∧ X.cell? ⟨w.heap.size, 2, none⟩ = some (.slice a len cap)) := fun X hX => by
    obtain ⟨a0, a1, a2, _⟩ := cells3 ((hX.block _ (by omega)).trans m0)
    exact ⟨a0, a1, a2⟩
  obtain ⟨cc, hcc⟩ : ∃ cc, chk n t gs = cc := ⟨_, rfl⟩
  obtain ⟨ab, hab⟩ : ∃ b : Bool, b = true ↔ (chk n t gs = 0 ∧ LangD gs n t zs) := by
    classical
    exact ⟨decide (chk n t gs = 0 ∧ LangD gs n t zs), by simp⟩
  have hX : ∀ X, Below w1.heap.size w1 X → Ex X n t (.agg #[.int .i64 k, .string s, .slice a len cap]) ∧ Groups X ga gl gs ∧ Ints X za zl zs ∧ Tab X ∧ 0 < X.heap.size := fun X hX => by
    have := HB1.out X hX
    exact ⟨Ex.below this _ _ _ h, hG.below this, hZ.below this, hT.below this hw0, Nat.lt_of_lt_of_le hw0 this.size⟩
  have HC1 : Hid (∀ X, Below w1.heap.size w1 X → Calls Tryd.prog 8 #[(.agg #[.int .i64 k, .string s, .slice a len cap]), .slice ga gl gc] X fun e w' => e = .returned (.int .i64 cc) ∧ Below w1.heap.size w1 w') := fun X hB => by
    obtain ⟨x1, x2, x3, x4, x5⟩ := hX X hB
    refine (rcheck_calls n t _ ga gl gc gs X x1 hN x2).mono ?_
    rintro e W ⟨rfl, h2⟩
    exact ⟨by rw [hcc], hB.trans (h2.mono hB.size)⟩
  have HC2 : Hid (∀ X, Below w1.heap.size w1 X → Calls Tryd.prog 9 #[(.agg #[.int .i64 k, .string s, .slice a len cap]), .slice ga gl gc] X fun e w' => e = .returned (.int .i64 cc) ∧ Below w1.heap.size w1 w') := fun X hB => by
    obtain ⟨x1, x2, x3, x4, x5⟩ := hX X hB
    refine (refcheck_calls n t _ ga gl gc gs X x1 hN hb x2).mono ?_
    rintro e W ⟨rfl, h2⟩
    exact ⟨by rw [hcc], hB.trans (h2.mono hB.size)⟩
  have HA1 : Hid (∀ X, Below w1.heap.size w1 X → Calls Tryd.prog 10 #[(.agg #[.int .i64 k, .string s, .slice a len cap]), .slice ga gl gc, .slice za zl zc] X fun e w' => e = .returned (.bool ab) ∧ Below w1.heap.size w1 w') := fun X hB => by
    obtain ⟨x1, x2, x3, x4, x5⟩ := hX X hB
    refine (accepts_calls n t _ ga gl gc gs za zl zc zs X x1 hN x2 x3).mono ?_
    rintro e W ⟨b, rfl, h1, h2⟩
    rw [Bool.eq_iff_iff.2 (h1.trans hab.symm)]
    exact ⟨rfl, hB.trans (h2.mono hB.size)⟩
  have HA2 : Hid (∀ X, Below w1.heap.size w1 X → Calls Tryd.prog 11 #[(.agg #[.int .i64 k, .string s, .slice a len cap]), .slice ga gl gc, .slice za zl zc] X fun e w' => e = .returned (.bool ab) ∧ Below w1.heap.size w1 w') := fun X hB => by
    obtain ⟨x1, x2, x3, x4, x5⟩ := hX X hB
    refine (refaccepts_calls n t _ ga gl gc gs za zl zc zs X x1 hN hb x2 x3).mono ?_
    rintro e W ⟨b, rfl, h1, h2⟩
    rw [Bool.eq_iff_iff.2 (h1.trans hab.symm)]
    exact ⟨rfl, hB.trans (h2.mono hB.size)⟩
  have HG1 : Hid (∀ X, Below w1.heap.size w1 X → Calls Tryd.prog 12 #[(.agg #[.int .i64 k, .string s, .slice a len cap]), .slice ga gl gc, .slice za zl zc] X fun e w' => ∃ i : Nat, e = .returned (.int .i64 (i : Int)) ∧ BegD gs n t zs i ∧ Below w1.heap.size w1 w') := fun X hB => by
    obtain ⟨x1, x2, x3, x4, x5⟩ := hX X hB
    refine (begins_any n t _ ga gl gc gs za zl zc zs X x1 hN x2 x3).mono ?_
    rintro e W ⟨i, rfl, h1, h2, h3⟩
    exact ⟨i, rfl, ⟨h1, h2⟩, hB.trans (h3.mono hB.size)⟩
  have HG2 : Hid (∀ (X : World) (i : Nat), Below w1.heap.size w1 X → BegD gs n t zs i → Calls Tryd.prog 13 #[(.agg #[.int .i64 k, .string s, .slice a len cap]), .slice ga gl gc, .slice za zl zc] X fun e w' => e = .returned (.int .i64 (i : Int)) ∧ Below w1.heap.size w1 w') := fun X i hB hi => by
    obtain ⟨x1, x2, x3, x4, x5⟩ := hX X hB
    refine (refbegins_calls n t _ ga gl gc gs za zl zc zs X x1 hN hb x2 x3).mono ?_
    rintro e W ⟨j, rfl, h1, h2, h3⟩
    rw [hi.one (j := j) ⟨h1, h2⟩]
    exact ⟨rfl, hB.trans (h3.mono hB.size)⟩
  have HN1 : Hid (∀ X, Below w1.heap.size w1 X → Calls Tryd.prog 15 #[(.agg #[.int .i64 k, .string s, .slice a len cap]), .slice ga gl gc, .slice za zl zc] X fun e w' => ∃ (xa : Option Addr) (xc : Nat) (xs : List Int), e = .returned (.slice xa xs.length xc) ∧ Ints w' xa xs.length xs ∧ NexD gs n t zs xs ∧ Below w1.heap.size w1 w') := fun X hB => by
    obtain ⟨x1, x2, x3, x4, x5⟩ := hX X hB
    refine (nexts_all n t _ ga gl gc gs za zl zc zs X x1 hN x2 x3 x4 x5).mono ?_
    rintro e W ⟨xa, xc, xs, rfl, h1, h2, h3, _, h4⟩
    exact ⟨xa, xc, xs, rfl, h1, ⟨h2, h3⟩, hB.trans (h4.mono hB.size)⟩
  have HN2 : Hid (∀ (X : World) (xs : List Int), Below w1.heap.size w1 X → NexD gs n t zs xs → Calls Tryd.prog 16 #[(.agg #[.int .i64 k, .string s, .slice a len cap]), .slice ga gl gc, .slice za zl zc] X fun e w' => ∃ (ya : Option Addr) (yc : Nat), e = .returned (.slice ya xs.length yc) ∧ Ints w' ya xs.length xs ∧ Below X.heap.size X w') := fun X xs hB hx => by
    obtain ⟨x1, x2, x3, x4, x5⟩ := hX X hB
    refine (refnexts_calls n t _ ga gl gc gs za zl zc zs X x1 hN hb x2 x3).mono ?_
    rintro e W ⟨ya, yc, ys, rfl, h1, h2, h3, _, h4⟩
    obtain rfl : ys = xs := rise_eq h3 hx.2 (fun x => (h2 x).trans (hx.1 x).symm)
    exact ⟨ya, yc, rfl, h1, h4⟩
  have e1 : (cc == cc) = true := by simp
  have e2 : (ab == ab) = true := by simp
  clear h hN hb hG hZ hT hw0 m0 hb1 hw1 hs1 hX hab hcc
  go_enter Tryd.func3, Tryd.ntmps3
  go_wp2_with fail
  rw [HW1.out]
  refine (HLT.out w1).mono ?_
  rintro e W ⟨lb, rfl, rfl⟩
  have hW : Below W.heap.size W W := Below.refl _ _
  cases lb with
  | false =>
    go_wp2_with fail
    refine (HAW.out _).mono ?_
    rintro e XZ ⟨rfl, hXZ⟩
    have HEND := HB1.out _ hXZ
    clear hXZ
    go_wp2
    go_ret
    first | exact HEND | exact ⟨rfl, HEND⟩
  | true =>
    go_wp2_with fail
    refine wp_region_held_drew (S := fun X => Below W.heap.size W X) hmx hW.drew (fun hS => ?_)
    refine takeD 0 (some 12) (v := ?_) rfl rfl (by kernel_rfl) (by kernel_rfl) (by kernel_rfl) (fun _ _ _ h => h) (Or.inl ⟨by rfl, ?_⟩) hS ?_
    rotate_left
    · intro w hSw
      obtain ⟨q0, q1, q2⟩ := HK.out _ hSw
      go_simp
      with_reducible rfl
    try simp only [Act.put, List.setIfInBounds_toArray, List.set_cons_zero, List.set_cons_succ]
    refine takeD 1 (some 13) (v := ?_) rfl rfl (by kernel_rfl) (by kernel_rfl) (by kernel_rfl) (fun _ _ _ h => h) (Or.inl ⟨by rfl, ?_⟩) hS ?_
    rotate_left
    · intro w hSw
      try go_simp
      with_reducible rfl
    try simp only [Act.put, List.setIfInBounds_toArray, List.set_cons_zero, List.set_cons_succ]
    refine takeD 3 (some 15) (v := ?_) rfl rfl (by kernel_rfl) (by kernel_rfl) (by kernel_rfl) (fun _ _ _ h => h) (Or.inl ⟨by rfl, ?_⟩) hS ?_
    rotate_left
    · intro w hSw
      obtain ⟨q0, q1, q2⟩ := HK.out _ hSw
      go_simp
      with_reducible rfl
    try simp only [Act.put, List.setIfInBounds_toArray, List.set_cons_zero, List.set_cons_succ]
    refine takeD 4 (some 16) (v := ?_) rfl rfl (by kernel_rfl) (by kernel_rfl) (by kernel_rfl) (fun _ _ _ h => h) (Or.inl ⟨by rfl, ?_⟩) hS ?_
    rotate_left
    · intro w hSw
      try go_simp
      with_reducible rfl
    try simp only [Act.put, List.setIfInBounds_toArray, List.set_cons_zero, List.set_cons_succ]
    refine callD 2 (by kernel_rfl) rfl (fun K hK => ?_)
    rw [if_pos (by rfl)]
    go_simp
    refine (HC1.out _ hS).mono ?_
    rintro e X0 ⟨rfl, hB⟩
    refine hK.out _ _ (hB) (fun hX0 => ?_)
    clear hK K
    try simp only [Act.put, List.setIfInBounds_toArray, List.set_cons_zero, List.set_cons_succ]
    refine callD 5 (by kernel_rfl) rfl (fun K hK => ?_)
    rw [if_pos (by rfl)]
    go_simp
    refine (HC2.out _ hX0).mono ?_
    rintro e X1 ⟨rfl, hB⟩
    refine hK.out _ _ (hB) (fun hX1 => ?_)
    clear hK K
    try simp only [Act.put, List.setIfInBounds_toArray, List.set_cons_zero, List.set_cons_succ]
    refine takeD 6 (some 18) (v := ?_) rfl rfl (by kernel_rfl) (by kernel_rfl) (by kernel_rfl) (fun _ _ _ h => h) (Or.inl ⟨by rfl, ?_⟩) hX1 ?_
    rotate_left
    · intro w hSw
      go_simp
      with_reducible rfl
    try simp only [Act.put, List.setIfInBounds_toArray, List.set_cons_zero, List.set_cons_succ]
    refine takeD 7 (some 19) (v := ?_) rfl rfl (by kernel_rfl) (by kernel_rfl) (by kernel_rfl) (fun _ _ _ h => h) (Or.inl ⟨by rfl, ?_⟩) hX1 ?_
    rotate_left
    · intro w hSw
      try go_simp
      with_reducible rfl
    try simp only [Act.put, List.setIfInBounds_toArray, List.set_cons_zero, List.set_cons_succ]
    refine takeD 8 (some 20) (v := ?_) rfl rfl (by kernel_rfl) (by kernel_rfl) (by kernel_rfl) (fun _ _ _ h => h) (Or.inl ⟨by rfl, ?_⟩) hX1 ?_
    rotate_left
    · intro w hSw
      obtain ⟨q0, q1, q2⟩ := HK.out _ hSw
      go_simp
      with_reducible rfl
    try simp only [Act.put, List.setIfInBounds_toArray, List.set_cons_zero, List.set_cons_succ]
    refine takeD 9 (some 21) (v := ?_) rfl rfl (by kernel_rfl) (by kernel_rfl) (by kernel_rfl) (fun _ _ _ h => h) (Or.inl ⟨by rfl, ?_⟩) hX1 ?_
    rotate_left
    · intro w hSw
      try go_simp
      with_reducible rfl
    try simp only [Act.put, List.setIfInBounds_toArray, List.set_cons_zero, List.set_cons_succ]
    refine takeD 10 (some 22) (v := ?_) rfl rfl (by kernel_rfl) (by kernel_rfl) (by kernel_rfl) (fun _ _ _ h => h) (Or.inl ⟨by rfl, ?_⟩) hX1 ?_
    rotate_left
    · intro w hSw
      try go_simp
      with_reducible rfl
    try simp only [Act.put, List.setIfInBounds_toArray, List.set_cons_zero, List.set_cons_succ]
    refine takeD 12 (some 24) (v := ?_) rfl rfl (by kernel_rfl) (by kernel_rfl) (by kernel_rfl) (fun _ _ _ h => h) (Or.inl ⟨by rfl, ?_⟩) hX1 ?_
    rotate_left
    · intro w hSw
      obtain ⟨q0, q1, q2⟩ := HK.out _ hSw
      go_simp
      with_reducible rfl
    try simp only [Act.put, List.setIfInBounds_toArray, List.set_cons_zero, List.set_cons_succ]
    refine takeD 13 (some 25) (v := ?_) rfl rfl (by kernel_rfl) (by kernel_rfl) (by kernel_rfl) (fun _ _ _ h => h) (Or.inl ⟨by rfl, ?_⟩) hX1 ?_
    rotate_left
    · intro w hSw
      try go_simp
      with_reducible rfl
    try simp only [Act.put, List.setIfInBounds_toArray, List.set_cons_zero, List.set_cons_succ]
    refine takeD 14 (some 26) (v := ?_) rfl rfl (by kernel_rfl) (by kernel_rfl) (by kernel_rfl) (fun _ _ _ h => h) (Or.inl ⟨by rfl, ?_⟩) hX1 ?_
    rotate_left
    · intro w hSw
      try go_simp
      with_reducible rfl
    try simp only [Act.put, List.setIfInBounds_toArray, List.set_cons_zero, List.set_cons_succ]
    refine callD 11 (by kernel_rfl) rfl (fun K hK => ?_)
    rw [if_pos (by rfl)]
    go_simp
    refine (HA1.out _ hX1).mono ?_
    rintro e X2 ⟨rfl, hB⟩
    refine hK.out _ _ (hB) (fun hX2 => ?_)
    clear hK K
    try simp only [Act.put, List.setIfInBounds_toArray, List.set_cons_zero, List.set_cons_succ]
    refine callD 15 (by kernel_rfl) rfl (fun K hK => ?_)
    rw [if_pos (by rfl)]
    go_simp
    refine (HA2.out _ hX2).mono ?_
    rintro e X3 ⟨rfl, hB⟩
    refine hK.out _ _ (hB) (fun hX3 => ?_)
    clear hK K
    try simp only [Act.put, List.setIfInBounds_toArray, List.set_cons_zero, List.set_cons_succ]
    refine takeD 16 (some 28) (v := ?_) rfl rfl (by kernel_rfl) (by kernel_rfl) (by kernel_rfl) (fun _ _ _ h => h) (Or.inl ⟨by rfl, ?_⟩) hX3 ?_
    rotate_left
    · intro w hSw
      go_simp
      with_reducible rfl
    try simp only [Act.put, List.setIfInBounds_toArray, List.set_cons_zero, List.set_cons_succ]
    refine takeD 17 (some 29) (v := ?_) rfl rfl (by kernel_rfl) (by kernel_rfl) (by kernel_rfl) (fun _ _ _ h => h) (Or.inl ⟨by rfl, ?_⟩) hX3 ?_
    rotate_left
    · intro w hSw
      go_simp
      with_reducible rfl
    try simp only [Act.put, List.setIfInBounds_toArray, List.set_cons_zero, List.set_cons_succ]
    refine takeD 18 (some 30) (v := ?_) rfl rfl (by kernel_rfl) (by kernel_rfl) (by kernel_rfl) (fun _ _ _ h => h) (Or.inl ⟨by rfl, ?_⟩) hX3 ?_
    rotate_left
    · intro w hSw
      try go_simp
      with_reducible rfl
    try simp only [Act.put, List.setIfInBounds_toArray, List.set_cons_zero, List.set_cons_succ]
    refine takeD 19 (some 31) (v := ?_) rfl rfl (by kernel_rfl) (by kernel_rfl) (by kernel_rfl) (fun _ _ _ h => h) (Or.inl ⟨by rfl, ?_⟩) hX3 ?_
    rotate_left
    · intro w hSw
      obtain ⟨q0, q1, q2⟩ := HK.out _ hSw
      go_simp
      with_reducible rfl
    try simp only [Act.put, List.setIfInBounds_toArray, List.set_cons_zero, List.set_cons_succ]
    refine takeD 20 (some 32) (v := ?_) rfl rfl (by kernel_rfl) (by kernel_rfl) (by kernel_rfl) (fun _ _ _ h => h) (Or.inl ⟨by rfl, ?_⟩) hX3 ?_
    rotate_left
    · intro w hSw
      try go_simp
      with_reducible rfl
    try simp only [Act.put, List.setIfInBounds_toArray, List.set_cons_zero, List.set_cons_succ]
    refine takeD 21 (some 33) (v := ?_) rfl rfl (by kernel_rfl) (by kernel_rfl) (by kernel_rfl) (fun _ _ _ h => h) (Or.inl ⟨by rfl, ?_⟩) hX3 ?_
    rotate_left
    · intro w hSw
      try go_simp
      with_reducible rfl
    try simp only [Act.put, List.setIfInBounds_toArray, List.set_cons_zero, List.set_cons_succ]
    refine takeD 23 (some 35) (v := ?_) rfl rfl (by kernel_rfl) (by kernel_rfl) (by kernel_rfl) (fun _ _ _ h => h) (Or.inl ⟨by rfl, ?_⟩) hX3 ?_
    rotate_left
    · intro w hSw
      obtain ⟨q0, q1, q2⟩ := HK.out _ hSw
      go_simp
      with_reducible rfl
    try simp only [Act.put, List.setIfInBounds_toArray, List.set_cons_zero, List.set_cons_succ]
    refine takeD 24 (some 36) (v := ?_) rfl rfl (by kernel_rfl) (by kernel_rfl) (by kernel_rfl) (fun _ _ _ h => h) (Or.inl ⟨by rfl, ?_⟩) hX3 ?_
    rotate_left
    · intro w hSw
      try go_simp
      with_reducible rfl
    try simp only [Act.put, List.setIfInBounds_toArray, List.set_cons_zero, List.set_cons_succ]
    refine takeD 25 (some 37) (v := ?_) rfl rfl (by kernel_rfl) (by kernel_rfl) (by kernel_rfl) (fun _ _ _ h => h) (Or.inl ⟨by rfl, ?_⟩) hX3 ?_
    rotate_left
    · intro w hSw
      try go_simp
      with_reducible rfl
    try simp only [Act.put, List.setIfInBounds_toArray, List.set_cons_zero, List.set_cons_succ]
    refine callD 22 (by kernel_rfl) rfl (fun K hK => ?_)
    rw [if_pos (by rfl)]
    go_simp
    refine (HG1.out _ hX3).mono ?_
    rintro e X4 ⟨i, rfl, hbg, hB⟩
    have e3 : ((i : Int) == (i : Int)) = true := by simp
    refine hK.out _ _ (hB) (fun hX4 => ?_)
    clear hK K
    try simp only [Act.put, List.setIfInBounds_toArray, List.set_cons_zero, List.set_cons_succ]
    refine callD 26 (by kernel_rfl) rfl (fun K hK => ?_)
    rw [if_pos (by rfl)]
    go_simp
    refine (HG2.out _ i hX4 hbg).mono ?_
    rintro e X5 ⟨rfl, hB⟩
    refine hK.out _ _ (hB) (fun hX5 => ?_)
    clear hK K
    try simp only [Act.put, List.setIfInBounds_toArray, List.set_cons_zero, List.set_cons_succ]
    refine takeD 27 (some 39) (v := ?_) rfl rfl (by kernel_rfl) (by kernel_rfl) (by kernel_rfl) (fun _ _ _ h => h) (Or.inl ⟨by rfl, ?_⟩) hX5 ?_
    rotate_left
    · intro w hSw
      go_simp
      with_reducible rfl
    try simp only [Act.put, List.setIfInBounds_toArray, List.set_cons_zero, List.set_cons_succ]
    refine takeD 28 (some 40) (v := ?_) rfl rfl (by kernel_rfl) (by kernel_rfl) (by kernel_rfl) (fun _ _ _ h => h) (Or.inl ⟨by rfl, ?_⟩) hX5 ?_
    rotate_left
    · intro w hSw
      go_simp
      with_reducible rfl
    try simp only [Act.put, List.setIfInBounds_toArray, List.set_cons_zero, List.set_cons_succ]
    refine takeD 29 (some 41) (v := ?_) rfl rfl (by kernel_rfl) (by kernel_rfl) (by kernel_rfl) (fun _ _ _ h => h) (Or.inl ⟨by rfl, ?_⟩) hX5 ?_
    rotate_left
    · intro w hSw
      try go_simp
      with_reducible rfl
    try simp only [Act.put, List.setIfInBounds_toArray, List.set_cons_zero, List.set_cons_succ]
    refine takeD 30 (some 42) (v := ?_) rfl rfl (by kernel_rfl) (by kernel_rfl) (by kernel_rfl) (fun _ _ _ h => h) (Or.inl ⟨by rfl, ?_⟩) hX5 ?_
    rotate_left
    · intro w hSw
      obtain ⟨q0, q1, q2⟩ := HK.out _ hSw
      go_simp
      with_reducible rfl
    try simp only [Act.put, List.setIfInBounds_toArray, List.set_cons_zero, List.set_cons_succ]
    refine takeD 31 (some 43) (v := ?_) rfl rfl (by kernel_rfl) (by kernel_rfl) (by kernel_rfl) (fun _ _ _ h => h) (Or.inl ⟨by rfl, ?_⟩) hX5 ?_
    rotate_left
    · intro w hSw
      try go_simp
      with_reducible rfl
    try simp only [Act.put, List.setIfInBounds_toArray, List.set_cons_zero, List.set_cons_succ]
    refine takeD 32 (some 44) (v := ?_) rfl rfl (by kernel_rfl) (by kernel_rfl) (by kernel_rfl) (fun _ _ _ h => h) (Or.inl ⟨by rfl, ?_⟩) hX5 ?_
    rotate_left
    · intro w hSw
      try go_simp
      with_reducible rfl
    try simp only [Act.put, List.setIfInBounds_toArray, List.set_cons_zero, List.set_cons_succ]
    refine takeD 34 (some 46) (v := ?_) rfl rfl (by kernel_rfl) (by kernel_rfl) (by kernel_rfl) (fun _ _ _ h => h) (Or.inl ⟨by rfl, ?_⟩) hX5 ?_
    rotate_left
    · intro w hSw
      obtain ⟨q0, q1, q2⟩ := HK.out _ hSw
      go_simp
      with_reducible rfl
    try simp only [Act.put, List.setIfInBounds_toArray, List.set_cons_zero, List.set_cons_succ]
    refine takeD 35 (some 47) (v := ?_) rfl rfl (by kernel_rfl) (by kernel_rfl) (by kernel_rfl) (fun _ _ _ h => h) (Or.inl ⟨by rfl, ?_⟩) hX5 ?_
    rotate_left
    · intro w hSw
      try go_simp
      with_reducible rfl
    try simp only [Act.put, List.setIfInBounds_toArray, List.set_cons_zero, List.set_cons_succ]
    refine takeD 36 (some 48) (v := ?_) rfl rfl (by kernel_rfl) (by kernel_rfl) (by kernel_rfl) (fun _ _ _ h => h) (Or.inl ⟨by rfl, ?_⟩) hX5 ?_
    rotate_left
    · intro w hSw
      try go_simp
      with_reducible rfl
    try simp only [Act.put, List.setIfInBounds_toArray, List.set_cons_zero, List.set_cons_succ]
    refine callD 33 (by kernel_rfl) rfl (fun K hK => ?_)
    rw [if_pos (by rfl)]
    go_simp
    refine (HN1.out _ hX5).mono ?_
    rintro e X6 ⟨xa, xc, xs, rfl, hix, hnx, hB⟩
    refine hK.out _ _ (hB) (fun hX6 => ?_)
    clear hK K
    try simp only [Act.put, List.setIfInBounds_toArray, List.set_cons_zero, List.set_cons_succ]
    refine callD 37 (by kernel_rfl) rfl (fun K hK => ?_)
    rw [if_pos (by rfl)]
    go_simp
    refine (HN2.out _ xs hX6 hnx).mono ?_
    rintro e X7 ⟨ya, yc, rfl, hiy, hB⟩
    replace hix := hix.below hB
    refine hK.out _ _ (hX6.trans (hB.mono hX6.size)) (fun hX7 => ?_)
    clear hK K
    try simp only [Act.put, List.setIfInBounds_toArray, List.set_cons_zero, List.set_cons_succ]
    refine callD 38 (by kernel_rfl) rfl (fun K hK => ?_)
    rw [if_pos (by rfl)]
    go_simp
    refine (HLI.out _ xa ya xc yc xs hix hiy).mono ?_
    rintro e X8 ⟨rfl, hB⟩
    refine hK.out _ _ (hX7.trans (hB.mono hX7.size)) (fun hX8 => ?_)
    clear hK K
    try simp only [Act.put, List.setIfInBounds_toArray, List.set_cons_zero, List.set_cons_succ]
    refine takeD 39 (some 51) (v := ?_) rfl rfl (by kernel_rfl) (by kernel_rfl) (by kernel_rfl) (fun _ _ _ h => h) (Or.inl ⟨by rfl, ?_⟩) hX8 ?_
    rotate_left
    · intro w hSw
      go_simp
      with_reducible rfl
    try simp only [Act.put, List.setIfInBounds_toArray, List.set_cons_zero, List.set_cons_succ]
    refine takeD 40 (some 52) (v := ?_) rfl rfl (by kernel_rfl) (by kernel_rfl) (by kernel_rfl) (fun _ _ _ h => h) (Or.inl ⟨by rfl, ?_⟩) hX8 ?_
    rotate_left
    · intro w hSw
      try go_simp
      with_reducible rfl
    try simp only [Act.put, List.setIfInBounds_toArray, List.set_cons_zero, List.set_cons_succ]
    refine callD 41 (by kernel_rfl) rfl (fun K hK => ?_)
    rw [if_pos (by rfl)]
    go_simp
    refine (HAW.out _ ).mono ?_
    rintro e X9 ⟨rfl, hB⟩
    refine hK.out _ _ (hX8.trans (hB.mono hX8.size)) (fun hX9 => ?_)
    clear hK K
    try simp only [Act.put, List.setIfInBounds_toArray, List.set_cons_zero, List.set_cons_succ]
    refine takeD 42 (some 54) (v := ?_) rfl rfl (by kernel_rfl) (by kernel_rfl) (by kernel_rfl) (fun _ _ _ h => h) (Or.inl ⟨by rfl, ?_⟩) hX9 ?_
    rotate_left
    · intro w hSw
      go_simp
      with_reducible rfl
    try simp only [Act.put, List.setIfInBounds_toArray, List.set_cons_zero, List.set_cons_succ]
    refine takeD 43 (some 6) (v := ?_) rfl rfl (by kernel_rfl) (by kernel_rfl) (by kernel_rfl) (fun _ _ _ h => h) (Or.inl ⟨by rfl, ?_⟩) hX9 ?_
    rotate_left
    · intro w hSw
      try go_simp
      with_reducible rfl
    try simp only [Act.put, List.setIfInBounds_toArray, List.set_cons_zero, List.set_cons_succ]
    refine wpAnyH_done (by kernel_rfl) ?_ _
    have HEND := HB1.out _ hX9
    go_wp2
    go_ret
    first | exact HEND | exact ⟨rfl, HEND⟩
end Go.Proofs.YtajabenlkmgjeaaDoor
