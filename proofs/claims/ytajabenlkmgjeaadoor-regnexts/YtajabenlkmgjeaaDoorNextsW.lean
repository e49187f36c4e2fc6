/-
  PROVED HERE: the walk of RegNexts.
-/
import Derived.Test.YtajabenlkmgjeaaDoorNexts6
import Derived.Test.YtajabenlkmgjeaaDoorAsks6
namespace Go.Proofs.YtajabenlkmgjeaaDoor
open Go.RowKit

theorem wrap_i64 (a : Int) (h : -9223372036854775808 ≤ a) (h2 : a ≤ 9223372036854775807) : IntKind.i64.wrap a = a := by
  simp [IntKind.wrap, IntKind.signed, IntKind.bits]
  omega
def eqAny (t : Int) (l : List Int) : Bool := l.any (fun x => x == t)
theorem eqAny_take {t x : Int} {l : List Int} {i : Nat} (h : l[i]? = some x) : eqAny t (l.take (i + 1)) = (eqAny t (l.take i) || (x == t)) := by
  unfold eqAny
  rw [List.take_add_one, h, List.any_append]
  simp
theorem eqAny_iff (t : Int) (l : List Int) : eqAny t l = true ↔ t ∈ l := by
  unfold eqAny
  rw [List.any_eq_true]
  constructor
  · rintro ⟨x, hx, e⟩
    rw [← (beq_iff_eq.1 e)]
    exact hx
  · intro h
    exact ⟨t, h, by simp⟩
theorem Ints.take {w : World} {za : Option Addr} {zl : Nat} {zs : List Int} (h : Ints w za zl zs) {i : Nat} (hi : i ≤ zl) : Ints w za i (zs.take i) := by
  obtain ⟨h1, h2, h3⟩ := h
  refine ⟨by rw [List.length_take]; omega, by omega, ?_⟩
  rcases h3 with h3 | ⟨b, o, e, hlt, hc⟩
  · exact .inl (by omega)
  · refine .inr ⟨b, o, e, hlt, fun j x hx => hc j x ?_⟩
    rw [List.getElem?_take] at hx
    split at hx
    · exact hx
    · cases hx
theorem run_append_ints (w : World) (base : Nat) (v : Value) (n : Nat) (xs : List Int) (hown : w.ownsRow base 3 1 v n (intsV xs)) (za : Option Addr) (zl zc : Nat) (zs : List Int) (hc : za = none → zc = 0) (hZ : Ints w za zl zs) (h63 : n + zl ≤ 1000000) (hbase : base ≤ w.heap.size) :
    ∃ v' w', (Builtin.append_ #[26, 26] 26 #[v, .slice za zl zc]).run Tryd.prog w = .ok v' w' ∧ w'.ownsRow base 3 1 v' (n + zl) (intsV (xs ++ zs)) ∧ w.grownBy w' v.ownBlock := by
  obtain ⟨i0, hi, hz0, hz1, hz2⟩ := info_parts infoInt
  obtain ⟨hl, _, hz⟩ := hZ
  cases za with
  | none =>
    have hzl : zl = 0 := by
      rcases hz with hz | ⟨b, o, e, _⟩
      · exact hz
      · cases e
    subst hzl
    rw [hc rfl]
    have : zs = [] := List.length_eq_zero_iff.1 hl
    subst this
    refine ⟨v, w, run_append_owned_none (P := Tryd.prog) (w := w) base 26 26 3 i0 1 Tryd.underlying26 hi v n _ hown, ?_, ⟨rfl, rfl, rfl, Nat.le_refl _, fun _ _ _ => rfl⟩⟩
    rw [List.append_nil]
    exact hown
  | some ad =>
    obtain ⟨v', w', hr, q1, q2, _, _⟩ := run_append_own_at (P := Tryd.prog) w base 26 26 3 i0 _ 1 8 Tryd.underlying26 hi hz0 hz1 hz2 rfl (by decide) v n _ hown ad zl zc (intsV zs) (by unfold intsV; rw [List.length_map]; omega) (fun j u hj => by
      unfold intsV at hj
      rw [List.getElem?_map] at hj
      cases hq : zs[j]? with
      | none => rw [hq] at hj; cases hj
      | some y =>
        rw [hq] at hj
        cases hj
        rcases hz with hz | ⟨b, o, e, _, hcc⟩
        · have := (List.getElem?_eq_some_iff.1 hq).1
          omega
        · cases e
          rw [add_none]
          exact hcc j y hq) (fun u hu => by
      unfold intsV at hu
      obtain ⟨y, _, rfl⟩ := List.mem_map.1 hu
      rfl) (by unfold maxLen; omega) (by omega) hbase
    rw [intsV_append] at q1
    exact ⟨v', w', hr, q1, q2⟩
set_option maxRecDepth 100000 in
set_option maxHeartbeats 8000000 in
theorem nexts_walk (n : Nat) (t : DataW Unit) (k : Int) (s : ByteArray) (a : Option Addr) (len cap : Nat) (ga : Option Addr) (gl gc : Nat) (gs : List Grp) (za : Option Addr) (zl zc : Nat) (zs : List Int) (w : World) (h : Ex w n t (.agg #[.int .i64 k, .string s, .slice a len cap])) (hN : named n t) (hG : Groups w ga gl gs) (hZ : Ints w za zl zs) (hzc : za = none → zc = 0) (hcap : zl ≤ zc) (hcm : zc ≤ 9223372036854775807) (hT : Tab w) (hw0 : 0 < w.heap.size) :
    Calls Tryd.prog 5 #[(.agg #[.int .i64 k, .string s, .slice a len cap]), .slice ga gl gc, .slice za zl zc] w fun e w' => e = .returned (.bool true) ∧ Below w.heap.size w w' := by
  have HAW : Hid (∀ W : World, Calls Tryd.prog 7 #[] W fun e w' => e = .returned (.bool true) ∧ Below W.heap.size W w') := fun W => awake_calls W
  obtain ⟨w1, hw1⟩ : ∃ w1, w1 = w.alloc (.cells #[.int .i64 k, .string s, .slice a len cap] 24) := ⟨_, rfl⟩
  have hb1 : Below w.heap.size w w1 := by rw [hw1]; exact (Below.refl _ w).alloc (Nat.le_refl _) _
  have hs1 : w1.heap.size = w.heap.size + 1 := by rw [hw1]; simp
  have m0 : w1.heap[w.heap.size]? = some (.cells #[.int .i64 k, .string s, .slice a len cap] 24 (0, 0)) := by rw [hw1]; exact World.alloc_heap_new w _
  have HW1 : Hid (w.alloc (.cells #[.int .i64 k, .string s, .slice a len cap] 24) = w1) := hw1.symm
  have HB1 : Hid (∀ X : World, Below w1.heap.size w1 X → Below w.heap.size w X) := fun X hX => hb1.trans (hX.mono hb1.size)
  have HK : Hid (∀ X : World, Below w1.heap.size w1 X → X.cell? ⟨w.heap.size, 0, none⟩ = some (.int .i64 k) ∧ X.cell? ⟨w.heap.size, 1, none⟩ = some (.string s) ∧ X.cell? ⟨w.heap.size, 2, none⟩ = some (.slice a len cap)) := fun X hX => by
    obtain ⟨a0, a1, a2, _⟩ := cells3 ((hX.block _ (by omega)).trans m0)
    exact ⟨a0, a1, a2⟩
  have HZ : Hid (∀ X : World, Below w1.heap.size w1 X → Ints X za zl zs) := fun X hX => hZ.below (HB1.out X hX)
  have HC : Hid (Calls Tryd.prog 8 #[(.agg #[.int .i64 k, .string s, .slice a len cap]), .slice ga gl gc] w1 fun e w' => e = .returned (.int .i64 (chk n t gs)) ∧ Below w1.heap.size w1 w') := rcheck_calls n t _ ga gl gc gs w1 (Ex.below hb1 _ _ _ h) hN (hG.below hb1)
  have HBG : Hid (chk n t gs = 0 → ∀ (X : World) (ya : Option Addr) (yl yc : Nat) (ys : List Int), Below w1.heap.size w1 X → Ints X ya yl ys → Calls Tryd.prog 12 #[(.agg #[.int .i64 k, .string s, .slice a len cap]), .slice ga gl gc, .slice ya yl yc] X fun e w' => ∃ i : Nat, e = .returned (.int .i64 (i : Int)) ∧ LongD gs n t ys i ∧ Below X.heap.size X w') := fun hc X ya yl yc ys hX hY => by
    refine (begins_calls n t _ ga gl gc gs ya yl yc ys X (Ex.below (HB1.out X hX) _ _ _ h) hN (hG.below (HB1.out X hX)) hY hc).mono ?_
    rintro e W ⟨i, rfl, h1, h2⟩
    exact ⟨i, rfl, h1, h2⟩
  have HNX : Hid (chk n t gs = 0 → ∀ (X : World) (ya : Option Addr) (yl yc : Nat) (ys : List Int), Below w1.heap.size w1 X → Ints X ya yl ys → PreD gs n t ys → Calls Tryd.prog 15 #[(.agg #[.int .i64 k, .string s, .slice a len cap]), .slice ga gl gc, .slice ya yl yc] X fun e w' => ∃ (a : Option Addr) (c : Nat) (xs : List Int), e = .returned (.slice a xs.length c) ∧ Ints w' a xs.length xs ∧ (∀ x : Int, x ∈ xs ↔ PreD gs n t (ys ++ [x])) ∧ (∀ x ∈ xs, 0 ≤ x ∧ x < 16) ∧ xs.Pairwise (· < ·) ∧ xs.length ≤ 16 ∧ Below w1.heap.size w1 w') := fun hc X ya yl yc ys hX hY hp => by
    have hBX := HB1.out X hX
    refine (nexts_calls n t _ ga gl gc gs ya yl yc ys X (Ex.below hBX _ _ _ h) hN (hG.below hBX) hY hc hp (hT.below hBX hw0) (Nat.lt_of_lt_of_le hw0 hBX.size)).mono ?_
    rintro e W ⟨a', c', xs, rfl, q1, q2, q3, q4, q5, q6⟩
    exact ⟨a', c', xs, rfl, q1, q2, q3, q4, q5, hX.trans (q6.mono hX.size)⟩
  have HAC : Hid (chk n t gs = 0 → Says w1 (.agg #[.int .i64 k, .string s, .slice a len cap]) ga gl gc (LangD gs n t)) := fun hc => says_of (Ex.below hb1 _ _ _ h) hN (hG.below hb1) hc (fun _ => Iff.rfl)
  have HLP : Hid (chk n t gs = 0 → ∀ ys, LangD gs n t ys → PreD gs n t ys) := fun hc ys hy => ⟨0, (after_lang hc ys).2 hy⟩
  have hlen : zs.length = zl := hZ.1
  have hzi : (zl : Int) ≤ 9223372036854775807 := by have := hZ.2.1; omega
  have hzci : (zc : Int) ≤ 9223372036854775807 := by omega
  have hcapi : (zl : Int) ≤ (zc : Int) := by omega
  have HLEN : Hid (zs.length = zl) := hlen
  have hR0 : Below w1.heap.size w1 w1 := Below.refl _ _
  have hn1 : ∀ X : World, Below w1.heap.size w1 X → w.heap.size < X.heap.size := fun X hX => by have := hX.size; omega
  clear h hN hG hZ hT hw0 m0 hb1 hw1 hs1 hlen
  by_cases hc : chk n t gs ≠ 0
  · generalize chk n t gs = c at *
    have e0 : (c == 0) = false := by simpa using hc
    have e1 : (c != 0) = true := by simp [bne, e0]
    clear hn1
    go_enter Tryd.func5, Tryd.ntmps5
    go_wp2_with fail
    rw [HW1.out]
    refine HC.out.mono ?_
    rintro e W ⟨rfl, hW⟩
    go_wp2_with fail
    refine (HAW.out _).mono ?_
    rintro e XZ ⟨rfl, hXZ⟩
    have HEND := HB1.out _ (hW.trans (hXZ.mono hW.size))
    clear hXZ
    go_wp2
    go_ret
    first | exact HEND | exact ⟨rfl, HEND⟩
  have hc : chk n t gs = 0 := Classical.not_not.1 hc
  have HBG := HBG.out hc
  have HNX := HNX.out hc
  have HAC := HAC.out hc
  have HLP := HLP.out hc
  rw [hc] at HC
  clear hc
  have HBG : Hid (∀ (X : World) (ya : Option Addr) (yl yc : Nat) (ys : List Int), Below w1.heap.size w1 X → Ints X ya yl ys → Calls Tryd.prog 12 #[(.agg #[.int .i64 k, .string s, .slice a len cap]), .slice ga gl gc, .slice ya yl yc] X fun e w' => ∃ i : Nat, e = .returned (.int .i64 (i : Int)) ∧ LongD gs n t ys i ∧ Below X.heap.size X w') := HBG
  have HNX : Hid (∀ (X : World) (ya : Option Addr) (yl yc : Nat) (ys : List Int), Below w1.heap.size w1 X → Ints X ya yl ys → PreD gs n t ys → Calls Tryd.prog 15 #[(.agg #[.int .i64 k, .string s, .slice a len cap]), .slice ga gl gc, .slice ya yl yc] X fun e w' => ∃ (a : Option Addr) (c : Nat) (xs : List Int), e = .returned (.slice a xs.length c) ∧ Ints w' a xs.length xs ∧ (∀ x : Int, x ∈ xs ↔ PreD gs n t (ys ++ [x])) ∧ (∀ x ∈ xs, 0 ≤ x ∧ x < 16) ∧ xs.Pairwise (· < ·) ∧ xs.length ≤ 16 ∧ Below w1.heap.size w1 w') := HNX
  have HAC : Hid (Says w1 (.agg #[.int .i64 k, .string s, .slice a len cap]) ga gl gc (LangD gs n t)) := HAC
  have HLP : Hid (∀ ys, LangD gs n t ys → PreD gs n t ys) := HLP
  have hdc : ((0 : Int) != 0) = false := rfl
  by_cases hl : 100 < zl
  · have hd : decide ((100 : Int) < (zl : Int)) = true := by simp; omega
    clear hn1
    go_enter Tryd.func5, Tryd.ntmps5
    go_wp2_with fail
    rw [HW1.out]
    refine HC.out.mono ?_
    rintro e W ⟨rfl, hW⟩
    go_wp2_with fail
    refine (HAW.out _).mono ?_
    rintro e XZ ⟨rfl, hXZ⟩
    have HEND := HB1.out _ (hW.trans (hXZ.mono hW.size))
    clear hXZ
    go_wp2
    go_ret
    first | exact HEND | exact ⟨rfl, HEND⟩
  have hd : decide ((100 : Int) < (zl : Int)) = false := by simp; omega
  have HN1 : Hid (∀ X : World, Below w1.heap.size w1 X → w.heap.size < X.heap.size) := hn1
  clear hn1
  go_enter Tryd.func5, Tryd.ntmps5
  go_wp2_with fail
  rw [HW1.out]
  refine HC.out.mono ?_
  rintro e W ⟨rfl, hW⟩
  clear HC HW1
  obtain ⟨q0, q1, q2⟩ := HK.out W hW
  go_wp2_with fail
  refine (HBG.out W za zl zc zs hW (HZ.out W hW)).mono ?_
  rintro e W2 ⟨i, rfl, hlong, hW2'⟩
  have hW2 : Below w1.heap.size w1 W2 := hW.trans (hW2'.mono hW.size)
  clear hW2'
  clear q0 q1 q2 hW hd
  have HLO : Hid (LongD gs n t zs i) := hlong
  have hiz : i ≤ zl := by have := hlong.1; have := HLEN.out; omega
  have HPI : Hid (PreD gs n t (zs.take i)) := hlong.2.1
  have HNI : Hid (∀ y, zs[i]? = some y → ¬ PreD gs n t (zs.take i ++ [y])) := fun y hy hp => hlong.2.2 (List.getElem?_eq_some_iff.1 hy).1 (by rw [List.take_add_one, hy]; exact hp)
  have HTK : Hid (∀ X : World, Below w1.heap.size w1 X → Ints X za i (zs.take i)) := fun X hX => (HZ.out X hX).take hiz
  have HTL : Hid ((zs.take i).length = i) := by show _ = _; rw [List.length_take]; have := HLEN.out; omega
  clear hlong
  have hi0 : decide ((i : Int) < 0) = false := by simp
  have hi1 : decide ((zl : Int) < (i : Int)) = false := by simp; omega
  have hi6 : decide (zl < i) = false := by simp; omega
  have hi2 : (0 : Int) ≤ (i : Int) := by omega
  have hi3 : (i : Int) ≤ (zc : Int) := by omega
  have hi4 : (i : Int) ≤ (zl : Int) := by omega
  have hi5 : i ≤ zc := by omega
  go_wp2_with fail
  refine wp_region_held_drew (S := fun X => Below w1.heap.size w1 X) hmx hW2.drew (fun hS => ?_)
  refine takeD 0 (some 26) (v := ?_) rfl rfl (by kernel_rfl) (by kernel_rfl) (by kernel_rfl) (fun _ _ _ h => h) (Or.inl ⟨by rfl, ?_⟩) hS ?_
  rotate_left
  · intro w hSw
    try go_simp
    with_reducible rfl
  try simp only [Act.put, List.setIfInBounds_toArray, List.set_cons_zero, List.set_cons_succ]
  refine takeD 1 (some 27) (v := ?_) rfl rfl (by kernel_rfl) (by kernel_rfl) (by kernel_rfl) (fun _ _ _ h => h) (Or.inl ⟨by rfl, ?_⟩) hS ?_
  rotate_left
  · intro w hSw
    go_simp
    with_reducible rfl
  try simp only [Act.put, List.setIfInBounds_toArray, List.set_cons_zero, List.set_cons_succ]
  refine takeD 2 (some 28) (v := ?_) rfl rfl (by kernel_rfl) (by kernel_rfl) (by kernel_rfl) (fun _ _ _ h => h) (Or.inl ⟨by rfl, ?_⟩) hS ?_
  rotate_left
  · intro w hSw
    try go_simp
    with_reducible rfl
  try simp only [Act.put, List.setIfInBounds_toArray, List.set_cons_zero, List.set_cons_succ]
  refine takeD 3 (some 29) (v := ?_) rfl rfl (by kernel_rfl) (by kernel_rfl) (by kernel_rfl) (fun _ _ _ h => h) (Or.inl ⟨by rfl, ?_⟩) hS ?_
  rotate_left
  · intro w hSw
    try go_simp
    with_reducible rfl
  try simp only [Act.put, List.setIfInBounds_toArray, List.set_cons_zero, List.set_cons_succ]
  refine takeD 4 (some 30) (v := ?_) rfl rfl (by kernel_rfl) (by kernel_rfl) (by kernel_rfl) (fun _ _ _ h => h) (Or.inl ⟨by rfl, ?_⟩) hS ?_
  rotate_left
  · intro w hSw
    try go_simp
    with_reducible rfl
  try simp only [Act.put, List.setIfInBounds_toArray, List.set_cons_zero, List.set_cons_succ]
  refine takeD 5 (some 31) (v := ?_) rfl rfl (by kernel_rfl) (by kernel_rfl) (by kernel_rfl) (fun _ _ _ h => h) (Or.inl ⟨by rfl, ?_⟩) hS ?_
  rotate_left
  · intro w hSw
    go_simp
    with_reducible rfl
  try simp only [Act.put, List.setIfInBounds_toArray, List.set_cons_zero, List.set_cons_succ]
  refine takeD 6 (some 32) (v := ?_) rfl rfl (by kernel_rfl) (by kernel_rfl) (by kernel_rfl) (fun _ _ _ h => h) (Or.inl ⟨by rfl, ?_⟩) hS ?_
  rotate_left
  · intro w hSw
    go_simp
    with_reducible rfl
  try simp only [Act.put, List.setIfInBounds_toArray, List.set_cons_zero, List.set_cons_succ]
  refine takeD 7 (some 33) (v := ?_) rfl rfl (by kernel_rfl) (by kernel_rfl) (by kernel_rfl) (fun _ _ _ h => h) (Or.inl ⟨by rfl, ?_⟩) hS ?_
  rotate_left
  · intro w hSw
    go_simp
    with_reducible rfl
  try simp only [Act.put, List.setIfInBounds_toArray, List.set_cons_zero, List.set_cons_succ]
  refine takeD 8 (some 34) (v := ?_) rfl rfl (by kernel_rfl) (by kernel_rfl) (by kernel_rfl) (fun _ _ _ h => h) (Or.inl ⟨by rfl, ?_⟩) hS ?_
  rotate_left
  · intro w hSw
    try go_simp
    with_reducible rfl
  try simp only [Act.put, List.setIfInBounds_toArray, List.set_cons_zero, List.set_cons_succ]
  refine takeD 9 (some 35) (v := ?_) rfl rfl (by kernel_rfl) (by kernel_rfl) (by kernel_rfl) (fun _ _ _ h => h) (Or.inl ⟨by rfl, ?_⟩) hS ?_
  rotate_left
  · intro w hSw
    obtain ⟨q0, q1, q2⟩ := HK.out _ hSw
    go_simp
    with_reducible rfl
  try simp only [Act.put, List.setIfInBounds_toArray, List.set_cons_zero, List.set_cons_succ]
  refine takeD 10 (some 36) (v := ?_) rfl rfl (by kernel_rfl) (by kernel_rfl) (by kernel_rfl) (fun _ _ _ h => h) (Or.inl ⟨by rfl, ?_⟩) hS ?_
  rotate_left
  · intro w hSw
    try go_simp
    with_reducible rfl
  try simp only [Act.put, List.setIfInBounds_toArray, List.set_cons_zero, List.set_cons_succ]
  refine takeD 11 (some 37) (v := ?_) rfl rfl (by kernel_rfl) (by kernel_rfl) (by kernel_rfl) (fun _ _ _ h => h) (Or.inl ⟨by rfl, ?_⟩) hS ?_
  rotate_left
  · intro w hSw
    try go_simp
    with_reducible rfl
  try simp only [Act.put, List.setIfInBounds_toArray, List.set_cons_zero, List.set_cons_succ]
  refine takeD 12 (some 38) (v := ?_) rfl rfl (by kernel_rfl) (by kernel_rfl) (by kernel_rfl) (fun _ _ _ h => h) (Or.inl ⟨by rfl, ?_⟩) hS ?_
  rotate_left
  · intro w hSw
    try go_simp
    with_reducible rfl
  try simp only [Act.put, List.setIfInBounds_toArray, List.set_cons_zero, List.set_cons_succ]
  refine takeD 13 (some 39) (v := ?_) rfl rfl (by kernel_rfl) (by kernel_rfl) (by kernel_rfl) (fun _ _ _ h => h) (Or.inl ⟨by rfl, ?_⟩) hS ?_
  rotate_left
  · intro w hSw
    go_simp
    with_reducible rfl
  try simp only [Act.put, List.setIfInBounds_toArray, List.set_cons_zero, List.set_cons_succ]
  refine takeD 15 (some 41) (v := ?_) rfl rfl (by kernel_rfl) (by kernel_rfl) (by kernel_rfl) (fun _ _ _ h => h) (Or.inl ⟨by rfl, ?_⟩) hS ?_
  rotate_left
  · intro w hSw
    try go_simp
    with_reducible rfl
  try simp only [Act.put, List.setIfInBounds_toArray, List.set_cons_zero, List.set_cons_succ]
  refine callD 14 (by kernel_rfl) rfl (fun K hK => ?_)
  rw [if_pos (by rfl)]
  go_simp
  refine (HBG.out _ za i zc (zs.take i) hS (HTK.out _ hS)).mono ?_
  rintro e X1 ⟨i', rfl, hl', hX1'⟩
  have hX1 : Below w1.heap.size w1 X1 := hS.trans (hX1'.mono hS.size)
  obtain rfl : i = i' := HTL.out.symm.trans (long_all hl' HPI.out).symm
  clear hl'
  refine hK.out _ _ hX1 (fun _ => ?_)
  clear hK K
  try simp only [Act.put, List.setIfInBounds_toArray, List.set_cons_zero, List.set_cons_succ]
  refine takeD 16 (some 42) (v := ?_) rfl rfl (by kernel_rfl) (by kernel_rfl) (by kernel_rfl) (fun _ _ _ h => h) (Or.inl ⟨by rfl, ?_⟩) hX1 ?_
  rotate_left
  · intro w hSw
    go_simp
    with_reducible rfl
  try simp only [Act.put, List.setIfInBounds_toArray, List.set_cons_zero, List.set_cons_succ]
  refine takeD 17 (some 43) (v := ?_) rfl rfl (by kernel_rfl) (by kernel_rfl) (by kernel_rfl) (fun _ _ _ h => h) (Or.inl ⟨by rfl, ?_⟩) hX1 ?_
  rotate_left
  · intro w hSw
    go_simp
    with_reducible rfl
  try simp only [Act.put, List.setIfInBounds_toArray, List.set_cons_zero, List.set_cons_succ]
  refine takeD 18 (some 44) (v := ?_) rfl rfl (by kernel_rfl) (by kernel_rfl) (by kernel_rfl) (fun _ _ _ h => h) (Or.inl ⟨by rfl, ?_⟩) hX1 ?_
  rotate_left
  · intro w hSw
    try go_simp
    with_reducible rfl
  try simp only [Act.put, List.setIfInBounds_toArray, List.set_cons_zero, List.set_cons_succ]
  refine takeD 19 (some 45) (v := ?_) rfl rfl (by kernel_rfl) (by kernel_rfl) (by kernel_rfl) (fun _ _ _ h => h) (Or.inl ⟨by rfl, ?_⟩) hX1 ?_
  rotate_left
  · intro w hSw
    obtain ⟨q0, q1, q2⟩ := HK.out _ hSw
    go_simp
    with_reducible rfl
  try simp only [Act.put, List.setIfInBounds_toArray, List.set_cons_zero, List.set_cons_succ]
  refine takeD 20 (some 46) (v := ?_) rfl rfl (by kernel_rfl) (by kernel_rfl) (by kernel_rfl) (fun _ _ _ h => h) (Or.inl ⟨by rfl, ?_⟩) hX1 ?_
  rotate_left
  · intro w hSw
    try go_simp
    with_reducible rfl
  try simp only [Act.put, List.setIfInBounds_toArray, List.set_cons_zero, List.set_cons_succ]
  refine takeD 21 (some 47) (v := ?_) rfl rfl (by kernel_rfl) (by kernel_rfl) (by kernel_rfl) (fun _ _ _ h => h) (Or.inl ⟨by rfl, ?_⟩) hX1 ?_
  rotate_left
  · intro w hSw
    try go_simp
    with_reducible rfl
  try simp only [Act.put, List.setIfInBounds_toArray, List.set_cons_zero, List.set_cons_succ]
  refine callD 22 (by kernel_rfl) rfl (fun K hK => ?_)
  rw [if_pos (by rfl)]
  go_simp
  refine (HAC.out _ za zl zc zs hX1 (HZ.out _ hX1)).mono ?_
  rintro e X2 ⟨b, rfl, hb, hB⟩
  have hX2 : Below w1.heap.size w1 X2 := hX1.trans (hB.mono hX1.size)
  clear hB
  refine hK.out _ _ hX2 (fun _ => ?_)
  clear hK K
  try simp only [Act.put, List.setIfInBounds_toArray, List.set_cons_zero, List.set_cons_succ]
  have HE1 : Hid (b = true → i = zl) := fun hbt => (long_all HLO.out (HLP.out _ (hb.1 hbt))).trans HLEN.out
  clear hb HAC hX1 hS
  cases b with
  | true =>
    obtain rfl : i = zl := HE1.out rfl
    clear HE1
    refine takeD 23 (some 49) (v := ?_) rfl rfl (by kernel_rfl) (by kernel_rfl) (by kernel_rfl) (fun _ _ _ h => h) (Or.inl ⟨by rfl, ?_⟩) hX2 ?_
    rotate_left
    · intro w hSw
      try go_simp
      with_reducible rfl
    try simp only [Act.put, List.setIfInBounds_toArray, List.set_cons_zero, List.set_cons_succ]
    refine takeD 24 (some 50) (v := ?_) rfl rfl (by kernel_rfl) (by kernel_rfl) (by kernel_rfl) (fun _ _ _ h => h) (Or.inl ⟨by rfl, ?_⟩) hX2 ?_
    rotate_left
    · intro w hSw
      try go_simp
      with_reducible rfl
    try simp only [Act.put, List.setIfInBounds_toArray, List.set_cons_zero, List.set_cons_succ]
    refine takeD 25 (some 51) (v := ?_) rfl rfl (by kernel_rfl) (by kernel_rfl) (by kernel_rfl) (fun _ _ _ h => h) (Or.inl ⟨by rfl, ?_⟩) hX2 ?_
    rotate_left
    · intro w hSw
      try go_simp
      with_reducible rfl
    try simp only [Act.put, List.setIfInBounds_toArray, List.set_cons_zero, List.set_cons_succ]
    refine takeD 26 (some 52) (v := ?_) rfl rfl (by kernel_rfl) (by kernel_rfl) (by kernel_rfl) (fun _ _ _ h => h) (Or.inl ⟨by rfl, ?_⟩) hX2 ?_
    rotate_left
    · intro w hSw
      go_simp
      with_reducible rfl
    try simp only [Act.put, List.setIfInBounds_toArray, List.set_cons_zero, List.set_cons_succ]
    refine takeD 27 (some 53) (v := ?_) rfl rfl (by kernel_rfl) (by kernel_rfl) (by kernel_rfl) (fun _ _ _ h => h) (Or.inl ⟨by rfl, ?_⟩) hX2 ?_
    rotate_left
    · intro w hSw
      go_simp
      with_reducible rfl
    try simp only [Act.put, List.setIfInBounds_toArray, List.set_cons_zero, List.set_cons_succ]
    refine takeD 28 (some 54) (v := ?_) rfl rfl (by kernel_rfl) (by kernel_rfl) (by kernel_rfl) (fun _ _ _ h => h) (Or.inl ⟨by rfl, ?_⟩) hX2 ?_
    rotate_left
    · intro w hSw
      go_simp
      with_reducible rfl
    try simp only [Act.put, List.setIfInBounds_toArray, List.set_cons_zero, List.set_cons_succ]
    refine takeD 29 (some 55) (v := ?_) rfl rfl (by kernel_rfl) (by kernel_rfl) (by kernel_rfl) (fun _ _ _ h => h) (Or.inl ⟨by rfl, ?_⟩) hX2 ?_
    rotate_left
    · intro w hSw
      go_simp
      with_reducible rfl
    try simp only [Act.put, List.setIfInBounds_toArray, List.set_cons_zero, List.set_cons_succ]
    refine wpAnyH_done (by kernel_rfl) ?_ _
    go_wp2_with fail
    refine wp_region_held_drew (S := fun X => Below w1.heap.size w1 X) hmx hX2.drew (fun hS => ?_)
    refine takeD 0 (some 56) (v := ?_) rfl rfl (by kernel_rfl) (by kernel_rfl) (by kernel_rfl) (fun _ _ _ h => h) (Or.inl ⟨by rfl, ?_⟩) hS ?_
    rotate_left
    · intro w hSw
      obtain ⟨q0, q1, q2⟩ := HK.out _ hSw
      go_simp
      with_reducible rfl
    try simp only [Act.put, List.setIfInBounds_toArray, List.set_cons_zero, List.set_cons_succ]
    refine takeD 1 (some 57) (v := ?_) rfl rfl (by kernel_rfl) (by kernel_rfl) (by kernel_rfl) (fun _ _ _ h => h) (Or.inl ⟨by rfl, ?_⟩) hS ?_
    rotate_left
    · intro w hSw
      try go_simp
      with_reducible rfl
    try simp only [Act.put, List.setIfInBounds_toArray, List.set_cons_zero, List.set_cons_succ]
    refine takeD 2 (some 58) (v := ?_) rfl rfl (by kernel_rfl) (by kernel_rfl) (by kernel_rfl) (fun _ _ _ h => h) (Or.inl ⟨by rfl, ?_⟩) hS ?_
    rotate_left
    · intro w hSw
      try go_simp
      with_reducible rfl
    try simp only [Act.put, List.setIfInBounds_toArray, List.set_cons_zero, List.set_cons_succ]
    refine takeD 3 (some 59) (v := ?_) rfl rfl (by kernel_rfl) (by kernel_rfl) (by kernel_rfl) (fun _ _ _ h => h) (Or.inl ⟨by rfl, ?_⟩) hS ?_
    rotate_left
    · intro w hSw
      try go_simp
      with_reducible rfl
    try simp only [Act.put, List.setIfInBounds_toArray, List.set_cons_zero, List.set_cons_succ]
    refine takeD 4 (some 60) (v := ?_) rfl rfl (by kernel_rfl) (by kernel_rfl) (by kernel_rfl) (fun _ _ _ h => h) (Or.inl ⟨by rfl, ?_⟩) hS ?_
    rotate_left
    · intro w hSw
      go_simp
      with_reducible rfl
    try simp only [Act.put, List.setIfInBounds_toArray, List.set_cons_zero, List.set_cons_succ]
    refine callD 5 (by kernel_rfl) rfl (fun K hK => ?_)
    rw [if_pos (by rfl)]
    go_simp
    refine (HNX.out _ za i zc (zs.take i) hS (HTK.out _ hS) HPI.out).mono ?_
    rintro e X3 ⟨na, nc, xs, rfl, hnI, hnm, hns, hnr, hnl, hX3⟩
    refine hK.out _ _ hX3 (fun _ => ?_)
    clear hK K
    try simp only [Act.put, List.setIfInBounds_toArray, List.set_cons_zero, List.set_cons_succ]
    refine takeD 6 (some 8) (v := ?_) rfl rfl (by kernel_rfl) (by kernel_rfl) (by kernel_rfl) (fun _ _ _ h => h) (Or.inl ⟨by rfl, ?_⟩) hX3 ?_
    rotate_left
    · intro w hSw
      try go_simp
      with_reducible rfl
    try simp only [Act.put, List.setIfInBounds_toArray, List.set_cons_zero, List.set_cons_succ]
    refine wpAnyH_done (by kernel_rfl) ?_ _
    have HNM : Hid (∀ x, x ∈ xs ↔ PreD gs n t (zs.take i ++ [x])) := hnm
    have HT3 : Hid (∀ X : World, Below X3.heap.size X3 X → Below w1.heap.size w1 X) := fun X hX => hX3.trans (hX.mono hX3.size)
    have HXC : Hid (∀ (X : World) (m : Nat), Below X3.heap.size X3 X → m < xs.length → ∃ b o x, na = some ⟨b, o, none⟩ ∧ xs[m]? = some x ∧ X.cell? ⟨b, o + m, none⟩ = some (.int .i64 x)) := fun X m hX hm => by
      obtain ⟨b, o, x, e1, e2, e3⟩ := hnI.at hm
      exact ⟨b, o, x, e1, e2, e3 X hX⟩
    have HRI : Hid (∀ (m : Nat) (x y : Int), xs[m]? = some x → xs[m + 1]? = some y → x < y) := fun m x y hx hy => by
      obtain ⟨h1, e1⟩ := List.getElem?_eq_some_iff.1 hx
      obtain ⟨h2, e2⟩ := List.getElem?_eq_some_iff.1 hy
      have := List.pairwise_iff_getElem.1 hnr m (m + 1) h1 h2 (by omega)
      rwa [e1, e2] at this
    have hxl : (xs.length : Int) ≤ 9223372036854775807 := by omega
    have hi7 : (i : Int) + 1 ≤ 9223372036854775807 := by omega
    have hwi : IntKind.i64.wrap ((i : Int) + 1) = (i : Int) + 1 := wrap_i64 _ (by omega) (by omega)
    clear hnI hnm hns hnr hS hX2
    go_wp2_with fail
    go_loopw [9] (fun u wr => ∃ j : Nat, j ≤ 16 ∧ u = .int .i64 (j : Int) ∧ Below X3.heap.size X3 wr) (fun u _ => 16 - (intOf u).toNat)
    case atStart => exact ⟨0, Nat.zero_le _, rfl, Below.refl _ _⟩
    case round =>
      obtain ⟨j, hj, rfl, hB⟩ := hrel
      by_cases hlt : j < 16
      · have hji : (j : Int) < 16 := by omega
        go_wp2_with fail
        go_loopw [10, 11] (fun u v wr => ∃ m : Nat, m ≤ xs.length ∧ v = .int .i64 (m : Int) ∧ u = .bool (eqAny (j : Int) (xs.take m)) ∧ Below X3.heap.size X3 wr) (fun _ v _ => xs.length - (intOf v).toNat)
        case atStart => exact ⟨0, Nat.zero_le _, rfl, rfl, hB⟩
        case round =>
          obtain ⟨m, hm, rfl, rfl, hB2⟩ := hrel
          clear hB
          by_cases hml : m < xs.length
          · obtain ⟨b, o, x, rfl, hx, hcx⟩ := HXC.out wr m hB2 hml
            have HS : Hid (eqAny (j : Int) (xs.take (m + 1)) = (eqAny (j : Int) (xs.take m) || (x == (j : Int)))) := eqAny_take hx
            have hmi : (m : Int) < (xs.length : Int) := by omega
            have hm0 : (0 : Int) ≤ (m : Int) := by omega
            have HXS : Hid (∀ X : World, Below X3.heap.size X3 X → X.cell? ⟨b, o + m, none⟩ = some (.int .i64 x)) := fun X hX => by
              obtain ⟨b', o', x', e1, e2, e3⟩ := HXC.out X m hX hml
              cases e1
              rw [hx] at e2
              cases e2
              exact e3
            have HXP : Hid (∀ p y, m = p + 1 → xs[p]? = some y → y < x ∧ ∀ X : World, Below X3.heap.size X3 X → X.cell? ⟨b, o + p, none⟩ = some (.int .i64 y)) := fun p y e hy => by
              subst e
              refine ⟨HRI.out p y x hy hx, fun X hX => ?_⟩
              obtain ⟨b', o', x', e1, e2, e3⟩ := HXC.out X p hX (by omega)
              cases e1
              rw [hy] at e2
              cases e2
              exact e3
            clear hx
            generalize eqAny (j : Int) (xs.take m) = q at *
            by_cases h0 : m = 0
            · have hg0 : decide ((0 : Int) < (m : Int)) = false := by simp; omega
              have hg1 : decide (0 < m) = false := by simp; omega
              clear h0
              cases q with
              | true =>
                go_wp2_with fail
                refine wp_region_held_drew (S := fun X => Below X3.heap.size X3 X) hmx hB2.drew (fun hS => ?_)
                refine takeD 0 (some 81) (v := ?_) rfl rfl (by kernel_rfl) (by kernel_rfl) (by kernel_rfl) (fun _ _ _ h => h) (Or.inl ⟨by rfl, ?_⟩) hS ?_
                rotate_left
                · intro w hSw
                  try go_simp
                  with_reducible rfl
                try simp only [Act.put, List.setIfInBounds_toArray, List.set_cons_zero, List.set_cons_succ]
                refine takeD 1 (some 82) (v := ?_) rfl rfl (by kernel_rfl) (by kernel_rfl) (by kernel_rfl) (fun _ _ _ h => h) (Or.inl ⟨by rfl, ?_⟩) hS ?_
                rotate_left
                · intro w hSw
                  go_simp
                  with_reducible rfl
                try simp only [Act.put, List.setIfInBounds_toArray, List.set_cons_zero, List.set_cons_succ]
                refine takeD 2 (some 83) (v := ?_) rfl rfl (by kernel_rfl) (by kernel_rfl) (by kernel_rfl) (fun _ _ _ h => h) (Or.inl ⟨by rfl, ?_⟩) hS ?_
                rotate_left
                · intro w hSw
                  try go_simp
                  with_reducible rfl
                try simp only [Act.put, List.setIfInBounds_toArray, List.set_cons_zero, List.set_cons_succ]
                refine takeD 3 (some 84) (v := undef) rfl rfl (by kernel_rfl) (by kernel_rfl) (by kernel_rfl) (fun _ _ _ h => h) (Or.inr ⟨by rfl, rfl⟩) hS ?_
                try simp only [Act.put, List.setIfInBounds_toArray, List.set_cons_zero, List.set_cons_succ]
                refine takeD 4 (some 85) (v := undef) rfl rfl (by kernel_rfl) (by kernel_rfl) (by kernel_rfl) (fun _ _ _ h => h) (Or.inr ⟨by rfl, rfl⟩) hS ?_
                try simp only [Act.put, List.setIfInBounds_toArray, List.set_cons_zero, List.set_cons_succ]
                refine takeD 5 (some 86) (v := undef) rfl rfl (by kernel_rfl) (by kernel_rfl) (by kernel_rfl) (fun _ _ _ h => h) (Or.inr ⟨by rfl, rfl⟩) hS ?_
                try simp only [Act.put, List.setIfInBounds_toArray, List.set_cons_zero, List.set_cons_succ]
                refine takeD 6 (some 87) (v := undef) rfl rfl (by kernel_rfl) (by kernel_rfl) (by kernel_rfl) (fun _ _ _ h => h) (Or.inr ⟨by rfl, rfl⟩) hS ?_
                try simp only [Act.put, List.setIfInBounds_toArray, List.set_cons_zero, List.set_cons_succ]
                refine takeD 7 (some 88) (v := undef) rfl rfl (by kernel_rfl) (by kernel_rfl) (by kernel_rfl) (fun _ _ _ h => h) (Or.inr ⟨by rfl, rfl⟩) hS ?_
                try simp only [Act.put, List.setIfInBounds_toArray, List.set_cons_zero, List.set_cons_succ]
                refine takeD 8 (some 89) (v := undef) rfl rfl (by kernel_rfl) (by kernel_rfl) (by kernel_rfl) (fun _ _ _ h => h) (Or.inr ⟨by rfl, rfl⟩) hS ?_
                try simp only [Act.put, List.setIfInBounds_toArray, List.set_cons_zero, List.set_cons_succ]
                refine takeD 9 (some 90) (v := undef) rfl rfl (by kernel_rfl) (by kernel_rfl) (by kernel_rfl) (fun _ _ _ h => h) (Or.inr ⟨by rfl, rfl⟩) hS ?_
                try simp only [Act.put, List.setIfInBounds_toArray, List.set_cons_zero, List.set_cons_succ]
                refine takeD 10 (some 91) (v := undef) rfl rfl (by kernel_rfl) (by kernel_rfl) (by kernel_rfl) (fun _ _ _ h => h) (Or.inr ⟨by rfl, rfl⟩) hS ?_
                try simp only [Act.put, List.setIfInBounds_toArray, List.set_cons_zero, List.set_cons_succ]
                refine takeD 11 (some 92) (v := undef) rfl rfl (by kernel_rfl) (by kernel_rfl) (by kernel_rfl) (fun _ _ _ h => h) (Or.inr ⟨by rfl, rfl⟩) hS ?_
                try simp only [Act.put, List.setIfInBounds_toArray, List.set_cons_zero, List.set_cons_succ]
                refine takeD 12 (some 93) (v := undef) rfl rfl (by kernel_rfl) (by kernel_rfl) (by kernel_rfl) (fun _ _ _ h => h) (Or.inr ⟨by rfl, rfl⟩) hS ?_
                try simp only [Act.put, List.setIfInBounds_toArray, List.set_cons_zero, List.set_cons_succ]
                refine takeD 13 (some 94) (v := ?_) rfl rfl (by kernel_rfl) (by kernel_rfl) (by kernel_rfl) (fun _ _ _ h => h) (Or.inl ⟨by rfl, ?_⟩) hS ?_
                rotate_left
                · intro w hSw
                  go_simp
                  with_reducible rfl
                try simp only [Act.put, List.setIfInBounds_toArray, List.set_cons_zero, List.set_cons_succ]
                refine wpAnyH_done (by kernel_rfl) ?_ _
                go_wp2_with fail
                go_roundw
                case rel => exact ⟨m + 1, by omega, by first | rfl | go_num, by rw [HS.out]; first | rfl | simp, hB2.drew⟩
                case measure => simp [intOf]; omega
              | false =>
                go_wp2_with fail
                refine wp_region_held_drew (S := fun X => Below X3.heap.size X3 X) hmx hB2.drew (fun hS => ?_)
                refine takeD 0 (some 81) (v := ?_) rfl rfl (by kernel_rfl) (by kernel_rfl) (by kernel_rfl) (fun _ _ _ h => h) (Or.inl ⟨by rfl, ?_⟩) hS ?_
                rotate_left
                · intro w hSw
                  try go_simp
                  with_reducible rfl
                try simp only [Act.put, List.setIfInBounds_toArray, List.set_cons_zero, List.set_cons_succ]
                refine takeD 1 (some 82) (v := ?_) rfl rfl (by kernel_rfl) (by kernel_rfl) (by kernel_rfl) (fun _ _ _ h => h) (Or.inl ⟨by rfl, ?_⟩) hS ?_
                rotate_left
                · intro w hSw
                  go_simp
                  with_reducible rfl
                try simp only [Act.put, List.setIfInBounds_toArray, List.set_cons_zero, List.set_cons_succ]
                refine takeD 2 (some 83) (v := ?_) rfl rfl (by kernel_rfl) (by kernel_rfl) (by kernel_rfl) (fun _ _ _ h => h) (Or.inl ⟨by rfl, ?_⟩) hS ?_
                rotate_left
                · intro w hSw
                  try go_simp
                  with_reducible rfl
                try simp only [Act.put, List.setIfInBounds_toArray, List.set_cons_zero, List.set_cons_succ]
                refine takeD 3 (some 84) (v := undef) rfl rfl (by kernel_rfl) (by kernel_rfl) (by kernel_rfl) (fun _ _ _ h => h) (Or.inr ⟨by rfl, rfl⟩) hS ?_
                try simp only [Act.put, List.setIfInBounds_toArray, List.set_cons_zero, List.set_cons_succ]
                refine takeD 4 (some 85) (v := undef) rfl rfl (by kernel_rfl) (by kernel_rfl) (by kernel_rfl) (fun _ _ _ h => h) (Or.inr ⟨by rfl, rfl⟩) hS ?_
                try simp only [Act.put, List.setIfInBounds_toArray, List.set_cons_zero, List.set_cons_succ]
                refine takeD 5 (some 86) (v := undef) rfl rfl (by kernel_rfl) (by kernel_rfl) (by kernel_rfl) (fun _ _ _ h => h) (Or.inr ⟨by rfl, rfl⟩) hS ?_
                try simp only [Act.put, List.setIfInBounds_toArray, List.set_cons_zero, List.set_cons_succ]
                refine takeD 6 (some 87) (v := undef) rfl rfl (by kernel_rfl) (by kernel_rfl) (by kernel_rfl) (fun _ _ _ h => h) (Or.inr ⟨by rfl, rfl⟩) hS ?_
                try simp only [Act.put, List.setIfInBounds_toArray, List.set_cons_zero, List.set_cons_succ]
                refine takeD 7 (some 88) (v := undef) rfl rfl (by kernel_rfl) (by kernel_rfl) (by kernel_rfl) (fun _ _ _ h => h) (Or.inr ⟨by rfl, rfl⟩) hS ?_
                try simp only [Act.put, List.setIfInBounds_toArray, List.set_cons_zero, List.set_cons_succ]
                refine takeD 8 (some 89) (v := undef) rfl rfl (by kernel_rfl) (by kernel_rfl) (by kernel_rfl) (fun _ _ _ h => h) (Or.inr ⟨by rfl, rfl⟩) hS ?_
                try simp only [Act.put, List.setIfInBounds_toArray, List.set_cons_zero, List.set_cons_succ]
                refine takeD 9 (some 90) (v := undef) rfl rfl (by kernel_rfl) (by kernel_rfl) (by kernel_rfl) (fun _ _ _ h => h) (Or.inr ⟨by rfl, rfl⟩) hS ?_
                try simp only [Act.put, List.setIfInBounds_toArray, List.set_cons_zero, List.set_cons_succ]
                refine takeD 10 (some 91) (v := undef) rfl rfl (by kernel_rfl) (by kernel_rfl) (by kernel_rfl) (fun _ _ _ h => h) (Or.inr ⟨by rfl, rfl⟩) hS ?_
                try simp only [Act.put, List.setIfInBounds_toArray, List.set_cons_zero, List.set_cons_succ]
                refine takeD 11 (some 92) (v := undef) rfl rfl (by kernel_rfl) (by kernel_rfl) (by kernel_rfl) (fun _ _ _ h => h) (Or.inr ⟨by rfl, rfl⟩) hS ?_
                try simp only [Act.put, List.setIfInBounds_toArray, List.set_cons_zero, List.set_cons_succ]
                refine takeD 12 (some 93) (v := undef) rfl rfl (by kernel_rfl) (by kernel_rfl) (by kernel_rfl) (fun _ _ _ h => h) (Or.inr ⟨by rfl, rfl⟩) hS ?_
                try simp only [Act.put, List.setIfInBounds_toArray, List.set_cons_zero, List.set_cons_succ]
                refine takeD 13 (some 94) (v := ?_) rfl rfl (by kernel_rfl) (by kernel_rfl) (by kernel_rfl) (fun _ _ _ h => h) (Or.inl ⟨by rfl, ?_⟩) hS ?_
                rotate_left
                · intro w hSw
                  go_simp
                  with_reducible rfl
                try simp only [Act.put, List.setIfInBounds_toArray, List.set_cons_zero, List.set_cons_succ]
                refine wpAnyH_done (by kernel_rfl) ?_ _
                go_wp2_with fail
                go_roundw
                case rel => exact ⟨m + 1, by omega, by first | rfl | go_num, by rw [HS.out]; first | rfl | simp, hB2.drew⟩
                case measure => simp [intOf]; omega
            · obtain ⟨p, hp⟩ : ∃ p, m = p + 1 := ⟨m - 1, by omega⟩
              obtain ⟨y, hy⟩ : ∃ y, xs[p]? = some y := ⟨_, List.getElem?_eq_getElem (by omega)⟩
              obtain ⟨hyx, hcy⟩ := HXP.out p y hp hy
              have HCY : Hid (∀ X : World, Below X3.heap.size X3 X → X.cell? ⟨b, o + p, none⟩ = some (.int .i64 y)) := hcy
              have hpi : (m : Int) - 1 = (p : Int) := by omega
              have hwp : IntKind.i64.wrap (p : Int) = (p : Int) := by
                have h1 : (p : Int) < 16 := by omega
                have h2 : p < 16 := by omega
                have key : ∀ q : Fin 16, IntKind.i64.wrap (q.val : Int) = (q.val : Int) := by decide +kernel
                exact key ⟨p, h2⟩
              have hp0 : (0 : Int) ≤ (p : Int) := by omega
              have hpl : (p : Int) < (xs.length : Int) := by omega
              have hge : decide (x ≤ y) = false := by simp; omega
              have hg0 : decide ((0 : Int) < (m : Int)) = true := by simp; omega
              have hg1 : decide (0 < m) = true := by simp; omega
              clear hcy hy HXP h0 hp
              cases q with
              | true =>
                go_wp2_with fail
                refine wp_region_held_drew (S := fun X => Below X3.heap.size X3 X) hmx hB2.drew (fun hS => ?_)
                refine takeD 0 (some 81) (v := ?_) rfl rfl (by kernel_rfl) (by kernel_rfl) (by kernel_rfl) (fun _ _ _ h => h) (Or.inl ⟨by rfl, ?_⟩) hS ?_
                rotate_left
                · intro w hSw
                  try go_simp
                  with_reducible rfl
                try simp only [Act.put, List.setIfInBounds_toArray, List.set_cons_zero, List.set_cons_succ]
                refine takeD 1 (some 82) (v := ?_) rfl rfl (by kernel_rfl) (by kernel_rfl) (by kernel_rfl) (fun _ _ _ h => h) (Or.inl ⟨by rfl, ?_⟩) hS ?_
                rotate_left
                · intro w hSw
                  go_simp
                  with_reducible rfl
                try simp only [Act.put, List.setIfInBounds_toArray, List.set_cons_zero, List.set_cons_succ]
                refine takeD 2 (some 83) (v := ?_) rfl rfl (by kernel_rfl) (by kernel_rfl) (by kernel_rfl) (fun _ _ _ h => h) (Or.inl ⟨by rfl, ?_⟩) hS ?_
                rotate_left
                · intro w hSw
                  try go_simp
                  with_reducible rfl
                try simp only [Act.put, List.setIfInBounds_toArray, List.set_cons_zero, List.set_cons_succ]
                refine takeD 3 (some 84) (v := ?_) rfl rfl (by kernel_rfl) (by kernel_rfl) (by kernel_rfl) (fun _ _ _ h => h) (Or.inl ⟨by rfl, ?_⟩) hS ?_
                rotate_left
                · intro w hSw
                  try go_simp
                  with_reducible rfl
                try simp only [Act.put, List.setIfInBounds_toArray, List.set_cons_zero, List.set_cons_succ]
                refine takeD 4 (some 85) (v := ?_) rfl rfl (by kernel_rfl) (by kernel_rfl) (by kernel_rfl) (fun _ _ _ h => h) (Or.inl ⟨by rfl, ?_⟩) hS ?_
                rotate_left
                · intro w hSw
                  try go_simp
                  with_reducible rfl
                try simp only [Act.put, List.setIfInBounds_toArray, List.set_cons_zero, List.set_cons_succ]
                refine takeD 5 (some 86) (v := ?_) rfl rfl (by kernel_rfl) (by kernel_rfl) (by kernel_rfl) (fun _ _ _ h => h) (Or.inl ⟨by rfl, ?_⟩) hS ?_
                rotate_left
                · intro w hSw
                  go_simp
                  with_reducible rfl
                try simp only [Act.put, List.setIfInBounds_toArray, List.set_cons_zero, List.set_cons_succ]
                refine takeD 6 (some 87) (v := ?_) rfl rfl (by kernel_rfl) (by kernel_rfl) (by kernel_rfl) (fun _ _ _ h => h) (Or.inl ⟨by rfl, ?_⟩) hS ?_
                rotate_left
                · intro w hSw
                  go_simp
                  with_reducible rfl
                try simp only [Act.put, List.setIfInBounds_toArray, List.set_cons_zero, List.set_cons_succ]
                refine takeD 7 (some 88) (v := ?_) rfl rfl (by kernel_rfl) (by kernel_rfl) (by kernel_rfl) (fun _ _ _ h => h) (Or.inl ⟨by rfl, ?_⟩) hS ?_
                rotate_left
                · intro w hSw
                  have s1 := HXS.out _ hSw; have s2 := HCY.out _ hSw
                  go_simp
                  with_reducible rfl
                try simp only [Act.put, List.setIfInBounds_toArray, List.set_cons_zero, List.set_cons_succ]
                refine takeD 8 (some 89) (v := ?_) rfl rfl (by kernel_rfl) (by kernel_rfl) (by kernel_rfl) (fun _ _ _ h => h) (Or.inl ⟨by rfl, ?_⟩) hS ?_
                rotate_left
                · intro w hSw
                  try go_simp
                  with_reducible rfl
                try simp only [Act.put, List.setIfInBounds_toArray, List.set_cons_zero, List.set_cons_succ]
                refine takeD 9 (some 90) (v := ?_) rfl rfl (by kernel_rfl) (by kernel_rfl) (by kernel_rfl) (fun _ _ _ h => h) (Or.inl ⟨by rfl, ?_⟩) hS ?_
                rotate_left
                · intro w hSw
                  try go_simp
                  with_reducible rfl
                try simp only [Act.put, List.setIfInBounds_toArray, List.set_cons_zero, List.set_cons_succ]
                refine takeD 10 (some 91) (v := ?_) rfl rfl (by kernel_rfl) (by kernel_rfl) (by kernel_rfl) (fun _ _ _ h => h) (Or.inl ⟨by rfl, ?_⟩) hS ?_
                rotate_left
                · intro w hSw
                  go_simp
                  with_reducible rfl
                try simp only [Act.put, List.setIfInBounds_toArray, List.set_cons_zero, List.set_cons_succ]
                refine takeD 11 (some 92) (v := ?_) rfl rfl (by kernel_rfl) (by kernel_rfl) (by kernel_rfl) (fun _ _ _ h => h) (Or.inl ⟨by rfl, ?_⟩) hS ?_
                rotate_left
                · intro w hSw
                  have s1 := HXS.out _ hSw; have s2 := HCY.out _ hSw
                  go_simp
                  with_reducible rfl
                try simp only [Act.put, List.setIfInBounds_toArray, List.set_cons_zero, List.set_cons_succ]
                refine takeD 12 (some 93) (v := ?_) rfl rfl (by kernel_rfl) (by kernel_rfl) (by kernel_rfl) (fun _ _ _ h => h) (Or.inl ⟨by rfl, ?_⟩) hS ?_
                rotate_left
                · intro w hSw
                  go_simp
                  with_reducible rfl
                try simp only [Act.put, List.setIfInBounds_toArray, List.set_cons_zero, List.set_cons_succ]
                refine takeD 13 (some 94) (v := ?_) rfl rfl (by kernel_rfl) (by kernel_rfl) (by kernel_rfl) (fun _ _ _ h => h) (Or.inl ⟨by rfl, ?_⟩) hS ?_
                rotate_left
                · intro w hSw
                  go_simp
                  with_reducible rfl
                try simp only [Act.put, List.setIfInBounds_toArray, List.set_cons_zero, List.set_cons_succ]
                refine wpAnyH_done (by kernel_rfl) ?_ _
                go_wp2_with fail
                go_roundw
                case rel => exact ⟨m + 1, by omega, by first | rfl | go_num, by rw [HS.out]; first | rfl | simp, hB2.drew⟩
                case measure => simp [intOf]; omega
              | false =>
                go_wp2_with fail
                refine wp_region_held_drew (S := fun X => Below X3.heap.size X3 X) hmx hB2.drew (fun hS => ?_)
                refine takeD 0 (some 81) (v := ?_) rfl rfl (by kernel_rfl) (by kernel_rfl) (by kernel_rfl) (fun _ _ _ h => h) (Or.inl ⟨by rfl, ?_⟩) hS ?_
                rotate_left
                · intro w hSw
                  try go_simp
                  with_reducible rfl
                try simp only [Act.put, List.setIfInBounds_toArray, List.set_cons_zero, List.set_cons_succ]
                refine takeD 1 (some 82) (v := ?_) rfl rfl (by kernel_rfl) (by kernel_rfl) (by kernel_rfl) (fun _ _ _ h => h) (Or.inl ⟨by rfl, ?_⟩) hS ?_
                rotate_left
                · intro w hSw
                  go_simp
                  with_reducible rfl
                try simp only [Act.put, List.setIfInBounds_toArray, List.set_cons_zero, List.set_cons_succ]
                refine takeD 2 (some 83) (v := ?_) rfl rfl (by kernel_rfl) (by kernel_rfl) (by kernel_rfl) (fun _ _ _ h => h) (Or.inl ⟨by rfl, ?_⟩) hS ?_
                rotate_left
                · intro w hSw
                  try go_simp
                  with_reducible rfl
                try simp only [Act.put, List.setIfInBounds_toArray, List.set_cons_zero, List.set_cons_succ]
                refine takeD 3 (some 84) (v := ?_) rfl rfl (by kernel_rfl) (by kernel_rfl) (by kernel_rfl) (fun _ _ _ h => h) (Or.inl ⟨by rfl, ?_⟩) hS ?_
                rotate_left
                · intro w hSw
                  try go_simp
                  with_reducible rfl
                try simp only [Act.put, List.setIfInBounds_toArray, List.set_cons_zero, List.set_cons_succ]
                refine takeD 4 (some 85) (v := ?_) rfl rfl (by kernel_rfl) (by kernel_rfl) (by kernel_rfl) (fun _ _ _ h => h) (Or.inl ⟨by rfl, ?_⟩) hS ?_
                rotate_left
                · intro w hSw
                  try go_simp
                  with_reducible rfl
                try simp only [Act.put, List.setIfInBounds_toArray, List.set_cons_zero, List.set_cons_succ]
                refine takeD 5 (some 86) (v := ?_) rfl rfl (by kernel_rfl) (by kernel_rfl) (by kernel_rfl) (fun _ _ _ h => h) (Or.inl ⟨by rfl, ?_⟩) hS ?_
                rotate_left
                · intro w hSw
                  go_simp
                  with_reducible rfl
                try simp only [Act.put, List.setIfInBounds_toArray, List.set_cons_zero, List.set_cons_succ]
                refine takeD 6 (some 87) (v := ?_) rfl rfl (by kernel_rfl) (by kernel_rfl) (by kernel_rfl) (fun _ _ _ h => h) (Or.inl ⟨by rfl, ?_⟩) hS ?_
                rotate_left
                · intro w hSw
                  go_simp
                  with_reducible rfl
                try simp only [Act.put, List.setIfInBounds_toArray, List.set_cons_zero, List.set_cons_succ]
                refine takeD 7 (some 88) (v := ?_) rfl rfl (by kernel_rfl) (by kernel_rfl) (by kernel_rfl) (fun _ _ _ h => h) (Or.inl ⟨by rfl, ?_⟩) hS ?_
                rotate_left
                · intro w hSw
                  have s1 := HXS.out _ hSw; have s2 := HCY.out _ hSw
                  go_simp
                  with_reducible rfl
                try simp only [Act.put, List.setIfInBounds_toArray, List.set_cons_zero, List.set_cons_succ]
                refine takeD 8 (some 89) (v := ?_) rfl rfl (by kernel_rfl) (by kernel_rfl) (by kernel_rfl) (fun _ _ _ h => h) (Or.inl ⟨by rfl, ?_⟩) hS ?_
                rotate_left
                · intro w hSw
                  try go_simp
                  with_reducible rfl
                try simp only [Act.put, List.setIfInBounds_toArray, List.set_cons_zero, List.set_cons_succ]
                refine takeD 9 (some 90) (v := ?_) rfl rfl (by kernel_rfl) (by kernel_rfl) (by kernel_rfl) (fun _ _ _ h => h) (Or.inl ⟨by rfl, ?_⟩) hS ?_
                rotate_left
                · intro w hSw
                  try go_simp
                  with_reducible rfl
                try simp only [Act.put, List.setIfInBounds_toArray, List.set_cons_zero, List.set_cons_succ]
                refine takeD 10 (some 91) (v := ?_) rfl rfl (by kernel_rfl) (by kernel_rfl) (by kernel_rfl) (fun _ _ _ h => h) (Or.inl ⟨by rfl, ?_⟩) hS ?_
                rotate_left
                · intro w hSw
                  go_simp
                  with_reducible rfl
                try simp only [Act.put, List.setIfInBounds_toArray, List.set_cons_zero, List.set_cons_succ]
                refine takeD 11 (some 92) (v := ?_) rfl rfl (by kernel_rfl) (by kernel_rfl) (by kernel_rfl) (fun _ _ _ h => h) (Or.inl ⟨by rfl, ?_⟩) hS ?_
                rotate_left
                · intro w hSw
                  have s1 := HXS.out _ hSw; have s2 := HCY.out _ hSw
                  go_simp
                  with_reducible rfl
                try simp only [Act.put, List.setIfInBounds_toArray, List.set_cons_zero, List.set_cons_succ]
                refine takeD 12 (some 93) (v := ?_) rfl rfl (by kernel_rfl) (by kernel_rfl) (by kernel_rfl) (fun _ _ _ h => h) (Or.inl ⟨by rfl, ?_⟩) hS ?_
                rotate_left
                · intro w hSw
                  go_simp
                  with_reducible rfl
                try simp only [Act.put, List.setIfInBounds_toArray, List.set_cons_zero, List.set_cons_succ]
                refine takeD 13 (some 94) (v := ?_) rfl rfl (by kernel_rfl) (by kernel_rfl) (by kernel_rfl) (fun _ _ _ h => h) (Or.inl ⟨by rfl, ?_⟩) hS ?_
                rotate_left
                · intro w hSw
                  go_simp
                  with_reducible rfl
                try simp only [Act.put, List.setIfInBounds_toArray, List.set_cons_zero, List.set_cons_succ]
                refine wpAnyH_done (by kernel_rfl) ?_ _
                go_wp2_with fail
                go_roundw
                case rel => exact ⟨m + 1, by omega, by first | rfl | go_num, by rw [HS.out]; first | rfl | simp, hB2.drew⟩
                case measure => simp [intOf]; omega
          · obtain rfl : m = xs.length := by omega
            obtain ⟨R, hRR⟩ : ∃ R, eqAny (j : Int) xs = R := ⟨_, rfl⟩
            have HM : Hid (R = true ↔ PreD gs n t (zs.take i ++ [(j : Int)])) := by
              show _ ↔ _
              rw [← hRR, eqAny_iff, HNM.out]
            rw [List.take_of_length_le (Nat.le_refl _), hRR]
            clear hRR
            go_wp2_with fail
            refine wp_region_held_drew (S := fun X => Below X3.heap.size X3 X) hmx hB2.drew (fun hS => ?_)
            refine takeD 0 (some 95) (v := ?_) rfl rfl (by kernel_rfl) (by kernel_rfl) (by kernel_rfl) (fun _ _ _ h => h) (Or.inl ⟨by rfl, ?_⟩) hS ?_
            rotate_left
            · intro w hSw
              try go_simp
              with_reducible rfl
            try simp only [Act.put, List.setIfInBounds_toArray, List.set_cons_zero, List.set_cons_succ]
            refine takeD 1 (some 96) (v := ?_) rfl rfl (by kernel_rfl) (by kernel_rfl) (by kernel_rfl) (fun _ _ _ h => h) (Or.inl ⟨by rfl, ?_⟩) hS ?_
            rotate_left
            · intro w hSw
              obtain ⟨q0, q1, q2⟩ := HK.out _ (HT3.out _ hSw)
              go_simp
              with_reducible rfl
            try simp only [Act.put, List.setIfInBounds_toArray, List.set_cons_zero, List.set_cons_succ]
            refine takeD 2 (some 97) (v := ?_) rfl rfl (by kernel_rfl) (by kernel_rfl) (by kernel_rfl) (fun _ _ _ h => h) (Or.inl ⟨by rfl, ?_⟩) hS ?_
            rotate_left
            · intro w hSw
              try go_simp
              with_reducible rfl
            try simp only [Act.put, List.setIfInBounds_toArray, List.set_cons_zero, List.set_cons_succ]
            refine takeD 4 (some 99) (v := ?_) rfl rfl (by kernel_rfl) (by kernel_rfl) (by kernel_rfl) (fun _ _ _ h => h) (Or.inl ⟨by rfl, ?_⟩) hS ?_
            rotate_left
            · intro w hSw
              try go_simp
              with_reducible rfl
            try simp only [Act.put, List.setIfInBounds_toArray, List.set_cons_zero, List.set_cons_succ]
            refine takeD 5 (some 100) (v := ?_) rfl rfl (by kernel_rfl) (by kernel_rfl) (by kernel_rfl) (fun _ _ _ h => h) (Or.inl ⟨by rfl, ?_⟩) hS ?_
            rotate_left
            · intro w hSw
              try go_simp
              with_reducible rfl
            try simp only [Act.put, List.setIfInBounds_toArray, List.set_cons_zero, List.set_cons_succ]
            refine takeD 6 (some 101) (v := ?_) rfl rfl (by kernel_rfl) (by kernel_rfl) (by kernel_rfl) (fun _ _ _ h => h) (Or.inl ⟨by rfl, ?_⟩) hS ?_
            rotate_left
            · intro w hSw
              go_simp
              with_reducible rfl
            try simp only [Act.put, List.setIfInBounds_toArray, List.set_cons_zero, List.set_cons_succ]
            refine takeD 8 (some 103) (v := ?_) rfl rfl (by kernel_rfl) (by kernel_rfl) (by kernel_rfl) (fun _ _ _ h => h) (Or.inl ⟨by rfl, ?_⟩) hS ?_
            rotate_left
            · intro w hSw
              try go_simp
              with_reducible rfl
            try simp only [Act.put, List.setIfInBounds_toArray, List.set_cons_zero, List.set_cons_succ]
            refine takeD 12 (some 107) (v := ?_) rfl rfl (by kernel_rfl) (by kernel_rfl) (by kernel_rfl) (fun _ _ _ h => h) (Or.inl ⟨by rfl, ?_⟩) hS ?_
            rotate_left
            · intro w hSw
              try go_simp
              with_reducible rfl
            try simp only [Act.put, List.setIfInBounds_toArray, List.set_cons_zero, List.set_cons_succ]
            refine takeD 13 (some 108) (v := ?_) rfl rfl (by kernel_rfl) (by kernel_rfl) (by kernel_rfl) (fun _ _ _ h => h) (Or.inl ⟨by rfl, ?_⟩) hS ?_
            rotate_left
            · intro w hSw
              go_simp
              with_reducible rfl
            try simp only [Act.put, List.setIfInBounds_toArray, List.set_cons_zero, List.set_cons_succ]
            refine wpAnyH_ready (rs := [3, 9]) (by kernel_rfl) (by simp) (AllReadyH.cons rfl (fun K hK => ?_) (AllReadyH.cons rfl (fun K hK => ?_) AllReadyH.nil))
            · have hA : Below X3.heap.size X3 (wr.drew.alloc (.cells #[] 3)) := hB2.drew.alloc hB2.size _
              have hown0 : (wr.drew.alloc (.cells #[] 3)).ownsRow wr.heap.size 3 1 (.slice (some ⟨wr.heap.size, 0, none⟩) 0 0) 0 (intsV []) := owned_nil wr.drew _ (Nat.le_refl _)
              rw [if_pos (by rfl)]
              go_simp
              refine hK.out _ _ hA (fun _ => ?_)
              clear hK K
              try simp only [Act.put, List.setIfInBounds_toArray, List.set_cons_zero, List.set_cons_succ]
              refine wpAnyH_ready (rs := [7, 9]) (by kernel_rfl) (by simp) (AllReadyH.cons rfl (fun K hK => ?_) (AllReadyH.cons rfl (fun K hK => ?_) AllReadyH.nil))
              · obtain ⟨v1, Y1, hr1, hown1, hg1⟩ := run_append_ints (wr.drew.alloc (.cells #[] 3)) wr.heap.size _ 0 [] hown0 za i zc (zs.take i) hzc (HTK.out _ (HT3.out _ hA)) (by omega) (by simp; try omega)
                rw [Nat.zero_add, List.nil_append] at hown1
                have hY1 : Below X3.heap.size X3 Y1 := hA.grown hg1 hA.size (fun k e => Nat.le_trans hB2.size (owned_base hown0 e))
                rw [if_pos (by rfl)]
                refine wp_run_append _ _ 26 rfl _ _ v1 Y1 rfl rfl hr1 ?_
                try simp only [Act.put, List.setIfInBounds_toArray]
                refine hK.out _ _ hY1 (fun _ => ?_)
                clear hK K
                try simp only [Act.put, List.setIfInBounds_toArray, List.set_cons_zero, List.set_cons_succ]
                have hY2 : Below X3.heap.size X3 (Y1.alloc (.cells #[.int .i64 (j : Int)] 3)) := hY1.alloc hY1.size _
                have hown1' := hown1.alloc (.cells #[.int .i64 (j : Int)] 3)
                have hI1 := Ints.one (World.alloc_heap_new Y1 (.cells #[.int .i64 (j : Int)] 3))
                have hbs : wr.heap.size ≤ X3.heap.size ∨ True := .inr trivial
                obtain ⟨v2, Y3, hr2, hown2, hg2⟩ := run_append_ints (Y1.alloc (.cells #[.int .i64 (j : Int)] 3)) wr.heap.size v1 i (zs.take i) hown1' (some ⟨Y1.heap.size, 0, none⟩) 1 1 [(j : Int)] (fun e => by cases e) hI1 (by omega) (by have := hg1.size; simp at this ⊢; omega)
                have hY3 : Below X3.heap.size X3 Y3 := hY2.grown hg2 hY2.size (fun k e => Nat.le_trans hB2.size (owned_base hown1' e))
                obtain ⟨ra, rc, rfl, hR⟩ := owned_ints hown2 (by omega)
                refine callD 9 (by kernel_rfl) rfl (fun K hK => ?_)
                rw [if_pos (by rfl)]
                go_simp
                refine hK.out _ _ hY2 (fun _ => ?_)
                clear hK K
                try simp only [Act.put, List.setIfInBounds_toArray, List.set_cons_zero, List.set_cons_succ]
                refine callD 10 (by kernel_rfl) rfl (fun K hK => ?_)
                rw [if_pos (by rfl)]
                refine wp_run_append _ _ 26 rfl _ _ _ Y3 rfl rfl hr2 ?_
                try simp only [Act.put, List.setIfInBounds_toArray]
                refine hK.out _ _ hY3 (fun _ => ?_)
                clear hK K
                try simp only [Act.put, List.setIfInBounds_toArray, List.set_cons_zero, List.set_cons_succ]
                refine callD 11 (by kernel_rfl) rfl (fun K hK => ?_)
                rw [if_pos (by rfl)]
                go_simp
                refine (HBG.out _ ra (i + 1) rc (zs.take i ++ [(j : Int)]) (HT3.out _ hY3) hR).mono ?_
                rintro e Y9 ⟨i2, rfl, hl2, hY9'⟩
                have hY9 : Below X3.heap.size X3 Y9 := hY3.trans (hY9'.mono hY3.size)
                have hlen2 : (zs.take i ++ [(j : Int)]).length = i + 1 := by rw [List.length_append, HTL.out]; rfl
                have hqq : ((i2 : Int) == (i : Int) + 1) = R := by
                  rw [Bool.eq_iff_iff, HM.out, beq_iff_eq]
                  constructor
                  · intro e; exact long_of hl2 (by omega)
                  · intro e
                    have := long_all hl2 e
                    omega
                clear hl2 hY9' hlen2
                refine hK.out _ _ hY9 (fun _ => ?_)
                clear hK K hR
                try simp only [Act.put, List.setIfInBounds_toArray, List.set_cons_zero, List.set_cons_succ]
                refine takeD 14 (some 109) (v := ?_) rfl rfl (by kernel_rfl) (by kernel_rfl) (by kernel_rfl) (fun _ _ _ h => h) (Or.inl ⟨by rfl, ?_⟩) hY9 ?_
                rotate_left
                · intro w hSw
                  go_simp
                  with_reducible rfl
                try simp only [Act.put, List.setIfInBounds_toArray, List.set_cons_zero, List.set_cons_succ]
                refine takeD 15 (some 110) (v := ?_) rfl rfl (by kernel_rfl) (by kernel_rfl) (by kernel_rfl) (fun _ _ _ h => h) (Or.inl ⟨by rfl, ?_⟩) hY9 ?_
                rotate_left
                · intro w hSw
                  go_simp
                  with_reducible rfl
                try simp only [Act.put, List.setIfInBounds_toArray, List.set_cons_zero, List.set_cons_succ]
                refine wpAnyH_done (by kernel_rfl) ?_ _
                clear hr1 hr2 hown1 hown2 hg1 hg2
                try clear hown1'
                try clear hown0'
                try clear hown0
                try clear hI1
                try clear hone1
                try clear hone
                try clear hbs
                clear hqq HM
                go_wp2_with fail
                go_roundw
                case rel => exact ⟨j + 1, by omega, by first | rfl | go_num, hY9⟩
                case measure => simp [intOf]; omega
              · have hA2 : Below X3.heap.size X3 ((wr.drew.alloc (.cells #[] 3)).alloc (.cells #[.int .i64 (j : Int)] 3)) := hA.alloc hA.size _
                have hown0' := hown0.alloc (.cells #[.int .i64 (j : Int)] 3)
                have hone : ((wr.drew.alloc (.cells #[] 3)).alloc (.cells #[.int .i64 (j : Int)] 3)).heap[wr.heap.size + 1]? = some (.cells #[.int .i64 (j : Int)] 3 (0, 0)) := at_new (by simp)
                rw [if_pos (by rfl)]
                go_simp
                refine hK.out _ _ hA2 (fun _ => ?_)
                clear hK K
                try simp only [Act.put, List.setIfInBounds_toArray, List.set_cons_zero, List.set_cons_succ]
                obtain ⟨v1, Y1, hr1, hown1, hg1⟩ := run_append_ints ((wr.drew.alloc (.cells #[] 3)).alloc (.cells #[.int .i64 (j : Int)] 3)) wr.heap.size _ 0 [] hown0' za i zc (zs.take i) hzc (HTK.out _ (HT3.out _ hA2)) (by omega) (by simp; try omega)
                rw [Nat.zero_add, List.nil_append] at hown1
                have hY1 : Below X3.heap.size X3 Y1 := hA2.grown hg1 hA2.size (fun k e => Nat.le_trans hB2.size (owned_base hown0' e))
                have hone1 : Y1.heap[wr.heap.size + 1]? = some (.cells #[.int .i64 (j : Int)] 3 (0, 0)) := (hg1.block _ (by simp) (fun e => by have := own_some e.symm; omega)).trans hone
                have hI1 := Ints.one hone1
                obtain ⟨v2, Y3, hr2, hown2, hg2⟩ := run_append_ints Y1 wr.heap.size v1 i (zs.take i) hown1 (some ⟨wr.heap.size + 1, 0, none⟩) 1 1 [(j : Int)] (fun e => by cases e) hI1 (by omega) (by have := hg1.size; simp at this; omega)
                have hY3 : Below X3.heap.size X3 Y3 := hY1.grown hg2 hY1.size (fun k e => Nat.le_trans hB2.size (owned_base hown1 e))
                obtain ⟨ra, rc, rfl, hR⟩ := owned_ints hown2 (by omega)
                refine callD 7 (by kernel_rfl) rfl (fun K hK => ?_)
                rw [if_pos (by rfl)]
                refine wp_run_append _ _ 26 rfl _ _ v1 Y1 rfl rfl hr1 ?_
                try simp only [Act.put, List.setIfInBounds_toArray]
                refine hK.out _ _ hY1 (fun _ => ?_)
                clear hK K
                try simp only [Act.put, List.setIfInBounds_toArray, List.set_cons_zero, List.set_cons_succ]
                refine callD 10 (by kernel_rfl) rfl (fun K hK => ?_)
                rw [if_pos (by rfl)]
                refine wp_run_append _ _ 26 rfl _ _ _ Y3 rfl rfl hr2 ?_
                try simp only [Act.put]
                refine hK.out _ _ hY3 (fun _ => ?_)
                clear hK K
                try simp only [Act.put, List.setIfInBounds_toArray, List.set_cons_zero, List.set_cons_succ]
                refine callD 11 (by kernel_rfl) rfl (fun K hK => ?_)
                rw [if_pos (by rfl)]
                go_simp
                refine (HBG.out _ ra (i + 1) rc (zs.take i ++ [(j : Int)]) (HT3.out _ hY3) hR).mono ?_
                rintro e Y9 ⟨i2, rfl, hl2, hY9'⟩
                have hY9 : Below X3.heap.size X3 Y9 := hY3.trans (hY9'.mono hY3.size)
                have hlen2 : (zs.take i ++ [(j : Int)]).length = i + 1 := by rw [List.length_append, HTL.out]; rfl
                have hqq : ((i2 : Int) == (i : Int) + 1) = R := by
                  rw [Bool.eq_iff_iff, HM.out, beq_iff_eq]
                  constructor
                  · intro e; exact long_of hl2 (by omega)
                  · intro e
                    have := long_all hl2 e
                    omega
                clear hl2 hY9' hlen2
                refine hK.out _ _ hY9 (fun _ => ?_)
                clear hK K hR
                try simp only [Act.put, List.setIfInBounds_toArray, List.set_cons_zero, List.set_cons_succ]
                refine takeD 14 (some 109) (v := ?_) rfl rfl (by kernel_rfl) (by kernel_rfl) (by kernel_rfl) (fun _ _ _ h => h) (Or.inl ⟨by rfl, ?_⟩) hY9 ?_
                rotate_left
                · intro w hSw
                  go_simp
                  with_reducible rfl
                try simp only [Act.put, List.setIfInBounds_toArray, List.set_cons_zero, List.set_cons_succ]
                refine takeD 15 (some 110) (v := ?_) rfl rfl (by kernel_rfl) (by kernel_rfl) (by kernel_rfl) (fun _ _ _ h => h) (Or.inl ⟨by rfl, ?_⟩) hY9 ?_
                rotate_left
                · intro w hSw
                  go_simp
                  with_reducible rfl
                try simp only [Act.put, List.setIfInBounds_toArray, List.set_cons_zero, List.set_cons_succ]
                refine wpAnyH_done (by kernel_rfl) ?_ _
                clear hr1 hr2 hown1 hown2 hg1 hg2
                try clear hown1'
                try clear hown0'
                try clear hown0
                try clear hI1
                try clear hone1
                try clear hone
                try clear hbs
                clear hqq HM
                go_wp2_with fail
                go_roundw
                case rel => exact ⟨j + 1, by omega, by first | rfl | go_num, hY9⟩
                case measure => simp [intOf]; omega
            · have hA : Below X3.heap.size X3 (wr.drew.alloc (.cells #[.int .i64 (j : Int)] 3)) := hB2.drew.alloc hB2.size _
              have hA2 : Below X3.heap.size X3 ((wr.drew.alloc (.cells #[.int .i64 (j : Int)] 3)).alloc (.cells #[] 3)) := hA.alloc hA.size _
              have hown0 : ((wr.drew.alloc (.cells #[.int .i64 (j : Int)] 3)).alloc (.cells #[] 3)).ownsRow wr.heap.size 3 1 (.slice (some ⟨wr.heap.size + 1, 0, none⟩) 0 0) 0 (intsV []) := by
                have := owned_nil (wr.drew.alloc (.cells #[.int .i64 (j : Int)] 3)) wr.heap.size (by simp)
                simpa using this
              have hone : ((wr.drew.alloc (.cells #[.int .i64 (j : Int)] 3)).alloc (.cells #[] 3)).heap[wr.heap.size]? = some (.cells #[.int .i64 (j : Int)] 3 (0, 0)) := (at_old (by simp)).trans (at_new rfl)
              rw [if_pos (by rfl)]
              go_simp
              refine hK.out _ _ hA (fun _ => ?_)
              clear hK K
              try simp only [Act.put, List.setIfInBounds_toArray, List.set_cons_zero, List.set_cons_succ]
              obtain ⟨v1, Y1, hr1, hown1, hg1⟩ := run_append_ints ((wr.drew.alloc (.cells #[.int .i64 (j : Int)] 3)).alloc (.cells #[] 3)) wr.heap.size _ 0 [] hown0 za i zc (zs.take i) hzc (HTK.out _ (HT3.out _ hA2)) (by omega) (by simp; try omega)
              rw [Nat.zero_add, List.nil_append] at hown1
              have hY1 : Below X3.heap.size X3 Y1 := hA2.grown hg1 hA2.size (fun k e => Nat.le_trans hB2.size (owned_base hown0 e))
              have hone1 : Y1.heap[wr.heap.size]? = some (.cells #[.int .i64 (j : Int)] 3 (0, 0)) := (hg1.block _ (by simp; omega) (fun e => by have := own_some e.symm; omega)).trans hone
              have hI1 := Ints.one hone1
              obtain ⟨v2, Y3, hr2, hown2, hg2⟩ := run_append_ints Y1 wr.heap.size v1 i (zs.take i) hown1 (some ⟨wr.heap.size, 0, none⟩) 1 1 [(j : Int)] (fun e => by cases e) hI1 (by omega) (by have := hg1.size; simp at this; omega)
              have hY3 : Below X3.heap.size X3 Y3 := hY1.grown hg2 hY1.size (fun k e => Nat.le_trans hB2.size (owned_base hown1 e))
              obtain ⟨ra, rc, rfl, hR⟩ := owned_ints hown2 (by omega)
              refine callD 3 (by kernel_rfl) rfl (fun K hK => ?_)
              rw [if_pos (by rfl)]
              go_simp
              refine hK.out _ _ hA2 (fun _ => ?_)
              clear hK K
              try simp only [Act.put, List.setIfInBounds_toArray, List.set_cons_zero, List.set_cons_succ]
              refine callD 7 (by kernel_rfl) rfl (fun K hK => ?_)
              rw [if_pos (by rfl)]
              refine wp_run_append _ _ 26 rfl _ _ v1 Y1 rfl rfl hr1 ?_
              try simp only [Act.put, List.setIfInBounds_toArray]
              refine hK.out _ _ hY1 (fun _ => ?_)
              clear hK K
              try simp only [Act.put, List.setIfInBounds_toArray, List.set_cons_zero, List.set_cons_succ]
              refine callD 10 (by kernel_rfl) rfl (fun K hK => ?_)
              rw [if_pos (by rfl)]
              refine wp_run_append _ _ 26 rfl _ _ _ Y3 rfl rfl hr2 ?_
              try simp only [Act.put]
              refine hK.out _ _ hY3 (fun _ => ?_)
              clear hK K
              try simp only [Act.put, List.setIfInBounds_toArray, List.set_cons_zero, List.set_cons_succ]
              refine callD 11 (by kernel_rfl) rfl (fun K hK => ?_)
              rw [if_pos (by rfl)]
              go_simp
              refine (HBG.out _ ra (i + 1) rc (zs.take i ++ [(j : Int)]) (HT3.out _ hY3) hR).mono ?_
              rintro e Y9 ⟨i2, rfl, hl2, hY9'⟩
              have hY9 : Below X3.heap.size X3 Y9 := hY3.trans (hY9'.mono hY3.size)
              have hlen2 : (zs.take i ++ [(j : Int)]).length = i + 1 := by rw [List.length_append, HTL.out]; rfl
              have hqq : ((i2 : Int) == (i : Int) + 1) = R := by
                rw [Bool.eq_iff_iff, HM.out, beq_iff_eq]
                constructor
                · intro e; exact long_of hl2 (by omega)
                · intro e
                  have := long_all hl2 e
                  omega
              clear hl2 hY9' hlen2
              refine hK.out _ _ hY9 (fun _ => ?_)
              clear hK K hR
              try simp only [Act.put, List.setIfInBounds_toArray, List.set_cons_zero, List.set_cons_succ]
              refine takeD 14 (some 109) (v := ?_) rfl rfl (by kernel_rfl) (by kernel_rfl) (by kernel_rfl) (fun _ _ _ h => h) (Or.inl ⟨by rfl, ?_⟩) hY9 ?_
              rotate_left
              · intro w hSw
                go_simp
                with_reducible rfl
              try simp only [Act.put, List.setIfInBounds_toArray, List.set_cons_zero, List.set_cons_succ]
              refine takeD 15 (some 110) (v := ?_) rfl rfl (by kernel_rfl) (by kernel_rfl) (by kernel_rfl) (fun _ _ _ h => h) (Or.inl ⟨by rfl, ?_⟩) hY9 ?_
              rotate_left
              · intro w hSw
                go_simp
                with_reducible rfl
              try simp only [Act.put, List.setIfInBounds_toArray, List.set_cons_zero, List.set_cons_succ]
              refine wpAnyH_done (by kernel_rfl) ?_ _
              clear hr1 hr2 hown1 hown2 hg1 hg2
              try clear hown1'
              try clear hown0'
              try clear hown0
              try clear hI1
              try clear hone1
              try clear hone
              try clear hbs
              clear hqq HM
              go_wp2_with fail
              go_roundw
              case rel => exact ⟨j + 1, by omega, by first | rfl | go_num, hY9⟩
              case measure => simp [intOf]; omega
      · obtain rfl : j = 16 := by omega
        have hX3b := HT3.out _ hB
        go_wp2_with fail
        refine (HAW.out _).mono ?_
        rintro e XZ ⟨rfl, hXZ⟩
        have HEND := HB1.out _ (hX3b.trans (hXZ.mono hX3b.size))
        clear hXZ
        go_wp2
        go_ret
        first | exact HEND | exact ⟨rfl, HEND⟩
  | false =>
    clear HE1
    refine takeD 23 (some 49) (v := ?_) rfl rfl (by kernel_rfl) (by kernel_rfl) (by kernel_rfl) (fun _ _ _ h => h) (Or.inl ⟨by rfl, ?_⟩) hX2 ?_
    rotate_left
    · intro w hSw
      try go_simp
      with_reducible rfl
    try simp only [Act.put, List.setIfInBounds_toArray, List.set_cons_zero, List.set_cons_succ]
    refine takeD 24 (some 50) (v := undef) rfl rfl (by kernel_rfl) (by kernel_rfl) (by kernel_rfl) (fun _ _ _ h => h) (Or.inr ⟨by rfl, rfl⟩) hX2 ?_
    try simp only [Act.put, List.setIfInBounds_toArray, List.set_cons_zero, List.set_cons_succ]
    refine takeD 25 (some 51) (v := undef) rfl rfl (by kernel_rfl) (by kernel_rfl) (by kernel_rfl) (fun _ _ _ h => h) (Or.inr ⟨by rfl, rfl⟩) hX2 ?_
    try simp only [Act.put, List.setIfInBounds_toArray, List.set_cons_zero, List.set_cons_succ]
    refine takeD 26 (some 52) (v := undef) rfl rfl (by kernel_rfl) (by kernel_rfl) (by kernel_rfl) (fun _ _ _ h => h) (Or.inr ⟨by rfl, rfl⟩) hX2 ?_
    try simp only [Act.put, List.setIfInBounds_toArray, List.set_cons_zero, List.set_cons_succ]
    refine takeD 27 (some 53) (v := undef) rfl rfl (by kernel_rfl) (by kernel_rfl) (by kernel_rfl) (fun _ _ _ h => h) (Or.inr ⟨by rfl, rfl⟩) hX2 ?_
    try simp only [Act.put, List.setIfInBounds_toArray, List.set_cons_zero, List.set_cons_succ]
    refine takeD 28 (some 54) (v := ?_) rfl rfl (by kernel_rfl) (by kernel_rfl) (by kernel_rfl) (fun _ _ _ h => h) (Or.inl ⟨by rfl, ?_⟩) hX2 ?_
    rotate_left
    · intro w hSw
      go_simp
      with_reducible rfl
    try simp only [Act.put, List.setIfInBounds_toArray, List.set_cons_zero, List.set_cons_succ]
    refine takeD 29 (some 55) (v := ?_) rfl rfl (by kernel_rfl) (by kernel_rfl) (by kernel_rfl) (fun _ _ _ h => h) (Or.inl ⟨by rfl, ?_⟩) hX2 ?_
    rotate_left
    · intro w hSw
      go_simp
      with_reducible rfl
    try simp only [Act.put, List.setIfInBounds_toArray, List.set_cons_zero, List.set_cons_succ]
    refine wpAnyH_done (by kernel_rfl) ?_ _
    go_wp2_with fail
    refine wp_region_held_drew (S := fun X => Below w1.heap.size w1 X) hmx hX2.drew (fun hS => ?_)
    refine takeD 0 (some 56) (v := ?_) rfl rfl (by kernel_rfl) (by kernel_rfl) (by kernel_rfl) (fun _ _ _ h => h) (Or.inl ⟨by rfl, ?_⟩) hS ?_
    rotate_left
    · intro w hSw
      obtain ⟨q0, q1, q2⟩ := HK.out _ hSw
      go_simp
      with_reducible rfl
    try simp only [Act.put, List.setIfInBounds_toArray, List.set_cons_zero, List.set_cons_succ]
    refine takeD 1 (some 57) (v := ?_) rfl rfl (by kernel_rfl) (by kernel_rfl) (by kernel_rfl) (fun _ _ _ h => h) (Or.inl ⟨by rfl, ?_⟩) hS ?_
    rotate_left
    · intro w hSw
      try go_simp
      with_reducible rfl
    try simp only [Act.put, List.setIfInBounds_toArray, List.set_cons_zero, List.set_cons_succ]
    refine takeD 2 (some 58) (v := ?_) rfl rfl (by kernel_rfl) (by kernel_rfl) (by kernel_rfl) (fun _ _ _ h => h) (Or.inl ⟨by rfl, ?_⟩) hS ?_
    rotate_left
    · intro w hSw
      try go_simp
      with_reducible rfl
    try simp only [Act.put, List.setIfInBounds_toArray, List.set_cons_zero, List.set_cons_succ]
    refine takeD 3 (some 59) (v := ?_) rfl rfl (by kernel_rfl) (by kernel_rfl) (by kernel_rfl) (fun _ _ _ h => h) (Or.inl ⟨by rfl, ?_⟩) hS ?_
    rotate_left
    · intro w hSw
      try go_simp
      with_reducible rfl
    try simp only [Act.put, List.setIfInBounds_toArray, List.set_cons_zero, List.set_cons_succ]
    refine takeD 4 (some 60) (v := ?_) rfl rfl (by kernel_rfl) (by kernel_rfl) (by kernel_rfl) (fun _ _ _ h => h) (Or.inl ⟨by rfl, ?_⟩) hS ?_
    rotate_left
    · intro w hSw
      go_simp
      with_reducible rfl
    try simp only [Act.put, List.setIfInBounds_toArray, List.set_cons_zero, List.set_cons_succ]
    refine callD 5 (by kernel_rfl) rfl (fun K hK => ?_)
    rw [if_pos (by rfl)]
    go_simp
    refine (HNX.out _ za i zc (zs.take i) hS (HTK.out _ hS) HPI.out).mono ?_
    rintro e X3 ⟨na, nc, xs, rfl, hnI, hnm, hns, hnr, hnl, hX3⟩
    refine hK.out _ _ hX3 (fun _ => ?_)
    clear hK K
    try simp only [Act.put, List.setIfInBounds_toArray, List.set_cons_zero, List.set_cons_succ]
    refine takeD 6 (some 8) (v := ?_) rfl rfl (by kernel_rfl) (by kernel_rfl) (by kernel_rfl) (fun _ _ _ h => h) (Or.inl ⟨by rfl, ?_⟩) hX3 ?_
    rotate_left
    · intro w hSw
      try go_simp
      with_reducible rfl
    try simp only [Act.put, List.setIfInBounds_toArray, List.set_cons_zero, List.set_cons_succ]
    refine wpAnyH_done (by kernel_rfl) ?_ _
    have HNM : Hid (∀ x, x ∈ xs ↔ PreD gs n t (zs.take i ++ [x])) := hnm
    have HT3 : Hid (∀ X : World, Below X3.heap.size X3 X → Below w1.heap.size w1 X) := fun X hX => hX3.trans (hX.mono hX3.size)
    have HXC : Hid (∀ (X : World) (m : Nat), Below X3.heap.size X3 X → m < xs.length → ∃ b o x, na = some ⟨b, o, none⟩ ∧ xs[m]? = some x ∧ X.cell? ⟨b, o + m, none⟩ = some (.int .i64 x)) := fun X m hX hm => by
      obtain ⟨b, o, x, e1, e2, e3⟩ := hnI.at hm
      exact ⟨b, o, x, e1, e2, e3 X hX⟩
    have HRI : Hid (∀ (m : Nat) (x y : Int), xs[m]? = some x → xs[m + 1]? = some y → x < y) := fun m x y hx hy => by
      obtain ⟨h1, e1⟩ := List.getElem?_eq_some_iff.1 hx
      obtain ⟨h2, e2⟩ := List.getElem?_eq_some_iff.1 hy
      have := List.pairwise_iff_getElem.1 hnr m (m + 1) h1 h2 (by omega)
      rwa [e1, e2] at this
    have hxl : (xs.length : Int) ≤ 9223372036854775807 := by omega
    have hi7 : (i : Int) + 1 ≤ 9223372036854775807 := by omega
    have hwi : IntKind.i64.wrap ((i : Int) + 1) = (i : Int) + 1 := wrap_i64 _ (by omega) (by omega)
    clear hnI hnm hns hnr hS hX2
    go_wp2_with fail
    go_loopw [9] (fun u wr => ∃ j : Nat, j ≤ 16 ∧ u = .int .i64 (j : Int) ∧ Below X3.heap.size X3 wr) (fun u _ => 16 - (intOf u).toNat)
    case atStart => exact ⟨0, Nat.zero_le _, rfl, Below.refl _ _⟩
    case round =>
      obtain ⟨j, hj, rfl, hB⟩ := hrel
      by_cases hlt : j < 16
      · have hji : (j : Int) < 16 := by omega
        go_wp2_with fail
        go_loopw [10, 11] (fun u v wr => ∃ m : Nat, m ≤ xs.length ∧ v = .int .i64 (m : Int) ∧ u = .bool (eqAny (j : Int) (xs.take m)) ∧ Below X3.heap.size X3 wr) (fun _ v _ => xs.length - (intOf v).toNat)
        case atStart => exact ⟨0, Nat.zero_le _, rfl, rfl, hB⟩
        case round =>
          obtain ⟨m, hm, rfl, rfl, hB2⟩ := hrel
          clear hB
          by_cases hml : m < xs.length
          · obtain ⟨b, o, x, rfl, hx, hcx⟩ := HXC.out wr m hB2 hml
            have HS : Hid (eqAny (j : Int) (xs.take (m + 1)) = (eqAny (j : Int) (xs.take m) || (x == (j : Int)))) := eqAny_take hx
            have hmi : (m : Int) < (xs.length : Int) := by omega
            have hm0 : (0 : Int) ≤ (m : Int) := by omega
            have HXS : Hid (∀ X : World, Below X3.heap.size X3 X → X.cell? ⟨b, o + m, none⟩ = some (.int .i64 x)) := fun X hX => by
              obtain ⟨b', o', x', e1, e2, e3⟩ := HXC.out X m hX hml
              cases e1
              rw [hx] at e2
              cases e2
              exact e3
            have HXP : Hid (∀ p y, m = p + 1 → xs[p]? = some y → y < x ∧ ∀ X : World, Below X3.heap.size X3 X → X.cell? ⟨b, o + p, none⟩ = some (.int .i64 y)) := fun p y e hy => by
              subst e
              refine ⟨HRI.out p y x hy hx, fun X hX => ?_⟩
              obtain ⟨b', o', x', e1, e2, e3⟩ := HXC.out X p hX (by omega)
              cases e1
              rw [hy] at e2
              cases e2
              exact e3
            clear hx
            generalize eqAny (j : Int) (xs.take m) = q at *
            by_cases h0 : m = 0
            · have hg0 : decide ((0 : Int) < (m : Int)) = false := by simp; omega
              have hg1 : decide (0 < m) = false := by simp; omega
              clear h0
              cases q with
              | true =>
                go_wp2_with fail
                refine wp_region_held_drew (S := fun X => Below X3.heap.size X3 X) hmx hB2.drew (fun hS => ?_)
                refine takeD 0 (some 81) (v := ?_) rfl rfl (by kernel_rfl) (by kernel_rfl) (by kernel_rfl) (fun _ _ _ h => h) (Or.inl ⟨by rfl, ?_⟩) hS ?_
                rotate_left
                · intro w hSw
                  try go_simp
                  with_reducible rfl
                try simp only [Act.put, List.setIfInBounds_toArray, List.set_cons_zero, List.set_cons_succ]
                refine takeD 1 (some 82) (v := ?_) rfl rfl (by kernel_rfl) (by kernel_rfl) (by kernel_rfl) (fun _ _ _ h => h) (Or.inl ⟨by rfl, ?_⟩) hS ?_
                rotate_left
                · intro w hSw
                  go_simp
                  with_reducible rfl
                try simp only [Act.put, List.setIfInBounds_toArray, List.set_cons_zero, List.set_cons_succ]
                refine takeD 2 (some 83) (v := ?_) rfl rfl (by kernel_rfl) (by kernel_rfl) (by kernel_rfl) (fun _ _ _ h => h) (Or.inl ⟨by rfl, ?_⟩) hS ?_
                rotate_left
                · intro w hSw
                  try go_simp
                  with_reducible rfl
                try simp only [Act.put, List.setIfInBounds_toArray, List.set_cons_zero, List.set_cons_succ]
                refine takeD 3 (some 84) (v := undef) rfl rfl (by kernel_rfl) (by kernel_rfl) (by kernel_rfl) (fun _ _ _ h => h) (Or.inr ⟨by rfl, rfl⟩) hS ?_
                try simp only [Act.put, List.setIfInBounds_toArray, List.set_cons_zero, List.set_cons_succ]
                refine takeD 4 (some 85) (v := undef) rfl rfl (by kernel_rfl) (by kernel_rfl) (by kernel_rfl) (fun _ _ _ h => h) (Or.inr ⟨by rfl, rfl⟩) hS ?_
                try simp only [Act.put, List.setIfInBounds_toArray, List.set_cons_zero, List.set_cons_succ]
                refine takeD 5 (some 86) (v := undef) rfl rfl (by kernel_rfl) (by kernel_rfl) (by kernel_rfl) (fun _ _ _ h => h) (Or.inr ⟨by rfl, rfl⟩) hS ?_
                try simp only [Act.put, List.setIfInBounds_toArray, List.set_cons_zero, List.set_cons_succ]
                refine takeD 6 (some 87) (v := undef) rfl rfl (by kernel_rfl) (by kernel_rfl) (by kernel_rfl) (fun _ _ _ h => h) (Or.inr ⟨by rfl, rfl⟩) hS ?_
                try simp only [Act.put, List.setIfInBounds_toArray, List.set_cons_zero, List.set_cons_succ]
                refine takeD 7 (some 88) (v := undef) rfl rfl (by kernel_rfl) (by kernel_rfl) (by kernel_rfl) (fun _ _ _ h => h) (Or.inr ⟨by rfl, rfl⟩) hS ?_
                try simp only [Act.put, List.setIfInBounds_toArray, List.set_cons_zero, List.set_cons_succ]
                refine takeD 8 (some 89) (v := undef) rfl rfl (by kernel_rfl) (by kernel_rfl) (by kernel_rfl) (fun _ _ _ h => h) (Or.inr ⟨by rfl, rfl⟩) hS ?_
                try simp only [Act.put, List.setIfInBounds_toArray, List.set_cons_zero, List.set_cons_succ]
                refine takeD 9 (some 90) (v := undef) rfl rfl (by kernel_rfl) (by kernel_rfl) (by kernel_rfl) (fun _ _ _ h => h) (Or.inr ⟨by rfl, rfl⟩) hS ?_
                try simp only [Act.put, List.setIfInBounds_toArray, List.set_cons_zero, List.set_cons_succ]
                refine takeD 10 (some 91) (v := undef) rfl rfl (by kernel_rfl) (by kernel_rfl) (by kernel_rfl) (fun _ _ _ h => h) (Or.inr ⟨by rfl, rfl⟩) hS ?_
                try simp only [Act.put, List.setIfInBounds_toArray, List.set_cons_zero, List.set_cons_succ]
                refine takeD 11 (some 92) (v := undef) rfl rfl (by kernel_rfl) (by kernel_rfl) (by kernel_rfl) (fun _ _ _ h => h) (Or.inr ⟨by rfl, rfl⟩) hS ?_
                try simp only [Act.put, List.setIfInBounds_toArray, List.set_cons_zero, List.set_cons_succ]
                refine takeD 12 (some 93) (v := undef) rfl rfl (by kernel_rfl) (by kernel_rfl) (by kernel_rfl) (fun _ _ _ h => h) (Or.inr ⟨by rfl, rfl⟩) hS ?_
                try simp only [Act.put, List.setIfInBounds_toArray, List.set_cons_zero, List.set_cons_succ]
                refine takeD 13 (some 94) (v := ?_) rfl rfl (by kernel_rfl) (by kernel_rfl) (by kernel_rfl) (fun _ _ _ h => h) (Or.inl ⟨by rfl, ?_⟩) hS ?_
                rotate_left
                · intro w hSw
                  go_simp
                  with_reducible rfl
                try simp only [Act.put, List.setIfInBounds_toArray, List.set_cons_zero, List.set_cons_succ]
                refine wpAnyH_done (by kernel_rfl) ?_ _
                go_wp2_with fail
                go_roundw
                case rel => exact ⟨m + 1, by omega, by first | rfl | go_num, by rw [HS.out]; first | rfl | simp, hB2.drew⟩
                case measure => simp [intOf]; omega
              | false =>
                go_wp2_with fail
                refine wp_region_held_drew (S := fun X => Below X3.heap.size X3 X) hmx hB2.drew (fun hS => ?_)
                refine takeD 0 (some 81) (v := ?_) rfl rfl (by kernel_rfl) (by kernel_rfl) (by kernel_rfl) (fun _ _ _ h => h) (Or.inl ⟨by rfl, ?_⟩) hS ?_
                rotate_left
                · intro w hSw
                  try go_simp
                  with_reducible rfl
                try simp only [Act.put, List.setIfInBounds_toArray, List.set_cons_zero, List.set_cons_succ]
                refine takeD 1 (some 82) (v := ?_) rfl rfl (by kernel_rfl) (by kernel_rfl) (by kernel_rfl) (fun _ _ _ h => h) (Or.inl ⟨by rfl, ?_⟩) hS ?_
                rotate_left
                · intro w hSw
                  go_simp
                  with_reducible rfl
                try simp only [Act.put, List.setIfInBounds_toArray, List.set_cons_zero, List.set_cons_succ]
                refine takeD 2 (some 83) (v := ?_) rfl rfl (by kernel_rfl) (by kernel_rfl) (by kernel_rfl) (fun _ _ _ h => h) (Or.inl ⟨by rfl, ?_⟩) hS ?_
                rotate_left
                · intro w hSw
                  try go_simp
                  with_reducible rfl
                try simp only [Act.put, List.setIfInBounds_toArray, List.set_cons_zero, List.set_cons_succ]
                refine takeD 3 (some 84) (v := undef) rfl rfl (by kernel_rfl) (by kernel_rfl) (by kernel_rfl) (fun _ _ _ h => h) (Or.inr ⟨by rfl, rfl⟩) hS ?_
                try simp only [Act.put, List.setIfInBounds_toArray, List.set_cons_zero, List.set_cons_succ]
                refine takeD 4 (some 85) (v := undef) rfl rfl (by kernel_rfl) (by kernel_rfl) (by kernel_rfl) (fun _ _ _ h => h) (Or.inr ⟨by rfl, rfl⟩) hS ?_
                try simp only [Act.put, List.setIfInBounds_toArray, List.set_cons_zero, List.set_cons_succ]
                refine takeD 5 (some 86) (v := undef) rfl rfl (by kernel_rfl) (by kernel_rfl) (by kernel_rfl) (fun _ _ _ h => h) (Or.inr ⟨by rfl, rfl⟩) hS ?_
                try simp only [Act.put, List.setIfInBounds_toArray, List.set_cons_zero, List.set_cons_succ]
                refine takeD 6 (some 87) (v := undef) rfl rfl (by kernel_rfl) (by kernel_rfl) (by kernel_rfl) (fun _ _ _ h => h) (Or.inr ⟨by rfl, rfl⟩) hS ?_
                try simp only [Act.put, List.setIfInBounds_toArray, List.set_cons_zero, List.set_cons_succ]
                refine takeD 7 (some 88) (v := undef) rfl rfl (by kernel_rfl) (by kernel_rfl) (by kernel_rfl) (fun _ _ _ h => h) (Or.inr ⟨by rfl, rfl⟩) hS ?_
                try simp only [Act.put, List.setIfInBounds_toArray, List.set_cons_zero, List.set_cons_succ]
                refine takeD 8 (some 89) (v := undef) rfl rfl (by kernel_rfl) (by kernel_rfl) (by kernel_rfl) (fun _ _ _ h => h) (Or.inr ⟨by rfl, rfl⟩) hS ?_
                try simp only [Act.put, List.setIfInBounds_toArray, List.set_cons_zero, List.set_cons_succ]
                refine takeD 9 (some 90) (v := undef) rfl rfl (by kernel_rfl) (by kernel_rfl) (by kernel_rfl) (fun _ _ _ h => h) (Or.inr ⟨by rfl, rfl⟩) hS ?_
                try simp only [Act.put, List.setIfInBounds_toArray, List.set_cons_zero, List.set_cons_succ]
                refine takeD 10 (some 91) (v := undef) rfl rfl (by kernel_rfl) (by kernel_rfl) (by kernel_rfl) (fun _ _ _ h => h) (Or.inr ⟨by rfl, rfl⟩) hS ?_
                try simp only [Act.put, List.setIfInBounds_toArray, List.set_cons_zero, List.set_cons_succ]
                refine takeD 11 (some 92) (v := undef) rfl rfl (by kernel_rfl) (by kernel_rfl) (by kernel_rfl) (fun _ _ _ h => h) (Or.inr ⟨by rfl, rfl⟩) hS ?_
                try simp only [Act.put, List.setIfInBounds_toArray, List.set_cons_zero, List.set_cons_succ]
                refine takeD 12 (some 93) (v := undef) rfl rfl (by kernel_rfl) (by kernel_rfl) (by kernel_rfl) (fun _ _ _ h => h) (Or.inr ⟨by rfl, rfl⟩) hS ?_
                try simp only [Act.put, List.setIfInBounds_toArray, List.set_cons_zero, List.set_cons_succ]
                refine takeD 13 (some 94) (v := ?_) rfl rfl (by kernel_rfl) (by kernel_rfl) (by kernel_rfl) (fun _ _ _ h => h) (Or.inl ⟨by rfl, ?_⟩) hS ?_
                rotate_left
                · intro w hSw
                  go_simp
                  with_reducible rfl
                try simp only [Act.put, List.setIfInBounds_toArray, List.set_cons_zero, List.set_cons_succ]
                refine wpAnyH_done (by kernel_rfl) ?_ _
                go_wp2_with fail
                go_roundw
                case rel => exact ⟨m + 1, by omega, by first | rfl | go_num, by rw [HS.out]; first | rfl | simp, hB2.drew⟩
                case measure => simp [intOf]; omega
            · obtain ⟨p, hp⟩ : ∃ p, m = p + 1 := ⟨m - 1, by omega⟩
              obtain ⟨y, hy⟩ : ∃ y, xs[p]? = some y := ⟨_, List.getElem?_eq_getElem (by omega)⟩
              obtain ⟨hyx, hcy⟩ := HXP.out p y hp hy
              have HCY : Hid (∀ X : World, Below X3.heap.size X3 X → X.cell? ⟨b, o + p, none⟩ = some (.int .i64 y)) := hcy
              have hpi : (m : Int) - 1 = (p : Int) := by omega
              have hwp : IntKind.i64.wrap (p : Int) = (p : Int) := by
                have h1 : (p : Int) < 16 := by omega
                have h2 : p < 16 := by omega
                have key : ∀ q : Fin 16, IntKind.i64.wrap (q.val : Int) = (q.val : Int) := by decide +kernel
                exact key ⟨p, h2⟩
              have hp0 : (0 : Int) ≤ (p : Int) := by omega
              have hpl : (p : Int) < (xs.length : Int) := by omega
              have hge : decide (x ≤ y) = false := by simp; omega
              have hg0 : decide ((0 : Int) < (m : Int)) = true := by simp; omega
              have hg1 : decide (0 < m) = true := by simp; omega
              clear hcy hy HXP h0 hp
              cases q with
              | true =>
                go_wp2_with fail
                refine wp_region_held_drew (S := fun X => Below X3.heap.size X3 X) hmx hB2.drew (fun hS => ?_)
                refine takeD 0 (some 81) (v := ?_) rfl rfl (by kernel_rfl) (by kernel_rfl) (by kernel_rfl) (fun _ _ _ h => h) (Or.inl ⟨by rfl, ?_⟩) hS ?_
                rotate_left
                · intro w hSw
                  try go_simp
                  with_reducible rfl
                try simp only [Act.put, List.setIfInBounds_toArray, List.set_cons_zero, List.set_cons_succ]
                refine takeD 1 (some 82) (v := ?_) rfl rfl (by kernel_rfl) (by kernel_rfl) (by kernel_rfl) (fun _ _ _ h => h) (Or.inl ⟨by rfl, ?_⟩) hS ?_
                rotate_left
                · intro w hSw
                  go_simp
                  with_reducible rfl
                try simp only [Act.put, List.setIfInBounds_toArray, List.set_cons_zero, List.set_cons_succ]
                refine takeD 2 (some 83) (v := ?_) rfl rfl (by kernel_rfl) (by kernel_rfl) (by kernel_rfl) (fun _ _ _ h => h) (Or.inl ⟨by rfl, ?_⟩) hS ?_
                rotate_left
                · intro w hSw
                  try go_simp
                  with_reducible rfl
                try simp only [Act.put, List.setIfInBounds_toArray, List.set_cons_zero, List.set_cons_succ]
                refine takeD 3 (some 84) (v := ?_) rfl rfl (by kernel_rfl) (by kernel_rfl) (by kernel_rfl) (fun _ _ _ h => h) (Or.inl ⟨by rfl, ?_⟩) hS ?_
                rotate_left
                · intro w hSw
                  try go_simp
                  with_reducible rfl
                try simp only [Act.put, List.setIfInBounds_toArray, List.set_cons_zero, List.set_cons_succ]
                refine takeD 4 (some 85) (v := ?_) rfl rfl (by kernel_rfl) (by kernel_rfl) (by kernel_rfl) (fun _ _ _ h => h) (Or.inl ⟨by rfl, ?_⟩) hS ?_
                rotate_left
                · intro w hSw
                  try go_simp
                  with_reducible rfl
                try simp only [Act.put, List.setIfInBounds_toArray, List.set_cons_zero, List.set_cons_succ]
                refine takeD 5 (some 86) (v := ?_) rfl rfl (by kernel_rfl) (by kernel_rfl) (by kernel_rfl) (fun _ _ _ h => h) (Or.inl ⟨by rfl, ?_⟩) hS ?_
                rotate_left
                · intro w hSw
                  go_simp
                  with_reducible rfl
                try simp only [Act.put, List.setIfInBounds_toArray, List.set_cons_zero, List.set_cons_succ]
                refine takeD 6 (some 87) (v := ?_) rfl rfl (by kernel_rfl) (by kernel_rfl) (by kernel_rfl) (fun _ _ _ h => h) (Or.inl ⟨by rfl, ?_⟩) hS ?_
                rotate_left
                · intro w hSw
                  go_simp
                  with_reducible rfl
                try simp only [Act.put, List.setIfInBounds_toArray, List.set_cons_zero, List.set_cons_succ]
                refine takeD 7 (some 88) (v := ?_) rfl rfl (by kernel_rfl) (by kernel_rfl) (by kernel_rfl) (fun _ _ _ h => h) (Or.inl ⟨by rfl, ?_⟩) hS ?_
                rotate_left
                · intro w hSw
                  have s1 := HXS.out _ hSw; have s2 := HCY.out _ hSw
                  go_simp
                  with_reducible rfl
                try simp only [Act.put, List.setIfInBounds_toArray, List.set_cons_zero, List.set_cons_succ]
                refine takeD 8 (some 89) (v := ?_) rfl rfl (by kernel_rfl) (by kernel_rfl) (by kernel_rfl) (fun _ _ _ h => h) (Or.inl ⟨by rfl, ?_⟩) hS ?_
                rotate_left
                · intro w hSw
                  try go_simp
                  with_reducible rfl
                try simp only [Act.put, List.setIfInBounds_toArray, List.set_cons_zero, List.set_cons_succ]
                refine takeD 9 (some 90) (v := ?_) rfl rfl (by kernel_rfl) (by kernel_rfl) (by kernel_rfl) (fun _ _ _ h => h) (Or.inl ⟨by rfl, ?_⟩) hS ?_
                rotate_left
                · intro w hSw
                  try go_simp
                  with_reducible rfl
                try simp only [Act.put, List.setIfInBounds_toArray, List.set_cons_zero, List.set_cons_succ]
                refine takeD 10 (some 91) (v := ?_) rfl rfl (by kernel_rfl) (by kernel_rfl) (by kernel_rfl) (fun _ _ _ h => h) (Or.inl ⟨by rfl, ?_⟩) hS ?_
                rotate_left
                · intro w hSw
                  go_simp
                  with_reducible rfl
                try simp only [Act.put, List.setIfInBounds_toArray, List.set_cons_zero, List.set_cons_succ]
                refine takeD 11 (some 92) (v := ?_) rfl rfl (by kernel_rfl) (by kernel_rfl) (by kernel_rfl) (fun _ _ _ h => h) (Or.inl ⟨by rfl, ?_⟩) hS ?_
                rotate_left
                · intro w hSw
                  have s1 := HXS.out _ hSw; have s2 := HCY.out _ hSw
                  go_simp
                  with_reducible rfl
                try simp only [Act.put, List.setIfInBounds_toArray, List.set_cons_zero, List.set_cons_succ]
                refine takeD 12 (some 93) (v := ?_) rfl rfl (by kernel_rfl) (by kernel_rfl) (by kernel_rfl) (fun _ _ _ h => h) (Or.inl ⟨by rfl, ?_⟩) hS ?_
                rotate_left
                · intro w hSw
                  go_simp
                  with_reducible rfl
                try simp only [Act.put, List.setIfInBounds_toArray, List.set_cons_zero, List.set_cons_succ]
                refine takeD 13 (some 94) (v := ?_) rfl rfl (by kernel_rfl) (by kernel_rfl) (by kernel_rfl) (fun _ _ _ h => h) (Or.inl ⟨by rfl, ?_⟩) hS ?_
                rotate_left
                · intro w hSw
                  go_simp
                  with_reducible rfl
                try simp only [Act.put, List.setIfInBounds_toArray, List.set_cons_zero, List.set_cons_succ]
                refine wpAnyH_done (by kernel_rfl) ?_ _
                go_wp2_with fail
                go_roundw
                case rel => exact ⟨m + 1, by omega, by first | rfl | go_num, by rw [HS.out]; first | rfl | simp, hB2.drew⟩
                case measure => simp [intOf]; omega
              | false =>
                go_wp2_with fail
                refine wp_region_held_drew (S := fun X => Below X3.heap.size X3 X) hmx hB2.drew (fun hS => ?_)
                refine takeD 0 (some 81) (v := ?_) rfl rfl (by kernel_rfl) (by kernel_rfl) (by kernel_rfl) (fun _ _ _ h => h) (Or.inl ⟨by rfl, ?_⟩) hS ?_
                rotate_left
                · intro w hSw
                  try go_simp
                  with_reducible rfl
                try simp only [Act.put, List.setIfInBounds_toArray, List.set_cons_zero, List.set_cons_succ]
                refine takeD 1 (some 82) (v := ?_) rfl rfl (by kernel_rfl) (by kernel_rfl) (by kernel_rfl) (fun _ _ _ h => h) (Or.inl ⟨by rfl, ?_⟩) hS ?_
                rotate_left
                · intro w hSw
                  go_simp
                  with_reducible rfl
                try simp only [Act.put, List.setIfInBounds_toArray, List.set_cons_zero, List.set_cons_succ]
                refine takeD 2 (some 83) (v := ?_) rfl rfl (by kernel_rfl) (by kernel_rfl) (by kernel_rfl) (fun _ _ _ h => h) (Or.inl ⟨by rfl, ?_⟩) hS ?_
                rotate_left
                · intro w hSw
                  try go_simp
                  with_reducible rfl
                try simp only [Act.put, List.setIfInBounds_toArray, List.set_cons_zero, List.set_cons_succ]
                refine takeD 3 (some 84) (v := ?_) rfl rfl (by kernel_rfl) (by kernel_rfl) (by kernel_rfl) (fun _ _ _ h => h) (Or.inl ⟨by rfl, ?_⟩) hS ?_
                rotate_left
                · intro w hSw
                  try go_simp
                  with_reducible rfl
                try simp only [Act.put, List.setIfInBounds_toArray, List.set_cons_zero, List.set_cons_succ]
                refine takeD 4 (some 85) (v := ?_) rfl rfl (by kernel_rfl) (by kernel_rfl) (by kernel_rfl) (fun _ _ _ h => h) (Or.inl ⟨by rfl, ?_⟩) hS ?_
                rotate_left
                · intro w hSw
                  try go_simp
                  with_reducible rfl
                try simp only [Act.put, List.setIfInBounds_toArray, List.set_cons_zero, List.set_cons_succ]
                refine takeD 5 (some 86) (v := ?_) rfl rfl (by kernel_rfl) (by kernel_rfl) (by kernel_rfl) (fun _ _ _ h => h) (Or.inl ⟨by rfl, ?_⟩) hS ?_
                rotate_left
                · intro w hSw
                  go_simp
                  with_reducible rfl
                try simp only [Act.put, List.setIfInBounds_toArray, List.set_cons_zero, List.set_cons_succ]
                refine takeD 6 (some 87) (v := ?_) rfl rfl (by kernel_rfl) (by kernel_rfl) (by kernel_rfl) (fun _ _ _ h => h) (Or.inl ⟨by rfl, ?_⟩) hS ?_
                rotate_left
                · intro w hSw
                  go_simp
                  with_reducible rfl
                try simp only [Act.put, List.setIfInBounds_toArray, List.set_cons_zero, List.set_cons_succ]
                refine takeD 7 (some 88) (v := ?_) rfl rfl (by kernel_rfl) (by kernel_rfl) (by kernel_rfl) (fun _ _ _ h => h) (Or.inl ⟨by rfl, ?_⟩) hS ?_
                rotate_left
                · intro w hSw
                  have s1 := HXS.out _ hSw; have s2 := HCY.out _ hSw
                  go_simp
                  with_reducible rfl
                try simp only [Act.put, List.setIfInBounds_toArray, List.set_cons_zero, List.set_cons_succ]
                refine takeD 8 (some 89) (v := ?_) rfl rfl (by kernel_rfl) (by kernel_rfl) (by kernel_rfl) (fun _ _ _ h => h) (Or.inl ⟨by rfl, ?_⟩) hS ?_
                rotate_left
                · intro w hSw
                  try go_simp
                  with_reducible rfl
                try simp only [Act.put, List.setIfInBounds_toArray, List.set_cons_zero, List.set_cons_succ]
                refine takeD 9 (some 90) (v := ?_) rfl rfl (by kernel_rfl) (by kernel_rfl) (by kernel_rfl) (fun _ _ _ h => h) (Or.inl ⟨by rfl, ?_⟩) hS ?_
                rotate_left
                · intro w hSw
                  try go_simp
                  with_reducible rfl
                try simp only [Act.put, List.setIfInBounds_toArray, List.set_cons_zero, List.set_cons_succ]
                refine takeD 10 (some 91) (v := ?_) rfl rfl (by kernel_rfl) (by kernel_rfl) (by kernel_rfl) (fun _ _ _ h => h) (Or.inl ⟨by rfl, ?_⟩) hS ?_
                rotate_left
                · intro w hSw
                  go_simp
                  with_reducible rfl
                try simp only [Act.put, List.setIfInBounds_toArray, List.set_cons_zero, List.set_cons_succ]
                refine takeD 11 (some 92) (v := ?_) rfl rfl (by kernel_rfl) (by kernel_rfl) (by kernel_rfl) (fun _ _ _ h => h) (Or.inl ⟨by rfl, ?_⟩) hS ?_
                rotate_left
                · intro w hSw
                  have s1 := HXS.out _ hSw; have s2 := HCY.out _ hSw
                  go_simp
                  with_reducible rfl
                try simp only [Act.put, List.setIfInBounds_toArray, List.set_cons_zero, List.set_cons_succ]
                refine takeD 12 (some 93) (v := ?_) rfl rfl (by kernel_rfl) (by kernel_rfl) (by kernel_rfl) (fun _ _ _ h => h) (Or.inl ⟨by rfl, ?_⟩) hS ?_
                rotate_left
                · intro w hSw
                  go_simp
                  with_reducible rfl
                try simp only [Act.put, List.setIfInBounds_toArray, List.set_cons_zero, List.set_cons_succ]
                refine takeD 13 (some 94) (v := ?_) rfl rfl (by kernel_rfl) (by kernel_rfl) (by kernel_rfl) (fun _ _ _ h => h) (Or.inl ⟨by rfl, ?_⟩) hS ?_
                rotate_left
                · intro w hSw
                  go_simp
                  with_reducible rfl
                try simp only [Act.put, List.setIfInBounds_toArray, List.set_cons_zero, List.set_cons_succ]
                refine wpAnyH_done (by kernel_rfl) ?_ _
                go_wp2_with fail
                go_roundw
                case rel => exact ⟨m + 1, by omega, by first | rfl | go_num, by rw [HS.out]; first | rfl | simp, hB2.drew⟩
                case measure => simp [intOf]; omega
          · obtain rfl : m = xs.length := by omega
            obtain ⟨R, hRR⟩ : ∃ R, eqAny (j : Int) xs = R := ⟨_, rfl⟩
            have HM : Hid (R = true ↔ PreD gs n t (zs.take i ++ [(j : Int)])) := by
              show _ ↔ _
              rw [← hRR, eqAny_iff, HNM.out]
            rw [List.take_of_length_le (Nat.le_refl _), hRR]
            clear hRR
            go_wp2_with fail
            refine wp_region_held_drew (S := fun X => Below X3.heap.size X3 X) hmx hB2.drew (fun hS => ?_)
            refine takeD 0 (some 95) (v := ?_) rfl rfl (by kernel_rfl) (by kernel_rfl) (by kernel_rfl) (fun _ _ _ h => h) (Or.inl ⟨by rfl, ?_⟩) hS ?_
            rotate_left
            · intro w hSw
              try go_simp
              with_reducible rfl
            try simp only [Act.put, List.setIfInBounds_toArray, List.set_cons_zero, List.set_cons_succ]
            refine takeD 1 (some 96) (v := ?_) rfl rfl (by kernel_rfl) (by kernel_rfl) (by kernel_rfl) (fun _ _ _ h => h) (Or.inl ⟨by rfl, ?_⟩) hS ?_
            rotate_left
            · intro w hSw
              obtain ⟨q0, q1, q2⟩ := HK.out _ (HT3.out _ hSw)
              go_simp
              with_reducible rfl
            try simp only [Act.put, List.setIfInBounds_toArray, List.set_cons_zero, List.set_cons_succ]
            refine takeD 2 (some 97) (v := ?_) rfl rfl (by kernel_rfl) (by kernel_rfl) (by kernel_rfl) (fun _ _ _ h => h) (Or.inl ⟨by rfl, ?_⟩) hS ?_
            rotate_left
            · intro w hSw
              try go_simp
              with_reducible rfl
            try simp only [Act.put, List.setIfInBounds_toArray, List.set_cons_zero, List.set_cons_succ]
            refine takeD 4 (some 99) (v := ?_) rfl rfl (by kernel_rfl) (by kernel_rfl) (by kernel_rfl) (fun _ _ _ h => h) (Or.inl ⟨by rfl, ?_⟩) hS ?_
            rotate_left
            · intro w hSw
              try go_simp
              with_reducible rfl
            try simp only [Act.put, List.setIfInBounds_toArray, List.set_cons_zero, List.set_cons_succ]
            refine takeD 5 (some 100) (v := ?_) rfl rfl (by kernel_rfl) (by kernel_rfl) (by kernel_rfl) (fun _ _ _ h => h) (Or.inl ⟨by rfl, ?_⟩) hS ?_
            rotate_left
            · intro w hSw
              try go_simp
              with_reducible rfl
            try simp only [Act.put, List.setIfInBounds_toArray, List.set_cons_zero, List.set_cons_succ]
            refine takeD 6 (some 101) (v := ?_) rfl rfl (by kernel_rfl) (by kernel_rfl) (by kernel_rfl) (fun _ _ _ h => h) (Or.inl ⟨by rfl, ?_⟩) hS ?_
            rotate_left
            · intro w hSw
              go_simp
              with_reducible rfl
            try simp only [Act.put, List.setIfInBounds_toArray, List.set_cons_zero, List.set_cons_succ]
            refine takeD 8 (some 103) (v := ?_) rfl rfl (by kernel_rfl) (by kernel_rfl) (by kernel_rfl) (fun _ _ _ h => h) (Or.inl ⟨by rfl, ?_⟩) hS ?_
            rotate_left
            · intro w hSw
              try go_simp
              with_reducible rfl
            try simp only [Act.put, List.setIfInBounds_toArray, List.set_cons_zero, List.set_cons_succ]
            refine takeD 12 (some 107) (v := ?_) rfl rfl (by kernel_rfl) (by kernel_rfl) (by kernel_rfl) (fun _ _ _ h => h) (Or.inl ⟨by rfl, ?_⟩) hS ?_
            rotate_left
            · intro w hSw
              try go_simp
              with_reducible rfl
            try simp only [Act.put, List.setIfInBounds_toArray, List.set_cons_zero, List.set_cons_succ]
            refine takeD 13 (some 108) (v := ?_) rfl rfl (by kernel_rfl) (by kernel_rfl) (by kernel_rfl) (fun _ _ _ h => h) (Or.inl ⟨by rfl, ?_⟩) hS ?_
            rotate_left
            · intro w hSw
              go_simp
              with_reducible rfl
            try simp only [Act.put, List.setIfInBounds_toArray, List.set_cons_zero, List.set_cons_succ]
            refine wpAnyH_ready (rs := [3, 9]) (by kernel_rfl) (by simp) (AllReadyH.cons rfl (fun K hK => ?_) (AllReadyH.cons rfl (fun K hK => ?_) AllReadyH.nil))
            · have hA : Below X3.heap.size X3 (wr.drew.alloc (.cells #[] 3)) := hB2.drew.alloc hB2.size _
              have hown0 : (wr.drew.alloc (.cells #[] 3)).ownsRow wr.heap.size 3 1 (.slice (some ⟨wr.heap.size, 0, none⟩) 0 0) 0 (intsV []) := owned_nil wr.drew _ (Nat.le_refl _)
              rw [if_pos (by rfl)]
              go_simp
              refine hK.out _ _ hA (fun _ => ?_)
              clear hK K
              try simp only [Act.put, List.setIfInBounds_toArray, List.set_cons_zero, List.set_cons_succ]
              refine wpAnyH_ready (rs := [7, 9]) (by kernel_rfl) (by simp) (AllReadyH.cons rfl (fun K hK => ?_) (AllReadyH.cons rfl (fun K hK => ?_) AllReadyH.nil))
              · obtain ⟨v1, Y1, hr1, hown1, hg1⟩ := run_append_ints (wr.drew.alloc (.cells #[] 3)) wr.heap.size _ 0 [] hown0 za i zc (zs.take i) hzc (HTK.out _ (HT3.out _ hA)) (by omega) (by simp; try omega)
                rw [Nat.zero_add, List.nil_append] at hown1
                have hY1 : Below X3.heap.size X3 Y1 := hA.grown hg1 hA.size (fun k e => Nat.le_trans hB2.size (owned_base hown0 e))
                rw [if_pos (by rfl)]
                refine wp_run_append _ _ 26 rfl _ _ v1 Y1 rfl rfl hr1 ?_
                try simp only [Act.put, List.setIfInBounds_toArray]
                refine hK.out _ _ hY1 (fun _ => ?_)
                clear hK K
                try simp only [Act.put, List.setIfInBounds_toArray, List.set_cons_zero, List.set_cons_succ]
                have hY2 : Below X3.heap.size X3 (Y1.alloc (.cells #[.int .i64 (j : Int)] 3)) := hY1.alloc hY1.size _
                have hown1' := hown1.alloc (.cells #[.int .i64 (j : Int)] 3)
                have hI1 := Ints.one (World.alloc_heap_new Y1 (.cells #[.int .i64 (j : Int)] 3))
                have hbs : wr.heap.size ≤ X3.heap.size ∨ True := .inr trivial
                obtain ⟨v2, Y3, hr2, hown2, hg2⟩ := run_append_ints (Y1.alloc (.cells #[.int .i64 (j : Int)] 3)) wr.heap.size v1 i (zs.take i) hown1' (some ⟨Y1.heap.size, 0, none⟩) 1 1 [(j : Int)] (fun e => by cases e) hI1 (by omega) (by have := hg1.size; simp at this ⊢; omega)
                have hY3 : Below X3.heap.size X3 Y3 := hY2.grown hg2 hY2.size (fun k e => Nat.le_trans hB2.size (owned_base hown1' e))
                obtain ⟨ra, rc, rfl, hR⟩ := owned_ints hown2 (by omega)
                refine callD 9 (by kernel_rfl) rfl (fun K hK => ?_)
                rw [if_pos (by rfl)]
                go_simp
                refine hK.out _ _ hY2 (fun _ => ?_)
                clear hK K
                try simp only [Act.put, List.setIfInBounds_toArray, List.set_cons_zero, List.set_cons_succ]
                refine callD 10 (by kernel_rfl) rfl (fun K hK => ?_)
                rw [if_pos (by rfl)]
                refine wp_run_append _ _ 26 rfl _ _ _ Y3 rfl rfl hr2 ?_
                try simp only [Act.put, List.setIfInBounds_toArray]
                refine hK.out _ _ hY3 (fun _ => ?_)
                clear hK K
                try simp only [Act.put, List.setIfInBounds_toArray, List.set_cons_zero, List.set_cons_succ]
                refine callD 11 (by kernel_rfl) rfl (fun K hK => ?_)
                rw [if_pos (by rfl)]
                go_simp
                refine (HBG.out _ ra (i + 1) rc (zs.take i ++ [(j : Int)]) (HT3.out _ hY3) hR).mono ?_
                rintro e Y9 ⟨i2, rfl, hl2, hY9'⟩
                have hY9 : Below X3.heap.size X3 Y9 := hY3.trans (hY9'.mono hY3.size)
                have hlen2 : (zs.take i ++ [(j : Int)]).length = i + 1 := by rw [List.length_append, HTL.out]; rfl
                have hqq : ((i2 : Int) == (i : Int) + 1) = R := by
                  rw [Bool.eq_iff_iff, HM.out, beq_iff_eq]
                  constructor
                  · intro e; exact long_of hl2 (by omega)
                  · intro e
                    have := long_all hl2 e
                    omega
                clear hl2 hY9' hlen2
                refine hK.out _ _ hY9 (fun _ => ?_)
                clear hK K hR
                try simp only [Act.put, List.setIfInBounds_toArray, List.set_cons_zero, List.set_cons_succ]
                refine takeD 14 (some 109) (v := ?_) rfl rfl (by kernel_rfl) (by kernel_rfl) (by kernel_rfl) (fun _ _ _ h => h) (Or.inl ⟨by rfl, ?_⟩) hY9 ?_
                rotate_left
                · intro w hSw
                  go_simp
                  with_reducible rfl
                try simp only [Act.put, List.setIfInBounds_toArray, List.set_cons_zero, List.set_cons_succ]
                refine takeD 15 (some 110) (v := ?_) rfl rfl (by kernel_rfl) (by kernel_rfl) (by kernel_rfl) (fun _ _ _ h => h) (Or.inl ⟨by rfl, ?_⟩) hY9 ?_
                rotate_left
                · intro w hSw
                  go_simp
                  with_reducible rfl
                try simp only [Act.put, List.setIfInBounds_toArray, List.set_cons_zero, List.set_cons_succ]
                refine wpAnyH_done (by kernel_rfl) ?_ _
                clear hr1 hr2 hown1 hown2 hg1 hg2
                try clear hown1'
                try clear hown0'
                try clear hown0
                try clear hI1
                try clear hone1
                try clear hone
                try clear hbs
                clear hqq
                by_cases h9 : i < zl
                · have hd9 : decide ((i : Int) < (zl : Int)) = true := by simp; omega
                  have hd8 : decide (i < zl) = true := by simp; omega
                  cases R with
                  | true =>
                    obtain ⟨b', o', y, hza, hy, hcy'⟩ := (HZ.out Y9 (HT3.out _ hY9)).at h9
                    have hcy := hcy' Y9 (Below.refl _ _)
                    have hyj : (y == (j : Int)) = false := by
                      rw [beq_eq_false_iff_ne]
                      intro e
                      subst e
                      exact HNI.out _ hy (HM.out.1 rfl)
                    have h9i : (i : Int) < (zl : Int) := by omega
                    subst hza
                    clear hcy' hy
                    go_wp2_with fail
                    go_roundw
                    case rel => exact ⟨j + 1, by omega, by first | rfl | go_num, hY9⟩
                    case measure => simp [intOf]; omega
                  | false =>
                    go_wp2_with fail
                    go_roundw
                    case rel => exact ⟨j + 1, by omega, by first | rfl | go_num, hY9⟩
                    case measure => simp [intOf]; omega
                · have hd9 : decide ((i : Int) < (zl : Int)) = false := by simp; omega
                  have hd8 : decide (i < zl) = false := by simp; omega
                  go_wp2_with fail
                  go_roundw
                  case rel => exact ⟨j + 1, by omega, by first | rfl | go_num, hY9⟩
                  case measure => simp [intOf]; omega
              · have hA2 : Below X3.heap.size X3 ((wr.drew.alloc (.cells #[] 3)).alloc (.cells #[.int .i64 (j : Int)] 3)) := hA.alloc hA.size _
                have hown0' := hown0.alloc (.cells #[.int .i64 (j : Int)] 3)
                have hone : ((wr.drew.alloc (.cells #[] 3)).alloc (.cells #[.int .i64 (j : Int)] 3)).heap[wr.heap.size + 1]? = some (.cells #[.int .i64 (j : Int)] 3 (0, 0)) := at_new (by simp)
                rw [if_pos (by rfl)]
                go_simp
                refine hK.out _ _ hA2 (fun _ => ?_)
                clear hK K
                try simp only [Act.put, List.setIfInBounds_toArray, List.set_cons_zero, List.set_cons_succ]
                obtain ⟨v1, Y1, hr1, hown1, hg1⟩ := run_append_ints ((wr.drew.alloc (.cells #[] 3)).alloc (.cells #[.int .i64 (j : Int)] 3)) wr.heap.size _ 0 [] hown0' za i zc (zs.take i) hzc (HTK.out _ (HT3.out _ hA2)) (by omega) (by simp; try omega)
                rw [Nat.zero_add, List.nil_append] at hown1
                have hY1 : Below X3.heap.size X3 Y1 := hA2.grown hg1 hA2.size (fun k e => Nat.le_trans hB2.size (owned_base hown0' e))
                have hone1 : Y1.heap[wr.heap.size + 1]? = some (.cells #[.int .i64 (j : Int)] 3 (0, 0)) := (hg1.block _ (by simp) (fun e => by have := own_some e.symm; omega)).trans hone
                have hI1 := Ints.one hone1
                obtain ⟨v2, Y3, hr2, hown2, hg2⟩ := run_append_ints Y1 wr.heap.size v1 i (zs.take i) hown1 (some ⟨wr.heap.size + 1, 0, none⟩) 1 1 [(j : Int)] (fun e => by cases e) hI1 (by omega) (by have := hg1.size; simp at this; omega)
                have hY3 : Below X3.heap.size X3 Y3 := hY1.grown hg2 hY1.size (fun k e => Nat.le_trans hB2.size (owned_base hown1 e))
                obtain ⟨ra, rc, rfl, hR⟩ := owned_ints hown2 (by omega)
                refine callD 7 (by kernel_rfl) rfl (fun K hK => ?_)
                rw [if_pos (by rfl)]
                refine wp_run_append _ _ 26 rfl _ _ v1 Y1 rfl rfl hr1 ?_
                try simp only [Act.put, List.setIfInBounds_toArray]
                refine hK.out _ _ hY1 (fun _ => ?_)
                clear hK K
                try simp only [Act.put, List.setIfInBounds_toArray, List.set_cons_zero, List.set_cons_succ]
                refine callD 10 (by kernel_rfl) rfl (fun K hK => ?_)
                rw [if_pos (by rfl)]
                refine wp_run_append _ _ 26 rfl _ _ _ Y3 rfl rfl hr2 ?_
                try simp only [Act.put]
                refine hK.out _ _ hY3 (fun _ => ?_)
                clear hK K
                try simp only [Act.put, List.setIfInBounds_toArray, List.set_cons_zero, List.set_cons_succ]
                refine callD 11 (by kernel_rfl) rfl (fun K hK => ?_)
                rw [if_pos (by rfl)]
                go_simp
                refine (HBG.out _ ra (i + 1) rc (zs.take i ++ [(j : Int)]) (HT3.out _ hY3) hR).mono ?_
                rintro e Y9 ⟨i2, rfl, hl2, hY9'⟩
                have hY9 : Below X3.heap.size X3 Y9 := hY3.trans (hY9'.mono hY3.size)
                have hlen2 : (zs.take i ++ [(j : Int)]).length = i + 1 := by rw [List.length_append, HTL.out]; rfl
                have hqq : ((i2 : Int) == (i : Int) + 1) = R := by
                  rw [Bool.eq_iff_iff, HM.out, beq_iff_eq]
                  constructor
                  · intro e; exact long_of hl2 (by omega)
                  · intro e
                    have := long_all hl2 e
                    omega
                clear hl2 hY9' hlen2
                refine hK.out _ _ hY9 (fun _ => ?_)
                clear hK K hR
                try simp only [Act.put, List.setIfInBounds_toArray, List.set_cons_zero, List.set_cons_succ]
                refine takeD 14 (some 109) (v := ?_) rfl rfl (by kernel_rfl) (by kernel_rfl) (by kernel_rfl) (fun _ _ _ h => h) (Or.inl ⟨by rfl, ?_⟩) hY9 ?_
                rotate_left
                · intro w hSw
                  go_simp
                  with_reducible rfl
                try simp only [Act.put, List.setIfInBounds_toArray, List.set_cons_zero, List.set_cons_succ]
                refine takeD 15 (some 110) (v := ?_) rfl rfl (by kernel_rfl) (by kernel_rfl) (by kernel_rfl) (fun _ _ _ h => h) (Or.inl ⟨by rfl, ?_⟩) hY9 ?_
                rotate_left
                · intro w hSw
                  go_simp
                  with_reducible rfl
                try simp only [Act.put, List.setIfInBounds_toArray, List.set_cons_zero, List.set_cons_succ]
                refine wpAnyH_done (by kernel_rfl) ?_ _
                clear hr1 hr2 hown1 hown2 hg1 hg2
                try clear hown1'
                try clear hown0'
                try clear hown0
                try clear hI1
                try clear hone1
                try clear hone
                try clear hbs
                clear hqq
                by_cases h9 : i < zl
                · have hd9 : decide ((i : Int) < (zl : Int)) = true := by simp; omega
                  have hd8 : decide (i < zl) = true := by simp; omega
                  cases R with
                  | true =>
                    obtain ⟨b', o', y, hza, hy, hcy'⟩ := (HZ.out Y9 (HT3.out _ hY9)).at h9
                    have hcy := hcy' Y9 (Below.refl _ _)
                    have hyj : (y == (j : Int)) = false := by
                      rw [beq_eq_false_iff_ne]
                      intro e
                      subst e
                      exact HNI.out _ hy (HM.out.1 rfl)
                    have h9i : (i : Int) < (zl : Int) := by omega
                    subst hza
                    clear hcy' hy
                    go_wp2_with fail
                    go_roundw
                    case rel => exact ⟨j + 1, by omega, by first | rfl | go_num, hY9⟩
                    case measure => simp [intOf]; omega
                  | false =>
                    go_wp2_with fail
                    go_roundw
                    case rel => exact ⟨j + 1, by omega, by first | rfl | go_num, hY9⟩
                    case measure => simp [intOf]; omega
                · have hd9 : decide ((i : Int) < (zl : Int)) = false := by simp; omega
                  have hd8 : decide (i < zl) = false := by simp; omega
                  go_wp2_with fail
                  go_roundw
                  case rel => exact ⟨j + 1, by omega, by first | rfl | go_num, hY9⟩
                  case measure => simp [intOf]; omega
            · have hA : Below X3.heap.size X3 (wr.drew.alloc (.cells #[.int .i64 (j : Int)] 3)) := hB2.drew.alloc hB2.size _
              have hA2 : Below X3.heap.size X3 ((wr.drew.alloc (.cells #[.int .i64 (j : Int)] 3)).alloc (.cells #[] 3)) := hA.alloc hA.size _
              have hown0 : ((wr.drew.alloc (.cells #[.int .i64 (j : Int)] 3)).alloc (.cells #[] 3)).ownsRow wr.heap.size 3 1 (.slice (some ⟨wr.heap.size + 1, 0, none⟩) 0 0) 0 (intsV []) := by
                have := owned_nil (wr.drew.alloc (.cells #[.int .i64 (j : Int)] 3)) wr.heap.size (by simp)
                simpa using this
              have hone : ((wr.drew.alloc (.cells #[.int .i64 (j : Int)] 3)).alloc (.cells #[] 3)).heap[wr.heap.size]? = some (.cells #[.int .i64 (j : Int)] 3 (0, 0)) := (at_old (by simp)).trans (at_new rfl)
              rw [if_pos (by rfl)]
              go_simp
              refine hK.out _ _ hA (fun _ => ?_)
              clear hK K
              try simp only [Act.put, List.setIfInBounds_toArray, List.set_cons_zero, List.set_cons_succ]
              obtain ⟨v1, Y1, hr1, hown1, hg1⟩ := run_append_ints ((wr.drew.alloc (.cells #[.int .i64 (j : Int)] 3)).alloc (.cells #[] 3)) wr.heap.size _ 0 [] hown0 za i zc (zs.take i) hzc (HTK.out _ (HT3.out _ hA2)) (by omega) (by simp; try omega)
              rw [Nat.zero_add, List.nil_append] at hown1
              have hY1 : Below X3.heap.size X3 Y1 := hA2.grown hg1 hA2.size (fun k e => Nat.le_trans hB2.size (owned_base hown0 e))
              have hone1 : Y1.heap[wr.heap.size]? = some (.cells #[.int .i64 (j : Int)] 3 (0, 0)) := (hg1.block _ (by simp; omega) (fun e => by have := own_some e.symm; omega)).trans hone
              have hI1 := Ints.one hone1
              obtain ⟨v2, Y3, hr2, hown2, hg2⟩ := run_append_ints Y1 wr.heap.size v1 i (zs.take i) hown1 (some ⟨wr.heap.size, 0, none⟩) 1 1 [(j : Int)] (fun e => by cases e) hI1 (by omega) (by have := hg1.size; simp at this; omega)
              have hY3 : Below X3.heap.size X3 Y3 := hY1.grown hg2 hY1.size (fun k e => Nat.le_trans hB2.size (owned_base hown1 e))
              obtain ⟨ra, rc, rfl, hR⟩ := owned_ints hown2 (by omega)
              refine callD 3 (by kernel_rfl) rfl (fun K hK => ?_)
              rw [if_pos (by rfl)]
              go_simp
              refine hK.out _ _ hA2 (fun _ => ?_)
              clear hK K
              try simp only [Act.put, List.setIfInBounds_toArray, List.set_cons_zero, List.set_cons_succ]
              refine callD 7 (by kernel_rfl) rfl (fun K hK => ?_)
              rw [if_pos (by rfl)]
              refine wp_run_append _ _ 26 rfl _ _ v1 Y1 rfl rfl hr1 ?_
              try simp only [Act.put, List.setIfInBounds_toArray]
              refine hK.out _ _ hY1 (fun _ => ?_)
              clear hK K
              try simp only [Act.put, List.setIfInBounds_toArray, List.set_cons_zero, List.set_cons_succ]
              refine callD 10 (by kernel_rfl) rfl (fun K hK => ?_)
              rw [if_pos (by rfl)]
              refine wp_run_append _ _ 26 rfl _ _ _ Y3 rfl rfl hr2 ?_
              try simp only [Act.put]
              refine hK.out _ _ hY3 (fun _ => ?_)
              clear hK K
              try simp only [Act.put, List.setIfInBounds_toArray, List.set_cons_zero, List.set_cons_succ]
              refine callD 11 (by kernel_rfl) rfl (fun K hK => ?_)
              rw [if_pos (by rfl)]
              go_simp
              refine (HBG.out _ ra (i + 1) rc (zs.take i ++ [(j : Int)]) (HT3.out _ hY3) hR).mono ?_
              rintro e Y9 ⟨i2, rfl, hl2, hY9'⟩
              have hY9 : Below X3.heap.size X3 Y9 := hY3.trans (hY9'.mono hY3.size)
              have hlen2 : (zs.take i ++ [(j : Int)]).length = i + 1 := by rw [List.length_append, HTL.out]; rfl
              have hqq : ((i2 : Int) == (i : Int) + 1) = R := by
                rw [Bool.eq_iff_iff, HM.out, beq_iff_eq]
                constructor
                · intro e; exact long_of hl2 (by omega)
                · intro e
                  have := long_all hl2 e
                  omega
              clear hl2 hY9' hlen2
              refine hK.out _ _ hY9 (fun _ => ?_)
              clear hK K hR
              try simp only [Act.put, List.setIfInBounds_toArray, List.set_cons_zero, List.set_cons_succ]
              refine takeD 14 (some 109) (v := ?_) rfl rfl (by kernel_rfl) (by kernel_rfl) (by kernel_rfl) (fun _ _ _ h => h) (Or.inl ⟨by rfl, ?_⟩) hY9 ?_
              rotate_left
              · intro w hSw
                go_simp
                with_reducible rfl
              try simp only [Act.put, List.setIfInBounds_toArray, List.set_cons_zero, List.set_cons_succ]
              refine takeD 15 (some 110) (v := ?_) rfl rfl (by kernel_rfl) (by kernel_rfl) (by kernel_rfl) (fun _ _ _ h => h) (Or.inl ⟨by rfl, ?_⟩) hY9 ?_
              rotate_left
              · intro w hSw
                go_simp
                with_reducible rfl
              try simp only [Act.put, List.setIfInBounds_toArray, List.set_cons_zero, List.set_cons_succ]
              refine wpAnyH_done (by kernel_rfl) ?_ _
              clear hr1 hr2 hown1 hown2 hg1 hg2
              try clear hown1'
              try clear hown0'
              try clear hown0
              try clear hI1
              try clear hone1
              try clear hone
              try clear hbs
              clear hqq
              by_cases h9 : i < zl
              · have hd9 : decide ((i : Int) < (zl : Int)) = true := by simp; omega
                have hd8 : decide (i < zl) = true := by simp; omega
                cases R with
                | true =>
                  obtain ⟨b', o', y, hza, hy, hcy'⟩ := (HZ.out Y9 (HT3.out _ hY9)).at h9
                  have hcy := hcy' Y9 (Below.refl _ _)
                  have hyj : (y == (j : Int)) = false := by
                    rw [beq_eq_false_iff_ne]
                    intro e
                    subst e
                    exact HNI.out _ hy (HM.out.1 rfl)
                  have h9i : (i : Int) < (zl : Int) := by omega
                  subst hza
                  clear hcy' hy
                  go_wp2_with fail
                  go_roundw
                  case rel => exact ⟨j + 1, by omega, by first | rfl | go_num, hY9⟩
                  case measure => simp [intOf]; omega
                | false =>
                  go_wp2_with fail
                  go_roundw
                  case rel => exact ⟨j + 1, by omega, by first | rfl | go_num, hY9⟩
                  case measure => simp [intOf]; omega
              · have hd9 : decide ((i : Int) < (zl : Int)) = false := by simp; omega
                have hd8 : decide (i < zl) = false := by simp; omega
                go_wp2_with fail
                go_roundw
                case rel => exact ⟨j + 1, by omega, by first | rfl | go_num, hY9⟩
                case measure => simp [intOf]; omega
      · obtain rfl : j = 16 := by omega
        have hX3b := HT3.out _ hB
        go_wp2_with fail
        refine (HAW.out _).mono ?_
        rintro e XZ ⟨rfl, hXZ⟩
        have HEND := HB1.out _ (hX3b.trans (hXZ.mono hX3b.size))
        clear hXZ
        go_wp2
        go_ret
        first | exact HEND | exact ⟨rfl, HEND⟩
end Go.Proofs.YtajabenlkmgjeaaDoor
