/-
  PROVED HERE: strings.IndexByte at expr's signs, strings.Clone, and the reader's name: what they return and leave.
-/
import Derived.Test.YtafidabopcgkhaaDoorJoin
import Derived.Test.YtafidabopcgkhaaDoorPCheck
import Derived.Lib.Bytealg
import Derived.Shelf.Pu.Clone
namespace Go.Proofs.YtafidabopcgkhaaDoor
open Go.RowKit Go.Shelf

/-- Which of the signs * + ? it is; -1: none. -/
def signIx (c : Int) : Int := if c = 42 then 0 else if c = 43 then 1 else if c = 63 then 2 else -1
theorem index_sign (c : Int) (h0 : 0 ≤ c) (h1 : c < 256) : Lib.indexByte [42, 43, 63] c.toNat.toUInt8 = signIx c := by
  obtain ⟨n, rfl⟩ := Int.eq_ofNat_of_zero_le h0
  have hn : n < 256 := by omega
  have key : ∀ n : Fin 256, Lib.indexByte [42, 43, 63] n.val.toUInt8 = signIx (n.val : Int) := by decide +kernel
  exact key ⟨n, hn⟩
set_option maxRecDepth 100000 in
theorem indexbyte_calls (c : Int) (h0 : 0 ≤ c) (h1 : c < 256) (w : World) : Calls Tryd.prog 67 #[.string ⟨#[42, 43, 63]⟩, .int .u8 c] w fun e w' => e = .returned (.int .i64 (signIx c)) ∧ w' = w := by
  have h72 := @run_callFunc_extern Tryd.prog 72 _ Extern.BytealgIndexByte.indexByte Tryd.func72 (by kernel_rfl) (by kernel_rfl) (by kernel_rfl) (by kernel_rfl)
  have hr : ∀ W : World, (Extern.BytealgIndexByte.indexByte #[.string ⟨#[42, 43, 63]⟩, .int .u8 c]).run Tryd.prog W = .ok (.int .i64 (signIx c)) W := fun W => by
    rw [Lib.run_indexByteString, ← index_sign c h0 h1]
  generalize signIx c = R at *
  go_enter Tryd.func67, Tryd.ntmps67
  go_wp2
  go_ret
  exact ⟨rfl, rfl⟩
def cren : Go.Shelf.Ren := ⟨fun | 25 => 73 | n => n, fun | 9 => 9 | 0 => 0 | 37 => 41 | 47 => 78 | 3 => 3 | 4 => 4 | 5 => 5 | n => n, fun | n => n⟩
theorem clays : Go.Proofs.LaysPu.n25 Tryd.prog cren := {
  mixed := by kernel_rfl
  f25 := Tryd.func73.trans (congrArg some (by kernel_rfl))
  t0 := Tryd.underlying0
  a0 := Tryd.isAgg0
  z0 := Tryd.sizeOf0
  v0 := Tryd.zeroValue0
  i0 := by kernel_rfl
  t3 := Tryd.underlying3
  a3 := Tryd.isAgg3
  z3 := Tryd.sizeOf3
  v3 := Tryd.zeroValue3
  i3 := by kernel_rfl
  t4 := Tryd.underlying4
  a4 := Tryd.isAgg4
  z4 := Tryd.sizeOf4
  v4 := Tryd.zeroValue4
  i4 := by kernel_rfl
  t5 := Tryd.underlying5
  a5 := Tryd.isAgg5
  z5 := Tryd.sizeOf5
  v5 := Tryd.zeroValue5
  i5 := by kernel_rfl
  t9 := Tryd.underlying9
  a9 := Tryd.isAgg9
  z9 := Tryd.sizeOf9
  v9 := Tryd.zeroValue9
  i9 := by kernel_rfl
  t37 := Tryd.underlying41
  a37 := Tryd.isAgg41
  z37 := Tryd.sizeOf41
  v37 := Tryd.zeroValue41
  i37 := by kernel_rfl
  t47 := Tryd.underlying78
  a47 := Tryd.isAgg78
  z47 := Tryd.sizeOf78
  v47 := Tryd.zeroValue78
  i47 := by kernel_rfl }
theorem sclone_calls (s : ByteArray) (w : World) (h : s.size ≤ 281474976710656) : Calls Tryd.prog 73 #[.string s] w fun e w' => e = .returned (.string s) ∧ Below w.heap.size w w' := AnyPu.stringslite_Clone clays s w h
set_option maxRecDepth 100000 in
theorem clone_calls (s : ByteArray) (w : World) (h : s.size ≤ 281474976710656) : Calls Tryd.prog 71 #[.string s] w fun e w' => e = .returned (.string s) ∧ Below w.heap.size w w' := by
  have H := sclone_calls s w h
  go_enter Tryd.func71, Tryd.ntmps71
  go_wp2_with fail
  refine H.mono ?_
  rintro e W ⟨rfl, hW⟩
  go_wp2
  go_ret
  exact ⟨rfl, hW⟩
theorem left_lead (s : ByteArray) (i : Nat) (_h : i ≤ s.size) : bts (s.extract i s.size) = left s i := by
  unfold left bts
  rw [ByteArray.data_extract, Array.toList_extract, List.extract_eq_take_drop]
  rw [List.take_of_length_le]
  rw [List.length_drop, Array.length_toList]
  exact Nat.le_refl _
theorem take_while {p : UInt8 → Bool} : ∀ l : List UInt8, l.take (l.takeWhile p).length = l.takeWhile p ∧ l.drop (l.takeWhile p).length = l.dropWhile p := by
  intro l
  induction l with
  | nil => exact ⟨rfl, rfl⟩
  | cons c r ih =>
    rw [List.takeWhile_cons, List.dropWhile_cons]
    cases p c with
    | true => simp [ih]
    | false => simp
theorem left_drop (s : ByteArray) (i n : Nat) : left s (i + n) = (left s i).drop n := by
  unfold left
  rw [List.drop_drop]
theorem extract_bts (s : ByteArray) (i n : Nat) : bts (s.extract i (i + n)) = (left s i).take n := by
  unfold left bts
  rw [ByteArray.data_extract, Array.toList_extract, List.extract_eq_take_drop]
  rw [show i + n - i = n from by omega]
/-- A place that no blank stands at. -/
def Pl (s : ByteArray) (j : Nat) : Prop := j ≤ s.size ∧ skipL (left s j) = left s j
theorem skip_twice : ∀ l : List UInt8, skipL (skipL l) = skipL l := by
  intro l
  induction l with
  | nil => rfl
  | cons c r ih =>
    rw [skipL]
    split
    · exact ih
    · rename_i h
      rw [skipL, if_neg h]
theorem Pl.skip {s : ByteArray} {i : Nat} (h : i ≤ s.size) : Pl s (skip s i) ∧ i ≤ Go.Proofs.YtafidabopcgkhaaDoor.skip s i ∧ left s (Go.Proofs.YtafidabopcgkhaaDoor.skip s i) = skipL (left s i) := by
  have h1 := skip_le h
  have h2 := left_skip s (s.size - i) i (by omega)
  exact ⟨⟨h1.2, by rw [h2, skip_twice]⟩, h1.1, h2⟩
theorem pk_left {s : ByteArray} {i : Nat} (h : i ≤ s.size) : (left s i = [] ∧ pk s i = 0 ∧ i = s.size) ∨ ∃ c q, left s i = c :: q ∧ pk s i = (c.toNat : Int) ∧ left s (i + 1) = q ∧ i < s.size := by
  rcases Nat.lt_or_ge i s.size with h1 | h1
  · exact .inr ⟨_, _, left_cons h1, pk_at h1, rfl, h1⟩
  · obtain rfl : i = s.size := by omega
    exact .inl ⟨left_end s, pk_end s, rfl⟩
set_option maxRecDepth 100000 in
set_option maxHeartbeats 4000000 in
/-- The name at a place. -/
theorem name_calls (g : Nat) (s : ByteArray) (i : Nat) (w : World) (hP : RAt w g s i) (hi : i ≤ s.size) (hs : s.size ≤ 200) :
    Calls Tryd.prog 68 #[.pointer (some ⟨g, 0, none⟩)] w fun e w' => ∃ nm, e = .returned (.agg #[.int .i64 1, .string nm, .slice none 0 0]) ∧ bts nm = (left s i).takeWhile letter ∧ Kept g w w' ∧ RAt w' g s (skip s (i + ((left s i).takeWhile letter).length)) ∧ i + ((left s i).takeWhile letter).length ≤ s.size := by
  have hll := left_length s i
  have hwl : ((left s i).takeWhile letter).length ≤ (left s i).length := by
    have := congrArg List.length (take_while (p := letter) (left s i)).1
    rw [List.length_take] at this
    omega
  have hlead : lead (s.extract i s.size) = ((left s i).takeWhile letter).length := by unfold lead; rw [left_lead s i hi]
  have hex := extract_bts s i ((left s i).takeWhile letter).length
  rw [(take_while (p := letter) (left s i)).1] at hex
  have HN : Hid (∀ W, Calls Tryd.prog 52 #[.string (s.extract i s.size)] W fun e w' => e = .returned (.int .i64 (((left s i).takeWhile letter).length : Int)) ∧ w' = W) := fun W => by
    have := namelen_calls (s.extract i s.size) W (by rw [ByteArray.size_extract]; omega)
    rwa [hlead] at this
  have HW : Hid (bts (s.extract i (i + ((left s i).takeWhile letter).length)) = (left s i).takeWhile letter) := hex
  generalize hL : ((left s i).takeWhile letter).length = n at *
  have hn : i + n ≤ s.size := by omega
  have HC : Hid (∀ W, Calls Tryd.prog 71 #[.string (s.extract i (i + n))] W fun e w' => e = .returned (.string (s.extract i (i + n))) ∧ Below W.heap.size W w') := fun W => clone_calls _ W (by rw [ByteArray.size_extract]; omega)
  have HP : Hid (∀ W, RAt W g s i → Calls Tryd.prog 42 #[.pointer (some ⟨g, 0, none⟩), .int .i64 (n : Int)] W fun r w' => r = .returned (.tuple #[]) ∧ RAt w' g s (skip s (i + n)) ∧ Only g W w') := fun W h => pass_calls g s i n W h hn (by omega)
  have hlt := hP.lt
  obtain ⟨c0, c1, f1⟩ := hP.cells
  have hmx : Tryd.prog.follows .mixedOrders = true := by kernel_rfl
  obtain ⟨w1, hw1⟩ : ∃ w1, w1 = w.alloc (.cells #[.int .i64 0, .string ⟨#[]⟩, .slice none 0 0] 24) := ⟨_, rfl⟩
  have hB1 : Below w.heap.size w w1 := by rw [hw1]; exact (Below.refl _ w).alloc (Nat.le_refl _) _
  have hs1 : w1.heap.size = w.heap.size + 1 := by rw [hw1]; simp
  have hz1 : w1.heap[w.heap.size]? = some (.cells #[.int .i64 0, .string ⟨#[]⟩, .slice none 0 0] 24 (0, 0)) := by rw [hw1]; exact heap_alloc_new w _
  have g0 : ∀ W : World, Below w1.heap.size w1 W → W.cell? ⟨g, 0, none⟩ = some (.string s) := fun W hW => (hW.cell (p := ⟨g, 0, none⟩) (by show g < _; omega)).trans ((hB1.cell (p := ⟨g, 0, none⟩) hlt).trans c0)
  have g1 : ∀ W : World, Below w1.heap.size w1 W → W.cell? ⟨g, 1, none⟩ = some (.int .i64 (i : Int)) := fun W hW => (hW.cell (p := ⟨g, 1, none⟩) (by show g < _; omega)).trans ((hB1.cell (p := ⟨g, 1, none⟩) hlt).trans c1)
  have HR1 : Hid (∀ W : World, Below w1.heap.size w1 W → RAt W g s i) := fun W hW => ((hP.below hB1).below hW)
  have HB : Hid (Below w.heap.size w w1 ∧ w1.heap.size = w.heap.size + 1 ∧ w1.heap[w.heap.size]? = some (.cells #[.int .i64 0, .string ⟨#[]⟩, .slice none 0 0] 24 (0, 0)) ∧ g < w.heap.size) := ⟨hB1, hs1, hz1, hlt⟩
  have hi1 : (i : Int) ≤ (s.size : Int) := by omega
  obtain ⟨e, he⟩ : ∃ e, e = i + n := ⟨_, rfl⟩
  rw [← he] at HW HC HP hn ⊢
  have hi2 : (e : Int) ≤ (s.size : Int) := by omega
  have hi3 : (i : Int) ≤ (e : Int) := by omega
  have hwr : IntKind.i64.wrap ((i : Int) + (n : Int)) = (e : Int) := by rw [IntKind.wrap_i64]; omega
  have HL : Hid (e ≤ s.size) := hn
  clear he hn
  clear hP hB1 hs1 hz1 c0 c1 f1 hlt hll hlead hwl
  go_enter Tryd.func68, Tryd.ntmps68
  go_wp2_with fail
  rw [← hw1]
  clear hw1
  refine wp_region_held_drew (S := fun w' => Below w1.heap.size w1 w') hmx (Below.refl _ _).drew (fun hS => ?_)
  refine takeD 0 (some 5) (v := ?_) rfl rfl (by kernel_rfl) (by kernel_rfl) (by kernel_rfl) (fun _ _ _ h => h) (Or.inl ⟨by rfl, ?_⟩) hS ?_
  rotate_left
  · intro w hSw
    go_simp
    with_reducible rfl
  try simp only [Act.put, List.setIfInBounds_toArray, List.set_cons_zero, List.set_cons_succ]
  refine takeD 1 (some 6) (v := ?_) rfl rfl (by kernel_rfl) (by kernel_rfl) (by kernel_rfl) (fun _ _ _ h => h) (Or.inl ⟨by rfl, ?_⟩) hS ?_
  rotate_left
  · intro w hSw
    go_simp
    with_reducible rfl
  try simp only [Act.put, List.setIfInBounds_toArray, List.set_cons_zero, List.set_cons_succ]
  refine takeD 2 (some 7) (v := ?_) rfl rfl (by kernel_rfl) (by kernel_rfl) (by kernel_rfl) (fun _ _ _ h => h) (Or.inl ⟨by rfl, ?_⟩) hS ?_
  rotate_left
  · intro w hSw
    go_simp
    with_reducible rfl
  try simp only [Act.put, List.setIfInBounds_toArray, List.set_cons_zero, List.set_cons_succ]
  refine takeD 3 (some 8) (v := ?_) rfl rfl (by kernel_rfl) (by kernel_rfl) (by kernel_rfl) (fun _ _ _ h => h) (Or.inl ⟨by rfl, ?_⟩) hS ?_
  rotate_left
  · intro w hSw
    go_simp
    with_reducible rfl
  try simp only [Act.put, List.setIfInBounds_toArray, List.set_cons_zero, List.set_cons_succ]
  refine takeD 4 (some 9) (v := ?_) rfl rfl (by kernel_rfl) (by kernel_rfl) (by kernel_rfl) (fun _ _ _ h => h) (Or.inl ⟨by rfl, ?_⟩) hS ?_
  rotate_left
  · intro w hSw
    go_simp
    with_reducible rfl
  try simp only [Act.put, List.setIfInBounds_toArray, List.set_cons_zero, List.set_cons_succ]
  refine takeD 5 (some 10) (v := ?_) rfl rfl (by kernel_rfl) (by kernel_rfl) (by kernel_rfl) (fun _ _ _ h => h) (Or.inl ⟨by rfl, ?_⟩) hS ?_
  rotate_left
  · intro w hSw
    go_simp
    with_reducible rfl
  try simp only [Act.put, List.setIfInBounds_toArray, List.set_cons_zero, List.set_cons_succ]
  refine takeD 6 (some 11) (v := ?_) rfl rfl (by kernel_rfl) (by kernel_rfl) (by kernel_rfl) (fun _ _ _ h => h) (Or.inl ⟨by rfl, ?_⟩) hS ?_
  rotate_left
  · intro w hSw
    go_simp
    with_reducible rfl
  try simp only [Act.put, List.setIfInBounds_toArray, List.set_cons_zero, List.set_cons_succ]
  refine takeD 7 (some 12) (v := ?_) rfl rfl (by kernel_rfl) (by kernel_rfl) (by kernel_rfl) (fun _ _ _ h => h) (Or.inl ⟨by rfl, ?_⟩) hS ?_
  rotate_left
  · intro w hSw
    go_simp
    with_reducible rfl
  try simp only [Act.put, List.setIfInBounds_toArray, List.set_cons_zero, List.set_cons_succ]
  refine takeD 8 (some 13) (v := ?_) rfl rfl (by kernel_rfl) (by kernel_rfl) (by kernel_rfl) (fun _ _ _ h => h) (Or.inl ⟨by rfl, ?_⟩) hS ?_
  rotate_left
  · intro w hSw
    go_simp
    with_reducible rfl
  try simp only [Act.put, List.setIfInBounds_toArray, List.set_cons_zero, List.set_cons_succ]
  refine callD 9 (by kernel_rfl) rfl (fun K hK => ?_)
  go_simp
  refine (HN.out _).mono ?_
  rintro e3 W3 ⟨rfl, hW3⟩
  rw [hW3]
  refine hK.out _ _ hS (fun _ => ?_)
  clear hK K
  try simp only [Act.put, List.setIfInBounds_toArray, List.set_cons_zero, List.set_cons_succ]
  refine takeD 10 (some 3) (v := ?_) rfl rfl (by kernel_rfl) (by kernel_rfl) (by kernel_rfl) (fun _ _ _ h => h) (Or.inl ⟨by rfl, ?_⟩) hS ?_
  rotate_left
  · intro w hSw
    go_simp
    with_reducible rfl
  try simp only [Act.put, List.setIfInBounds_toArray, List.set_cons_zero, List.set_cons_succ]
  refine wpAnyH_done (by kernel_rfl) ?_ _
  go_wp2_with fail
  refine wp_region_held_drew (S := fun w' => Below w1.heap.size w1 w') hmx hS.drew (fun hS => ?_)
  refine takeD 0 (some 15) (v := ?_) rfl rfl (by kernel_rfl) (by kernel_rfl) (by kernel_rfl) (fun _ _ _ h => h) (Or.inl ⟨by rfl, ?_⟩) hS ?_
  rotate_left
  · intro w hSw
    go_simp
    with_reducible rfl
  try simp only [Act.put, List.setIfInBounds_toArray, List.set_cons_zero, List.set_cons_succ]
  refine takeD 1 (some 16) (v := ?_) rfl rfl (by kernel_rfl) (by kernel_rfl) (by kernel_rfl) (fun _ _ _ h => h) (Or.inl ⟨by rfl, ?_⟩) hS ?_
  rotate_left
  · intro w hSw
    go_simp
    with_reducible rfl
  try simp only [Act.put, List.setIfInBounds_toArray, List.set_cons_zero, List.set_cons_succ]
  refine takeD 2 (some 17) (v := ?_) rfl rfl (by kernel_rfl) (by kernel_rfl) (by kernel_rfl) (fun _ _ _ h => h) (Or.inl ⟨by rfl, ?_⟩) hS ?_
  rotate_left
  · intro w hSw
    go_simp
    with_reducible rfl
  try simp only [Act.put, List.setIfInBounds_toArray, List.set_cons_zero, List.set_cons_succ]
  refine takeD 3 (some 18) (v := ?_) rfl rfl (by kernel_rfl) (by kernel_rfl) (by kernel_rfl) (fun _ _ _ h => h) (Or.inl ⟨by rfl, ?_⟩) hS ?_
  rotate_left
  · intro w hSw
    go_simp
    with_reducible rfl
  try simp only [Act.put, List.setIfInBounds_toArray, List.set_cons_zero, List.set_cons_succ]
  refine takeD 4 (some 19) (v := ?_) rfl rfl (by kernel_rfl) (by kernel_rfl) (by kernel_rfl) (fun _ _ _ h => h) (Or.inl ⟨by rfl, ?_⟩) hS ?_
  rotate_left
  · intro w hSw
    go_simp
    with_reducible rfl
  try simp only [Act.put, List.setIfInBounds_toArray, List.set_cons_zero, List.set_cons_succ]
  refine takeD 5 (some 20) (v := ?_) rfl rfl (by kernel_rfl) (by kernel_rfl) (by kernel_rfl) (fun _ _ _ h => h) (Or.inl ⟨by rfl, ?_⟩) hS ?_
  rotate_left
  · intro w hSw
    go_simp
    with_reducible rfl
  try simp only [Act.put, List.setIfInBounds_toArray, List.set_cons_zero, List.set_cons_succ]
  refine takeD 6 (some 21) (v := ?_) rfl rfl (by kernel_rfl) (by kernel_rfl) (by kernel_rfl) (fun _ _ _ h => h) (Or.inl ⟨by rfl, ?_⟩) hS ?_
  rotate_left
  · intro w hSw
    go_simp
    with_reducible rfl
  try simp only [Act.put, List.setIfInBounds_toArray, List.set_cons_zero, List.set_cons_succ]
  refine takeD 7 (some 22) (v := ?_) rfl rfl (by kernel_rfl) (by kernel_rfl) (by kernel_rfl) (fun _ _ _ h => h) (Or.inl ⟨by rfl, ?_⟩) hS ?_
  rotate_left
  · intro w hSw
    go_simp
    with_reducible rfl
  try simp only [Act.put, List.setIfInBounds_toArray, List.set_cons_zero, List.set_cons_succ]
  refine takeD 8 (some 23) (v := ?_) rfl rfl (by kernel_rfl) (by kernel_rfl) (by kernel_rfl) (fun _ _ _ h => h) (Or.inl ⟨by rfl, ?_⟩) hS ?_
  rotate_left
  · intro w hSw
    go_simp
    with_reducible rfl
  try simp only [Act.put, List.setIfInBounds_toArray, List.set_cons_zero, List.set_cons_succ]
  refine takeD 9 (some 24) (v := ?_) rfl rfl (by kernel_rfl) (by kernel_rfl) (by kernel_rfl) (fun _ _ _ h => h) (Or.inl ⟨by rfl, ?_⟩) hS ?_
  rotate_left
  · intro w hSw
    go_simp
    with_reducible rfl
  try simp only [Act.put, List.setIfInBounds_toArray, List.set_cons_zero, List.set_cons_succ]
  refine takeD 10 (some 25) (v := ?_) rfl rfl (by kernel_rfl) (by kernel_rfl) (by kernel_rfl) (fun _ _ _ h => h) (Or.inl ⟨by rfl, ?_⟩) hS ?_
  rotate_left
  · intro w hSw
    go_simp
    with_reducible rfl
  try simp only [Act.put, List.setIfInBounds_toArray, List.set_cons_zero, List.set_cons_succ]
  refine takeD 11 (some 26) (v := ?_) rfl rfl (by kernel_rfl) (by kernel_rfl) (by kernel_rfl) (fun _ _ _ h => h) (Or.inl ⟨by rfl, ?_⟩) hS ?_
  rotate_left
  · intro w hSw
    go_simp
    with_reducible rfl
  try simp only [Act.put, List.setIfInBounds_toArray, List.set_cons_zero, List.set_cons_succ]
  refine takeD 12 (some 27) (v := ?_) rfl rfl (by kernel_rfl) (by kernel_rfl) (by kernel_rfl) (fun _ _ _ h => h) (Or.inl ⟨by rfl, ?_⟩) hS ?_
  rotate_left
  · intro w hSw
    go_simp
    with_reducible rfl
  try simp only [Act.put, List.setIfInBounds_toArray, List.set_cons_zero, List.set_cons_succ]
  refine takeD 13 (some 28) (v := ?_) rfl rfl (by kernel_rfl) (by kernel_rfl) (by kernel_rfl) (fun _ _ _ h => h) (Or.inl ⟨by rfl, ?_⟩) hS ?_
  rotate_left
  · intro w hSw
    go_simp
    with_reducible rfl
  try simp only [Act.put, List.setIfInBounds_toArray, List.set_cons_zero, List.set_cons_succ]
  refine takeD 14 (some 29) (v := ?_) rfl rfl (by kernel_rfl) (by kernel_rfl) (by kernel_rfl) (fun _ _ _ h => h) (Or.inl ⟨by rfl, ?_⟩) hS ?_
  rotate_left
  · intro w hSw
    go_simp
    with_reducible rfl
  try simp only [Act.put, List.setIfInBounds_toArray, List.set_cons_zero, List.set_cons_succ]
  refine callD 15 (by kernel_rfl) rfl (fun K hK => ?_)
  go_simp
  refine (HC.out _).mono ?_
  rintro e3 W3 ⟨rfl, hW3⟩
  have hS3 : Below w1.heap.size w1 W3 := hS.trans (hW3.mono hS.size)
  refine hK.out _ _ hS3 (fun _ => ?_)
  clear hK K
  try simp only [Act.put, List.setIfInBounds_toArray, List.set_cons_zero, List.set_cons_succ]
  refine takeD 16 (some 4) (v := ?_) rfl rfl (by kernel_rfl) (by kernel_rfl) (by kernel_rfl) (fun _ _ _ h => h) (Or.inl ⟨by rfl, ?_⟩) hS3 ?_
  rotate_left
  · intro w hSw
    go_simp
    with_reducible rfl
  try simp only [Act.put, List.setIfInBounds_toArray, List.set_cons_zero, List.set_cons_succ]
  refine wpAnyH_done (by kernel_rfl) ?_ _
  go_wp2_with fail
  refine (HP.out _ (HR1.out _ hS3)).mono ?_
  rintro e4 W4 ⟨rfl, hR4, hO4⟩
  obtain ⟨hB1, hs1, hz1, hlt⟩ := HB.out
  have hz4 : W4.heap[w.heap.size]? = some (.cells #[.int .i64 0, .string ⟨#[]⟩, .slice none 0 0] 24 (0, 0)) := (hO4.block _ (by omega)).trans ((hS3.block _ (by omega)).trans hz1)
  have hK4 : Kept g w W4 := (Kept.of_below (hB1.trans (hS3.mono (by omega)))).trans hO4.kept
  have HZ : Hid (W4.heap[w.heap.size]? = some (.cells #[.int .i64 0, .string ⟨#[]⟩, .slice none 0 0] 24 (0, 0))) := hz4
  have HK : Hid (∀ cs, Kept g w (W4.setRow w.heap.size cs) ∧ RAt (W4.setRow w.heap.size cs) g s (skip s e)) := fun cs => ⟨hK4.setRow _ _ (Nat.le_refl _), hR4.setRow _ _ (by omega)⟩
  clear hB1 hs1 hz1 hz4 hK4 hR4 hO4 hS3 hS hW3 g0 g1 HR1 HN HC HP HB
  go_wp2_with (refine wpList_store_row rfl 24 _ _ rfl w.heap.size #[.int .i64 1, .string (s.extract i e), .slice none 0 0] rfl rfl 24 _ HZ.out sizeExpr rfl (ones3 _ _ _ _ _) ?_)
  refine bodyPost_ret (results_cell_row rfl _ _ w.heap.size 24 #[.int .i64 1, .string (s.extract i e), .slice none 0 0] (0, 0) _ rfl (setRow_heap _ _ _ _ _ _ HZ.out) Tryd.underlying24 rfl sizeExpr) rfl ?_
  exact ⟨_, rfl, HW.out, (HK.out _).1, (HK.out _).2, HL.out⟩
end Go.Proofs.YtafidabopcgkhaaDoor
