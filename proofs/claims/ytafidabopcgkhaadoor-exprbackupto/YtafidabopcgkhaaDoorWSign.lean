/-
  PROVED HERE: write at every right tree: its text is written, nothing else that lay before is turned.
-/
import Derived.Test.YtafidabopcgkhaaDoorWRow
namespace Go.Proofs.YtafidabopcgkhaaDoor
open Go.RowKit

theorem inAll_right {n : Nat} {k : Int} {ts : List (DataW Unit)} (h : inAll n k ts = true) {x : DataW Unit} (hx : x ∈ ts) : rightE n x = true := by
  unfold inAll at h
  have := List.all_eq_true.1 h x hx
  rw [Bool.and_eq_true] at this
  exact this.2
theorem within_wi {k : Int} (hk : k = 4 ∨ k = 5 ∨ k = 6) (f : DataW Unit → ByteArray) (x : DataW Unit) : wiT (f x) (kindT x) k = within f x := by
  unfold wiT within brK
  have h0 : (if k = 3 then false else if k = 2 then kindT x == 3 else rowK (kindT x)) = rowK (kindT x) := by rw [if_neg (by omega), if_neg (by omega)]
  rw [h0]
  unfold rowK
  by_cases h : kindT x = 2 ∨ kindT x = 3
  · rw [if_pos h, if_pos]
    rcases h with h | h <;> rw [h] <;> rfl
  · rw [if_neg h, if_neg]
    intro e
    apply h
    simpa using e
theorem isb_drew {B b : Nat} {bs : List Value} {w : World} (h : Lib.IsBuilder 57 5 B b bs w) : Lib.IsBuilder 57 5 B b bs w.drew := by
  rcases h with ⟨hB, v, hbk, hown, hne⟩ | ⟨hB, v, hbk, hown, hne⟩
  · exact .inl ⟨hB, v, hbk, hown, hne⟩
  · exact .inr ⟨hB, v, hbk, hown, hne⟩
set_option maxRecDepth 100000 in
set_option maxHeartbeats 4000000 in
theorem wsign_calls (w0 : World) (B b n : Nat) (hB0 : B = w0.heap.size) (ih : ∀ (t : DataW Unit) (v : Value), Ex w0 n t v → rightE n t = true → ∀ (w : World) (bs : List Value), Below B w0 w → Lib.IsBuilder 57 5 B b bs w → B ≤ w.heap.size → bs.length + (textE n t).size + 4 * n ≤ 140737488355328 → Calls Tryd.prog 22 #[.pointer (some ⟨b, 0, none⟩), v] w fun e w' => e = .returned (.tuple #[]) ∧ Lib.IsBuilder 57 5 B b (bs ++ Lib.strCells (textE n t)) w' ∧ Below B w w' ∧ BoxK w w') (k : Int) (c : UInt8) (hk : (k = 4 ∧ c = 42) ∨ (k = 5 ∧ c = 43) ∨ (k = 6 ∧ c = 63)) (nm : ByteArray) (bb o cp : Nat) (x : DataW Unit) (kx : Int) (sx : ByteArray) (ax : Option Addr) (lx cx : Nat)
    (hcx : ∀ W : World, Below w0.heap.size w0 W → W.cell? ⟨bb, o, none⟩ = some (.int .i64 kx) ∧ W.cell? ⟨bb, o + 1, none⟩ = some (.string sx) ∧ W.cell? ⟨bb, o + 2, none⟩ = some (.slice ax lx cx) ∧ Ex W n x (.agg #[.int .i64 kx, .string sx, .slice ax lx cx])) (hr : rightE n x = true)
    (w : World) (bs : List Value) (hB : Below B w0 w) (h : Lib.IsBuilder 57 5 B b bs w) (hs : B ≤ w.heap.size) (hlen : bs.length + (within (textE n) x ++ sign c).size + 4 * (n + 1) ≤ 140737488355328) :
    Calls Tryd.prog 22 #[.pointer (some ⟨b, 0, none⟩), .agg #[.int .i64 k, .string nm, .slice (some ⟨bb, o, none⟩) 1 cp]] w fun e w' => e = .returned (.tuple #[]) ∧ Lib.IsBuilder 57 5 B b (bs ++ Lib.strCells (within (textE n) x ++ sign c)) w' ∧ Below B w w' ∧ BoxK w w' := by
  have hmx : Tryd.prog.follows .mixedOrders = true := by kernel_rfl
  obtain ⟨w1, hw1⟩ : ∃ w1, w1 = w.alloc (.cells #[.int .i64 k, .string nm, .slice (some ⟨bb, o, none⟩) 1 cp] 24) := ⟨_, rfl⟩
  have hB1 : Below B w w1 := by rw [hw1]; exact (Below.refl B w).alloc hs _
  have hx1 : BoxK w w1 := by rw [hw1]; exact BoxK.alloc w _
  have hbox : w1.heap[w.heap.size]? = some (.cells #[.int .i64 k, .string nm, .slice (some ⟨bb, o, none⟩) 1 cp] 24 (0, 0)) := by rw [hw1]; exact heap_alloc_new w _
  have hb1 : Lib.IsBuilder 57 5 B b bs w1 := by rw [hw1]; exact isb_alloc h _
  have hs1 : B ≤ w1.heap.size := Bld.next hB1 hs
  obtain ⟨-, -, -, p3⟩ := hcx w0 (Below.refl _ _)
  have hkx : kindT x = kx := ex_kind p3
  have hwi := within_wi (k := k) (by omega) (textE n) x
  rw [hkx] at hwi
  rw [← hwi] at hlen ⊢
  rw [ByteArray.size_append, sign_size] at hlen
  have hwt : (textE n x).size ≤ (wiT (textE n x) kx k).size := by
    unfold wiT
    split
    · rw [ByteArray.size_append, ByteArray.size_append]; omega
    · exact Nat.le_refl _
  have HWI : Hid (∀ W, Below B w W → Lib.IsBuilder 57 5 B b bs W → B ≤ W.heap.size → Calls Tryd.prog 37 #[.pointer (some ⟨b, 0, none⟩), .agg #[.int .i64 kx, .string sx, .slice ax lx cx], .int .i64 k] W fun e w' => e = .returned (.tuple #[]) ∧ Lib.IsBuilder 57 5 B b (bs ++ Lib.strCells (wiT (textE n x) kx k)) w' ∧ Below B W w' ∧ BoxK W w') := fun W h1 h2 h3 => within_calls B b kx sx ax lx cx k (textE n x) bs W (fun W' bs' g1 g2 g3 g4 => ih x _ p3 hr W' bs' ((hB.trans h1).trans g1) g2 g3 (by omega)) h2 h3 (by omega)
  have HBY : Hid (∀ W, Lib.IsBuilder 57 5 B b (bs ++ Lib.strCells (wiT (textE n x) kx k)) W → B ≤ W.heap.size → Calls Tryd.prog 38 #[.pointer (some ⟨b, 0, none⟩), .int .u8 c.toNat] W fun e w' => e = .returned .nilIface ∧ Lib.IsBuilder 57 5 B b ((bs ++ Lib.strCells (wiT (textE n x) kx k)) ++ [.int .u8 c.toNat]) w' ∧ Below B W w' ∧ BoxK W w') := fun W h1 h2 => bbyte_calls B b _ _ W h1 (by rw [List.length_append, Lib.strCells_length]; omega) h2
  obtain ⟨p0, p1, p2, -⟩ := hcx w1 (by rw [← hB0]; exact hB.trans hB1)
  have c0 : w1.cell? ⟨w.heap.size, 0, none⟩ = some (.int .i64 k) := cell_of_row w1 _ 0 _ _ _ hbox
  have c2 : w1.cell? ⟨w.heap.size, 2, none⟩ = some (.slice (some ⟨bb, o, none⟩) 1 cp) := cell_of_row w1 _ 2 _ _ _ hbox
  have HS : Hid (w1.drew.cell? ⟨w.heap.size, 0, none⟩ = some (.int .i64 k) ∧ w1.drew.cell? ⟨w.heap.size, 2, none⟩ = some (.slice (some ⟨bb, o, none⟩) 1 cp) ∧ w1.drew.cell? ⟨bb, o, none⟩ = some (.int .i64 kx) ∧ w1.drew.cell? ⟨bb, o + 1, none⟩ = some (.string sx) ∧ w1.drew.cell? ⟨bb, o + 2, none⟩ = some (.slice ax lx cx)) := ⟨c0, c2, p0, p1, p2⟩
  have HF : Hid (Below B w w1.drew ∧ BoxK w w1.drew ∧ Lib.IsBuilder 57 5 B b bs w1.drew ∧ B ≤ w1.drew.heap.size ∧ w1.drew.heap[w.heap.size]? = some (.cells #[.int .i64 k, .string nm, .slice (some ⟨bb, o, none⟩) 1 cp] 24 (0, 0))) := ⟨hB1.drew, hx1, isb_drew hb1, hs1, hbox⟩
  have HKC : Hid ((k = 4 ∧ c = 42) ∨ (k = 5 ∧ c = 43) ∨ (k = 6 ∧ c = 63)) := hk
  have HBK : Hid (∀ (W : World), BoxK w1.drew W → Below B w1.drew W → (W.cell? ⟨bb, o, none⟩ = some (.int .i64 kx) ∧ W.cell? ⟨bb, o + 1, none⟩ = some (.string sx) ∧ W.cell? ⟨bb, o + 2, none⟩ = some (.slice ax lx cx))) := fun W _ g2 => by
    obtain ⟨r0, r1, r2, -⟩ := hcx W (by rw [← hB0]; exact ((hB.trans hB1).drew).trans g2)
    exact ⟨r0, r1, r2⟩
  obtain ⟨TX, hTX⟩ : ∃ TX, wiT (textE n x) kx k = TX := ⟨_, rfl⟩
  rw [hTX] at HWI HBY ⊢
  have HFIN : Hid (∀ W, Lib.IsBuilder 57 5 B b ((bs ++ Lib.strCells TX) ++ [.int .u8 c.toNat]) W → Lib.IsBuilder 57 5 B b (bs ++ Lib.strCells (TX ++ sign c)) W) := fun W g => by
    rw [strCells_append, strCells_sign, ← List.append_assoc]
    exact g
  clear ih hcx hr hB h hs hlen hB1 hx1 hbox hb1 hs1 p3 hkx hwi hwt p0 p1 p2 c0 c2 hTX
  rcases hk with ⟨rfl, rfl⟩ | ⟨rfl, rfl⟩ | ⟨rfl, rfl⟩
  all_goals
    go_enter Tryd.func22, Tryd.ntmps22
    go_wp2_with fail
    rw [← hw1]
    clear hw1
    refine wp_region_held_drew (S := fun w' => w'.cell? ⟨w.heap.size, 0, none⟩ = some (.int .i64 _) ∧ w'.cell? ⟨w.heap.size, 2, none⟩ = some (.slice (some ⟨bb, o, none⟩) 1 cp) ∧ w'.cell? ⟨bb, o, none⟩ = some (.int .i64 kx) ∧ w'.cell? ⟨bb, o + 1, none⟩ = some (.string sx) ∧ w'.cell? ⟨bb, o + 2, none⟩ = some (.slice ax lx cx)) hmx HS.out (fun hS => ?_)
    refine takeD 0 (some 26) (v := ?_) rfl rfl (by kernel_rfl) (by kernel_rfl) (by kernel_rfl) (fun _ _ _ h => h) (Or.inl ⟨by rfl, ?_⟩) hS ?_
    rotate_left
    · intro w hSw
      obtain ⟨q0, q1, q2, q3, q4⟩ := hSw
      go_simp
      with_reducible rfl
    try simp only [Act.put, List.setIfInBounds_toArray, List.set_cons_zero, List.set_cons_succ]
    refine takeD 1 (some 27) (v := ?_) rfl rfl (by kernel_rfl) (by kernel_rfl) (by kernel_rfl) (fun _ _ _ h => h) (Or.inl ⟨by rfl, ?_⟩) hS ?_
    rotate_left
    · intro w hSw
      obtain ⟨q0, q1, q2, q3, q4⟩ := hSw
      go_simp
      with_reducible rfl
    try simp only [Act.put, List.setIfInBounds_toArray, List.set_cons_zero, List.set_cons_succ]
    refine takeD 2 (some 28) (v := ?_) rfl rfl (by kernel_rfl) (by kernel_rfl) (by kernel_rfl) (fun _ _ _ h => h) (Or.inl ⟨by rfl, ?_⟩) hS ?_
    rotate_left
    · intro w hSw
      obtain ⟨q0, q1, q2, q3, q4⟩ := hSw
      go_simp
      with_reducible rfl
    try simp only [Act.put, List.setIfInBounds_toArray, List.set_cons_zero, List.set_cons_succ]
    refine takeD 3 (some 29) (v := ?_) rfl rfl (by kernel_rfl) (by kernel_rfl) (by kernel_rfl) (fun _ _ _ h => h) (Or.inl ⟨by rfl, ?_⟩) hS ?_
    rotate_left
    · intro w hSw
      obtain ⟨q0, q1, q2, q3, q4⟩ := hSw
      go_simp
      with_reducible rfl
    try simp only [Act.put, List.setIfInBounds_toArray, List.set_cons_zero, List.set_cons_succ]
    refine takeD 4 (some 30) (v := ?_) rfl rfl (by kernel_rfl) (by kernel_rfl) (by kernel_rfl) (fun _ _ _ h => h) (Or.inl ⟨by rfl, ?_⟩) hS ?_
    rotate_left
    · intro w hSw
      obtain ⟨q0, q1, q2, q3, q4⟩ := hSw
      go_simp
      with_reducible rfl
    try simp only [Act.put, List.setIfInBounds_toArray, List.set_cons_zero, List.set_cons_succ]
    refine takeD 5 (some 31) (v := ?_) rfl rfl (by kernel_rfl) (by kernel_rfl) (by kernel_rfl) (fun _ _ _ h => h) (Or.inl ⟨by rfl, ?_⟩) hS ?_
    rotate_left
    · intro w hSw
      obtain ⟨q0, q1, q2, q3, q4⟩ := hSw
      go_simp
      with_reducible rfl
    try simp only [Act.put, List.setIfInBounds_toArray, List.set_cons_zero, List.set_cons_succ]
    refine takeD 6 (some 32) (v := ?_) rfl rfl (by kernel_rfl) (by kernel_rfl) (by kernel_rfl) (fun _ _ _ h => h) (Or.inl ⟨by rfl, ?_⟩) hS ?_
    rotate_left
    · intro w hSw
      obtain ⟨q0, q1, q2, q3, q4⟩ := hSw
      go_simp
      with_reducible rfl
    try simp only [Act.put, List.setIfInBounds_toArray, List.set_cons_zero, List.set_cons_succ]
    refine callD 7 (by kernel_rfl) rfl (fun K hK => ?_)
    go_simp
    refine (HWI.out _ HF.out.1 HF.out.2.2.1 HF.out.2.2.2.1).mono ?_
    rintro e W3 ⟨rfl, h3, hB3, hx3⟩
    have hbox3 := hx3 _ _ _ HF.out.2.2.2.2
    have d0 : W3.cell? ⟨w.heap.size, 0, none⟩ = some (.int .i64 _) := cell_of_row W3 _ 0 _ _ _ hbox3
    have d2 : W3.cell? ⟨w.heap.size, 2, none⟩ = some (.slice (some ⟨bb, o, none⟩) 1 cp) := cell_of_row W3 _ 2 _ _ _ hbox3
    obtain ⟨r0, r1, r2⟩ := HBK.out W3 hx3 hB3
    refine hK.out _ _ ⟨d0, d2, r0, r1, r2⟩ (fun _ => ?_)
    clear hK K
    have HB4 := HBY.out W3 h3 (Bld.next hB3 HF.out.2.2.2.1)
    have HF3 : Hid (Below B w W3 ∧ BoxK w W3) := ⟨HF.out.1.trans hB3, HF.out.2.1.trans hx3⟩
    clear h3 hB3 hx3 hbox3 r0 r1 r2 HBK HBY HF HWI hS HS
    try simp only [Act.put, List.setIfInBounds_toArray, List.set_cons_zero, List.set_cons_succ]
    refine wpAnyH_done (by kernel_rfl) ?_ _
    go_wp2_with fail
    refine HB4.mono ?_
    clear HB4
    rintro e W4 ⟨rfl, h4, hB4, hx4⟩
    have HE := HFIN.out _ h4
    have HE2 : Hid (Below B w W4 ∧ BoxK w W4) := ⟨HF3.out.1.trans hB4, HF3.out.2.trans hx4⟩
    clear h4 hB4 hx4 HF3 d0 d2
    go_wp2
    go_end0
    exact ⟨rfl, HE, HE2.out.1, HE2.out.2⟩
end Go.Proofs.YtafidabopcgkhaaDoor
