/-
  PROVED HERE: a place in bytes (codec.place), as it lies; its number at any place: the number, the place behind it; or the error that leaves by a panic.
-/
import Derived.Test.YtppiklgkpicfeaaCAwk
import Derived.Test.YtppiklgkpicfeaaQGet
import Derived.Test.YtppiklgkpicfeaaQRefGet
import Derived.WalkLawsBesides
namespace Go.Proofs.Ytppiklgkpicfeaa
open Go.RowKit

/-- A reader as it lies. -/
def Rd (w : World) (B : Nat) (a : Option Addr) (len cap : Nat) (p : Int) : Prop := w.heap[B]? = some (.cells #[.slice a len cap, .int .i64 p] 64 (0, 0))

theorem Rd.lt {w : World} {B : Nat} {a : Option Addr} {len cap : Nat} {p : Int} (h : Rd w B a len cap p) : B < w.heap.size := (Array.getElem?_eq_some_iff.1 h).1
theorem Rd.cell0 {w : World} {B : Nat} {a : Option Addr} {len cap : Nat} {p : Int} (h : Rd w B a len cap p) : w.cell? ⟨B, 0, none⟩ = some (.slice a len cap) := by
  unfold Rd at h
  simp only [World.cell?]
  rw [h]
  rfl
theorem Rd.cell1 {w : World} {B : Nat} {a : Option Addr} {len cap : Nat} {p : Int} (h : Rd w B a len cap p) : w.cell? ⟨B, 1, none⟩ = some (.int .i64 p) := by
  unfold Rd at h
  simp only [World.cell?]
  rw [h]
  rfl
theorem Rd.frozen1 {w : World} {B : Nat} {a : Option Addr} {len cap : Nat} {p : Int} (h : Rd w B a len cap p) : w.frozen? ⟨B, 1, none⟩ = false := by
  unfold Rd at h
  simp [World.frozen?, h]
theorem Rd.below {w w' : World} {B n : Nat} {a : Option Addr} {len cap : Nat} {p : Int} (h : Rd w B a len cap p) (hn : B < n) (hb : Below n w w') : Rd w' B a len cap p := (hb.block B hn).trans h
theorem Rd.set {w : World} {B : Nat} {a : Option Addr} {len cap : Nat} {p : Int} (h : Rd w B a len cap p) (q : Int) : Rd (w.setCell ⟨B, 1, none⟩ (.int .i64 q)) B a len cap q := by
  have hlt := h.lt
  unfold Rd at *
  have hg : w.heap[B] = .cells #[.slice a len cap, .int .i64 p] 64 (0, 0) := by
    rw [Array.getElem?_eq_getElem hlt] at h
    exact Option.some.inj h
  simp [World.setCell, hlt, Array.getElem_modify, hg]

/-- What leaves by a panic. -/
def pan (z : Int) : List PanicEntry := [{ v := .iface 23 (.int .i64 z), recovered := false }]

theorem getL_range : ∀ (r : List Int) (i : Nat) (pl : Int) (n : Nat), 0 ≤ (getL r i pl n).1
  | [], _, _, _ => by simp [getL]
  | c :: r, i, pl, n => by
    rw [getL]
    split
    · simp
    · split
      · exact Int.natCast_nonneg _
      · exact getL_range r _ _ _
theorem getA_pos (bs : List Int) (p : Int) : 0 ≤ (getA bs p).1 := by
  unfold getA
  split
  · simp
  · exact getL_range _ _ _ _

set_option maxRecDepth 100000 in
set_option maxHeartbeats 2000000 in
theorem number_calls (B : Nat) (a : Option Addr) (len cap : Nat) (bs : List Int) (p most x y z : Int) (w : World) (hrd : Rd w B a len cap p) (hrow : Row .u8 w a len bs) (hbs : Bytes bs) (hlen : len ≤ 140737488355328) (hm0 : 0 ≤ most) (hm1 : most ≤ 2147483648) (hg : getA bs p = (x, y, z)) (R : Ending → World → Prop) (k1 : z ≠ 0 → ∀ w', Below w.heap.size w w' → R (.panicked (pan z)) w') (k2 : z = 0 → most < x → ∀ w', Below w.heap.size w w' → R (.panicked (pan 4)) w')
    (k3 : z = 0 → x ≤ most → ∀ W1, Below w.heap.size w W1 → R (.returned (.int .i64 x)) (W1.setCell ⟨B, 1, none⟩ (.int .i64 y))) :
    Calls Try.prog 27 #[.pointer (some ⟨B, 0, none⟩), .int .i64 most] w R := by
  have K1 := hide_ k1
  have K2 := hide_ k2
  have K3 := hide_ k3
  clear k1 k2 k3
  have hlt := hrd.lt
  have hx0 : 0 ≤ x := by have := getA_pos bs p; rw [hg] at this; exact this
  have hmx : Try.prog.follows .mixedOrders = true := by kernel_rfl
  have HG : Hid (∀ X, Below w.heap.size w X → Calls Try.prog 37 #[.slice a len cap, .int .i64 p] X fun e w' => e = .returned (.tuple #[.int .u64 x, .int .i64 y, .int .i64 z]) ∧ Below X.heap.size X w') := by
    intro X hX
    have := get_calls a len cap bs p X (hrow.below hX) hbs hlen
    rw [hg] at this
    exact this
  have HR : Hid (∀ X, Below w.heap.size w X → X.cell? ⟨B, 0, none⟩ = some (.slice a len cap) ∧ X.cell? ⟨B, 1, none⟩ = some (.int .i64 p)) := fun X hX => ⟨(hrd.below hlt hX).cell0, (hrd.below hlt hX).cell1⟩
  clear hg
  unfold pan at K1 K2
  go_enter Try.func27, Try.ntmps27
  go_wp2_with fail
  refine wp_region_held_drew (S := fun X => Below w.heap.size w X) hmx (Below.refl _ _).drew (fun hS => ?_)
  refine takeD 0 (some 9) (v := ?_) rfl rfl (by kernel_rfl) (by kernel_rfl) (by kernel_rfl) (fun _ _ _ h => h) (Or.inl ⟨by rfl, ?_⟩) hS ?_
  rotate_left
  · intro w hSw
    try go_simp
    with_reducible rfl
  try simp only [Act.put, List.setIfInBounds_toArray, List.set_cons_zero, List.set_cons_succ]
  refine takeD 1 (some 10) (v := ?_) rfl rfl (by kernel_rfl) (by kernel_rfl) (by kernel_rfl) (fun _ _ _ h => h) (Or.inl ⟨by rfl, ?_⟩) hS ?_
  rotate_left
  · intro w hSw
    go_simp
    with_reducible rfl
  try simp only [Act.put, List.setIfInBounds_toArray, List.set_cons_zero, List.set_cons_succ]
  refine takeD 2 (some 11) (v := ?_) rfl rfl (by kernel_rfl) (by kernel_rfl) (by kernel_rfl) (fun _ _ _ h => h) (Or.inl ⟨by rfl, ?_⟩) hS ?_
  rotate_left
  · intro w hSw
    go_simp
    with_reducible rfl
  try simp only [Act.put, List.setIfInBounds_toArray, List.set_cons_zero, List.set_cons_succ]
  refine takeD 3 (some 12) (v := ?_) rfl rfl (by kernel_rfl) (by kernel_rfl) (by kernel_rfl) (fun _ _ _ h => h) (Or.inl ⟨by rfl, ?_⟩) hS ?_
  rotate_left
  · intro w hSw
    obtain ⟨r0, r1⟩ := HR.out _ hSw
    go_simp
    with_reducible rfl
  try simp only [Act.put, List.setIfInBounds_toArray, List.set_cons_zero, List.set_cons_succ]
  refine takeD 4 (some 13) (v := ?_) rfl rfl (by kernel_rfl) (by kernel_rfl) (by kernel_rfl) (fun _ _ _ h => h) (Or.inl ⟨by rfl, ?_⟩) hS ?_
  rotate_left
  · intro w hSw
    try go_simp
    with_reducible rfl
  try simp only [Act.put, List.setIfInBounds_toArray, List.set_cons_zero, List.set_cons_succ]
  refine takeD 5 (some 14) (v := ?_) rfl rfl (by kernel_rfl) (by kernel_rfl) (by kernel_rfl) (fun _ _ _ h => h) (Or.inl ⟨by rfl, ?_⟩) hS ?_
  rotate_left
  · intro w hSw
    go_simp
    with_reducible rfl
  try simp only [Act.put, List.setIfInBounds_toArray, List.set_cons_zero, List.set_cons_succ]
  refine takeD 6 (some 15) (v := ?_) rfl rfl (by kernel_rfl) (by kernel_rfl) (by kernel_rfl) (fun _ _ _ h => h) (Or.inl ⟨by rfl, ?_⟩) hS ?_
  rotate_left
  · intro w hSw
    go_simp
    with_reducible rfl
  try simp only [Act.put, List.setIfInBounds_toArray, List.set_cons_zero, List.set_cons_succ]
  refine takeD 7 (some 16) (v := ?_) rfl rfl (by kernel_rfl) (by kernel_rfl) (by kernel_rfl) (fun _ _ _ h => h) (Or.inl ⟨by rfl, ?_⟩) hS ?_
  rotate_left
  · intro w hSw
    obtain ⟨r0, r1⟩ := HR.out _ hSw
    go_simp
    with_reducible rfl
  try simp only [Act.put, List.setIfInBounds_toArray, List.set_cons_zero, List.set_cons_succ]
  refine callD 8 (by kernel_rfl) rfl (fun K hK => ?_)
  rw [if_pos (by rfl)]
  go_simp
  refine (HG.out _ hS).mono ?_
  rintro e Y ⟨rfl, bY⟩
  have hY := hS.trans (bY.mono hS.size)
  clear bY
  refine hK.out _ _ hY (fun _ => ?_)
  clear hK K
  try simp only [Act.put, List.setIfInBounds_toArray, List.set_cons_zero, List.set_cons_succ]
  refine takeD 9 (some 8) (v := ?_) rfl rfl (by kernel_rfl) (by kernel_rfl) (by kernel_rfl) (fun _ _ _ h => h) (Or.inl ⟨by rfl, ?_⟩) hY ?_
  rotate_left
  · intro w hSw
    try go_simp
    with_reducible rfl
  try simp only [Act.put, List.setIfInBounds_toArray, List.set_cons_zero, List.set_cons_succ]
  refine takeD 10 (some 18) (v := ?_) rfl rfl (by kernel_rfl) (by kernel_rfl) (by kernel_rfl) (fun _ _ _ h => h) (Or.inl ⟨by rfl, ?_⟩) hY ?_
  rotate_left
  · intro w hSw
    go_simp
    with_reducible rfl
  try simp only [Act.put, List.setIfInBounds_toArray, List.set_cons_zero, List.set_cons_succ]
  refine takeD 11 (some 19) (v := ?_) rfl rfl (by kernel_rfl) (by kernel_rfl) (by kernel_rfl) (fun _ _ _ h => h) (Or.inl ⟨by rfl, ?_⟩) hY ?_
  rotate_left
  · intro w hSw
    go_simp
    with_reducible rfl
  try simp only [Act.put, List.setIfInBounds_toArray, List.set_cons_zero, List.set_cons_succ]
  refine takeD 12 (some 20) (v := ?_) rfl rfl (by kernel_rfl) (by kernel_rfl) (by kernel_rfl) (fun _ _ _ h => h) (Or.inl ⟨by rfl, ?_⟩) hY ?_
  rotate_left
  · intro w hSw
    go_simp
    with_reducible rfl
  try simp only [Act.put, List.setIfInBounds_toArray, List.set_cons_zero, List.set_cons_succ]
  refine takeD 13 (some 5) (v := ?_) rfl rfl (by kernel_rfl) (by kernel_rfl) (by kernel_rfl) (fun _ _ _ h => h) (Or.inl ⟨by rfl, ?_⟩) hY ?_
  rotate_left
  · intro w hSw
    try go_simp
    with_reducible rfl
  try simp only [Act.put, List.setIfInBounds_toArray, List.set_cons_zero, List.set_cons_succ]
  refine takeD 14 (some 6) (v := ?_) rfl rfl (by kernel_rfl) (by kernel_rfl) (by kernel_rfl) (fun _ _ _ h => h) (Or.inl ⟨by rfl, ?_⟩) hY ?_
  rotate_left
  · intro w hSw
    try go_simp
    with_reducible rfl
  try simp only [Act.put, List.setIfInBounds_toArray, List.set_cons_zero, List.set_cons_succ]
  refine takeD 15 (some 7) (v := ?_) rfl rfl (by kernel_rfl) (by kernel_rfl) (by kernel_rfl) (fun _ _ _ h => h) (Or.inl ⟨by rfl, ?_⟩) hY ?_
  rotate_left
  · intro w hSw
    try go_simp
    with_reducible rfl
  try simp only [Act.put, List.setIfInBounds_toArray, List.set_cons_zero, List.set_cons_succ]
  refine wpAnyH_done (by kernel_rfl) ?_ _
  by_cases hz : z = 0
  · have e1 : (z == 0) = true := by rw [beq_iff_eq]; exact hz
    have e2 : (z != 0) = false := by simpa using hz
    have HZ := hide_ hz
    clear hz
    by_cases hx : most < x
    · go_wp2
      exact ⟨rfl, K2.out HZ.out hx _ hY⟩
    · have r1 := (hrd.below hlt hY).cell1
      have r2 := (hrd.below hlt hY).frozen1
      go_wp2
      exact K3.out HZ.out (by omega) _ hY
  · have e1 : (z == 0) = false := by rw [beq_eq_false_iff_ne]; exact hz
    have e2 : (z != 0) = true := by simpa using hz
    go_wp2
    exact ⟨rfl, K1.out hz _ hY⟩
end Go.Proofs.Ytppiklgkpicfeaa
