/-
  PROVED HERE: how many a tree has, and how many within one another, by the document's own count and deep: what they return; nothing that lay before is turned.
-/
import Derived.Test.YtafidabopcgkhaaDoorTree
namespace Go.Proofs.YtafidabopcgkhaaDoor
open Go.RowKit

/-- Those within. -/
def subs : DataW Unit → List (DataW Unit)
  | .agg [_, _, .slice ts _] => ts
  | _ => []
def kindT : DataW Unit → Int
  | .agg [.lit (.int _ k), _, _] => k
  | _ => 0
theorem subs_node (k : Int) (s : ByteArray) (ts : List (DataW Unit)) : subs (node k s ts) = ts := rfl
theorem kindT_node (k : Int) (s : ByteArray) (ts : List (DataW Unit)) : kindT (node k s ts) = k := rfl
/-- The sum of what f gives. -/
def total (f : DataW Unit → Int) : List (DataW Unit) → Int
  | [] => 0
  | x :: r => f x + total f r
/-- The greatest of what f gives. -/
def greatest (f : DataW Unit → Int) : List (DataW Unit) → Int
  | [] => 0
  | x :: r => max (f x) (greatest f r)
/-- How many. -/
def cnt : Nat → DataW Unit → Int
  | 0, _ => 0
  | n + 1, t => 1 + total (cnt n) (subs t)
/-- How many within one another. -/
def dp : Nat → DataW Unit → Int
  | 0, _ => 0
  | n + 1, t => greatest (dp n) (subs t) + 1
theorem total_nonneg {f : DataW Unit → Int} (h : ∀ x, 0 ≤ f x) (l : List (DataW Unit)) : 0 ≤ total f l := by
  induction l with
  | nil => exact Int.le_refl _
  | cons x r ih => have := h x; rw [total]; omega
theorem cnt_nonneg (n : Nat) : ∀ t, 0 ≤ cnt n t := by
  induction n with
  | zero => intro t; exact Int.le_refl _
  | succ n ih => intro t; have := total_nonneg ih (subs t); rw [cnt]; omega
theorem total_take {f : DataW Unit → Int} {ts : List (DataW Unit)} {i : Nat} {x : DataW Unit} (h : ts[i]? = some x) : total f (ts.take (i + 1)) = total f (ts.take i) + f x := by
  induction ts generalizing i with
  | nil => simp at h
  | cons y r ih =>
    cases i with
    | zero =>
      obtain rfl : y = x := by simpa using h
      simp [total]
    | succ i =>
      have := ih (i := i) (by simpa using h)
      rw [List.take_succ_cons, List.take_succ_cons, total, total, this]
      omega
theorem total_part {f : DataW Unit → Int} (hf : ∀ x, 0 ≤ f x) (ts : List (DataW Unit)) (i : Nat) : total f (ts.take i) ≤ total f ts := by
  induction ts generalizing i with
  | nil => simp
  | cons y r ih =>
    cases i with
    | zero => exact total_nonneg hf _
    | succ i => have := ih i; rw [List.take_succ_cons, total, total]; omega
theorem total_mem {f : DataW Unit → Int} (hf : ∀ x, 0 ≤ f x) {ts : List (DataW Unit)} {x : DataW Unit} (h : x ∈ ts) : f x ≤ total f ts := by
  induction ts with
  | nil => cases h
  | cons y r ih =>
    have h1 := total_nonneg hf r
    have h2 := hf y
    rw [total]
    rcases List.mem_cons.1 h with rfl | h
    · omega
    · have := ih h; omega
theorem greatest_take {f : DataW Unit → Int} {ts : List (DataW Unit)} {i : Nat} {x : DataW Unit} (h : ts[i]? = some x) (hf : ∀ x, 0 ≤ f x) : greatest f (ts.take (i + 1)) = max (greatest f (ts.take i)) (f x) := by
  induction ts generalizing i with
  | nil => simp at h
  | cons y r ih =>
    cases i with
    | zero =>
      obtain rfl : y = x := by simpa using h
      have := hf y
      simp only [List.take_succ_cons, List.take_zero, greatest]
      omega
    | succ i =>
      have := ih (i := i) (by simpa using h)
      rw [List.take_succ_cons, List.take_succ_cons, greatest, greatest, this]
      omega
theorem greatest_nonneg (f : DataW Unit → Int) (l : List (DataW Unit)) : 0 ≤ greatest f l := by
  induction l with
  | nil => exact Int.le_refl _
  | cons x r ih => rw [greatest]; omega
theorem dp_nonneg (n : Nat) : ∀ t, 0 ≤ dp n t := by
  cases n with
  | zero => intro t; exact Int.le_refl _
  | succ n => intro t; have := greatest_nonneg (dp n) (subs t); rw [dp]; omega
theorem greatest_total {f g : DataW Unit → Int} (h : ∀ x, f x ≤ g x) (hg : ∀ x, 0 ≤ g x) (l : List (DataW Unit)) : greatest f l ≤ total g l := by
  induction l with
  | nil => exact Int.le_refl _
  | cons x r ih =>
    have h1 := h x
    have h2 := hg x
    have h3 := total_nonneg hg r
    rw [greatest, total]
    omega
theorem dp_cnt (n : Nat) : ∀ t, dp n t ≤ cnt n t := by
  induction n with
  | zero => intro t; exact Int.le_refl _
  | succ n ih => intro t; have := greatest_total ih (cnt_nonneg n) (subs t); rw [dp, cnt]; omega
/-- One new block of three cells, kept. -/
theorem one_kept {w W : World} {x0 x1 x2 : Value} {T : TypeId} (hB : Below (w.alloc (.cells #[x0, x1, x2] T)).heap.size (w.alloc (.cells #[x0, x1, x2] T)) W) :
    W.cell? ⟨w.heap.size, 0, none⟩ = some x0 ∧ W.cell? ⟨w.heap.size, 1, none⟩ = some x1 ∧ W.cell? ⟨w.heap.size, 2, none⟩ = some x2 ∧ Below w.heap.size w W := by
  refine ⟨?_, ?_, ?_, ?_⟩
  · rw [hB.cell (p := ⟨w.heap.size, 0, none⟩) (by simp)]
    simp
  · rw [hB.cell (p := ⟨w.heap.size, 1, none⟩) (by simp)]
    simp
  · rw [hB.cell (p := ⟨w.heap.size, 2, none⟩) (by simp)]
    simp
  · exact ((Below.refl _ w).alloc (Nat.le_refl _) _).trans (hB.mono (by simp))

set_option maxRecDepth 100000 in
set_option maxHeartbeats 2000000 in
theorem count_calls : ∀ (n : Nat) (t : DataW Unit) (v : Value) (w : World), Ex w n t v → cnt n t ≤ 1152921504606846976 →
    Calls Tryd.prog 27 #[v] w fun e w' => e = .returned (.int .i64 (cnt n t)) ∧ Below w.heap.size w w' := by
  intro n
  induction n with
  | zero => intro t v w h; exact h.elim
  | succ n ih =>
    intro t v w h hc
    obtain ⟨k, s, a, len, cap, ts, rfl, rfl, hl, hz, hk⟩ := h
    have hcn := cnt_nonneg n
    rw [cnt, subs_node] at *
    generalize cnt n = f at *
    have hall : Hid (total f (ts.take len) = total f ts) := by show _ = _; rw [List.take_of_length_le (Nat.le_of_eq hl)]
    generalize hR : total f ts = R at *
    have HR : Hid (total f ts = R) := hR
    clear hR
    go_enter Tryd.func27, Tryd.ntmps27
    go_wp2
    go_loopw [3, 4] (fun u i w' => ∃ j : Nat, j ≤ len ∧ i = .int .i64 (j : Int) ∧ u = .int .i64 (1 + total f (ts.take j)) ∧ Below (w.alloc (.cells #[.int .i64 k, .string s, .slice a len cap] 24)).heap.size (w.alloc (.cells #[.int .i64 k, .string s, .slice a len cap] 24)) w') (fun _ i _ => len - (intOf i).toNat)
    case atStart => exact ⟨0, by omega, rfl, by simp [total], Below.refl _ _⟩
    case round =>
      obtain ⟨i, hi, rfl, rfl, hB⟩ := hrel
      obtain ⟨-, -, b0, hBw⟩ := one_kept hB
      by_cases hlt : i < len
      · obtain ⟨b, o, x, kx, sx, ax, lx, cx, rfl, _, hx, hcx⟩ := kid_at hl hk hlt
        obtain ⟨p0, p1, p2, p3⟩ := hcx wr hBw
        have hst := total_take (f := f) hx
        have h1 := total_part hcn ts (i + 1)
        have h2 := total_nonneg hcn (ts.take i)
        have h3 := hcn x
        rw [HR.out] at h1
        rw [hst] at h1
        have HS : Hid (total f (ts.take (i + 1)) = total f (ts.take i) + f x) := hst
        have HC := ih x _ wr p3 (by omega)
        clear hcx hk p3 hst hx ih
        generalize total f (ts.take i) = z at *
        generalize f x = y at *
        go_wp2_with fail
        refine HC.mono ?_
        rintro e W1 ⟨rfl, hB1⟩
        go_wp2
        go_roundw
        case rel => exact ⟨i + 1, by omega, rfl, by rw [HS.out]; congr 1; omega, hB.trans (hB1.mono hB.size)⟩
        case measure => simp [intOf]; omega
      · obtain rfl : i = len := by omega
        rw [hall.out]
        clear hk ih
        go_wp2
        go_ret
        exact ⟨rfl, hBw⟩

set_option maxRecDepth 100000 in
set_option maxHeartbeats 2000000 in
theorem deep_calls : ∀ (n : Nat) (t : DataW Unit) (v : Value) (w : World), Ex w n t v → cnt n t ≤ 1152921504606846976 →
    Calls Tryd.prog 28 #[v] w fun e w' => e = .returned (.int .i64 (dp n t)) ∧ Below w.heap.size w w' := by
  intro n
  induction n with
  | zero => intro t v w h; exact h.elim
  | succ n ih =>
    intro t v w h hc
    obtain ⟨k, s, a, len, cap, ts, rfl, rfl, hl, hz, hk⟩ := h
    have hcn := cnt_nonneg n
    have hdn := dp_nonneg n
    have hdc := dp_cnt n
    rw [cnt, subs_node] at hc
    rw [dp, subs_node]
    generalize cnt n = f at *
    generalize dp n = d at *
    have hall : Hid (greatest d (ts.take len) = greatest d ts) := by show _ = _; rw [List.take_of_length_le (Nat.le_of_eq hl)]
    have hg0 := greatest_total hdc hcn ts
    have hg1 := greatest_nonneg d ts
    generalize hR : greatest d ts = R at *
    clear hR
    go_enter Tryd.func28, Tryd.ntmps28
    go_wp2
    go_loopw [3, 4] (fun u i w' => ∃ j : Nat, j ≤ len ∧ i = .int .i64 (j : Int) ∧ u = .int .i64 (greatest d (ts.take j)) ∧ Below (w.alloc (.cells #[.int .i64 k, .string s, .slice a len cap] 24)).heap.size (w.alloc (.cells #[.int .i64 k, .string s, .slice a len cap] 24)) w') (fun _ i _ => len - (intOf i).toNat)
    case atStart => exact ⟨0, by omega, rfl, by simp [greatest], Below.refl _ _⟩
    case round =>
      obtain ⟨i, hi, rfl, rfl, hB⟩ := hrel
      obtain ⟨-, -, b0, hBw⟩ := one_kept hB
      by_cases hlt : i < len
      · obtain ⟨b, o, x, kx, sx, ax, lx, cx, rfl, _, hx, hcx⟩ := kid_at hl hk hlt
        obtain ⟨p0, p1, p2, p3⟩ := hcx wr hBw
        have HS : Hid (greatest d (ts.take (i + 1)) = max (greatest d (ts.take i)) (d x)) := greatest_take hx hdn
        have h1 := total_mem hcn (List.mem_of_getElem? hx)
        have HC := ih x _ wr p3 (by omega)
        clear hcx hk p3 hx ih
        generalize greatest d (ts.take i) = z at *
        generalize d x = y at *
        go_wp2_with fail
        refine HC.mono ?_
        rintro e W1 ⟨rfl, hB1⟩
        go_wp2
        go_roundw
        case rel => exact ⟨i + 1, by omega, rfl, by rw [HS.out]; congr 1; split <;> omega, hB.trans (hB1.mono hB.size)⟩
        case measure => simp [intOf]; omega
      · obtain rfl : i = len := by omega
        rw [hall.out]
        clear hk ih
        go_wp2
        go_ret
        exact ⟨rfl, hBw⟩
end Go.Proofs.YtafidabopcgkhaaDoor
