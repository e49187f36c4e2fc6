/-
  PROVED HERE: the document's own Pairs at every two slices of tokens.
-/
import Derived.Test.YtgpopploimeeaaaRPairs
import Derived.Test.YtgpopploimeeaaaEq
namespace Go.Proofs.Ytgpopploimeeaaa
open Go.RowKit

/-- Which places are alike. -/
def likeL (l1 l2 : List Tok) (i j : Nat) : Bool :=
  match l1[i]?, l2[j]? with
  | some x, some y => tokEq x y
  | _, _ => false

theorem info_bools : (Try.prog.info? 66).map (fun i => (i.zero, i.size, i.bytes)) = some (some (.slice none 0 0), 1, 24) := by kernel_rfl
theorem info_bool : (Try.prog.info? 4).map (fun i => (i.zero, i.size, i.bytes)) = some (some (.bool false), 1, 1) := by kernel_rfl

/-- A row while it is filled: j places are. -/
def rowC (like : Nat → Nat → Bool) (p m j : Nat) : Array Value := ((List.range m).map fun q => (.bool (if q < j then like p q else false) : Value)).toArray
theorem rowC_zero (like : Nat → Nat → Bool) (p m : Nat) : rowC like p m 0 = madeCells #[.bool false] m := by
  apply Array.ext
  · simp [rowC, madeCells]
  · intro i h1 h2
    simp [rowC, madeCells, Nat.mod_one]
theorem rowC_at (like : Nat → Nat → Bool) (p m j q : Nat) (hq : q < m) : (rowC like p m j)[q]? = some (.bool (if q < j then like p q else false)) := by
  unfold rowC
  rw [List.getElem?_toArray, List.getElem?_map, List.getElem?_range hq]
  rfl
theorem rowC_set (like : Nat → Nat → Bool) (p m j : Nat) (hj : j < m) : (rowC like p m j).setIfInBounds j (.bool (like p j)) = rowC like p m (j + 1) := by
  have hs : ∀ k, (rowC like p m k).size = m := fun k => by simp [rowC]
  apply Array.ext_getElem?
  intro i
  rw [Array.getElem?_setIfInBounds, hs]
  by_cases hi : i < m
  · rw [rowC_at like p m (j + 1) i hi, rowC_at like p m j i hi]
    by_cases e : j = i
    · subst e
      rw [if_pos rfl, if_pos hj, if_pos (by omega)]
    · rw [if_neg e]
      by_cases e2 : i < j
      · rw [if_pos e2, if_pos (by omega)]
      · rw [if_neg e2, if_neg (by omega)]
  · have h0 : (rowC like p m j)[i]? = none := Array.getElem?_eq_none (by rw [hs]; omega)
    have h3 : (rowC like p m (j + 1))[i]? = none := Array.getElem?_eq_none (by rw [hs]; omega)
    rw [h0, h3, if_neg (by omega)]

/-- k rows are filled, and told in the outer one. -/
structure Lk (like : Nat → Nat → Bool) (w W : World) (n m k : Nat) : Prop where
  top : W.heap[w.heap.size]? = some (.cells (topC w.heap.size n m k) 66 (0, 0))
  row : ∀ p, p < k → W.heap[w.heap.size + 1 + p]? = some (.cells (rowC like p m m) 4 (0, 0))
  size : W.heap.size = w.heap.size + 1 + k
  b : Below w.heap.size w W
/-- One row more is being filled. -/
structure Lj (like : Nat → Nat → Bool) (w W : World) (n m k j : Nat) : Prop where
  top : W.heap[w.heap.size]? = some (.cells (topC w.heap.size n m k) 66 (0, 0))
  row : ∀ p, p < k → W.heap[w.heap.size + 1 + p]? = some (.cells (rowC like p m m) 4 (0, 0))
  now : W.heap[w.heap.size + 1 + k]? = some (.cells (rowC like k m j) 4 (0, 0))
  size : W.heap.size = w.heap.size + 1 + k + 1
  b : Below w.heap.size w W

section
variable {like : Nat → Nat → Bool} {w W : World} {n m k j : Nat}
theorem Lk.open (h : Lk like w W n m k) : Lj like w (W.alloc (.cells (madeCells #[.bool false] m) 4)) n m k 0 := by
  have hs := h.size
  refine ⟨(Below.heap_alloc W _ _ (by omega)).trans h.top, fun p hp => (Below.heap_alloc W _ _ (by omega)).trans (h.row p hp), ?_, by rw [World.size_alloc]; omega, h.b.alloc (by omega) _⟩
  rw [rowC_zero, ← hs]
  exact World.alloc_heap_new W _
theorem Lj.set (h : Lj like w W n m k j) (hj : j < m) : Lj like w (W.setCell ⟨w.heap.size + 1 + k, j, none⟩ (.bool (like k j))).drew n m k (j + 1) := by
  have ho : ∀ q, q ≠ w.heap.size + 1 + k → (W.setCell ⟨w.heap.size + 1 + k, j, none⟩ (.bool (like k j))).heap[q]? = W.heap[q]? := fun q hq => Below.heap_setCell _ _ _ _ hq
  have ht := heap_set_row W (w.heap.size + 1 + k) j _ _ (.bool (like k j)) h.now
  rw [rowC_set like k m j hj] at ht
  exact ⟨(ho _ (by omega)).trans h.top, fun p hp => (ho _ (by omega)).trans (h.row p hp), ht, by show (W.setCell _ _).heap.size = _; simp only [World.size_setCell]; exact h.size, (h.b.setCell (by show w.heap.size ≤ w.heap.size + 1 + k; omega) _).drew⟩
theorem Lj.close (h : Lj like w W n m k m) (hk : k < n) : Lk like w (W.setCell ⟨w.heap.size, k, none⟩ (.slice (some ⟨w.heap.size + 1 + k, 0, none⟩) m m)) n m (k + 1) := by
  have ho : ∀ q, q ≠ w.heap.size → (W.setCell ⟨w.heap.size, k, none⟩ (.slice (some ⟨w.heap.size + 1 + k, 0, none⟩) m m)).heap[q]? = W.heap[q]? := fun q hq => Below.heap_setCell _ _ _ _ hq
  have ht := heap_set_row W w.heap.size k _ _ (.slice (some ⟨w.heap.size + 1 + k, 0, none⟩) m m) h.top
  rw [topC_set _ _ _ _ hk] at ht
  refine ⟨ht, fun p hp => (ho _ (by omega)).trans ?_, by simp only [World.size_setCell]; rw [h.size]; omega, h.b.setCell (Nat.le_refl _) _⟩
  by_cases e : p = k
  · subst e
    exact h.now
  · exact h.row p (by omega)
theorem Lk.grid (h : Lk like w W n m n) : BoolG W w.heap.size w.heap.size n m (fun i => w.heap.size + 1 + i) like := by
  have hs := h.size
  have hc : ∀ (b o : Nat) (cs : Array Value) (t : TypeId), W.heap[b]? = some (.cells cs t (0, 0)) → W.cell? ⟨b, o, none⟩ = cs[o]? := fun b o cs t hh => by
    simp only [World.cell?]
    rw [hh]
    rfl
  refine ⟨fun i hi => ?_, fun i j hi hj => ?_, fun i j hi => ?_, fun i _ => by omega, fun i k _ _ e => by omega, Nat.le_refl _, fun i _ => by omega, by omega, fun i hi => by omega⟩
  · rw [hc _ _ _ _ h.top, topC_at _ _ _ _ _ hi, if_pos hi]
  · rw [hc _ _ _ _ (h.row i hi), rowC_at like i m m j hj, if_pos hj]
  · simp [World.frozen?, h.row i hi]
end

theorem owns_base {W : World} {b b' : Nat} {e : TypeId} {s : Nat} {v : Value} {n : Nat} {xs : List Value} (h : W.ownsRow b e s v n xs) (hb : b' ≤ b) : W.ownsRow b' e s v n xs := by
  refine ⟨h.1, ?_⟩
  rcases h.2 with hn | ⟨g, cap, cur, rfl, hbb, rest⟩
  · exact .inl hn
  · exact .inr ⟨g, cap, cur, rfl, by omega, rest⟩

theorem pairs2_long (a1 a2 : Option Addr) (n1 n2 c1 c2 : Nat) (hn : 400 < n1 ∨ 400 < n2) (h1 : n1 ≤ 35184372088832) (h2 : n2 ≤ 35184372088832) (w : World) :
    Calls Try.prog 11 #[.slice a1 n1 c1, .slice a2 n2 c2] w fun e w' => e = .returned (.tuple #[.slice none 0 0, .int .i64 2]) ∧ w' = w := by
  by_cases h3 : 400 < n1
  · have hi : (400 : Int) < (n1 : Int) := by omega
    go_enter Try.func11, Try.ntmps11
    go_wp2
    go_ret2
    exact ⟨rfl, rfl⟩
  · have hi : ¬ (400 : Int) < (n1 : Int) := by omega
    have hj : (400 : Int) < (n2 : Int) := by omega
    go_enter Try.func11, Try.ntmps11
    go_wp2
    go_ret2
    exact ⟨rfl, rfl⟩

set_option maxRecDepth 100000 in
set_option maxHeartbeats 4000000 in
theorem pairs2_calls (a1 a2 : Option Addr) (n m c1 c2 : Nat) (l1 l2 : List Tok) (hn : n ≤ 400) (hm : m ≤ 400) (w : World) (h1 : Toks w a1 n l1) (h2 : Toks w a2 m l2) :
    Calls Try.prog 11 #[.slice a1 n c1, .slice a2 m c2] w fun e w' => ∃ l v, e = .returned (.tuple #[v, .int .i64 0]) ∧ IsPairs (likeL l1 l2) n m 0 0 l ∧ l.length ≤ n ∧ w'.ownsRow w.heap.size 68 2 v l.length (pairV l) ∧ Below w.heap.size w w' := by
  have hmk1 : ∀ W : World, (Instr.makeSlice 65 (.int .i64 (n : Int)) (.int .i64 (n : Int))).run Try.prog W = .ok (.slice (some ⟨W.heap.size, 0, none⟩) n n) (W.alloc (.cells (madeCells #[.slice none 0 0] n) 66)) := fun W => run_make_row' (P := Try.prog) 65 66 (.slice none 0 0) 24 Try.underlying65 info_bools rfl .i64 .i64 n (by omega) (by omega) W
  have hmk2 : ∀ W : World, (Instr.makeSlice 66 (.int .i64 (m : Int)) (.int .i64 (m : Int))).run Try.prog W = .ok (.slice (some ⟨W.heap.size, 0, none⟩) m m) (W.alloc (.cells (madeCells #[.bool false] m) 4)) := fun W => run_make_row' (P := Try.prog) 66 4 (.bool false) 1 Try.underlying66 info_bool rfl .i64 .i64 m (by omega) (by omega) W
  have hni : (n : Int) ≤ 400 := by omega
  have hmi : (m : Int) ≤ 400 := by omega
  have hnl : ¬ ((400 : Int) < (n : Int)) := by omega
  have hml : ¬ ((400 : Int) < (m : Int)) := by omega
  have H1 := hide_ h1
  have H2 := hide_ h2
  clear h1 h2
  go_enter Try.func11, Try.ntmps11
  go_wp2
  go_loopg [7] (n + 1) (fun gk u wr => ∃ k : Nat, u = .int .i64 (k : Int) ∧ k ≤ n ∧ n < k + gk ∧ Hid (Lk (likeL l1 l2) w wr n m k))
  case atStart =>
    refine ⟨0, rfl, Nat.zero_le _, by omega, ?_, fun p hp => by omega, by rw [World.size_alloc], (Below.refl _ w).alloc (Nat.le_refl _) _⟩
    rw [topC_zero]
    exact World.alloc_heap_new w _
  case round =>
    obtain ⟨k, rfl, hk, hgk, HR⟩ := hrel
    have hk0 : (0 : Int) ≤ (k : Int) := by omega
    by_cases hlt : k < n
    · have hlti : (k : Int) < (n : Int) := by omega
      have HO := hide_ HR.out.open
      have hsz : wr.heap.size = w.heap.size + 1 + k := HR.out.size
      clear HR hmk1
      go_wp2
      clear hmk2
      go_loopg [9] (m + 1) (fun gk2 u2 WQ => ∃ j : Nat, u2 = .int .i64 (j : Int) ∧ j ≤ m ∧ m < j + gk2 ∧ Hid (Lj (likeL l1 l2) w WQ n m k j))
      case atStart => exact ⟨0, rfl, Nat.zero_le _, by omega, HO.out⟩
      case round =>
        obtain ⟨j, rfl, hj, hgk2, HR⟩ := hrel
        clear HO
        have hj0 : (0 : Int) ≤ (j : Int) := by omega
        by_cases hlt2 : j < m
        · have hlti2 : (j : Int) < (m : Int) := by omega
          obtain ⟨b, o, x, rfl, hbl, hx, hc⟩ := H1.out.token hlt
          obtain ⟨b', o', y, rfl, hbl', hy, hc'⟩ := H2.out.token hlt2
          obtain ⟨p0, p1, p2, p3⟩ := hc wr HR.out.b
          obtain ⟨q0, q1, q2, q3⟩ := hc' wr HR.out.b
          have hlk : likeL l1 l2 k j = tokEq x y := by unfold likeL; rw [hx, hy]
          clear hc hc' hx hy
          have hg := fun (x y : Operand) (xs ys : Array Value) (W : World) => tok_eqGuard .eql x y xs ys W
          have hq := fun W => tok_eql x y W
          have HN := hide_ (HR.out.set hlt2)
          have hcell : wr.cell? ⟨w.heap.size + 1 + k, j, none⟩ = some (.bool false) := by
            simp only [World.cell?]
            rw [HR.out.now]
            show (rowC _ _ _ _)[j]? = _
            rw [rowC_at _ _ _ _ _ hlt2, if_neg (Nat.lt_irrefl _)]
          have hfro : wr.frozen? ⟨w.heap.size + 1 + k, j, none⟩ = false := by simp [World.frozen?, HR.out.now]
          rw [hlk] at HN
          clear hlk HR
          generalize tokEq x y = d at *
          simp only [tokV] at hq
          obtain ⟨xk, xt, xn, xm⟩ := x
          obtain ⟨yk, yt, yn, ym⟩ := y
          simp only at *
          go_wp2
          go_region
          go_wp2
          go_roundg (m - j)
          case measure => omega
          case rel => exact ⟨j + 1, by first | rfl | go_num, by omega, by omega, HN.out⟩
        · obtain rfl : j = m := by omega
          have hcell : wr.cell? ⟨w.heap.size, k, none⟩ = some (.slice none 0 0) := by
            simp only [World.cell?]
            rw [HR.out.top]
            show (topC _ _ _ _)[k]? = _
            rw [topC_at _ _ _ _ _ hlt, if_neg (by omega)]
          have hfro : wr.frozen? ⟨w.heap.size, k, none⟩ = false := by simp [World.frozen?, HR.out.top]
          have HN := hide_ (HR.out.close hlt)
          clear HR
          go_wp2
          go_roundg (n - k)
          case measure => omega
          case rel => exact ⟨k + 1, by first | rfl | go_num, by omega, by omega, HN.out⟩
    · obtain rfl : k = n := by omega
      have HG := hide_ HR.out.grid
      have HB := hide_ HR.out.b
      have HP := hide_ (pairs_calls (likeL l1 l2) w.heap.size w.heap.size k m k (fun i => w.heap.size + 1 + i) hn hm wr HG.out)
      clear HR hmk1 hmk2
      go_wp2_with fail
      refine HP.out.mono ?_
      rintro e W1 ⟨l, v, rfl, r1, r2, r3, r4⟩
      have HZ : Hid (IsPairs (likeL l1 l2) k m 0 0 l ∧ l.length ≤ k ∧ W1.ownsRow w.heap.size 68 2 v l.length (pairV l) ∧ Below w.heap.size w W1) := ⟨r1, r2, owns_base r3 HB.out.size, HB.out.trans (r4.mono HB.out.size)⟩
      clear r1 r2 r3 r4
      go_wp2
      go_ret2
      exact ⟨l, v, rfl, HZ.out⟩
end Go.Proofs.Ytgpopploimeeaaa
