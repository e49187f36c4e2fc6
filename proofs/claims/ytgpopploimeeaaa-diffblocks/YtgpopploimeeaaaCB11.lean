/-
  PROVED HERE: what the texts RLike, PBlk, FSame say (each has its own words below).
-/
import Derived.Test.YtgpopploimeeaaaCB10
import Derived.Test.YtgpopploimeeaaaCB4
import Derived.Test.YtgpopploimeeaaaCB3
import Derived.Test.YtgpopploimeeaaaCB8
import Derived.Test.YtgpopploimeeaaaCB5
/- RLike: the document's own Pairs at every two slices of tokens. -/
namespace Go.Proofs.Ytgpopploimeeaaa
open Go.RowKit

/-- Which places are alike. -/
def likeL (l1 l2 : List Tok) (i j : Nat) : Bool :=
  match l1[i]?, l2[j]? with
  | some x, some y => tokEq x y
  | _, _ => false

theorem info_bools : (Try.prog.info? 66).map (fun i => (i.zero, i.size, i.bytes)) = some (some (.slice none 0 0), 1, 24) := by kernel_rfl
theorem info_bool : (Try.prog.info? 4).map (fun i => (i.zero, i.size, i.bytes)) = some (some (.bool false), 1, 1) := by kernel_rfl

/-- A row while it is filled: j places are. -/
def rowC (like : Nat → Nat → Bool) (p m j : Nat) : Array Value := ((List.range m).map fun q => (.bool (if q < j then like p q else false) : Value)).toArray
theorem rowC_zero (like : Nat → Nat → Bool) (p m : Nat) : rowC like p m 0 = madeCells #[.bool false] m := by
  apply Array.ext
  · simp [rowC, madeCells]
  · intro i h1 h2
    simp [rowC, madeCells, Nat.mod_one]
theorem rowC_at (like : Nat → Nat → Bool) (p m j q : Nat) (hq : q < m) : (rowC like p m j)[q]? = some (.bool (if q < j then like p q else false)) := by
  unfold rowC
  rw [List.getElem?_toArray, List.getElem?_map, List.getElem?_range hq]
  rfl
theorem rowC_set (like : Nat → Nat → Bool) (p m j : Nat) (hj : j < m) : (rowC like p m j).setIfInBounds j (.bool (like p j)) = rowC like p m (j + 1) := by
  have hs : ∀ k, (rowC like p m k).size = m := fun k => by simp [rowC]
  apply Array.ext_getElem?
  intro i
  rw [Array.getElem?_setIfInBounds, hs]
  by_cases hi : i < m
  · rw [rowC_at like p m (j + 1) i hi, rowC_at like p m j i hi]
    by_cases e : j = i
    · subst e
      rw [if_pos rfl, if_pos hj, if_pos (by omega)]
    · rw [if_neg e]
      by_cases e2 : i < j
      · rw [if_pos e2, if_pos (by omega)]
      · rw [if_neg e2, if_neg (by omega)]
  · have h0 : (rowC like p m j)[i]? = none := Array.getElem?_eq_none (by rw [hs]; omega)
    have h3 : (rowC like p m (j + 1))[i]? = none := Array.getElem?_eq_none (by rw [hs]; omega)
    rw [h0, h3, if_neg (by omega)]

/-- k rows are filled, and told in the outer one. -/
structure Lk (like : Nat → Nat → Bool) (w W : World) (n m k : Nat) : Prop where
  top : W.heap[w.heap.size]? = some (.cells (topC w.heap.size n m k) 66 (0, 0))
  row : ∀ p, p < k → W.heap[w.heap.size + 1 + p]? = some (.cells (rowC like p m m) 4 (0, 0))
  size : W.heap.size = w.heap.size + 1 + k
  b : Below w.heap.size w W
/-- One row more is being filled. -/
structure Lj (like : Nat → Nat → Bool) (w W : World) (n m k j : Nat) : Prop where
  top : W.heap[w.heap.size]? = some (.cells (topC w.heap.size n m k) 66 (0, 0))
  row : ∀ p, p < k → W.heap[w.heap.size + 1 + p]? = some (.cells (rowC like p m m) 4 (0, 0))
  now : W.heap[w.heap.size + 1 + k]? = some (.cells (rowC like k m j) 4 (0, 0))
  size : W.heap.size = w.heap.size + 1 + k + 1
  b : Below w.heap.size w W

section
variable {like : Nat → Nat → Bool} {w W : World} {n m k j : Nat}
theorem Lk.open (h : Lk like w W n m k) : Lj like w (W.alloc (.cells (madeCells #[.bool false] m) 4)) n m k 0 := by
  have hs := h.size
  refine ⟨(Below.heap_alloc W _ _ (by omega)).trans h.top, fun p hp => (Below.heap_alloc W _ _ (by omega)).trans (h.row p hp), ?_, by rw [World.size_alloc]; omega, h.b.alloc (by omega) _⟩
  rw [rowC_zero, ← hs]
  exact World.alloc_heap_new W _
theorem Lj.set (h : Lj like w W n m k j) (hj : j < m) : Lj like w (W.setCell ⟨w.heap.size + 1 + k, j, none⟩ (.bool (like k j))).drew n m k (j + 1) := by
  have ho : ∀ q, q ≠ w.heap.size + 1 + k → (W.setCell ⟨w.heap.size + 1 + k, j, none⟩ (.bool (like k j))).heap[q]? = W.heap[q]? := fun q hq => Below.heap_setCell _ _ _ _ hq
  have ht := heap_set_row W (w.heap.size + 1 + k) j _ _ (.bool (like k j)) h.now
  rw [rowC_set like k m j hj] at ht
  exact ⟨(ho _ (by omega)).trans h.top, fun p hp => (ho _ (by omega)).trans (h.row p hp), ht, by show (W.setCell _ _).heap.size = _; simp only [World.size_setCell]; exact h.size, (h.b.setCell (by show w.heap.size ≤ w.heap.size + 1 + k; omega) _).drew⟩
theorem Lj.close (h : Lj like w W n m k m) (hk : k < n) : Lk like w (W.setCell ⟨w.heap.size, k, none⟩ (.slice (some ⟨w.heap.size + 1 + k, 0, none⟩) m m)) n m (k + 1) := by
  have ho : ∀ q, q ≠ w.heap.size → (W.setCell ⟨w.heap.size, k, none⟩ (.slice (some ⟨w.heap.size + 1 + k, 0, none⟩) m m)).heap[q]? = W.heap[q]? := fun q hq => Below.heap_setCell _ _ _ _ hq
  have ht := heap_set_row W w.heap.size k _ _ (.slice (some ⟨w.heap.size + 1 + k, 0, none⟩) m m) h.top
  rw [topC_set _ _ _ _ hk] at ht
  refine ⟨ht, fun p hp => (ho _ (by omega)).trans ?_, by simp only [World.size_setCell]; rw [h.size]; omega, h.b.setCell (Nat.le_refl _) _⟩
  by_cases e : p = k
  · subst e
    exact h.now
  · exact h.row p (by omega)
theorem Lk.grid (h : Lk like w W n m n) : BoolG W w.heap.size w.heap.size n m (fun i => w.heap.size + 1 + i) like := by
  have hs := h.size
  have hc : ∀ (b o : Nat) (cs : Array Value) (t : TypeId), W.heap[b]? = some (.cells cs t (0, 0)) → W.cell? ⟨b, o, none⟩ = cs[o]? := fun b o cs t hh => by
    simp only [World.cell?]
    rw [hh]
    rfl
  refine ⟨fun i hi => ?_, fun i j hi hj => ?_, fun i j hi => ?_, fun i _ => by omega, fun i k _ _ e => by omega, Nat.le_refl _, fun i _ => by omega, by omega, fun i hi => by omega⟩
  · rw [hc _ _ _ _ h.top, topC_at _ _ _ _ _ hi, if_pos hi]
  · rw [hc _ _ _ _ (h.row i hi), rowC_at like i m m j hj, if_pos hj]
  · simp [World.frozen?, h.row i hi]
end

theorem owns_base {W : World} {b b' : Nat} {e : TypeId} {s : Nat} {v : Value} {n : Nat} {xs : List Value} (h : W.ownsRow b e s v n xs) (hb : b' ≤ b) : W.ownsRow b' e s v n xs := by
  refine ⟨h.1, ?_⟩
  rcases h.2 with hn | ⟨g, cap, cur, rfl, hbb, rest⟩
  · exact .inl hn
  · exact .inr ⟨g, cap, cur, rfl, by omega, rest⟩

theorem pairs2_long (a1 a2 : Option Addr) (n1 n2 c1 c2 : Nat) (hn : 400 < n1 ∨ 400 < n2) (h1 : n1 ≤ 35184372088832) (h2 : n2 ≤ 35184372088832) (w : World) :
    Calls Try.prog 11 #[.slice a1 n1 c1, .slice a2 n2 c2] w fun e w' => e = .returned (.tuple #[.slice none 0 0, .int .i64 2]) ∧ w' = w := by
  by_cases h3 : 400 < n1
  · have hi : (400 : Int) < (n1 : Int) := by omega
    go_enter Try.func11, Try.ntmps11
    go_wp2
    go_ret2
    exact ⟨rfl, rfl⟩
  · have hi : ¬ (400 : Int) < (n1 : Int) := by omega
    have hj : (400 : Int) < (n2 : Int) := by omega
    go_enter Try.func11, Try.ntmps11
    go_wp2
    go_ret2
    exact ⟨rfl, rfl⟩

set_option maxRecDepth 100000 in
set_option maxHeartbeats 4000000 in
theorem pairs2_calls (a1 a2 : Option Addr) (n m c1 c2 : Nat) (l1 l2 : List Tok) (hn : n ≤ 400) (hm : m ≤ 400) (w : World) (h1 : Toks w a1 n l1) (h2 : Toks w a2 m l2) :
    Calls Try.prog 11 #[.slice a1 n c1, .slice a2 m c2] w fun e w' => ∃ l v, e = .returned (.tuple #[v, .int .i64 0]) ∧ IsPairs (likeL l1 l2) n m 0 0 l ∧ l.length ≤ n ∧ w'.ownsRow w.heap.size 68 2 v l.length (pairV l) ∧ Below w.heap.size w w' := by
  have hmk1 : ∀ W : World, (Instr.makeSlice 65 (.int .i64 (n : Int)) (.int .i64 (n : Int))).run Try.prog W = .ok (.slice (some ⟨W.heap.size, 0, none⟩) n n) (W.alloc (.cells (madeCells #[.slice none 0 0] n) 66)) := fun W => run_make_row' (P := Try.prog) 65 66 (.slice none 0 0) 24 Try.underlying65 info_bools rfl .i64 .i64 n (by omega) (by omega) W
  have hmk2 : ∀ W : World, (Instr.makeSlice 66 (.int .i64 (m : Int)) (.int .i64 (m : Int))).run Try.prog W = .ok (.slice (some ⟨W.heap.size, 0, none⟩) m m) (W.alloc (.cells (madeCells #[.bool false] m) 4)) := fun W => run_make_row' (P := Try.prog) 66 4 (.bool false) 1 Try.underlying66 info_bool rfl .i64 .i64 m (by omega) (by omega) W
  have hni : (n : Int) ≤ 400 := by omega
  have hmi : (m : Int) ≤ 400 := by omega
  have hnl : ¬ ((400 : Int) < (n : Int)) := by omega
  have hml : ¬ ((400 : Int) < (m : Int)) := by omega
  have H1 := hide_ h1
  have H2 := hide_ h2
  clear h1 h2
  go_enter Try.func11, Try.ntmps11
  go_wp2
  go_loopg [7] (n + 1) (fun gk u wr => ∃ k : Nat, u = .int .i64 (k : Int) ∧ k ≤ n ∧ n < k + gk ∧ Hid (Lk (likeL l1 l2) w wr n m k))
  case atStart =>
    refine ⟨0, rfl, Nat.zero_le _, by omega, ?_, fun p hp => by omega, by rw [World.size_alloc], (Below.refl _ w).alloc (Nat.le_refl _) _⟩
    rw [topC_zero]
    exact World.alloc_heap_new w _
  case round =>
    obtain ⟨k, rfl, hk, hgk, HR⟩ := hrel
    have hk0 : (0 : Int) ≤ (k : Int) := by omega
    by_cases hlt : k < n
    · have hlti : (k : Int) < (n : Int) := by omega
      have HO := hide_ HR.out.open
      have hsz : wr.heap.size = w.heap.size + 1 + k := HR.out.size
      clear HR hmk1
      go_wp2
      clear hmk2
      go_loopg [9] (m + 1) (fun gk2 u2 WQ => ∃ j : Nat, u2 = .int .i64 (j : Int) ∧ j ≤ m ∧ m < j + gk2 ∧ Hid (Lj (likeL l1 l2) w WQ n m k j))
      case atStart => exact ⟨0, rfl, Nat.zero_le _, by omega, HO.out⟩
      case round =>
        obtain ⟨j, rfl, hj, hgk2, HR⟩ := hrel
        clear HO
        have hj0 : (0 : Int) ≤ (j : Int) := by omega
        by_cases hlt2 : j < m
        · have hlti2 : (j : Int) < (m : Int) := by omega
          obtain ⟨b, o, x, rfl, hbl, hx, hc⟩ := H1.out.token hlt
          obtain ⟨b', o', y, rfl, hbl', hy, hc'⟩ := H2.out.token hlt2
          obtain ⟨p0, p1, p2, p3⟩ := hc wr HR.out.b
          obtain ⟨q0, q1, q2, q3⟩ := hc' wr HR.out.b
          have hlk : likeL l1 l2 k j = tokEq x y := by unfold likeL; rw [hx, hy]
          clear hc hc' hx hy
          have hg := fun (x y : Operand) (xs ys : Array Value) (W : World) => tok_eqGuard .eql x y xs ys W
          have hq := fun W => tok_eql x y W
          have HN := hide_ (HR.out.set hlt2)
          have hcell : wr.cell? ⟨w.heap.size + 1 + k, j, none⟩ = some (.bool false) := by
            simp only [World.cell?]
            rw [HR.out.now]
            show (rowC _ _ _ _)[j]? = _
            rw [rowC_at _ _ _ _ _ hlt2, if_neg (Nat.lt_irrefl _)]
          have hfro : wr.frozen? ⟨w.heap.size + 1 + k, j, none⟩ = false := by simp [World.frozen?, HR.out.now]
          rw [hlk] at HN
          clear hlk HR
          generalize tokEq x y = d at *
          simp only [tokV] at hq
          obtain ⟨xk, xt, xn, xm⟩ := x
          obtain ⟨yk, yt, yn, ym⟩ := y
          simp only at *
          go_wp2
          go_region
          go_wp2
          go_roundg (m - j)
          case measure => omega
          case rel => exact ⟨j + 1, by first | rfl | go_num, by omega, by omega, HN.out⟩
        · obtain rfl : j = m := by omega
          have hcell : wr.cell? ⟨w.heap.size, k, none⟩ = some (.slice none 0 0) := by
            simp only [World.cell?]
            rw [HR.out.top]
            show (topC _ _ _ _)[k]? = _
            rw [topC_at _ _ _ _ _ hlt, if_neg (by omega)]
          have hfro : wr.frozen? ⟨w.heap.size, k, none⟩ = false := by simp [World.frozen?, HR.out.top]
          have HN := hide_ (HR.out.close hlt)
          clear HR
          go_wp2
          go_roundg (n - k)
          case measure => omega
          case rel => exact ⟨k + 1, by first | rfl | go_num, by omega, by omega, HN.out⟩
    · obtain rfl : k = n := by omega
      have HG := hide_ HR.out.grid
      have HB := hide_ HR.out.b
      have HP := hide_ (pairs_calls (likeL l1 l2) w.heap.size w.heap.size k m k (fun i => w.heap.size + 1 + i) hn hm wr HG.out)
      clear HR hmk1 hmk2
      go_wp2_with fail
      refine HP.out.mono ?_
      rintro e W1 ⟨l, v, rfl, r1, r2, r3, r4⟩
      have HZ : Hid (IsPairs (likeL l1 l2) k m 0 0 l ∧ l.length ≤ k ∧ W1.ownsRow w.heap.size 68 2 v l.length (pairV l) ∧ Below w.heap.size w W1) := ⟨r1, r2, owns_base r3 HB.out.size, HB.out.trans (r4.mono HB.out.size)⟩
      clear r1 r2 r3 r4
      go_wp2
      go_ret2
      exact ⟨l, v, rfl, HZ.out⟩
end Go.Proofs.Ytgpopploimeeaaa

/- PBlk: the program's own blocks of a document, in memory. -/
namespace Go.Proofs.Ytgpopploimeeaaa
open Go.RowKit

def blkV (a : Option Addr) (c : Nat) (l : List Tok) (ks : List Nat) : List Value := ks.flatMap fun (k : Nat) => [.int .i64 (k : Int), .slice (partA a c k) (endE l k - k) (c - k)]
theorem blkV_add (a : Option Addr) (c : Nat) (l : List Tok) (ks : List Nat) (k : Nat) : blkV a c l (ks ++ [k]) = blkV a c l ks ++ [.int .i64 (k : Int), .slice (partA a c k) (endE l k - k) (c - k)] := by
  unfold blkV
  rw [List.flatMap_append]
  rfl
theorem blkV_at (a : Option Addr) (c : Nat) (l : List Tok) : ∀ (ks : List Nat) (i k : Nat), ks[i]? = some k → (blkV a c l ks)[2 * i]? = some (.int .i64 (k : Int)) ∧ (blkV a c l ks)[2 * i + 1]? = some (.slice (partA a c k) (endE l k - k) (c - k))
  | [], i, k, h => by simp at h
  | y :: ks, 0, k, h => by
    obtain rfl : y = k := by simpa using h
    exact ⟨rfl, rfl⟩
  | y :: ks, i + 1, k, h => by
    have := blkV_at a c l ks i k (by simpa using h)
    have e : blkV a c l (y :: ks) = .int .i64 (y : Int) :: .slice (partA a c y) (endE l y - y) (c - y) :: blkV a c l ks := rfl
    rw [e, show 2 * (i + 1) = 2 * i + 1 + 1 by omega]
    exact this

theorem info_block : (Try.prog.info? 74).map (fun i => (i.zero, i.size, i.bytes)) = some (some (.agg #[.int .i64 0, .slice none 0 0]), 2, 32) := by kernel_rfl
/-- append of one block to what the call owns. -/
theorem append_blk (base : Nat) (v : Value) (a : Option Addr) (c : Nat) (l : List Tok) (ks : List Nat) (W : World) (hown : W.ownsRow base 74 2 v ks.length (blkV a c l ks)) (hbase : base ≤ W.heap.size) (hn : ks.length ≤ 3000) (k : Nat) :
    ∃ v' W1, (Builtin.append_ #[70, 70] 70 #[v, .slice (some ⟨W.heap.size, 0, none⟩) 1 1]).run Try.prog (W.alloc (.cells #[.int .i64 (k : Int), .slice (partA a c k) (endE l k - k) (c - k)] 74)) = .ok v' W1 ∧
      Hid (W1.ownsRow base 74 2 v' (ks ++ [k]).length (blkV a c l (ks ++ [k])) ∧ (∀ w : World, Below base w W → Below base w W1)) := by
  obtain ⟨i0, hi, hz⟩ := Option.map_eq_some_iff.1 info_block
  simp only [Prod.mk.injEq] at hz
  obtain ⟨hz0, hz1, hz2⟩ := hz
  have hown2 := hown.alloc (.cells #[.int .i64 (k : Int), .slice (partA a c k) (endE l k - k) (c - k)] 74)
  have hB2 : ∀ w : World, Below base w W → Below base w (W.alloc (.cells #[.int .i64 (k : Int), .slice (partA a c k) (endE l k - k) (c - k)] 74)) := fun w h => h.alloc hbase _
  have hsz := World.size_alloc W (.cells #[.int .i64 (k : Int), .slice (partA a c k) (endE l k - k) (c - k)] 74)
  have hnew := World.alloc_heap_new W (.cells #[.int .i64 (k : Int), .slice (partA a c k) (endE l k - k) (c - k)] 74)
  generalize W.alloc (.cells #[.int .i64 (k : Int), .slice (partA a c k) (endE l k - k) (c - k)] 74) = V at *
  have q0 : V.cell? ⟨W.heap.size, 0, none⟩ = some (.int .i64 (k : Int)) := by simp only [World.cell?]; rw [hnew]; rfl
  have q1 : V.cell? ⟨W.heap.size, 1, none⟩ = some (.slice (partA a c k) (endE l k - k) (c - k)) := by simp only [World.cell?]; rw [hnew]; rfl
  obtain ⟨v', W1, hrun, r1, r2, _, _⟩ := run_append_own_at (P := Try.prog) V base 70 70 74 i0 (.agg #[.int .i64 0, .slice none 0 0]) 2 32 Try.underlying70 hi hz0 hz1 hz2 rfl (by decide) v ks.length _ hown2 ⟨W.heap.size, 0, none⟩ 1 1 [.int .i64 (k : Int), .slice (partA a c k) (endE l k - k) (c - k)] (by simp) (fun j u hj => by
    match j, hj with
    | 0, hj => cases hj; exact q0
    | 1, hj => cases hj; exact q1
    | j + 2, hj => simp at hj) (by simp [Value.oneCell']) (by unfold maxLen; omega) (by omega) (by omega)
  refine ⟨v', W1, hrun, ?_, fun w h => (hB2 w h).grown r2 (by omega) (fun j e => (World.ownsRow.lt hown2 _ e).1)⟩
  rw [blkV_add, List.length_append]
  exact r1

/-- Where the i-th block ends, as the program finds it. -/
theorem next_end {l : List Tok} (h : goes l 0 = some 0) {i k : Nat} (hi : (tops l)[i]? = some k) : (i + 1 < (tops l).length ∧ (tops l)[i + 1]? = some (endE l k)) ∨ ((tops l).length ≤ i + 1 ∧ endE l k = l.length) := by
  obtain ⟨a1, a2, a3⟩ := tops_next h hi
  obtain ⟨b1, b2, _⟩ := block_end h a1 a2
  by_cases e : endE l k < l.length
  · rw [if_pos e] at a3
    exact .inl ⟨(List.getElem?_eq_some_iff.1 a3).1, a3⟩
  · rw [if_neg e] at a3
    exact .inr ⟨List.getElem?_eq_none_iff.1 a3, by omega⟩
theorem row_at {zs : List Nat} {i k : Nat} (h : zs[i]? = some k) : (zs.map (fun (n : Nat) => (n : Int))).getD i 0 = (k : Int) := by
  rw [List.getD_eq_getElem?_getD, List.getElem?_map, h]
  rfl
/-- The cells of a row of integers. -/
theorem Row.at {W : World} {a : Option Addr} {len : Nat} {zs : List Nat} (h : Row .i64 W a len (zs.map (fun (n : Nat) => (n : Int)))) {i : Nat} (hi : i < len) :
    ∃ b o k, a = some ⟨b, o, none⟩ ∧ b < W.heap.size ∧ zs[i]? = some k ∧ ∀ W' : World, Below W.heap.size W W' → ∀ (j k' : Nat), zs[j]? = some k' → W'.cell? ⟨b, o + j, none⟩ = some (.int .i64 (k' : Int)) := by
  obtain ⟨h1, h2 | ⟨b, o, rfl, hb, hc⟩⟩ := h
  · omega
  · rw [List.length_map] at h1
    refine ⟨b, o, _, rfl, hb, List.getElem?_eq_getElem (by omega), fun W' hB j k' hk => ?_⟩
    have hj : j < len := by have := (List.getElem?_eq_some_iff.1 hk).1; omega
    rw [hB.cell (p := ⟨b, o + j, none⟩) hb, hc j hj, row_at hk]

set_option maxRecDepth 100000 in
set_option maxHeartbeats 4000000 in
theorem blocks_calls (a : Option Addr) (n c : Nat) (l : List Tok) (w : World) (hl : Toks w a n l) (hg : goes l 0 = some 0) (hn : n ≤ 2048) (hc : n ≤ c) :
    Calls Try.prog 28 #[.slice a n c] w fun e w' => ∃ v, e = .returned v ∧ w'.ownsRow w.heap.size 74 2 v (tops l).length (blkV a c l (tops l)) ∧ Below w.heap.size w w' := by
  have HK := fkids_calls a n c l (-1) w hl (by omega)
  rw [kids_tops hg, List.length_map] at HK
  have hL := hl.1
  have htl : (tops l).length ≤ n := by rw [← hL]; exact topsL_length l _ _
  have HG := hide_ hg
  have HL := hide_ hl
  have hnI : (n : Int) ≤ 2048 := by omega
  have hcI : (n : Int) ≤ (c : Int) := by omega
  clear hl hg
  go_enter Try.func28, Try.ntmps28
  go_wp2_with fail
  refine HK.mono ?_
  rintro e W1 ⟨ak, ck, rfl, hR, hB⟩
  have HR := hide_ hR
  have HB := hide_ hB
  clear hR hB HK
  go_wp2
  go_loopg [4, 12] ((tops l).length + 1) (fun gk v u wr => ∃ i : Nat, u = .int .i64 (i : Int) ∧ i ≤ (tops l).length ∧ (tops l).length < i + gk ∧ Hid (wr.ownsRow W1.heap.size 74 2 v ((tops l).take i).length (blkV a c l ((tops l).take i)) ∧ Below W1.heap.size W1 wr))
  case atStart => exact ⟨0, rfl, Nat.zero_le _, by omega, ⟨rfl, .inl ⟨rfl, rfl⟩⟩, Below.refl _ _⟩
  case round =>
    obtain ⟨i, rfl, hi, hgk, HO⟩ := hrel
    have hi0 : (0 : Int) ≤ (i : Int) := by omega
    rcases Nat.lt_or_ge i (tops l).length with hlt | hge
    · have hlti : (i : Int) < ((tops l).length : Int) := by omega
      obtain ⟨bk, ok, k, rfl, hbk, hk, hck⟩ := HR.out.at hlt
      have hck := hck wr HO.out.2
      have c0 := hck i k hk
      obtain ⟨a1, a2, _⟩ := tops_next HG.out hk
      obtain ⟨b1, b2, _, _, _⟩ := block_end HG.out a1 a2
      rw [hL] at a1 b2
      have htake : ((tops l).take i).length ≤ 3000 := by rw [List.length_take]; omega
      obtain ⟨v', W2, hrun, HW2⟩ := append_blk W1.heap.size u4 a c l ((tops l).take i) wr HO.out.1 HO.out.2.size htake k
      have HRUN := hide_ hrun
      have hst : (tops l).take i ++ [k] = (tops l).take (i + 1) := by rw [List.take_add_one, hk]; rfl
      rw [hst] at HW2
      have HN : Hid (W2.ownsRow W1.heap.size 74 2 v' ((tops l).take (i + 1)).length (blkV a c l ((tops l).take (i + 1))) ∧ Below W1.heap.size W1 W2) := ⟨HW2.out.1, HW2.out.2 W1 HO.out.2⟩
      have hk0 : (0 : Int) ≤ (k : Int) := by omega
      have hke : k ≤ endE l k := by omega
      have hec : endE l k ≤ c := by omega
      rcases next_end HG.out hk with ⟨d1, d2⟩ | ⟨d1, d2⟩
      · have c1 := hck (i + 1) _ d2
        have e1 : (i : Int) + 1 < ((tops l).length : Int) := by omega
        have e2 : (0 : Int) ≤ (i : Int) + 1 := by omega
        have c2 : wr.cell? ⟨bk, ok + (i + 1), none⟩ = some (.int .i64 (endE l k : Int)) := c1
        clear hck HW2 hst hrun a1 a2 b1 b2 d1 d2 HO
        generalize endE l k = E at *
        go_wp2_with (first
          | (at_builtin; refine wpList_run_append rfl (.tmp 29) (.tmp 36) 70 rfl _ _ _ _ rfl rfl HRUN.out ?_)
          | (guard_target =~ wpList _ _ _ (Oper.mk _ (Op.slice _ _ _ _ _) _ _ _ _ :: _) _ _; refine wpList_run_slice rfl (.tmp 31) (some (.tmp 32)) (some (.tmp 33)) 22 rfl _ _ rfl (slice_lh a n c k E hke hec _) ?_))
        go_roundg ((tops l).length - i)
        case measure => omega
        case rel => exact ⟨i + 1, by first | rfl | go_num, by omega, by omega, HN⟩
      · have e1 : ¬ ((i : Int) + 1 < ((tops l).length : Int)) := by omega
        rw [hL] at d2
        rw [d2] at hrun hke hec HRUN
        clear hck HW2 hst hrun a1 a2 b1 b2 d1 d2 HO
        go_wp2_with (first
          | (at_builtin; refine wpList_run_append rfl (.tmp 29) (.tmp 36) 70 rfl _ _ _ _ rfl rfl HRUN.out ?_)
          | (guard_target =~ wpList _ _ _ (Oper.mk _ (Op.slice _ _ _ _ _) _ _ _ _ :: _) _ _; refine wpList_run_slice rfl (.tmp 31) (some (.tmp 32)) (some (.tmp 33)) 22 rfl _ _ rfl (slice_lh a n c k n hke hec _) ?_))
        go_roundg ((tops l).length - i)
        case measure => omega
        case rel => exact ⟨i + 1, by first | rfl | go_num, by omega, by omega, HN⟩
    · obtain rfl : i = (tops l).length := by omega
      have hlti : ¬ (((tops l).length : Int) < ((tops l).length : Int)) := by omega
      have HF : Hid (wr.ownsRow W1.heap.size 74 2 u4 (tops l).length (blkV a c l (tops l)) ∧ Below W1.heap.size W1 wr) := by
        have := HO.out
        rw [List.take_length] at this
        exact this
      clear HO
      go_wp2
      go_ret
      exact ⟨_, rfl, owns_base HF.out.1 HB.out.size, HB.out.trans (HF.out.2.mono HB.out.size)⟩
end Go.Proofs.Ytgpopploimeeaaa

/- FSame: flat.Same at every two slices of tokens: what it returns; nothing that lay before is turned. -/
namespace Go.Proofs.Ytgpopploimeeaaa
open Go.RowKit

set_option maxRecDepth 100000 in
set_option maxHeartbeats 2000000 in
theorem fsame_calls (a1 a2 : Option Addr) (n1 n2 c1 c2 : Nat) (l1 l2 : List Tok) (w : World) (h1 : Toks w a1 n1 l1) (h2 : Toks w a2 n2 l2) (hsz : n1 ≤ 35184372088832) (hsz2 : n2 ≤ 35184372088832) :
    Calls Try.prog 31 #[.slice a1 n1 c1, .slice a2 n2 c2] w fun e w' => e = .returned (.bool (eqL l1 l2)) ∧ Below w.heap.size w w' := by
  by_cases hn : n1 = n2
  · subst hn
    generalize hD : eqL l1 l2 = D at *
    go_enter Try.func31, Try.ntmps31
    go_wp2
    go_loopw [14] (fun i w' => ∃ k : Nat, k ≤ n1 ∧ i = .int .i64 (k : Int) ∧ l1.take k = l2.take k ∧ Below w.heap.size w w') (fun i _ => n1 - (intOf i).toNat)
    case atStart => exact ⟨0, Nat.zero_le _, rfl, rfl, Below.refl _ _⟩
    case round =>
      obtain ⟨k, hk, rfl, ht, hB⟩ := hrel
      have HT : Hid (l1.take k = l2.take k) := ht
      clear ht
      by_cases hlt : k < n1
      · obtain ⟨b, o, x, rfl, hbl, hx, hc⟩ := h1.token hlt
        obtain ⟨b', o', y, rfl, hbl', hy, hc'⟩ := h2.token hlt
        obtain ⟨p0, p1, p2, p3⟩ := hc wr hB
        obtain ⟨q0, q1, q2, q3⟩ := hc' (wr.alloc (.cells #[.int .i64 x.k, .int .i64 x.t, .int .i64 x.n, .int .i64 x.m] 62)) (hB.alloc hB.size _)
        obtain ⟨r0, r1, r2, r3, _⟩ := tok_kept (Below.refl _ (wr.alloc (.cells #[.int .i64 x.k, .int .i64 x.t, .int .i64 x.n, .int .i64 x.m] 62)))
        clear hc hc'
        have hg := fun (x y : Operand) (xs ys : Array Value) (W : World) => tok_eqGuard .neq x y xs ys W
        have hq := fun W => tok_neq x y W
        have hdd : (tokEq x y = true ∧ l1.take (k + 1) = l2.take (k + 1)) ∨ (tokEq x y = false ∧ D = false) := by
          by_cases h : x = y
          · subst h
            exact .inl ⟨(tokEq_iff _ _).2 rfl, take_succ_same HT.out hx hy⟩
          · refine .inr ⟨tokEq_false h, ?_⟩
            rw [← hD]
            apply eqL_false
            intro e
            rw [e, hy] at hx
            exact h (Option.some.inj hx).symm
        generalize tokEq x y = d at *
        simp only [tokV] at hq
        obtain ⟨xk, xt, xn, xm⟩ := x
        obtain ⟨yk, yt, yn, ym⟩ := y
        simp only at *
        rcases hdd with ⟨rfl, hts⟩ | ⟨rfl, hd2⟩
        · have HS : Hid (l1.take (k + 1) = l2.take (k + 1)) := hts
          clear hts hx hy hD h1 h2
          go_wp2_with fail
          go_quiet (fail)
          go_wp2
          go_roundw
          case rel => exact ⟨k + 1, by omega, rfl, HS.out, below_drewN (hB.alloc hB.size _) _⟩
          case measure => simp [intOf]; omega
        · have HD : Hid (D = false) := hd2
          clear hd2 hx hy hD h1 h2
          go_wp2_with fail
          go_quiet (fail)
          go_wp2
          go_ret
          exact ⟨by rw [HD.out]; rfl, below_drewN (hB.alloc hB.size _) _⟩
      · obtain rfl : k = n1 := by omega
        have HD : Hid (D = true) := by
          show D = true
          have := HT.out
          rw [List.take_of_length_le (Nat.le_of_eq h1.1), List.take_of_length_le (Nat.le_of_eq h2.1)] at this
          rw [← hD, this]
          exact (eqL_iff _ _).2 rfl
        clear hD h1 h2
        go_wp2
        go_ret
        exact ⟨by rw [HD.out]; rfl, hB⟩
  · have HD : eqL l1 l2 = false := by
      apply eqL_false
      intro e
      exact hn (by rw [← h1.1, ← h2.1, e])
    rw [HD]
    go_enter Try.func31, Try.ntmps31
    go_wp2
    go_ret
    exact ⟨rfl, Below.refl _ _⟩
end Go.Proofs.Ytgpopploimeeaaa
