/-
  PROVED HERE: what the texts GTab, RTable say (each has its own words below).
-/
import Derived.Test.YtgpopploimeeaaaCB8
/- GTab: the document's own table of the longest pairs. -/
namespace Go.Proofs.Ytgpopploimeeaaa
open Go.RowKit

def BoolG (W : World) (base g n m : Nat) (rb : Nat → Nat) (like : Nat → Nat → Bool) : Prop := Grd W base g n m rb (fun i j => .bool (like i j))
def IntG (W : World) (base g n m : Nat) (rb : Nat → Nat) (f : Nat → Nat → Nat) : Prop := Grd W base g n m rb (fun i j => .int .i64 (f i j : Int))

theorem info_row : (Try.prog.info? 45).map (fun i => (i.zero, i.size, i.bytes)) = some (some (.slice none 0 0), 1, 24) := by kernel_rfl
theorem info_int : (Try.prog.info? 3).map (fun i => (i.zero, i.size, i.bytes)) = some (some (.int .i64 0), 1, 8) := by kernel_rfl

/-- The outer row while the inner ones are made: k of them are. -/
def topC (g n m k : Nat) : Array Value := ((List.range n).map fun p => if p < k then (.slice (some ⟨g + 1 + p, 0, none⟩) m m : Value) else .slice none 0 0).toArray
theorem topC_zero (g n m : Nat) : topC g n m 0 = madeCells #[.slice none 0 0] n := by
  apply Array.ext
  · simp [topC, madeCells]
  · intro i h1 h2
    simp [topC, madeCells, Nat.mod_one]
theorem topC_at (g n m k p : Nat) (hp : p < n) : (topC g n m k)[p]? = some (if p < k then (.slice (some ⟨g + 1 + p, 0, none⟩) m m : Value) else .slice none 0 0) := by
  unfold topC
  rw [List.getElem?_toArray, List.getElem?_map, List.getElem?_range hp]
  rfl
theorem topC_set (g n m k : Nat) (hk : k < n) : (topC g n m k).setIfInBounds k (.slice (some ⟨g + 1 + k, 0, none⟩) m m) = topC g n m (k + 1) := by
  apply Array.ext_getElem?
  intro p
  rw [Array.getElem?_setIfInBounds]
  by_cases hp : p < n
  · by_cases e : k = p
    · subst e
      rw [if_pos rfl, if_pos (by simp [topC]; exact hp), topC_at _ _ _ _ _ hp, if_pos (by omega)]
    · rw [if_neg e, topC_at _ _ _ _ _ hp, topC_at _ _ _ _ _ hp]
      by_cases h1 : p < k
      · rw [if_pos h1, if_pos (by omega)]
      · rw [if_neg h1, if_neg (by omega)]
  · have h1 : (topC g n m k).size = n := by simp [topC]
    have h2 : (topC g n m (k + 1)).size = n := by simp [topC]
    rw [if_neg (by omega), Array.getElem?_eq_none (by omega), Array.getElem?_eq_none (by omega)]

/-- The rows while they are made. -/
structure Mk (w W : World) (n m k : Nat) : Prop where
  top : W.heap[w.heap.size]? = some (.cells (topC w.heap.size n m k) 45 (0, 0))
  row : ∀ p, p < k → W.heap[w.heap.size + 1 + p]? = some (.cells (madeCells #[.int .i64 0] m) 3 (0, 0))
  size : W.heap.size = w.heap.size + 1 + k
  b : Below w.heap.size w W

theorem made_at (m j : Nat) (h : j < m) : (madeCells #[.int .i64 0] m)[j]? = some (.int .i64 0) := by
  simp [madeCells, h, Nat.mod_one]
theorem heap_set_row (W : World) (b o : Nat) (cur : Array Value) (t : TypeId) (u : Value) (h : W.heap[b]? = some (.cells cur t (0, 0))) : (W.setCell ⟨b, o, none⟩ u).heap[b]? = some (.cells (cur.setIfInBounds o u) t (0, 0)) := by
  have hlt : b < W.heap.size := (Array.getElem?_eq_some_iff.1 h).1
  have hg : W.heap[b] = .cells cur t (0, 0) := by
    rw [Array.getElem?_eq_getElem hlt] at h
    exact Option.some.inj h
  simp [World.setCell, hlt, Array.getElem_modify, hg]

theorem Mk.more {w W : World} {n m k : Nat} (h : Mk w W n m k) (hk : k < n) : Mk w ((W.setCell ⟨w.heap.size, k, none⟩ (.slice (some ⟨W.heap.size, 0, none⟩) m m)).alloc (.cells (madeCells #[.int .i64 0] m) 3)) n m (k + 1) := by
  have hs := h.size
  have hV : (W.setCell ⟨w.heap.size, k, none⟩ (.slice (some ⟨W.heap.size, 0, none⟩) m m)).heap.size = W.heap.size := by simp [World.setCell]
  have ht := heap_set_row W w.heap.size k _ _ (.slice (some ⟨W.heap.size, 0, none⟩) m m) h.top
  have ho : ∀ q, q ≠ w.heap.size → (W.setCell ⟨w.heap.size, k, none⟩ (.slice (some ⟨W.heap.size, 0, none⟩) m m)).heap[q]? = W.heap[q]? := fun q hq => Below.heap_setCell _ _ _ _ hq
  have hb : Below w.heap.size w (W.setCell ⟨w.heap.size, k, none⟩ (.slice (some ⟨W.heap.size, 0, none⟩) m m)) := h.b.setCell (Nat.le_refl _) _
  rw [hs, topC_set _ _ _ _ hk] at ht
  rw [hs] at hV ho hb ⊢
  generalize W.setCell ⟨w.heap.size, k, none⟩ (.slice (some ⟨w.heap.size + 1 + k, 0, none⟩) m m) = V at *
  refine ⟨(Below.heap_alloc V _ _ (by omega)).trans ht, fun p hp => ?_, by rw [World.size_alloc]; omega, hb.alloc hb.size _⟩
  by_cases e : p = k
  · subst e
    rw [← hV]
    exact World.alloc_heap_new V _
  · exact (Below.heap_alloc V _ _ (by omega)).trans ((ho _ (by omega)).trans (h.row p (by omega)))

theorem Mk.grid {w W : World} {n m : Nat} (h : Mk w W n m n) : IntG W w.heap.size w.heap.size n m (fun i => w.heap.size + 1 + i) (fun _ _ => 0) := by
  have hs := h.size
  have hc : ∀ (b o : Nat) (cs : Array Value) (t : TypeId), W.heap[b]? = some (.cells cs t (0, 0)) → W.cell? ⟨b, o, none⟩ = cs[o]? := fun b o cs t hh => by
    simp only [World.cell?]
    rw [hh]
    rfl
  refine ⟨fun i hi => ?_, fun i j hi hj => ?_, fun i j hi => ?_, fun i _ => by omega, fun i k _ _ e => by omega, Nat.le_refl _, fun i _ => by omega, by omega, fun i hi => by omega⟩
  · rw [hc _ _ _ _ h.top, topC_at _ _ _ _ _ hi, if_pos hi]
  · rw [hc _ _ _ _ (h.row i hi), made_at m j hj]
    rfl
  · simp [World.frozen?, h.row i hi]
end Go.Proofs.Ytgpopploimeeaaa

/- RTable: the document's own table: how long the longest pairs are from each two places on. -/
namespace Go.Proofs.Ytgpopploimeeaaa
open Go.RowKit

/-- What stands in the table while it is filled from behind: the rows from a on, and of the row ahead of them the places from b on. -/
def partT (like : Nat → Nat → Bool) (n m a b : Nat) (p q : Nat) : Nat := if a ≤ p ∨ (p + 1 = a ∧ b ≤ q) then longP like n m p q else 0

theorem Grd.congr {W : World} {base g n m : Nat} {rb : Nat → Nat} {f f' : Nat → Nat → Value} (h : Grd W base g n m rb f) (e : ∀ p q, p < n → q < m → f p q = f' p q) : Grd W base g n m rb f' :=
  ⟨h.top, fun i j hi hj => (h.row i j hi hj).trans (by rw [e i j hi hj]), h.fro, h.ne, h.inj, h.gb, h.rge, h.gl, h.rl⟩

set_option maxRecDepth 100000 in
set_option maxHeartbeats 4000000 in
theorem table_calls (like : Nat → Nat → Bool) (lb lg n m cap : Nat) (lrb : Nat → Nat) (hn : n ≤ 400) (hm : m ≤ 400) (w : World) (hL : BoolG w lb lg n m lrb like) :
    Calls Try.prog 45 #[.slice (some ⟨lg, 0, none⟩) n cap, .int .i64 (n : Int), .int .i64 (m : Int)] w fun e w' => ∃ g rb, e = .returned (.slice (some ⟨g, 0, none⟩) (n + 1) (n + 1)) ∧ IntG w' w.heap.size g (n + 1) (m + 1) rb (longP like n m) ∧ Below w.heap.size w w' := by
  have hmk1 : ∀ W : World, (Instr.makeSlice 88 (.int .i64 ((n : Int) + 1)) (.int .i64 ((n : Int) + 1))).run Try.prog W = .ok (.slice (some ⟨W.heap.size, 0, none⟩) (n + 1) (n + 1)) (W.alloc (.cells (madeCells #[.slice none 0 0] (n + 1)) 45)) := fun W => run_make_row' (P := Try.prog) 88 45 (.slice none 0 0) 24 Try.underlying88 info_row rfl .i64 .i64 (n + 1) (by omega) (by omega) W
  have hmk2 : ∀ W : World, (Instr.makeSlice 45 (.int .i64 ((m : Int) + 1)) (.int .i64 ((m : Int) + 1))).run Try.prog W = .ok (.slice (some ⟨W.heap.size, 0, none⟩) (m + 1) (m + 1)) (W.alloc (.cells (madeCells #[.int .i64 0] (m + 1)) 3)) := fun W => run_make_row' (P := Try.prog) 45 3 (.int .i64 0) 8 Try.underlying45 info_int rfl .i64 .i64 (m + 1) (by omega) (by omega) W
  have hni : (n : Int) ≤ 400 := by omega
  have hmi : (m : Int) ≤ 400 := by omega
  have HL := hide_ hL
  clear hL
  go_enter Try.func45, Try.ntmps45
  go_wp2
  go_loopg [8] (n + 2) (fun gk u wr => ∃ k : Nat, u = .int .i64 (k : Int) ∧ k ≤ n + 1 ∧ n + 1 < k + gk ∧ Hid (Mk w wr (n + 1) (m + 1) k))
  case atStart =>
    refine ⟨0, rfl, Nat.zero_le _, by omega, ?_, fun p hp => by omega, by rw [World.size_alloc], (Below.refl _ w).alloc (Nat.le_refl _) _⟩
    rw [topC_zero]
    exact World.alloc_heap_new w _
  case round =>
    obtain ⟨k, rfl, hk, hgk, HR⟩ := hrel
    have hk0 : (0 : Int) ≤ (k : Int) := by omega
    by_cases hlt : k ≤ n
    · have hlti : (k : Int) ≤ (n : Int) := by omega
      have hlt1 : (k : Int) < (n : Int) + 1 := by omega
      have hwl : w.heap.size < wr.heap.size := by have := HR.out.size; omega
      have hcell : wr.cell? ⟨w.heap.size, k, none⟩ = some (.slice none 0 0) := by
        simp only [World.cell?]
        rw [HR.out.top]
        show (topC _ _ _ _)[k]? = _
        rw [topC_at _ _ _ _ _ (by omega), if_neg (by omega)]
      have hfro : wr.frozen? ⟨w.heap.size, k, none⟩ = false := by simp [World.frozen?, HR.out.top]
      have HN := hide_ (HR.out.more (by omega))
      clear HR
      go_wp2
      go_roundg (n + 1 - k)
      case measure => omega
      case rel => exact ⟨k + 1, by first | rfl | go_num, by omega, by omega, HN.out⟩
    · obtain rfl : k = n + 1 := by omega
      have hlti : ¬ (((n + 1 : Nat) : Int) ≤ (n : Int)) := by omega
      have HG : Hid (IntG wr w.heap.size w.heap.size (n + 1) (m + 1) (fun i => w.heap.size + 1 + i) (partT like n m n (m + 1))) :=
        HR.out.grid.congr (fun p q hp hq => by
          have : partT like n m n (m + 1) p q = 0 := by
            unfold partT
            by_cases h : n ≤ p
            · rw [if_pos (.inl h), longP_row like n m h]
            · rw [if_neg (by omega)]
          rw [this])
      have HB := hide_ HR.out.b
      clear HR hmk1 hmk2
      go_wp2
      go_loopg [9] (n + 1) (fun gk u WT => ∃ a : Nat, u = .int .i64 ((a : Int) - 1) ∧ a ≤ n ∧ a < gk ∧ Hid (IntG WT w.heap.size w.heap.size (n + 1) (m + 1) (fun i => w.heap.size + 1 + i) (partT like n m a (m + 1)) ∧ Below w.heap.size w WT))
      case atStart => exact ⟨n, rfl, Nat.le_refl _, by omega, HG.out, HB.out⟩
      case round =>
        obtain ⟨a, rfl, ha, hgk2, HR⟩ := hrel
        clear HG HB
        rcases Nat.eq_zero_or_pos a with ha0 | ha0
        · subst ha0
          have HF : Hid (IntG wr w.heap.size w.heap.size (n + 1) (m + 1) (fun i => w.heap.size + 1 + i) (longP like n m) ∧ Below w.heap.size w wr) :=
            ⟨HR.out.1.congr (fun p q _ _ => by unfold partT; rw [if_pos (.inl (Nat.zero_le _))]), HR.out.2⟩
          clear HR
          go_wp2
          go_ret
          exact ⟨_, _, rfl, HF.out.1, HF.out.2⟩
        · obtain ⟨i, rfl⟩ : ∃ i, a = i + 1 := ⟨a - 1, by omega⟩
          have e1 : ((i + 1 : Nat) : Int) - 1 = (i : Int) := by omega
          rw [e1]
          have hi0 : (0 : Int) ≤ (i : Int) := by omega
          have HS : Hid (IntG wr w.heap.size w.heap.size (n + 1) (m + 1) (fun i => w.heap.size + 1 + i) (partT like n m (i + 1) m) ∧ Below w.heap.size w wr) :=
            ⟨HR.out.1.congr (fun p q _ hq => by
              have : partT like n m (i + 1) (m + 1) p q = partT like n m (i + 1) m p q := by
                unfold partT
                by_cases h : i + 1 ≤ p
                · rw [if_pos (.inl h), if_pos (.inl h)]
                · by_cases h2 : p + 1 = i + 1 ∧ m ≤ q
                  · rw [if_neg (by omega), if_pos (.inr h2), longP_col like n m p h2.2]
                  · rw [if_neg (by omega), if_neg (by omega)]
              rw [this]), HR.out.2⟩
          clear HR
          go_wp2
          go_loopg [10] (m + 1) (fun gk3 u3 WQ => ∃ b : Nat, u3 = .int .i64 ((b : Int) - 1) ∧ b ≤ m ∧ b < gk3 ∧ Hid (IntG WQ w.heap.size w.heap.size (n + 1) (m + 1) (fun i => w.heap.size + 1 + i) (partT like n m (i + 1) b) ∧ Below w.heap.size w WQ))
          case atStart => exact ⟨m, rfl, Nat.le_refl _, by omega, HS.out⟩
          case round =>
            obtain ⟨b, rfl, hb, hgk3, HR⟩ := hrel
            clear HS
            rcases Nat.eq_zero_or_pos b with hb0 | hb0
            · subst hb0
              have HF : Hid (IntG wr w.heap.size w.heap.size (n + 1) (m + 1) (fun i => w.heap.size + 1 + i) (partT like n m i (m + 1)) ∧ Below w.heap.size w wr) :=
                ⟨HR.out.1.congr (fun p q _ hq => by
                  have : partT like n m (i + 1) 0 p q = partT like n m i (m + 1) p q := by
                    unfold partT
                    by_cases h : i ≤ p
                    · rw [if_pos (by omega), if_pos (.inl h)]
                    · rw [if_neg (by omega), if_neg (by omega)]
                  rw [this]), HR.out.2⟩
              clear HR
              go_wp2
              go_roundg (i + 1)
              case measure => omega
              case rel => exact ⟨i, by first | rfl | go_num, by omega, by omega, HF.out⟩
            · obtain ⟨j, rfl⟩ : ∃ j, b = j + 1 := ⟨b - 1, by omega⟩
              have e2 : ((j + 1 : Nat) : Int) - 1 = (j : Int) := by omega
              rw [e2]
              have hj0 : (0 : Int) ≤ (j : Int) := by omega
              have hin : (i : Int) < (n : Int) := by omega
              have hin1 : (i : Int) < (n : Int) + 1 := by omega
              have hin2 : (i : Int) + 1 < (n : Int) + 1 := by omega
              have hjm : (j : Int) < (m : Int) := by omega
              have hjm1 : (j : Int) < (m : Int) + 1 := by omega
              have hjm2 : (j : Int) + 1 < (m : Int) + 1 := by omega
              have T0 := HR.out.1.top i (by omega)
              have T1 := HR.out.1.top (i + 1) (by omega)
              have X := HR.out.1.row (i + 1) j (by omega) (by omega)
              have Y := HR.out.1.row i (j + 1) (by omega) (by omega)
              have Z := HR.out.1.row i j (by omega) (by omega)
              have Q := HR.out.1.row (i + 1) (j + 1) (by omega) (by omega)
              have FR := HR.out.1.fro i j (by omega)
              have hx : partT like n m (i + 1) (j + 1) (i + 1) j = longP like n m (i + 1) j := by unfold partT; rw [if_pos (.inl (Nat.le_refl _))]
              have hy : partT like n m (i + 1) (j + 1) i (j + 1) = longP like n m i (j + 1) := by unfold partT; rw [if_pos (.inr ⟨rfl, Nat.le_refl _⟩)]
              have hq : partT like n m (i + 1) (j + 1) (i + 1) (j + 1) = longP like n m (i + 1) (j + 1) := by unfold partT; rw [if_pos (.inl (Nat.le_refl _))]
              have hz : partT like n m (i + 1) (j + 1) i j = 0 := by unfold partT; rw [if_neg (by omega)]
              rw [hx] at X
              rw [hy] at Y
              rw [hq] at Q
              rw [hz] at Z
              have hstep := longP_step like n m (i := i) (j := j) (by omega) (by omega)
              have bx := longP_le like n m (i + 1) j
              have by_ := longP_le like n m i (j + 1)
              have bq := longP_le like n m (i + 1) (j + 1)
              clear hx hy hq hz
              have HRR := hide_ HR.out
              have HST := hide_ hstep
              clear HR hstep
              go_wp2
              go_region
              have hmx : (if longP like n m (i + 1) j < longP like n m i (j + 1) then (longP like n m i (j + 1) : Int) else (longP like n m (i + 1) j : Int)) = ((max (longP like n m (i + 1) j) (longP like n m i (j + 1)) : Nat) : Int) := by split <;> omega
              rw [hmx]
              obtain ⟨V1, hV1⟩ : ∃ V1, V1 = (wr.setCell ⟨w.heap.size + 1 + i, j, none⟩ (.int .i64 ((max (longP like n m (i + 1) j) (longP like n m i (j + 1)) : Nat) : Int))).drew := ⟨_, rfl⟩
              rw [← hV1]
              have HG1 : Hid (IntG V1 w.heap.size w.heap.size (n + 1) (m + 1) (fun i => w.heap.size + 1 + i) (fun p q => if p = i ∧ q = j then max (longP like n m (i + 1) j) (longP like n m i (j + 1)) else partT like n m (i + 1) (j + 1) p q) ∧ Below w.heap.size w V1) := by
                have h1 := HRR.out.1.set i j (by omega) (by omega) (.int .i64 ((max (longP like n m (i + 1) j) (longP like n m i (j + 1)) : Nat) : Int))
                have h2 := HRR.out.2.setCell (p := ⟨w.heap.size + 1 + i, j, none⟩) (by show w.heap.size ≤ w.heap.size + 1 + i; omega) (.int .i64 ((max (longP like n m (i + 1) j) (longP like n m i (j + 1)) : Nat) : Int))
                rw [hV1]
                refine ⟨Grd.congr (h1.kept (Nat.le_refl _) rfl (fun _ _ => rfl)) (fun p q _ _ => ?_), h2.drew⟩
                dsimp only
                by_cases e : p = i ∧ q = j
                · rw [if_pos e, if_pos e]
                · rw [if_neg e, if_neg e]
              have hLV : Grd V1 lb lg n m lrb (fun i j => .bool (like i j)) := Grd.below HL.out HG1.out.2
              have L0 := hLV.top i (by omega)
              have L1 := hLV.row i j (by omega) (by omega)
              have T0' := HG1.out.1.top i (by omega)
              have T1' := HG1.out.1.top (i + 1) (by omega)
              have Z' := HG1.out.1.row i j (by omega) (by omega)
              have Q' := HG1.out.1.row (i + 1) (j + 1) (by omega) (by omega)
              have FR' := HG1.out.1.fro i j (by omega)
              dsimp only at Z' Q'
              rw [if_pos ⟨rfl, rfl⟩] at Z'
              rw [if_neg (by omega), show partT like n m (i + 1) (j + 1) (i + 1) (j + 1) = longP like n m (i + 1) (j + 1) from by unfold partT; rw [if_pos (.inl (Nat.le_refl _))]] at Q'
              clear hV1 HRR T0 T1 X Y Z Q FR hLV hmx
              by_cases hlk : like i j = true
              · rw [hlk] at L1
                have HS2 := HST.out
                rw [if_pos hlk] at HS2
                have hmb : (max (longP like n m (i + 1) j) (longP like n m i (j + 1))) ≤ n := by omega
                have hqb : longP like n m (i + 1) (j + 1) ≤ n := by omega
                have hG1 := HG1.out
                obtain ⟨mx, hme⟩ : ∃ mx, max (longP like n m (i + 1) j) (longP like n m i (j + 1)) = mx := ⟨_, rfl⟩
                rw [hme] at HS2 hmb Z'
                simp only [hme] at hG1
                have HS2 := hide_ HS2
                have HG2 := hide_ hG1
                clear HST bx by_ bq hG1 hme HG1
                go_wp2
                go_region
                have hmx2 : (if (mx : Int) < 1 + (longP like n m (i + 1) (j + 1) : Int) then 1 + (longP like n m (i + 1) (j + 1) : Int) else (mx : Int)) = ((max mx (1 + longP like n m (i + 1) (j + 1)) : Nat) : Int) := by split <;> omega
                rw [hmx2]
                obtain ⟨V2, hV2⟩ : ∃ V2, V2 = (V1.setCell ⟨w.heap.size + 1 + i, j, none⟩ (.int .i64 ((max mx (1 + longP like n m (i + 1) (j + 1)) : Nat) : Int))).drew := ⟨_, rfl⟩
                rw [← hV2]
                have HN : Hid (IntG V2 w.heap.size w.heap.size (n + 1) (m + 1) (fun i => w.heap.size + 1 + i) (partT like n m (i + 1) j) ∧ Below w.heap.size w V2) := by
                  have h1 := HG2.out.1.set i j (by omega) (by omega) (.int .i64 ((max mx (1 + longP like n m (i + 1) (j + 1)) : Nat) : Int))
                  have h2 := HG2.out.2.setCell (p := ⟨w.heap.size + 1 + i, j, none⟩) (by show w.heap.size ≤ w.heap.size + 1 + i; omega) (.int .i64 ((max mx (1 + longP like n m (i + 1) (j + 1)) : Nat) : Int))
                  rw [hV2]
                  refine ⟨Grd.congr (h1.kept (Nat.le_refl _) rfl (fun _ _ => rfl)) (fun p q _ _ => ?_), h2.drew⟩
                  dsimp only
                  by_cases e : p = i ∧ q = j
                  · rw [if_pos e]
                    obtain ⟨rfl, rfl⟩ := e
                    have : partT like n m (p + 1) q p q = max mx (1 + longP like n m (p + 1) (q + 1)) := by
                      unfold partT
                      rw [if_pos (.inr ⟨rfl, Nat.le_refl _⟩), HS2.out]
                    rw [this]
                  · rw [if_neg e, if_neg e]
                    have : partT like n m (i + 1) (j + 1) p q = partT like n m (i + 1) j p q := by
                      unfold partT
                      by_cases h1 : i + 1 ≤ p ∨ (p + 1 = i + 1 ∧ j + 1 ≤ q)
                      · rw [if_pos h1, if_pos (by omega)]
                      · rw [if_neg h1, if_neg (by omega)]
                    rw [this]
                clear hV2 hmx2 HG2 HS2 hlk T0' T1' Z' Q' FR' hmb hqb
                go_wp2
                go_roundg (j + 1)
                case measure => omega
                case rel => exact ⟨j, by first | rfl | go_num, by omega, by omega, HN.out⟩
              · have hlk' : like i j = false := by simpa using hlk
                rw [hlk'] at L1
                have HN : Hid (IntG V1 w.heap.size w.heap.size (n + 1) (m + 1) (fun i => w.heap.size + 1 + i) (partT like n m (i + 1) j) ∧ Below w.heap.size w V1) := by
                  refine ⟨HG1.out.1.congr (fun p q _ _ => ?_), HG1.out.2⟩
                  have hs := HST.out
                  rw [if_neg hlk] at hs
                  have : (if p = i ∧ q = j then max (longP like n m (i + 1) j) (longP like n m i (j + 1)) else partT like n m (i + 1) (j + 1) p q) = partT like n m (i + 1) j p q := by
                    by_cases e : p = i ∧ q = j
                    · obtain ⟨rfl, rfl⟩ := e
                      rw [if_pos ⟨rfl, rfl⟩]
                      unfold partT
                      rw [if_pos (.inr ⟨rfl, Nat.le_refl _⟩), hs]
                    · rw [if_neg e]
                      unfold partT
                      by_cases h1 : i + 1 ≤ p ∨ (p + 1 = i + 1 ∧ j + 1 ≤ q)
                      · rw [if_pos h1, if_pos (by omega)]
                      · rw [if_neg h1, if_neg (by omega)]
                  dsimp only
                  rw [this]
                clear HG1 HST hlk T0' T1' Z' Q' FR'
                go_wp2
                go_roundg (j + 1)
                case measure => omega
                case rel => exact ⟨j, by first | rfl | go_num, by omega, by omega, HN.out⟩
end Go.Proofs.Ytgpopploimeeaaa
