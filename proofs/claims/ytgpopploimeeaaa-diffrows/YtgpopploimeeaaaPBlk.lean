/-
  PROVED HERE: the program's own blocks of a document, in memory.
-/
import Derived.Test.YtgpopploimeeaaaPTops
import Derived.Test.YtgpopploimeeaaaDPartS
import Derived.Test.YtgpopploimeeaaaFKids
import Derived.Test.YtgpopploimeeaaaSk
import Derived.Test.YtgpopploimeeaaaRLike
namespace Go.Proofs.Ytgpopploimeeaaa
open Go.RowKit

def blkV (a : Option Addr) (c : Nat) (l : List Tok) (ks : List Nat) : List Value := ks.flatMap fun (k : Nat) => [.int .i64 (k : Int), .slice (partA a c k) (endE l k - k) (c - k)]
theorem blkV_add (a : Option Addr) (c : Nat) (l : List Tok) (ks : List Nat) (k : Nat) : blkV a c l (ks ++ [k]) = blkV a c l ks ++ [.int .i64 (k : Int), .slice (partA a c k) (endE l k - k) (c - k)] := by
  unfold blkV
  rw [List.flatMap_append]
  rfl
theorem blkV_at (a : Option Addr) (c : Nat) (l : List Tok) : ∀ (ks : List Nat) (i k : Nat), ks[i]? = some k → (blkV a c l ks)[2 * i]? = some (.int .i64 (k : Int)) ∧ (blkV a c l ks)[2 * i + 1]? = some (.slice (partA a c k) (endE l k - k) (c - k))
  | [], i, k, h => by simp at h
  | y :: ks, 0, k, h => by
    obtain rfl : y = k := by simpa using h
    exact ⟨rfl, rfl⟩
  | y :: ks, i + 1, k, h => by
    have := blkV_at a c l ks i k (by simpa using h)
    have e : blkV a c l (y :: ks) = .int .i64 (y : Int) :: .slice (partA a c y) (endE l y - y) (c - y) :: blkV a c l ks := rfl
    rw [e, show 2 * (i + 1) = 2 * i + 1 + 1 by omega]
    exact this

theorem info_block : (Try.prog.info? 74).map (fun i => (i.zero, i.size, i.bytes)) = some (some (.agg #[.int .i64 0, .slice none 0 0]), 2, 32) := by kernel_rfl
/-- append of one block to what the call owns. -/
theorem append_blk (base : Nat) (v : Value) (a : Option Addr) (c : Nat) (l : List Tok) (ks : List Nat) (W : World) (hown : W.ownsRow base 74 2 v ks.length (blkV a c l ks)) (hbase : base ≤ W.heap.size) (hn : ks.length ≤ 3000) (k : Nat) :
    ∃ v' W1, (Builtin.append_ #[70, 70] 70 #[v, .slice (some ⟨W.heap.size, 0, none⟩) 1 1]).run Try.prog (W.alloc (.cells #[.int .i64 (k : Int), .slice (partA a c k) (endE l k - k) (c - k)] 74)) = .ok v' W1 ∧
      Hid (W1.ownsRow base 74 2 v' (ks ++ [k]).length (blkV a c l (ks ++ [k])) ∧ (∀ w : World, Below base w W → Below base w W1)) := by
  obtain ⟨i0, hi, hz⟩ := Option.map_eq_some_iff.1 info_block
  simp only [Prod.mk.injEq] at hz
  obtain ⟨hz0, hz1, hz2⟩ := hz
  have hown2 := hown.alloc (.cells #[.int .i64 (k : Int), .slice (partA a c k) (endE l k - k) (c - k)] 74)
  have hB2 : ∀ w : World, Below base w W → Below base w (W.alloc (.cells #[.int .i64 (k : Int), .slice (partA a c k) (endE l k - k) (c - k)] 74)) := fun w h => h.alloc hbase _
  have hsz := World.size_alloc W (.cells #[.int .i64 (k : Int), .slice (partA a c k) (endE l k - k) (c - k)] 74)
  have hnew := World.alloc_heap_new W (.cells #[.int .i64 (k : Int), .slice (partA a c k) (endE l k - k) (c - k)] 74)
  generalize W.alloc (.cells #[.int .i64 (k : Int), .slice (partA a c k) (endE l k - k) (c - k)] 74) = V at *
  have q0 : V.cell? ⟨W.heap.size, 0, none⟩ = some (.int .i64 (k : Int)) := by simp only [World.cell?]; rw [hnew]; rfl
  have q1 : V.cell? ⟨W.heap.size, 1, none⟩ = some (.slice (partA a c k) (endE l k - k) (c - k)) := by simp only [World.cell?]; rw [hnew]; rfl
  obtain ⟨v', W1, hrun, r1, r2, _, _⟩ := run_append_own_at (P := Try.prog) V base 70 70 74 i0 (.agg #[.int .i64 0, .slice none 0 0]) 2 32 Try.underlying70 hi hz0 hz1 hz2 rfl (by decide) v ks.length _ hown2 ⟨W.heap.size, 0, none⟩ 1 1 [.int .i64 (k : Int), .slice (partA a c k) (endE l k - k) (c - k)] (by simp) (fun j u hj => by
    match j, hj with
    | 0, hj => cases hj; exact q0
    | 1, hj => cases hj; exact q1
    | j + 2, hj => simp at hj) (by simp [Value.oneCell']) (by unfold maxLen; omega) (by omega) (by omega)
  refine ⟨v', W1, hrun, ?_, fun w h => (hB2 w h).grown r2 (by omega) (fun j e => (World.ownsRow.lt hown2 _ e).1)⟩
  rw [blkV_add, List.length_append]
  exact r1

/-- Where the i-th block ends, as the program finds it. -/
theorem next_end {l : List Tok} (h : goes l 0 = some 0) {i k : Nat} (hi : (tops l)[i]? = some k) : (i + 1 < (tops l).length ∧ (tops l)[i + 1]? = some (endE l k)) ∨ ((tops l).length ≤ i + 1 ∧ endE l k = l.length) := by
  obtain ⟨a1, a2, a3⟩ := tops_next h hi
  obtain ⟨b1, b2, _⟩ := block_end h a1 a2
  by_cases e : endE l k < l.length
  · rw [if_pos e] at a3
    exact .inl ⟨(List.getElem?_eq_some_iff.1 a3).1, a3⟩
  · rw [if_neg e] at a3
    exact .inr ⟨List.getElem?_eq_none_iff.1 a3, by omega⟩
theorem row_at {zs : List Nat} {i k : Nat} (h : zs[i]? = some k) : (zs.map (fun (n : Nat) => (n : Int))).getD i 0 = (k : Int) := by
  rw [List.getD_eq_getElem?_getD, List.getElem?_map, h]
  rfl
/-- The cells of a row of integers. -/
theorem Row.at {W : World} {a : Option Addr} {len : Nat} {zs : List Nat} (h : Row .i64 W a len (zs.map (fun (n : Nat) => (n : Int)))) {i : Nat} (hi : i < len) :
    ∃ b o k, a = some ⟨b, o, none⟩ ∧ b < W.heap.size ∧ zs[i]? = some k ∧ ∀ W' : World, Below W.heap.size W W' → ∀ (j k' : Nat), zs[j]? = some k' → W'.cell? ⟨b, o + j, none⟩ = some (.int .i64 (k' : Int)) := by
  obtain ⟨h1, h2 | ⟨b, o, rfl, hb, hc⟩⟩ := h
  · omega
  · rw [List.length_map] at h1
    refine ⟨b, o, _, rfl, hb, List.getElem?_eq_getElem (by omega), fun W' hB j k' hk => ?_⟩
    have hj : j < len := by have := (List.getElem?_eq_some_iff.1 hk).1; omega
    rw [hB.cell (p := ⟨b, o + j, none⟩) hb, hc j hj, row_at hk]

set_option maxRecDepth 100000 in
set_option maxHeartbeats 4000000 in
theorem blocks_calls (a : Option Addr) (n c : Nat) (l : List Tok) (w : World) (hl : Toks w a n l) (hg : goes l 0 = some 0) (hn : n ≤ 2048) (hc : n ≤ c) :
    Calls Try.prog 28 #[.slice a n c] w fun e w' => ∃ v, e = .returned v ∧ w'.ownsRow w.heap.size 74 2 v (tops l).length (blkV a c l (tops l)) ∧ Below w.heap.size w w' := by
  have HK := fkids_calls a n c l (-1) w hl (by omega)
  rw [kids_tops hg, List.length_map] at HK
  have hL := hl.1
  have htl : (tops l).length ≤ n := by rw [← hL]; exact topsL_length l _ _
  have HG := hide_ hg
  have HL := hide_ hl
  have hnI : (n : Int) ≤ 2048 := by omega
  have hcI : (n : Int) ≤ (c : Int) := by omega
  clear hl hg
  go_enter Try.func28, Try.ntmps28
  go_wp2_with fail
  refine HK.mono ?_
  rintro e W1 ⟨ak, ck, rfl, hR, hB⟩
  have HR := hide_ hR
  have HB := hide_ hB
  clear hR hB HK
  go_wp2
  go_loopg [4, 12] ((tops l).length + 1) (fun gk v u wr => ∃ i : Nat, u = .int .i64 (i : Int) ∧ i ≤ (tops l).length ∧ (tops l).length < i + gk ∧ Hid (wr.ownsRow W1.heap.size 74 2 v ((tops l).take i).length (blkV a c l ((tops l).take i)) ∧ Below W1.heap.size W1 wr))
  case atStart => exact ⟨0, rfl, Nat.zero_le _, by omega, ⟨rfl, .inl ⟨rfl, rfl⟩⟩, Below.refl _ _⟩
  case round =>
    obtain ⟨i, rfl, hi, hgk, HO⟩ := hrel
    have hi0 : (0 : Int) ≤ (i : Int) := by omega
    rcases Nat.lt_or_ge i (tops l).length with hlt | hge
    · have hlti : (i : Int) < ((tops l).length : Int) := by omega
      obtain ⟨bk, ok, k, rfl, hbk, hk, hck⟩ := HR.out.at hlt
      have hck := hck wr HO.out.2
      have c0 := hck i k hk
      obtain ⟨a1, a2, _⟩ := tops_next HG.out hk
      obtain ⟨b1, b2, _, _, _⟩ := block_end HG.out a1 a2
      rw [hL] at a1 b2
      have htake : ((tops l).take i).length ≤ 3000 := by rw [List.length_take]; omega
      obtain ⟨v', W2, hrun, HW2⟩ := append_blk W1.heap.size u4 a c l ((tops l).take i) wr HO.out.1 HO.out.2.size htake k
      have HRUN := hide_ hrun
      have hst : (tops l).take i ++ [k] = (tops l).take (i + 1) := by rw [List.take_add_one, hk]; rfl
      rw [hst] at HW2
      have HN : Hid (W2.ownsRow W1.heap.size 74 2 v' ((tops l).take (i + 1)).length (blkV a c l ((tops l).take (i + 1))) ∧ Below W1.heap.size W1 W2) := ⟨HW2.out.1, HW2.out.2 W1 HO.out.2⟩
      have hk0 : (0 : Int) ≤ (k : Int) := by omega
      have hke : k ≤ endE l k := by omega
      have hec : endE l k ≤ c := by omega
      rcases next_end HG.out hk with ⟨d1, d2⟩ | ⟨d1, d2⟩
      · have c1 := hck (i + 1) _ d2
        have e1 : (i : Int) + 1 < ((tops l).length : Int) := by omega
        have e2 : (0 : Int) ≤ (i : Int) + 1 := by omega
        have c2 : wr.cell? ⟨bk, ok + (i + 1), none⟩ = some (.int .i64 (endE l k : Int)) := c1
        clear hck HW2 hst hrun a1 a2 b1 b2 d1 d2 HO
        generalize endE l k = E at *
        go_wp2_with (first
          | (at_builtin; refine wpList_run_append rfl (.tmp 29) (.tmp 36) 70 rfl _ _ _ _ rfl rfl HRUN.out ?_)
          | (guard_target =~ wpList _ _ _ (Oper.mk _ (Op.slice _ _ _ _ _) _ _ _ _ :: _) _ _; refine wpList_run_slice rfl (.tmp 31) (some (.tmp 32)) (some (.tmp 33)) 22 rfl _ _ rfl (slice_lh a n c k E hke hec _) ?_))
        go_roundg ((tops l).length - i)
        case measure => omega
        case rel => exact ⟨i + 1, by first | rfl | go_num, by omega, by omega, HN⟩
      · have e1 : ¬ ((i : Int) + 1 < ((tops l).length : Int)) := by omega
        rw [hL] at d2
        rw [d2] at hrun hke hec HRUN
        clear hck HW2 hst hrun a1 a2 b1 b2 d1 d2 HO
        go_wp2_with (first
          | (at_builtin; refine wpList_run_append rfl (.tmp 29) (.tmp 36) 70 rfl _ _ _ _ rfl rfl HRUN.out ?_)
          | (guard_target =~ wpList _ _ _ (Oper.mk _ (Op.slice _ _ _ _ _) _ _ _ _ :: _) _ _; refine wpList_run_slice rfl (.tmp 31) (some (.tmp 32)) (some (.tmp 33)) 22 rfl _ _ rfl (slice_lh a n c k n hke hec _) ?_))
        go_roundg ((tops l).length - i)
        case measure => omega
        case rel => exact ⟨i + 1, by first | rfl | go_num, by omega, by omega, HN⟩
    · obtain rfl : i = (tops l).length := by omega
      have hlti : ¬ (((tops l).length : Int) < ((tops l).length : Int)) := by omega
      have HF : Hid (wr.ownsRow W1.heap.size 74 2 u4 (tops l).length (blkV a c l (tops l)) ∧ Below W1.heap.size W1 wr) := by
        have := HO.out
        rw [List.take_length] at this
        exact this
      clear HO
      go_wp2
      go_ret
      exact ⟨_, rfl, owns_base HF.out.1 HB.out.size, HB.out.trans (HF.out.2.mono HB.out.size)⟩
end Go.Proofs.Ytgpopploimeeaaa
