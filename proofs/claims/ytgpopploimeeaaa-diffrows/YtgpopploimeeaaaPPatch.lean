/-
  PROVED HERE: the program's own Patch at every two slices of at most 200 tokens each.
-/
import Derived.Test.YtgpopploimeeaaaPStep
namespace Go.Proofs.Ytgpopploimeeaaa
open Go.RowKit

set_option maxRecDepth 100000 in
set_option maxHeartbeats 2000000 in
theorem ppatch_no (a1 a2 : Option Addr) (n m c1 c2 : Nat) (l1 l2 : List Tok) (w : World) (h1 : Toks w a1 n l1) (h2 : Toks w a2 m l2) (hn : n ≤ 200) (hm : m ≤ 200) (hb : bothP l1 l2 ≠ 0) :
    Calls Try.prog 21 #[.slice a1 n c1, .slice a2 m c2] w fun e w' => e = .returned (.tuple #[.agg (stepC 0 0 none 0 0), .int .i64 (bothP l1 l2)]) ∧ Below w.heap.size w w' := by
  have hB0 : Below w.heap.size w (w.alloc (.cells (stepC 0 0 none 0 0) 54)) := (Below.refl _ w).alloc (Nat.le_refl _) _
  have hZ0 : (w.alloc (.cells (stepC 0 0 none 0 0) 54)).heap[w.heap.size]? = some (.cells (stepC 0 0 none 0 0) 54 (0, 0)) := World.alloc_heap_new w _
  have HC := pcheck_calls a1 a2 n m c1 c2 l1 l2 _ (h1.below hB0) (h2.below hB0) (by omega) (by omega)
  generalize bothP l1 l2 = y at *
  have hyb : (y == 0) = false := by simpa using hb
  have HB0 := hide_ hB0
  have HZ0 := hide_ hZ0
  clear h1 h2 hB0 hZ0
  go_enter Try.func21, Try.ntmps21
  go_wp2_with fail
  refine HC.mono ?_
  rintro e W1 ⟨rfl, b1⟩
  have HZ1 : Hid (W1.heap[w.heap.size]? = some (.cells (stepC 0 0 none 0 0) 54 (0, 0))) := (b1.block _ (Array.getElem?_eq_some_iff.1 HZ0.out).1).trans HZ0.out
  have B1 := hide_ (HB0.out.trans (b1.mono HB0.out.size))
  clear b1 HC HB0 HZ0
  go_wp2_with (refine wpList_store_row rfl 54 _ _ rfl w.heap.size (stepC 0 0 none 0 0) rfl rfl 54 _ HZ1.out sizeStep rfl (ones8 _ _ _ _ _) ?_)
  refine bodyPost_ret (results_row_tmp rfl _ _ w.heap.size 54 (stepC 0 0 none 0 0) (0, 0) _ rfl (setRow_heap _ _ _ _ _ _ HZ1.out) Try.underlying54 rfl sizeStep) rfl ?_
  exact ⟨rfl, below_setRow B1.out (Nat.le_refl _) _⟩

set_option maxRecDepth 100000 in
set_option maxHeartbeats 4000000 in
theorem ppatch_calls (a1 a2 : Option Addr) (n m c1 c2 : Nat) (l1 l2 : List Tok) (w : World) (h1 : Toks w a1 n l1) (h2 : Toks w a2 m l2) (hn : n ≤ 200) (hm : m ≤ 200) (hc2 : m ≤ c2) (z2 : a2 = none → c2 = 0) (hb : bothP l1 l2 = 0) :
    Calls Try.prog 21 #[.slice a1 n c1, .slice a2 m c2] w fun e w' => ∃ a' cap', e = .returned (.tuple #[.agg (stepC (headP l1 l2 : Int) ((n - tailP l1 l2 : Nat) : Int) a' (m - tailP l1 l2 - headP l1 l2) cap'), .int .i64 0]) ∧
      Toks w' a' (m - tailP l1 l2 - headP l1 l2) ((l2.drop (headP l1 l2)).take (m - tailP l1 l2 - headP l1 l2)) ∧ Below w.heap.size w w' := by
  have hB0 : Below w.heap.size w (w.alloc (.cells (stepC 0 0 none 0 0) 54)) := (Below.refl _ w).alloc (Nat.le_refl _) _
  have hZ0 : (w.alloc (.cells (stepC 0 0 none 0 0) 54)).heap[w.heap.size]? = some (.cells (stepC 0 0 none 0 0) 54 (0, 0)) := World.alloc_heap_new w _
  have HC := pcheck_calls a1 a2 n m c1 c2 l1 l2 _ (h1.below hB0) (h2.below hB0) (by omega) (by omega)
  rw [hb] at HC
  have hin := ends_in (l1 := l1) (l2 := l2)
  rw [h1.1, h2.1] at hin
  have H1 := hide_ h1
  have H2 := hide_ h2
  have HE := hide_ (fun (W : World) (hW : Below w.heap.size w W) => pends_calls a1 a2 n m c1 c2 l1 l2 W (H1.out.below hW) (H2.out.below hW) (by omega) (by omega))
  obtain ⟨H, hH⟩ : ∃ H, headP l1 l2 = H := ⟨_, rfl⟩
  obtain ⟨T, hT⟩ : ∃ T, tailP l1 l2 = T := ⟨_, rfl⟩
  rw [hH, hT] at hin HE ⊢
  obtain ⟨T1, hT1⟩ : ∃ x, n - T = x := ⟨_, rfl⟩
  obtain ⟨T2, hT2⟩ : ∃ x, m - T = x := ⟨_, rfl⟩
  rw [hT1, hT2]
  have s1 : (n : Int) - (T : Int) = (T1 : Int) := by omega
  have s2 : (m : Int) - (T : Int) = (T2 : Int) := by omega
  have s3 : IntKind.i64.wrap ((n : Int) - (T : Int)) = (T1 : Int) := by rw [IntKind.wrap_i64]; omega
  have s4 : IntKind.i64.wrap ((m : Int) - (T : Int)) = (T2 : Int) := by rw [IntKind.wrap_i64]; omega
  have hs1 : H ≤ T2 := by omega
  have hs2 : T2 ≤ c2 := by omega
  have HB0 := hide_ hB0
  have HZ0 := hide_ hZ0
  clear h1 h2 hB0 hZ0 hH hT hb
  go_enter Try.func21, Try.ntmps21
  go_wp2_with fail
  refine HC.mono ?_
  rintro e W1 ⟨rfl, b1⟩
  have HZ1 : Hid (W1.heap[w.heap.size]? = some (.cells (stepC 0 0 none 0 0) 54 (0, 0))) := (b1.block _ (Array.getElem?_eq_some_iff.1 HZ0.out).1).trans HZ0.out
  have B1 := hide_ (HB0.out.trans (b1.mono HB0.out.size))
  clear b1 HC HB0 HZ0
  go_wp2_with fail
  refine (HE.out W1 B1.out).mono ?_
  rintro e W2 ⟨rfl, b2⟩
  have HZ2 : Hid (W2.heap[w.heap.size]? = some (.cells (stepC 0 0 none 0 0) 54 (0, 0))) := (b2.block _ (Array.getElem?_eq_some_iff.1 HZ1.out).1).trans HZ1.out
  have B2 := hide_ (B1.out.trans (b2.mono B1.out.size))
  clear b2 HE HZ1 B1
  have HCL := hide_ (fun (W : World) (hW : Below w.heap.size w W) => fclone2_calls (partA a2 c2 H) (T2 - H) (c2 - H) ((l2.drop H).take (T2 - H)) W ((H2.out.below hW).partA hc2 H (T2 - H) (by omega)) (by omega) (partA_none z2) (by omega))
  go_wp2_with (guard_target =~ wpList _ _ _ (Oper.mk _ (Op.slice _ _ _ _ _) _ _ _ _ :: _) _ _; refine wpList_run_slice rfl (.tmp 23) (some (.tmp 24)) (some (.tmp 28)) 22 rfl _ _ rfl (slice_lh a2 m c2 H T2 hs1 hs2 _) ?_)
  refine (HCL.out W2 B2.out).mono ?_
  rintro e W4 ⟨a', cap', rfl, ht, _, hfr, b4⟩
  have HZ4 : Hid (W4.heap[w.heap.size]? = some (.cells (stepC 0 0 none 0 0) 54 (0, 0))) := (b4.block _ (Array.getElem?_eq_some_iff.1 HZ2.out).1).trans HZ2.out
  have HT4 := hide_ ht
  have B4 := hide_ (B2.out.trans (b4.mono B2.out.size))
  have hz2 := (Array.getElem?_eq_some_iff.1 HZ2.out).1
  clear ht b4 HCL HZ2 B2
  go_wp2_with (refine wpList_store_row rfl 54 _ _ rfl w.heap.size (stepC (H : Int) (T1 : Int) a' (T2 - H) cap') rfl rfl 54 _ HZ4.out sizeStep rfl (ones8 _ _ _ _ _) ?_)
  refine bodyPost_ret (results_row_tmp rfl _ _ w.heap.size 54 (stepC (H : Int) (T1 : Int) a' (T2 - H) cap') (0, 0) _ rfl (setRow_heap _ _ _ _ _ _ HZ4.out) Try.underlying54 rfl sizeStep) rfl ?_
  refine ⟨a', cap', rfl, ?_, below_setRow B4.out (Nat.le_refl _) _⟩
  exact toks_setRow HT4.out (fun b o e _ => by have := hfr b o e; omega)
end Go.Proofs.Ytgpopploimeeaaa
