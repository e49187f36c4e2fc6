/-
  PROVED HERE: slices.Concat of slices of bytes: the bytes of each, one behind the other, in new memory; codec.Wrap and the document's own nums and Wrap at any bytes.
-/
import Derived.Test.YtppiklgkpicfeaaCSm
namespace Go.Proofs.Ytppiklgkpicfeaa
open Go.RowKit

/-- The first k, one behind the other. -/
def cat (X : Nat → List Int) : Nat → List Int
  | 0 => []
  | k + 1 => cat X k ++ X k

set_option maxRecDepth 100000 in
set_option maxHeartbeats 2000000 in
theorem concat_calls (B n cp : Nat) (A : Nat → Option Addr) (Ln Cp : Nat → Nat) (X : Nat → List Int) (w : World) (hB : B < w.heap.size) (hn : n ≤ 1000)
    (hcell : ∀ i, i < n → w.cell? ⟨B, i, none⟩ = some (.slice (A i) (Ln i) (Cp i))) (hrow : ∀ i, i < n → Row .u8 w (A i) (Ln i) (X i)) (hln : ∀ k, k ≤ n → (cat X k).length ≤ 100000000) (hpos : 0 < (cat X n).length) :
    Calls Try.prog 10 #[.slice (some ⟨B, 0, none⟩) n cp] w fun e w' => ∃ g cap, e = .returned (.slice (some ⟨g, 0, none⟩) (cat X n).length cap) ∧ Row .u8 w' (some ⟨g, 0, none⟩) (cat X n).length (cat X n) ∧ (cat X n).length ≤ cap ∧ cap ≤ maxLen ∧ Below w.heap.size w w' := by
  go_enter Try.func10, Try.ntmps10
  go_wp2
  go_loop [3, 11] (fun s i => ∃ k : Nat, k ≤ n ∧ i = .int .i64 (k : Int) ∧ s = .int .i64 (((cat X k).length : Nat) : Int)) (fun _ i => n - (intOf i).toNat)
  case atStart => exact ⟨0, Nat.zero_le _, rfl, rfl⟩
  case round =>
    obtain ⟨k, hk, rfl, rfl⟩ := hrel
    by_cases hlt : k < n
    · have hc := hcell k hlt
      have hr := (hrow k hlt).1
      have h1 := hln k (by omega)
      have h2 := hln (k + 1) (by omega)
      have HC : Hid ((cat X (k + 1)).length = (cat X k).length + Ln k) := by
        show (cat X (k + 1)).length = _
        rw [cat, List.length_append, hr]
      have h3 : Ln k ≤ 100000000 := by rw [HC.out] at h2; omega
      clear hcell hrow hln h2 hr
      generalize (cat X k).length = q at *
      generalize A k = a at *
      generalize Ln k = l at *
      generalize Cp k = c at *
      go_wp2
      go_round
      case rel => exact ⟨k + 1, by omega, by go_num, by rw [HC.out]; go_num⟩
      case measure => simp [intOf]; omega
    · obtain rfl : k = n := by omega
      have hl := hln k (Nat.le_refl _)
      have HG := grow_calls (cat X k).length w hpos (by omega)
      have HX : Hid (∀ i, i ≤ k → (cat X i).length ≤ 100000000) := hln
      clear hln
      go_wp2_with fail
      refine HG.mono ?_
      rintro e W1 ⟨v, rfl, hown, hv, hb⟩
      clear HG
      go_wp2
      go_loopw [6, 27] (fun u i w' => ∃ j : Nat, j ≤ k ∧ i = .int .i64 (j : Int) ∧ w'.ownsRow w.heap.size 5 1 u (cat X j).length ((cat X j).map (Value.int .u8)) ∧ u ≠ .slice none 0 0 ∧ Below w.heap.size w w')
        (fun _ i _ => k - (intOf i).toNat)
      case atStart => exact ⟨0, Nat.zero_le _, rfl, hown, hv, hb⟩
      case round =>
        obtain ⟨j, hj, rfl, hown2, hv2, hb2⟩ := hrel
        by_cases hlt : j < k
        · have hc : wr.cell? ⟨B, j, none⟩ = some (.slice (A j) (Ln j) (Cp j)) := (hb2.cell (p := ⟨B, j, none⟩) hB).trans (hcell j hlt)
          have hr := (hrow j hlt).below hb2
          have h1 := HX.out (j + 1) (by omega)
          have HC : Hid (cat X (j + 1) = cat X j ++ X j) := rfl
          have hl3 : (X j).length = Ln j := hr.1
          have h3 : (cat X j).length + Ln j ≤ 100000000 := by rw [HC.out, List.length_append, hl3] at h1; omega
          obtain ⟨v2, W2, hrun, r1, r2, r3⟩ := append_own w.heap.size u6 (cat X j).length (cat X j) wr hown2 hv2 hb2.size (A j) (Ln j) (Cp j) (X j) hr (by omega)
          have HL : Hid ((cat X (j + 1)).length = (cat X j).length + Ln j) := by
            show (cat X (j + 1)).length = _
            rw [HC.out, List.length_append, hl3]
          clear hcell hrow h1 hown hv hb hl3 hown2
          generalize A j = a at *
          generalize Ln j = l at *
          generalize Cp j = c at *
          go_wp2_with (at_builtin; refine wpList_append_run rfl _ _ 22 rfl _ _ _ _ rfl rfl hrun ?_)
          go_roundw
          case rel => exact ⟨j + 1, by omega, by go_num, by rw [HL.out, HC.out]; exact r1, r2, hb2.trans r3⟩
          case measure => simp [intOf]; omega
        · obtain rfl : j = k := by omega
          obtain ⟨g, cap, rfl, _, hc1, hc2, hr⟩ := row_of_owns hown2 hv2
          go_wp2
          go_ret
          first | exact ⟨g, cap, rfl, hr, hc1, hc2, hb2⟩ | exact ⟨g, ⟨cap, rfl, hc1, hc2⟩, hr, hb2⟩
end Go.Proofs.Ytppiklgkpicfeaa
