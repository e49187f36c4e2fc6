/-
  PROVED HERE: ExprSigns answers true at every bytes, and leaves what lay before.
-/
import Derived.Test.YtafidabopcgkhaaDoorSigns0
import Derived.Test.YtafidabopcgkhaaDoorBytes5
import Derived.Laws.IdiomStrings
namespace Go.Proofs.YtafidabopcgkhaaDoor
open Go.RowKit

theorem BRow.at {w : World} {a : Option Addr} {len : Nat} {zs : List Int} (h : BRow w a len zs) {i : Nat} (hi : i < len) : ∃ b o z, a = some ⟨b, o, none⟩ ∧ zs[i]? = some z ∧ 0 ≤ z ∧ z < 256 ∧ ∀ W : World, Below w.heap.size w W → W.cell? ⟨b, o + i, none⟩ = some (.int .u8 z) := by
  obtain ⟨h1, h2, h3 | ⟨b, o, rfl, hlt, hc⟩⟩ := h
  · omega
  · have hz : zs[i]? = some (zs[i]'(by omega)) := List.getElem?_eq_getElem (by omega)
    have hr := h2 _ (List.mem_of_getElem? hz)
    exact ⟨b, o, _, rfl, hz, hr.1, hr.2, fun W hW => (hW.cell (p := ⟨b, o + i, none⟩) hlt).trans (hc i _ hz)⟩
theorem take_more {zs : List Int} {i : Nat} {z : Int} (h : zs[i]? = some z) : zs.take (i + 1) = zs.take i ++ [z] := by rw [List.take_add_one, h]; rfl
theorem sign_of {z : Int} : (z % 3 = 0 → signOf z = 42) ∧ (z % 3 = 1 → signOf z = 43) ∧ (z % 3 = 2 → signOf z = 63) := by
  unfold signOf
  refine ⟨fun h => by rw [if_pos h], fun h => by rw [if_neg (by omega), if_pos h], fun h => by rw [if_neg (by omega), if_neg (by omega)]⟩
/-- The tree within a tree of one. -/
theorem Ex.first {w : World} {n : Nat} {k0 : Int} {s0 : ByteArray} {x : DataW Unit} {k : Int} {nm : ByteArray} {a : Option Addr} {ln cp : Nat} (h : Ex w n (node k0 s0 [x]) (.agg #[.int .i64 k, .string nm, .slice a ln cp])) : k = k0 ∧ ln = 1 ∧ ∃ b o m k2 nm2 a2 ln2 cp2, a = some ⟨b, o, none⟩ ∧ Ex w m x (.agg #[.int .i64 k2, .string nm2, .slice a2 ln2 cp2]) ∧ ∀ W : World, Below w.heap.size w W → W.cell? ⟨b, o, none⟩ = some (.int .i64 k2) ∧ W.cell? ⟨b, o + 1, none⟩ = some (.string nm2) ∧ W.cell? ⟨b, o + 2, none⟩ = some (.slice a2 ln2 cp2) := by
  have hs := h.shows
  rw [kindT_node, subs_node] at hs
  have hl : 1 = ln := hs.2.2
  subst hl
  cases n with
  | zero => exact h.elim
  | succ n =>
    obtain ⟨k', s', a', len', cap', ts, hn, hv, hl, _, hk⟩ := h
    obtain ⟨rfl, rfl, rfl⟩ := node_inj.1 hn
    have hv2 := Array.toList_inj.2 (Value.agg.inj hv)
    simp only [List.cons.injEq, Value.int.injEq, Value.string.injEq, Value.slice.injEq, and_true, true_and] at hv2
    obtain ⟨rfl, rfl, rfl, rfl, rfl⟩ := hv2
    refine ⟨rfl, rfl, ?_⟩
    rcases hk with h0 | ⟨b, o, rfl, hlt, hc⟩
    · cases h0
    · obtain ⟨k2, nm2, a2, ln2, cp2, c0, c1, c2, hx⟩ := hc 0 x rfl
      simp only [Nat.zero_mul, Nat.add_zero] at c0 c1 c2
      exact ⟨b, o, n, k2, nm2, a2, ln2, cp2, rfl, hx, fun W hW => ⟨(hW.cell (p := ⟨b, _, none⟩) hlt).trans c0, (hW.cell (p := ⟨b, _, none⟩) hlt).trans c1, (hW.cell (p := ⟨b, _, none⟩) hlt).trans c2⟩⟩
set_option maxRecDepth 100000 in
set_option maxHeartbeats 8000000 in
theorem signs_walk (a0 : Option Addr) (len cap : Nat) (zs : List Int) (w : World) (hr : BRow w a0 len zs) (hg : ETy w) :
    Calls Tryd.prog 7 #[.slice a0 len cap] w fun e w' => e = .returned (.bool true) ∧ Below w.heap.size w w' := by
  have HA : Hid (∀ W, Below w.heap.size w W → Calls Tryd.prog 12 #[] W fun e w' => e = .returned (.bool true) ∧ Below W.heap.size W w') := fun W hW => awake_calls W (hg.below hW)
  have HP : Hid (∀ (s : ByteArray) W, s.size ≤ 9223372036854775807 → Below w.heap.size w W → Calls Tryd.prog 9 #[.string s] W fun e w' => Below W.heap.size W w' ∧ ∃ r, Ex w' 200 (outTree s) (rawV r) ∧ e = .returned (.tuple #[rawV r, .int .i64 (outN s : Int), .int .i64 (outE s)])) := fun s W h hW => parse_calls s h W (hg.below hW)
  clear hg
  by_cases hbig : 58 < len
  · have hb : (58 : Int) < (len : Int) := by omega
    clear HP
    go_enter Tryd.func7, Tryd.ntmps7
    go_wp2_with fail
    refine (HA.out w (Below.refl _ _)).mono ?_
    rintro e W ⟨rfl, hW⟩
    go_wp2
    go_ret
    exact ⟨rfl, hW⟩
  · have hb : ¬ (58 : Int) < (len : Int) := by omega
    have hlen : zs.length = len := hr.1
    obtain ⟨o1, o2⟩ := sign_out zs (by omega)
    have HO : Hid (outTree (signText zs) = tower zs ∧ outE (signText zs) = 0) := ⟨o1, o2⟩
    have HZ : Hid ((signText zs).size ≤ 9223372036854775807 ∧ zs.take len = zs) := ⟨by rw [signText_size]; omega, List.take_of_length_le (by omega)⟩
    clear o1 o2
    go_enter Tryd.func7, Tryd.ntmps7
    go_wp2
    go_loopw [3, 4] (fun u i w' => ∃ j : Nat, j ≤ len ∧ i = .int .i64 (j : Int) ∧ u = .string (signText (zs.take j)) ∧ Below w.heap.size w w') (fun _ i _ => len - (intOf i).toNat)
    case atStart => exact ⟨0, by omega, rfl, rfl, Below.refl _ _⟩
    case round =>
      obtain ⟨i, hi, rfl, rfl, hB⟩ := hrel
      by_cases hlt : i < len
      · obtain ⟨b, o, z, rfl, hz, hz0, hz1, hcell⟩ := hr.at hlt
        have hc := hcell wr hB
        have HS0 := signText_add (zs.take i) z
        rw [← take_more hz] at HS0
        have hsz := signText_size (zs.take i)
        rw [List.length_take] at hsz
        have HB : Hid (∀ o, Below w.heap.size w (wr.alloc o)) := fun o => hB.alloc hB.size o
        generalize hSS : signText (zs.take i) = S at *
        clear hSS hB hcell hr HP HA HO HZ
        have hm : z % 3 = 0 ∨ z % 3 = 1 ∨ z % 3 = 2 := by omega
        rcases hm with hm | hm | hm
        · have HS : Hid (signText (zs.take (i + 1)) = S ++ ⟨#[42]⟩) := by show _ = _; rw [HS0, sign_of.1 hm]
          clear HS0
          have hconv : (convert 41 9 (.slice (some ⟨wr.heap.size, 0, none⟩) 1 1)).run Tryd.prog (wr.alloc (.cells #[.int .u8 42] 5)) = .ok (.string ⟨#[42]⟩) (wr.alloc (.cells #[.int .u8 42] 5)) := run_convert_bytes_back (P := Tryd.prog) _ _ _ 5 ⟨wr.heap.size, 0, none⟩ 1 [42] Tryd.underlying41 Tryd.underlying5 Tryd.underlying9 (fun j hj => by
            obtain rfl : j = 0 := by simpa using hj
            simp [Addr.add])
          have hx0 : ∀ h, ((⟨#[42, 43, 63]⟩ : ByteArray)[0]'h).toNat = 42 := fun _ => rfl
          have hsum : S.size + (⟨#[42]⟩ : ByteArray).size ≤ 9223372036854775807 := by show S.size + 1 ≤ _; omega
          go_wp2
          go_roundw
          case rel => exact ⟨i + 1, by omega, rfl, by rw [HS.out], HB.out _⟩
          case measure => simp [intOf]; omega
        · have HS : Hid (signText (zs.take (i + 1)) = S ++ ⟨#[43]⟩) := by show _ = _; rw [HS0, sign_of.2.1 hm]
          clear HS0
          have hconv : (convert 41 9 (.slice (some ⟨wr.heap.size, 0, none⟩) 1 1)).run Tryd.prog (wr.alloc (.cells #[.int .u8 43] 5)) = .ok (.string ⟨#[43]⟩) (wr.alloc (.cells #[.int .u8 43] 5)) := run_convert_bytes_back (P := Tryd.prog) _ _ _ 5 ⟨wr.heap.size, 0, none⟩ 1 [43] Tryd.underlying41 Tryd.underlying5 Tryd.underlying9 (fun j hj => by
            obtain rfl : j = 0 := by simpa using hj
            simp [Addr.add])
          have hx0 : ∀ h, ((⟨#[42, 43, 63]⟩ : ByteArray)[1]'h).toNat = 43 := fun _ => rfl
          have hsum : S.size + (⟨#[43]⟩ : ByteArray).size ≤ 9223372036854775807 := by show S.size + 1 ≤ _; omega
          go_wp2
          go_roundw
          case rel => exact ⟨i + 1, by omega, rfl, by rw [HS.out], HB.out _⟩
          case measure => simp [intOf]; omega
        · have HS : Hid (signText (zs.take (i + 1)) = S ++ ⟨#[63]⟩) := by show _ = _; rw [HS0, sign_of.2.2 hm]
          clear HS0
          have hconv : (convert 41 9 (.slice (some ⟨wr.heap.size, 0, none⟩) 1 1)).run Tryd.prog (wr.alloc (.cells #[.int .u8 63] 5)) = .ok (.string ⟨#[63]⟩) (wr.alloc (.cells #[.int .u8 63] 5)) := run_convert_bytes_back (P := Tryd.prog) _ _ _ 5 ⟨wr.heap.size, 0, none⟩ 1 [63] Tryd.underlying41 Tryd.underlying5 Tryd.underlying9 (fun j hj => by
            obtain rfl : j = 0 := by simpa using hj
            simp [Addr.add])
          have hx0 : ∀ h, ((⟨#[42, 43, 63]⟩ : ByteArray)[2]'h).toNat = 63 := fun _ => rfl
          have hsum : S.size + (⟨#[63]⟩ : ByteArray).size ≤ 9223372036854775807 := by show S.size + 1 ≤ _; omega
          go_wp2
          go_roundw
          case rel => exact ⟨i + 1, by omega, rfl, by rw [HS.out], HB.out _⟩
          case measure => simp [intOf]; omega
      · obtain rfl : i = len := by omega
        rw [HZ.out.2]
        have HB : Hid (Below w.heap.size w wr) := hB
        have HR : Hid (BRow w a0 i zs) := hr
        clear hB hr
        go_wp2_with fail
        refine (HP.out _ _ HZ.out.1 HB.out).mono ?_
        rintro e1 W1 ⟨hB1, r1, hX1, rfl⟩
        obtain ⟨k1, nm1, a1, ln1, cp1⟩ := r1
        unfold rawV at hX1 ⊢
        simp only at hX1 ⊢
        generalize (outN (signText zs) : Int) = N1
        rw [HO.out.2]
        rw [HO.out.1] at hX1
        have HX1 : Hid (Ex W1 200 (tower zs) (.agg #[.int .i64 k1, .string nm1, .slice a1 ln1 cp1])) := hX1
        have HW1 : Hid (Below w.heap.size w W1) := HB.out.trans (hB1.mono HB.out.size)
        clear hX1 hB1 HP HO
        obtain ⟨Eb, hEb⟩ : ∃ Eb, W1.heap.size = Eb := ⟨_, rfl⟩
        have HE0 : Hid ((W1.alloc (.cells #[.int .i64 k1, .string nm1, .slice a1 ln1 cp1] 24)).heap[Eb]? = some (.cells #[.int .i64 k1, .string nm1, .slice a1 ln1 cp1] 24 (0, 0))) := by rw [← hEb]; exact heap_alloc_new W1 _
        have HA1 : Hid (Below W1.heap.size W1 (W1.alloc (.cells #[.int .i64 k1, .string nm1, .slice a1 ln1 cp1] 24))) := (Below.refl _ W1).alloc (Nat.le_refl _) _
        have HEb : Hid (W1.heap.size = Eb) := hEb
        go_wp2
        clear hEb
        go_loopw [8] (fun u w' => ∃ j : Nat, j ≤ i ∧ u = .int .i64 ((j : Int) - 1) ∧ ∃ n k nm a ln cp, w'.heap[Eb]? = some (.cells #[.int .i64 k, .string nm, .slice a ln cp] 24 (0, 0)) ∧ Ex W1 n (tower (zs.take j)) (.agg #[.int .i64 k, .string nm, .slice a ln cp]) ∧ Below W1.heap.size W1 w') (fun u _ => (intOf u + 1).toNat)
        case atStart => exact ⟨i, Nat.le_refl _, rfl, 200, k1, nm1, a1, ln1, cp1, HE0.out, by rw [HZ.out.2]; exact HX1.out, HA1.out⟩
        case round =>
          obtain ⟨j, hj, rfl, n, k, nm, a, ln, cp, hE, hX, hBW⟩ := hrel
          clear HE0 HA1 HX1
          cases j with
          | zero =>
            rw [List.take_zero] at hX
            obtain ⟨e1, e2, -⟩ := hX.shows
            have e1' : k = 1 := e1.symm
            have e2' : nm = ⟨#[97]⟩ := e2.symm
            subst e1'
            subst e2'
            have c0 : wr.cell? ⟨Eb, 0, none⟩ = some (.int .i64 1) := cell_of_row _ _ 0 _ _ _ hE
            have c1 : wr.cell? ⟨Eb, 1, none⟩ = some (.string ⟨#[97]⟩) := cell_of_row _ _ 1 _ _ _ hE
            have hval : ((0 : Nat) : Int) - 1 = -1 := by omega
            rw [hval]
            have HBW : Hid (Below w.heap.size w wr) := HW1.out.trans (hBW.mono HW1.out.size)
            clear hX e1 e2 hE hBW hval
            go_wp2_with fail
            refine (HA.out _ HBW.out).mono ?_
            rintro e W ⟨rfl, hW⟩
            go_wp2
            go_ret
            exact ⟨rfl, HBW.out.trans (hW.mono HBW.out.size)⟩
          | succ m =>
            have hval : ((m + 1 : Nat) : Int) - 1 = (m : Int) := by omega
            rw [hval]
            clear hval
            obtain ⟨b, o, z, rfl, hz, hz0, hz1, hcell⟩ := HR.out.at (i := m) (by omega)
            rw [take_more hz, tower_add] at hX
            obtain ⟨rfl, rfl, b2, o2, n2, k2, nm2, a2, ln2, cp2, rfl, hX2, hkc⟩ := hX.first
            have hBw : Below w.heap.size w wr := HW1.out.trans (hBW.mono HW1.out.size)
            have hc := hcell wr hBw
            have c0 : wr.cell? ⟨Eb, 0, none⟩ = some (.int .i64 (4 + z % 3)) := cell_of_row _ _ 0 _ _ _ hE
            have c2 : wr.cell? ⟨Eb, 2, none⟩ = some (.slice (some ⟨b2, o2, none⟩) 1 cp) := cell_of_row _ _ 2 _ _ _ hE
            have hwr : IntKind.i64.wrap (4 + z % 3) = 4 + z % 3 := by rw [IntKind.wrap_i64]; omega
            have hks := hkc wr hBW
            have d0 : ∀ q, (wr.drewN q).cell? ⟨b2, o2, none⟩ = some (.int .i64 k2) := fun q => hks.1
            have d1 : ∀ q, (wr.drewN q).cell? ⟨b2, o2 + 1, none⟩ = some (.string nm2) := fun q => hks.2.1
            have d2 : ∀ q, (wr.drewN q).cell? ⟨b2, o2 + 2, none⟩ = some (.slice a2 ln2 cp2) := fun q => hks.2.2
            have d3 : ∀ q, (wr.drewN q).cell? ⟨Eb, 2, none⟩ = some (.slice (some ⟨b2, o2, none⟩) 1 cp) := fun q => c2
            have HEq : Hid (∀ q, (wr.drewN q).heap[Eb]? = some (.cells #[.int .i64 (4 + z % 3), .string nm, .slice (some ⟨b2, o2, none⟩) 1 cp] 24 (0, 0))) := fun q => hE
            have HN : Hid (∀ q cs, Below W1.heap.size W1 ((wr.drewN q).setRow Eb cs)) := fun q cs => below_setRow (w := wr.drewN q) ⟨hBW.os, hBW.tape, hBW.output, hBW.size, hBW.block⟩ (by rw [HEb.out]; exact Nat.le_refl _) cs
            have HX2 : Hid (Ex W1 n2 (tower (zs.take m)) (.agg #[.int .i64 k2, .string nm2, .slice a2 ln2 cp2])) := hX2
            have hmi : (m : Int) < (i : Int) := by omega
            clear hX hX2 hkc hks hE hcell hBw hz hBW
            go_wp2_with fail
            go_quiet (fail)
            go_wp2_with (refine wpList_store_row rfl 24 _ _ rfl Eb #[.int .i64 k2, .string nm2, .slice a2 ln2 cp2] rfl rfl 24 _ (HEq.out _) sizeExpr rfl (ones3 _ _ _ _ _) ?_)
            go_roundw
            case rel => exact ⟨m, by omega, rfl, n2, k2, nm2, a2, ln2, cp2, setRow_heap _ _ _ _ _ _ (HEq.out _), HX2.out, HN.out _ _⟩
            case measure => simp [intOf]
end Go.Proofs.YtafidabopcgkhaaDoor
