/-
  PROVED HERE: groups in memory; reg's isType, rightGroups, typesOf: what they return; nothing that lay before is turned.
-/
import Derived.Test.YtajabenlkmgjeaaDoorPRight
import Derived.Test.YtajabenlkmgjeaaDoorAuto
namespace Go.Proofs.YtajabenlkmgjeaaDoor
open Go.RowKit

/-- A slice's elements are the integers zs. -/
def Ints (w : World) (a : Option Addr) (len : Nat) (zs : List Int) : Prop :=
  zs.length = len ∧ len ≤ 9223372036854775807 ∧ (len = 0 ∨ ∃ b o, a = some ⟨b, o, none⟩ ∧ b < w.heap.size ∧ ∀ i x, zs[i]? = some x → w.cell? ⟨b, o + i, none⟩ = some (.int .i64 x))
theorem Ints.below {w w' : World} {a : Option Addr} {len : Nat} {zs : List Int} (h : Ints w a len zs) (hb : Below w.heap.size w w') : Ints w' a len zs := by
  obtain ⟨h1, h2, h3⟩ := h
  refine ⟨h1, h2, ?_⟩
  rcases h3 with h3 | ⟨b, o, rfl, hlt, hc⟩
  · exact .inl h3
  · exact .inr ⟨b, o, rfl, Nat.lt_of_lt_of_le hlt hb.size, fun i x hx => (hb.cell (p := ⟨b, o + i, none⟩) hlt).trans (hc i x hx)⟩
theorem Ints.at {w : World} {a : Option Addr} {len : Nat} {zs : List Int} (h : Ints w a len zs) {i : Nat} (hi : i < len) : ∃ b o x, a = some ⟨b, o, none⟩ ∧ zs[i]? = some x ∧ ∀ W : World, Below w.heap.size w W → W.cell? ⟨b, o + i, none⟩ = some (.int .i64 x) := by
  obtain ⟨h1, _, h3⟩ := h
  rcases h3 with h3 | ⟨b, o, rfl, hlt, hc⟩
  · omega
  · have hx : zs[i]? = some (zs[i]'(by omega)) := List.getElem?_eq_getElem (by omega)
    exact ⟨b, o, _, rfl, hx, fun W hb => (hb.cell (p := ⟨b, o + i, none⟩) hlt).trans (hc i _ hx)⟩
/-- A group: its name and its types. -/
abbrev Grp : Type := ByteArray × List Int
def Groups (w : World) (a : Option Addr) (len : Nat) (gs : List Grp) : Prop :=
  gs.length = len ∧ len ≤ 9223372036854775807 ∧ (len = 0 ∨ ∃ b o, a = some ⟨b, o, none⟩ ∧ b < w.heap.size ∧ ∀ i g, gs[i]? = some g → ∃ a' len' cap',
    w.cell? ⟨b, o + i * 2, none⟩ = some (.string g.1) ∧ w.cell? ⟨b, o + i * 2 + 1, none⟩ = some (.slice a' len' cap') ∧ Ints w a' len' g.2)
theorem Groups.below {w w' : World} {a : Option Addr} {len : Nat} {gs : List Grp} (h : Groups w a len gs) (hb : Below w.heap.size w w') : Groups w' a len gs := by
  obtain ⟨h1, h2, h3⟩ := h
  refine ⟨h1, h2, ?_⟩
  rcases h3 with h3 | ⟨b, o, rfl, hlt, hc⟩
  · exact .inl h3
  · refine .inr ⟨b, o, rfl, Nat.lt_of_lt_of_le hlt hb.size, fun i g hg => ?_⟩
    obtain ⟨a', len', cap', c0, c1, c2⟩ := hc i g hg
    exact ⟨a', len', cap', (hb.cell (p := ⟨b, _, none⟩) hlt).trans c0, (hb.cell (p := ⟨b, _, none⟩) hlt).trans c1, c2.below hb⟩
theorem Groups.at {w : World} {a : Option Addr} {len : Nat} {gs : List Grp} (h : Groups w a len gs) {i : Nat} (hi : i < len) : ∃ b o g a' len' cap', a = some ⟨b, o, none⟩ ∧ gs[i]? = some g ∧ Ints w a' len' g.2 ∧ ∀ W : World, Below w.heap.size w W →
    W.cell? ⟨b, o + i * 2, none⟩ = some (.string g.1) ∧ W.cell? ⟨b, o + i * 2 + 1, none⟩ = some (.slice a' len' cap') := by
  obtain ⟨h1, _, h3⟩ := h
  rcases h3 with h3 | ⟨b, o, rfl, hlt, hc⟩
  · omega
  · have hx : gs[i]? = some (gs[i]'(by omega)) := List.getElem?_eq_getElem (by omega)
    obtain ⟨a', len', cap', c0, c1, c2⟩ := hc i _ hx
    exact ⟨b, o, _, a', len', cap', rfl, hx, c2, fun W hb => ⟨(hb.cell (p := ⟨b, _, none⟩) hlt).trans c0, (hb.cell (p := ⟨b, _, none⟩) hlt).trans c1⟩⟩
def isTy (t : Int) : Bool := decide (0 ≤ t) && decide (t < 16)
set_option maxRecDepth 100000 in
set_option maxHeartbeats 2000000 in
theorem istype_calls (t : Int) (w : World) : Calls Tryd.prog 40 #[.int .i64 t] w fun e w' => e = .returned (.bool (isTy t)) ∧ w' = w := by
  unfold isTy
  by_cases h1 : 0 ≤ t
  · go_enter Tryd.func40, Tryd.ntmps40
    go_wp2
    go_ret
    exact ⟨by first | rfl | simp [h1], rfl⟩
  · have h2 : decide (0 ≤ t) = false := by simpa using h1
    go_enter Tryd.func40, Tryd.ntmps40
    go_wp2
    go_ret
    exact ⟨by first | rfl | simp [h1], rfl⟩
def rightTs (l : List Int) : Bool := decide (l.length ≤ 16) && l.all isTy
def rightG (gs : List Grp) : Bool := decide (gs.length ≤ 16) && gs.all (fun g => rightTs g.2)
theorem allI_step {α : Type} {p : α → Bool} {ts : List α} {i : Nat} {x : α} (h : ts[i]? = some x) : (ts.take (i + 1)).all p = ((ts.take i).all p && p x) := by
  rw [List.take_add_one, h, List.all_append]
  simp
theorem allI_not {α : Type} {p : α → Bool} {ts : List α} {i : Nat} {x : α} (h : ts[i]? = some x) (hp : p x = false) : ts.all p = false := by
  cases ha : ts.all p with
  | false => rfl
  | true =>
    have := List.all_eq_true.1 ha x (List.mem_of_getElem? h)
    rw [hp] at this
    cases this
set_option maxRecDepth 100000 in
set_option maxHeartbeats 2000000 in
theorem rightgroups_calls (a : Option Addr) (len cap : Nat) (gs : List Grp) (w : World) (h : Groups w a len gs) :
    Calls Tryd.prog 20 #[.slice a len cap] w fun e w' => e = .returned (.bool (rightG gs)) ∧ Below w.heap.size w w' := by
  obtain ⟨hl, hz, _⟩ := id h
  obtain ⟨R, hR⟩ : ∃ R, rightG gs = R := ⟨_, rfl⟩
  rw [hR]
  have HR : Hid (rightG gs = R) := hR
  clear hR
  have HT : Hid (∀ t W, Calls Tryd.prog 40 #[.int .i64 t] W fun e w' => e = .returned (.bool (isTy t)) ∧ w' = W) := fun t W => istype_calls t W
  by_cases hlen : len ≤ 16
  · have hn : ¬ ((16 : Int) < (len : Int)) := by omega
    go_enter Tryd.func20, Tryd.ntmps20
    go_wp2
    go_loopw [12] (fun i w' => ∃ j : Nat, j ≤ len ∧ i = .int .i64 (j : Int) ∧ (gs.take j).all (fun g => rightTs g.2) = true ∧ Below w.heap.size w w') (fun i _ => len - (intOf i).toNat)
    case atStart => exact ⟨0, by omega, rfl, rfl, Below.refl _ _⟩
    case round =>
      obtain ⟨i, hi, rfl, hT, hB⟩ := hrel
      by_cases hlt : i < len
      · obtain ⟨b, o, g, a', len', cap', rfl, hg, hI, hc⟩ := h.at hlt
        obtain ⟨c0, c1⟩ := hc wr hB
        obtain ⟨hl2, hz2, _⟩ := id hI
        have hst : (gs.take (i + 1)).all (fun g => rightTs g.2) = rightTs g.2 := by rw [allI_step hg, hT, Bool.true_and]
        have hno : rightTs g.2 = false → R = false := fun e => by
          rw [← HR.out]
          unfold rightG
          rw [allI_not hg e, Bool.and_false]
        have HST : Hid ((gs.take (i + 1)).all (fun g => rightTs g.2) = rightTs g.2) := hst
        have HNO : Hid (rightTs g.2 = false → R = false) := hno
        obtain ⟨nm, zs⟩ := g
        simp only at hI hl2 HST HNO c0
        have HB0 : Hid (∀ o, Below w.heap.size w (wr.alloc o)) := fun o => hB.alloc hB.size o
        have hBI : Hid (∀ W, Below w.heap.size w W → ∀ i, i < len' → ∃ b o x, a' = some ⟨b, o, none⟩ ∧ zs[i]? = some x ∧ W.cell? ⟨b, o + i, none⟩ = some (.int .i64 x)) := fun W hW i hi => by
          obtain ⟨b, o, x, h1, h2, h3⟩ := hI.at hi
          exact ⟨b, o, x, h1, h2, h3 W hW⟩
        clear hc hI hst hno hg hT
        by_cases hlen2 : len' ≤ 16
        · have hn2 : ¬ ((16 : Int) < (len' : Int)) := by omega
          go_wp2
          go_loopw [23] (fun i2 w' => ∃ j : Nat, j ≤ len' ∧ i2 = .int .i64 (j : Int) ∧ (zs.take j).all isTy = true ∧ w' = (wr.alloc (.cells #[.string nm, .slice a' len' cap'] 42))) (fun i2 _ => len' - (intOf i2).toNat)
          case atStart => exact ⟨0, by omega, rfl, rfl, rfl⟩
          case round =>
            obtain ⟨j, hj, rfl, hT2, rfl⟩ := hrel
            by_cases hlt2 : j < len'
            · obtain ⟨b2, o2, x, rfl, hx, hc2⟩ := hBI.out (wr.alloc (.cells #[.string nm, .slice a' len' cap'] 42)) (HB0.out _) j hlt2
              have HS2 : Hid ((zs.take (j + 1)).all isTy = isTy x) := by show _ = _; rw [allI_step hx, hT2, Bool.true_and]
              have HN2 : Hid (isTy x = false → R = false) := fun e => HNO.out (by unfold rightTs; rw [allI_not hx e, Bool.and_false])
              have HTx := fun W => HT.out x W
              clear hx hT2
              generalize isTy x = q at *
              cases q with
              | true =>
                go_wp2_with fail
                refine (HTx _).mono ?_
                rintro e W ⟨rfl, hW⟩
                rw [hW]
                go_wp2
                go_roundw
                case rel => exact ⟨j + 1, by omega, rfl, HS2.out, by first | rfl | trivial⟩
                case measure => simp [intOf]; omega
              | false =>
                have HF : Hid (R = false) := HN2.out rfl
                clear HN2
                go_wp2_with fail
                refine (HTx _).mono ?_
                rintro e W ⟨rfl, hW⟩
                rw [hW]
                go_wp2
                go_ret
                exact ⟨by rw [HF.out]; rfl, HB0.out _⟩
            · obtain rfl : j = len' := by omega
              have HF : Hid (rightTs zs = true) := by
                show _ = _
                rw [List.take_of_length_le (Nat.le_of_eq hl2)] at hT2
                unfold rightTs
                rw [hT2, hl2]
                simpa using hlen2
              clear hT2
              go_wp2
              go_roundw
              case rel => exact ⟨i + 1, by omega, rfl, by rw [HST.out, HF.out], HB0.out _⟩
              case measure => simp [intOf]; omega
        · have hn2 : (16 : Int) < (len' : Int) := by omega
          have HF : Hid (R = false) := HNO.out (by unfold rightTs; rw [hl2]; simp; omega)
          go_wp2
          go_ret
          exact ⟨by rw [HF.out]; rfl, HB0.out _⟩
      · obtain rfl : i = len := by omega
        have HF : Hid (R = true) := by
          show _ = _
          rw [← HR.out]
          rw [List.take_of_length_le (Nat.le_of_eq hl)] at hT
          unfold rightG
          rw [hT, hl]
          simpa using hlen
        clear hT h
        go_wp2
        go_ret
        exact ⟨by rw [HF.out]; rfl, hB⟩
  · have hn : (16 : Int) < (len : Int) := by omega
    have HF : Hid (R = false) := by
      show _ = _
      rw [← HR.out]
      unfold rightG
      rw [hl]
      simp
      omega
    clear h
    go_enter Tryd.func20, Tryd.ntmps20
    go_wp2
    go_ret
    exact ⟨by rw [HF.out]; rfl, Below.refl _ _⟩
end Go.Proofs.YtajabenlkmgjeaaDoor
