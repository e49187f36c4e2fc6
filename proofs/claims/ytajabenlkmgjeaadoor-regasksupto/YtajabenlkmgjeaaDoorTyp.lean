/-
  PROVED HERE: reg's typesOf: what it returns; nothing that lay before is turned.
-/
import Derived.Test.YtajabenlkmgjeaaDoorGrp
import Derived.Laws.BitsAllLaws
namespace Go.Proofs.YtajabenlkmgjeaaDoor
open Go.RowKit

/-- Types as bits. -/
def maskOf (l : List Int) : Nat := l.foldl (fun m t => m ||| 2 ^ t.toNat) 0
theorem maskOf_snoc (l : List Int) (t : Int) : maskOf (l ++ [t]) = maskOf l ||| 2 ^ t.toNat := by unfold maskOf; rw [List.foldl_append]; rfl
theorem pow_lt (t : Int) (h : t < 16) : 2 ^ t.toNat < 65536 := by
  have : t.toNat < 16 := by omega
  exact Nat.pow_lt_pow_right (by decide) this
theorem wrap_pow (t : Int) (h : t < 16) : IntKind.u16.wrap ((2 : Int) ^ t.toNat) = ((2 ^ t.toNat : Nat) : Int) := by
  have h1 := pow_lt t h
  rw [show ((2 : Int) ^ t.toNat) = ((2 ^ t.toNat : Nat) : Int) from by simp]
  generalize 2 ^ t.toNat = m at *
  show ((m : Int) % 65536) = _
  omega
theorem maskOf_lt (l : List Int) (h : l.all isTy = true) : maskOf l < 65536 := by
  have key : ∀ (l : List Int) (m : Nat), m < 65536 → l.all isTy = true → l.foldl (fun m t => m ||| 2 ^ t.toNat) m < 65536 := by
    intro l
    induction l with
    | nil => intro m hm _; exact hm
    | cons t r ih =>
      intro m hm hl
      rw [List.all_cons, Bool.and_eq_true] at hl
      rw [List.foldl_cons]
      refine ih _ ?_ hl.2
      have ht : t < 16 := by
        have := hl.1
        unfold isTy at this
        simp at this
        exact this.2
      exact Nat.or_lt_two_pow (n := 16) hm (pow_lt t ht)
  exact key l 0 (by decide) h
/-- The types that a name stands for. -/
def maskG : List Grp → ByteArray → Nat
  | [], _ => 0
  | g :: r, s => if (g.1.toList == s.toList) = true then maskOf g.2 else maskG r s
theorem maskG_at : ∀ (gs : List Grp) (s : ByteArray) (i : Nat) (g : Grp), gs[i]? = some g → (∀ x ∈ gs.take i, (x.1.toList == s.toList) = false) → (g.1.toList == s.toList) = true → maskG gs s = maskOf g.2 := by
  intro gs
  induction gs with
  | nil => intro s i g h; simp at h
  | cons y r ih =>
    intro s i g h hn he
    rw [maskG]
    cases i with
    | zero =>
      obtain rfl : y = g := by simpa using h
      rw [if_pos he]
    | succ i =>
      have hy := hn y (by simp)
      rw [if_neg (by rw [hy]; simp)]
      exact ih s i g (by simpa using h) (fun x hx => hn x (by simp; exact .inr hx)) he
theorem maskG_none (s : ByteArray) : ∀ (gs : List Grp), (∀ x ∈ gs, (x.1.toList == s.toList) = false) → maskG gs s = 0 := by
  intro gs
  induction gs with
  | nil => intro _; rfl
  | cons y r ih =>
    intro h
    rw [maskG, if_neg (by rw [h y (List.mem_cons_self ..)]; simp)]
    exact ih (fun x hx => h x (List.mem_cons_of_mem _ hx))
theorem maskG_lt (gs : List Grp) (hr : rightG gs = true) (s : ByteArray) : maskG gs s < 65536 := by
  unfold rightG at hr
  rw [Bool.and_eq_true] at hr
  have h := hr.2
  clear hr
  induction gs with
  | nil => show 0 < 65536; decide
  | cons y r ih =>
    rw [List.all_cons, Bool.and_eq_true] at h
    rw [maskG]
    split
    · refine maskOf_lt _ ?_
      have := h.1
      unfold rightTs at this
      rw [Bool.and_eq_true] at this
      exact this.2
    · exact ih h.2
set_option maxRecDepth 100000 in
set_option maxHeartbeats 2000000 in
theorem typesof_calls (s : ByteArray) (a : Option Addr) (len cap : Nat) (gs : List Grp) (w : World) (h : Groups w a len gs) (hr : rightG gs = true) :
    Calls Tryd.prog 41 #[.string s, .slice a len cap] w fun e w' => e = .returned (.int .u16 (maskG gs s : Int)) ∧ Below w.heap.size w w' := by
  obtain ⟨hl, hz, _⟩ := id h
  obtain ⟨R, hR⟩ : ∃ R, maskG gs s = R := ⟨_, rfl⟩
  rw [hR]
  have HR : Hid (maskG gs s = R) := hR
  clear hR
  have hlen : len ≤ 16 := by
    unfold rightG at hr
    rw [Bool.and_eq_true, hl] at hr
    exact of_decide_eq_true hr.1
  have hgr : ∀ g ∈ gs, rightTs g.2 = true := by
    unfold rightG at hr
    rw [Bool.and_eq_true] at hr
    exact List.all_eq_true.1 hr.2
  clear hr
  go_enter Tryd.func41, Tryd.ntmps41
  go_wp2
  go_loopw [12] (fun i w' => ∃ j : Nat, j ≤ len ∧ i = .int .i64 (j : Int) ∧ (∀ x ∈ gs.take j, (x.1.toList == s.toList) = false) ∧ Below w.heap.size w w') (fun i _ => len - (intOf i).toNat)
  case atStart => exact ⟨0, by omega, rfl, by simp, Below.refl _ _⟩
  case round =>
    obtain ⟨i, hi, rfl, hT, hB⟩ := hrel
    by_cases hlt : i < len
    · obtain ⟨b, o, g, a', len', cap', rfl, hg, hI, hc⟩ := h.at hlt
      obtain ⟨c0, c1⟩ := hc wr hB
      obtain ⟨hl2, hz2, _⟩ := id hI
      have hrt := hgr g (List.mem_of_getElem? hg)
      obtain ⟨nm, zs⟩ := g
      simp only at hI hl2 c0 hrt
      have HB0 : Hid (∀ o, Below w.heap.size w (wr.alloc o)) := fun o => hB.alloc hB.size o
      cases he : (nm.toList == s.toList) with
      | false =>
        have HN : Hid (∀ x ∈ gs.take (i + 1), (x.1.toList == s.toList) = false) := by
          intro x hx
          rw [List.take_add_one, hg] at hx
          rcases List.mem_append.1 hx with hx | hx
          · exact hT x hx
          · simp at hx
            rw [hx]
            exact he
        clear hc hI hg hT hgr h hrt
        go_wp2
        go_roundw
        case rel => exact ⟨i + 1, by omega, rfl, HN.out, HB0.out _⟩
        case measure => simp [intOf]; omega
      | true =>
        have HM : Hid (R = maskOf zs) := by
          show _ = _
          rw [← HR.out]
          exact maskG_at gs s i (nm, zs) hg hT he
        have hlen2 : len' ≤ 16 ∧ zs.all isTy = true := by
          unfold rightTs at hrt
          rw [Bool.and_eq_true, hl2] at hrt
          exact ⟨of_decide_eq_true hrt.1, hrt.2⟩
        have hty : Hid (∀ (i : Nat) (x : Int), zs[i]? = some x → 0 ≤ x ∧ x < 16) := fun i x hx => by
          have := List.all_eq_true.1 hlen2.2 x (List.mem_of_getElem? hx)
          unfold isTy at this
          simpa using this
        have hml : Hid (∀ j, maskOf (zs.take j) < 65536) := fun j => maskOf_lt _ (by
          rw [List.all_eq_true]
          intro x hx
          exact List.all_eq_true.1 hlen2.2 x (List.mem_of_mem_take hx))
        have hlen3 := hlen2.1
        have hBI : Hid (∀ W, Below w.heap.size w W → ∀ i : Nat, i < len' → ∃ b o x, a' = some ⟨b, o, none⟩ ∧ zs[i]? = some x ∧ W.cell? ⟨b, o + i, none⟩ = some (.int .i64 x)) := fun W hW i hi => by
          obtain ⟨b, o, x, h1, h2, h3⟩ := hI.at hi
          exact ⟨b, o, x, h1, h2, h3 W hW⟩
        clear hc hI hg hT hgr h hrt hlen2
        go_wp2
        go_loopw [7, 23] (fun m i2 w' => ∃ j : Nat, j ≤ len' ∧ i2 = .int .i64 (j : Int) ∧ m = .int .u16 (maskOf (zs.take j) : Int) ∧ w' = (wr.alloc (.cells #[.string nm, .slice a' len' cap'] 42))) (fun _ i2 _ => len' - (intOf i2).toNat)
        case atStart => exact ⟨0, by omega, rfl, rfl, rfl⟩
        case round =>
          obtain ⟨j, hj, rfl, rfl, rfl⟩ := hrel
          have hm := hml.out j
          by_cases hlt2 : j < len'
          · obtain ⟨b2, o2, x, rfl, hx, hc2⟩ := hBI.out (wr.alloc (.cells #[.string nm, .slice a' len' cap'] 42)) (HB0.out _) j hlt2
            obtain ⟨x0, x1⟩ := hty.out j x hx
            have HS2 : Hid (maskOf (zs.take (j + 1)) = maskOf (zs.take j) ||| 2 ^ x.toNat) := by show _ = _; rw [List.take_add_one, hx]; exact maskOf_snoc _ _
            have hor := u16_or_nat (maskOf (zs.take j)) (2 ^ x.toNat) hm (pow_lt x x1)
            clear hx
            generalize maskOf (zs.take j) = m at *
            go_wp2
            go_roundw
            case rel => exact ⟨j + 1, by omega, rfl, by rw [wrap_pow x x1, hor, HS2.out], by first | rfl | trivial⟩
            case measure => simp [intOf]; omega
          · obtain rfl : j = len' := by omega
            rw [List.take_of_length_le (Nat.le_of_eq hl2), ← HM.out]
            go_wp2
            go_ret
            exact ⟨rfl, HB0.out _⟩
    · obtain rfl : i = len := by omega
      have HF : Hid (R = 0) := by
        show _ = _
        rw [← HR.out]
        rw [List.take_of_length_le (Nat.le_of_eq hl)] at hT
        exact maskG_none s gs hT
      clear hT h hgr
      go_wp2
      go_ret
      exact ⟨by rw [HF.out]; rfl, hB⟩
end Go.Proofs.YtajabenlkmgjeaaDoor
