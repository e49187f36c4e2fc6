/-
  PROVED HERE: what the texts DBTyp, DBNmd, DBLays say (each has its own words below).
-/
import Derived.Test.YtbkpehfaofhmaaaGreatDoorCB7
import Derived.Laws.BitsAllLaws
/- DBTyp: reg's typesOf: what it returns; nothing that lay before is turned. -/
namespace Go.Proofs.YtbkpehfaofhmaaaGreatDoor
open Go.RowKit
def maskOf (l : List Int) : Nat := l.foldl (fun m t => m ||| 2 ^ t.toNat) 0
theorem maskOf_snoc (l : List Int) (t : Int) : maskOf (l ++ [t]) = maskOf l ||| 2 ^ t.toNat := by unfold maskOf; rw [List.foldl_append]; rfl
theorem pow_lt (t : Int) (h : t < 16) : 2 ^ t.toNat < 65536 := by
 have : t.toNat < 16 := by omega
 exact Nat.pow_lt_pow_right (by decide) this
theorem wrap_pow (t : Int) (h : t < 16) : IntKind.u16.wrap ((2 : Int) ^ t.toNat) = ((2 ^ t.toNat : Nat) : Int) := by
 have h1 := pow_lt t h
 rw [show ((2 : Int) ^ t.toNat) = ((2 ^ t.toNat : Nat) : Int) from by simp]
 generalize 2 ^ t.toNat = m at *
 show ((m : Int) % 65536) = _
 omega
theorem maskOf_lt (l : List Int) (h : l.all isTy = true) : maskOf l < 65536 := by
 have key : ∀ (l : List Int) (m : Nat), m < 65536 -> l.all isTy = true -> l.foldl (fun m t => m ||| 2 ^ t.toNat) m < 65536 := by
  intro l
  induction l with
  | nil => intro m hm _; exact hm
  | cons t r ih =>
   intro m hm hl
   rw [List.all_cons, Bool.and_eq_true] at hl
   rw [List.foldl_cons]
   refine ih _ ?_ hl.2
   have ht : t < 16 := by
    have := hl.1
    unfold isTy at this
    simp at this
    exact this.2
   exact Nat.or_lt_two_pow (n := 16) hm (pow_lt t ht)
 exact key l 0 (by decide) h
def maskG : List Grp -> ByteArray -> Nat
 | [], _ => 0
 | g :: r, s => if (g.1.toList == s.toList) = true then maskOf g.2 else maskG r s
theorem maskG_at : ∀ (gs : List Grp) (s : ByteArray) (i : Nat) (g : Grp), gs[i]? = some g -> (∀ x ∈ gs.take i, (x.1.toList == s.toList) = false) -> (g.1.toList == s.toList) = true -> maskG gs s = maskOf g.2 := by
 intro gs
 induction gs with
 | nil => intro s i g h; simp at h
 | cons y r ih =>
  intro s i g h hn he
  rw [maskG]
  cases i with
  | zero =>
   obtain rfl : y = g := by simpa using h
   rw [if_pos he]
  | succ i =>
   have hy := hn y (by simp)
   rw [if_neg (by rw [hy]; simp)]
   exact ih s i g (by simpa using h) (fun x hx => hn x (by simp; exact .inr hx)) he
theorem maskG_none (s : ByteArray) : ∀ (gs : List Grp), (∀ x ∈ gs, (x.1.toList == s.toList) = false) -> maskG gs s = 0 := by
 intro gs
 induction gs with
 | nil => intro _; rfl
 | cons y r ih =>
  intro h
  rw [maskG, if_neg (by rw [h y (List.mem_cons_self ..)]; simp)]
  exact ih (fun x hx => h x (List.mem_cons_of_mem _ hx))
theorem maskG_lt (gs : List Grp) (hr : rightG gs = true) (s : ByteArray) : maskG gs s < 65536 := by
 unfold rightG at hr
 rw [Bool.and_eq_true] at hr
 have h := hr.2
 clear hr
 induction gs with
 | nil => show 0 < 65536; decide
 | cons y r ih =>
  rw [List.all_cons, Bool.and_eq_true] at h
  rw [maskG]
  split
  ·refine maskOf_lt _ ?_
   have := h.1
   unfold rightTs at this
   rw [Bool.and_eq_true] at this
   exact this.2
  ·exact ih h.2
set_option maxRecDepth 100000 in
set_option maxHeartbeats 2000000 in
theorem typesof_calls (s : ByteArray) (a : Option Addr) (len cap : Nat) (gs : List Grp) (w : World) (h : Groups w a len gs) (hr : rightG gs = true) :
  Calls Tryz.prog 142 #[.string s, .slice a len cap] w fun e w' => e = .returned (.int .u16 (maskG gs s : Int)) /\ Below w.heap.size w w' := by
 obtain ⟨hl, hz, _⟩ := id h
 obtain ⟨R, hR⟩ : ∃ R, maskG gs s = R := ⟨_, rfl⟩
 rw [hR]
 have HR : Hid (maskG gs s = R) := hR
 clear hR
 have hlen : len <= 16 := by
  unfold rightG at hr
  rw [Bool.and_eq_true, hl] at hr
  exact of_decide_eq_true hr.1
 have hgr : ∀ g ∈ gs, rightTs g.2 = true := by
  unfold rightG at hr
  rw [Bool.and_eq_true] at hr
  exact List.all_eq_true.1 hr.2
 clear hr
 go_enter Tryz.func142, Tryz.ntmps142
 go_wp2
 go_loopw [12] (fun i w' => ∃ j : Nat, j <= len /\ i = .int .i64 (j : Int) /\ (∀ x ∈ gs.take j, (x.1.toList == s.toList) = false) /\ Below w.heap.size w w') (fun i _ => len - (intOf i).toNat)
 case atStart => exact ⟨0, by omega, rfl, by simp, Below.refl _ _⟩
 case round =>
  obtain ⟨i, hi, rfl, hT, hB⟩ := hrel
  by_cases hlt : i < len
  ·obtain ⟨b, o, g, a', len', cap', rfl, hg, hI, hc⟩ := h.at hlt
   obtain ⟨c0, c1⟩ := hc wr hB
   obtain ⟨hl2, hz2, _⟩ := id hI
   have hrt := hgr g (List.mem_of_getElem? hg)
   obtain ⟨nm, zs⟩ := g
   simp only at hI hl2 c0 hrt
   have HB0 : Hid (∀ o, Below w.heap.size w (wr.alloc o)) := fun o => hB.alloc hB.size o
   cases he : (nm.toList == s.toList) with
   | false =>
    have HN : Hid (∀ x ∈ gs.take (i + 1), (x.1.toList == s.toList) = false) := by
     intro x hx
     rw [List.take_add_one, hg] at hx
     rcases List.mem_append.1 hx with hx | hx
     ·exact hT x hx
     ·simp at hx
      rw [hx]
      exact he
    clear hc hI hg hT hgr h hrt
    go_wp2
    go_roundw
    case rel => exact ⟨i + 1, by omega, rfl, HN.out, HB0.out _⟩
    case measure => simp [intOf]; omega
   | true =>
    have HM : Hid (R = maskOf zs) := by
     show _ = _
     rw [<- HR.out]
     exact maskG_at gs s i (nm, zs) hg hT he
    have hlen2 : len' <= 16 /\ zs.all isTy = true := by
     unfold rightTs at hrt
     rw [Bool.and_eq_true, hl2] at hrt
     exact ⟨of_decide_eq_true hrt.1, hrt.2⟩
    have hty : Hid (∀ (i : Nat) (x : Int), zs[i]? = some x -> 0 <= x /\ x < 16) := fun i x hx => by
     have := List.all_eq_true.1 hlen2.2 x (List.mem_of_getElem? hx)
     unfold isTy at this
     simpa using this
    have hml : Hid (∀ j, maskOf (zs.take j) < 65536) := fun j => maskOf_lt _ (by
     rw [List.all_eq_true]
     intro x hx
     exact List.all_eq_true.1 hlen2.2 x (List.mem_of_mem_take hx))
    have hlen3 := hlen2.1
    have hBI : Hid (∀ W, Below w.heap.size w W -> ∀ i : Nat, i < len' -> ∃ b o x, a' = some ⟨b, o, none⟩ /\ zs[i]? = some x /\ W.cell? ⟨b, o + i, none⟩ = some (.int .i64 x)) := fun W hW i hi => by
     obtain ⟨b, o, x, h1, h2, h3⟩ := hI.at hi
     exact ⟨b, o, x, h1, h2, h3 W hW⟩
    clear hc hI hg hT hgr h hrt hlen2
    go_wp2
    go_loopw [7, 23] (fun m i2 w' => ∃ j : Nat, j <= len' /\ i2 = .int .i64 (j : Int) /\ m = .int .u16 (maskOf (zs.take j) : Int) /\ w' = (wr.alloc (.cells #[.string nm, .slice a' len' cap'] 61))) (fun _ i2 _ => len' - (intOf i2).toNat)
    case atStart => exact ⟨0, by omega, rfl, rfl, rfl⟩
    case round =>
     obtain ⟨j, hj, rfl, rfl, rfl⟩ := hrel
     have hm := hml.out j
     by_cases hlt2 : j < len'
     ·obtain ⟨b2, o2, x, rfl, hx, hc2⟩ := hBI.out (wr.alloc (.cells #[.string nm, .slice a' len' cap'] 61)) (HB0.out _) j hlt2
      obtain ⟨x0, x1⟩ := hty.out j x hx
      have HS2 : Hid (maskOf (zs.take (j + 1)) = maskOf (zs.take j) ||| 2 ^ x.toNat) := by show _ = _; rw [List.take_add_one, hx]; exact maskOf_snoc _ _
      have hor := u16_or_nat (maskOf (zs.take j)) (2 ^ x.toNat) hm (pow_lt x x1)
      clear hx
      generalize maskOf (zs.take j) = m at *
      go_wp2
      go_roundw
      case rel => exact ⟨j + 1, by omega, rfl, by rw [wrap_pow x x1, hor, HS2.out], by first | rfl | trivial⟩
      case measure => simp [intOf]; omega
     ·obtain rfl : j = len' := by omega
      rw [List.take_of_length_le (Nat.le_of_eq hl2), <- HM.out]
      go_wp2
      go_ret
      exact ⟨rfl, HB0.out _⟩
  ·obtain rfl : i = len := by omega
   have HF : Hid (R = 0) := by
    show _ = _
    rw [<- HR.out]
    rw [List.take_of_length_le (Nat.le_of_eq hl)] at hT
    exact maskG_none s gs hT
   clear hT h hgr
   go_wp2
   go_ret
   exact ⟨by rw [HF.out]; rfl, hB⟩
end Go.Proofs.YtbkpehfaofhmaaaGreatDoor

/- DBNmd: reg's named and Check at every tree and all groups: what they return; nothing that lay before is turned. -/
namespace Go.Proofs.YtbkpehfaofhmaaaGreatDoor
open Go.RowKit
def nmd (gs : List Grp) : Nat -> DataW Unit -> Bool
 | 0, _ => true
 | n + 1, t => if kindT t = 1 then !(((maskG gs (nameT t) : Nat) : Int) == 0) else (subs t).all (nmd gs n)
set_option maxRecDepth 100000 in
set_option maxHeartbeats 2000000 in
theorem named_calls (ga : Option Addr) (gl gc : Nat) (gs : List Grp) (hr : rightG gs = true) : ∀ (n : Nat) (t : DataW Unit) (v : Value) (w : World), Ex w n t v -> Groups w ga gl gs →
  Calls Tryz.prog 129 #[v, .slice ga gl gc] w fun e w' => e = .returned (.bool (nmd gs n t)) /\ Below w.heap.size w w' := by
 intro n
 induction n with
 | zero => intro t v w h; exact h.elim
 | succ n ih =>
  intro t v w h hG
  obtain ⟨k, s, a, len, cap, ts, rfl, rfl, hl, hz, hk⟩ := h
  have HB0 : Hid (∀ o, Below w.heap.size w (w.alloc o)) := fun o => (Below.refl _ w).alloc (Nat.le_refl _) _
  rw [nmd, kindT_node, subs_node, nameT_node]
  by_cases k1 : k = 1
  ·subst k1
   rw [if_pos rfl]
   have HT : Hid (∀ W, Below w.heap.size w W -> Calls Tryz.prog 142 #[.string s, .slice ga gl gc] W fun e w' => e = .returned (.int .u16 (maskG gs s : Int)) /\ Below W.heap.size W w') := fun W hW => typesof_calls s ga gl gc gs W (hG.below hW) hr
   generalize ((maskG gs s : Nat) : Int) = m at *
   clear hk ih hG
   cases hm : (m == 0) with
   | true =>
    have hm2 : (m != 0) = false := by simp [bne, hm]
    go_enter Tryz.func129, Tryz.ntmps129
    go_wp2_with fail
    refine (HT.out _ (HB0.out _)).mono ?_
    rintro e W ⟨rfl, hW⟩
    go_wp2
    go_ret
    exact ⟨rfl, (HB0.out _).trans (hW.mono (by simp))⟩
   | false =>
    have hm2 : (m != 0) = true := by simp [bne, hm]
    go_enter Tryz.func129, Tryz.ntmps129
    go_wp2_with fail
    refine (HT.out _ (HB0.out _)).mono ?_
    rintro e W ⟨rfl, hW⟩
    go_wp2
    go_ret
    exact ⟨rfl, (HB0.out _).trans (hW.mono (by simp))⟩
  ·rw [if_neg k1]
   have e1 : (k == 1) = false := by simpa using k1
   obtain ⟨R, hR⟩ : ∃ R, ts.all (nmd gs n) = R := ⟨_, rfl⟩
   rw [hR]
   have HR : Hid (ts.all (nmd gs n) = R) := hR
   clear hR
   go_enter Tryz.func129, Tryz.ntmps129
   go_wp2
   go_loopw [18] (fun i w' => ∃ j : Nat, j <= len /\ i = .int .i64 (j : Int) /\ (ts.take j).all (nmd gs n) = true /\ Below (w.alloc (.cells #[.int .i64 k, .string s, .slice a len cap] 90)).heap.size (w.alloc (.cells #[.int .i64 k, .string s, .slice a len cap] 90)) w') (fun i _ => len - (intOf i).toNat)
   case atStart => exact ⟨0, by omega, rfl, rfl, Below.refl _ _⟩
   case round =>
    obtain ⟨i, hi, rfl, hT, hB⟩ := hrel
    obtain ⟨-, -, -, hBw⟩ := one_kept hB
    by_cases hlt : i < len
    ·obtain ⟨b, o, x, kx, sx, ax, lx, cx, rfl, _, hx, hcx⟩ := kid_at hl hk hlt
     obtain ⟨p0, p1, p2, p3⟩ := hcx wr hBw
     have HI : Hid ((ts.take (i + 1)).all (nmd gs n) = nmd gs n x) := by show _ = _; rw [allI_step hx, hT, Bool.true_and]
     have HO : Hid (nmd gs n x = false -> R = false) := fun e => by rw [<- HR.out]; exact allI_not hx e
     have HC : Hid (∀ W, Below wr.heap.size wr W -> Calls Tryz.prog 129 #[.agg #[.int .i64 kx, .string sx, .slice ax lx cx], .slice ga gl gc] W fun e w' => e = .returned (.bool (nmd gs n x)) /\ Below W.heap.size W w') := fun W hW => ih x _ W (Ex.below hW _ _ _ p3) ((hG.below hBw).below hW)
     have HW : Hid (∀ o, Below wr.heap.size wr (wr.alloc o)) := fun o => (Below.refl _ wr).alloc (Nat.le_refl _) _
     clear hcx hk p3 hx ih hT hG
     generalize nmd gs n x = q at *
     cases q with
     | false =>
      have HF : Hid (R = false) := HO.out rfl
      clear HO
      go_wp2_with fail
      refine (HC.out _ (HW.out _)).mono ?_
      rintro e W2 ⟨rfl, hW2⟩
      have hB2 : Below wr.heap.size wr W2 := (HW.out _).trans (hW2.mono (by simp))
      go_wp2
      go_ret
      exact ⟨by rw [HF.out]; rfl, hBw.trans (hB2.mono hBw.size)⟩
     | true =>
      clear HO
      go_wp2_with fail
      refine (HC.out _ (HW.out _)).mono ?_
      rintro e W2 ⟨rfl, hW2⟩
      have hB2 : Below wr.heap.size wr W2 := (HW.out _).trans (hW2.mono (by simp))
      go_wp2
      go_roundw
      case rel => exact ⟨i + 1, by omega, rfl, HI.out, hB.trans (hB2.mono hB.size)⟩
      case measure => simp [intOf]; omega
    ·obtain rfl : i = len := by omega
     have HF : Hid (R = true) := by
      show R = true
      rw [<- HR.out, <- hT, List.take_of_length_le (Nat.le_of_eq hl)]
     clear hk ih hT hG
     go_wp2
     go_ret
     exact ⟨by rw [HF.out]; rfl, hBw⟩
def chk (n : Nat) (t : DataW Unit) (gs : List Grp) : Int := if checkE n t = 0 then (if rightG gs = true then (if nmd gs n t = true then 0 else 6) else 1) else checkE n t
set_option maxRecDepth 100000 in
set_option maxHeartbeats 2000000 in
theorem rcheck_calls (n : Nat) (t : DataW Unit) (v : Value) (ga : Option Addr) (gl gc : Nat) (gs : List Grp) (w : World) (h : Ex w n t v) (hN : named n t) (hG : Groups w ga gl gs) :
  Calls Tryz.prog 99 #[v, .slice ga gl gc] w fun e w' => e = .returned (.int .i64 (chk n t gs)) /\ Below w.heap.size w w' := by
 have H1 : Hid (∀ W, Below w.heap.size w W -> Calls Tryz.prog 127 #[v] W fun e w' => e = .returned (.int .i64 (checkE n t)) /\ Below W.heap.size W w') := fun W hW => check_calls n t v W (Ex.below hW _ _ _ h) hN
 have H2 : Hid (∀ W, Below w.heap.size w W -> Calls Tryz.prog 128 #[.slice ga gl gc] W fun e w' => e = .returned (.bool (rightG gs)) /\ Below W.heap.size W w') := fun W hW => rightgroups_calls ga gl gc gs W (hG.below hW)
 have H3 : Hid (rightG gs = true -> ∀ W, Below w.heap.size w W -> Calls Tryz.prog 129 #[v, .slice ga gl gc] W fun e w' => e = .returned (.bool (nmd gs n t)) /\ Below W.heap.size W w') := fun hr W hW => named_calls ga gl gc gs hr n t v W (Ex.below hW _ _ _ h) (hG.below hW)
 unfold chk
 generalize checkE n t = c at *
 generalize rightG gs = r at *
 generalize nmd gs n t = q at *
 have HB0 : Hid (∀ o, Below w.heap.size w (w.alloc o)) := fun o => (Below.refl _ w).alloc (Nat.le_refl _) _
 obtain ⟨k, s, a, len, cap, rfl⟩ : ∃ k s a len cap, v = .agg #[.int .i64 k, .string s, .slice a len cap] := by
  cases n with
  | zero => exact h.elim
  | succ n => obtain ⟨k, s, a, len, cap, ts, _, rfl, _⟩ := h; exact ⟨k, s, a, len, cap, rfl⟩
 have HF0 : Hid (∀ W : World, Below (w.alloc (.cells #[.int .i64 k, .string s, .slice a len cap] 90)).heap.size (w.alloc (.cells #[.int .i64 k, .string s, .slice a len cap] 90)) W -> W.cell? ⟨w.heap.size, 0, none⟩ = some (.int .i64 k) /\ W.cell? ⟨w.heap.size, 1, none⟩ = some (.string s) /\ W.cell? ⟨w.heap.size, 2, none⟩ = some (.slice a len cap) /\ Below w.heap.size w W) := fun W hW => one_kept hW
 clear h hN hG
 by_cases hc : c = 0
 ·subst hc
  rw [if_pos rfl]
  cases r with
  | false =>
   rw [if_neg (by decide)]
   clear H3
   go_enter Tryz.func99, Tryz.ntmps99
   go_wp2_with fail
   refine (H1.out _ (HB0.out _)).mono ?_
   rintro e W ⟨rfl, hW⟩
   obtain ⟨c0, c1, c2, hBw⟩ := HF0.out W hW
   go_wp2_with fail
   refine (H2.out _ hBw).mono ?_
   rintro e W2 ⟨rfl, hW2⟩
   go_wp2
   go_ret
   exact ⟨rfl, hBw.trans (hW2.mono hBw.size)⟩
  | true =>
   rw [if_pos rfl]
   have H3' : Hid (∀ W, Below w.heap.size w W -> Calls Tryz.prog 129 #[.agg #[.int .i64 k, .string s, .slice a len cap], .slice ga gl gc] W fun e w' => e = .returned (.bool q) /\ Below W.heap.size W w') := H3.out rfl
   clear H3
   cases q with
   | false =>
    rw [if_neg (by decide)]
    go_enter Tryz.func99, Tryz.ntmps99
    go_wp2_with fail
    refine (H1.out _ (HB0.out _)).mono ?_
    rintro e W ⟨rfl, hW⟩
    obtain ⟨c0, c1, c2, hBw⟩ := HF0.out W hW
    go_wp2_with fail
    refine (H2.out _ hBw).mono ?_
    rintro e W2 ⟨rfl, hW2⟩
    have hB2 : Below (w.alloc (.cells #[.int .i64 k, .string s, .slice a len cap] 90)).heap.size (w.alloc (.cells #[.int .i64 k, .string s, .slice a len cap] 90)) W2 := hW.trans (hW2.mono hW.size)
    obtain ⟨d0, d1, d2, hBw2⟩ := HF0.out W2 hB2
    clear c0 c1 c2
    go_wp2_with fail
    refine (H3'.out _ hBw2).mono ?_
    rintro e W3 ⟨rfl, hW3⟩
    go_wp2
    go_ret
    exact ⟨rfl, hBw2.trans (hW3.mono hBw2.size)⟩
   | true =>
    rw [if_pos rfl]
    go_enter Tryz.func99, Tryz.ntmps99
    go_wp2_with fail
    refine (H1.out _ (HB0.out _)).mono ?_
    rintro e W ⟨rfl, hW⟩
    obtain ⟨c0, c1, c2, hBw⟩ := HF0.out W hW
    go_wp2_with fail
    refine (H2.out _ hBw).mono ?_
    rintro e W2 ⟨rfl, hW2⟩
    have hB2 : Below (w.alloc (.cells #[.int .i64 k, .string s, .slice a len cap] 90)).heap.size (w.alloc (.cells #[.int .i64 k, .string s, .slice a len cap] 90)) W2 := hW.trans (hW2.mono hW.size)
    obtain ⟨d0, d1, d2, hBw2⟩ := HF0.out W2 hB2
    clear c0 c1 c2
    go_wp2_with fail
    refine (H3'.out _ hBw2).mono ?_
    rintro e W3 ⟨rfl, hW3⟩
    go_wp2
    go_ret
    exact ⟨rfl, hBw2.trans (hW3.mono hBw2.size)⟩
 ·rw [if_neg hc]
  have e0 : (c == 0) = false := by simpa using hc
  have e1 : (c != 0) = true := by simp [bne, e0]
  clear H2 H3
  go_enter Tryz.func99, Tryz.ntmps99
  go_wp2_with fail
  refine (H1.out _ (HB0.out _)).mono ?_
  rintro e W ⟨rfl, hW⟩
  obtain ⟨c0, c1, c2, hBw⟩ := HF0.out W hW
  go_wp2
  go_ret
  exact ⟨rfl, hBw⟩
end Go.Proofs.YtbkpehfaofhmaaaGreatDoor

/- DBLays: the places that are laid for a tree, as plain data: each is right. -/
namespace Go.Proofs.YtbkpehfaofhmaaaGreatDoor
section
variable {T : Type} (K : T -> Int) (M : T -> Nat) (U : T -> List T)
def forkLeast (L : List Place) (ways : List Nat) : Nat := ways.foldl (fun m q => min m (leastAt L q)) (leastAt L (ways.headD 0))
def laySeq (f : T -> Nat -> List Place -> List Place × Nat) : List T -> Nat -> List Place -> List Place × Nat
 | [], next, L => (L, next)
 | x :: r, next, L => laySeq f r (f x next L).2 (f x next L).1
def layAlt (f : T -> Nat -> List Place -> List Place × Nat) (next : Nat) : List T -> List Place -> List Nat -> List Place × List Nat
 | [], L, ways => (L, ways)
 | x :: r, L, ways => layAlt f next r (f x next L).1 (ways ++ [(f x next L).2])
def forkL (L : List Place) (ways : List Nat) : List Place × Nat := (L ++ [(0, ways, forkLeast L ways)], L.length)
def layOpt (f : T -> Nat -> List Place -> List Place × Nat) : List T -> Nat -> List Place -> List Place × Nat
 | x :: _, next, L => forkL (f x next L).1 [next, (f x next L).2]
 | [], next, L => (L, next)
def layLoop (f : T -> Nat -> List Place -> List Place × Nat) : List T -> Nat -> List Place -> List Place × Nat × Nat
 | x :: _, next, L => (addNext (f x L.length (forkL L [next]).1).1 L.length (f x L.length (forkL L [next]).1).2, L.length, (f x L.length (forkL L [next]).1).2)
 | [], next, L => (L, next, next)
def lay : Nat -> T -> Nat -> List Place -> List Place × Nat
 | 0, _, next, L => (L, next)
 | n + 1, t, next, L =>
  if K t = 1 then (L ++ [(M t, [next], leastAt L next + 1)], L.length)
  else if K t = 2 then laySeq (lay n) (U t).reverse next L
  else if K t = 3 then forkL (layAlt (lay n) next (U t) L []).1 (layAlt (lay n) next (U t) L []).2
  else if K t = 4 then ((layLoop (lay n) (U t) next L).1, (layLoop (lay n) (U t) next L).2.1)
  else if K t = 5 then ((layLoop (lay n) (U t) next L).1, (layLoop (lay n) (U t) next L).2.2)
  else if K t = 6 then layOpt (lay n) (U t) next L
  else (L, next)
def Sane : Nat -> T -> Prop
 | 0, _ => False
 | n + 1, t => (K t = 1 -> M t ≠ 0) /\ (K t = 2 \/ K t = 3 -> U t ≠ []) /\ (K t = 4 \/ K t = 5 \/ K t = 6 -> ∃ x, U t = [x]) /\ ∀ x ∈ U t, Sane n x
def size : Nat -> T -> Nat
 | 0, _ => 0
 | n + 1, t => 1 + ((U t).map (size n)).sum
def need : Nat -> T -> Nat
 | 0, _ => 0
 | n + 1, t => (U t).length * ((U t).map (size U n)).sum + ((U t).map (need n)).sum + 3
theorem size_need (n : Nat) (t : T) : size U n t <= need U n t := by
 cases n with
 | zero => exact Nat.le_refl _
 | succ n =>
  rw [size, need]
  cases h : U t with
  | nil => simp
  | cons x r =>
   have : ((x :: r).map (size U n)).sum <= (x :: r).length * ((x :: r).map (size U n)).sum := Nat.le_mul_of_pos_left _ (by simp)
   omega
theorem sum_le_of {α : Type} {f : α -> Nat} {c : Nat} {g : α -> Nat} : ∀ (l : List α), (∀ x ∈ l, f x <= c * g x) -> (l.map f).sum <= c * (l.map g).sum := by
 intro l
 induction l with
 | nil => intro _; simp
 | cons x r ih =>
  intro h
  have h1 := h x (List.mem_cons_self ..)
  have h2 := ih (fun y hy => h y (List.mem_cons_of_mem _ hy))
  simp only [List.map_cons, List.sum_cons]
  rw [Nat.mul_add]
  omega
theorem sum_ge_mem {α : Type} {f : α -> Nat} {x : α} : ∀ (l : List α), x ∈ l -> f x <= (l.map f).sum := by
 intro l
 induction l with
 | nil => intro h; cases h
 | cons y r ih =>
  intro h
  simp only [List.map_cons, List.sum_cons]
  rcases List.mem_cons.1 h with rfl | h
  ·omega
  ·have := ih h; omega
theorem need_le : ∀ (n : Nat) (t : T), size U n t <= 200 -> (∀ m x, m < n -> x ∈ U t -> 1 <= size U m x \/ True) -> need U n t <= 40003 * size U n t := by
 intro n
 induction n with
 | zero => intro t _ _; exact Nat.zero_le _
 | succ n ih =>
  intro t h _
  have h' := h
  rw [size] at h
  have hs : ((U t).map (need U n)).sum <= 40003 * ((U t).map (size U n)).sum := sum_le_of (U t) fun x hx => ih x (by
   have := sum_ge_mem (f := size U n) (U t) hx
   omega) (fun _ _ _ _ => .inr trivial)
  have hlen : (U t).length <= 200 \/ ((U t).map (size U n)).sum = 0 := by
   cases n with
   | zero =>
    right
    have : ∀ l : List T, (l.map (size U 0)).sum = 0 := by
     intro l
     induction l with
     | nil => rfl
     | cons x r ih => rw [List.map_cons, List.sum_cons, ih]; rfl
    exact this _
   | succ m =>
    left
    have : ∀ l : List T, l.length <= (l.map (size U (m + 1))).sum := by
     intro l
     induction l with
     | nil => exact Nat.le_refl _
     | cons x r ih =>
      have h1 : 1 <= size U (m + 1) x := by rw [size]; omega
      rw [List.map_cons, List.sum_cons, List.length_cons]
      omega
    have := this (U t)
    omega
  rw [need, size]
  have hm : (U t).length * ((U t).map (size U n)).sum <= 40000 := by
   rcases hlen with h1 | h1
   ·exact Nat.le_trans (Nat.mul_le_mul h1 (by omega : ((U t).map (size U n)).sum <= 200)) (by decide)
   ·rw [h1]; simp
  omega
def Good (f : T -> Nat -> List Place -> List Place × Nat) (sz : T -> Nat) (x : T) : Prop :=
 ∀ next L, wf L -> next < L.length -> wf (f x next L).1 /\ (f x next L).2 < (f x next L).1.length /\ L.length <= (f x next L).1.length /\ (∀ p, p < L.length -> (f x next L).1[p]? = L[p]?) /\ leastAt L next <= leastAt (f x next L).1 (f x next L).2 /\ (f x next L).1.length <= L.length + sz x
theorem foldl_min_le (L : List Place) : ∀ (ways : List Nat) (m : Nat), ways.foldl (fun m q => min m (leastAt L q)) m <= m /\ (∀ q ∈ ways, ways.foldl (fun m q => min m (leastAt L q)) m <= leastAt L q) /\ (ways.foldl (fun m q => min m (leastAt L q)) m = m \/ ∃ q ∈ ways, ways.foldl (fun m q => min m (leastAt L q)) m = leastAt L q) := by
 intro ways
 induction ways with
 | nil => intro m; exact ⟨Nat.le_refl _, fun q hq => (by cases hq), .inl rfl⟩
 | cons a r ih =>
  intro m
  obtain ⟨h1, h2, h3⟩ := ih (min m (leastAt L a))
  simp only [List.foldl_cons]
  refine ⟨by omega, fun q hq => ?_, ?_⟩
  ·rcases List.mem_cons.1 hq with rfl | hq
   ·omega
   ·exact h2 q hq
  ·rcases h3 with h3 | ⟨q, hq, h3⟩
   ·rw [h3]
    by_cases h : m <= leastAt L a
    ·exact .inl (by omega)
    ·exact .inr ⟨a, List.mem_cons_self .., by omega⟩
   ·exact .inr ⟨q, List.mem_cons_of_mem _ hq, h3⟩
theorem forkLeast_ok (L : List Place) {ways : List Nat} (h : ways ≠ []) : (∀ q ∈ ways, forkLeast L ways <= leastAt L q) /\ ∃ q ∈ ways, forkLeast L ways = leastAt L q := by
 obtain ⟨h1, h2, h3⟩ := foldl_min_le L ways (leastAt L (ways.headD 0))
 refine ⟨h2, ?_⟩
 rcases h3 with h3 | h3
 ·cases ways with
  | nil => exact absurd rfl h
  | cons a r => exact ⟨a, List.mem_cons_self .., h3⟩
 ·exact h3
theorem forkL_ok {L : List Place} (hL : wf L) {ways : List Nat} (h : ways ≠ []) (hw : ∀ q ∈ ways, q < L.length) {m : Nat} (hm : ∀ q ∈ ways, m <= leastAt L q) :
  wf (forkL L ways).1 /\ (forkL L ways).2 < (forkL L ways).1.length /\ (forkL L ways).1.length = L.length + 1 /\ (∀ p, p < L.length -> (forkL L ways).1[p]? = L[p]?) /\ m <= leastAt (forkL L ways).1 (forkL L ways).2 := by
 obtain ⟨h1, h2⟩ := forkLeast_ok L h
 unfold forkL
 refine ⟨wf_add hL (.inr ⟨rfl, fun q hq => ⟨hw q hq, h1 q hq⟩, h2⟩), by simp, by simp, fun p hp => get_snoc_lt hp, ?_⟩
 rw [leastAt_some get_snoc_eq]
 obtain ⟨q, hq, e⟩ := h2
 show m <= forkLeast L ways
 rw [e]
 exact hm q hq
theorem laySeq_good {f : T -> Nat -> List Place -> List Place × Nat} {sz : T -> Nat} : ∀ (l : List T), (∀ x ∈ l, Good f sz x) -> ∀ next L, wf L -> next < L.length →
  wf (laySeq f l next L).1 /\ (laySeq f l next L).2 < (laySeq f l next L).1.length /\ L.length <= (laySeq f l next L).1.length /\ (∀ p, p < L.length -> (laySeq f l next L).1[p]? = L[p]?) /\ leastAt L next <= leastAt (laySeq f l next L).1 (laySeq f l next L).2 /\ (laySeq f l next L).1.length <= L.length + (l.map sz).sum := by
 intro l
 induction l with
 | nil => intro _ next L hL hn; exact ⟨hL, hn, Nat.le_refl _, fun _ _ => rfl, Nat.le_refl _, Nat.le_add_right _ _⟩
 | cons x r ih =>
  intro hg next L hL hn
  obtain ⟨a1, a2, a3, a4, a5, a6⟩ := hg x (List.mem_cons_self ..) next L hL hn
  obtain ⟨b1, b2, b3, b4, b5, b6⟩ := ih (fun y hy => hg y (List.mem_cons_of_mem _ hy)) (f x next L).2 (f x next L).1 a1 a2
  rw [laySeq]
  refine ⟨b1, b2, Nat.le_trans a3 b3, fun p hp => (b4 p (by omega)).trans (a4 p hp), Nat.le_trans a5 b5, ?_⟩
  simp only [List.map_cons, List.sum_cons]
  omega
theorem layAlt_good {f : T -> Nat -> List Place -> List Place × Nat} {sz : T -> Nat} (next : Nat) : ∀ (l : List T), (∀ x ∈ l, Good f sz x) -> ∀ (L : List Place) (ways : List Nat), wf L -> next < L.length -> (∀ q ∈ ways, q < L.length /\ leastAt L next <= leastAt L q) →
  wf (layAlt f next l L ways).1 /\ (∀ q ∈ (layAlt f next l L ways).2, q < (layAlt f next l L ways).1.length /\ leastAt L next <= leastAt (layAlt f next l L ways).1 q) /\ L.length <= (layAlt f next l L ways).1.length /\ (∀ p, p < L.length -> (layAlt f next l L ways).1[p]? = L[p]?) /\ (layAlt f next l L ways).1.length <= L.length + (l.map sz).sum /\ (layAlt f next l L ways).2.length = ways.length + l.length := by
 intro l
 induction l with
 | nil => intro _ L ways hL hn hw; exact ⟨hL, hw, Nat.le_refl _, fun _ _ => rfl, Nat.le_add_right _ _, rfl⟩
 | cons x r ih =>
  intro hg L ways hL hn hw
  obtain ⟨a1, a2, a3, a4, a5, a6⟩ := hg x (List.mem_cons_self ..) next L hL hn
  have hkeep : ∀ q, q < L.length -> leastAt (f x next L).1 q = leastAt L q := fun q hq => leastAt_congr (a4 q hq)
  obtain ⟨b1, b2, b3, b4, b5, b6⟩ := ih (fun y hy => hg y (List.mem_cons_of_mem _ hy)) (f x next L).1 (ways ++ [(f x next L).2]) a1 (by omega) (fun q hq => by
   rw [hkeep next hn]
   rcases List.mem_append.1 hq with hq | hq
   ·obtain ⟨g1, g2⟩ := hw q hq
    exact ⟨by omega, by rw [hkeep q g1]; exact g2⟩
   ·simp at hq
    subst hq
    exact ⟨a2, a5⟩)
  rw [hkeep next hn] at b2
  rw [layAlt]
  refine ⟨b1, b2, Nat.le_trans a3 b3, fun p hp => (b4 p (by omega)).trans (a4 p hp), ?_, ?_⟩
  ·simp only [List.map_cons, List.sum_cons]
   omega
  ·rw [b6]
   simp
   omega
theorem layLoop_good {f : T -> Nat -> List Place -> List Place × Nat} {sz : T -> Nat} {x : T} (hg : Good f sz x) {next : Nat} {L : List Place} (hL : wf L) (hn : next < L.length) :
  wf (layLoop f [x] next L).1 /\ (layLoop f [x] next L).2.1 = L.length /\ L.length < (layLoop f [x] next L).1.length /\ (layLoop f [x] next L).2.2 < (layLoop f [x] next L).1.length /\ (∀ p, p < L.length -> (layLoop f [x] next L).1[p]? = L[p]?) ∧
  leastAt L next <= leastAt (layLoop f [x] next L).1 L.length /\ leastAt L next <= leastAt (layLoop f [x] next L).1 (layLoop f [x] next L).2.2 /\ (layLoop f [x] next L).1.length <= L.length + (1 + sz x) := by
 obtain ⟨c1, c2, c3, c4, c5⟩ := forkL_ok hL (ways := [next]) (by simp) (by simpa using hn) (m := leastAt L next) (by simp)
 have e2 : (forkL L [next]).2 = L.length := rfl
 rw [e2] at c5
 obtain ⟨a1, a2, a3, a4, a5, a6⟩ := hg L.length (forkL L [next]).1 c1 (by omega)
 rw [layLoop]
 generalize hf : f x L.length (forkL L [next]).1 = r at *
 have hat : (forkL L [next]).1[L.length]? = some (0, [next], forkLeast L [next]) := get_snoc_eq
 have hr : r.1[L.length]? = some (0, [next], forkLeast L [next]) := (a4 _ (by omega)).trans hat
 have hpos := hL.pos
 refine ⟨wf_next a1 hpos hr rfl a2 ?_, rfl, by rw [addNext_length]; omega, by rw [addNext_length]; exact a2, fun p hp => ?_, ?_, ?_, ?_⟩
 ·rw [<- leastAt_some hat]; exact a5
 ·rw [addNext_ne (by omega), a4 p (by omega), c4 p hp]
 ·rw [addNext_least, leastAt_congr (a4 L.length (by omega))]; exact c5
 ·rw [addNext_least]; exact Nat.le_trans c5 (by rw [<- leastAt_congr (a4 L.length (by omega))]; exact Nat.le_trans (by rw [leastAt_congr (a4 L.length (by omega))]; exact Nat.le_refl _) a5)
 ·rw [addNext_length]; omega
theorem lay_good : ∀ (n : Nat) (t : T), Sane K M U n t -> Good (lay K M U n) (size U n) t := by
 intro n
 induction n with
 | zero => intro t h; exact h.elim
 | succ n ih =>
  intro t ⟨s1, s3, s4, sk⟩ next L hL hn
  have hk : ∀ x ∈ U t, Good (lay K M U n) (size U n) x := fun x hx => ih x (sk x hx)
  rw [lay, size]
  by_cases k1 : K t = 1
  ·rw [if_pos k1]
   refine ⟨wf_add hL (.inl ⟨s1 k1, next, rfl, hn, rfl⟩), by simp, by simp, fun p hp => get_snoc_lt hp, ?_, by simp⟩
   rw [leastAt_some get_snoc_eq]
   exact Nat.le_succ _
  rw [if_neg k1]
  by_cases k2 : K t = 2
  ·rw [if_pos k2]
   obtain ⟨b1, b2, b3, b4, b5, b6⟩ := laySeq_good (U t).reverse (fun x hx => hk x (List.mem_reverse.1 hx)) next L hL hn
   refine ⟨b1, b2, b3, b4, b5, ?_⟩
   rw [List.map_reverse, List.sum_reverse] at b6
   omega
  rw [if_neg k2]
  by_cases k3 : K t = 3
  ·rw [if_pos k3]
   obtain ⟨b1, b2, b3, b4, b5, b6⟩ := layAlt_good next (U t) hk L [] hL hn (fun q hq => by cases hq)
   have hne : (layAlt (lay K M U n) next (U t) L []).2 ≠ [] := by
    intro e
    rw [e] at b6
    have := List.length_pos_iff.2 (s3 (.inr k3))
    simp at b6
    simp [b6] at this
   obtain ⟨c1, c2, c3, c4, c5⟩ := forkL_ok b1 hne (fun q hq => (b2 q hq).1) (fun q hq => (b2 q hq).2)
   refine ⟨c1, c2, by omega, fun p hp => (c4 p (by omega)).trans (b4 p hp), c5, ?_⟩
   omega
  rw [if_neg k3]
  by_cases k4 : K t = 4
  ·rw [if_pos k4]
   obtain ⟨x, hx⟩ := s4 (.inl k4)
   rw [hx]
   obtain ⟨a1, a2, a3, a4, a5, a6, a7, a8⟩ := layLoop_good (hk x (by rw [hx]; exact List.mem_singleton.2 rfl)) hL hn
   refine ⟨a1, by rw [a2]; exact a3, Nat.le_of_lt a3, a5, by rw [a2]; exact a6, ?_⟩
   simpa using a8
  rw [if_neg k4]
  by_cases k5 : K t = 5
  ·rw [if_pos k5]
   obtain ⟨x, hx⟩ := s4 (.inr (.inl k5))
   rw [hx]
   obtain ⟨a1, a2, a3, a4, a5, a6, a7, a8⟩ := layLoop_good (hk x (by rw [hx]; exact List.mem_singleton.2 rfl)) hL hn
   refine ⟨a1, a4, Nat.le_of_lt a3, a5, a7, ?_⟩
   simpa using a8
  rw [if_neg k5]
  by_cases k6 : K t = 6
  ·rw [if_pos k6]
   obtain ⟨x, hx⟩ := s4 (.inr (.inr k6))
   rw [hx, layOpt]
   obtain ⟨a1, a2, a3, a4, a5, a6⟩ := hk x (by rw [hx]; exact List.mem_singleton.2 rfl) next L hL hn
   have hkeep : leastAt (lay K M U n x next L).1 next = leastAt L next := leastAt_congr (a4 next hn)
   obtain ⟨c1, c2, c3, c4, c5⟩ := forkL_ok a1 (ways := [next, (lay K M U n x next L).2]) (by simp) (fun q hq => by
    simp at hq
    rcases hq with rfl | rfl
    ·omega
    ·exact a2) (m := leastAt L next) (fun q hq => by
    simp at hq
    rcases hq with rfl | rfl
    ·rw [hkeep]; exact Nat.le_refl _
    ·exact a5)
   refine ⟨c1, c2, by omega, fun p hp => (c4 p (by omega)).trans (a4 p hp), c5, ?_⟩
   simp
   omega
  rw [if_neg k6]
  exact ⟨hL, hn, Nat.le_refl _, fun _ _ => rfl, Nat.le_refl _, Nat.le_add_right _ _⟩
end
end Go.Proofs.YtbkpehfaofhmaaaGreatDoor
