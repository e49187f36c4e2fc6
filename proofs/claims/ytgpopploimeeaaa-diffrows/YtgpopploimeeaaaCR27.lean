/-
  PROVED HERE: what the texts DAwk, DRowsW say (each has its own words below).
-/
import Derived.Test.YtgpopploimeeaaaCR21
import Derived.Test.YtgpopploimeeaaaCR26
import Derived.Test.YtgpopploimeeaaaCR7
/- DAwk: emenderlaw23.awake answers true. -/
namespace Go.Proofs.Ytgpopploimeeaaa
open Go.RowKit

theorem toks_one (W : World) (x : Tok) (b : Nat) (h : W.heap[b]? = some (.cells #[.int .i64 x.k, .int .i64 x.t, .int .i64 x.n, .int .i64 x.m] 62 (0, 0))) : Toks W (some ⟨b, 0, none⟩) 1 [x] := by
  refine ⟨rfl, .inr ⟨b, 0, rfl, (Array.getElem?_eq_some_iff.1 h).1, fun i y hy => ?_⟩⟩
  match i, hy with
  | 0, hy =>
    obtain rfl : x = y := by simpa using hy
    simp only [World.cell?]
    rw [h]
    exact ⟨rfl, rfl, rfl, rfl⟩
  | i + 1, hy => simp at hy

set_option maxRecDepth 100000 in
set_option maxHeartbeats 1000000 in
theorem awake_calls (w : World) : Calls Try.prog 7 #[] w fun e w' => e = .returned (.bool true) ∧ Below w.heap.size w w' := by
  have hB1 : Below w.heap.size w (w.alloc (.cells #[.int .i64 0, .int .i64 0, .int .i64 120, .int .i64 0] 62)) := (Below.refl _ w).alloc (Nat.le_refl _) _
  have hB2 : Below w.heap.size w ((w.alloc (.cells #[.int .i64 0, .int .i64 0, .int .i64 120, .int .i64 0] 62)).alloc (.cells #[.int .i64 0, .int .i64 0, .int .i64 120, .int .i64 0] 62)) := hB1.alloc hB1.size _
  have t1 : Toks ((w.alloc (.cells #[.int .i64 0, .int .i64 0, .int .i64 120, .int .i64 0] 62)).alloc (.cells #[.int .i64 0, .int .i64 0, .int .i64 120, .int .i64 0] 62)) (some ⟨w.heap.size, 0, none⟩) 1 [⟨0, 0, 120, 0⟩] :=
    toks_one _ ⟨0, 0, 120, 0⟩ _ ((Below.heap_alloc _ _ _ (by rw [World.size_alloc]; omega)).trans (World.alloc_heap_new _ _))
  have t2 : Toks ((w.alloc (.cells #[.int .i64 0, .int .i64 0, .int .i64 120, .int .i64 0] 62)).alloc (.cells #[.int .i64 0, .int .i64 0, .int .i64 120, .int .i64 0] 62)) (some ⟨w.heap.size + 1, 0, none⟩) 1 [⟨0, 0, 120, 0⟩] :=
    toks_one _ ⟨0, 0, 120, 0⟩ _ (by
      have := World.alloc_heap_new (w.alloc (.cells #[.int .i64 0, .int .i64 0, .int .i64 120, .int .i64 0] 62)) (.cells #[.int .i64 0, .int .i64 0, .int .i64 120, .int .i64 0] 62)
      rw [World.size_alloc] at this
      exact this)
  have HC := hide_ (pends_calls _ _ 1 1 1 1 _ _ _ t1 t2 (by omega) (by omega))
  have HB := hide_ hB2
  have hh : headP [⟨0, 0, 120, 0⟩] [⟨0, 0, 120, 0⟩] = 1 := by simp [headP, tokEq]
  rw [hh] at HC
  clear hB1 hB2 t1 t2 hh
  go_enter Try.func7, Try.ntmps7
  go_wp2_with fail
  refine HC.out.mono ?_
  rintro e W1 ⟨rfl, hB⟩
  have HB2 := hide_ (HB.out.trans (hB.mono HB.out.size))
  clear hB HC HB
  go_wp2
  go_ret
  exact ⟨rfl, HB2.out⟩
end Go.Proofs.Ytgpopploimeeaaa

/- DRowsW: the body of DiffRows: it answers true at every two slices of tokens. -/
namespace Go.Proofs.Ytgpopploimeeaaa
open Go.RowKit

set_option maxRecDepth 100000 in
set_option maxHeartbeats 8000000 in
theorem drows_walk (a1 a2 : Option Addr) (n m c1 c2 : Nat) (l1 l2 : List Tok) (w : World) (h1 : Toks w a1 n l1) (h2 : Toks w a2 m l2) (i1 : Lies a1 n c1) (i2 : Lies a2 m c2) (hn : n ≤ 4398046511104) (hm : m ≤ 4398046511104) :
    Calls Try.prog 6 #[.slice a1 n c1, .slice a2 m c2] w fun e w' => e = .returned (.bool true) ∧ Below w.heap.size w w' := by
  have HA : ∀ W : World, Below w.heap.size w W → Calls Try.prog 7 #[] W fun e w' => e = .returned (.bool true) ∧ Below w.heap.size w w' := fun W hW => (awake_calls W).mono fun e w' h => ⟨h.1, hW.trans (h.2.mono hW.size)⟩
  by_cases x1 : 200 < n
  · have y1 : (200 : Int) < (n : Int) := by omega
    clear h1 h2 i1 i2
    go_enter Try.func6, Try.ntmps6
    go_wp2_with fail
    refine (HA _ (Below.refl _ w)).mono ?_
    rintro e W1 ⟨rfl, hB⟩
    have HB := hide_ hB
    clear hB
    go_wp2
    go_ret
    exact ⟨rfl, HB.out⟩
  by_cases x2 : 200 < m
  · have y1 : ¬ ((200 : Int) < (n : Int)) := by omega
    have y2 : (200 : Int) < (m : Int) := by omega
    clear h1 h2 i1 i2
    go_enter Try.func6, Try.ntmps6
    go_wp2_with fail
    refine (HA _ (Below.refl _ w)).mono ?_
    rintro e W1 ⟨rfl, hB⟩
    have HB := hide_ hB
    clear hB
    go_wp2
    go_ret
    exact ⟨rfl, HB.out⟩
  have y1 : ¬ ((200 : Int) < (n : Int)) := by omega
  have y2 : ¬ ((200 : Int) < (m : Int)) := by omega
  have hn2 : n ≤ 200 := by omega
  have hm2 : m ≤ 200 := by omega
  have hlnB : m - tailP l1 l2 - headP l1 l2 ≤ 2048 := by omega
  have H1 := hide_ h1
  have H2 := hide_ h2
  clear h1 h2 hn hm
  by_cases hb : bothP l1 l2 = 0
  · go_enter Try.func6, Try.ntmps6
    go_wp2_with fail
    refine (prows_calls a1 a2 n m c1 c2 l1 l2 w H1.out H2.out hn2 hm2 i1.1 i2.1 hb).mono ?_
    rintro e W1 ⟨P, v, rfl, hI, ho, b1⟩
    have hlen := runR_length _ _ _ _ (runR_rows P 0 0 (Nat.zero_le _) (Nat.zero_le _) hI)
    have htl1 := tops_len (l := l1)
    have htl2 := tops_len (l := l2)
    obtain ⟨aX, cX, rfl, hRX⟩ := rowsIn_of ho
    have B1 := hide_ b1
    have RX1 := hide_ hRX
    clear b1 hRX ho
    go_wp2_with fail
    refine (rrows_calls a1 a2 n m c1 c2 l1 l2 W1 (H1.out.below B1.out) (H2.out.below B1.out) hn2 hm2 i1.1 i2.1 hb).mono ?_
    rintro e W2 ⟨P2, v2, rfl, hI2, ho2, b2⟩
    obtain rfl : P = P2 := hI.same hI2
    obtain ⟨aY, cY, rfl, hRY⟩ := rowsIn_of ho2
    have B2 := hide_ (B1.out.trans (b2.mono B1.out.size))
    have RX2 := hide_ (RX1.out.below b2)
    have RY2 := hide_ hRY
    clear b2 hRY RX1 B1 ho2 hI hI2
    have hRl : (rowsP (tops l1) (tops l2) P 0 0).length ≤ 400 := by
      try simp only at hlen
      have := H1.out.1
      have := H2.out.1
      omega
    clear hlen htl1 htl2
    generalize rowsP (tops l1) (tops l2) P 0 0 = R at *
    go_wp2_with fail
    refine (ppatch_calls a1 a2 n m c1 c2 l1 l2 W2 (H1.out.below B2.out) (H2.out.below B2.out) hn2 hm2 i2.1 i2.2.2.1 hb).mono ?_
    rintro e W3 ⟨ap, cp, rfl, ht3, b3⟩
    obtain ⟨hd, hhd⟩ : ∃ x, (headP l1 l2 : Int) = x := ⟨_, rfl⟩
    obtain ⟨tl, htl⟩ : ∃ x, ((n - tailP l1 l2 : Nat) : Int) = x := ⟨_, rfl⟩
    obtain ⟨ln, hln⟩ : ∃ x, m - tailP l1 l2 - headP l1 l2 = x := ⟨_, rfl⟩
    obtain ⟨TK, hTK⟩ : ∃ x, (l2.drop (headP l1 l2)).take (m - tailP l1 l2 - headP l1 l2) = x := ⟨_, rfl⟩
    rw [hTK, hln] at ht3
    rw [hln] at hlnB
    rw [hhd, htl, hln]
    have hBa : Below W3.heap.size W3 (W3.alloc (.cells (stepC hd tl ap ln cp) 54)) := (Below.refl _ W3).alloc (Nat.le_refl _) _
    have hM3 : (W3.alloc (.cells (stepC hd tl ap ln cp) 54)).heap[W3.heap.size]? = some (.cells (stepC hd tl ap ln cp) 54 (0, 0)) := World.alloc_heap_new W3 _
    have hB3 := B2.out.trans (b3.mono B2.out.size)
    have hB3a : Below w.heap.size w (W3.alloc (.cells (stepC hd tl ap ln cp) 54)) := hB3.alloc hB3.size _
    have RX3 := hide_ ((RX2.out.below b3).below hBa)
    have RY3 := hide_ ((RY2.out.below b3).below hBa)
    have T3 := hide_ (ht3.below hBa)
    have B3 := hide_ hB3a
    have M3 := hide_ hM3
    have HPT := hide_ (rpatch_calls a1 a2 n m c1 c2 l1 l2 _ (H1.out.below hB3a) (H2.out.below hB3a) hn2 hm2 i2.1 i2.2.2.1 hb)
    rw [hTK, hhd, htl, hln] at HPT
    obtain ⟨V3, hV3⟩ : ∃ V, W3.alloc (.cells (stepC hd tl ap ln cp) 54) = V := ⟨_, rfl⟩
    rw [hV3] at RX3 RY3 T3 B3 M3 HPT
    have HV3 := hide_ hV3
    clear hBa hM3 hB3 hB3a ht3 b3 RX2 RY2 B2 hV3 hTK hhd htl hln
    simp only [stepC] at HV3
    try simp only [stepC]
    go_wp2_with fail
    rw [HV3.out]
    clear HV3
    refine HPT.out.mono ?_
    rintro e W4 ⟨aq, cq, rfl, ht4, b4⟩
    have hM4 := (b4.block _ (Array.getElem?_eq_some_iff.1 M3.out).1).trans M3.out
    have hB4 := B3.out.trans (b4.mono B3.out.size)
    have hBb : Below W4.heap.size W4 (W4.alloc (.cells (stepC hd tl aq ln cq) 54)) := (Below.refl _ W4).alloc (Nat.le_refl _) _
    have B4a := hide_ (hB4.alloc hB4.size (.cells (stepC hd tl aq ln cq) 54))
    have RX4 := hide_ ((RX3.out.below b4).below hBb)
    have RY4 := hide_ ((RY3.out.below b4).below hBb)
    have HTW := hide_ (twin_calls hd tl ap aq ln cp cq TK _ ((T3.out.below b4).below hBb) (ht4.below hBb) hlnB)
    have HM := hide_ ((hBb.block _ (Array.getElem?_eq_some_iff.1 hM4).1).trans hM4)
    clear hM4 hB4 hBb b4 ht4 T3 M3 B3 RX3 RY3 HPT
    simp only [stepC] at HTW HM B4a RX4 RY4
    try simp only [stepC]
    have m0 : (W4.alloc (.cells #[.int .i64 0, .int .i64 hd, .int .i64 tl, .int .i64 0, .int .i64 0, .int .i64 0, .slice aq ln cq, .int .i64 0] 54)).cell? ⟨W3.heap.size, 0, none⟩ = some (.int .i64 0) := by simp only [World.cell?]; rw [HM.out]; rfl
    have m1 : (W4.alloc (.cells #[.int .i64 0, .int .i64 hd, .int .i64 tl, .int .i64 0, .int .i64 0, .int .i64 0, .slice aq ln cq, .int .i64 0] 54)).cell? ⟨W3.heap.size, 1, none⟩ = some (.int .i64 hd) := by simp only [World.cell?]; rw [HM.out]; rfl
    have m2 : (W4.alloc (.cells #[.int .i64 0, .int .i64 hd, .int .i64 tl, .int .i64 0, .int .i64 0, .int .i64 0, .slice aq ln cq, .int .i64 0] 54)).cell? ⟨W3.heap.size, 2, none⟩ = some (.int .i64 tl) := by simp only [World.cell?]; rw [HM.out]; rfl
    have m3 : (W4.alloc (.cells #[.int .i64 0, .int .i64 hd, .int .i64 tl, .int .i64 0, .int .i64 0, .int .i64 0, .slice aq ln cq, .int .i64 0] 54)).cell? ⟨W3.heap.size, 3, none⟩ = some (.int .i64 0) := by simp only [World.cell?]; rw [HM.out]; rfl
    have m4 : (W4.alloc (.cells #[.int .i64 0, .int .i64 hd, .int .i64 tl, .int .i64 0, .int .i64 0, .int .i64 0, .slice aq ln cq, .int .i64 0] 54)).cell? ⟨W3.heap.size, 4, none⟩ = some (.int .i64 0) := by simp only [World.cell?]; rw [HM.out]; rfl
    have m5 : (W4.alloc (.cells #[.int .i64 0, .int .i64 hd, .int .i64 tl, .int .i64 0, .int .i64 0, .int .i64 0, .slice aq ln cq, .int .i64 0] 54)).cell? ⟨W3.heap.size, 5, none⟩ = some (.int .i64 0) := by simp only [World.cell?]; rw [HM.out]; rfl
    have m6 : (W4.alloc (.cells #[.int .i64 0, .int .i64 hd, .int .i64 tl, .int .i64 0, .int .i64 0, .int .i64 0, .slice aq ln cq, .int .i64 0] 54)).cell? ⟨W3.heap.size, 6, none⟩ = some (.slice ap ln cp) := by simp only [World.cell?]; rw [HM.out]; rfl
    have m7 : (W4.alloc (.cells #[.int .i64 0, .int .i64 hd, .int .i64 tl, .int .i64 0, .int .i64 0, .int .i64 0, .slice aq ln cq, .int .i64 0] 54)).cell? ⟨W3.heap.size, 7, none⟩ = some (.int .i64 0) := by simp only [World.cell?]; rw [HM.out]; rfl
    clear HM
    go_wp2_with fail
    refine HTW.out.mono ?_
    rintro e W5 ⟨rfl, b5⟩
    have B5 := hide_ (B4a.out.trans (b5.mono B4a.out.size))
    have RX5 := hide_ (RX4.out.below b5)
    have RY5 := hide_ (RY4.out.below b5)
    clear b5 HTW B4a RX4 RY4
    go_wp2
    go_loopg [13] (R.length + 1) (fun gk u WT => ∃ k : Nat, u = .int .i64 (k : Int) ∧ k ≤ R.length ∧ R.length < k + gk ∧ Hid (Below W5.heap.size W5 WT))
    case atStart => exact ⟨0, rfl, Nat.zero_le _, by omega, Below.refl _ _⟩
    case round =>
      obtain ⟨k, rfl, hk, hgk, HB⟩ := hrel
      have hk0 : (0 : Int) ≤ (k : Int) := by omega
      rcases Nat.lt_or_ge k R.length with hlt | hge
      · have hltI : (k : Int) < (R.length : Int) := by omega
        have hkb : (k : Int) ≤ 400 := by omega
        obtain ⟨r, hr⟩ : ∃ r, R[k]? = some r := ⟨_, List.getElem?_eq_getElem hlt⟩
        obtain ⟨bx, hbx, _, hcx⟩ := RX5.out k r hr
        obtain ⟨by_, hby, _, hcy⟩ := RY5.out k r hr
        cases hbx
        cases hby
        obtain ⟨x0, x1, x2⟩ := hcx wr HB.out
        obtain ⟨z0, z1, z2⟩ := hcy wr HB.out
        obtain ⟨r0, r1, r2⟩ := r
        simp only at x0 x1 x2 z0 z1 z2
        clear hcx hcy hr RX5 RY5
        go_wp2_with fail
        go_quiet (fail)
        obtain ⟨V, hV⟩ : ∃ V, V = wr.drewN nq := ⟨_, rfl⟩
        have HV : Hid (Below W5.heap.size W5 V) := by rw [hV]; exact below_drewN HB.out nq
        rw [← hV]
        clear hV HB x0 x1 x2 z0 z1 z2
        go_wp2
        go_roundg (R.length - k)
        case measure => omega
        case rel => exact ⟨k + 1, by first | rfl | go_num, by omega, by omega, HV⟩
      · obtain rfl : k = R.length := by omega
        go_wp2_with fail
        refine (HA _ (B5.out.trans (HB.out.mono B5.out.size))).mono ?_
        rintro e W6 ⟨rfl, b6⟩
        have B6 := hide_ b6
        clear b6
        go_wp2
        go_ret
        exact ⟨rfl, B6.out⟩
  · have hyb : (bothP l1 l2 != bothP l1 l2) = false := by simp
    go_enter Try.func6, Try.ntmps6
    go_wp2_with fail
    refine (prows_no a1 a2 n m c1 c2 l1 l2 w H1.out H2.out hn2 hm2 hb).mono ?_
    rintro e W1 ⟨rfl, b1⟩
    have hRX : RowsIn W1 none [] := fun k r hk => by simp at hk
    have B1 := hide_ b1
    have RX1 := hide_ hRX
    clear b1 hRX
    go_wp2_with fail
    refine (rrows_no a1 a2 n m c1 c2 l1 l2 W1 (H1.out.below B1.out) (H2.out.below B1.out) hn2 hm2 hb).mono ?_
    rintro e W2 ⟨rfl, b2⟩
    have hRY : RowsIn W2 none [] := fun k r hk => by simp at hk
    have B2 := hide_ (B1.out.trans (b2.mono B1.out.size))
    have RX2 := hide_ (RX1.out.below b2)
    have RY2 := hide_ hRY
    clear b2 hRY RX1 B1
    obtain ⟨R, hR⟩ : ∃ R : List (Int × Int × Int), R = [] := ⟨_, rfl⟩
    rw [← hR] at RX2 RY2
    have hRl : R.length ≤ 400 := by rw [hR]; exact Nat.zero_le _
    have hR0 : R.length = 0 := by rw [hR]; rfl
    clear hR
    go_wp2_with fail
    refine (ppatch_no a1 a2 n m c1 c2 l1 l2 W2 (H1.out.below B2.out) (H2.out.below B2.out) hn2 hm2 hb).mono ?_
    rintro e W3 ⟨rfl, b3⟩
    obtain ⟨ap, hap⟩ : ∃ ap : Option Addr, ap = none := ⟨_, rfl⟩
    have ht3 : Toks W3 none 0 [] := ⟨rfl, .inl rfl⟩
    have hBa : Below W3.heap.size W3 (W3.alloc (.cells (stepC 0 0 none 0 0) 54)) := (Below.refl _ W3).alloc (Nat.le_refl _) _
    have hM3 : (W3.alloc (.cells (stepC 0 0 none 0 0) 54)).heap[W3.heap.size]? = some (.cells (stepC 0 0 none 0 0) 54 (0, 0)) := World.alloc_heap_new W3 _
    have hB3 := B2.out.trans (b3.mono B2.out.size)
    have hB3a : Below w.heap.size w (W3.alloc (.cells (stepC 0 0 none 0 0) 54)) := hB3.alloc hB3.size _
    have RX3 := hide_ ((RX2.out.below b3).below hBa)
    have RY3 := hide_ ((RY2.out.below b3).below hBa)
    have T3 := hide_ (ht3.below hBa)
    have B3 := hide_ hB3a
    have M3 := hide_ hM3
    have HPT := hide_ (rpatch_no a1 a2 n m c1 c2 l1 l2 _ (H1.out.below hB3a) (H2.out.below hB3a) hn2 hm2 hb)
    obtain ⟨V3, hV3⟩ : ∃ V, W3.alloc (.cells (stepC 0 0 none 0 0) 54) = V := ⟨_, rfl⟩
    rw [hV3] at RX3 RY3 T3 B3 M3 HPT
    have HV3 := hide_ hV3
    clear hBa hM3 hB3 hB3a ht3 b3 RX2 RY2 B2 hV3
    simp only [stepC] at HV3
    try simp only [stepC]
    go_wp2_with fail
    rw [HV3.out]
    clear HV3
    refine HPT.out.mono ?_
    rintro e W4 ⟨rfl, b4⟩
    have ht4 : Toks W4 none 0 [] := ⟨rfl, .inl rfl⟩
    have hM4 := (b4.block _ (Array.getElem?_eq_some_iff.1 M3.out).1).trans M3.out
    have hB4 := B3.out.trans (b4.mono B3.out.size)
    have hBb : Below W4.heap.size W4 (W4.alloc (.cells (stepC 0 0 none 0 0) 54)) := (Below.refl _ W4).alloc (Nat.le_refl _) _
    have B4a := hide_ (hB4.alloc hB4.size (.cells (stepC 0 0 none 0 0) 54))
    have RX4 := hide_ ((RX3.out.below b4).below hBb)
    have RY4 := hide_ ((RY3.out.below b4).below hBb)
    have HTW := hide_ (twin_calls 0 0 none none 0 0 0 [] _ ((T3.out.below b4).below hBb) (ht4.below hBb) (by omega))
    have HM := hide_ ((hBb.block _ (Array.getElem?_eq_some_iff.1 hM4).1).trans hM4)
    clear hM4 hB4 hBb b4 ht4 T3 M3 B3 RX3 RY3 HPT
    simp only [stepC] at HTW HM B4a RX4 RY4
    try simp only [stepC]
    have m0 : (W4.alloc (.cells #[.int .i64 0, .int .i64 0, .int .i64 0, .int .i64 0, .int .i64 0, .int .i64 0, .slice none 0 0, .int .i64 0] 54)).cell? ⟨W3.heap.size, 0, none⟩ = some (.int .i64 0) := by simp only [World.cell?]; rw [HM.out]; rfl
    have m1 : (W4.alloc (.cells #[.int .i64 0, .int .i64 0, .int .i64 0, .int .i64 0, .int .i64 0, .int .i64 0, .slice none 0 0, .int .i64 0] 54)).cell? ⟨W3.heap.size, 1, none⟩ = some (.int .i64 0) := by simp only [World.cell?]; rw [HM.out]; rfl
    have m2 : (W4.alloc (.cells #[.int .i64 0, .int .i64 0, .int .i64 0, .int .i64 0, .int .i64 0, .int .i64 0, .slice none 0 0, .int .i64 0] 54)).cell? ⟨W3.heap.size, 2, none⟩ = some (.int .i64 0) := by simp only [World.cell?]; rw [HM.out]; rfl
    have m3 : (W4.alloc (.cells #[.int .i64 0, .int .i64 0, .int .i64 0, .int .i64 0, .int .i64 0, .int .i64 0, .slice none 0 0, .int .i64 0] 54)).cell? ⟨W3.heap.size, 3, none⟩ = some (.int .i64 0) := by simp only [World.cell?]; rw [HM.out]; rfl
    have m4 : (W4.alloc (.cells #[.int .i64 0, .int .i64 0, .int .i64 0, .int .i64 0, .int .i64 0, .int .i64 0, .slice none 0 0, .int .i64 0] 54)).cell? ⟨W3.heap.size, 4, none⟩ = some (.int .i64 0) := by simp only [World.cell?]; rw [HM.out]; rfl
    have m5 : (W4.alloc (.cells #[.int .i64 0, .int .i64 0, .int .i64 0, .int .i64 0, .int .i64 0, .int .i64 0, .slice none 0 0, .int .i64 0] 54)).cell? ⟨W3.heap.size, 5, none⟩ = some (.int .i64 0) := by simp only [World.cell?]; rw [HM.out]; rfl
    have m6 : (W4.alloc (.cells #[.int .i64 0, .int .i64 0, .int .i64 0, .int .i64 0, .int .i64 0, .int .i64 0, .slice none 0 0, .int .i64 0] 54)).cell? ⟨W3.heap.size, 6, none⟩ = some (.slice none 0 0) := by simp only [World.cell?]; rw [HM.out]; rfl
    have m7 : (W4.alloc (.cells #[.int .i64 0, .int .i64 0, .int .i64 0, .int .i64 0, .int .i64 0, .int .i64 0, .slice none 0 0, .int .i64 0] 54)).cell? ⟨W3.heap.size, 7, none⟩ = some (.int .i64 0) := by simp only [World.cell?]; rw [HM.out]; rfl
    clear HM
    go_wp2_with fail
    refine HTW.out.mono ?_
    rintro e W5 ⟨rfl, b5⟩
    have B5 := hide_ (B4a.out.trans (b5.mono B4a.out.size))
    have RX5 := hide_ (RX4.out.below b5)
    have RY5 := hide_ (RY4.out.below b5)
    clear b5 HTW B4a RX4 RY4
    go_wp2
    go_loopg [13] (R.length + 1) (fun gk u WT => ∃ k : Nat, u = .int .i64 (k : Int) ∧ k ≤ R.length ∧ R.length < k + gk ∧ Hid (Below W5.heap.size W5 WT))
    case atStart => exact ⟨0, rfl, Nat.zero_le _, by omega, Below.refl _ _⟩
    case round =>
      obtain ⟨k, rfl, hk, hgk, HB⟩ := hrel
      have hk0 : (0 : Int) ≤ (k : Int) := by omega
      rcases Nat.lt_or_ge k R.length with hlt | hge
      · exfalso
        omega
      · obtain rfl : k = R.length := by omega
        go_wp2_with fail
        refine (HA _ (B5.out.trans (HB.out.mono B5.out.size))).mono ?_
        rintro e W6 ⟨rfl, b6⟩
        have B6 := hide_ b6
        clear b6
        go_wp2
        go_ret
        exact ⟨rfl, B6.out⟩
end Go.Proofs.Ytgpopploimeeaaa
