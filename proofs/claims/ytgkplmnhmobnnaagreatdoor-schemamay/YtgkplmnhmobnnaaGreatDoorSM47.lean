/-
  PROVED HERE: what the texts MayF, AwakeS say (each has its own words below).
-/
import Derived.Test.YtgkplmnhmobnnaaGreatDoorSM45
import Derived.Test.YtgkplmnhmobnnaaGreatDoorSMIns
import Derived.Test.YtgkplmnhmobnnaaGreatDoorSM43
/- MayF: schema's May: what it returns; nothing that lay before is turned. -/
namespace Go.Proofs.YtgkplmnhmobnnaaGreatDoor
open Go.RowKit

/-- A word with one put in at a place. -/
def wordPut (l : List Tok) (p t : Int) : List Int := (wordD l (kids l (around l p))).take ((kids l (around l p)).countP (· < p)) ++ t :: (wordD l (kids l (around l p))).drop ((kids l (around l p)).countP (· < p))
/-- Each TOpen of a document that may be has a type of the schema's. -/
theorem wellD_type {ks : List KindD} {gs : List Grp} {ts : List (DataW Unit)} {l : List Tok} (hk : ∀ (k : Nat), k < l.length → 0 ≤ kindAt l k ∧ kindAt l k ≤ 3) (hw : WellD ks gs ts l) {i : Nat} {x : Tok} (hx : l[i]? = some x) (h1 : x.k = 1) : 1 ≤ x.t ∧ x.t < ks.length := by
  have hi := (List.getElem?_eq_some_iff.1 hx).1
  have hki := kindAt_some hx
  have hm := kids_has l i hi ⟨by omega, hk i hi⟩
  have hf := (wellD_places.1 hw (around l (i : Int)) (around_place l i (by omega))).1 _ hm
  rw [Int.toNat_natCast, hx] at hf
  unfold fitsB at hf
  simp only [Option.getD_some] at hf
  rw [if_neg (by omega)] at hf
  split at hf
  · assumption
  · cases hf
theorem count_le (ps : List Int) (p : Int) : ps.countP (· < p) ≤ ps.length := List.countP_le_length
set_option maxRecDepth 100000 in
set_option maxHeartbeats 1600000 in
theorem smay_calls {B g c ng nc : Nat} {ks : List KindD} {gs : List Grp} {ts : List (DataW Unit)} (w : World) (h : SchAt w B g c ng nc ks gs ts) (h0 : 0 < ks.length) (a : Option Addr) (len cap : Nat) (l : List Tok) (hl : Toks w a len l) (hlie : Lies a len cap) (hsz : len ≤ 4398046511104) (p t : Int) :
    Calls Tryz.prog 15 #[.pointer (some ⟨B, 0, none⟩), .slice a len cap, .int .i64 p, .int .i64 t] w fun e w' => ∃ r : Bool, e = .returned (.bool r) ∧ (r = true ↔ (0 ≤ p ∧ p ≤ (len : Int) ∧ (checkS ks gs ts l).2 = 0 ∧ LangD gs 200 (treeAt ts l (around l p)) (wordPut l p t))) ∧ Below w.heap.size w w' := by
  have hlen : (len : Int) ≤ 4398046511104 := by omega
  have HR : Hid (Below w.heap.size w w) := Below.refl _ _
  have HV := isvalid_calls w h h0 a len cap l hl hlie hsz
  by_cases p0 : p < 0
  · have hd : decide (p < 0) = true := by simpa using p0
    have HN : Hid (¬ (0 ≤ p ∧ p ≤ (len : Int) ∧ (checkS ks gs ts l).2 = 0 ∧ LangD gs 200 (treeAt ts l (around l p)) (wordPut l p t))) := fun h => by omega
    generalize (0 ≤ p ∧ p ≤ (len : Int) ∧ (checkS ks gs ts l).2 = 0 ∧ LangD gs 200 (treeAt ts l (around l p)) (wordPut l p t)) = PP at *
    clear h hl HV
    go_enter Tryz.func15, Tryz.ntmps15
    go_wp2
    go_ret
    first | exact ⟨false, rfl, iff_of_false (by simp) HN.out, HR.out⟩ | exact .inl ⟨rfl, HN.out, HR.out⟩
  have hd0 : decide (p < 0) = false := by simpa using p0
  by_cases p1 : (len : Int) < p
  · have hd : decide ((len : Int) < p) = true := by simpa using p1
    have HN : Hid (¬ (0 ≤ p ∧ p ≤ (len : Int) ∧ (checkS ks gs ts l).2 = 0 ∧ LangD gs 200 (treeAt ts l (around l p)) (wordPut l p t))) := fun h => by omega
    generalize (0 ≤ p ∧ p ≤ (len : Int) ∧ (checkS ks gs ts l).2 = 0 ∧ LangD gs 200 (treeAt ts l (around l p)) (wordPut l p t)) = PP at *
    clear h hl HV
    go_enter Tryz.func15, Tryz.ntmps15
    go_wp2
    go_ret
    first | exact ⟨false, rfl, iff_of_false (by simp) HN.out, HR.out⟩ | exact .inl ⟨rfl, HN.out, HR.out⟩
  have hd1 : decide ((len : Int) < p) = false := by simpa using p1
  by_cases hz : (checkS ks gs ts l).2 = 0
  · obtain ⟨n, rfl⟩ : ∃ n : Nat, p = (n : Int) := ⟨p.toNat, by omega⟩
    rw [hz, show ((0 : Int) == 0) = true from rfl] at HV
    obtain ⟨ok, wl⟩ := checkS_iff.1 hz
    obtain ⟨hl48, hgo⟩ := (check_ok l).1 ok
    have hll := hl.1
    have h48 : len ≤ 2048 := by omega
    have hkr := kinds_rightS hgo
    have hpl := around_place l n (by omega)
    have hty : ∀ i : Nat, around l (n : Int) = (i : Int) → ∃ x, l[i]? = some x ∧ 1 ≤ x.t ∧ x.t < ks.length := fun i hi => by
      rcases hpl with e | ⟨m, e, hm⟩
      · omega
      · obtain rfl : i = m := by omega
        obtain ⟨x, hx⟩ : ∃ x, l[i]? = some x := ⟨_, List.getElem?_eq_getElem (kind_lt hm)⟩
        exact ⟨x, hx, wellD_type hkr wl hx (by rw [← kindAt_some hx]; exact hm)⟩
    obtain ⟨kx, hkx, hka⟩ : ∃ kx, kx < ks.length ∧ treeAt ts l (around l (n : Int)) = ts.getD kx emptyT ∧ ∀ X, Below w.heap.size w X → Calls Tryz.prog 43 #[.pointer (some ⟨B, 0, none⟩), .slice a len cap, .int .i64 (around l (n : Int))] X fun e w' => e = .returned (.pointer (some ⟨g, kx * 10, none⟩)) ∧ Below X.heap.size X w' := by
      rcases hpl with e | ⟨m, e, hm⟩
      · rw [e]
        refine ⟨0, h0, by unfold treeAt; rw [if_pos rfl], fun X hX => ?_⟩
        exact kindat_out X (h.below hX) h0 _
      · obtain ⟨x, hx, x1, x2⟩ := hty m e
        rw [e]
        refine ⟨x.t.toNat, by omega, ?_, fun X hX => kindat_in X (h.below hX) a len cap l (hl.below hX) h48 m x hx (by omega) x2⟩
        unfold treeAt typeAt
        rw [if_neg (by omega), Int.toNat_natCast, hx]
        rfl
    obtain ⟨htr, hka⟩ := hka
    obtain ⟨y, hy⟩ : ∃ y, ks[kx]? = some y := ⟨_, List.getElem?_eq_getElem hkx⟩
    obtain ⟨hex, hnm, hck⟩ := h.trees kx y (ts.getD kx emptyT) hy (getD_at (by have := h.len; omega))
    rw [← htr] at hex hnm hck
    have HFR : Hid (0 ≤ (n : Int) ∧ (n : Int) ≤ (len : Int)) := ⟨by omega, by omega⟩
    obtain ⟨ps, hps⟩ : ∃ ps, kids l (around l (n : Int)) = ps := ⟨_, rfl⟩
    obtain ⟨ah, hah⟩ : ∃ ah, ps.countP (· < (n : Int)) = ah := ⟨_, rfl⟩
    have hahl : ah ≤ ps.length := by rw [← hah]; exact count_le _ _
    have hpr : ps.Pairwise (· < ·) := by rw [← hps]; exact kids_rise _ _
    have hpin : ∀ q ∈ ps, 0 ≤ q ∧ q < (len : Int) := fun q hq => by have := kids_in l _ q (by rw [hps]; exact hq); omega
    have hpn : ps.length ≤ 2048 := by have := kids_few l (around l (n : Int)); rw [hps] at this; omega
    have hwp : wordPut l (n : Int) t = (wordD l ps).take ah ++ t :: (wordD l ps).drop ah := by unfold wordPut; rw [hps, hah]
    have HAR : Hid (∀ X, Below w.heap.size w X → Calls Tryz.prog 36 #[.slice a len cap, .int .i64 (n : Int)] X fun e w' => e = .returned (.int .i64 (around l (n : Int))) ∧ Below X.heap.size X w') := fun X hX => faround_calls a len cap l n X (hl.below hX) (by omega) hlie
    have HKI : Hid (∀ X, Below w.heap.size w X → Calls Tryz.prog 38 #[.slice a len cap, .int .i64 (around l (n : Int))] X fun e w' => ∃ a6 c6, e = .returned (.slice a6 ps.length c6) ∧ Ints w' a6 ps.length ps ∧ Below X.heap.size X w') := fun X hX => by
      have := fkids_calls a len cap l (around l (n : Int)) X (hl.below hX) (by omega)
      rw [hps] at this
      refine this.mono ?_
      rintro e w' ⟨a6, c6, h1, h2, h3⟩
      exact ⟨a6, c6, h1, row_ints h2.1 (by omega), h3⟩
    have HBS : Hid (∀ X a6 c6, Ints X a6 ps.length ps → Calls Tryz.prog 39 #[.slice a6 ps.length c6, .int .i64 (n : Int)] X fun e w' => ∃ r : Bool, e = .returned (.tuple #[.int .i64 (ah : Int), .bool r]) ∧ Below X.heap.size X w') := fun X a6 c6 hI => by
      rcases hI.2.2 with h1 | ⟨b, o, rfl, _⟩
      · have e : ps = [] := List.length_eq_zero_iff.1 h1
        have e2 : ah = 0 := by rw [← hah, e]; rfl
        rw [h1, e2]
        exact search_nil c6 a6 n X
      · rw [← hah]
        exact search_calls b o ps.length c6 ps n X hI (by omega) hpr
    have HWO : Hid (∀ X ka kc, Below w.heap.size w X → Ints X ka ps.length ps → Calls Tryz.prog 41 #[.slice a len cap, .slice ka ps.length kc] X fun e w' => ∃ wa wc, e = .returned (.slice wa ps.length wc) ∧ w'.ownsRow X.heap.size 3 1 (.slice wa ps.length wc) ps.length (intsV (wordD l ps)) ∧ Below X.heap.size X w') := fun X ka kc hX hI => wordof_calls a len cap l ka ps.length kc ps X (hl.below hX) hI h48 (by omega) (by intro q hq; have := hpin q hq; omega)
    have HIN : Hid (∀ (X Y : World) wa wc, Y.ownsRow X.heap.size 3 1 (.slice wa ps.length wc) ps.length (intsV (wordD l ps)) → Below X.heap.size X Y → Calls Tryz.prog 40 #[.slice wa ps.length wc, .int .i64 (ah : Int), .slice (some ⟨Y.heap.size, 0, none⟩) 1 1] (Y.alloc (.cells #[.int .i64 t] 3)) fun e w' => ∃ a' c', e = .returned (.slice a' (ps.length + 1) c') ∧ Ints w' a' (ps.length + 1) ((wordD l ps).take ah ++ t :: (wordD l ps).drop ah) ∧ Below X.heap.size X w') := fun X Y wa wc hO hB => by
      have hBa : Below X.heap.size X (Y.alloc (.cells #[.int .i64 t] 3)) := hB.alloc hB.size _
      refine (insert_calls X.heap.size wa ps.length wc (wordD l ps) ah t Y.heap.size (Y.alloc (.cells #[.int .i64 t] 3)) (World.ownsRow.alloc hO _) hahl (by omega) (World.alloc_heap_new Y _) (fun b hb e => ?_) hBa.size).mono ?_
      · subst hb
        have := (owns_lt hO (g := b.block) rfl).1
        omega
      · rintro e w' ⟨a', c', h1, h2, h3⟩
        exact ⟨a', c', h1, h2, hBa.trans h3⟩
    rw [hwp]
    have HAC0 : Hid (∀ X za zc, Below w.heap.size w X → Ints X za (ps.length + 1) ((wordD l ps).take ah ++ t :: (wordD l ps).drop ah) → Calls Tryz.prog 42 #[.agg #[.int .i64 y.2.1, .string y.2.2.1, .slice y.2.2.2.1 y.2.2.2.2.1 y.2.2.2.2.2], .slice (some ⟨ng, 0, none⟩) gs.length nc, .slice za (ps.length + 1) zc] X fun e w' => ∃ b, e = .returned (.bool b) ∧ (b = true ↔ LangD gs 200 (treeAt ts l (around l (n : Int))) ((wordD l ps).take ah ++ t :: (wordD l ps).drop ah)) ∧ Below X.heap.size X w') := fun X za zc hX hI => by
      refine (accepts_calls 200 (treeAt ts l (around l (n : Int))) _ (some ⟨ng, 0, none⟩) gs.length nc gs za (ps.length + 1) zc _ X (Ex.below hX _ _ _ hex) hnm (h.below hX).names hI).mono ?_
      rintro e w' ⟨b, h1, h2, h3⟩
      exact ⟨b, h1, h2.trans ⟨fun q => q.2, fun q => ⟨hck, q⟩⟩, h3⟩
    have HCE : Hid (∀ X, Below w.heap.size w X → X.cell? ⟨g, kx * 10 + 7, none⟩ = some (.int .i64 y.2.1) ∧ X.cell? ⟨g, kx * 10 + 7 + 1, none⟩ = some (.string y.2.2.1) ∧ X.cell? ⟨g, kx * 10 + 7 + 2, none⟩ = some (.slice y.2.2.2.1 y.2.2.2.2.1 y.2.2.2.2.2) ∧ X.cell? ⟨B, 1, none⟩ = some (.slice (some ⟨ng, 0, none⟩) gs.length nc)) := fun X hX => by
      obtain ⟨_, h2, h3, h4⟩ := (h.below hX).kinds kx y hy
      exact ⟨h2, h3, h4, (h.cells X hX).2⟩
    have HKA0 := Hid.mk_ hka
    have HFIN : Hid (∀ b : Bool, (b = true ↔ LangD gs 200 (treeAt ts l (around l (n : Int))) ((wordD l ps).take ah ++ t :: (wordD l ps).drop ah)) → (b = true ↔ (0 ≤ (n : Int) ∧ (n : Int) ≤ (len : Int) ∧ (checkS ks gs ts l).2 = 0 ∧ LangD gs 200 (treeAt ts l (around l (n : Int))) ((wordD l ps).take ah ++ t :: (wordD l ps).drop ah)))) := fun b hb => hb.trans ⟨fun q => ⟨HFR.out.1, HFR.out.2, hz, q⟩, fun q => q.2.2.2⟩
    generalize treeAt ts l (around l (n : Int)) = T at *
    generalize around l (n : Int) = ar at *
    generalize (wordD l ps).take ah ++ t :: (wordD l ps).drop ah = zs at *
    generalize (checkS ks gs ts l).2 = q at *
    obtain ⟨kl, hkl⟩ : ∃ kl, ps.length = kl := ⟨_, rfl⟩
    rw [hkl] at HKI HBS HWO HIN HAC0 hpn
    obtain ⟨gl, hgl⟩ : ∃ gl, gs.length = gl := ⟨_, rfl⟩
    rw [hgl] at HAC0 HCE
    obtain ⟨sp, tk, tn, ta, tl, tc⟩ := y
    dsimp only at *
    clear h hl hlie hz ok wl hgo hkr hty hex hnm hck hka hps hah hahl hpr hpin hwp hkl hgl htr hy hpl hl48 h48 hll HFR hkx hsz
    go_enter Tryz.func15, Tryz.ntmps15
    go_wp2_with fail
    refine HV.mono ?_
    rintro e X1 ⟨rfl, hB1⟩
    have HA1 := HAR.out X1 hB1
    have HB1 := Hid.mk_ hB1
    clear hB1 HV HAR
    go_wp2_with fail
    refine HA1.mono ?_
    rintro e X2 ⟨rfl, hB2⟩
    have HB2 := Hid.mk_ (HB1.out.trans (hB2.mono HB1.out.size))
    have HK2 := HKI.out X2 HB2.out
    clear hB2 HA1 HKI
    go_wp2_with fail
    refine HK2.mono ?_
    rintro e X3 ⟨a6, c6, rfl, hI3, hB3⟩
    have HB3 := Hid.mk_ (HB2.out.trans (hB3.mono HB2.out.size))
    have HI3 := Hid.mk_ hI3
    have HS3 := HBS.out X3 a6 c6 hI3
    clear hB3 hI3 HK2 HBS
    go_wp2_with fail
    refine HS3.mono ?_
    rintro e X4 ⟨rr, rfl, hB4⟩
    have HB4 := Hid.mk_ (HB3.out.trans (hB4.mono HB3.out.size))
    have HW4 := HWO.out X4 a6 c6 HB4.out (HI3.out.below hB4)
    clear hB4 HS3 HWO
    go_wp2_with fail
    refine HW4.mono ?_
    rintro e X5 ⟨wa, wc, rfl, hO5, hB5⟩
    have HI5 := HIN.out X4 X5 wa wc hO5 hB5
    clear hO5 hB5 HW4 HIN
    go_wp2_with fail
    refine HI5.mono ?_
    rintro e X6 ⟨za, zc, rfl, hI6, hB6⟩
    have HB6 := Hid.mk_ (HB4.out.trans (hB6.mono HB4.out.size))
    have HAC : Hid (∀ X, Below X6.heap.size X6 X → Calls Tryz.prog 42 #[.agg #[.int .i64 tk, .string tn, .slice ta tl tc], .slice (some ⟨ng, 0, none⟩) gl nc, .slice za (kl + 1) zc] X fun e w' => ∃ b, e = .returned (.bool b) ∧ (b = true ↔ LangD gs 200 T zs) ∧ Below X.heap.size X w') := fun X hX => HAC0.out X za zc (HB6.out.trans (hX.mono HB6.out.size)) (hI6.below hX)
    have HTC : Hid (∀ X, Below X6.heap.size X6 X → X.cell? ⟨g, kx * 10 + 7, none⟩ = some (.int .i64 tk) ∧ X.cell? ⟨g, kx * 10 + 7 + 1, none⟩ = some (.string tn) ∧ X.cell? ⟨g, kx * 10 + 7 + 2, none⟩ = some (.slice ta tl tc) ∧ X.cell? ⟨B, 1, none⟩ = some (.slice (some ⟨ng, 0, none⟩) gl nc)) := fun X hX => HCE.out X (HB6.out.trans (hX.mono HB6.out.size))
    have HKA : Hid (∀ X, Below X6.heap.size X6 X → Calls Tryz.prog 43 #[.pointer (some ⟨B, 0, none⟩), .slice a len cap, .int .i64 ar] X fun e w' => e = .returned (.pointer (some ⟨g, kx * 10, none⟩)) ∧ Below X.heap.size X w') := fun X hX => HKA0.out X (HB6.out.trans (hX.mono HB6.out.size))
    clear hI6 hB6 HI5 HAC0 HCE HKA0 HI3 HB1 HB2 HB3 HB4
    go_wp2_with fail
    refine wp_region_held_drew (S := fun X => Below X6.heap.size X6 X) hmx (Below.refl _ _).drew (fun hS => ?_)
    refine takeD 0 (some 47) (v := ?_) rfl rfl (by kernel_rfl) (by kernel_rfl) (by kernel_rfl) (fun _ _ _ h => h) (Or.inl ⟨by rfl, ?_⟩) hS ?_
    rotate_left
    · intro w hSw
      try go_simp
      with_reducible rfl
    try simp only [Act.put, List.setIfInBounds_toArray, List.set_cons_zero, List.set_cons_succ]
    refine takeD 1 (some 48) (v := ?_) rfl rfl (by kernel_rfl) (by kernel_rfl) (by kernel_rfl) (fun _ _ _ h => h) (Or.inl ⟨by rfl, ?_⟩) hS ?_
    rotate_left
    · intro w hSw
      try go_simp
      with_reducible rfl
    try simp only [Act.put, List.setIfInBounds_toArray, List.set_cons_zero, List.set_cons_succ]
    refine takeD 2 (some 49) (v := ?_) rfl rfl (by kernel_rfl) (by kernel_rfl) (by kernel_rfl) (fun _ _ _ h => h) (Or.inl ⟨by rfl, ?_⟩) hS ?_
    rotate_left
    · intro w hSw
      try go_simp
      with_reducible rfl
    try simp only [Act.put, List.setIfInBounds_toArray, List.set_cons_zero, List.set_cons_succ]
    refine takeD 7 (some 54) (v := ?_) rfl rfl (by kernel_rfl) (by kernel_rfl) (by kernel_rfl) (fun _ _ _ h => h) (Or.inl ⟨by rfl, ?_⟩) hS ?_
    rotate_left
    · intro w hSw
      try go_simp
      with_reducible rfl
    try simp only [Act.put, List.setIfInBounds_toArray, List.set_cons_zero, List.set_cons_succ]
    refine takeD 8 (some 55) (v := ?_) rfl rfl (by kernel_rfl) (by kernel_rfl) (by kernel_rfl) (fun _ _ _ h => h) (Or.inl ⟨by rfl, ?_⟩) hS ?_
    rotate_left
    · intro w hSw
      go_simp
      with_reducible rfl
    try simp only [Act.put, List.setIfInBounds_toArray, List.set_cons_zero, List.set_cons_succ]
    refine takeD 9 (some 56) (v := ?_) rfl rfl (by kernel_rfl) (by kernel_rfl) (by kernel_rfl) (fun _ _ _ h => h) (Or.inl ⟨by rfl, ?_⟩) hS ?_
    rotate_left
    · intro w hSw
      go_simp
      with_reducible rfl
    try simp only [Act.put, List.setIfInBounds_toArray, List.set_cons_zero, List.set_cons_succ]
    refine takeD 10 (some 57) (v := ?_) rfl rfl (by kernel_rfl) (by kernel_rfl) (by kernel_rfl) (fun _ _ _ h => h) (Or.inl ⟨by rfl, ?_⟩) hS ?_
    rotate_left
    · intro w hSw
      obtain ⟨q0, q1, q2, q3⟩ := HTC.out _ hSw
      go_simp
      with_reducible rfl
    try simp only [Act.put, List.setIfInBounds_toArray, List.set_cons_zero, List.set_cons_succ]
    refine takeD 11 (some 58) (v := ?_) rfl rfl (by kernel_rfl) (by kernel_rfl) (by kernel_rfl) (fun _ _ _ h => h) (Or.inl ⟨by rfl, ?_⟩) hS ?_
    rotate_left
    · intro w hSw
      try go_simp
      with_reducible rfl
    try simp only [Act.put, List.setIfInBounds_toArray, List.set_cons_zero, List.set_cons_succ]
    refine callD 3 (by kernel_rfl) rfl (fun K hK => ?_)
    rw [if_pos (by rfl)]
    go_simp
    refine (HKA.out _ hS).mono ?_
    rintro e Y1 ⟨rfl, b1⟩
    have hS1 := hS.trans (b1.mono hS.size)
    clear b1
    refine hK.out _ _ hS1 (fun _ => ?_)
    clear hK K
    try simp only [Act.put, List.setIfInBounds_toArray, List.set_cons_zero, List.set_cons_succ]
    refine takeD 4 (some 51) (v := ?_) rfl rfl (by kernel_rfl) (by kernel_rfl) (by kernel_rfl) (fun _ _ _ h => h) (Or.inl ⟨by rfl, ?_⟩) hS1 ?_
    rotate_left
    · intro w hSw
      go_simp
      with_reducible rfl
    try simp only [Act.put, List.setIfInBounds_toArray, List.set_cons_zero, List.set_cons_succ]
    refine takeD 5 (some 52) (v := ?_) rfl rfl (by kernel_rfl) (by kernel_rfl) (by kernel_rfl) (fun _ _ _ h => h) (Or.inl ⟨by rfl, ?_⟩) hS1 ?_
    rotate_left
    · intro w hSw
      go_simp
      with_reducible rfl
    try simp only [Act.put, List.setIfInBounds_toArray, List.set_cons_zero, List.set_cons_succ]
    refine takeD 6 (some 53) (v := ?_) rfl rfl (by kernel_rfl) (by kernel_rfl) (by kernel_rfl) (fun _ _ _ h => h) (Or.inl ⟨by rfl, ?_⟩) hS1 ?_
    rotate_left
    · intro w hSw
      obtain ⟨q0, q1, q2, q3⟩ := HTC.out _ hSw
      go_simp
      with_reducible rfl
    try simp only [Act.put, List.setIfInBounds_toArray, List.set_cons_zero, List.set_cons_succ]
    refine callD 12 (by kernel_rfl) rfl (fun K hK => ?_)
    rw [if_pos (by rfl)]
    go_simp
    refine (HAC.out _ hS1).mono ?_
    rintro e Y2 ⟨b, rfl, hb, b2⟩
    have hS2 := hS1.trans (b2.mono hS1.size)
    clear b2
    refine hK.out _ _ hS2 (fun _ => ?_)
    clear hK K
    try simp only [Act.put, List.setIfInBounds_toArray, List.set_cons_zero, List.set_cons_succ]
    refine takeD 13 (some 8) (v := ?_) rfl rfl (by kernel_rfl) (by kernel_rfl) (by kernel_rfl) (fun _ _ _ h => h) (Or.inl ⟨by rfl, ?_⟩) hS2 ?_
    rotate_left
    · intro w hSw
      try go_simp
      with_reducible rfl
    try simp only [Act.put, List.setIfInBounds_toArray, List.set_cons_zero, List.set_cons_succ]
    refine wpAnyH_done (by kernel_rfl) ?_ _
    have HBB := Hid.mk_ hb
    have HEE := Hid.mk_ (HB6.out.trans (hS2.mono HB6.out.size))
    clear hb
    clear HTC HKA HAC
    go_wp2
    go_ret
    exact ⟨b, rfl, HFIN.out b HBB.out, HEE.out⟩
  · have hqz : ((checkS ks gs ts l).2 == 0) = false := by rw [beq_eq_false_iff_ne]; exact hz
    rw [hqz] at HV
    have HN : Hid (¬ (0 ≤ p ∧ p ≤ (len : Int) ∧ (checkS ks gs ts l).2 = 0 ∧ LangD gs 200 (treeAt ts l (around l p)) (wordPut l p t))) := fun h => hz h.2.2.1
    generalize (0 ≤ p ∧ p ≤ (len : Int) ∧ (checkS ks gs ts l).2 = 0 ∧ LangD gs 200 (treeAt ts l (around l p)) (wordPut l p t)) = PP at *
    clear h hl hz hqz
    go_enter Tryz.func15, Tryz.ntmps15
    go_wp2_with fail
    refine HV.mono ?_
    rintro e X1 ⟨rfl, hB1⟩
    have HB1 := Hid.mk_ hB1
    clear hB1 HV
    go_wp2
    go_ret
    first | exact ⟨false, rfl, iff_of_false (by simp) HN.out, HB1.out⟩ | exact .inl ⟨rfl, HN.out, HB1.out⟩
end Go.Proofs.YtgkplmnhmobnnaaGreatDoor

/- AwakeS: the statements' awake: the house's schema says of the least documents what it should. -/
namespace Go.Proofs.YtgkplmnhmobnnaaGreatDoor
open Go.RowKit

theorem lies_none : Lies none 0 0 := by
  unfold Lies
  simp
theorem toks_nil (w : World) : Toks w none 0 [] := ⟨rfl, .inl rfl⟩
theorem toks_pp (w : World) (b : Nat) (h : w.heap[b]? = some (.cells #[.int .i64 1, .int .i64 1, .int .i64 0, .int .i64 0, .int .i64 2, .int .i64 0, .int .i64 0, .int .i64 0] 51 (0, 0))) : Toks w (some ⟨b, 0, none⟩) 2 [openP, closeT] := by
  have hc := fun j => cell_of_row w b j _ _ _ h
  refine ⟨rfl, .inr ⟨b, 0, rfl, (Array.getElem?_eq_some_iff.1 h).1, fun i x hx => ?_⟩⟩
  match i, hx with
  | 0, hx => cases hx; exact ⟨hc 0, hc 1, hc 2, hc 3⟩
  | 1, hx => cases hx; exact ⟨hc 4, hc 5, hc 6, hc 7⟩
  | n + 2, hx => simp at hx
theorem house_ck {w : World} {B g c ng nc : Nat} {ks : List KindD} (h : SchAt w B g c ng nc ks gsH (treesOf houseW houseL)) (h8 : ks.length = 8) : chk 200 (outTree houseW) gsH = 0 := by
  obtain ⟨x, hx⟩ : ∃ x, ks[0]? = some x := ⟨_, List.getElem?_eq_getElem (by omega)⟩
  exact (h.trees 0 x _ hx rfl).2.2
set_option maxRecDepth 100000 in
set_option maxHeartbeats 600000 in
theorem awakes_calls (w : World) (hE : ETy w) : Calls Tryz.prog 8 #[] w fun e w' => e = .returned (.bool true) ∧ Below w.heap.size w w' := by
  have HH : Hid (∀ X, Below w.heap.size w X → Calls Tryz.prog 9 #[] X fun e w' => ∃ B, e = .returned (.pointer (some ⟨B, 0, none⟩)) ∧ MadeS w' B houseW houseL houseG ∧ Below X.heap.size X w') := fun X hX => house_calls X (hE.below hX)
  have HC1 : Hid (∀ (X : World) (B : Nat), MadeS X B houseW houseL houseG → Calls Tryz.prog 11 #[.pointer (some ⟨B, 0, none⟩), .slice (some ⟨X.heap.size, 0, none⟩) 2 2] (X.alloc (.cells #[.int .i64 1, .int .i64 1, .int .i64 0, .int .i64 0, .int .i64 2, .int .i64 0, .int .i64 0, .int .i64 0] 51)) fun e w' => e = .returned (.tuple #[.int .i64 2, .int .i64 0]) ∧ Below X.heap.size X w') := fun X B hm => by
    have hBX : Below X.heap.size X (X.alloc (.cells #[.int .i64 1, .int .i64 1, .int .i64 0, .int .i64 0, .int .i64 2, .int .i64 0, .int .i64 0, .int .i64 0] 51)) := (Below.refl _ X).alloc (Nat.le_refl _) _
    obtain ⟨g, c, ng, nc, ks, h1, h8, hs⟩ := house_kinds (hm.below hBX)
    refine (scheck_calls _ h1 (by omega) (some ⟨X.heap.size, 0, none⟩) 2 2 [openP, closeT] (toks_pp _ _ (World.alloc_heap_new X _)) (by unfold Lies; simp) (by omega) (fun _ i x hx hk => ?_)).mono ?_
    · match i, hx with
      | 0, hx => cases hx; rw [h8]; decide
      | 1, hx => cases hx; exact absurd hk (by decide)
      | n + 2, hx => simp at hx
    · rintro e w' ⟨rfl, hB⟩
      rw [check_para h8 hs]
      exact ⟨rfl, hBX.trans (hB.mono hBX.size)⟩
  have HC2 : Hid (∀ (X : World) (B : Nat), MadeS X B houseW houseL houseG → Calls Tryz.prog 11 #[.pointer (some ⟨B, 0, none⟩), .slice none 0 0] X fun e w' => e = .returned (.tuple #[.int .i64 0, .int .i64 9]) ∧ Below X.heap.size X w') := fun X B hm => by
    obtain ⟨g, c, ng, nc, ks, h1, h8, hs⟩ := house_kinds hm
    refine (scheck_calls _ h1 (by omega) none 0 0 [] (toks_nil X) lies_none (by omega) (fun _ i x hx hk => by simp at hx)).mono ?_
    rintro e w' ⟨rfl, hB⟩
    rw [check_none (house_ck h1 h8)]
    exact ⟨rfl, hB⟩
  clear hE
  go_enter Tryz.func8, Tryz.ntmps8
  go_wp2_with fail
  refine (HH.out w (Below.refl _ _)).mono ?_
  rintro e X1 ⟨B1, rfl, hm1, hB1⟩
  have HX := HC1.out X1 B1 hm1
  have HB1 := Hid.mk_ hB1
  clear hm1 hB1 HC1
  go_wp2_with fail
  refine HX.mono ?_
  rintro e X2 ⟨rfl, hB2⟩
  have HB2 := Hid.mk_ (HB1.out.trans (hB2.mono HB1.out.size))
  have HH2 := HH.out X2 HB2.out
  clear hB2 HX HB1 HH
  go_wp2_with fail
  refine HH2.mono ?_
  rintro e X3 ⟨B3, rfl, hm3, hB3⟩
  have HX3 := HC2.out X3 B3 hm3
  have HB3 := Hid.mk_ (HB2.out.trans (hB3.mono HB2.out.size))
  clear hm3 hB3 HC2 HH2 HB2
  go_wp2_with fail
  refine HX3.mono ?_
  rintro e X4 ⟨rfl, hB4⟩
  have HB4 := Hid.mk_ (HB3.out.trans (hB4.mono HB3.out.size))
  clear hB4 HX3 HB3
  go_wp2
  go_ret
  exact ⟨rfl, HB4.out⟩
end Go.Proofs.YtgkplmnhmobnnaaGreatDoor
