/-
  PROVED HERE: what the texts DBMayF, DBAwakeS, DBCaretA, DBCaretT, DBCaretB say (each has its own words below).
-/
import Derived.Test.YtbkpehfaofhmaaaGreatDoorCB3
import Derived.Test.YtbkpehfaofhmaaaGreatDoorCB34
import Derived.Test.YtbkpehfaofhmaaaGreatDoorCB12
/- DBMayF: schema's May: what it returns; nothing that lay before is turned. -/
namespace Go.Proofs.YtbkpehfaofhmaaaGreatDoor
open Go.RowKit
def wordPut (l : List Tok) (p t : Int) : List Int := (wordD l (kids l (around l p))).take ((kids l (around l p)).countP (· < p)) ++ t :: (wordD l (kids l (around l p))).drop ((kids l (around l p)).countP (· < p))
theorem wellD_type {ks : List KindD} {gs : List Grp} {ts : List (DataW Unit)} {l : List Tok} (hk : ∀ (k : Nat), k < l.length -> 0 <= kindAt l k /\ kindAt l k <= 3) (hw : WellD ks gs ts l) {i : Nat} {x : Tok} (hx : l[i]? = some x) (h1 : x.k = 1) : 1 <= x.t /\ x.t < ks.length := by
 have hi := (List.getElem?_eq_some_iff.1 hx).1
 have hki := kindAt_some hx
 have hm := kids_has l i hi ⟨by omega, hk i hi⟩
 have hf := (wellD_places.1 hw (around l (i : Int)) (around_place l i (by omega))).1 _ hm
 rw [Int.toNat_natCast, hx] at hf
 unfold fitsB at hf
 simp only [Option.getD_some] at hf
 rw [if_neg (by omega)] at hf
 split at hf
 ·assumption
 ·cases hf
theorem count_le (ps : List Int) (p : Int) : ps.countP (· < p) <= ps.length := List.countP_le_length
set_option maxRecDepth 100000 in
set_option maxHeartbeats 1600000 in
theorem smay_calls {B g c ng nc : Nat} {ks : List KindD} {gs : List Grp} {ts : List (DataW Unit)} (w : World) (h : SchAt w B g c ng nc ks gs ts) (h0 : 0 < ks.length) (a : Option Addr) (len cap : Nat) (l : List Tok) (hl : Toks w a len l) (hlie : Lies a len cap) (hsz : len <= 4398046511104) (p t : Int) :
  Calls Tryz.prog 24 #[.pointer (some ⟨B, 0, none⟩), .slice a len cap, .int .i64 p, .int .i64 t] w fun e w' => ∃ r : Bool, e = .returned (.bool r) /\ (r = true ↔ (0 <= p /\ p <= (len : Int) /\ (checkS ks gs ts l).2 = 0 /\ LangD gs 200 (treeAt ts l (around l p)) (wordPut l p t))) /\ Below w.heap.size w w' := by
 have hlen : (len : Int) <= 4398046511104 := by omega
 have HR : Hid (Below w.heap.size w w) := Below.refl _ _
 have HV := isvalid_calls w h h0 a len cap l hl hlie hsz
 by_cases p0 : p < 0
 ·have hd : decide (p < 0) = true := by simpa using p0
  have HN : Hid (¬ (0 <= p /\ p <= (len : Int) /\ (checkS ks gs ts l).2 = 0 /\ LangD gs 200 (treeAt ts l (around l p)) (wordPut l p t))) := fun h => by omega
  generalize (0 <= p /\ p <= (len : Int) /\ (checkS ks gs ts l).2 = 0 /\ LangD gs 200 (treeAt ts l (around l p)) (wordPut l p t)) = PP at *
  clear h hl HV
  go_enter Tryz.func24, Tryz.ntmps24
  go_wp2
  go_ret
  first | exact ⟨false, rfl, iff_of_false (by simp) HN.out, HR.out⟩ | exact .inl ⟨rfl, HN.out, HR.out⟩
 have hd0 : decide (p < 0) = false := by simpa using p0
 by_cases p1 : (len : Int) < p
 ·have hd : decide ((len : Int) < p) = true := by simpa using p1
  have HN : Hid (¬ (0 <= p /\ p <= (len : Int) /\ (checkS ks gs ts l).2 = 0 /\ LangD gs 200 (treeAt ts l (around l p)) (wordPut l p t))) := fun h => by omega
  generalize (0 <= p /\ p <= (len : Int) /\ (checkS ks gs ts l).2 = 0 /\ LangD gs 200 (treeAt ts l (around l p)) (wordPut l p t)) = PP at *
  clear h hl HV
  go_enter Tryz.func24, Tryz.ntmps24
  go_wp2
  go_ret
  first | exact ⟨false, rfl, iff_of_false (by simp) HN.out, HR.out⟩ | exact .inl ⟨rfl, HN.out, HR.out⟩
 have hd1 : decide ((len : Int) < p) = false := by simpa using p1
 by_cases hz : (checkS ks gs ts l).2 = 0
 ·obtain ⟨n, rfl⟩ : ∃ n : Nat, p = (n : Int) := ⟨p.toNat, by omega⟩
  rw [hz, show ((0 : Int) == 0) = true from rfl] at HV
  obtain ⟨ok, wl⟩ := checkS_iff.1 hz
  obtain ⟨hl48, hgo⟩ := (check_ok l).1 ok
  have hll := hl.1
  have h48 : len <= 2048 := by omega
  have hkr := kinds_rightS hgo
  have hpl := around_place l n (by omega)
  have hty : ∀ i : Nat, around l (n : Int) = (i : Int) -> ∃ x, l[i]? = some x /\ 1 <= x.t /\ x.t < ks.length := fun i hi => by
   rcases hpl with e | ⟨m, e, hm⟩
   ·omega
   ·obtain rfl : i = m := by omega
    obtain ⟨x, hx⟩ : ∃ x, l[i]? = some x := ⟨_, List.getElem?_eq_getElem (kind_lt hm)⟩
    exact ⟨x, hx, wellD_type hkr wl hx (by rw [<- kindAt_some hx]; exact hm)⟩
  obtain ⟨kx, hkx, hka⟩ : ∃ kx, kx < ks.length /\ treeAt ts l (around l (n : Int)) = ts.getD kx emptyT /\ ∀ X, Below w.heap.size w X -> Calls Tryz.prog 51 #[.pointer (some ⟨B, 0, none⟩), .slice a len cap, .int .i64 (around l (n : Int))] X fun e w' => e = .returned (.pointer (some ⟨g, kx * 10, none⟩)) /\ Below X.heap.size X w' := by
   rcases hpl with e | ⟨m, e, hm⟩
   ·rw [e]
    refine ⟨0, h0, by unfold treeAt; rw [if_pos rfl], fun X hX => ?_⟩
    exact kindat_out X (h.below hX) h0 _
   ·obtain ⟨x, hx, x1, x2⟩ := hty m e
    rw [e]
    refine ⟨x.t.toNat, by omega, ?_, fun X hX => kindat_in X (h.below hX) a len cap l (hl.below hX) h48 m x hx (by omega) x2⟩
    unfold treeAt typeAt
    rw [if_neg (by omega), Int.toNat_natCast, hx]
    rfl
  obtain ⟨htr, hka⟩ := hka
  obtain ⟨y, hy⟩ : ∃ y, ks[kx]? = some y := ⟨_, List.getElem?_eq_getElem hkx⟩
  obtain ⟨hex, hnm, hck⟩ := h.trees kx y (ts.getD kx emptyT) hy (getD_at (by have := h.len; omega))
  rw [<- htr] at hex hnm hck
  have HFR : Hid (0 <= (n : Int) /\ (n : Int) <= (len : Int)) := ⟨by omega, by omega⟩
  obtain ⟨ps, hps⟩ : ∃ ps, kids l (around l (n : Int)) = ps := ⟨_, rfl⟩
  obtain ⟨ah, hah⟩ : ∃ ah, ps.countP (· < (n : Int)) = ah := ⟨_, rfl⟩
  have hahl : ah <= ps.length := by rw [<- hah]; exact count_le _ _
  have hpr : ps.Pairwise (· < ·) := by rw [<- hps]; exact kids_rise _ _
  have hpin : ∀ q ∈ ps, 0 <= q /\ q < (len : Int) := fun q hq => by have := kids_in l _ q (by rw [hps]; exact hq); omega
  have hpn : ps.length <= 2048 := by have := kids_few l (around l (n : Int)); rw [hps] at this; omega
  have hwp : wordPut l (n : Int) t = (wordD l ps).take ah ++ t :: (wordD l ps).drop ah := by unfold wordPut; rw [hps, hah]
  have HAR : Hid (∀ X, Below w.heap.size w X -> Calls Tryz.prog 45 #[.slice a len cap, .int .i64 (n : Int)] X fun e w' => e = .returned (.int .i64 (around l (n : Int))) /\ Below X.heap.size X w') := fun X hX => faround_calls a len cap l n X (hl.below hX) (by omega) hlie
  have HKI : Hid (∀ X, Below w.heap.size w X -> Calls Tryz.prog 46 #[.slice a len cap, .int .i64 (around l (n : Int))] X fun e w' => ∃ a6 c6, e = .returned (.slice a6 ps.length c6) /\ Ints w' a6 ps.length ps /\ Below X.heap.size X w') := fun X hX => by
   have := fkids_calls a len cap l (around l (n : Int)) X (hl.below hX) (by omega)
   rw [hps] at this
   refine this.mono ?_
   rintro e w' ⟨a6, c6, h1, h2, h3⟩
   exact ⟨a6, c6, h1, row_ints h2.1 (by omega), h3⟩
  have HBS : Hid (∀ X a6 c6, Ints X a6 ps.length ps -> Calls Tryz.prog 47 #[.slice a6 ps.length c6, .int .i64 (n : Int)] X fun e w' => ∃ r : Bool, e = .returned (.tuple #[.int .i64 (ah : Int), .bool r]) /\ Below X.heap.size X w') := fun X a6 c6 hI => by
   rcases hI.2.2 with h1 | ⟨b, o, rfl, _⟩
   ·have e : ps = [] := List.length_eq_zero_iff.1 h1
    have e2 : ah = 0 := by rw [<- hah, e]; rfl
    rw [h1, e2]
    exact search_nil c6 a6 n X
   ·rw [<- hah]
    exact search_calls b o ps.length c6 ps n X hI (by omega) hpr
  have HWO : Hid (∀ X ka kc, Below w.heap.size w X -> Ints X ka ps.length ps -> Calls Tryz.prog 49 #[.slice a len cap, .slice ka ps.length kc] X fun e w' => ∃ wa wc, e = .returned (.slice wa ps.length wc) /\ w'.ownsRow X.heap.size 3 1 (.slice wa ps.length wc) ps.length (intsV (wordD l ps)) /\ Below X.heap.size X w') := fun X ka kc hX hI => wordof_calls a len cap l ka ps.length kc ps X (hl.below hX) hI h48 (by omega) (by intro q hq; have := hpin q hq; omega)
  have HIN : Hid (∀ (X Y : World) wa wc, Y.ownsRow X.heap.size 3 1 (.slice wa ps.length wc) ps.length (intsV (wordD l ps)) -> Below X.heap.size X Y -> Calls Tryz.prog 48 #[.slice wa ps.length wc, .int .i64 (ah : Int), .slice (some ⟨Y.heap.size, 0, none⟩) 1 1] (Y.alloc (.cells #[.int .i64 t] 3)) fun e w' => ∃ a' c', e = .returned (.slice a' (ps.length + 1) c') /\ Ints w' a' (ps.length + 1) ((wordD l ps).take ah ++ t :: (wordD l ps).drop ah) /\ Below X.heap.size X w') := fun X Y wa wc hO hB => by
   have hBa : Below X.heap.size X (Y.alloc (.cells #[.int .i64 t] 3)) := hB.alloc hB.size _
   refine (insert_calls X.heap.size wa ps.length wc (wordD l ps) ah t Y.heap.size (Y.alloc (.cells #[.int .i64 t] 3)) (World.ownsRow.alloc hO _) hahl (by omega) (World.alloc_heap_new Y _) (fun b hb e => ?_) hBa.size).mono ?_
   ·subst hb
    have := (owns_lt hO (g := b.block) rfl).1
    omega
   ·rintro e w' ⟨a', c', h1, h2, h3⟩
    exact ⟨a', c', h1, h2, hBa.trans h3⟩
  rw [hwp]
  have HAC0 : Hid (∀ X za zc, Below w.heap.size w X -> Ints X za (ps.length + 1) ((wordD l ps).take ah ++ t :: (wordD l ps).drop ah) -> Calls Tryz.prog 50 #[.agg #[.int .i64 y.2.1, .string y.2.2.1, .slice y.2.2.2.1 y.2.2.2.2.1 y.2.2.2.2.2], .slice (some ⟨ng, 0, none⟩) gs.length nc, .slice za (ps.length + 1) zc] X fun e w' => ∃ b, e = .returned (.bool b) /\ (b = true ↔ LangD gs 200 (treeAt ts l (around l (n : Int))) ((wordD l ps).take ah ++ t :: (wordD l ps).drop ah)) /\ Below X.heap.size X w') := fun X za zc hX hI => by
   refine (accepts_calls 200 (treeAt ts l (around l (n : Int))) _ (some ⟨ng, 0, none⟩) gs.length nc gs za (ps.length + 1) zc _ X (Ex.below hX _ _ _ hex) hnm (h.below hX).names hI).mono ?_
   rintro e w' ⟨b, h1, h2, h3⟩
   exact ⟨b, h1, h2.trans ⟨fun q => q.2, fun q => ⟨hck, q⟩⟩, h3⟩
  have HCE : Hid (∀ X, Below w.heap.size w X -> X.cell? ⟨g, kx * 10 + 7, none⟩ = some (.int .i64 y.2.1) /\ X.cell? ⟨g, kx * 10 + 7 + 1, none⟩ = some (.string y.2.2.1) /\ X.cell? ⟨g, kx * 10 + 7 + 2, none⟩ = some (.slice y.2.2.2.1 y.2.2.2.2.1 y.2.2.2.2.2) /\ X.cell? ⟨B, 1, none⟩ = some (.slice (some ⟨ng, 0, none⟩) gs.length nc)) := fun X hX => by
   obtain ⟨_, h2, h3, h4⟩ := (h.below hX).kinds kx y hy
   exact ⟨h2, h3, h4, (h.cells X hX).2⟩
  have HKA0 := Hid.mk_ hka
  have HFIN : Hid (∀ b : Bool, (b = true ↔ LangD gs 200 (treeAt ts l (around l (n : Int))) ((wordD l ps).take ah ++ t :: (wordD l ps).drop ah)) -> (b = true ↔ (0 <= (n : Int) /\ (n : Int) <= (len : Int) /\ (checkS ks gs ts l).2 = 0 /\ LangD gs 200 (treeAt ts l (around l (n : Int))) ((wordD l ps).take ah ++ t :: (wordD l ps).drop ah)))) := fun b hb => hb.trans ⟨fun q => ⟨HFR.out.1, HFR.out.2, hz, q⟩, fun q => q.2.2.2⟩
  generalize treeAt ts l (around l (n : Int)) = T at *
  generalize around l (n : Int) = ar at *
  generalize (wordD l ps).take ah ++ t :: (wordD l ps).drop ah = zs at *
  generalize (checkS ks gs ts l).2 = q at *
  obtain ⟨kl, hkl⟩ : ∃ kl, ps.length = kl := ⟨_, rfl⟩
  rw [hkl] at HKI HBS HWO HIN HAC0 hpn
  obtain ⟨gl, hgl⟩ : ∃ gl, gs.length = gl := ⟨_, rfl⟩
  rw [hgl] at HAC0 HCE
  obtain ⟨sp, tk, tn, ta, tl, tc⟩ := y
  dsimp only at *
  clear h hl hlie hz ok wl hgo hkr hty hex hnm hck hka hps hah hahl hpr hpin hwp hkl hgl htr hy hpl hl48 h48 hll HFR hkx hsz
  go_enter Tryz.func24, Tryz.ntmps24
  go_wp2_with fail
  refine HV.mono ?_
  rintro e X1 ⟨rfl, hB1⟩
  have HA1 := HAR.out X1 hB1
  have HB1 := Hid.mk_ hB1
  clear hB1 HV HAR
  go_wp2_with fail
  refine HA1.mono ?_
  rintro e X2 ⟨rfl, hB2⟩
  have HB2 := Hid.mk_ (HB1.out.trans (hB2.mono HB1.out.size))
  have HK2 := HKI.out X2 HB2.out
  clear hB2 HA1 HKI
  go_wp2_with fail
  refine HK2.mono ?_
  rintro e X3 ⟨a6, c6, rfl, hI3, hB3⟩
  have HB3 := Hid.mk_ (HB2.out.trans (hB3.mono HB2.out.size))
  have HI3 := Hid.mk_ hI3
  have HS3 := HBS.out X3 a6 c6 hI3
  clear hB3 hI3 HK2 HBS
  go_wp2_with fail
  refine HS3.mono ?_
  rintro e X4 ⟨rr, rfl, hB4⟩
  have HB4 := Hid.mk_ (HB3.out.trans (hB4.mono HB3.out.size))
  have HW4 := HWO.out X4 a6 c6 HB4.out (HI3.out.below hB4)
  clear hB4 HS3 HWO
  go_wp2_with fail
  refine HW4.mono ?_
  rintro e X5 ⟨wa, wc, rfl, hO5, hB5⟩
  have HI5 := HIN.out X4 X5 wa wc hO5 hB5
  clear hO5 hB5 HW4 HIN
  go_wp2_with fail
  refine HI5.mono ?_
  rintro e X6 ⟨za, zc, rfl, hI6, hB6⟩
  have HB6 := Hid.mk_ (HB4.out.trans (hB6.mono HB4.out.size))
  have HAC : Hid (∀ X, Below X6.heap.size X6 X -> Calls Tryz.prog 50 #[.agg #[.int .i64 tk, .string tn, .slice ta tl tc], .slice (some ⟨ng, 0, none⟩) gl nc, .slice za (kl + 1) zc] X fun e w' => ∃ b, e = .returned (.bool b) /\ (b = true ↔ LangD gs 200 T zs) /\ Below X.heap.size X w') := fun X hX => HAC0.out X za zc (HB6.out.trans (hX.mono HB6.out.size)) (hI6.below hX)
  have HTC : Hid (∀ X, Below X6.heap.size X6 X -> X.cell? ⟨g, kx * 10 + 7, none⟩ = some (.int .i64 tk) /\ X.cell? ⟨g, kx * 10 + 7 + 1, none⟩ = some (.string tn) /\ X.cell? ⟨g, kx * 10 + 7 + 2, none⟩ = some (.slice ta tl tc) /\ X.cell? ⟨B, 1, none⟩ = some (.slice (some ⟨ng, 0, none⟩) gl nc)) := fun X hX => HCE.out X (HB6.out.trans (hX.mono HB6.out.size))
  have HKA : Hid (∀ X, Below X6.heap.size X6 X -> Calls Tryz.prog 51 #[.pointer (some ⟨B, 0, none⟩), .slice a len cap, .int .i64 ar] X fun e w' => e = .returned (.pointer (some ⟨g, kx * 10, none⟩)) /\ Below X.heap.size X w') := fun X hX => HKA0.out X (HB6.out.trans (hX.mono HB6.out.size))
  clear hI6 hB6 HI5 HAC0 HCE HKA0 HI3 HB1 HB2 HB3 HB4
  go_wp2_with fail
  refine wp_region_held_drew (S := fun X => Below X6.heap.size X6 X) hmx (Below.refl _ _).drew (fun hS => ?_)
  refine takeF 0 (some 47) (v := ?_) hS ?_ ?_
  rotate_left
  ·intro w hSw
   try go_simp
   with_reducible rfl
  try simp only [lay4]
  refine takeF 1 (some 48) (v := ?_) hS ?_ ?_
  rotate_left
  ·intro w hSw
   try go_simp
   with_reducible rfl
  try simp only [lay4]
  refine takeF 2 (some 49) (v := ?_) hS ?_ ?_
  rotate_left
  ·intro w hSw
   try go_simp
   with_reducible rfl
  try simp only [lay4]
  refine takeF 7 (some 54) (v := ?_) hS ?_ ?_
  rotate_left
  ·intro w hSw
   try go_simp
   with_reducible rfl
  try simp only [lay4]
  refine takeF 8 (some 55) (v := ?_) hS ?_ ?_
  rotate_left
  ·intro w hSw
   go_simp
   with_reducible rfl
  try simp only [lay4]
  refine takeF 9 (some 56) (v := ?_) hS ?_ ?_
  rotate_left
  ·intro w hSw
   go_simp
   with_reducible rfl
  try simp only [lay4]
  refine takeF 10 (some 57) (v := ?_) hS ?_ ?_
  rotate_left
  ·intro w hSw
   obtain ⟨q0, q1, q2, q3⟩ := HTC.out _ hSw
   go_simp
   with_reducible rfl
  try simp only [lay4]
  refine takeF 11 (some 58) (v := ?_) hS ?_ ?_
  rotate_left
  ·intro w hSw
   try go_simp
   with_reducible rfl
  try simp only [lay4]
  refine callD 3 (by kernel_rfl) rfl (fun K hK => ?_)
  rw [if_pos (by rfl)]
  go_simp
  refine (HKA.out _ hS).mono ?_
  rintro e Y1 ⟨rfl, b1⟩
  have hS1 := hS.trans (b1.mono hS.size)
  clear b1
  refine hK.out _ _ hS1 (fun _ => ?_)
  clear hK K
  try simp only [lay4]
  refine takeF 4 (some 51) (v := ?_) hS1 ?_ ?_
  rotate_left
  ·intro w hSw
   go_simp
   with_reducible rfl
  try simp only [lay4]
  refine takeF 5 (some 52) (v := ?_) hS1 ?_ ?_
  rotate_left
  ·intro w hSw
   go_simp
   with_reducible rfl
  try simp only [lay4]
  refine takeF 6 (some 53) (v := ?_) hS1 ?_ ?_
  rotate_left
  ·intro w hSw
   obtain ⟨q0, q1, q2, q3⟩ := HTC.out _ hSw
   go_simp
   with_reducible rfl
  try simp only [lay4]
  refine callD 12 (by kernel_rfl) rfl (fun K hK => ?_)
  rw [if_pos (by rfl)]
  go_simp
  refine (HAC.out _ hS1).mono ?_
  rintro e Y2 ⟨b, rfl, hb, b2⟩
  have hS2 := hS1.trans (b2.mono hS1.size)
  clear b2
  refine hK.out _ _ hS2 (fun _ => ?_)
  clear hK K
  try simp only [lay4]
  refine takeF 13 (some 8) (v := ?_) hS2 ?_ ?_
  rotate_left
  ·intro w hSw
   try go_simp
   with_reducible rfl
  try simp only [lay4]
  refine wpAnyH_done (by kernel_rfl) ?_ _
  have HBB := Hid.mk_ hb
  have HEE := Hid.mk_ (HB6.out.trans (hS2.mono HB6.out.size))
  clear hb
  clear HTC HKA HAC
  go_wp2
  go_ret
  exact ⟨b, rfl, HFIN.out b HBB.out, HEE.out⟩
 ·have hqz : ((checkS ks gs ts l).2 == 0) = false := by rw [beq_eq_false_iff_ne]; exact hz
  rw [hqz] at HV
  have HN : Hid (¬ (0 <= p /\ p <= (len : Int) /\ (checkS ks gs ts l).2 = 0 /\ LangD gs 200 (treeAt ts l (around l p)) (wordPut l p t))) := fun h => hz h.2.2.1
  generalize (0 <= p /\ p <= (len : Int) /\ (checkS ks gs ts l).2 = 0 /\ LangD gs 200 (treeAt ts l (around l p)) (wordPut l p t)) = PP at *
  clear h hl hz hqz
  go_enter Tryz.func24, Tryz.ntmps24
  go_wp2_with fail
  refine HV.mono ?_
  rintro e X1 ⟨rfl, hB1⟩
  have HB1 := Hid.mk_ hB1
  clear hB1 HV
  go_wp2
  go_ret
  first | exact ⟨false, rfl, iff_of_false (by simp) HN.out, HB1.out⟩ | exact .inl ⟨rfl, HN.out, HB1.out⟩
end Go.Proofs.YtbkpehfaofhmaaaGreatDoor

/- DBAwakeS: the statements' awake: the house's schema says of the least documents what it should. -/
namespace Go.Proofs.YtbkpehfaofhmaaaGreatDoor
open Go.RowKit
theorem toks_pp (w : World) (b : Nat) (h : w.heap[b]? = some (.cells #[.int .i64 1, .int .i64 1, .int .i64 0, .int .i64 0, .int .i64 2, .int .i64 0, .int .i64 0, .int .i64 0] 48 (0, 0))) : Toks w (some ⟨b, 0, none⟩) 2 [openP, closeT] := by
 have hc := fun j => cell_of_row w b j _ _ _ h
 refine ⟨rfl, .inr ⟨b, 0, rfl, (Array.getElem?_eq_some_iff.1 h).1, fun i x hx => ?_⟩⟩
 match i, hx with
 | 0, hx => cases hx; exact ⟨hc 0, hc 1, hc 2, hc 3⟩
 | 1, hx => cases hx; exact ⟨hc 4, hc 5, hc 6, hc 7⟩
 | n + 2, hx => simp at hx
end Go.Proofs.YtbkpehfaofhmaaaGreatDoor

/- DBCaretA: the law's own awake, and how a schema of the house's and a document serve caret's calls. -/
namespace Go.Proofs.YtbkpehfaofhmaaaGreatDoor
open Go.RowKit
open Classical in
noncomputable def standB (ks : List KindD) (gs : List Grp) (ts : List (DataW Unit)) (l : List Tok) (p : Int) : Bool := decide (0 <= p /\ p <= (l.length : Int) /\ (checkS ks gs ts l).2 = 0 /\ LangD gs 200 (treeAt ts l (around l p)) (wordPut l p 0))
open Classical in
theorem standB_iff {ks : List KindD} {gs : List Grp} {ts : List (DataW Unit)} {l : List Tok} {p : Int} : standB ks gs ts l p = true ↔ (0 <= p /\ p <= (l.length : Int) /\ (checkS ks gs ts l).2 = 0 /\ LangD gs 200 (treeAt ts l (around l p)) (wordPut l p 0)) := by
 unfold standB
 exact decide_eq_true_iff
theorem mayH_of {B g c ng nc : Nat} {ks : List KindD} {gs : List Grp} {ts : List (DataW Unit)} {w : World} (h : SchAt w B g c ng nc ks gs ts) (h0 : 0 < ks.length) {a : Option Addr} {len cap : Nat} {l : List Tok} (hl : Toks w a len l) (hlie : Lies a len cap) (hsz : len <= 4398046511104) :
  CheckH w B a len cap (checkS ks gs ts l).1 (checkS ks gs ts l).2 /\ MayH w B a len cap (standB ks gs ts l) := by
 refine ⟨fun X hX => scheck_any X (h.below hX) h0 a len cap l (hl.below hX) hlie hsz, fun X hX p => ?_⟩
 refine (smay_calls X (h.below hX) h0 a len cap l (hl.below hX) hlie hsz p 0).mono ?_
 rintro e X' ⟨r, rfl, hr, hB⟩
 refine ⟨?_, hB⟩
 have : r = standB ks gs ts l p := by
  rw [Bool.eq_iff_iff, hr, standB_iff, hl.1]
 rw [this]
theorem checkS_len {ks : List KindD} {gs : List Grp} {ts : List (DataW Unit)} {l : List Tok} (h : (checkS ks gs ts l).2 = 0) : l.length <= 2048 := ((check_ok l).1 (checkS_iff.1 h).1).1
theorem text_para {ks : List KindD} (h8 : ks.length = 8) (hs : ∀ i, specOf ks i = ((zeroS :: houseL)[i]?).getD zeroS) : standB ks gsH (treesOf houseW houseL) [openP, closeT] 0 = false /\ standB ks gsH (treesOf houseW houseL) [openP, closeT] 1 = true := by
 have hc := check_para h8 hs
 constructor
 ·rw [Bool.eq_false_iff]
  intro h
  obtain ⟨_, _, _, h4⟩ := standB_iff.1 h
  have e : around [openP, closeT] 0 = -1 := by decide
  rw [e] at h4
  unfold treeAt at h4
  rw [if_pos rfl] at h4
  have := ((words_block _).1 h4).2 0 (by unfold wordPut; exact List.mem_append_right _ (List.mem_cons_self ..))
  revert this; decide
 ·refine standB_iff.2 ⟨by omega, by decide, by rw [hc], ?_⟩
  have e : around [openP, closeT] 1 = 0 := by decide
  have e2 : kids [openP, closeT] 0 = [] := by decide
  unfold wordPut treeAt
  rw [e, if_neg (by omega), e2]
  refine (words_text _).2 ?_
  intro a ha
  simp [wordD] at ha
  subst ha
  decide
set_option maxRecDepth 100000 in
set_option maxHeartbeats 1000000 in
theorem awakec_calls (w : World) (hE : ETy w) : Calls Tryz.prog 8 #[] w fun e w' => e = .returned (.bool true) /\ Below w.heap.size w w' := by
 have HH := hidC (house_calls w hE)
 have HN : Hid (∀ (X : World) (B : Nat), MadeS X B houseW houseL houseG -> Calls Tryz.prog 13 #[.pointer (some ⟨B, 0, none⟩), .slice (some ⟨X.heap.size, 0, none⟩) 2 2, .int .i64 0, .int .i64 1] (X.alloc (.cells #[.int .i64 1, .int .i64 1, .int .i64 0, .int .i64 0, .int .i64 2, .int .i64 0, .int .i64 0, .int .i64 0] 48)) fun e w' => e = .returned (.tuple #[.int .i64 1, .int .i64 0]) /\ Below X.heap.size X w') := fun X B hm => by
  have hBX : Below X.heap.size X (X.alloc (.cells #[.int .i64 1, .int .i64 1, .int .i64 0, .int .i64 0, .int .i64 2, .int .i64 0, .int .i64 0, .int .i64 0] 48)) := (Below.refl _ X).alloc (Nat.le_refl _) _
  obtain ⟨g, c, ng, nc, ks, h1, h8, hs⟩ := house_kinds (hm.below hBX)
  obtain ⟨c1, c2⟩ := mayH_of h1 (by omega) (toks_pp _ _ (World.alloc_heap_new X _)) (show Lies (some ⟨X.heap.size, 0, none⟩) 2 2 by unfold Lies; simp) (by omega)
  have hc := check_para h8 hs
  obtain ⟨t0, t1⟩ := text_para h8 hs
  refine (near_calls c1 c2 (by omega) (fun _ => by omega) 0 1).mono ?_
  rintro e w' ⟨rfl, hB⟩
  have hr : nearR (standB ks gsH (treesOf houseW houseL) [openP, closeT]) (checkS ks gsH (treesOf houseW houseL) [openP, closeT]).2 2 0 1 = (1, 0) := by
   rw [hc]
   have e1 : chkE 0 2 0 = 0 := by decide
   have e2 : outK 2 0 (wayD 1) 2 = [0, 1, 2] := by decide
   unfold nearR nearD
   simp only
   rw [if_pos e1, e2, List.find?_cons_of_neg (by rw [t0]; decide), List.find?_cons_of_pos t1]
  rw [hr]
  exact ⟨rfl, hBX.trans (hB.mono hBX.size)⟩
 clear hE
 go_enter Tryz.func8, Tryz.ntmps8
 go_wp2_with fail
 refine HH.out.mono ?_
 rintro e X1 ⟨B1, rfl, hm1, hB1⟩
 have HX := hidC (HN.out X1 B1 hm1)
 have HB1 := hidC hB1
 clear hm1 hB1 HN
 go_wp2_with fail
 refine HX.out.mono ?_
 rintro e X2 ⟨rfl, hB2⟩
 have HB2 := hidC (HB1.out.trans (hB2.mono HB1.out.size))
 clear hB2 HX HB1 HH
 go_wp2
 go_ret
 exact ⟨rfl, HB2.out⟩
end Go.Proofs.YtbkpehfaofhmaaaGreatDoor

/- DBCaretT: on either side of a TRune text may stand, or on neither. -/
namespace Go.Proofs.YtbkpehfaofhmaaaGreatDoor
open Go.RowKit
theorem put_same {W : List Int} {c : Nat} {t : Int} (h : W[c]? = some t) : W.take (c + 1) ++ t :: W.drop (c + 1) = W.take c ++ t :: W.drop c := by
 obtain ⟨hc, e⟩ := List.getElem?_eq_some_iff.1 h
 rw [List.drop_eq_getElem_cons hc, e, List.take_succ_eq_append_getElem hc, e, List.append_assoc, List.singleton_append]
theorem count_at {ps : List Int} {n : Int} (h : ps.Pairwise (· < ·)) (hm : n ∈ ps) : ps[ps.countP (· < n)]? = some n /\ ps.countP (· < n + 1) = ps.countP (· < n) + 1 := by
 induction ps with
 | nil => cases hm
 | cons x r ih =>
  obtain ⟨h1, h2⟩ := List.pairwise_cons.1 h
  by_cases hx : x = n
  ·subst hx
   have e0 : ∀ m : Int, m <= x + 1 -> r.countP (· < m) = 0 := fun m hm' => by
    rw [List.countP_eq_zero]
    intro p hp
    have := h1 p hp
    simp; omega
   rw [List.countP_cons_of_neg (by simp), List.countP_cons_of_pos (by simp; omega), e0 x (by omega), e0 (x + 1) (by omega)]
   exact ⟨rfl, rfl⟩
  ·have hr : n ∈ r := by
    rcases List.mem_cons.1 hm with e | e
    ·exact absurd e.symm hx
    ·exact e
   have hlt := h1 n hr
   obtain ⟨i1, i2⟩ := ih h2 hr
   rw [List.countP_cons_of_pos (by simpa using hlt), List.countP_cons_of_pos (by simp; omega), i2]
   exact ⟨by rw [List.getElem?_cons_succ]; exact i1, rfl⟩
theorem stand_same {ks : List KindD} {gs : List Grp} {ts : List (DataW Unit)} {l : List Tok} (h : (checkS ks gs ts l).2 = 0) {n : Nat} {x : Tok} (hx : l[n]? = some x) (h0 : x.k = 0) : standB ks gs ts l ((n : Int) + 1) = standB ks gs ts l (n : Int) := by
 obtain ⟨ok, wl⟩ := checkS_iff.1 h
 obtain ⟨h48, hg⟩ := (check_ok l).1 ok
 have hn := (List.getElem?_eq_some_iff.1 hx).1
 have hki : kindAt l n = 0 := (kindAt_some hx).trans h0
 have hr := goes_right l 0 0 hg x (List.mem_of_getElem? hx)
 have ht : x.t = 0 := by
  unfold rightT at hr
  rw [if_pos h0] at hr
  simp only [Bool.and_eq_true, beq_iff_eq] at hr
  exact hr.1.1
 have ha : around l ((n : Int) + 1) = around l (n : Int) := by
  unfold around
  have := opened_succ l n x hx
  rw [show ((n + 1 : Nat) : Int) = (n : Int) + 1 from by omega] at this
  rw [this]
  unfold turn
  rw [if_neg (by omega), if_neg (by omega)]
 have hm := kids_has l n hn ⟨by omega, by omega, by omega⟩
 obtain ⟨c1, c2⟩ := count_at (kids_rise l (around l (n : Int))) hm
 have hw : wordPut l ((n : Int) + 1) 0 = wordPut l (n : Int) 0 := by
  unfold wordPut
  rw [ha, c2]
  refine put_same ?_
  unfold wordD
  rw [List.getElem?_map, c1, Option.map_some]
  unfold typeAt
  rw [Int.toNat_natCast, hx, Option.map_some, Option.getD_some, ht]
 rw [Bool.eq_iff_iff, standB_iff, standB_iff, ha, hw]
 exact ⟨fun q => ⟨by omega, by omega, q.2.2⟩, fun q => ⟨by omega, by omega, q.2.2⟩⟩
end Go.Proofs.YtbkpehfaofhmaaaGreatDoor

/- DBCaretB: the iterator that caret.beyond hands back goes over the places behind one that way, and tells of each whether it is a text place. -/
namespace Go.Proofs.YtbkpehfaofhmaaaGreatDoor
open Go.RowKit Go.Shelf
attribute [local go_sem] Oper.semAt_some
set_option maxHeartbeats 1000000 in
theorem beyond_in (F : Fence) (n : Nat) (h30 : F.fn 29) (hro : F.round = none) (B : Nat) (a : Option Addr) (len cap : Nat) (p y : Int) (w : World) :
  CallsIn F n Tryz.prog 29 #[.pointer (some ⟨B, 0, none⟩), .slice a len cap, .int .i64 p, .int .i64 y] w fun e w' => e = .returned (.func (.func 59) #[] #[.pointer (some ⟨w.heap.size, 0, none⟩), .pointer (some ⟨w.heap.size + 1, 0, none⟩), .pointer (some ⟨w.heap.size + 1 + 1, 0, none⟩), .pointer (some ⟨w.heap.size + 1 + 1 + 1, 0, none⟩)]) ∧
   w' = (((w.alloc (.cells #[.pointer (some ⟨B, 0, none⟩)] 24)).alloc (.cells #[.slice a len cap] 22)).alloc (.cells #[.int .i64 p] 3)).alloc (.cells #[.int .i64 y] 3) := by
 refine callsIn_of_wp Tryz.func29 rfl h30 ?_ hro
 simp only [Tryz.ntmps29, List.size_toArray, List.length_cons, List.length_nil, Nat.reduceAdd, Nat.reduceSub, Array.replicate_succ, Array.replicate_zero, List.push_toArray, List.append_toArray, List.nil_append, List.cons_append]
 gi_wp2
 go_ret
 exact ⟨rfl, rfl⟩
def KpD (n₀ m : Nat) (W W' : World) : Prop := Below n₀ W W' /\ ∀ k, m <= k -> k <= m + 1 + 1 + 1 -> W'.heap[k]? = W.heap[k]?
def VarsB (W : World) (m B : Nat) (a : Option Addr) (len cap : Nat) (p y : Int) : Prop := W.heap[m]? = some (.cells #[.pointer (some ⟨B, 0, none⟩)] 24 (0, 0)) /\ W.heap[m + 1]? = some (.cells #[.slice a len cap] 22 (0, 0)) /\ W.heap[m + 1 + 1]? = some (.cells #[.int .i64 p] 3 (0, 0)) /\ W.heap[m + 1 + 1 + 1]? = some (.cells #[.int .i64 y] 3 (0, 0))
theorem VarsB.kp {W W' : World} {m B : Nat} {a : Option Addr} {len cap : Nat} {p y : Int} (h : VarsB W m B a len cap p y) (k : ∀ k, m <= k -> k <= m + 1 + 1 + 1 -> W'.heap[k]? = W.heap[k]?) : VarsB W' m B a len cap p y := ⟨(k _ (by omega) (by omega)).trans h.1, (k _ (by omega) (by omega)).trans h.2.1, (k _ (by omega) (by omega)).trans h.2.2.1, (k _ (by omega) (by omega)).trans h.2.2.2⟩
theorem VarsB.at_ {W : World} {m B : Nat} {a : Option Addr} {len cap : Nat} {p y : Int} (h : VarsB W m B a len cap p y) : W.cell? ⟨m, 0, none⟩ = some (.pointer (some ⟨B, 0, none⟩)) /\ W.cell? ⟨m + 1, 0, none⟩ = some (.slice a len cap) /\ W.cell? ⟨m + 1 + 1, 0, none⟩ = some (.int .i64 p) /\ W.cell? ⟨m + 1 + 1 + 1, 0, none⟩ = some (.int .i64 y) := ⟨(cells1 h.1).1, (cells1 h.2.1).1, (cells1 h.2.2.1).1, (cells1 h.2.2.2).1⟩
theorem VarsB.lt {W : World} {m B : Nat} {a : Option Addr} {len cap : Nat} {p y : Int} (h : VarsB W m B a len cap p y) : m + 1 + 1 + 1 < W.heap.size := (Array.getElem?_eq_some_iff.1 h.2.2.2).1
def beyL (F : Int -> Bool) (y : Int) (k : Nat) (p : Int) : List (Int × Bool) := (beyR y k p).map fun q => (q, F q)
theorem beyL_succ (F : Int -> Bool) (y : Int) (k : Nat) (p : Int) : beyL F y (k + 1) p = beyL F y k p ++ [(p + y * ((k : Int) + 1), F (p + y * ((k : Int) + 1)))] := by unfold beyL; rw [beyR_succ, List.map_append]; rfl
theorem beyL_le (F : Int -> Bool) (y : Int) {k n : Nat} (h : k <= n) (p : Int) : beyL F y k p <+: beyL F y n p := by
 obtain ⟨d, rfl⟩ : ∃ d, n = k + d := ⟨n - k, by omega⟩
 unfold beyL
 rw [beyR_add, List.map_append]
 exact List.prefix_append _ _
theorem beyL_length (F : Int -> Bool) (y : Int) (k : Nat) (p : Int) : (beyL F y k p).length = k := by unfold beyL; rw [List.length_map, beyR_length]
set_option maxRecDepth 100000 in
set_option maxHeartbeats 4000000 in
theorem beyond1_in (n : Nat) (hn : 1 <= n) (li m B : Nat) (a : Option Addr) (len cap : Nat) (l : List Tok) (p y : Int) (hy : y = 1 \/ y = -1) (hp : 0 <= p /\ p <= (len : Int)) (hs : len <= 2048) (F : Int -> Bool) (w : World) (hM : MayH w B a len cap F) (hT : Toks w a len l)
  (hsame : ∀ (i : Nat) (x : Tok), l[i]? = some x -> x.k = 0 -> F ((i : Int) + 1) = F (i : Int)) (J Jx : List (Int × Bool) -> World -> Prop) (W : World) (hJ : AbidesFrom W.heap.size J)
  (hY : ∀ pre q W1, J pre W1 -> pre.length < len + 1 -> YieldAt Fence.wide (n - 1) Tryz.prog li (#[.int .i64 q.1, .bool q.2]) W1 fun e W' =>
   (e = .returned (.bool true) /\ J (pre ++ [q]) W' /\ KpD w.heap.size m W1 W') \/ (e = .returned (.bool false) /\ Jx (pre ++ [q]) W'))
  (hW : Below w.heap.size w W) (hv : VarsB W m B a len cap p y) (h0 : J [] W) :
  CallsIn Fence.wide n Tryz.prog 59 #[.func (.yield li) #[] #[], .pointer (some ⟨m, 0, none⟩), .pointer (some ⟨m + 1, 0, none⟩), .pointer (some ⟨m + 1 + 1, 0, none⟩), .pointer (some ⟨m + 1 + 1 + 1, 0, none⟩)] W fun e W' => (∃ v, e = .returned v) ∧
   ((∃ ys, ys = beyL F y (beyN len p y) p /\ J ys W') \/ (∃ pre, pre <+: beyL F y (beyN len p y) p /\ Jx pre W')) := by
 refine callsIn_of_wp Tryz.func59 rfl trivial ?_ rfl
 simp only [Tryz.ntmps59, List.size_toArray, List.length_cons, List.length_nil, Nat.reduceAdd, Nat.reduceSub, Array.replicate_succ, Array.replicate_zero, List.push_toArray, List.append_toArray, List.nil_append, List.cons_append]
 have HY : Hid (∀ pre q W1, J pre W1 -> pre.length < len + 1 -> YieldAt Fence.wide (n - 1) Tryz.prog li (#[.int .i64 q.1, .bool q.2]) W1 fun e W' =>
   (e = .returned (.bool true) /\ J (pre ++ [q]) W' /\ KpD w.heap.size m W1 W') \/ (e = .returned (.bool false) /\ Jx (pre ++ [q]) W')) := hY
 have HJ : Hid (∀ s X X', J s X -> Below X.heap.size X X' -> J s X') := fun s X X' h hB => hJ s X X' none h ⟨hB.os, hB.tape, hB.output, hB.size, fun k hk _ => hB.block k hk⟩ (fun r e => by cases e)
 have HPL : Hid (∀ (d : Nat) (q : Int) (X : World), CallsIn Fence.wide d Tryz.prog 43 #[.int .i64 (len : Int), .int .i64 q] X fun e w' => e = .returned (.bool (isPl len q)) /\ w' = X) := fun _ q X => callsIn_wide.2 (isplace_calls len q X)
 have HM : Hid (∀ (d : Nat) (q : Int) (X : World), Below w.heap.size w X -> CallsIn Fence.wide d Tryz.prog 24 #[.pointer (some ⟨B, 0, none⟩), .slice a len cap, .int .i64 q, .int .i64 0] X fun e X' => e = .returned (.bool (F q)) /\ Below X.heap.size X X') := fun _ q X hX => callsIn_wide.2 (hM X hX q)
 have HT := hidC hT
 have HSM := hidC hsame
 have hfn : Fence.wide.fn 43 := trivial
 have hfm : Fence.wide.fn 24 := trivial
 obtain ⟨v0, v1, v2, v3⟩ := hv.at_
 have hlt0 := hv.lt
 have HV := hidC hv
 have HW0 := hidC hW
 have HJ0 := hidC h0
 clear hv hY hJ hM hT hsame hW h0
 have hyp : -2048 <= p + y /\ p + y <= 4096 := by rcases hy with rfl | rfl <;> omega
 gi_wp2_with (gi_at_call 24; refine (HM.out _ p _ HW0.out).mono ?_; rintro e X ⟨rfl, hX⟩; obtain ⟨x0, x1, x2, x3⟩ := (HV.out.kp (fun k h1 h2 => hX.block k (by omega))).at_)
 have HX := hidC (And.intro (HJ.out _ _ _ HJ0.out hX) (And.intro (HW0.out.trans (hX.mono HW0.out.size)) (HV.out.kp (fun k h1 h2 => hX.block k (by omega)))))
 clear HJ0 hX HW0 HV v0 v1 v2 v3 x0 x1 x2 x3
 gi_loopw [6, 7] (fun u q wr => ∃ k : Nat, k <= beyN len p y /\ u = .bool (F (p + y * (k : Int))) /\ q = .int .i64 (p + y * ((k : Int) + 1)) /\ J (beyL F y k p) wr /\ Below w.heap.size w wr /\ VarsB wr m B a len cap p y) (fun _ q _ => if y < 0 then (intOf q + 1).toNat else ((len : Int) + 1 - intOf q).toNat)
 case atStart => exact ⟨0, by omega, by rw [Int.natCast_zero, Int.mul_zero, Int.add_zero], by rw [Int.natCast_zero, Int.zero_add, Int.mul_one], HX.out.1, HX.out.2.1, HX.out.2.2⟩
 case round =>
  obtain ⟨k, hk, rfl, rfl, hJs, hB, hvr⟩ := hrel
  obtain ⟨r0, r1, r2, r3⟩ := hvr.at_
  have hlr := hvr.lt
  have HVR := hidC hvr
  have HJS := hidC hJs
  have HBR := hidC hB
  clear hvr hJs hB HX
  by_cases hlt : k < beyN len p y
  ·have hpl := (beyN_at hy (isPl_iff.2 hp) hlt).1
   have hpb := isPl_iff.1 hpl
   have HSU := hidC (beyL_succ F y k p)
   have HPX := hidC (beyL_le F y (show k + 1 <= beyN len p y from hlt) p)
   have HLN := hidC (show (beyL F y k p).length < len + 1 from by
    rw [beyL_length]
    unfold beyN at hlt
    split at hlt <;> omega)
   have hprev : p + y * ((k : Int) + 1) - y = p + y * (k : Int) := by rw [Int.mul_add]; omega
   have HNX : Hid (p + y * (((k + 1 : Nat) : Int) + 1) = p + y * ((k : Int) + 1) + y) := by show _ = _; rw [Int.natCast_add, Int.natCast_one, Int.mul_add, Int.mul_add]; omega
   have HK1 := hidC (show p + y * ((k + 1 : Nat) : Int) = p + y * ((k : Int) + 1) from rfl)
   obtain ⟨i, hi, hil⟩ : ∃ i : Nat, min (p + y * ((k : Int) + 1)) (p + y * ((k : Int) + 1) - y) = (i : Int) /\ i < len := by
    refine ⟨(min (p + y * ((k : Int) + 1)) (p + y * ((k : Int) + 1) - y)).toNat, ?_, ?_⟩
    ·rcases hy with rfl | rfl <;> omega
    ·rcases hy with rfl | rfl <;> omega
   obtain ⟨b, o, x, rfl, hbl, hxl, hc⟩ := HT.out.token hil
   obtain ⟨c0, _, _, _⟩ := hc wr HBR.out
   have HF0 : Hid (x.k = 0 -> F (p + y * (k : Int)) = F (p + y * ((k : Int) + 1))) := fun h => by
    have := HSM.out i x hxl h
    rcases hy with rfl | rfl
    ·rw [show (i : Int) + 1 = p + 1 * ((k : Int) + 1) by omega, show (i : Int) = p + 1 * (k : Int) by omega] at this
     exact this.symm
    ·rw [show (i : Int) + 1 = p + -1 * (k : Int) by omega, show (i : Int) = p + -1 * ((k : Int) + 1) by omega] at this
     exact this
   have HME := hidC (show (if y < 0 then (p + y * ((k : Int) + 1) + y + 1).toNat else ((len : Int) + 1 - (p + y * ((k : Int) + 1) + y)).toNat) < (if y < 0 then (p + y * ((k : Int) + 1) + 1).toNat else ((len : Int) + 1 - (p + y * ((k : Int) + 1))).toNat) from by
    rcases hy with rfl | rfl
    ·rw [if_neg (by omega), if_neg (by omega)]; omega
    ·rw [if_pos (by omega), if_pos (by omega)]; omega)
   have hyb : -1 <= y /\ y <= 1 := by rcases hy with rfl | rfl <;> omega
   have hiI : (i : Int) < (len : Int) := by omega
   generalize p + y * ((k : Int) + 1) = P at *
   generalize p + y * (k : Int) = P0 at *
   have hli : (len : Int) <= 2048 := by omega
   have hbb : y - 1 <= 0 := by omega
   clear hc hxl hprev
   by_cases h0 : x.k = 0
   ·rw [h0] at c0
    have hf := HF0.out h0
    rw [hf]
    obtain ⟨fn, tmps, assign, body, hy2, hY2⟩ := HY.out _ (P, F P) _ HJS.out HLN.out
    gi_wp2_with (gi_at_call 43; refine (HPL.out _ P _).mono ?_; rintro e X ⟨rfl, rfl⟩; rw [hpl])
    refine hY2.mono ?_
    rintro e W4 (⟨rfl, hJ4, hk4⟩ | ⟨rfl, hJx4⟩)
    ·rw [<- HSU.out] at hJ4
     have HV4 := hidC ((HVR.out).kp hk4.2)
     have HB4 := hidC ((HBR.out).trans hk4.1)
     have HJ4 := hidC hJ4
     obtain ⟨s0, s1, s2, s3⟩ := HV4.out.at_
     clear hY2 hk4 hJ4
     gi_wp2
     go_roundw
     case rel => exact ⟨k + 1, hlt, by rw [HK1.out], by rw [HNX.out], HJ4.out, HB4.out, HV4.out⟩
     case measure => exact HME.out
    ·rw [<- HSU.out] at hJx4
     clear hY2
     gi_wp2
     refine bodyPost_ret (results_none rfl _ _ _) rfl ?_
     exact ⟨⟨_, rfl⟩, .inr ⟨_, HPX.out, hJx4⟩⟩
   ·have hne : (x.k != 0) = true := by simpa using h0
    generalize x.k = xk at *
    gi_wp2_with (first | (gi_at_call 43; refine (HPL.out _ P _).mono ?_; rintro e X ⟨rfl, rfl⟩; rw [hpl]) | (gi_at_call 24; refine (HM.out _ P _ HBR.out).mono ?_; rintro e Y ⟨rfl, hY⟩; obtain ⟨fn, tmps, assign, body, hy2, hY2⟩ := HY.out _ (P, F P) _ (HJ.out _ _ _ HJS.out hY) HLN.out))
    have HVY := hidC (HVR.out.kp (fun k h1 h2 => hY.block k (by omega)))
    have HBY := hidC (HBR.out.trans (hY.mono HBR.out.size))
    clear hY
    refine hY2.mono ?_
    rintro e W4 (⟨rfl, hJ4, hk4⟩ | ⟨rfl, hJx4⟩)
    ·rw [<- HSU.out] at hJ4
     have HV4 := hidC ((HVY.out).kp hk4.2)
     have HB4 := hidC ((HBY.out).trans hk4.1)
     have HJ4 := hidC hJ4
     obtain ⟨s0, s1, s2, s3⟩ := HV4.out.at_
     clear hY2 hk4 hJ4
     gi_wp2
     go_roundw
     case rel => exact ⟨k + 1, hlt, by rw [HK1.out], by rw [HNX.out], HJ4.out, HB4.out, HV4.out⟩
     case measure => exact HME.out
    ·rw [<- HSU.out] at hJx4
     clear hY2
     gi_wp2
     refine bodyPost_ret (results_none rfl _ _ _) rfl ?_
     exact ⟨⟨_, rfl⟩, .inr ⟨_, HPX.out, hJx4⟩⟩
  ·obtain rfl : k = beyN len p y := by omega
   have hpl : isPl len (p + y * (((beyN len p y : Nat) : Int) + 1)) = false := by
    rw [Bool.eq_false_iff]
    intro h
    rw [isPl_iff] at h
    unfold beyN at h
    rcases hy with rfl | rfl
    ·rw [if_neg (by decide)] at h; omega
    ·rw [if_pos (by decide)] at h; omega
   generalize p + y * (((beyN len p y : Nat) : Int) + 1) = P at *
   gi_wp2_with (gi_at_call 43; refine (HPL.out _ P _).mono ?_; rintro e X ⟨rfl, rfl⟩; rw [hpl])
   go_end0
   exact ⟨⟨_, rfl⟩, Or.inl ⟨_, rfl, HJS.out⟩⟩
end Go.Proofs.YtbkpehfaofhmaaaGreatDoor
