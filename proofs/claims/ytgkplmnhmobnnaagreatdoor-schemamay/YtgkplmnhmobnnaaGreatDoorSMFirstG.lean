/-
  PROVED HERE: schema's firstFault and Check at any document.
-/
import Derived.Test.YtgkplmnhmobnnaaGreatDoorSM41
import Derived.Test.YtgkplmnhmobnnaaGreatDoorSM37
namespace Go.Proofs.YtgkplmnhmobnnaaGreatDoor
open Go.RowKit

theorem opened_lt (l : List Tok) (p : Nat) (hp : p ≤ l.length) : ∀ x ∈ opened l (p : Int), 0 ≤ x ∧ x < (p : Int) := by
  rw [opened_nat l p hp]
  exact openL_fits (l.take p) 0 [] (p : Int) (by rw [List.length_take]; omega) (fun x hx => by cases hx)
theorem opened_later (l : List Tok) (q : Nat) : ∀ (d : Nat), q + d ≤ l.length → ∀ x ∈ opened l ((q + d : Nat) : Int), x ∈ opened l (q : Int) ∨ (q : Int) ≤ x := by
  intro d
  induction d with
  | zero => intro _ x hx; exact .inl hx
  | succ d ih =>
    intro hd x hx
    obtain ⟨y, hy⟩ : ∃ y, l[q + d]? = some y := ⟨_, List.getElem?_eq_getElem (by omega)⟩
    have e := opened_succ l (q + d) y hy
    rw [show q + (d + 1) = q + d + 1 by omega, e] at hx
    unfold turn at hx
    split at hx
    · rcases List.mem_append.1 hx with hx | hx
      · exact ih (by omega) x hx
      · rw [List.mem_singleton] at hx
        subst hx
        exact .inr (by omega)
    · split at hx
      · exact ih (by omega) x (List.dropLast_subset _ hx)
      · exact ih (by omega) x hx
/-- The innermost at a place is a TOpen ahead of it. -/
theorem opened_kind (l : List Tok) : ∀ (p : Nat), p ≤ l.length → ∀ x ∈ opened l (p : Int), kindAt l x.toNat = 1 := by
  intro p
  induction p with
  | zero => intro _ x hx; rw [show ((0 : Nat) : Int) = 0 from rfl, opened_zero] at hx; cases hx
  | succ p ih =>
    intro hp x hx
    obtain ⟨y, hy⟩ : ∃ y, l[p]? = some y := ⟨_, List.getElem?_eq_getElem (by omega)⟩
    rw [opened_succ l p y hy] at hx
    unfold turn at hx
    split at hx
    · rename_i hk
      rcases List.mem_append.1 hx with hx | hx
      · exact ih (by omega) x hx
      · rw [List.mem_singleton] at hx
        subst hx
        rw [Int.toNat_natCast, kindAt_some hy]
        exact hk
    · split at hx
      · exact ih (by omega) x (List.dropLast_subset _ hx)
      · exact ih (by omega) x hx
theorem around_in (l : List Tok) (p : Nat) (h : around l (p : Int) ≠ -1) : around l (p : Int) ∈ opened l (p : Int) := by
  unfold around at h ⊢
  cases hg : (opened l (p : Int)).getLast? with
  | none => rw [hg] at h; exact absurd rfl h
  | some x => exact List.mem_of_getLast? hg
theorem kidsL_keep (l : List Tok) (i : Int) : ∀ (f k : Nat) (out : List Int), ∀ x ∈ out, x ∈ kidsL l i k f out := by
  intro f
  induction f with
  | zero => intro k out x hx; rw [kidsL]; exact hx
  | succ f ih =>
    intro k out x hx
    rw [kidsL]
    split
    · exact hx
    · refine ih (k + 1) _ x ?_
      split
      · exact List.mem_append_left _ hx
      · exact hx
theorem kidsL_has (l : List Tok) (i : Int) (m : Nat) (hm : kindAt l m ≠ 2 ∧ 0 ≤ kindAt l m ∧ kindAt l m ≤ 3 ∧ around l m = i) : ∀ (f k : Nat) (out : List Int), (∀ j, k ≤ j → j < m → ¬ (kindAt l j = 2 ∧ around l j = i ∧ 0 ≤ i)) → k ≤ m → m < k + f → (m : Int) ∈ kidsL l i k f out := by
  intro f
  induction f with
  | zero => intro k out _ h1 h2; omega
  | succ f ih =>
    intro k out hno h1 h2
    rw [kidsL]
    by_cases e : k = m
    · subst e
      rw [if_neg (fun h => hm.1 h.1), if_pos hm]
      exact kidsL_keep l i f (k + 1) _ _ (List.mem_append_right _ (List.mem_singleton.2 rfl))
    · rw [if_neg (hno k (Nat.le_refl _) (by omega))]
      exact ih (k + 1) _ (fun j hj => hno j (by omega)) (by omega) (by omega)
/-- What stands at a place is of the kids of the innermost there. -/
theorem kids_has (l : List Tok) (m : Nat) (hm : m < l.length) (hk : kindAt l m ≠ 2 ∧ 0 ≤ kindAt l m ∧ kindAt l m ≤ 3) : (m : Int) ∈ kids l (around l (m : Int)) := by
  by_cases hq : around l (m : Int) = -1
  · rw [hq]
    unfold kids
    rw [if_neg (by omega)]
    exact kidsL_has l (-1) m ⟨hk.1, hk.2.1, hk.2.2, hq⟩ _ _ _ (fun j _ _ h => absurd h.2.2 (by decide)) (by omega) (by omega)
  · have hin := around_in l m hq
    obtain ⟨h0, h1⟩ := opened_lt l m (by omega) _ hin
    have hkd := opened_kind l m (by omega) _ hin
    obtain ⟨n, hn⟩ : ∃ n : Nat, around l (m : Int) = (n : Int) := ⟨(around l (m : Int)).toNat, by omega⟩
    rw [hn] at h1 hkd hin ⊢
    rw [Int.toNat_natCast] at hkd
    unfold kids
    rw [if_neg (by rw [Int.toNat_natCast]; omega)]
    refine kidsL_has l (n : Int) m ⟨hk.1, hk.2.1, hk.2.2, hn⟩ _ _ _ (fun j hj hjm h => ?_) (by omega) (by omega)
    -- it was ended ahead of m
    obtain ⟨hj2, hja, _⟩ := h
    obtain ⟨y, hy⟩ : ∃ y, l[j]? = some y := ⟨_, List.getElem?_eq_getElem (by omega)⟩
    have e1 := around_last l j (by omega) n hja
    have e2 := opened_succ l j y hy
    rw [kindAt_some hy] at hj2
    unfold turn at e2
    rw [if_neg (by omega), if_pos hj2, e1, List.dropLast_concat] at e2
    have := opened_later l (j + 1) (m - (j + 1)) (by omega) (n : Int) (by rw [show j + 1 + (m - (j + 1)) = m by omega]; exact hin)
    rcases this with h3 | h3
    · rw [e2] at h3
      have := (opened_lt l n (by omega) _ h3).2
      omega
    · omega
theorem kidsL_rise (l : List Tok) (i : Int) : ∀ (f k : Nat) (out : List Int), out.Pairwise (· < ·) → (∀ x ∈ out, x < (k : Int)) → (kidsL l i k f out).Pairwise (· < ·) := by
  intro f
  induction f with
  | zero => intro k out h _; rw [kidsL]; exact h
  | succ f ih =>
    intro k out h hk
    rw [kidsL]
    split
    · exact h
    · split
      · refine ih (k + 1) _ ?_ ?_
        · rw [List.pairwise_append]
          exact ⟨h, List.pairwise_singleton _ _, fun x hx y hy => by rw [List.mem_singleton] at hy; subst hy; exact hk x hx⟩
        · intro x hx
          rcases List.mem_append.1 hx with hx | hx
          · have := hk x hx; omega
          · rw [List.mem_singleton] at hx; subst hx; omega
      · exact ih (k + 1) _ h (fun x hx => by have := hk x hx; omega)
theorem kids_rise (l : List Tok) (i : Int) : (kids l i).Pairwise (· < ·) := by
  unfold kids
  split
  · exact List.Pairwise.nil
  · exact kidsL_rise l i _ _ _ List.Pairwise.nil (fun x hx => by cases hx)
/-- What stands ahead of the fault fits. -/
theorem fault_fits {ks : List KindD} {gs : List Grp} {t : DataW Unit} {s : SpecD} {l : List Tok} {i : Int} {p : Int} (hp : p ∈ kids l i) (hlt : p < faultD ks gs t s l i) : fitsB ks s ((l[p.toNat]?).getD ⟨0, 0, 0, 0⟩) = true := by
  have hr := kids_rise l i
  unfold faultD at hlt
  obtain ⟨m, hm⟩ := List.getElem?_of_mem hp
  have key : ∀ (f j : Nat), j + f = (kids l i).length → j ≤ m → p < faultK ks gs t s l i (kids l i) j f → fitsB ks s ((l[p.toNat]?).getD ⟨0, 0, 0, 0⟩) = true := by
    intro f
    induction f with
    | zero => intro j hj hjm _; have := (List.getElem?_eq_some_iff.1 hm).1; omega
    | succ f ih =>
      intro j hj hjm hl
      rw [faultK] at hl
      split at hl
      · rename_i hfit
        by_cases e : j = m
        · subst e
          rw [List.getD_eq_getElem?_getD, hm] at hfit
          exact hfit
        · exact ih (j + 1) (by omega) (by omega) hl
      · exfalso
        have hjl : j < (kids l i).length := by omega
        have hge : (kids l i).getD j 0 ≤ p := by
          rw [List.getD_eq_getElem?_getD, List.getElem?_eq_getElem hjl]
          show (kids l i)[j] ≤ p
          obtain ⟨hml, hme⟩ := List.getElem?_eq_some_iff.1 hm
          by_cases e : j = m
          · subst e; rw [hme]; exact Int.le_refl _
          · have := List.pairwise_iff_getElem.1 hr j m hjl hml (by omega)
            rw [hme] at this
            omega
        omega
  exact key _ 0 (by omega) (Nat.zero_le _) hlt
/-- A TOpen that comes up ahead of all faults is of a type that the schema has. -/
theorem type_known {ks : List KindD} {gs : List Grp} {ts : List (DataW Unit)} {l : List Tok} (hg : ∀ (k : Nat), k < l.length → 0 ≤ kindAt l k ∧ kindAt l k ≤ 3) (i : Nat) (x : Tok) (f : Int) (hx : l[i]? = some x) (hk : x.k = 1) (hif : (i : Int) < f) (hw : f ≤ faultD ks gs (ts.getD 0 emptyT) (specOf ks 0) l (-1)) (hall : ∀ q, q < i → kindAt l q = 1 → f ≤ faultAt ks gs ts l q) : 0 ≤ x.t ∧ x.t < ks.length := by
  have hil := (List.getElem?_eq_some_iff.1 hx).1
  have hki := kindAt_some hx
  have hmem := kids_has l i hil ⟨by rw [hki]; omega, hg i hil⟩
  have fin : ∀ (t : DataW Unit) (s : SpecD), (i : Int) < faultD ks gs t s l (around l (i : Int)) → 0 ≤ x.t ∧ x.t < ks.length := fun t s hlt => by
    have := fault_fits hmem hlt
    rw [Int.toNat_natCast, hx] at this
    unfold fitsB at this
    rw [if_neg (show ¬ ((some x).getD ⟨0, 0, 0, 0⟩).k = 0 by show ¬ x.k = 0; omega)] at this
    split at this
    · rename_i h
      have h' : 1 ≤ x.t ∧ x.t < ks.length := h
      omega
    · cases this
  by_cases hq : around l (i : Int) = -1
  · rw [hq] at fin
    exact fin _ _ (Int.lt_of_lt_of_le hif hw)
  · have hin := around_in l i hq
    obtain ⟨h0, h1⟩ := opened_lt l i (by omega) _ hin
    have hkd := opened_kind l i (by omega) _ hin
    obtain ⟨n, hn⟩ : ∃ n : Nat, around l (i : Int) = (n : Int) := ⟨(around l (i : Int)).toNat, by omega⟩
    rw [hn] at fin h1 hkd
    rw [Int.toNat_natCast] at hkd
    have := hall n (by omega) hkd
    unfold faultAt at this
    exact fin _ _ (Int.lt_of_lt_of_le hif this)
theorem goes_right : ∀ (l : List Tok) (d e : Int), goes l d = some e → ∀ x ∈ l, rightT x = true := by
  intro l
  induction l with
  | nil => intro d e _ x hx; cases hx
  | cons y r ih =>
    intro d e h x hx
    obtain ⟨h1, _, h3⟩ := goes_cons h
    rcases List.mem_cons.1 hx with rfl | hx
    · unfold wrong at h1
      simp only [Bool.or_eq_false_iff, Bool.not_eq_false'] at h1
      exact h1.1
    · exact ih _ _ h3 x hx
theorem kinds_rightS {l : List Tok} (h : goes l 0 = some 0) : ∀ (k : Nat), k < l.length → 0 ≤ kindAt l k ∧ kindAt l k ≤ 3 := by
  intro k hk
  obtain ⟨x, hx⟩ : ∃ x, l[k]? = some x := ⟨_, List.getElem?_eq_getElem hk⟩
  rw [kindAt_some hx]
  have := goes_right l 0 0 h x (List.mem_of_getElem? hx)
  unfold rightT at this
  split at this
  · omega
  · split at this
    · omega
    · split at this
      · omega
      · cases this
set_option maxRecDepth 100000 in
set_option maxHeartbeats 600000 in
theorem firstfault_any {B g c ng nc : Nat} {ks : List KindD} {gs : List Grp} {ts : List (DataW Unit)} (w : World) (h : SchAt w B g c ng nc ks gs ts) (h0 : 0 < ks.length) (a : Option Addr) (len cap : Nat) (l : List Tok) (hl : Toks w a len l) (hlie : Lies a len cap) (hsz : len ≤ 2048) (hty : ∀ (i : Nat) (x : Tok) (f : Int), l[i]? = some x → x.k = 1 → (i : Int) < f → f ≤ faultD ks gs (ts.getD 0 emptyT) (specOf ks 0) l (-1) → (∀ q, q < i → kindAt l q = 1 → f ≤ faultAt ks gs ts l q) → 0 ≤ x.t ∧ x.t < ks.length) :
    Calls Tryz.prog 30 #[.pointer (some ⟨B, 0, none⟩), .slice a len cap] w fun e w' => e = .returned (.int .i64 (firstS ks gs ts l)) ∧ Below w.heap.size w w' := by
  have hll := hl.1
  have HF0 : Hid (Calls Tryz.prog 61 #[.pointer (some ⟨B, 0, none⟩), .slice a len cap, .int .i64 (-1)] w fun e w' => e = .returned (.int .i64 (faultD ks gs (ts.getD 0 emptyT) (specOf ks 0) l (-1))) ∧ Below w.heap.size w w') :=
    faultin_calls w h h0 a len cap l hl hlie hsz (-1) 0 _ (getD_at (by have := h.len; omega)) (fun X hX => kindat_out X (h.below hX) h0 _) (by have := kids_few l (-1); omega) (fun p hp => by have := kids_in l (-1) p hp; omega)
  have HFI : Hid (∀ (X : World) (i : Nat) (x : Tok), Below w.heap.size w X → l[i]? = some x → x.k = 1 → (0 ≤ x.t ∧ x.t < ks.length) → Calls Tryz.prog 61 #[.pointer (some ⟨B, 0, none⟩), .slice a len cap, .int .i64 (i : Int)] X fun e w' => e = .returned (.int .i64 (faultAt ks gs ts l i)) ∧ Below X.heap.size X w') := fun X i x hX hx _ ⟨t0, t1⟩ => by
    have hta : typeAt l (i : Int) = x.t := by unfold typeAt; rw [Int.toNat_natCast, hx]; rfl
    unfold faultAt
    rw [hta]
    exact faultin_calls X (h.below hX) h0 a len cap l (hl.below hX) hlie hsz (i : Int) x.t.toNat _ (getD_at (by have := h.len; omega)) (fun Y hY => kindat_in Y (h.below (hX.trans (hY.mono hX.size))) a len cap l (hl.below (hX.trans (hY.mono hX.size))) hsz i x hx t0 t1) (by have := kids_few l i; omega) (fun p hp => by have := kids_in l i p hp; omega)
  have HL : Hid (∀ (X : World) (p : Nat), Below w.heap.size w X → p < len → ∃ b o y, a = some ⟨b, o, none⟩ ∧ l[p]? = some y ∧ X.cell? ⟨b, o + p * 4, none⟩ = some (.int .i64 y.k) ∧ X.cell? ⟨b, o + p * 4 + 1, none⟩ = some (.int .i64 y.t) ∧ X.cell? ⟨b, o + p * 4 + 2, none⟩ = some (.int .i64 y.n) ∧ X.cell? ⟨b, o + p * 4 + 3, none⟩ = some (.int .i64 y.m)) := fun X p hX hp => by
    obtain ⟨b, o, y, h1, _, h3, h4⟩ := hl.token hp
    obtain ⟨d1, d2, d3, d4⟩ := h4 X hX
    exact ⟨b, o, y, h1, h3, d1, d2, d3, d4⟩
  have HTY := Hid.mk_ hty
  unfold firstS
  obtain ⟨f0, hf0⟩ : ∃ f0, faultD ks gs (ts.getD 0 emptyT) (specOf ks 0) l (-1) = f0 := ⟨_, rfl⟩
  rw [hf0] at HF0 HTY ⊢
  rw [hll]
  have hli : (len : Int) ≤ 2048 := by omega
  clear h hl hlie hty hf0
  go_enter Tryz.func30, Tryz.ntmps30
  go_wp2_with fail
  refine HF0.out.mono ?_
  rintro e W1 ⟨rfl, hB1⟩
  have HB1 := Hid.mk_ hB1
  clear hB1 HF0
  go_wp2
  go_loopg [5, 13] (len + 1) (fun gk u v wr => ∃ (i : Nat) (f : Int), i ≤ len ∧ len < i + gk ∧ u = .int .i64 f ∧ v = .int .i64 (i : Int) ∧ foldF ks gs ts l i (len - i) f = foldF ks gs ts l 0 len f0 ∧ (f ≤ f0 ∧ ∀ q, q < i → kindAt l q = 1 → f ≤ faultAt ks gs ts l q) ∧ Below w.heap.size w wr)
  case atStart => exact ⟨0, f0, Nat.zero_le _, by omega, rfl, rfl, by rw [Nat.sub_zero], ⟨Int.le_refl _, fun q hq => by omega⟩, HB1.out⟩
  case round =>
    obtain ⟨i, f, hi, hgk, rfl, rfl, hF, ⟨hle, hall⟩, hB⟩ := hrel
    have HIN : Hid (f ≤ f0 ∧ ∀ q, q < i → kindAt l q = 1 → f ≤ faultAt ks gs ts l q) := ⟨hle, hall⟩
    clear hle hall
    clear HB1
    by_cases hlt : i < len
    · obtain ⟨b, o, y, rfl, hy, d1, d2, d3, d4⟩ := HL.out wr i hB hlt
      have hii : (i : Int) < (len : Int) := by omega
      have hi0 : (0 : Int) ≤ (i : Int) := by omega
      have hd : decide ((i : Int) < (len : Int)) = true := by simpa using hii
      have hst : len - i = (len - (i + 1)) + 1 := by omega
      rw [hst, foldF, kindAt_some hy] at hF
      obtain ⟨V, hV⟩ : ∃ V, V = wr.alloc (.cells #[.int .i64 y.k, .int .i64 y.t, .int .i64 y.n, .int .i64 y.m] 51) := ⟨_, rfl⟩
      have hBV : Below w.heap.size w V := by rw [hV]; exact hB.alloc hB.size _
      have m0 : V.heap[wr.heap.size]? = some (.cells #[.int .i64 y.k, .int .i64 y.t, .int .i64 y.n, .int .i64 y.m] 51 (0, 0)) := by rw [hV]; exact World.alloc_heap_new wr _
      have k0 : V.cell? ⟨wr.heap.size, 0, none⟩ = some (.int .i64 y.k) := cell_of_row V wr.heap.size 0 _ _ _ m0
      have HV : Hid (wr.alloc (.cells #[.int .i64 y.k, .int .i64 y.t, .int .i64 y.n, .int .i64 y.m] 51) = V) := hV.symm
      have HBV := Hid.mk_ hBV
      by_cases dg : f ≤ (i : Int)
      · have hdg : decide (f ≤ (i : Int)) = true := by simpa using dg
        have HE : Hid (foldF ks gs ts l 0 len f0 = f) := by rw [if_pos dg] at hF; exact hF.symm
        have HBA : Hid (∀ o, Below w.heap.size w (wr.alloc o)) := fun o => hB.alloc hB.size o
        clear hF hB hBV m0 hV hst hy
        go_wp2
        go_ret
        exact ⟨by rw [HE.out]; rfl, HBA.out _⟩
      · have hdg : decide (f ≤ (i : Int)) = false := by simpa using dg
        rw [if_neg dg] at hF
        by_cases dk : y.k = 1
        · have hdk : (y.k == 1) = true := by simpa using dk
          rw [if_pos dk] at hF
          have HFX := HFI.out V i y hBV hy dk (HTY.out i y f hy dk (by omega) HIN.out.1 HIN.out.2)
          have HINN : Hid (min f (faultAt ks gs ts l i) ≤ f0 ∧ ∀ q, q < i + 1 → kindAt l q = 1 → min f (faultAt ks gs ts l i) ≤ faultAt ks gs ts l q) := ⟨by have := HIN.out.1; omega, fun q hq hk => by
            by_cases e : q = i
            · subst e; omega
            · have := HIN.out.2 q (by omega) hk; omega⟩
          have HFF := Hid.mk_ hF
          obtain ⟨fa, hfa⟩ : ∃ fa, faultAt ks gs ts l i = fa := ⟨_, rfl⟩
          rw [hfa] at HFX HFF HINN
          clear hfa
          clear hF hB hBV m0 hV hst hy dk dg
          go_wp2_with fail
          rw [HV.out]
          refine HFX.mono ?_
          rintro e W3 ⟨rfl, hB3⟩
          have HB3 := Hid.mk_ (HBV.out.trans (hB3.mono HBV.out.size))
          clear hB3 HFX
          go_wp2
          go_roundg (len - i)
          case measure => omega
          case rel => exact ⟨i + 1, min f fa, by omega, by omega, by first | rfl | (congr 1; omega), by first | rfl | go_num, HFF.out, HINN.out, HB3.out⟩
        · have hdk : (y.k == 1) = false := by simpa using dk
          rw [if_neg dk] at hF
          have HINN : Hid (f ≤ f0 ∧ ∀ q, q < i + 1 → kindAt l q = 1 → f ≤ faultAt ks gs ts l q) := ⟨HIN.out.1, fun q hq hk => by
            by_cases e : q = i
            · subst e; rw [kindAt_some hy] at hk; exact absurd hk dk
            · exact HIN.out.2 q (by omega) hk⟩
          have HFF := Hid.mk_ hF
          have HBA : Hid (∀ o, Below w.heap.size w (wr.alloc o)) := fun o => hB.alloc hB.size o
          clear hF hB hBV m0 hV hst hy dk dg
          go_wp2
          go_roundg (len - i)
          case measure => omega
          case rel => exact ⟨i + 1, f, by omega, by omega, rfl, by first | rfl | go_num, HFF.out, HINN.out, HBA.out _⟩
    · obtain rfl : i = len := by omega
      have hd : decide ((i : Int) < (i : Int)) = false := by simp
      have HE : Hid (foldF ks gs ts l 0 i f0 = f ∧ Below w.heap.size w wr) := by
        rw [Nat.sub_self, foldF] at hF
        exact ⟨hF.symm, hB⟩
      clear hF hB
      go_wp2
      go_ret
      exact ⟨by rw [HE.out.1]; rfl, HE.out.2⟩
set_option maxRecDepth 100000 in
set_option maxHeartbeats 600000 in
theorem scheck_any {B g c ng nc : Nat} {ks : List KindD} {gs : List Grp} {ts : List (DataW Unit)} (w : World) (h : SchAt w B g c ng nc ks gs ts) (h0 : 0 < ks.length) (a : Option Addr) (len cap : Nat) (l : List Tok) (hl : Toks w a len l) (hlie : Lies a len cap) (hsz : len ≤ 4398046511104) :
    Calls Tryz.prog 11 #[.pointer (some ⟨B, 0, none⟩), .slice a len cap] w fun e w' => e = .returned (.tuple #[.int .i64 (checkS ks gs ts l).1, .int .i64 (checkS ks gs ts l).2]) ∧ Below w.heap.size w w' := by
  have HM := Hid.mk_ (ismade_calls w h h0)
  have HC : Hid (Calls Tryz.prog 29 #[.slice a len cap] w fun e w' => e = .returned (.tuple #[.int .i64 (check l).1, .int .i64 (check l).2]) ∧ Below w.heap.size w w') := fcheck_calls a len cap l w hl hsz
  have hll := hl.1
  obtain ⟨ca, cb, hc⟩ : ∃ ca cb, check l = (ca, cb) := ⟨_, _, rfl⟩
  have HFF : Hid (cb = 0 → ∀ X, Below w.heap.size w X → Calls Tryz.prog 30 #[.pointer (some ⟨B, 0, none⟩), .slice a len cap] X fun e w' => e = .returned (.int .i64 (firstS ks gs ts l)) ∧ Below X.heap.size X w') := fun hz X hX => by
    have hc2 : (check l).2 = 0 := by rw [hc]; exact hz
    have h20 := ((check_ok l).1 hc2).1
    exact firstfault_any X (h.below hX) h0 a len cap l (hl.below hX) hlie (by omega) (type_known (kinds_rightS ((check_ok l).1 hc2).2))
  unfold checkS
  rw [hc] at HC ⊢
  dsimp only at HC ⊢
  generalize firstS ks gs ts l = ff at *
  rw [hll]
  have hli : (len : Int) ≤ 4398046511104 := by omega
  clear h hl hlie hc hll
  by_cases d0 : cb ≠ 0
  · rw [if_pos d0]
    have e0 : (cb == 0) = false := by simpa using d0
    have e1 : (cb != 0) = true := by simp [bne, e0]
    clear HFF
    go_enter Tryz.func11, Tryz.ntmps11
    go_wp2_with fail
    refine HM.out.mono ?_
    rintro e W ⟨rfl, rfl⟩
    go_wp2_with fail
    refine HC.out.mono ?_
    rintro e W1 ⟨rfl, hB1⟩
    have HB1 := Hid.mk_ hB1
    clear hB1 HC HM
    go_wp2
    go_ret2
    exact ⟨rfl, HB1.out⟩
  · rw [if_neg d0]
    have d0 : cb = 0 := Classical.not_not.1 d0
    subst d0
    have e1 : ((0 : Int) != 0) = false := rfl
    have HF := Hid.mk_ (HFF.out rfl)
    clear HFF
    by_cases d1 : ff ≠ 2049
    · rw [if_pos d1]
      have e2 : (ff == 2049) = false := by simpa using d1
      have e3 : (ff != 2049) = true := by simp [bne, e2]
      go_enter Tryz.func11, Tryz.ntmps11
      go_wp2_with fail
      refine HM.out.mono ?_
      rintro e W ⟨rfl, rfl⟩
      go_wp2_with fail
      refine HC.out.mono ?_
      rintro e W1 ⟨rfl, hB1⟩
      have HB1 := Hid.mk_ hB1
      have HF1 := HF.out W1 hB1
      clear hB1 HC HM HF
      go_wp2_with fail
      refine HF1.mono ?_
      rintro e W2 ⟨rfl, hB2⟩
      have HB2 := Hid.mk_ (HB1.out.trans (hB2.mono HB1.out.size))
      clear hB2 HF1
      go_wp2
      go_ret2
      exact ⟨rfl, HB2.out⟩
    · rw [if_neg d1]
      have d1 : ff = 2049 := Classical.not_not.1 d1
      subst d1
      have e3 : ((2049 : Int) != 2049) = false := rfl
      go_enter Tryz.func11, Tryz.ntmps11
      go_wp2_with fail
      refine HM.out.mono ?_
      rintro e W ⟨rfl, rfl⟩
      go_wp2_with fail
      refine HC.out.mono ?_
      rintro e W1 ⟨rfl, hB1⟩
      have HB1 := Hid.mk_ hB1
      have HF1 := HF.out W1 hB1
      clear hB1 HC HM HF
      go_wp2_with fail
      refine HF1.mono ?_
      rintro e W2 ⟨rfl, hB2⟩
      have HB2 := Hid.mk_ (HB1.out.trans (hB2.mono HB1.out.size))
      clear hB2 HF1
      go_wp2
      go_ret2
      exact ⟨rfl, HB2.out⟩
end Go.Proofs.YtgkplmnhmobnnaaGreatDoor
