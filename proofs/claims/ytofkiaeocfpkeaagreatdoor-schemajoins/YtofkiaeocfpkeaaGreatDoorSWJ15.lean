/-
  PROVED HERE: what the texts LaidE, FirstG, Bfs, Best, HouseE, ValidS, JoinS, JoinT, AwakeS, JoinW, ArgsT, Rowl say (each has its own words below).
-/
import Derived.Test.YtofkiaeocfpkeaaGreatDoorSW14
import Derived.Test.YtofkiaeocfpkeaaGreatDoorCards
import Derived.Test.YtofkiaeocfpkeaaGreatDoorTie
import Derived.WalkKit
import Derived.ProofKit
import Derived.OpenShut
import Derived.Deep.DeepHandedRow
import Derived.LaidLaws
import Derived.LaidHandle
import Derived.ChangeMaps5
import Derived.DataShut
import Derived.ChangeSame
import Derived.ChangeArms
import Derived.Deep.Slices
/- LaidE: what the row's list says of the package variable that errors.As reads; a world that meets it. -/
namespace Go.Proofs.YtofkiaeocfpkeaaGreatDoor
open Go.ChangeShapes Go.WideShapes Go.ChangeAt Go.RowKit

theorem q_et : Tryz.prog.globalNamed "errors.errorType" = some 1 := by kernel_rfl
theorem q_rt : (Tryz.prog.cutTypes.find? (·.1 == "internal/reflectlite.rtype")).map (·.2) = some 221 := by kernel_rfl
theorem q_oneRow : ((List.range 270).filter fun t => Tryz.prog.rowNamed t [101, 114, 114, 111, 114]) = [67] := by kernel_rfl
theorem q_size : Tryz.prog.types.size = 270 := by kernel_rfl
def listedE : List (String × DataW Unit) := [("errors.errorType", Rows.laid_errors_errorType)]
/-- What the condition gives a walk: the variable's one cell. -/
theorem ety_of_laidE {W : World} (h : laidMetH Tryz.prog listedE W) : ETy W := by
  have h' : laidMet Tryz.prog [] W ∧ handlesMet Tryz.prog listedE W := h
  obtain ⟨name, u, ty, e1, e2, e3, e4, e5⟩ := h'.2 _ (List.mem_singleton.2 rfl)
  have en : name = [101, 114, 114, 111, 114] := (Option.some.inj e1).symm
  subst en
  obtain rfl := Option.some.inj (q_rt.symm.trans e2)
  have hm : ty ∈ (List.range 270).filter fun t => Tryz.prog.rowNamed t [101, 114, 114, 111, 114] := List.mem_filter.2 ⟨List.mem_range.2 (by rw [← q_size]; exact e3), e4⟩
  rw [q_oneRow] at hm
  obtain rfl := List.mem_singleton.1 hm
  have hh : typeHandle Tryz.prog 67 = .pointer (some ⟨3, 67, none⟩) := by kernel_rfl
  rw [hh] at e5
  unfold ETy
  simpa using World.var?_cell q_et e5 0
/-- A world that meets the condition: the settled one, the variable's cell laid. -/
noncomputable def laidWorldE (os : Os) : World :=
  let w0 := World.holding Tryz.prog os ⟨#[], #[], []⟩
  { w0 with heap := w0.heap.modify 1 fun
      | .cells _ t frozen => .cells #[.iface 221 (.agg #[.pointer (some ⟨3, 67, none⟩)])] t frozen
      | o => o }
theorem laid_metE (os : Os) (args : Array Value) : laidMetH Tryz.prog listedE ((laidWorldE os).forCall (fun _ _ => 0) ⟨#[], args, []⟩).memory :=
  laidMetH_of_parts (laidMet_nil _ _) (by kernel_rfl)
end Go.Proofs.YtofkiaeocfpkeaaGreatDoor

/- FirstG: schema's firstFault and Check at any document. -/
namespace Go.Proofs.YtofkiaeocfpkeaaGreatDoor
open Go.RowKit

theorem opened_lt (l : List Tok) (p : Nat) (hp : p ≤ l.length) : ∀ x ∈ opened l (p : Int), 0 ≤ x ∧ x < (p : Int) := by
  rw [opened_nat l p hp]
  exact openL_fits (l.take p) 0 [] (p : Int) (by rw [List.length_take]; omega) (fun x hx => by cases hx)
theorem opened_later (l : List Tok) (q : Nat) : ∀ (d : Nat), q + d ≤ l.length → ∀ x ∈ opened l ((q + d : Nat) : Int), x ∈ opened l (q : Int) ∨ (q : Int) ≤ x := by
  intro d
  induction d with
  | zero => intro _ x hx; exact .inl hx
  | succ d ih =>
    intro hd x hx
    obtain ⟨y, hy⟩ : ∃ y, l[q + d]? = some y := ⟨_, List.getElem?_eq_getElem (by omega)⟩
    have e := opened_succ l (q + d) y hy
    rw [show q + (d + 1) = q + d + 1 by omega, e] at hx
    unfold turn at hx
    split at hx
    · rcases List.mem_append.1 hx with hx | hx
      · exact ih (by omega) x hx
      · rw [List.mem_singleton] at hx
        subst hx
        exact .inr (by omega)
    · split at hx
      · exact ih (by omega) x (List.dropLast_subset _ hx)
      · exact ih (by omega) x hx
/-- The innermost at a place is a TOpen ahead of it. -/
theorem opened_kind (l : List Tok) : ∀ (p : Nat), p ≤ l.length → ∀ x ∈ opened l (p : Int), kindAt l x.toNat = 1 := by
  intro p
  induction p with
  | zero => intro _ x hx; rw [show ((0 : Nat) : Int) = 0 from rfl, opened_zero] at hx; cases hx
  | succ p ih =>
    intro hp x hx
    obtain ⟨y, hy⟩ : ∃ y, l[p]? = some y := ⟨_, List.getElem?_eq_getElem (by omega)⟩
    rw [opened_succ l p y hy] at hx
    unfold turn at hx
    split at hx
    · rename_i hk
      rcases List.mem_append.1 hx with hx | hx
      · exact ih (by omega) x hx
      · rw [List.mem_singleton] at hx
        subst hx
        rw [Int.toNat_natCast, kindAt_some hy]
        exact hk
    · split at hx
      · exact ih (by omega) x (List.dropLast_subset _ hx)
      · exact ih (by omega) x hx
theorem around_in (l : List Tok) (p : Nat) (h : around l (p : Int) ≠ -1) : around l (p : Int) ∈ opened l (p : Int) := by
  unfold around at h ⊢
  cases hg : (opened l (p : Int)).getLast? with
  | none => rw [hg] at h; exact absurd rfl h
  | some x => exact List.mem_of_getLast? hg
theorem kidsL_keep (l : List Tok) (i : Int) : ∀ (f k : Nat) (out : List Int), ∀ x ∈ out, x ∈ kidsL l i k f out := by
  intro f
  induction f with
  | zero => intro k out x hx; rw [kidsL]; exact hx
  | succ f ih =>
    intro k out x hx
    rw [kidsL]
    split
    · exact hx
    · refine ih (k + 1) _ x ?_
      split
      · exact List.mem_append_left _ hx
      · exact hx
theorem kidsL_has (l : List Tok) (i : Int) (m : Nat) (hm : kindAt l m ≠ 2 ∧ 0 ≤ kindAt l m ∧ kindAt l m ≤ 3 ∧ around l m = i) : ∀ (f k : Nat) (out : List Int), (∀ j, k ≤ j → j < m → ¬ (kindAt l j = 2 ∧ around l j = i ∧ 0 ≤ i)) → k ≤ m → m < k + f → (m : Int) ∈ kidsL l i k f out := by
  intro f
  induction f with
  | zero => intro k out _ h1 h2; omega
  | succ f ih =>
    intro k out hno h1 h2
    rw [kidsL]
    by_cases e : k = m
    · subst e
      rw [if_neg (fun h => hm.1 h.1), if_pos hm]
      exact kidsL_keep l i f (k + 1) _ _ (List.mem_append_right _ (List.mem_singleton.2 rfl))
    · rw [if_neg (hno k (Nat.le_refl _) (by omega))]
      exact ih (k + 1) _ (fun j hj => hno j (by omega)) (by omega) (by omega)
/-- What stands at a place is of the kids of the innermost there. -/
theorem kids_has (l : List Tok) (m : Nat) (hm : m < l.length) (hk : kindAt l m ≠ 2 ∧ 0 ≤ kindAt l m ∧ kindAt l m ≤ 3) : (m : Int) ∈ kids l (around l (m : Int)) := by
  by_cases hq : around l (m : Int) = -1
  · rw [hq]
    unfold kids
    rw [if_neg (by omega)]
    exact kidsL_has l (-1) m ⟨hk.1, hk.2.1, hk.2.2, hq⟩ _ _ _ (fun j _ _ h => absurd h.2.2 (by decide)) (by omega) (by omega)
  · have hin := around_in l m hq
    obtain ⟨h0, h1⟩ := opened_lt l m (by omega) _ hin
    have hkd := opened_kind l m (by omega) _ hin
    obtain ⟨n, hn⟩ : ∃ n : Nat, around l (m : Int) = (n : Int) := ⟨(around l (m : Int)).toNat, by omega⟩
    rw [hn] at h1 hkd hin ⊢
    rw [Int.toNat_natCast] at hkd
    unfold kids
    rw [if_neg (by rw [Int.toNat_natCast]; omega)]
    refine kidsL_has l (n : Int) m ⟨hk.1, hk.2.1, hk.2.2, hn⟩ _ _ _ (fun j hj hjm h => ?_) (by omega) (by omega)
    -- it was ended ahead of m
    obtain ⟨hj2, hja, _⟩ := h
    obtain ⟨y, hy⟩ : ∃ y, l[j]? = some y := ⟨_, List.getElem?_eq_getElem (by omega)⟩
    have e1 := around_last l j (by omega) n hja
    have e2 := opened_succ l j y hy
    rw [kindAt_some hy] at hj2
    unfold turn at e2
    rw [if_neg (by omega), if_pos hj2, e1, List.dropLast_concat] at e2
    have := opened_later l (j + 1) (m - (j + 1)) (by omega) (n : Int) (by rw [show j + 1 + (m - (j + 1)) = m by omega]; exact hin)
    rcases this with h3 | h3
    · rw [e2] at h3
      have := (opened_lt l n (by omega) _ h3).2
      omega
    · omega
theorem kidsL_rise (l : List Tok) (i : Int) : ∀ (f k : Nat) (out : List Int), out.Pairwise (· < ·) → (∀ x ∈ out, x < (k : Int)) → (kidsL l i k f out).Pairwise (· < ·) := by
  intro f
  induction f with
  | zero => intro k out h _; rw [kidsL]; exact h
  | succ f ih =>
    intro k out h hk
    rw [kidsL]
    split
    · exact h
    · split
      · refine ih (k + 1) _ ?_ ?_
        · rw [List.pairwise_append]
          exact ⟨h, List.pairwise_singleton _ _, fun x hx y hy => by rw [List.mem_singleton] at hy; subst hy; exact hk x hx⟩
        · intro x hx
          rcases List.mem_append.1 hx with hx | hx
          · have := hk x hx; omega
          · rw [List.mem_singleton] at hx; subst hx; omega
      · exact ih (k + 1) _ h (fun x hx => by have := hk x hx; omega)
theorem kids_rise (l : List Tok) (i : Int) : (kids l i).Pairwise (· < ·) := by
  unfold kids
  split
  · exact List.Pairwise.nil
  · exact kidsL_rise l i _ _ _ List.Pairwise.nil (fun x hx => by cases hx)
/-- What stands ahead of the fault fits. -/
theorem fault_fits {ks : List KindD} {gs : List Grp} {t : DataW Unit} {s : SpecD} {l : List Tok} {i : Int} {p : Int} (hp : p ∈ kids l i) (hlt : p < faultD ks gs t s l i) : fitsB ks s ((l[p.toNat]?).getD ⟨0, 0, 0, 0⟩) = true := by
  have hr := kids_rise l i
  unfold faultD at hlt
  obtain ⟨m, hm⟩ := List.getElem?_of_mem hp
  have key : ∀ (f j : Nat), j + f = (kids l i).length → j ≤ m → p < faultK ks gs t s l i (kids l i) j f → fitsB ks s ((l[p.toNat]?).getD ⟨0, 0, 0, 0⟩) = true := by
    intro f
    induction f with
    | zero => intro j hj hjm _; have := (List.getElem?_eq_some_iff.1 hm).1; omega
    | succ f ih =>
      intro j hj hjm hl
      rw [faultK] at hl
      split at hl
      · rename_i hfit
        by_cases e : j = m
        · subst e
          rw [List.getD_eq_getElem?_getD, hm] at hfit
          exact hfit
        · exact ih (j + 1) (by omega) (by omega) hl
      · exfalso
        have hjl : j < (kids l i).length := by omega
        have hge : (kids l i).getD j 0 ≤ p := by
          rw [List.getD_eq_getElem?_getD, List.getElem?_eq_getElem hjl]
          show (kids l i)[j] ≤ p
          obtain ⟨hml, hme⟩ := List.getElem?_eq_some_iff.1 hm
          by_cases e : j = m
          · subst e; rw [hme]; exact Int.le_refl _
          · have := List.pairwise_iff_getElem.1 hr j m hjl hml (by omega)
            rw [hme] at this
            omega
        omega
  exact key _ 0 (by omega) (Nat.zero_le _) hlt
/-- A TOpen that comes up ahead of all faults is of a type that the schema has. -/
theorem type_known {ks : List KindD} {gs : List Grp} {ts : List (DataW Unit)} {l : List Tok} (hg : ∀ (k : Nat), k < l.length → 0 ≤ kindAt l k ∧ kindAt l k ≤ 3) (i : Nat) (x : Tok) (f : Int) (hx : l[i]? = some x) (hk : x.k = 1) (hif : (i : Int) < f) (hw : f ≤ faultD ks gs (ts.getD 0 emptyT) (specOf ks 0) l (-1)) (hall : ∀ q, q < i → kindAt l q = 1 → f ≤ faultAt ks gs ts l q) : 0 ≤ x.t ∧ x.t < ks.length := by
  have hil := (List.getElem?_eq_some_iff.1 hx).1
  have hki := kindAt_some hx
  have hmem := kids_has l i hil ⟨by rw [hki]; omega, hg i hil⟩
  have fin : ∀ (t : DataW Unit) (s : SpecD), (i : Int) < faultD ks gs t s l (around l (i : Int)) → 0 ≤ x.t ∧ x.t < ks.length := fun t s hlt => by
    have := fault_fits hmem hlt
    rw [Int.toNat_natCast, hx] at this
    unfold fitsB at this
    rw [if_neg (show ¬ ((some x).getD ⟨0, 0, 0, 0⟩).k = 0 by show ¬ x.k = 0; omega)] at this
    split at this
    · rename_i h
      have h' : 1 ≤ x.t ∧ x.t < ks.length := h
      omega
    · cases this
  by_cases hq : around l (i : Int) = -1
  · rw [hq] at fin
    exact fin _ _ (Int.lt_of_lt_of_le hif hw)
  · have hin := around_in l i hq
    obtain ⟨h0, h1⟩ := opened_lt l i (by omega) _ hin
    have hkd := opened_kind l i (by omega) _ hin
    obtain ⟨n, hn⟩ : ∃ n : Nat, around l (i : Int) = (n : Int) := ⟨(around l (i : Int)).toNat, by omega⟩
    rw [hn] at fin h1 hkd
    rw [Int.toNat_natCast] at hkd
    have := hall n (by omega) hkd
    unfold faultAt at this
    exact fin _ _ (Int.lt_of_lt_of_le hif this)
theorem goes_right : ∀ (l : List Tok) (d e : Int), goes l d = some e → ∀ x ∈ l, rightT x = true := by
  intro l
  induction l with
  | nil => intro d e _ x hx; cases hx
  | cons y r ih =>
    intro d e h x hx
    obtain ⟨h1, _, h3⟩ := goes_cons h
    rcases List.mem_cons.1 hx with rfl | hx
    · unfold wrong at h1
      simp only [Bool.or_eq_false_iff, Bool.not_eq_false'] at h1
      exact h1.1
    · exact ih _ _ h3 x hx
theorem kinds_rightS {l : List Tok} (h : goes l 0 = some 0) : ∀ (k : Nat), k < l.length → 0 ≤ kindAt l k ∧ kindAt l k ≤ 3 := by
  intro k hk
  obtain ⟨x, hx⟩ : ∃ x, l[k]? = some x := ⟨_, List.getElem?_eq_getElem hk⟩
  rw [kindAt_some hx]
  have := goes_right l 0 0 h x (List.mem_of_getElem? hx)
  unfold rightT at this
  split at this
  · omega
  · split at this
    · omega
    · split at this
      · omega
      · cases this
set_option maxRecDepth 100000 in
set_option maxHeartbeats 600000 in
theorem firstfault_any {B g c ng nc : Nat} {ks : List KindD} {gs : List Grp} {ts : List (DataW Unit)} (w : World) (h : SchAt w B g c ng nc ks gs ts) (h0 : 0 < ks.length) (a : Option Addr) (len cap : Nat) (l : List Tok) (hl : Toks w a len l) (hlie : Lies a len cap) (hsz : len ≤ 2048) (hty : ∀ (i : Nat) (x : Tok) (f : Int), l[i]? = some x → x.k = 1 → (i : Int) < f → f ≤ faultD ks gs (ts.getD 0 emptyT) (specOf ks 0) l (-1) → (∀ q, q < i → kindAt l q = 1 → f ≤ faultAt ks gs ts l q) → 0 ≤ x.t ∧ x.t < ks.length) :
    Calls Tryz.prog 51 #[.pointer (some ⟨B, 0, none⟩), .slice a len cap] w fun e w' => e = .returned (.int .i64 (firstS ks gs ts l)) ∧ Below w.heap.size w w' := by
  have hll := hl.1
  have HF0 : Hid (Calls Tryz.prog 99 #[.pointer (some ⟨B, 0, none⟩), .slice a len cap, .int .i64 (-1)] w fun e w' => e = .returned (.int .i64 (faultD ks gs (ts.getD 0 emptyT) (specOf ks 0) l (-1))) ∧ Below w.heap.size w w') :=
    faultin_calls w h h0 a len cap l hl hlie hsz (-1) 0 _ (getD_at (by have := h.len; omega)) (fun X hX => kindat_out X (h.below hX) h0 _) (by have := kids_few l (-1); omega) (fun p hp => by have := kids_in l (-1) p hp; omega)
  have HFI : Hid (∀ (X : World) (i : Nat) (x : Tok), Below w.heap.size w X → l[i]? = some x → x.k = 1 → (0 ≤ x.t ∧ x.t < ks.length) → Calls Tryz.prog 99 #[.pointer (some ⟨B, 0, none⟩), .slice a len cap, .int .i64 (i : Int)] X fun e w' => e = .returned (.int .i64 (faultAt ks gs ts l i)) ∧ Below X.heap.size X w') := fun X i x hX hx _ ⟨t0, t1⟩ => by
    have hta : typeAt l (i : Int) = x.t := by unfold typeAt; rw [Int.toNat_natCast, hx]; rfl
    unfold faultAt
    rw [hta]
    exact faultin_calls X (h.below hX) h0 a len cap l (hl.below hX) hlie hsz (i : Int) x.t.toNat _ (getD_at (by have := h.len; omega)) (fun Y hY => kindat_in Y (h.below (hX.trans (hY.mono hX.size))) a len cap l (hl.below (hX.trans (hY.mono hX.size))) hsz i x hx t0 t1) (by have := kids_few l i; omega) (fun p hp => by have := kids_in l i p hp; omega)
  have HL : Hid (∀ (X : World) (p : Nat), Below w.heap.size w X → p < len → ∃ b o y, a = some ⟨b, o, none⟩ ∧ l[p]? = some y ∧ X.cell? ⟨b, o + p * 4, none⟩ = some (.int .i64 y.k) ∧ X.cell? ⟨b, o + p * 4 + 1, none⟩ = some (.int .i64 y.t) ∧ X.cell? ⟨b, o + p * 4 + 2, none⟩ = some (.int .i64 y.n) ∧ X.cell? ⟨b, o + p * 4 + 3, none⟩ = some (.int .i64 y.m)) := fun X p hX hp => by
    obtain ⟨b, o, y, h1, _, h3, h4⟩ := hl.token hp
    obtain ⟨d1, d2, d3, d4⟩ := h4 X hX
    exact ⟨b, o, y, h1, h3, d1, d2, d3, d4⟩
  have HTY := Hid.mk_ hty
  unfold firstS
  obtain ⟨f0, hf0⟩ : ∃ f0, faultD ks gs (ts.getD 0 emptyT) (specOf ks 0) l (-1) = f0 := ⟨_, rfl⟩
  rw [hf0] at HF0 HTY ⊢
  rw [hll]
  have hli : (len : Int) ≤ 2048 := by omega
  clear h hl hlie hty hf0
  go_enter Tryz.func51, Tryz.ntmps51
  go_wp2_with fail
  refine HF0.out.mono ?_
  rintro e W1 ⟨rfl, hB1⟩
  have HB1 := Hid.mk_ hB1
  clear hB1 HF0
  go_wp2
  go_loopg [5, 13] (len + 1) (fun gk u v wr => ∃ (i : Nat) (f : Int), i ≤ len ∧ len < i + gk ∧ u = .int .i64 f ∧ v = .int .i64 (i : Int) ∧ foldF ks gs ts l i (len - i) f = foldF ks gs ts l 0 len f0 ∧ (f ≤ f0 ∧ ∀ q, q < i → kindAt l q = 1 → f ≤ faultAt ks gs ts l q) ∧ Below w.heap.size w wr)
  case atStart => exact ⟨0, f0, Nat.zero_le _, by omega, rfl, rfl, by rw [Nat.sub_zero], ⟨Int.le_refl _, fun q hq => by omega⟩, HB1.out⟩
  case round =>
    obtain ⟨i, f, hi, hgk, rfl, rfl, hF, ⟨hle, hall⟩, hB⟩ := hrel
    have HIN : Hid (f ≤ f0 ∧ ∀ q, q < i → kindAt l q = 1 → f ≤ faultAt ks gs ts l q) := ⟨hle, hall⟩
    clear hle hall
    clear HB1
    by_cases hlt : i < len
    · obtain ⟨b, o, y, rfl, hy, d1, d2, d3, d4⟩ := HL.out wr i hB hlt
      have hii : (i : Int) < (len : Int) := by omega
      have hi0 : (0 : Int) ≤ (i : Int) := by omega
      have hd : decide ((i : Int) < (len : Int)) = true := by simpa using hii
      have hst : len - i = (len - (i + 1)) + 1 := by omega
      rw [hst, foldF, kindAt_some hy] at hF
      obtain ⟨V, hV⟩ : ∃ V, V = wr.alloc (.cells #[.int .i64 y.k, .int .i64 y.t, .int .i64 y.n, .int .i64 y.m] 62) := ⟨_, rfl⟩
      have hBV : Below w.heap.size w V := by rw [hV]; exact hB.alloc hB.size _
      have m0 : V.heap[wr.heap.size]? = some (.cells #[.int .i64 y.k, .int .i64 y.t, .int .i64 y.n, .int .i64 y.m] 62 (0, 0)) := by rw [hV]; exact World.alloc_heap_new wr _
      have k0 : V.cell? ⟨wr.heap.size, 0, none⟩ = some (.int .i64 y.k) := cell_of_row V wr.heap.size 0 _ _ _ m0
      have HV : Hid (wr.alloc (.cells #[.int .i64 y.k, .int .i64 y.t, .int .i64 y.n, .int .i64 y.m] 62) = V) := hV.symm
      have HBV := Hid.mk_ hBV
      by_cases dg : f ≤ (i : Int)
      · have hdg : decide (f ≤ (i : Int)) = true := by simpa using dg
        have HE : Hid (foldF ks gs ts l 0 len f0 = f) := by rw [if_pos dg] at hF; exact hF.symm
        have HBA : Hid (∀ o, Below w.heap.size w (wr.alloc o)) := fun o => hB.alloc hB.size o
        clear hF hB hBV m0 hV hst hy
        go_wp2
        go_ret
        exact ⟨by rw [HE.out]; rfl, HBA.out _⟩
      · have hdg : decide (f ≤ (i : Int)) = false := by simpa using dg
        rw [if_neg dg] at hF
        by_cases dk : y.k = 1
        · have hdk : (y.k == 1) = true := by simpa using dk
          rw [if_pos dk] at hF
          have HFX := HFI.out V i y hBV hy dk (HTY.out i y f hy dk (by omega) HIN.out.1 HIN.out.2)
          have HINN : Hid (min f (faultAt ks gs ts l i) ≤ f0 ∧ ∀ q, q < i + 1 → kindAt l q = 1 → min f (faultAt ks gs ts l i) ≤ faultAt ks gs ts l q) := ⟨by have := HIN.out.1; omega, fun q hq hk => by
            by_cases e : q = i
            · subst e; omega
            · have := HIN.out.2 q (by omega) hk; omega⟩
          have HFF := Hid.mk_ hF
          obtain ⟨fa, hfa⟩ : ∃ fa, faultAt ks gs ts l i = fa := ⟨_, rfl⟩
          rw [hfa] at HFX HFF HINN
          clear hfa
          clear hF hB hBV m0 hV hst hy dk dg
          go_wp2_with fail
          rw [HV.out]
          refine HFX.mono ?_
          rintro e W3 ⟨rfl, hB3⟩
          have HB3 := Hid.mk_ (HBV.out.trans (hB3.mono HBV.out.size))
          clear hB3 HFX
          go_wp2
          go_roundg (len - i)
          case measure => omega
          case rel => exact ⟨i + 1, min f fa, by omega, by omega, by first | rfl | (congr 1; omega), by first | rfl | go_num, HFF.out, HINN.out, HB3.out⟩
        · have hdk : (y.k == 1) = false := by simpa using dk
          rw [if_neg dk] at hF
          have HINN : Hid (f ≤ f0 ∧ ∀ q, q < i + 1 → kindAt l q = 1 → f ≤ faultAt ks gs ts l q) := ⟨HIN.out.1, fun q hq hk => by
            by_cases e : q = i
            · subst e; rw [kindAt_some hy] at hk; exact absurd hk dk
            · exact HIN.out.2 q (by omega) hk⟩
          have HFF := Hid.mk_ hF
          have HBA : Hid (∀ o, Below w.heap.size w (wr.alloc o)) := fun o => hB.alloc hB.size o
          clear hF hB hBV m0 hV hst hy dk dg
          go_wp2
          go_roundg (len - i)
          case measure => omega
          case rel => exact ⟨i + 1, f, by omega, by omega, rfl, by first | rfl | go_num, HFF.out, HINN.out, HBA.out _⟩
    · obtain rfl : i = len := by omega
      have hd : decide ((i : Int) < (i : Int)) = false := by simp
      have HE : Hid (foldF ks gs ts l 0 i f0 = f ∧ Below w.heap.size w wr) := by
        rw [Nat.sub_self, foldF] at hF
        exact ⟨hF.symm, hB⟩
      clear hF hB
      go_wp2
      go_ret
      exact ⟨by rw [HE.out.1]; rfl, HE.out.2⟩
set_option maxRecDepth 100000 in
set_option maxHeartbeats 600000 in
theorem scheck_any {B g c ng nc : Nat} {ks : List KindD} {gs : List Grp} {ts : List (DataW Unit)} (w : World) (h : SchAt w B g c ng nc ks gs ts) (h0 : 0 < ks.length) (a : Option Addr) (len cap : Nat) (l : List Tok) (hl : Toks w a len l) (hlie : Lies a len cap) (hsz : len ≤ 4398046511104) :
    Calls Tryz.prog 18 #[.pointer (some ⟨B, 0, none⟩), .slice a len cap] w fun e w' => e = .returned (.tuple #[.int .i64 (checkS ks gs ts l).1, .int .i64 (checkS ks gs ts l).2]) ∧ Below w.heap.size w w' := by
  have HM := Hid.mk_ (ismade_calls w h h0)
  have HC : Hid (Calls Tryz.prog 31 #[.slice a len cap] w fun e w' => e = .returned (.tuple #[.int .i64 (check l).1, .int .i64 (check l).2]) ∧ Below w.heap.size w w') := fcheck_calls a len cap l w hl hsz
  have hll := hl.1
  obtain ⟨ca, cb, hc⟩ : ∃ ca cb, check l = (ca, cb) := ⟨_, _, rfl⟩
  have HFF : Hid (cb = 0 → ∀ X, Below w.heap.size w X → Calls Tryz.prog 51 #[.pointer (some ⟨B, 0, none⟩), .slice a len cap] X fun e w' => e = .returned (.int .i64 (firstS ks gs ts l)) ∧ Below X.heap.size X w') := fun hz X hX => by
    have hc2 : (check l).2 = 0 := by rw [hc]; exact hz
    have h20 := ((check_ok l).1 hc2).1
    exact firstfault_any X (h.below hX) h0 a len cap l (hl.below hX) hlie (by omega) (type_known (kinds_rightS ((check_ok l).1 hc2).2))
  unfold checkS
  rw [hc] at HC ⊢
  dsimp only at HC ⊢
  generalize firstS ks gs ts l = ff at *
  rw [hll]
  have hli : (len : Int) ≤ 4398046511104 := by omega
  clear h hl hlie hc hll
  by_cases d0 : cb ≠ 0
  · rw [if_pos d0]
    have e0 : (cb == 0) = false := by simpa using d0
    have e1 : (cb != 0) = true := by simp [bne, e0]
    clear HFF
    go_enter Tryz.func18, Tryz.ntmps18
    go_wp2_with fail
    refine HM.out.mono ?_
    rintro e W ⟨rfl, rfl⟩
    go_wp2_with fail
    refine HC.out.mono ?_
    rintro e W1 ⟨rfl, hB1⟩
    have HB1 := Hid.mk_ hB1
    clear hB1 HC HM
    go_wp2
    go_ret2
    exact ⟨rfl, HB1.out⟩
  · rw [if_neg d0]
    have d0 : cb = 0 := Classical.not_not.1 d0
    subst d0
    have e1 : ((0 : Int) != 0) = false := rfl
    have HF := Hid.mk_ (HFF.out rfl)
    clear HFF
    by_cases d1 : ff ≠ 2049
    · rw [if_pos d1]
      have e2 : (ff == 2049) = false := by simpa using d1
      have e3 : (ff != 2049) = true := by simp [bne, e2]
      go_enter Tryz.func18, Tryz.ntmps18
      go_wp2_with fail
      refine HM.out.mono ?_
      rintro e W ⟨rfl, rfl⟩
      go_wp2_with fail
      refine HC.out.mono ?_
      rintro e W1 ⟨rfl, hB1⟩
      have HB1 := Hid.mk_ hB1
      have HF1 := HF.out W1 hB1
      clear hB1 HC HM HF
      go_wp2_with fail
      refine HF1.mono ?_
      rintro e W2 ⟨rfl, hB2⟩
      have HB2 := Hid.mk_ (HB1.out.trans (hB2.mono HB1.out.size))
      clear hB2 HF1
      go_wp2
      go_ret2
      exact ⟨rfl, HB2.out⟩
    · rw [if_neg d1]
      have d1 : ff = 2049 := Classical.not_not.1 d1
      subst d1
      have e3 : ((2049 : Int) != 2049) = false := rfl
      go_enter Tryz.func18, Tryz.ntmps18
      go_wp2_with fail
      refine HM.out.mono ?_
      rintro e W ⟨rfl, rfl⟩
      go_wp2_with fail
      refine HC.out.mono ?_
      rintro e W1 ⟨rfl, hB1⟩
      have HB1 := Hid.mk_ hB1
      have HF1 := HF.out W1 hB1
      clear hB1 HC HM HF
      go_wp2_with fail
      refine HF1.mono ?_
      rintro e W2 ⟨rfl, hB2⟩
      have HB2 := Hid.mk_ (HB1.out.trans (hB2.mono HB1.out.size))
      clear hB2 HF1
      go_wp2
      go_ret2
      exact ⟨rfl, HB2.out⟩
end Go.Proofs.YtofkiaeocfpkeaaGreatDoor

/- Bfs: words by their length and then type by type; a search through words, the short ones first, finds the least. -/
namespace Go.Proofs.YtofkiaeocfpkeaaGreatDoor

/-- Ahead, of two words as long. -/
def lexLt : List Int → List Int → Prop
  | a :: x, b :: y => a < b ∨ (a = b ∧ lexLt x y)
  | _, _ => False
/-- Shorter, or as long and ahead. -/
def shLt (x y : List Int) : Prop := x.length < y.length ∨ (x.length = y.length ∧ lexLt x y)
def shLe (x y : List Int) : Prop := x = y ∨ shLt x y
theorem lexLt_irr : ∀ x : List Int, ¬ lexLt x x := by
  intro x
  induction x with
  | nil => exact fun h => h
  | cons a r ih =>
    rintro (h | h)
    · omega
    · exact ih h.2
theorem lexLt_trans : ∀ {x y z : List Int}, lexLt x y → lexLt y z → lexLt x z := by
  intro x
  induction x with
  | nil => intro y z h; exact h.elim
  | cons a r ih =>
    intro y z h1 h2
    cases y with
    | nil => exact h1.elim
    | cons b y =>
      cases z with
      | nil => exact h2.elim
      | cons c z =>
        rcases h1 with h1 | ⟨rfl, h1⟩
        · rcases h2 with h2 | ⟨rfl, h2⟩
          · exact .inl (by omega)
          · exact .inl h1
        · rcases h2 with h2 | ⟨rfl, h2⟩
          · exact .inl h2
          · exact .inr ⟨rfl, ih h1 h2⟩
theorem shLt_trans {x y z : List Int} (h1 : shLt x y) (h2 : shLt y z) : shLt x z := by
  rcases h1 with h1 | ⟨h1, g1⟩
  · rcases h2 with h2 | ⟨h2, _⟩
    · exact .inl (by omega)
    · exact .inl (by omega)
  · rcases h2 with h2 | ⟨h2, g2⟩
    · exact .inl (by omega)
    · exact .inr ⟨by omega, lexLt_trans g1 g2⟩
theorem shLt_irr (x : List Int) : ¬ shLt x x := by
  rintro (h | h)
  · omega
  · exact lexLt_irr x h.2
theorem shLe_trans {x y z : List Int} (h1 : shLe x y) (h2 : shLe y z) : shLe x z := by
  rcases h1 with rfl | h1
  · exact h2
  · rcases h2 with rfl | h2
    · exact .inr h1
    · exact .inr (shLt_trans h1 h2)
theorem shLe_anti {x y : List Int} (h1 : shLe x y) (h2 : shLe y x) : x = y := by
  rcases h1 with h1 | h1
  · exact h1
  · rcases h2 with h2 | h2
    · exact h2.symm
    · exact (shLt_irr x (shLt_trans h1 h2)).elim
theorem shLe_prefix (u v : List Int) : shLe u (u ++ v) := by
  cases v with
  | nil => rw [List.append_nil]; exact .inl rfl
  | cons a r => exact .inr (.inl (by rw [List.length_append, List.length_cons]; omega))
theorem lexLt_snoc : ∀ {x y : List Int} (a b : Int), lexLt x y → lexLt (x ++ [a]) (y ++ [b]) := by
  intro x
  induction x with
  | nil => intro y a b h; exact h.elim
  | cons c r ih =>
    intro y a b h
    cases y with
    | nil => exact h.elim
    | cons d y =>
      rcases h with h | ⟨h, h'⟩
      · exact .inl h
      · exact .inr ⟨h, ih a b h'⟩
theorem lexLt_last : ∀ (x : List Int) {a b : Int}, a < b → lexLt (x ++ [a]) (x ++ [b]) := by
  intro x
  induction x with
  | nil => intro a b h; exact .inl h
  | cons c r ih => intro a b h; exact .inr ⟨rfl, ih h⟩
theorem shLt_snoc {x y : List Int} (a b : Int) (h : shLt x y) : shLt (x ++ [a]) (y ++ [b]) := by
  rcases h with h | ⟨h, g⟩
  · exact .inl (by simp only [List.length_append, List.length_singleton]; omega)
  · exact .inr ⟨by simp only [List.length_append, List.length_singleton]; omega, lexLt_snoc a b g⟩
theorem shLe_snoc {x y : List Int} (a : Int) (h : shLe x y) : shLe (x ++ [a]) (y ++ [a]) := by
  rcases h with rfl | h
  · exact .inl rfl
  · exact .inr (shLt_snoc a a h)
theorem shLt_last (x : List Int) {a b : Int} (h : a < b) : shLt (x ++ [a]) (x ++ [b]) := .inr ⟨by simp, lexLt_last x h⟩
theorem shLt_more (x : List Int) (a : Int) : shLt x (x ++ [a]) := .inl (by simp)

/-- The search: the words ws are known, those ahead of i are done, of the one at i the types below t. -/
structure Bfs (A : List Int → Nat → Prop) (ws : List (List Int)) (i t : Nat) : Prop where
  root : ws[0]? = some []
  sorted : ws.Pairwise shLt
  apart : ws.Pairwise (fun u v => A u ≠ A v)
  no : ∀ (j : Nat) u, j < i → ws[j]? = some u → ¬ A u 1
  closed : ∀ (j : Nat) u (s : Nat), (j < i ∨ (j = i ∧ s < t)) → s < 16 → ws[j]? = some u → (∃ q, A (u ++ [(s : Int)]) q) → ∃ v ∈ ws, A v = A (u ++ [(s : Int)]) ∧ shLe v (u ++ [(s : Int)])
  upper : ∀ u, ws[i]? = some u → ∀ v ∈ ws, shLt v (u ++ [(t : Int)])
  long : ∀ u ∈ ws, u = [] ∨ ∃ v x, u = v ++ [x]
theorem Bfs.first (A : List Int → Nat → Prop) : Bfs A [[]] 0 0 where
  root := rfl
  sorted := List.pairwise_singleton _ _
  apart := List.pairwise_singleton _ _
  no := fun j u h => by omega
  closed := fun j u s h => by omega
  upper := fun u hu v hv => by
    cases hu
    rw [List.mem_singleton] at hv
    subst hv
    exact shLt_more [] _
  long := fun u hu => .inl (List.mem_singleton.1 hu)
theorem Bfs.skip {A : List Int → Nat → Prop} {ws : List (List Int)} {i t : Nat} (h : Bfs A ws i t) {u : List Int} (hu : ws[i]? = some u) (hn : ¬ ∃ q, A (u ++ [(t : Int)]) q) : Bfs A ws i (t + 1) where
  root := h.root
  sorted := h.sorted
  apart := h.apart
  no := h.no
  closed := fun j v s hj hs hv hq => by
    by_cases e : j = i ∧ s = t
    · obtain ⟨rfl, rfl⟩ := e
      rw [hu] at hv
      cases hv
      exact (hn hq).elim
    · exact h.closed j v s (by omega) hs hv hq
  upper := fun v hv x hx => by
    rw [hu] at hv
    cases hv
    exact shLt_trans (h.upper u hu x hx) (shLt_last u (by omega))
  long := h.long
theorem Bfs.seen {A : List Int → Nat → Prop} {ws : List (List Int)} {i t : Nat} (h : Bfs A ws i t) {u v : List Int} (hu : ws[i]? = some u) (hv : v ∈ ws) (e : A v = A (u ++ [(t : Int)])) : Bfs A ws i (t + 1) where
  root := h.root
  sorted := h.sorted
  apart := h.apart
  no := h.no
  closed := fun j x s hj hs hx hq => by
    by_cases e' : j = i ∧ s = t
    · obtain ⟨rfl, rfl⟩ := e'
      rw [hu] at hx
      cases hx
      exact ⟨v, hv, e, .inr (h.upper u hu v hv)⟩
    · exact h.closed j x s (by omega) hs hx hq
  upper := fun v hv x hx => by
    rw [hu] at hv
    cases hv
    exact shLt_trans (h.upper u hu x hx) (shLt_last u (by omega))
  long := h.long
theorem Bfs.put {A : List Int → Nat → Prop} {ws : List (List Int)} {i t : Nat} (h : Bfs A ws i t) {u : List Int} (hu : ws[i]? = some u) (hn : ∀ v ∈ ws, A v ≠ A (u ++ [(t : Int)])) : Bfs A (ws ++ [u ++ [(t : Int)]]) i (t + 1) := by
  have hi : i < ws.length := (List.getElem?_eq_some_iff.1 hu).1
  have h0 : 0 < ws.length := by omega
  have low : ∀ {j : Nat} {x : List Int}, j ≤ i → (ws ++ [u ++ [(t : Int)]])[j]? = some x → ws[j]? = some x := fun {j x} hj hx => by
    rw [List.getElem?_append_left (by omega)] at hx
    exact hx
  refine ⟨?_, ?_, ?_, ?_, ?_, ?_, ?_⟩
  · rw [List.getElem?_append_left h0]; exact h.root
  · rw [List.pairwise_append]
    refine ⟨h.sorted, List.pairwise_singleton _ _, fun x hx y hy => ?_⟩
    rw [List.mem_singleton] at hy
    subst hy
    exact h.upper u hu x hx
  · rw [List.pairwise_append]
    refine ⟨h.apart, List.pairwise_singleton _ _, fun x hx y hy => ?_⟩
    rw [List.mem_singleton] at hy
    subst hy
    exact hn x hx
  · exact fun j x hj hx => h.no j x hj (low (by omega) hx)
  · intro j x s hj hs hx hq
    have hx' := low (by omega) hx
    by_cases e' : j = i ∧ s = t
    · obtain ⟨rfl, rfl⟩ := e'
      rw [hu] at hx'
      cases hx'
      exact ⟨u ++ [(s : Int)], List.mem_append_right _ (List.mem_singleton.2 rfl), rfl, .inl rfl⟩
    · obtain ⟨v, hv, e, l⟩ := h.closed j x s (by omega) hs hx' hq
      exact ⟨v, List.mem_append_left _ hv, e, l⟩
  · intro v hv x hx
    have hv' := low (Nat.le_refl _) hv
    rw [hu] at hv'
    cases hv'
    rcases List.mem_append.1 hx with hx | hx
    · exact shLt_trans (h.upper u hu x hx) (shLt_last u (by omega))
    · rw [List.mem_singleton] at hx
      subst hx
      exact shLt_last u (by omega)
  · intro x hx
    rcases List.mem_append.1 hx with hx | hx
    · exact h.long x hx
    · exact .inr ⟨u, _, List.mem_singleton.1 hx⟩
theorem pair_at {R : List Int → List Int → Prop} {ws : List (List Int)} (h : ws.Pairwise R) {i j : Nat} {u v : List Int} (hij : i < j) (hu : ws[i]? = some u) (hv : ws[j]? = some v) : R u v := by
  obtain ⟨h1, e1⟩ := List.getElem?_eq_some_iff.1 hu
  obtain ⟨h2, e2⟩ := List.getElem?_eq_some_iff.1 hv
  have := List.pairwise_iff_getElem.1 h i j h1 h2 hij
  rw [e1, e2] at this
  exact this
theorem Bfs.next {A : List Int → Nat → Prop} {ws : List (List Int)} {i : Nat} (h : Bfs A ws i 16) {u : List Int} (hu : ws[i]? = some u) (hn : ¬ A u 1) : Bfs A ws (i + 1) 0 where
  root := h.root
  sorted := h.sorted
  apart := h.apart
  no := fun j v hj hv => by
    by_cases e : j = i
    · subst e
      rw [hu] at hv
      cases hv
      exact hn
    · exact h.no j v (by omega) hv
  closed := fun j v s hj hs hv hq => h.closed j v s (by omega) hs hv hq
  upper := fun v hv x hx => by
    have huv := pair_at h.sorted (Nat.lt_succ_self i) hu hv
    have hxu := h.upper u hu x hx
    exact shLt_trans hxu (shLt_snoc _ _ huv)
  long := h.long
/-- Some word that is not done yet is no greater than any that comes to the end. -/
theorem Bfs.ahead {A : List Int → Nat → Prop} {ws : List (List Int)} {i : Nat} (h : Bfs A ws i 0) (hA : ∀ u v x, A u = A v → A (u ++ [x]) = A (v ++ [x])) (hs : ∀ u x, (∃ q, A (u ++ [x]) q) → 0 ≤ x ∧ x < 16) (hp : ∀ u v, (∃ q, A (u ++ v) q) → ∃ q, A u q) {ys : List Int} (hy : A ys 1) :
    ∃ (k : Nat) (v : List Int), i ≤ k ∧ ws[k]? = some v ∧ shLe v ys := by
  have go : ∀ (r u : List Int), u ++ r = ys → (∃ (j : Nat) (v : List Int), j < i ∧ ws[j]? = some v ∧ A v = A u ∧ shLe v u) → ∃ (k : Nat) (v : List Int), i ≤ k ∧ ws[k]? = some v ∧ shLe v ys := by
    intro r
    induction r with
    | nil =>
      rintro u e ⟨j, v, hj, hv, ev, _⟩
      rw [List.append_nil] at e
      subst e
      exact (h.no j v hj hv (by rw [ev]; exact hy)).elim
    | cons x r ih =>
      rintro u e ⟨j, v, hj, hv, ev, lv⟩
      have hq : ∃ q, A (u ++ [x]) q := hp (u ++ [x]) r ⟨1, by rw [List.append_assoc, List.singleton_append, e]; exact hy⟩
      obtain ⟨x0, x1⟩ := hs u x hq
      obtain ⟨s, rfl⟩ : ∃ s : Nat, x = (s : Int) := ⟨x.toNat, by omega⟩
      have e1 := hA v u (s : Int) ev
      obtain ⟨v', hv', ev', lv'⟩ := h.closed j v s (.inl hj) (by omega) hv (by rw [e1]; exact hq)
      have l2 : shLe v' (u ++ [(s : Int)]) := shLe_trans lv' (shLe_snoc _ lv)
      obtain ⟨k, hk⟩ := List.getElem?_of_mem hv'
      by_cases hki : k < i
      · exact ih (u ++ [(s : Int)]) (by rw [List.append_assoc, List.singleton_append]; exact e) ⟨k, v', hki, hk, by rw [ev', e1], l2⟩
      · refine ⟨k, v', by omega, hk, shLe_trans l2 ?_⟩
        have := shLe_prefix (u ++ [(s : Int)]) r
        rw [List.append_assoc, List.singleton_append, e] at this
        exact this
  by_cases hi : 0 < i
  · exact go ys [] rfl ⟨0, [], hi, h.root, rfl, .inl rfl⟩
  · exact ⟨0, [], by omega, h.root, shLe_prefix [] ys⟩
theorem Bfs.found {A : List Int → Nat → Prop} {ws : List (List Int)} {i : Nat} (h : Bfs A ws i 0) (hA : ∀ u v x, A u = A v → A (u ++ [x]) = A (v ++ [x])) (hs : ∀ u x, (∃ q, A (u ++ [x]) q) → 0 ≤ x ∧ x < 16) (hp : ∀ u v, (∃ q, A (u ++ v) q) → ∃ q, A u q) {u : List Int} (hu : ws[i]? = some u) {ys : List Int} (hy : A ys 1) : shLe u ys := by
  obtain ⟨k, v, hk, hv, l⟩ := h.ahead hA hs hp hy
  by_cases e : k = i
  · subst e
    rw [hu] at hv
    cases hv
    exact l
  · exact shLe_trans (.inr (pair_at h.sorted (by omega) hu hv)) l
theorem Bfs.none {A : List Int → Nat → Prop} {ws : List (List Int)} {i : Nat} (h : Bfs A ws i 0) (hA : ∀ u v x, A u = A v → A (u ++ [x]) = A (v ++ [x])) (hs : ∀ u x, (∃ q, A (u ++ [x]) q) → 0 ≤ x ∧ x < 16) (hp : ∀ u v, (∃ q, A (u ++ v) q) → ∃ q, A u q) (hi : ws.length ≤ i) {ys : List Int} (hy : A ys 1) : False := by
  obtain ⟨k, v, hk, hv, _⟩ := h.ahead hA hs hp hy
  have := (List.getElem?_eq_some_iff.1 hv).1
  omega

/-- A set of places as a number. -/
noncomputable def code (P : Nat → Prop) : List Nat → Nat
  | [] => 0
  | q :: l => (open Classical in if P q then 1 else 0) + 2 * code P l
theorem code_lt (P : Nat → Prop) : ∀ l : List Nat, code P l < 2 ^ l.length := by
  intro l
  induction l with
  | nil => exact Nat.one_pos
  | cons q l ih =>
    rw [code, List.length_cons, Nat.pow_succ]
    split <;> omega
theorem code_same {P Q : Nat → Prop} : ∀ {l : List Nat}, code P l = code Q l → ∀ q ∈ l, P q ↔ Q q := by
  intro l
  induction l with
  | nil => intro _ q hq; cases hq
  | cons a l ih =>
    intro h q hq
    rw [code, code] at h
    have h2 : code P l = code Q l ∧ (P a ↔ Q a) := by
      by_cases hp : P a
      · by_cases hq : Q a
        · rw [if_pos hp, if_pos hq] at h; exact ⟨by omega, by simp [hp, hq]⟩
        · rw [if_pos hp, if_neg hq] at h; omega
      · by_cases hq : Q a
        · rw [if_neg hp, if_pos hq] at h; omega
        · rw [if_neg hp, if_neg hq] at h; exact ⟨by omega, by simp [hp, hq]⟩
    rcases List.mem_cons.1 hq with rfl | hq
    · exact h2.2
    · exact ih h2.1 q hq
theorem few_nats : ∀ (m : Nat) (l : List Nat), l.Nodup → (∀ x ∈ l, x < m) → l.length ≤ m := by
  intro m
  induction m with
  | zero =>
    intro l _ h
    cases l with
    | nil => exact Nat.le_refl _
    | cons a r => exact absurd (h a (List.mem_cons_self ..)) (Nat.not_lt_zero _)
  | succ m ih =>
    intro l hd h
    have h1 := ih (l.erase m) (hd.sublist List.erase_sublist) (fun x hx => by
      rw [hd.mem_erase_iff] at hx
      have := h x hx.2
      omega)
    have h2 := List.length_erase (a := m) (l := l)
    by_cases hm : m ∈ l
    · rw [if_pos hm] at h2; omega
    · rw [if_neg hm] at h2; omega
/-- The words known are few: what comes behind a type is told by the few places nx. -/
theorem Bfs.few {A : List Int → Nat → Prop} {ws : List (List Int)} {i t : Nat} (h : Bfs A ws i t) (nx : List Nat) (G : List Int → Nat → Prop) (hG : ∀ u v x y, (∀ q ∈ nx, G (u ++ [x]) q ↔ G (v ++ [y]) q) → A (u ++ [x]) = A (v ++ [y])) : ws.length ≤ 2 ^ nx.length + 1 := by
  cases ws with
  | nil => exact Nat.zero_le _
  | cons w0 r =>
    obtain rfl : w0 = [] := by have := h.root; simpa using this
    have hl : ∀ u ∈ r, ∃ v x, u = v ++ [x] := fun u hu => by
      rcases h.long u (List.mem_cons_of_mem _ hu) with rfl | h'
      · exact (shLt_irr [] ((List.pairwise_cons.1 h.sorted).1 [] hu)).elim
      · exact h'
    have hd : (r.map fun u => code (G u) nx).Nodup := by
      unfold List.Nodup
      rw [List.pairwise_map]
      refine List.Pairwise.imp_of_mem ?_ (List.pairwise_cons.1 h.apart).2
      intro u v hu hv hne he
      obtain ⟨u', x, rfl⟩ := hl u hu
      obtain ⟨v', y, rfl⟩ := hl v hv
      exact hne (hG u' v' x y (code_same he))
    have := few_nats (2 ^ nx.length) _ hd (fun x hx => by
      obtain ⟨u, _, rfl⟩ := List.mem_map.1 hx
      exact code_lt _ _)
    rw [List.length_map] at this
    rw [List.length_cons]
    omega
end Go.Proofs.YtofkiaeocfpkeaaGreatDoor

/- Best: what reg.Fill answers is the least of all words that make a word one of the language: the shortest, and of them the first type by type. -/
namespace Go.Proofs.YtofkiaeocfpkeaaGreatDoor
open Go.RowKit

theorem low_step {F : List Place} (hF : wf F) {S : Nat → Prop} {m : Nat} (hm : ∀ p, S p → m + 1 ≤ leastAt F p) (t : Int) : ∀ p, stepS F S t p → m ≤ leastAt F p := by
  rintro r ⟨a, y, s, k, ha, hy, hty, hs, hv⟩
  obtain ⟨q', g1, _, g3⟩ := step_at hF hy (takes_ne hty)
  rw [g1] at hs
  cases hs
  have e1 := hm a ha
  rw [leastAt_some hy] at e1
  have e2 := via_least hF hv
  omega
/-- No word that comes to the end is shorter than what the places need. -/
theorem low_word {F : List Place} (hF : wf F) : ∀ (ys : List Int) (S : Nat → Prop) (m : Nat), (∀ p, S p → m ≤ leastAt F p) → (ys.foldl (stepS F) S) 0 → m ≤ ys.length := by
  intro ys
  induction ys with
  | nil =>
    intro S m hm h
    have := hm 0 h
    rw [leastAt_some hF.1] at this
    exact this
  | cons y r ih =>
    intro S m hm h
    cases m with
    | zero => exact Nat.zero_le _
    | succ m =>
      have := ih (stepS F S y) m (low_step hF hm y) h
      rw [List.length_cons]
      omega
/-- What is taken greedily is the least. -/
theorem greedy_least {F : List Place} (hF : wf F) : ∀ (m : Nat) (S : Nat → Prop) (xs : List Int), Shut1 F S → MinS F S m → Greedy F m S xs → xs.length = m → ∀ ys, (ys.foldl (stepS F) S) 0 → shLe xs ys := by
  intro m
  induction m with
  | zero =>
    intro S xs _ _ h _ ys _
    have h' : xs = [] := h
    rw [h']
    exact shLe_prefix [] ys
  | succ m ih =>
    rintro S xs hS hm ⟨j, r, rfl, ⟨p, x, hp, hx, hl, hb⟩, hno, hr⟩ hlen ys hy
    have hlen' : r.length = m := by rw [List.length_cons] at hlen; omega
    have hj : j < 16 ∨ ¬ j < 16 := Nat.lt_or_ge j 16 |>.imp id (fun h => by omega)
    cases ys with
    | nil =>
      have := (min_zero hF hS hm).2 hy
      omega
    | cons y q =>
      have hq := low_word hF (y :: q) S (m + 1) hm.2 hy
      rw [List.length_cons] at hq
      by_cases hql : q.length = m
      · -- as long: some place on a shortest way takes y
        have hex : ∃ p x, S p ∧ F[p]? = some x ∧ takes x.1 y = true ∧ x.2.2 = m + 1 := by
          refine Classical.byContradiction fun hc => ?_
          have hlow : ∀ p, stepS F S y p → m + 1 ≤ leastAt F p := by
            rintro r' ⟨a, z, s, k, ha, hz, htz, hs, hv⟩
            obtain ⟨q', g1, _, g3⟩ := step_at hF hz (takes_ne htz)
            rw [g1] at hs
            cases hs
            have e1 := hm.2 a ha
            rw [leastAt_some hz] at e1
            have e2 := via_least hF hv
            have e3 : z.2.2 ≠ m + 1 := fun e => hc ⟨a, z, ha, hz, htz, e⟩
            omega
          have := low_word hF q (stepS F S y) (m + 1) hlow hy
          omega
        obtain ⟨p', x', hp', hx', ht', hl'⟩ := hex
        have hty : 0 ≤ y ∧ y < 16 ∧ x'.1.testBit y.toNat = true := by
          unfold takes at ht'
          simp only [Bool.and_eq_true, decide_eq_true_eq] at ht'
          exact ⟨ht'.1.1, ht'.1.2, ht'.2⟩
        have hjy : (j : Int) ≤ y := by
          refine Classical.byContradiction fun hc => ?_
          exact hno y.toNat (by omega) ⟨p', x', hp', hx', hl', hty.2.2⟩
        rcases Int.lt_or_eq_of_le hjy with hlt | heq
        · exact .inr (.inr ⟨by rw [List.length_cons, List.length_cons, hlen', hql], .inl hlt⟩)
        · subst heq
          have hmin := min_step hF hm hp' hx' ht' hl'
          rcases ih (stepS F S (j : Int)) r (stepS_shut _ _ _) hmin hr hlen' q hy with rfl | hs
          · exact .inl rfl
          · refine .inr (.inr ⟨by rw [List.length_cons, List.length_cons, hlen', hql], .inr ⟨rfl, ?_⟩⟩)
            rcases hs with hs | hs
            · omega
            · exact hs.2
      · exact .inr (.inl (by rw [List.length_cons, List.length_cons]; omega))
/-- The least of all that makes zs a word. -/
def BestD (gs : List Grp) (n : Nat) (t : DataW Unit) (zs xs : List Int) : Prop := LangD gs n t (zs ++ xs) ∧ ∀ ys, LangD gs n t (zs ++ ys) → shLe xs ys
theorem best_one {gs : List Grp} {n : Nat} {t : DataW Unit} {zs xs ys : List Int} (h1 : BestD gs n t zs xs) (h2 : BestD gs n t zs ys) : xs = ys := shLe_anti (h1.2 ys h2.1) (h2.2 xs h1.1)
/-- What Fill says, in short. -/
def FilledB (gs : List Grp) (n : Nat) (t : DataW Unit) (zs : List Int) (w w' : World) (e : Ending) : Prop :=
  Below w.heap.size w w' ∧ ((¬ PreD gs n t zs ∧ e = .returned (.tuple #[.slice none 0 0, .bool false])) ∨ (PreD gs n t zs ∧ ∃ (a : Option Addr) (c : Nat) (xs : List Int), e = .returned (.tuple #[.slice a xs.length c, .bool true]) ∧ Ints w' a xs.length xs ∧ BestD gs n t zs xs))
theorem filled_best {gs : List Grp} {n : Nat} {t : DataW Unit} {zs : List Int} {w w' : World} {e : Ending} (hc : chk n t gs = 0) (h : Filled gs n t zs w w' e) : FilledB gs n t zs w w' e := by
  refine ⟨h.1, ?_⟩
  rcases h.2 with h2 | ⟨hp, a, c, xs, m, h1, h2, h3, h4, h5, h6, h7, h8⟩
  · exact .inl h2
  · refine .inr ⟨hp, a, c, xs, h1, h2, h8, fun ys hy => ?_⟩
    refine greedy_least (plan_sound hc).1.wf m _ xs (afterS_shut (startS_shut _ _) _) h6 h7 h4 ys ?_
    have := (after_lang hc (zs ++ ys)).2 hy
    unfold afterS at this ⊢
    rw [List.foldl_append] at this
    exact this
end Go.Proofs.YtofkiaeocfpkeaaGreatDoor

/- HouseE: what the house's expressions say of words; what Check of the house's answers of the least documents. -/
namespace Go.Proofs.YtofkiaeocfpkeaaGreatDoor
open Go.RowKit

theorem pow_ones {P : Int → Prop} : ∀ (m : Nat) (w : List Int), LPow (fun v => ∃ a, v = [a] ∧ P a) m w ↔ (w.length = m ∧ ∀ a ∈ w, P a) := by
  intro m
  induction m with
  | zero =>
    intro w
    rw [LPow]
    constructor
    · rintro rfl
      exact ⟨rfl, fun a h => by cases h⟩
    · exact fun h => List.length_eq_zero_iff.1 h.1
  | succ m ih =>
    intro w
    rw [LPow]
    constructor
    · rintro ⟨u, v, rfl, ⟨a, rfl, ha⟩, hv⟩
      obtain ⟨h1, h2⟩ := (ih v).1 hv
      refine ⟨by rw [List.length_append, List.length_singleton]; omega, fun b hb => ?_⟩
      rcases List.mem_append.1 hb with hb | hb
      · rw [List.mem_singleton] at hb; subst hb; exact ha
      · exact h2 b hb
    · rintro ⟨h1, h2⟩
      cases w with
      | nil => cases h1
      | cons a r =>
        exact ⟨[a], r, rfl, ⟨a, rfl, h2 a (List.mem_cons_self ..)⟩, (ih r).2 ⟨by rw [List.length_cons] at h1; omega, fun b hb => h2 b (List.mem_cons_of_mem _ hb)⟩⟩
theorem lang_inner (gs : List Grp) (nm : ByteArray) : (fun v => ∃ x ∈ [node 1 nm []], Lang kindT (fun t => maskG gs (nameT t)) subs 199 x v) = fun v => ∃ a, v = [a] ∧ takes (maskG gs nm) a = true := by
  funext v
  refine propext ⟨?_, ?_⟩
  · rintro ⟨x, hx, h⟩
    rw [List.mem_singleton] at hx
    subst hx
    rw [Lang, if_pos (show kindT (node 1 nm []) = 1 from rfl)] at h
    exact h
  · intro h
    refine ⟨_, List.mem_singleton.2 rfl, ?_⟩
    rw [Lang, if_pos (show kindT (node 1 nm []) = 1 from rfl)]
    exact h
theorem lang_plusN (gs : List Grp) (s nm : ByteArray) (w : List Int) : LangD gs 200 (node 5 s [node 1 nm []]) w ↔ (w ≠ [] ∧ ∀ a ∈ w, takes (maskG gs nm) a = true) := by
  have e : LangD gs 200 (node 5 s [node 1 nm []]) w ↔ ∃ m, LPow (fun v => ∃ x ∈ [node 1 nm []], Lang kindT (fun t => maskG gs (nameT t)) subs 199 x v) (m + 1) w := by
    unfold LangD
    rw [Lang, if_neg (show ¬ kindT (node 5 s [node 1 nm []]) = 1 by rw [kindT_node]; decide), if_neg (show ¬ kindT (node 5 s [node 1 nm []]) = 2 by rw [kindT_node]; decide), if_neg (show ¬ kindT (node 5 s [node 1 nm []]) = 3 by rw [kindT_node]; decide), if_neg (show ¬ kindT (node 5 s [node 1 nm []]) = 4 by rw [kindT_node]; decide), if_pos (show kindT (node 5 s [node 1 nm []]) = 5 from rfl)]
    exact Iff.rfl
  rw [e, lang_inner]
  constructor
  · rintro ⟨m, h⟩
    obtain ⟨h1, h2⟩ := (pow_ones _ _).1 h
    exact ⟨fun e => (by rw [e] at h1; cases h1), h2⟩
  · rintro ⟨h1, h2⟩
    refine ⟨w.length - 1, (pow_ones _ _).2 ⟨?_, h2⟩⟩
    have : w.length ≠ 0 := fun e => h1 (List.length_eq_zero_iff.1 e)
    omega
theorem lang_starN (gs : List Grp) (s nm : ByteArray) (w : List Int) : LangD gs 200 (node 4 s [node 1 nm []]) w ↔ ∀ a ∈ w, takes (maskG gs nm) a = true := by
  have e : LangD gs 200 (node 4 s [node 1 nm []]) w ↔ ∃ m, LPow (fun v => ∃ x ∈ [node 1 nm []], Lang kindT (fun t => maskG gs (nameT t)) subs 199 x v) m w := by
    unfold LangD
    rw [Lang, if_neg (show ¬ kindT (node 4 s [node 1 nm []]) = 1 by rw [kindT_node]; decide), if_neg (show ¬ kindT (node 4 s [node 1 nm []]) = 2 by rw [kindT_node]; decide), if_neg (show ¬ kindT (node 4 s [node 1 nm []]) = 3 by rw [kindT_node]; decide), if_pos (show kindT (node 4 s [node 1 nm []]) = 4 from rfl)]
    exact Iff.rfl
  rw [e, lang_inner]
  constructor
  · rintro ⟨m, h⟩
    exact ((pow_ones _ _).1 h).2
  · intro h
    exact ⟨w.length, (pow_ones _ _).2 ⟨rfl, h⟩⟩
def gsH : List Grp := namesD houseL houseG
def blockB : ByteArray := ⟨#[98, 108, 111, 99, 107]⟩
def itemB : ByteArray := ⟨#[105, 116, 101, 109]⟩
theorem tree_block : outTree houseW = node 5 ⟨#[]⟩ [node 1 blockB []] := by kernel_rfl
theorem tree_text : outTree textS = node 4 ⟨#[]⟩ [node 1 textB []] := by kernel_rfl
theorem tree_item : outTree itemS = node 5 ⟨#[]⟩ [node 1 itemB []] := by kernel_rfl
theorem mask_block : maskG gsH blockB = 190 := by kernel_rfl
theorem mask_text : maskG gsH textB = 1 := by kernel_rfl
theorem mask_item : maskG gsH itemB = 64 := by kernel_rfl
theorem words_block (w : List Int) : LangD gsH 200 (outTree houseW) w ↔ (w ≠ [] ∧ ∀ a ∈ w, takes 190 a = true) := by rw [tree_block, lang_plusN, mask_block]
theorem words_text (w : List Int) : LangD gsH 200 (outTree textS) w ↔ ∀ a ∈ w, takes 1 a = true := by rw [tree_text, lang_starN, mask_text]
theorem words_item (w : List Int) : LangD gsH 200 (outTree itemS) w ↔ (w ≠ [] ∧ ∀ a ∈ w, takes 64 a = true) := by rw [tree_item, lang_plusN, mask_item]
/-- The house's kinds. -/
theorem house_kinds {w : World} {B : Nat} (h : MadeS w B houseW houseL houseG) : ∃ g c ng nc ks, SchAt w B g c ng nc ks gsH (treesOf houseW houseL) ∧ ks.length = 8 ∧ ∀ i, specOf ks i = ((zeroS :: houseL)[i]?).getD zeroS := by
  obtain ⟨g, c, ng, nc, ks, h1, h2⟩ := h
  refine ⟨g, c, ng, nc, ks, h1, ?_, fun i => ?_⟩
  · have := congrArg List.length h2
    rw [List.length_map] at this
    exact this
  · unfold specOf
    rw [← List.getElem?_map, h2]
theorem pre_of {n : Nat} {t : DataW Unit} {gs : List Grp} (h : chk n t gs = 0) {w v : List Int} (hl : LangD gs n t (w ++ v)) : PreD gs n t w := pre_less ⟨0, (after_lang h _).2 hl⟩
theorem long_nil {gs : List Grp} {t : DataW Unit} (h : PreD gs 200 t []) : LongD gs 200 t [] 0 := ⟨Nat.le_refl _, h, fun h => absurd h (Nat.not_lt_zero _)⟩
def openP : Tok := ⟨1, 1, 0, 0⟩
def closeT : Tok := ⟨2, 0, 0, 0⟩
theorem wordF_lang {gs : List Grp} {t : DataW Unit} {l : List Tok} {i : Int} {ps : List Int} (h : LangD gs 200 t (wordD l ps)) : wordF gs t l i ps = 2049 := by
  unfold wordF
  rw [if_pos h]
theorem faultD_fit {ks : List KindD} {gs : List Grp} {t : DataW Unit} {s : SpecD} {l : List Tok} {i : Int} (hf : ∀ p ∈ kids l i, fitsB ks s ((l[p.toNat]?).getD ⟨0, 0, 0, 0⟩) = true) : faultD ks gs t s l i = wordF gs t l i (kids l i) := by
  unfold faultD
  have key : ∀ (f j : Nat), j + f = (kids l i).length → faultK ks gs t s l i (kids l i) j f = wordF gs t l i (kids l i) := by
    intro f
    induction f with
    | zero => intro j _; rw [faultK]
    | succ f ih =>
      intro j hj
      have hm : (kids l i).getD j 0 ∈ kids l i := by
        rw [List.getD_eq_getElem?_getD, List.getElem?_eq_getElem (show j < (kids l i).length by omega)]
        exact List.getElem_mem _
      rw [faultK, if_pos (hf _ hm)]
      exact ih (j + 1) (by omega)
  exact key _ 0 (by omega)
theorem check_pp : check [openP, closeT] = (2, 0) := by decide
theorem check_nil : check [] = (0, 0) := by decide
/-- A paragraph with nothing in it may be. -/
theorem check_para {ks : List KindD} (h8 : ks.length = 8) (hs : ∀ i, specOf ks i = ((zeroS :: houseL)[i]?).getD zeroS) : checkS ks gsH (treesOf houseW houseL) [openP, closeT] = (2, 0) := by
  have k1 : kids [openP, closeT] (-1) = [0] := by decide
  have k2 : kids [openP, closeT] 0 = [] := by decide
  have f1 : faultD ks gsH ((treesOf houseW houseL).getD 0 emptyT) (specOf ks 0) [openP, closeT] (-1) = 2049 := by
    rw [faultD_fit, k1]
    · exact wordF_lang ((words_block _).2 ⟨by decide, by decide⟩)
    · intro p hp
      rw [k1, List.mem_singleton] at hp
      subst hp
      show fitsB ks (specOf ks 0) openP = true
      unfold fitsB
      rw [if_neg (by decide), if_pos (by rw [h8]; decide), hs]
      decide
  have f2 : faultAt ks gsH (treesOf houseW houseL) [openP, closeT] 0 = 2049 := by
    unfold faultAt
    have ht : typeAt [openP, closeT] ((0 : Nat) : Int) = 1 := by decide
    rw [ht, faultD_fit]
    · show wordF gsH (outTree textS) [openP, closeT] 0 (kids [openP, closeT] 0) = 2049
      rw [k2]
      exact wordF_lang ((words_text _).2 (fun a ha => by cases ha))
    · intro p hp
      have : kids [openP, closeT] ((0 : Nat) : Int) = [] := k2
      rw [this] at hp
      cases hp
  have ff : firstS ks gsH (treesOf houseW houseL) [openP, closeT] = 2049 := by
    unfold firstS
    rw [f1]
    show foldF ks gsH (treesOf houseW houseL) [openP, closeT] 0 2 2049 = 2049
    rw [foldF, if_neg (by decide), if_pos (by decide), f2, foldF, if_neg (by decide), if_neg (by decide), foldF]
    decide
  unfold checkS
  rw [check_pp, if_neg (by decide), ff, if_neg (by decide)]
  rfl
/-- Nothing may not be. -/
theorem check_none {ks : List KindD} (hck : chk 200 (outTree houseW) gsH = 0) : checkS ks gsH (treesOf houseW houseL) [] = (0, 9) := by
  have k1 : kids [] (-1) = [] := by decide
  have hpre : PreD gsH 200 (outTree houseW) [] := pre_of (v := [1]) hck ((words_block _).2 ⟨by decide, by decide⟩)
  have f1 : faultD ks gsH ((treesOf houseW houseL).getD 0 emptyT) (specOf ks 0) [] (-1) = 0 := by
    rw [faultD_fit, k1]
    · show wordF gsH (outTree houseW) [] (-1) [] = 0
      unfold wordF
      rw [show wordD [] [] = ([] : List Int) from rfl, if_neg (fun h => ((words_block _).1 h).1 rfl), begN_eq (long_nil hpre), if_neg (by decide), if_pos rfl]
      rfl
    · intro p hp
      rw [k1] at hp
      cases hp
  have ff : firstS ks gsH (treesOf houseW houseL) [] = 0 := by
    unfold firstS
    rw [f1]
    rfl
  unfold checkS
  rw [check_nil, if_neg (by decide), ff, if_pos (by decide)]
end Go.Proofs.YtofkiaeocfpkeaaGreatDoor

/- ValidS: Check of a schema finds no fault just if all that stands in each TOpen fits, and is a word. -/
namespace Go.Proofs.YtofkiaeocfpkeaaGreatDoor
open Go.RowKit

/-- All that stands just in a place fits, and is a word. -/
def WellIn (ks : List KindD) (gs : List Grp) (t : DataW Unit) (s : SpecD) (l : List Tok) (i : Int) : Prop := (∀ p ∈ kids l i, fitsB ks s ((l[p.toNat]?).getD ⟨0, 0, 0, 0⟩) = true) ∧ LangD gs 200 t (wordD l (kids l i))
def WellAt (ks : List KindD) (gs : List Grp) (ts : List (DataW Unit)) (l : List Tok) (i : Nat) : Prop := WellIn ks gs (ts.getD (typeAt l i).toNat emptyT) (specOf ks (typeAt l i).toNat) l i
/-- A document that may be. -/
def WellD (ks : List KindD) (gs : List Grp) (ts : List (DataW Unit)) (l : List Tok) : Prop := WellIn ks gs (ts.getD 0 emptyT) (specOf ks 0) l (-1) ∧ ∀ i, kindAt l i = 1 → WellAt ks gs ts l i
theorem partner_lt (l : List Tok) (i : Int) : partner l i < l.length ∨ partner l i = -1 := by
  unfold partner
  split
  · exact .inr rfl
  · rename_i h
    split
    · by_cases hq : around l i = -1
      · exact .inr hq
      · obtain ⟨n, rfl⟩ : ∃ n : Nat, i = (n : Int) := ⟨i.toNat, by omega⟩
        have := (opened_lt l n (by omega) _ (around_in l n hq)).2
        exact .inl (by omega)
    · split
      · rcases partner_fits l i (i.toNat + 1) (l.length - (i.toNat + 1)) with h1 | ⟨j, h1, h2⟩
        · exact .inr h1
        · rw [h1]; exact .inl (by omega)
      · exact .inr rfl
theorem wordF_le {gs : List Grp} {t : DataW Unit} {l : List Tok} {i : Int} {ps : List Int} (hl : l.length ≤ 2048) (hp : ∀ p ∈ ps, p < 2049) : wordF gs t l i ps ≤ 2049 ∧ (wordF gs t l i ps = 2049 → LangD gs 200 t (wordD l ps)) := by
  unfold wordF
  split
  · rename_i h
    exact ⟨Int.le_refl _, fun _ => h⟩
  · split
    · rename_i hb
      have : ps.getD (begN gs t (wordD l ps)) 0 ∈ ps := by
        rw [List.getD_eq_getElem?_getD, List.getElem?_eq_getElem hb]
        exact List.getElem_mem _
      have := hp _ this
      exact ⟨by omega, fun e => by omega⟩
    · split
      · exact ⟨by omega, fun e => by omega⟩
      · have := partner_lt l i
        exact ⟨by omega, fun e => by omega⟩
theorem faultK_le {ks : List KindD} {gs : List Grp} {t : DataW Unit} {s : SpecD} {l : List Tok} {i : Int} {ps : List Int} (hl : l.length ≤ 2048) (hp : ∀ p ∈ ps, p < 2049) : ∀ (f j : Nat), j + f = ps.length → faultK ks gs t s l i ps j f ≤ 2049 ∧ (faultK ks gs t s l i ps j f = 2049 → (∀ m, j ≤ m → m < ps.length → fitsB ks s ((l[(ps.getD m 0).toNat]?).getD ⟨0, 0, 0, 0⟩) = true) ∧ LangD gs 200 t (wordD l ps)) := by
  intro f
  induction f with
  | zero =>
    intro j hj
    rw [faultK]
    have := wordF_le (gs := gs) (t := t) (i := i) hl hp
    exact ⟨this.1, fun e => ⟨fun m h1 h2 => by omega, this.2 e⟩⟩
  | succ f ih =>
    intro j hj
    have hm : ps.getD j 0 ∈ ps := by
      rw [List.getD_eq_getElem?_getD, List.getElem?_eq_getElem (show j < ps.length by omega)]
      exact List.getElem_mem _
    have hm' := hp _ hm
    rw [faultK]
    split
    · rename_i hfit
      obtain ⟨h1, h2⟩ := ih (j + 1) (by omega)
      refine ⟨h1, fun e => ?_⟩
      obtain ⟨h3, h4⟩ := h2 e
      refine ⟨fun m h5 h6 => ?_, h4⟩
      by_cases e' : m = j
      · subst e'; exact hfit
      · exact h3 m (by omega) h6
    · exact ⟨by omega, fun e => by omega⟩
theorem faultD_iff {ks : List KindD} {gs : List Grp} {t : DataW Unit} {s : SpecD} {l : List Tok} {i : Int} (hl : l.length ≤ 2048) : faultD ks gs t s l i ≤ 2049 ∧ (faultD ks gs t s l i = 2049 ↔ WellIn ks gs t s l i) := by
  have hp : ∀ p ∈ kids l i, p < 2049 := fun p hp => by have := (kids_in l i p hp).2; omega
  have h := faultK_le (ks := ks) (gs := gs) (t := t) (s := s) (i := i) hl hp (kids l i).length 0 (by omega)
  refine ⟨h.1, fun e => ?_, fun ⟨h1, h2⟩ => ?_⟩
  · obtain ⟨h1, h2⟩ := h.2 e
    refine ⟨fun p hp => ?_, h2⟩
    obtain ⟨m, hm⟩ := List.getElem?_of_mem hp
    have := h1 m (Nat.zero_le _) (List.getElem?_eq_some_iff.1 hm).1
    rw [List.getD_eq_getElem?_getD, hm] at this
    exact this
  · rw [faultD_fit h1]
    exact wordF_lang h2
theorem foldF_iff {ks : List KindD} {gs : List Grp} {ts : List (DataW Unit)} {l : List Tok} (hl : l.length ≤ 2048) : ∀ (n i : Nat) (f : Int), i + n = l.length → f ≤ 2049 → (foldF ks gs ts l i n f = 2049 ↔ (f = 2049 ∧ ∀ q, i ≤ q → q < l.length → kindAt l q = 1 → WellAt ks gs ts l q)) := by
  intro n
  induction n with
  | zero =>
    intro i f hi hf
    rw [foldF]
    exact ⟨fun e => ⟨e, fun q h1 h2 => by omega⟩, fun e => e.1⟩
  | succ n ih =>
    intro i f hi hf
    rw [foldF]
    split
    · exact ⟨fun e => by omega, fun e => by omega⟩
    · split
      · rename_i hk
        obtain ⟨h1, h2⟩ := faultD_iff (ks := ks) (gs := gs) (t := ts.getD (typeAt l i).toNat emptyT) (s := specOf ks (typeAt l i).toNat) (i := (i : Int)) hl
        have hfa : faultAt ks gs ts l i ≤ 2049 ∧ (faultAt ks gs ts l i = 2049 ↔ WellAt ks gs ts l i) := ⟨h1, h2⟩
        rw [ih (i + 1) _ (by omega) (by omega)]
        constructor
        · rintro ⟨e1, e2⟩
          refine ⟨by omega, fun q q1 q2 q3 => ?_⟩
          by_cases e : q = i
          · subst e; exact hfa.2.1 (by omega)
          · exact e2 q (by omega) q2 q3
        · rintro ⟨e1, e2⟩
          have := hfa.2.2 (e2 i (Nat.le_refl _) (by omega) hk)
          exact ⟨by omega, fun q q1 q2 q3 => e2 q (by omega) q2 q3⟩
      · rename_i hk
        rw [ih (i + 1) f (by omega) hf]
        constructor
        · rintro ⟨e1, e2⟩
          refine ⟨e1, fun q q1 q2 q3 => ?_⟩
          by_cases e : q = i
          · subst e; exact absurd q3 hk
          · exact e2 q (by omega) q2 q3
        · rintro ⟨e1, e2⟩
          exact ⟨e1, fun q q1 q2 q3 => e2 q (by omega) q2 q3⟩
theorem firstS_iff {ks : List KindD} {gs : List Grp} {ts : List (DataW Unit)} {l : List Tok} (hl : l.length ≤ 2048) : firstS ks gs ts l = 2049 ↔ WellD ks gs ts l := by
  unfold firstS WellD
  have h := faultD_iff (ks := ks) (gs := gs) (t := ts.getD 0 emptyT) (s := specOf ks 0) (i := -1) hl
  rw [foldF_iff hl _ _ _ (by omega) h.1, h.2]
  constructor
  · rintro ⟨h1, h2⟩
    refine ⟨h1, fun i hk => ?_⟩
    by_cases hi : i < l.length
    · exact h2 i (Nat.zero_le _) hi hk
    · unfold kindAt at hk
      rw [List.getElem?_eq_none (by omega)] at hk
      exact absurd hk (by decide)
  · rintro ⟨h1, h2⟩
    exact ⟨h1, fun q _ _ hk => h2 q hk⟩
/-- Check finds nothing just if the tokens are a document and may be. -/
theorem checkS_iff {ks : List KindD} {gs : List Grp} {ts : List (DataW Unit)} {l : List Tok} : (checkS ks gs ts l).2 = 0 ↔ ((check l).2 = 0 ∧ WellD ks gs ts l) := by
  unfold checkS
  by_cases h0 : (check l).2 ≠ 0
  · rw [if_pos h0]
    exact ⟨fun e => absurd e h0, fun e => absurd e.1 h0⟩
  · have h0' : (check l).2 = 0 := Classical.not_not.1 h0
    have hl := ((check_ok l).1 h0').1
    rw [if_neg h0, ← firstS_iff hl]
    split
    · rename_i h1
      exact ⟨fun e => (by cases e), fun e => absurd e.2 h1⟩
    · rename_i h1
      exact ⟨fun _ => ⟨h0', Classical.not_not.1 h1⟩, fun _ => rfl⟩
end Go.Proofs.YtofkiaeocfpkeaaGreatDoor

/- JoinS: plain facts on what stands in what: two documents, one behind the other; no program in it. -/
namespace Go.Proofs.YtofkiaeocfpkeaaGreatDoor
open Go.RowKit

theorem opened_end {l : List Tok} (h : goes l 0 = some 0) : opened l (l.length : Int) = [] := by
  have := (mx_step l l.length (Nat.le_refl _) h).2
  rw [List.drop_length, goes] at this
  have e := Option.some.inj this
  exact List.length_eq_zero_iff.1 (by omega)
theorem openL_shift (n : Nat) : ∀ (l : List Tok) (i : Nat) (s : List Int), openL l (i + n) (s.map (· + (n : Int))) = (openL l i s).map (· + (n : Int)) := by
  intro l
  induction l with
  | nil => intro i s; rfl
  | cons x r ih =>
    intro i s
    rw [openL, openL, ← ih, show i + n + 1 = i + 1 + n by omega]
    congr 1
    split
    · rw [List.map_append]
      rfl
    · split
      · rw [List.map_dropLast]
      · rfl
theorem opened_low (a b : List Tok) (p : Nat) (hp : p ≤ a.length) : opened (a ++ b) (p : Int) = opened a (p : Int) := by
  rw [opened_nat _ p (by rw [List.length_append]; omega), opened_nat _ p hp, List.take_append_of_le_length hp]
theorem opened_high {a : List Tok} (b : List Tok) (ha : goes a 0 = some 0) (q : Nat) (hq : q ≤ b.length) : opened (a ++ b) ((a.length + q : Nat) : Int) = (opened b (q : Int)).map (· + (a.length : Int)) := by
  have h0 := opened_end ha
  rw [opened_nat _ _ (Nat.le_refl _), List.take_length] at h0
  rw [opened_nat _ _ (by rw [List.length_append]; omega), opened_nat _ q hq, List.take_length_add_append, openL_append, h0]
  exact openL_shift a.length (b.take q) 0 []
theorem around_low (a b : List Tok) (p : Nat) (hp : p ≤ a.length) : around (a ++ b) (p : Int) = around a (p : Int) := by
  unfold around
  rw [opened_low a b p hp]
theorem around_high {a : List Tok} (b : List Tok) (ha : goes a 0 = some 0) (q : Nat) (hq : q ≤ b.length) : around (a ++ b) ((a.length + q : Nat) : Int) = if around b (q : Int) = -1 then -1 else around b (q : Int) + a.length := by
  have hf := opened_fits b (q : Int)
  unfold around
  rw [opened_high b ha q hq, List.getLast?_map]
  cases h : (opened b (q : Int)).getLast? with
  | none => rfl
  | some x =>
    have := (hf x (List.mem_of_getLast? h)).1
    simp only [Option.map_some, Option.getD_some]
    rw [if_neg (by omega)]
theorem kindAt_low (a b : List Tok) (p : Nat) (hp : p < a.length) : kindAt (a ++ b) p = kindAt a p := by
  unfold kindAt
  rw [List.getElem?_append_left hp]
theorem kindAt_high (a b : List Tok) (q : Nat) : kindAt (a ++ b) (a.length + q) = kindAt b q := by
  unfold kindAt
  rw [List.getElem?_append_right (by omega), show a.length + q - a.length = q by omega]
theorem kidsL_mem (l : List Tok) (i : Int) : ∀ (f k : Nat) (out : List Int), ∀ x ∈ kidsL l i k f out, x ∈ out ∨ ∃ m : Nat, x = (m : Int) ∧ k ≤ m ∧ m < k + f ∧ kindAt l m ≠ 2 ∧ 0 ≤ kindAt l m ∧ kindAt l m ≤ 3 ∧ around l (m : Int) = i := by
  intro f
  induction f with
  | zero => intro k out x hx; rw [kidsL] at hx; exact .inl hx
  | succ f ih =>
    intro k out x hx
    rw [kidsL] at hx
    split at hx
    · exact .inl hx
    · rcases ih _ _ x hx with h | ⟨m, h1, h2, h3, h4⟩
      · split at h
        · rename_i hk
          rcases List.mem_append.1 h with h | h
          · exact .inl h
          · rw [List.mem_singleton] at h
            exact .inr ⟨k, h, Nat.le_refl _, by omega, hk⟩
        · exact .inl h
      · exact .inr ⟨m, h1, by omega, by omega, h4⟩
/-- What stands just in a place. -/
theorem kids_mem (l : List Tok) (i x : Int) : x ∈ kids l i ↔ ∃ m : Nat, x = (m : Int) ∧ m < l.length ∧ kindAt l m ≠ 2 ∧ 0 ≤ kindAt l m ∧ kindAt l m ≤ 3 ∧ around l (m : Int) = i := by
  constructor
  · intro h
    unfold kids at h
    split at h
    · cases h
    · rcases kidsL_mem l i _ _ _ x h with h | ⟨m, h1, h2, h3, h4⟩
      · cases h
      · exact ⟨m, h1, by omega, h4⟩
  · rintro ⟨m, rfl, h1, h2, h3, h4, rfl⟩
    exact kids_has l m h1 ⟨h2, h3, h4⟩
/-- Rising rows of the same numbers are the same. -/
theorem rise_eq : ∀ (u v : List Int), u.Pairwise (· < ·) → v.Pairwise (· < ·) → (∀ x, x ∈ u ↔ x ∈ v) → u = v := by
  intro u
  induction u with
  | nil =>
    intro v _ _ h
    cases v with
    | nil => rfl
    | cons y r => exact absurd ((h y).2 (List.mem_cons_self ..)) (by simp)
  | cons x u ih =>
    intro v hu hv h
    cases v with
    | nil => exact absurd ((h x).1 (List.mem_cons_self ..)) (by simp)
    | cons y r =>
      rw [List.pairwise_cons] at hu hv
      have e : x = y := by
        rcases List.mem_cons.1 ((h x).1 (List.mem_cons_self ..)) with e | e
        · exact e
        · rcases List.mem_cons.1 ((h y).2 (List.mem_cons_self ..)) with e' | e'
          · exact e'.symm
          · have := hv.1 x e
            have := hu.1 y e'
            omega
      subst e
      rw [ih r hu.2 hv.2 fun z => ?_]
      constructor
      · intro hz
        rcases List.mem_cons.1 ((h z).1 (List.mem_cons_of_mem _ hz)) with e | e
        · have := hu.1 z hz
          omega
        · exact e
      · intro hz
        rcases List.mem_cons.1 ((h z).2 (List.mem_cons_of_mem _ hz)) with e | e
        · have := hv.1 z hz
          omega
        · exact e
theorem around_ge (l : List Tok) (p : Nat) (hp : p ≤ l.length) : around l (p : Int) = -1 ∨ (0 ≤ around l (p : Int) ∧ around l (p : Int) < p) := by
  by_cases h : around l (p : Int) = -1
  · exact .inl h
  · exact .inr (opened_lt l p hp _ (around_in l p h))
/-- What stands just in a place of the first of two documents. -/
theorem kids_low {a : List Tok} (b : List Tok) (ha : goes a 0 = some 0) (i : Nat) (hi : i < a.length) : kids (a ++ b) (i : Int) = kids a (i : Int) := by
  refine rise_eq _ _ (kids_rise _ _) (kids_rise _ _) fun x => ?_
  rw [kids_mem, kids_mem]
  constructor
  · rintro ⟨m, rfl, h1, h2⟩
    by_cases hm : m < a.length
    · rw [kindAt_low a b m hm, around_low a b m (by omega)] at h2
      exact ⟨m, rfl, hm, h2⟩
    · rw [List.length_append] at h1
      obtain ⟨q, rfl⟩ : ∃ q, m = a.length + q := ⟨m - a.length, by omega⟩
      have h3 := h2.2.2.2
      rw [around_high b ha q (by omega)] at h3
      have := around_ge b q (by omega)
      split at h3 <;> omega
  · rintro ⟨m, rfl, h1, h2⟩
    refine ⟨m, rfl, by rw [List.length_append]; omega, ?_⟩
    rw [kindAt_low a b m h1, around_low a b m (by omega)]
    exact h2
theorem rise_map {u : List Int} (n : Int) (h : u.Pairwise (· < ·)) : (u.map (· + n)).Pairwise (· < ·) := by
  rw [List.pairwise_map]
  exact h.imp fun h => by omega
/-- Of the second. -/
theorem kids_high {a : List Tok} (b : List Tok) (ha : goes a 0 = some 0) (j : Nat) : kids (a ++ b) ((a.length + j : Nat) : Int) = (kids b (j : Int)).map (· + (a.length : Int)) := by
  refine rise_eq _ _ (kids_rise _ _) (rise_map _ (kids_rise _ _)) fun x => ?_
  rw [kids_mem, List.mem_map]
  constructor
  · rintro ⟨m, rfl, h1, h2⟩
    by_cases hm : m < a.length
    · have h3 := h2.2.2.2
      rw [around_low a b m (by omega)] at h3
      have := around_ge a m (by omega)
      omega
    · rw [List.length_append] at h1
      obtain ⟨q, rfl⟩ : ∃ q, m = a.length + q := ⟨m - a.length, by omega⟩
      rw [kindAt_high, around_high b ha q (by omega)] at h2
      refine ⟨(q : Int), (kids_mem b _ _).2 ⟨q, rfl, by omega, h2.1, h2.2.1, h2.2.2.1, ?_⟩, by omega⟩
      have h3 := h2.2.2.2
      split at h3 <;> omega
  · rintro ⟨y, hy, rfl⟩
    obtain ⟨q, rfl, h1, h2⟩ := (kids_mem b _ _).1 hy
    refine ⟨a.length + q, by omega, by rw [List.length_append]; omega, ?_⟩
    rw [kindAt_high, around_high b ha q (by omega), if_neg (by have := h2.2.2.2; omega)]
    exact ⟨h2.1, h2.2.1, h2.2.2.1, by have := h2.2.2.2; omega⟩
/-- Of both, outermost. -/
theorem kids_out2 {a : List Tok} (b : List Tok) (ha : goes a 0 = some 0) : kids (a ++ b) (-1) = kids a (-1) ++ (kids b (-1)).map (· + (a.length : Int)) := by
  refine rise_eq _ _ (kids_rise _ _) (List.pairwise_append.2 ⟨kids_rise _ _, rise_map _ (kids_rise _ _), fun x hx y hy => ?_⟩) fun x => ?_
  · obtain ⟨m, rfl, h1, _⟩ := (kids_mem a _ _).1 hx
    obtain ⟨z, hz, rfl⟩ := List.mem_map.1 hy
    obtain ⟨q, rfl, _⟩ := (kids_mem b _ _).1 hz
    omega
  · rw [kids_mem, List.mem_append, List.mem_map]
    constructor
    · rintro ⟨m, rfl, h1, h2⟩
      by_cases hm : m < a.length
      · rw [kindAt_low a b m hm, around_low a b m (by omega)] at h2
        exact .inl ((kids_mem a _ _).2 ⟨m, rfl, hm, h2⟩)
      · rw [List.length_append] at h1
        obtain ⟨q, rfl⟩ : ∃ q, m = a.length + q := ⟨m - a.length, by omega⟩
        rw [kindAt_high, around_high b ha q (by omega)] at h2
        refine .inr ⟨(q : Int), (kids_mem b _ _).2 ⟨q, rfl, by omega, h2.1, h2.2.1, h2.2.2.1, ?_⟩, by omega⟩
        have h3 := h2.2.2.2
        have := around_ge b q (by omega)
        split at h3 <;> omega
    · rintro (hx | ⟨y, hy, rfl⟩)
      · obtain ⟨m, rfl, h1, h2⟩ := (kids_mem a _ _).1 hx
        refine ⟨m, rfl, by rw [List.length_append]; omega, ?_⟩
        rw [kindAt_low a b m h1, around_low a b m (by omega)]
        exact h2
      · obtain ⟨q, rfl, h1, h2⟩ := (kids_mem b _ _).1 hy
        refine ⟨a.length + q, by omega, by rw [List.length_append]; omega, ?_⟩
        rw [kindAt_high, around_high b ha q (by omega), if_pos h2.2.2.2]
        exact ⟨h2.1, h2.2.1, h2.2.2.1, rfl⟩
end Go.Proofs.YtofkiaeocfpkeaaGreatDoor

/- JoinT: plain facts on documents that may be, in the house: two of them, one behind the other; each outermost part of one; no program in it. -/
namespace Go.Proofs.YtofkiaeocfpkeaaGreatDoor
open Go.RowKit

theorem tok_low (a b : List Tok) {p : Int} (h0 : 0 ≤ p) (hp : p < a.length) : (a ++ b)[p.toNat]? = a[p.toNat]? := List.getElem?_append_left (by omega)
theorem tok_high (a b : List Tok) {p : Int} (h0 : 0 ≤ p) : (a ++ b)[(p + (a.length : Int)).toNat]? = b[p.toNat]? := by
  rw [List.getElem?_append_right (by omega), show (p + (a.length : Int)).toNat - a.length = p.toNat by omega]
theorem word_low (a b : List Tok) (i : Int) : wordD (a ++ b) (kids a i) = wordD a (kids a i) := by
  unfold wordD
  refine List.map_congr_left fun p hp => ?_
  have := kids_in a i p hp
  unfold typeAt
  rw [tok_low a b this.1 this.2]
theorem word_high (a b : List Tok) (i : Int) : wordD (a ++ b) ((kids b i).map (· + (a.length : Int))) = wordD b (kids b i) := by
  unfold wordD
  rw [List.map_map]
  refine List.map_congr_left fun p hp => ?_
  have := kids_in b i p hp
  simp only [Function.comp_apply]
  unfold typeAt
  rw [tok_high a b this.1]
theorem wellIn_low {ks : List KindD} {gs : List Grp} {t : DataW Unit} {s : SpecD} {a : List Tok} (b : List Tok) (ha : goes a 0 = some 0) (i : Nat) (hi : i < a.length) : WellIn ks gs t s (a ++ b) i ↔ WellIn ks gs t s a i := by
  unfold WellIn
  rw [kids_low b ha i hi, word_low a b]
  refine and_congr_left fun _ => ⟨fun h p hp => ?_, fun h p hp => ?_⟩
  · have := kids_in a i p hp
    rw [← tok_low a b this.1 this.2]
    exact h p hp
  · have := kids_in a i p hp
    rw [tok_low a b this.1 this.2]
    exact h p hp
theorem wellIn_high {ks : List KindD} {gs : List Grp} {t : DataW Unit} {s : SpecD} {a : List Tok} (b : List Tok) (ha : goes a 0 = some 0) (j : Nat) : WellIn ks gs t s (a ++ b) ((a.length + j : Nat) : Int) ↔ WellIn ks gs t s b j := by
  unfold WellIn
  rw [kids_high b ha j, word_high a b]
  refine and_congr_left fun _ => ⟨fun h p hp => ?_, fun h p hp => ?_⟩
  · have := kids_in b j p hp
    rw [← tok_high a b this.1]
    exact h _ (List.mem_map_of_mem hp)
  · obtain ⟨q, hq, rfl⟩ := List.mem_map.1 hp
    have := kids_in b j q hq
    rw [tok_high a b this.1]
    exact h q hq
theorem typeAt_low (a b : List Tok) (i : Nat) (hi : i < a.length) : typeAt (a ++ b) (i : Int) = typeAt a (i : Int) := by
  unfold typeAt
  rw [tok_low a b (by omega) (by omega)]
theorem typeAt_high (a b : List Tok) (j : Nat) : typeAt (a ++ b) ((a.length + j : Nat) : Int) = typeAt b (j : Int) := by
  unfold typeAt
  rw [show ((a.length + j : Nat) : Int) = (j : Int) + (a.length : Int) by omega, tok_high a b (by omega)]
theorem wellAt_low {ks : List KindD} {gs : List Grp} {ts : List (DataW Unit)} {a : List Tok} (b : List Tok) (ha : goes a 0 = some 0) (i : Nat) (hi : i < a.length) : WellAt ks gs ts (a ++ b) i ↔ WellAt ks gs ts a i := by
  unfold WellAt
  rw [typeAt_low a b i hi]
  exact wellIn_low b ha i hi
theorem wellAt_high {ks : List KindD} {gs : List Grp} {ts : List (DataW Unit)} {a : List Tok} (b : List Tok) (ha : goes a 0 = some 0) (j : Nat) : WellAt ks gs ts (a ++ b) (a.length + j) ↔ WellAt ks gs ts b j := by
  unfold WellAt
  rw [typeAt_high a b j]
  exact wellIn_high b ha j
/-- The inner places of two documents, one behind the other. -/
theorem wells_app {ks : List KindD} {gs : List Grp} {ts : List (DataW Unit)} {a : List Tok} (b : List Tok) (ha : goes a 0 = some 0) : (∀ i, kindAt (a ++ b) i = 1 → WellAt ks gs ts (a ++ b) i) ↔ ((∀ i, kindAt a i = 1 → WellAt ks gs ts a i) ∧ ∀ i, kindAt b i = 1 → WellAt ks gs ts b i) := by
  have hin : ∀ (l : List Tok) (i : Nat), kindAt l i = 1 → i < l.length := fun l i h => Nat.lt_of_not_le fun e => by
    unfold kindAt at h
    rw [List.getElem?_eq_none e] at h
    exact absurd h (by decide)
  constructor
  · intro h
    refine ⟨fun i hi => ?_, fun i hi => ?_⟩
    · have hl := hin a i hi
      exact (wellAt_low b ha i hl).1 (h i (by rw [kindAt_low a b i hl]; exact hi))
    · exact (wellAt_high b ha i).1 (h _ (by rw [kindAt_high]; exact hi))
  · rintro ⟨h1, h2⟩ i hi
    by_cases hl : i < a.length
    · rw [kindAt_low a b i hl] at hi
      exact (wellAt_low b ha i hl).2 (h1 i hi)
    · obtain ⟨q, rfl⟩ : ∃ q, i = a.length + q := ⟨i - a.length, by omega⟩
      rw [kindAt_high] at hi
      exact (wellAt_high b ha q).2 (h2 q hi)
/-- What stands outermost fits. -/
def FitO (ks : List KindD) (s : SpecD) (l : List Tok) : Prop := ∀ p ∈ kids l (-1), fitsB ks s ((l[p.toNat]?).getD ⟨0, 0, 0, 0⟩) = true
def TakeO (m : Nat) (l : List Tok) : Prop := ∀ x ∈ wordD l (kids l (-1)), takes m x = true
theorem fitO_app {ks : List KindD} {s : SpecD} {a : List Tok} (b : List Tok) (ha : goes a 0 = some 0) : FitO ks s (a ++ b) ↔ (FitO ks s a ∧ FitO ks s b) := by
  unfold FitO
  rw [kids_out2 b ha]
  constructor
  · intro h
    refine ⟨fun p hp => ?_, fun p hp => ?_⟩
    · have := kids_in a _ p hp
      rw [← tok_low a b this.1 this.2]
      exact h p (List.mem_append_left _ hp)
    · have := kids_in b _ p hp
      rw [← tok_high a b this.1]
      exact h _ (List.mem_append_right _ (List.mem_map_of_mem hp))
  · rintro ⟨h1, h2⟩ p hp
    rcases List.mem_append.1 hp with hp | hp
    · have := kids_in a _ p hp
      rw [tok_low a b this.1 this.2]
      exact h1 p hp
    · obtain ⟨q, hq, rfl⟩ := List.mem_map.1 hp
      have := kids_in b _ q hq
      rw [tok_high a b this.1]
      exact h2 q hq
theorem word_app {a : List Tok} (b : List Tok) (ha : goes a 0 = some 0) : wordD (a ++ b) (kids (a ++ b) (-1)) = wordD a (kids a (-1)) ++ wordD b (kids b (-1)) := by
  rw [kids_out2 b ha, ← word_low a b, ← word_high a b]
  unfold wordD
  rw [List.map_append]
theorem takeO_app {m : Nat} {a : List Tok} (b : List Tok) (ha : goes a 0 = some 0) : TakeO m (a ++ b) ↔ (TakeO m a ∧ TakeO m b) := by
  unfold TakeO
  rw [word_app b ha]
  constructor
  · intro h
    exact ⟨fun x hx => h x (List.mem_append_left _ hx), fun x hx => h x (List.mem_append_right _ hx)⟩
  · rintro ⟨h1, h2⟩ x hx
    rcases List.mem_append.1 hx with hx | hx
    · exact h1 x hx
    · exact h2 x hx
/-- A document that may be, in the house. -/
theorem wellD_house {ks : List KindD} {l : List Tok} : WellD ks gsH (treesOf houseW houseL) l ↔ ((FitO ks (specOf ks 0) l ∧ TakeO 190 l ∧ kids l (-1) ≠ []) ∧ ∀ i, kindAt l i = 1 → WellAt ks gsH (treesOf houseW houseL) l i) := by
  unfold WellD WellIn
  rw [show (treesOf houseW houseL).getD 0 emptyT = outTree houseW from rfl, words_block]
  refine and_congr_left fun _ => and_congr_right fun _ => ?_
  rw [and_comm]
  refine and_congr_right fun _ => ?_
  unfold wordD
  rw [ne_eq, List.map_eq_nil_iff]
/-- Two documents, one behind the other. -/
theorem wellD_joins {ks : List KindD} {a b : List Tok} (ha : goes a 0 = some 0) (h1 : WellD ks gsH (treesOf houseW houseL) a) (h2 : WellD ks gsH (treesOf houseW houseL) b) : WellD ks gsH (treesOf houseW houseL) (a ++ b) := by
  rw [wellD_house] at h1 h2 ⊢
  obtain ⟨⟨p1, p2, p3⟩, p4⟩ := h1
  obtain ⟨⟨q1, q2, q3⟩, q4⟩ := h2
  refine ⟨⟨(fitO_app b ha).2 ⟨p1, q1⟩, (takeO_app b ha).2 ⟨p2, q2⟩, ?_⟩, (wells_app b ha).2 ⟨p4, q4⟩⟩
  rw [kids_out2 b ha]
  exact fun e => p3 (List.append_eq_nil_iff.1 e).1
theorem goes_len : ∀ (l : List Tok) (s : List Int) (i : Nat) (e : Int), goes l s.length = some e → ((openL l i s).length : Int) = e := by
  intro l
  induction l with
  | nil => intro s i e h; rw [goes] at h; rw [openL]; exact Option.some.inj h
  | cons x r ih =>
    intro s i e h
    obtain ⟨hw, _, hg⟩ := goes_cons h
    rw [← turn_length (i := i) hw] at hg
    exact ih _ (i + 1) e hg
/-- A document up to where nothing is open, and from there on. -/
theorem goes_split {l : List Tok} (h : goes l 0 = some 0) (k : Nat) (hk : k ≤ l.length) (ho : opened l (k : Int) = []) : goes (l.take k) 0 = some 0 ∧ goes (l.drop k) 0 = some 0 := by
  rw [← List.take_append_drop k l, goes_append] at h
  cases hd : goes (l.take k) 0 with
  | none => rw [hd] at h; cases h
  | some d =>
    have := goes_len (l.take k) [] 0 d hd
    rw [← opened_nat l k hk, ho] at this
    obtain rfl : d = 0 := by simpa using this.symm
    rw [hd] at h
    exact ⟨rfl, h⟩
theorem seek_none (l : List Tok) (i : Int) : ∀ (f k : Nat), (∃ j : Nat, seek l i k f = j ∧ k ≤ j ∧ j < k + f ∧ kindAt l j = 2 ∧ around l (j : Int) = i) ∨ ∀ m : Nat, k ≤ m → m < k + f → ¬ (kindAt l m = 2 ∧ around l (m : Int) = i) := by
  intro f
  induction f with
  | zero => intro k; exact .inr fun m h1 h2 => by omega
  | succ f ih =>
    intro k
    rw [seek]
    by_cases h : kindAt l k = 2 ∧ around l (k : Int) = i
    · rw [if_pos h]
      exact .inl ⟨k, rfl, Nat.le_refl _, by omega, h⟩
    · rw [if_neg h]
      rcases ih (k + 1) with ⟨j, h1, h2, h3⟩ | h1
      · exact .inl ⟨j, h1, by omega, by omega, h3.2⟩
      · refine .inr fun m h2 h3 => ?_
        by_cases e : m = k
        · subst e; exact h
        · exact h1 m (by omega) (by omega)
theorem still_open (l : List Tok) (i : Nat) (hk : kindAt l i = 1) (hi : i < l.length) (hn : ∀ m : Nat, i + 1 ≤ m → m < l.length → ¬ (kindAt l m = 2 ∧ around l (m : Int) = i)) : ∀ d, i + 1 + d ≤ l.length → (i : Int) ∈ opened l ((i + 1 + d : Nat) : Int) := by
  intro d
  induction d with
  | zero =>
    intro _
    obtain ⟨x, hx, hkx, hs⟩ := opened_cons l i hi
    rw [Nat.add_zero, hs]
    unfold turn
    rw [if_pos (by omega)]
    exact List.mem_append_right _ (List.mem_singleton.2 rfl)
  | succ d ih =>
    intro hd
    have h := ih (by omega)
    obtain ⟨x, hx, hkx, hs⟩ := opened_cons l (i + 1 + d) (by omega)
    rw [show i + 1 + (d + 1) = i + 1 + d + 1 by omega, hs]
    unfold turn
    split
    · exact List.mem_append_left _ h
    · split
      · rename_i h2
        cases hg : (opened l ((i + 1 + d : Nat) : Int)).getLast? with
        | none => rw [List.getLast?_eq_none_iff.1 hg] at h; cases h
        | some y =>
          obtain ⟨Q, hQ⟩ := List.getLast?_eq_some_iff.1 hg
          rw [hQ] at h ⊢
          rw [List.dropLast_concat]
          rcases List.mem_append.1 h with h | h
          · exact h
          · rw [List.mem_singleton] at h
            subst h
            exact absurd ⟨by omega, around_of l _ Q _ hQ⟩ (hn (i + 1 + d) (by omega) (by omega))
      · exact h
/-- Where an outermost part ends nothing is open. -/
theorem part_end {l : List Tok} (h : goes l 0 = some 0) (k : Nat) (hk : k < l.length) (h2 : kindAt l k ≠ 2) (ho : opened l (k : Int) = []) : ∃ e : Nat, max (partner l (k : Int)) (k : Int) = (e : Int) ∧ k ≤ e ∧ e < l.length ∧ opened l ((e + 1 : Nat) : Int) = [] := by
  obtain ⟨x, hx, hkx, hs⟩ := opened_cons l k hk
  by_cases h1 : kindAt l k = 1
  · rw [partner_open l k hk h1]
    rcases seek_none l k (l.length - (k + 1)) (k + 1) with ⟨j, e1, e2, e3, e4, e5⟩ | hn
    · refine ⟨j, by omega, by omega, by omega, ?_⟩
      obtain ⟨y, hy, hky, hs'⟩ := opened_cons l j (by omega)
      have := around_last l j (by omega) k e5
      rw [hs', this, ho]
      unfold turn
      rw [if_neg (by omega), if_pos (by omega)]
      rfl
    · have := still_open l k h1 hk (fun m m1 m2 => hn m m1 (by omega)) (l.length - (k + 1)) (by omega)
      rw [show k + 1 + (l.length - (k + 1)) = l.length by omega, opened_end h] at this
      cases this
  · rw [partner_else l k h1 h2]
    refine ⟨k, by omega, Nat.le_refl _, hk, ?_⟩
    rw [hs, ho]
    unfold turn
    rw [if_neg (by omega), if_neg (by omega)]
theorem around_none {l : List Tok} {p : Nat} (hp : p ≤ l.length) (h : around l (p : Int) = -1) : opened l (p : Int) = [] := by
  unfold around at h
  cases hg : (opened l (p : Int)).getLast? with
  | none => exact List.getLast?_eq_none_iff.1 hg
  | some x =>
    have := (opened_lt l p hp x (List.mem_of_getLast? hg)).1
    rw [hg] at h
    simp only [Option.getD_some] at h
    omega
/-- Each outermost part of a document that may be. -/
theorem wellD_part {ks : List KindD} {l : List Tok} (h : goes l 0 = some 0) (hl : l.length ≤ 2048) (hw : WellD ks gsH (treesOf houseW houseL) l) (x : Int) (hx : x ∈ kids l (-1)) : ∃ k e : Nat, x = (k : Int) ∧ max (partner l x) x = (e : Int) ∧ k ≤ e ∧ e < l.length ∧ (checkS ks gsH (treesOf houseW houseL) ((l.take (e + 1)).drop k)).2 = 0 := by
  obtain ⟨k, rfl, hk, k2, k3, k4, hq⟩ := (kids_mem l _ _).1 hx
  have ho := around_none (by omega) hq
  obtain ⟨e, e1, e2, e3, e4⟩ := part_end h k hk k2 ho
  refine ⟨k, e, rfl, e1, e2, e3, checkS_iff.2 ?_⟩
  obtain ⟨g1, g2⟩ := goes_split h (e + 1) (by omega) e4
  have ek : opened (l.take (e + 1)) (k : Int) = [] := by
    rw [← opened_low (l.take (e + 1)) (l.drop (e + 1)) k (by rw [List.length_take]; omega), List.take_append_drop]
    exact ho
  obtain ⟨g3, g4⟩ := goes_split g1 k (by rw [List.length_take]; omega) ek
  refine ⟨(check_ok _).2 ⟨by rw [List.length_drop, List.length_take]; omega, g4⟩, ?_⟩
  rw [wellD_house] at hw ⊢
  rw [← List.take_append_drop (e + 1) l, fitO_app _ g1, takeO_app _ g1, wells_app _ g1] at hw
  obtain ⟨⟨⟨f1, _⟩, ⟨t1, _⟩, _⟩, w1, _⟩ := hw
  have hm0 : kindAt ((l.take (e + 1)).drop k) 0 = kindAt l k := by
    unfold kindAt
    rw [List.getElem?_drop, List.getElem?_take_of_lt (by omega), Nat.add_zero]
  have hlen : 0 < ((l.take (e + 1)).drop k).length := by rw [List.length_drop, List.length_take]; omega
  generalize l.take (e + 1) = m at *
  rw [← List.take_append_drop k m, fitO_app _ g3] at f1
  rw [← List.take_append_drop k m, takeO_app _ g3] at t1
  rw [← List.take_append_drop k m, wells_app _ g3] at w1
  refine ⟨⟨f1.2, t1.2, fun e0 => ?_⟩, w1.2⟩
  have : (0 : Int) ∈ kids (m.drop k) (-1) := by
    refine (kids_mem _ _ _).2 ⟨0, rfl, hlen, by rw [hm0]; exact k2, by rw [hm0]; exact k3, by rw [hm0]; exact k4, ?_⟩
    unfold around
    rw [show ((0 : Nat) : Int) = 0 from rfl, opened_zero]
    rfl
  rw [e0] at this
  cases this
end Go.Proofs.YtofkiaeocfpkeaaGreatDoor

/- AwakeS: the statements' awake: the house's schema says of the least documents what it should. -/
namespace Go.Proofs.YtofkiaeocfpkeaaGreatDoor
open Go.RowKit

theorem lies_none : Lies none 0 0 := by
  unfold Lies
  simp
theorem toks_nil (w : World) : Toks w none 0 [] := ⟨rfl, .inl rfl⟩
theorem toks_pp (w : World) (b : Nat) (h : w.heap[b]? = some (.cells #[.int .i64 1, .int .i64 1, .int .i64 0, .int .i64 0, .int .i64 2, .int .i64 0, .int .i64 0, .int .i64 0] 62 (0, 0))) : Toks w (some ⟨b, 0, none⟩) 2 [openP, closeT] := by
  have hc := fun j => cell_of_row w b j _ _ _ h
  refine ⟨rfl, .inr ⟨b, 0, rfl, (Array.getElem?_eq_some_iff.1 h).1, fun i x hx => ?_⟩⟩
  match i, hx with
  | 0, hx => cases hx; exact ⟨hc 0, hc 1, hc 2, hc 3⟩
  | 1, hx => cases hx; exact ⟨hc 4, hc 5, hc 6, hc 7⟩
  | n + 2, hx => simp at hx
theorem house_ck {w : World} {B g c ng nc : Nat} {ks : List KindD} (h : SchAt w B g c ng nc ks gsH (treesOf houseW houseL)) (h8 : ks.length = 8) : chk 200 (outTree houseW) gsH = 0 := by
  obtain ⟨x, hx⟩ : ∃ x, ks[0]? = some x := ⟨_, List.getElem?_eq_getElem (by omega)⟩
  exact (h.trees 0 x _ hx rfl).2.2
set_option maxRecDepth 100000 in
set_option maxHeartbeats 600000 in
theorem awakes_calls (w : World) (hE : ETy w) : Calls Tryz.prog 15 #[] w fun e w' => e = .returned (.bool true) ∧ Below w.heap.size w w' := by
  have HH : Hid (∀ X, Below w.heap.size w X → Calls Tryz.prog 16 #[] X fun e w' => ∃ B, e = .returned (.pointer (some ⟨B, 0, none⟩)) ∧ MadeS w' B houseW houseL houseG ∧ Below X.heap.size X w') := fun X hX => house_calls X (hE.below hX)
  have HC1 : Hid (∀ (X : World) (B : Nat), MadeS X B houseW houseL houseG → Calls Tryz.prog 18 #[.pointer (some ⟨B, 0, none⟩), .slice (some ⟨X.heap.size, 0, none⟩) 2 2] (X.alloc (.cells #[.int .i64 1, .int .i64 1, .int .i64 0, .int .i64 0, .int .i64 2, .int .i64 0, .int .i64 0, .int .i64 0] 62)) fun e w' => e = .returned (.tuple #[.int .i64 2, .int .i64 0]) ∧ Below X.heap.size X w') := fun X B hm => by
    have hBX : Below X.heap.size X (X.alloc (.cells #[.int .i64 1, .int .i64 1, .int .i64 0, .int .i64 0, .int .i64 2, .int .i64 0, .int .i64 0, .int .i64 0] 62)) := (Below.refl _ X).alloc (Nat.le_refl _) _
    obtain ⟨g, c, ng, nc, ks, h1, h8, hs⟩ := house_kinds (hm.below hBX)
    refine (scheck_calls _ h1 (by omega) (some ⟨X.heap.size, 0, none⟩) 2 2 [openP, closeT] (toks_pp _ _ (World.alloc_heap_new X _)) (by unfold Lies; simp) (by omega) (fun _ i x hx hk => ?_)).mono ?_
    · match i, hx with
      | 0, hx => cases hx; rw [h8]; decide
      | 1, hx => cases hx; exact absurd hk (by decide)
      | n + 2, hx => simp at hx
    · rintro e w' ⟨rfl, hB⟩
      rw [check_para h8 hs]
      exact ⟨rfl, hBX.trans (hB.mono hBX.size)⟩
  have HC2 : Hid (∀ (X : World) (B : Nat), MadeS X B houseW houseL houseG → Calls Tryz.prog 18 #[.pointer (some ⟨B, 0, none⟩), .slice none 0 0] X fun e w' => e = .returned (.tuple #[.int .i64 0, .int .i64 9]) ∧ Below X.heap.size X w') := fun X B hm => by
    obtain ⟨g, c, ng, nc, ks, h1, h8, hs⟩ := house_kinds hm
    refine (scheck_calls _ h1 (by omega) none 0 0 [] (toks_nil X) lies_none (by omega) (fun _ i x hx hk => by simp at hx)).mono ?_
    rintro e w' ⟨rfl, hB⟩
    rw [check_none (house_ck h1 h8)]
    exact ⟨rfl, hB⟩
  clear hE
  go_enter Tryz.func15, Tryz.ntmps15
  go_wp2_with fail
  refine (HH.out w (Below.refl _ _)).mono ?_
  rintro e X1 ⟨B1, rfl, hm1, hB1⟩
  have HX := HC1.out X1 B1 hm1
  have HB1 := Hid.mk_ hB1
  clear hm1 hB1 HC1
  go_wp2_with fail
  refine HX.mono ?_
  rintro e X2 ⟨rfl, hB2⟩
  have HB2 := Hid.mk_ (HB1.out.trans (hB2.mono HB1.out.size))
  have HH2 := HH.out X2 HB2.out
  clear hB2 HX HB1 HH
  go_wp2_with fail
  refine HH2.mono ?_
  rintro e X3 ⟨B3, rfl, hm3, hB3⟩
  have HX3 := HC2.out X3 B3 hm3
  have HB3 := Hid.mk_ (HB2.out.trans (hB3.mono HB2.out.size))
  clear hm3 hB3 HC2 HH2 HB2
  go_wp2_with fail
  refine HX3.mono ?_
  rintro e X4 ⟨rfl, hB4⟩
  have HB4 := Hid.mk_ (HB3.out.trans (hB4.mono HB3.out.size))
  clear hB4 HX3 HB3
  go_wp2
  go_ret
  exact ⟨rfl, HB4.out⟩
end Go.Proofs.YtofkiaeocfpkeaaGreatDoor

/- JoinW: the walk of SchemaJoins. -/
namespace Go.Proofs.YtofkiaeocfpkeaaGreatDoor
open Go.RowKit

set_option maxRecDepth 100000 in
set_option maxHeartbeats 600000 in
theorem joins_long (a : Option Addr) (len cap : Nat) (a' : Option Addr) (len' cap' : Nat) (w : World) (hE : ETy w) (hno : 300 < len ∨ 300 < len') :
    Calls Tryz.prog 8 #[.slice a len cap, .slice a' len' cap'] w fun e w' => e = .returned (.bool true) ∧ Below w.heap.size w w' := by
  have HAW := Hid.mk_ (awakes_calls w hE)
  have hd : (decide ((300 : Int) < (len : Int)) = true) ∨ (decide ((300 : Int) < (len : Int)) = false ∧ decide ((300 : Int) < (len' : Int)) = true) := by
    by_cases h : 300 < len
    · exact .inl (by simpa using (by omega : (300 : Int) < (len : Int)))
    · exact .inr ⟨by simpa using (by omega : (len : Int) ≤ 300), by simpa using (by omega : (300 : Int) < (len' : Int))⟩
  clear hE hno
  rcases hd with hd | ⟨hd, hd2⟩
  all_goals
    go_enter Tryz.func8, Tryz.ntmps8
    go_wp2_with fail
    refine HAW.out.mono ?_
    rintro e W9 ⟨rfl, hB9⟩
    go_wp2
    go_ret
    exact ⟨rfl, hB9⟩

set_option maxRecDepth 100000 in
set_option maxHeartbeats 1600000 in
theorem joins_walk (a : Option Addr) (len cap : Nat) (l : List Tok) (a' : Option Addr) (len' cap' : Nat) (l' : List Tok) (w : World) (hl : Toks w a len l) (hlie : Lies a len cap) (hl' : Toks w a' len' l') (hlie' : Lies a' len' cap') (hE : ETy w) :
    Calls Tryz.prog 8 #[.slice a len cap, .slice a' len' cap'] w fun e w' => e = .returned (.bool true) ∧ Below w.heap.size w w' := by
  by_cases hno : 300 < len ∨ 300 < len'
  · exact joins_long a len cap a' len' cap' w hE hno
  have n1 : len ≤ 300 := by omega
  have n2 : len' ≤ 300 := by omega
  have i1 : (len : Int) ≤ 300 := by omega
  have i2 : (len' : Int) ≤ 300 := by omega
  have d1 : decide ((300 : Int) < (len : Int)) = false := by simpa using i1
  have d2 : decide ((300 : Int) < (len' : Int)) = false := by simpa using i2
  have HAW : Hid (∀ X, Below w.heap.size w X → Calls Tryz.prog 15 #[] X fun e w' => e = .returned (.bool true) ∧ Below X.heap.size X w') := fun X hX => awakes_calls X (hE.below hX)
  have HH := Hid.mk_ (house_calls w hE)
  have HL := Hid.mk_ hl
  have HL' := Hid.mk_ hl'
  have HLI := Hid.mk_ hlie
  have HLI' := Hid.mk_ hlie'
  clear hno hl hl' hlie hlie' hE
  go_enter Tryz.func8, Tryz.ntmps8
  go_wp2_with fail
  refine HH.out.mono ?_
  rintro e X1 ⟨B, rfl, hm, hB1⟩
  obtain ⟨g, c, ng, nc, ks, hS1, h8, hs⟩ := house_kinds hm
  have HB1 := Hid.mk_ hB1
  have HCK : Hid (∀ (X : World) (a : Option Addr) (len cap : Nat) (l : List Tok), Below X1.heap.size X1 X → Toks X a len l → Lies a len cap → len ≤ 2048 → Calls Tryz.prog 18 #[.pointer (some ⟨B, 0, none⟩), .slice a len cap] X fun e w' => ∃ q1 q2 : Int, e = .returned (.tuple #[.int .i64 q1, .int .i64 q2]) ∧ q2 = (checkS ks gsH (treesOf houseW houseL) l).2 ∧ Below X.heap.size X w') := fun X a len cap l hX ht hli hn =>
    (scheck_any X (hS1.below hX) (by omega) a len cap l ht hli (by omega)).mono fun e w' ⟨h1, h2⟩ => ⟨_, _, h1, rfl, h2⟩
  have HC1 := HCK.out X1 a len cap l (Below.refl _ _) (HL.out.below hB1) HLI.out (by omega)
  clear hm hB1 hS1 hs HH
  go_wp2_with fail
  refine HC1.mono ?_
  rintro e X2 ⟨q1, q2, rfl, hq2, hB2⟩
  have HQ2 := Hid.mk_ hq2
  clear hq2
  have HB2 := Hid.mk_ (HB1.out.trans (hB2.mono HB1.out.size))
  have HB12 := Hid.mk_ hB2
  have HC2 := HCK.out X2 a' len' cap' l' hB2 (HL'.out.below HB2.out) HLI'.out (by omega)
  clear hB2 HC1
  go_wp2_with fail
  refine HC2.mono ?_
  rintro e X3 ⟨r1, r2, rfl, hr2, hB3⟩
  have HR2 := Hid.mk_ hr2
  clear hr2
  have HB3 := Hid.mk_ (HB2.out.trans (hB3.mono HB2.out.size))
  have HB13 := Hid.mk_ (HB12.out.trans (hB3.mono HB12.out.size))
  clear hB3 HC2
  have HA3 := HAW.out X3 HB3.out
  by_cases hz : ¬ (q2 = 0 ∧ r2 = 0)
  · have hd : (q2 != 0) = true ∨ ((q2 != 0) = false ∧ (r2 != 0) = true) := by
      by_cases e1 : q2 = 0
      · exact .inr ⟨by simp [e1], by simpa using fun e2 => hz ⟨e1, e2⟩⟩
      · exact .inl (by simpa using e1)
    clear HQ2 HR2 hz
    rcases hd with hd | ⟨hd, hd2⟩
    all_goals
      go_wp2_with fail
      refine HA3.mono ?_
      rintro e X4 ⟨rfl, hB4⟩
      have HE := Hid.mk_ (HB3.out.trans (hB4.mono HB3.out.size))
      clear hB4
      go_wp2
      go_ret
      first | exact HE.out | exact ⟨rfl, HE.out⟩
  obtain ⟨rfl, rfl⟩ := Decidable.not_not.1 hz
  clear hz
  obtain ⟨ok1, wl1⟩ := checkS_iff.1 HQ2.out.symm
  obtain ⟨ok2, wl2⟩ := checkS_iff.1 HR2.out.symm
  have go1 := ((check_ok l).1 ok1).2
  have hLL : (l ++ l').length = len + len' := by rw [List.length_append, HL.out.1, HL'.out.1]
  have HOK : Hid ((checkS ks gsH (treesOf houseW houseL) (l ++ l')).2 = 0) := checkS_iff.2 ⟨check_joins l l' ok1 ok2 (by omega), wellD_joins go1 wl1 wl2⟩
  obtain ⟨v1, X4, run1, o1, ne1, b4⟩ := tok_clone_own a len cap l X3 (HL.out.below HB3.out) (by omega)
  obtain ⟨v2, X5, run2, o2, ne2, b5⟩ := tok_append_own X3.heap.size v1 len l X4 o1 ne1 b4.size a' len' cap' l' ((HL'.out.below HB3.out).below b4) (by omega)
  obtain ⟨gg, cp, rfl, _, hcp1, hcp2, tL⟩ := toks_of_owns o2 ne2
  have b35 := b4.trans b5
  have HB5 := Hid.mk_ (HB3.out.trans (b35.mono HB3.out.size))
  have HB15 := Hid.mk_ (HB13.out.trans (b35.mono HB13.out.size))
  unfold maxLen at hcp2
  have HC5 := HCK.out X5 (some ⟨gg, 0, none⟩) (len + len') cp (l ++ l') HB15.out tL ⟨hcp1, hcp2, (fun h => by cases h), (fun x h _ => by cases h; rfl)⟩ (by omega)
  rw [HOK.out] at HC5
  have HKI : Hid (∀ X, Below w.heap.size w X → Calls Tryz.prog 32 #[.slice a len cap, .int .i64 (-1)] X fun e w' => ∃ a6 c6, e = .returned (.slice a6 (kids l (-1)).length c6) ∧ RowC .i64 w' a6 (kids l (-1)).length c6 (kids l (-1)) ∧ Below X.heap.size X w') := fun X hX => fkids_calls a len cap l (-1) X (HL.out.below hX) (by omega)
  have HPT : Hid (∀ X i, Below w.heap.size w X → Calls Tryz.prog 33 #[.slice a len cap, .int .i64 i] X fun e w' => e = .returned (.int .i64 (partner l i)) ∧ Below X.heap.size X w') := fun X i hX => fpartner_calls a len cap l i X (HL.out.below hX) (by omega) HLI.out
  have HPA : Hid (∀ x ∈ kids l (-1), ∃ k e : Nat, x = (k : Int) ∧ max (partner l x) x = (e : Int) ∧ k ≤ e ∧ e < l.length ∧ (checkS ks gsH (treesOf houseW houseL) ((l.take (e + 1)).drop k)).2 = 0) := fun x hx => wellD_part go1 (by have := HL.out.1; omega) wl1 x hx
  have hkn : (kids l (-1)).length ≤ 300 := by have := kids_few l (-1); have := HL.out.1; omega
  have hk0 : 0 < (kids l (-1)).length := by
    refine Nat.pos_of_ne_zero fun e => ?_
    exact ((wellD_house.1 wl1).1.2.2) (List.length_eq_zero_iff.1 e)
  have hll := HL.out.1
  generalize kids l (-1) = K at *
  clear o1 o2 ne1 ne2 b4 b5 b35 tL HQ2 HR2 ok1 ok2 wl1 wl2 go1 hLL HOK HL' HLI' hcp1 hcp2
  go_wp2_with (at_builtin; first | refine wpList_tok_run rfl _ _ 36 rfl _ _ _ _ rfl rfl run1 ?_ | refine wpList_tok_run rfl _ _ 36 rfl _ _ _ _ rfl rfl run2 ?_)
  refine HC5.mono ?_
  rintro e X6 ⟨s1, s2, rfl, rfl, hB6⟩
  have HB6 := Hid.mk_ (HB5.out.trans (hB6.mono HB5.out.size))
  have HB16 := Hid.mk_ (HB15.out.trans (hB6.mono HB15.out.size))
  have HK6 := HKI.out X6 HB6.out
  clear hB6 HC5 run1 run2
  go_wp2_with fail
  refine HK6.mono ?_
  rintro e X7 ⟨a6, c6, rfl, ⟨hrow, hc61, hc62⟩, hB7⟩
  have HB7 := Hid.mk_ (HB6.out.trans (hB7.mono HB6.out.size))
  have HB17 := Hid.mk_ (HB16.out.trans (hB7.mono HB16.out.size))
  obtain ⟨nK, hnK⟩ : ∃ nK, nK = K.length := ⟨_, rfl⟩
  rw [← hnK] at hrow hc61 hkn hk0 ⊢
  have HROW := Hid.mk_ hrow
  have HNK := Hid.mk_ hnK
  clear hnK
  have hki : (nK : Int) ≤ 300 := by omega
  have hk0i : (0 : Int) < (nK : Int) := by omega
  have hdk : decide ((0 : Int) < (nK : Int)) = true := by simpa using hk0i
  clear hB7 hrow HK6
  go_wp2
  go_loopg [13] (nK + 1) (fun gk u wr => ∃ i : Nat, i ≤ nK ∧ nK < i + gk ∧ u = .int .i64 (i : Int) ∧ Below X7.heap.size X7 wr)
  case atStart => exact ⟨0, Nat.zero_le _, by omega, rfl, Below.refl _ _⟩
  case round =>
    obtain ⟨i, hi, hgk, rfl, hB⟩ := hrel
    have HWR := Hid.mk_ (HB7.out.trans (hB.mono HB7.out.size))
    have HWR1 := Hid.mk_ (HB17.out.trans (hB.mono HB17.out.size))
    have HBR := Hid.mk_ hB
    clear hB
    by_cases hlt : i < nK
    · obtain ⟨x, hx⟩ : ∃ x, K[i]? = some x := ⟨_, List.getElem?_eq_getElem (by have := HNK.out; omega)⟩
      obtain ⟨k, e, rfl, hmx', hke, hel, hck⟩ := HPA.out x (List.mem_of_getElem? hx)
      have hii : (i : Int) < (nK : Int) := by omega
      have hi0 : (0 : Int) ≤ (i : Int) := by omega
      have hd : decide ((i : Int) < (nK : Int)) = true := by simpa using hii
      obtain ⟨b6, o6, rfl, hcell⟩ : ∃ b6 o6, a6 = some ⟨b6, o6, none⟩ ∧ ∀ X, Below X7.heap.size X7 X → X.cell? ⟨b6, o6 + i, none⟩ = some (.int .i64 (k : Int)) := by
        obtain ⟨_, h0 | ⟨b6, o6, rfl, h1, h2⟩⟩ := HROW.out
        · omega
        · refine ⟨b6, o6, rfl, fun X hX => ?_⟩
          have := h2 i hlt
          rw [List.getD_eq_getElem?_getD, hx] at this
          exact (hX.cell (p := ⟨b6, o6 + i, none⟩) h1).trans this
      obtain ⟨b, o, x0, rfl, _, _, _⟩ := HL.out.token (k := k) (by omega)
      have hcap : len ≤ cap := HLI.out.1
      have hcap2 : cap ≤ 9223372036854775807 := HLI.out.2.1
      have HCE : Hid (∀ X, Below wr.heap.size wr X → X.cell? ⟨b6, o6 + i, none⟩ = some (.int .i64 (k : Int)) ∧ True) := fun X hX => ⟨hcell X (HBR.out.trans (hX.mono HBR.out.size)), trivial⟩
      have HPX : Hid (∀ X, Below wr.heap.size wr X → Calls Tryz.prog 33 #[.slice (some ⟨b, o, none⟩) len cap, .int .i64 (k : Int)] X fun e w' => e = .returned (.int .i64 (partner l k)) ∧ Below X.heap.size X w') := fun X hX => HPT.out X k (HWR.out.trans (hX.mono HWR.out.size))
      have HCP : Hid (∀ X, Below wr.heap.size wr X → Calls Tryz.prog 18 #[.pointer (some ⟨B, 0, none⟩), .slice (some ⟨b, o + k * 4, none⟩) (e + 1 - k) (cap - k)] X fun e w' => ∃ q1 : Int, e = .returned (.tuple #[.int .i64 q1, .int .i64 0]) ∧ Below X.heap.size X w') := fun X hX => by
        have ht := (HL.out.below (HWR.out.trans (hX.mono HWR.out.size))).part k (e + 1 - k) cap (by omega) hcap
        rw [if_neg (by omega), ← List.drop_take] at ht
        refine (HCK.out X _ _ (cap - k) _ (HWR1.out.trans (hX.mono HWR1.out.size)) ht ⟨by omega, by omega, (fun h => by cases h), (fun x h _ => by cases h; rfl)⟩ (by omega)).mono ?_
        rintro e' w' ⟨q1, q2, h1, rfl, h3⟩
        rw [hck] at h1
        exact ⟨q1, h1, h3⟩
      have hei : (e : Int) < (len : Int) := by omega
      have hkei : (k : Int) ≤ (e : Int) := by omega
      have hki0 : (0 : Int) ≤ (k : Int) := by omega
      have hlc : (len : Int) ≤ (cap : Int) := by omega
      have hlci : (cap : Int) ≤ 9223372036854775807 := by omega
      generalize partner l (k : Int) = pt at *
      have HMX := Hid.mk_ hmx'
      clear hx hck hcell HCK HKI HPT HPA HROW hmx'
      go_wp2_with fail
      refine wp_region_held_drew (S := fun X => Below wr.heap.size wr X) hmx (Below.refl _ _).drew (fun hS => ?_)
      refine takeD 0 (some 66) (v := ?_) rfl rfl (by kernel_rfl) (by kernel_rfl) (by kernel_rfl) (fun _ _ _ h => h) (Or.inl ⟨by rfl, ?_⟩) hS ?_
      rotate_left
      · intro w hSw
        try go_simp
        with_reducible rfl
      try simp only [Act.put, List.setIfInBounds_toArray, List.set_cons_zero, List.set_cons_succ]
      refine takeD 1 (some 67) (v := ?_) rfl rfl (by kernel_rfl) (by kernel_rfl) (by kernel_rfl) (fun _ _ _ h => h) (Or.inl ⟨by rfl, ?_⟩) hS ?_
      rotate_left
      · intro w hSw
        try go_simp
        with_reducible rfl
      try simp only [Act.put, List.setIfInBounds_toArray, List.set_cons_zero, List.set_cons_succ]
      refine takeD 2 (some 68) (v := ?_) rfl rfl (by kernel_rfl) (by kernel_rfl) (by kernel_rfl) (fun _ _ _ h => h) (Or.inl ⟨by rfl, ?_⟩) hS ?_
      rotate_left
      · intro w hSw
        try go_simp
        with_reducible rfl
      try simp only [Act.put, List.setIfInBounds_toArray, List.set_cons_zero, List.set_cons_succ]
      refine takeD 3 (some 69) (v := ?_) rfl rfl (by kernel_rfl) (by kernel_rfl) (by kernel_rfl) (fun _ _ _ h => h) (Or.inl ⟨by rfl, ?_⟩) hS ?_
      rotate_left
      · intro w hSw
        go_simp
        with_reducible rfl
      try simp only [Act.put, List.setIfInBounds_toArray, List.set_cons_zero, List.set_cons_succ]
      refine takeD 4 (some 70) (v := ?_) rfl rfl (by kernel_rfl) (by kernel_rfl) (by kernel_rfl) (fun _ _ _ h => h) (Or.inl ⟨by rfl, ?_⟩) hS ?_
      rotate_left
      · intro w hSw
        obtain ⟨q0, q1⟩ := HCE.out _ hSw
        go_simp
        with_reducible rfl
      try simp only [Act.put, List.setIfInBounds_toArray, List.set_cons_zero, List.set_cons_succ]
      refine takeD 6 (some 72) (v := ?_) rfl rfl (by kernel_rfl) (by kernel_rfl) (by kernel_rfl) (fun _ _ _ h => h) (Or.inl ⟨by rfl, ?_⟩) hS ?_
      rotate_left
      · intro w hSw
        try go_simp
        with_reducible rfl
      try simp only [Act.put, List.setIfInBounds_toArray, List.set_cons_zero, List.set_cons_succ]
      refine takeD 7 (some 73) (v := ?_) rfl rfl (by kernel_rfl) (by kernel_rfl) (by kernel_rfl) (fun _ _ _ h => h) (Or.inl ⟨by rfl, ?_⟩) hS ?_
      rotate_left
      · intro w hSw
        try go_simp
        with_reducible rfl
      try simp only [Act.put, List.setIfInBounds_toArray, List.set_cons_zero, List.set_cons_succ]
      refine takeD 8 (some 74) (v := ?_) rfl rfl (by kernel_rfl) (by kernel_rfl) (by kernel_rfl) (fun _ _ _ h => h) (Or.inl ⟨by rfl, ?_⟩) hS ?_
      rotate_left
      · intro w hSw
        go_simp
        with_reducible rfl
      try simp only [Act.put, List.setIfInBounds_toArray, List.set_cons_zero, List.set_cons_succ]
      refine takeD 9 (some 75) (v := ?_) rfl rfl (by kernel_rfl) (by kernel_rfl) (by kernel_rfl) (fun _ _ _ h => h) (Or.inl ⟨by rfl, ?_⟩) hS ?_
      rotate_left
      · intro w hSw
        obtain ⟨q0, q1⟩ := HCE.out _ hSw
        go_simp
        with_reducible rfl
      try simp only [Act.put, List.setIfInBounds_toArray, List.set_cons_zero, List.set_cons_succ]
      refine callD 5 (by kernel_rfl) rfl (fun K hK => ?_)
      rw [if_pos (by rfl)]
      go_simp
      refine (HPX.out _ hS).mono ?_
      rintro e Y ⟨rfl, bY⟩
      have hY := hS.trans (bY.mono hS.size)
      clear bY
      refine hK.out _ _ hY (fun _ => ?_)
      clear hK K
      try simp only [Act.put, List.setIfInBounds_toArray, List.set_cons_zero, List.set_cons_succ]
      refine takeD 10 (some 76) (v := ?_) rfl rfl (by kernel_rfl) (by kernel_rfl) (by kernel_rfl) (fun _ _ _ h => h) (Or.inl ⟨by rfl, ?_⟩) hY ?_
      rotate_left
      · intro w hSw
        go_simp
        with_reducible rfl
      try simp only [Act.put, List.setIfInBounds_toArray, List.set_cons_zero, List.set_cons_succ]
      refine takeD 11 (some 14) (v := ?_) rfl rfl (by kernel_rfl) (by kernel_rfl) (by kernel_rfl) (fun _ _ _ h => h) (Or.inl ⟨by rfl, ?_⟩) hY ?_
      rotate_left
      · intro w hSw
        try go_simp
        with_reducible rfl
      try simp only [Act.put, List.setIfInBounds_toArray, List.set_cons_zero, List.set_cons_succ]
      refine wpAnyH_done (by kernel_rfl) ?_ _
      have HY := Hid.mk_ hY
      have c9 := HCE.out Y hY
      have HCX := HCP.out Y hY
      have c9' := c9.1
      rw [HMX.out]
      clear c9 hS hY HMX HPX HCE HCP
      go_wp2_with fail
      refine HCX.mono ?_
      rintro e' X8 ⟨z1, rfl, hB8⟩
      have HE := Hid.mk_ (HY.out.trans (hB8.mono HY.out.size))
      clear hB8 HCX c9'
      go_wp2
      go_roundg (nK - i)
      case measure => omega
      case rel => exact ⟨i + 1, by omega, by omega, by first | rfl | go_num, HBR.out.trans (HE.out.mono HBR.out.size)⟩
    · obtain rfl : i = nK := by omega
      have hd : decide ((i : Int) < (i : Int)) = false := by simp
      have HAX := HAW.out wr HWR.out
      clear HKI HPT HPA HROW HCK HL HLI
      go_wp2_with fail
      refine HAX.mono ?_
      rintro e X9 ⟨rfl, hB9⟩
      have HE := Hid.mk_ (HWR.out.trans (hB9.mono HWR.out.size))
      clear hB9 HAX
      go_wp2
      go_ret
      first | exact HE.out | exact ⟨rfl, HE.out⟩
end Go.Proofs.YtofkiaeocfpkeaaGreatDoor

/- ArgsT: how a slice of tokens, and a token, that came in is read. -/
namespace Go.Proofs.YtofkiaeocfpkeaaGreatDoor
open Go.ChangeShapes Go.WideShapes Go.ChangeAt Go.RowKit

/-- Each number of a token fits. -/
def TokFits (x : Tok) : Prop := (Lit.int .i64 x.k).wf = true ∧ (Lit.int .i64 x.t).wf = true ∧ (Lit.int .i64 x.n).wf = true ∧ (Lit.int .i64 x.m).wf = true
set_option maxRecDepth 100000 in
theorem tok_of_cells {H : Type} {enc : TypeId × Value → H} {w : World} {base : Nat} {spare : Nat → Bool} {held : Bool} {fuel : Nat} {cs : List Value} {x : DataW H × List MemPlace} (h : DataW.trod enc Tryz.prog w base spare held fuel 62 cs = some x) :
    ∃ y : Tok, cs = [.int .i64 y.k, .int .i64 y.t, .int .i64 y.n, .int .i64 y.m] ∧ TokFits y ∧ x = (.agg [.lit (.int .i64 y.k), .lit (.int .i64 y.t), .lit (.int .i64 y.n), .lit (.int .i64 y.m)], []) := by
  obtain ⟨xs, k, _, hxy, hlen, hxl, hf⟩ := DataW.trod_struct Tryz.underlying62 h
  rw [show Tryz.prog.cellsOf 62 = 4 from by kernel_rfl] at hlen
  match xs, hxl, cs, hlen with
  | [y0, y1, y2, y3], _, [v0, v1, v2, v3], _ =>
    have c3 : Tryz.prog.cellsOf 3 = 1 := by kernel_rfl
    have g0 := hf 0 _ rfl
    have g1 := hf 1 _ rfl
    have g2 := hf 2 _ rfl
    have g3 := hf 3 _ rfl
    simp [c3] at g0 g1 g2 g3
    obtain ⟨n0, e0, d0, f0⟩ := DataW.trod_int Tryz.underlying3 g0
    obtain ⟨n1, e1, d1, f1⟩ := DataW.trod_int Tryz.underlying3 g1
    obtain ⟨n2, e2, d2, f2⟩ := DataW.trod_int Tryz.underlying3 g2
    obtain ⟨n3, e3, d3, f3⟩ := DataW.trod_int Tryz.underlying3 g3
    simp at e0 e1 e2 e3
    subst e0 e1 e2 e3 d0 d1 d2 d3
    exact ⟨⟨n0, n1, n2, n3⟩, rfl, ⟨f0, f1, f2, f3⟩, by rw [hxy]; rfl⟩

/-- A slice of tokens that came in. -/
theorem open_toks {H : Type} {enc : TypeId × Value → H} {W : World} {a : Option Addr} {len cap : Nat} {d : DataW H} {p : List MemPlace} (h : DataW.Trod enc Tryz.prog W 0 (fun _ => true) true 36 (.slice a len cap) d p) :
    ∃ l : List Tok, Toks W a len l ∧ (∀ x ∈ l, TokFits x) ∧ len ≤ cap ∧ cap ≤ maxLen ∧ (a = none → cap = 0) ∧ (∀ x, a = some x → 0 < cap → x.spot = none) ∧ (len = 0 ∨ ∃ elems spare, d = .slice elems spare ∧ len ≤ elems.length ∧ cap ≤ elems.length + spare.length) := by
  obtain ⟨fuel, hf⟩ := h
  have hc4 : Tryz.prog.cellsOf 62 = 4 := by kernel_rfl
  rcases Deep.open_slice Tryz.underlying36 hf with ⟨hcs, hx⟩ | ⟨x, l, c, m, n, D, Pl, hcs, _, hl, hm, hmm, hx, hD⟩
  · simp [Value.cells] at hcs
    obtain ⟨rfl, rfl, rfl⟩ := hcs
    exact ⟨[], ⟨rfl, .inl rfl⟩, by simp, Nat.le_refl _, Nat.zero_le _, fun _ => rfl, fun _ _ h => absurd h (by omega), .inl rfl⟩
  · simp [Value.cells] at hcs
    obtain ⟨rfl, rfl, rfl⟩ := hcs
    simp only [if_true] at hmm
    subst hmm
    rw [hc4] at hD
    have each : ∀ i, i < m → ∃ y : Tok, TokFits y ∧ W.cell? (x.add (i * 4)) = some (.int .i64 y.k) ∧ W.cell? ((x.add (i * 4)).add 1) = some (.int .i64 y.t) ∧ W.cell? ((x.add (i * 4)).add 2) = some (.int .i64 y.n) ∧ W.cell? ((x.add (i * 4)).add 3) = some (.int .i64 y.m) := by
      intro i hi
      obtain ⟨cs', h1, h2⟩ := hD i hi
      obtain ⟨_, _, hcell⟩ := World.cells?_some h1
      obtain ⟨y, rfl, hy, _⟩ := tok_of_cells h2
      refine ⟨y, hy, ?_, hcell 1 (by omega), hcell 2 (by omega), hcell 3 (by omega)⟩
      have := hcell 0 (by omega)
      rw [show (x.add (i * 4)).add 0 = x.add (i * 4) from by obtain ⟨b, o, s⟩ := x; cases s <;> simp [Addr.add]] at this
      exact this
    haveI : Inhabited Tok := ⟨⟨0, 0, 0, 0⟩⟩
    obtain ⟨Y, hY⟩ := Deep.choose_lt each
    have hspot : 0 < m → x.spot = none := by
      intro h0
      have := World.cell?_spot (hY 0 h0).2.1
      obtain ⟨b, o, s⟩ := x
      simpa [Addr.add] using this
    refine ⟨(List.range len).map Y, ⟨by simp, ?_⟩, ?_, hl, hm, (fun e => by cases e), (fun z e h0 => by cases e; exact hspot h0), .inr ⟨_, _, congrArg Prod.fst hx, by simp, by simp; omega⟩⟩
    · rcases Nat.eq_zero_or_pos len with h0 | h0
      · exact .inl h0
      · obtain ⟨b, o, s⟩ := x
        obtain rfl : s = none := hspot (by omega)
        refine .inr ⟨b, o, rfl, ?_, fun i y hy => ?_⟩
        · have := (hY 0 (by omega)).2.1
          rw [add_none4] at this
          rcases Nat.lt_or_ge b W.heap.size with hlt | hge
          · exact hlt
          · simp [World.cell?, Array.getElem?_eq_none hge] at this
        · have hi : i < len := by
            have := (List.getElem?_eq_some_iff.1 hy).1
            simpa using this
          obtain rfl : Y i = y := by simpa [List.getElem?_map, List.getElem?_range hi] using hy
          have := (hY i (by omega)).2
          simp only [add_none4] at this
          exact this
    · intro y hy
      obtain ⟨i, hi, rfl⟩ := List.mem_map.1 hy
      exact (hY i (by have := List.mem_range.1 hi; omega)).1
end Go.Proofs.YtofkiaeocfpkeaaGreatDoor

/- Rowl: a slice of integers that came in is no longer than it is wide. -/
namespace Go.Proofs.YtofkiaeocfpkeaaGreatDoor
open Go.ChangeShapes Go.WideShapes Go.ChangeAt Go.RowKit

theorem open_rowl {H : Type} {enc : TypeId × Value → H} {W : World} {a : Option Addr} {len cap : Nat} {d : DataW H} {p : List MemPlace} (h : DataW.Trod enc Tryz.prog W 0 (fun _ => true) true 23 (.slice a len cap) d p) : len ≤ cap ∧ cap ≤ 9223372036854775807 := by
  obtain ⟨fuel, hf⟩ := h
  rcases open_ints Tryz.underlying23 Tryz.underlying3 (by kernel_rfl) hf with ⟨hcs, _⟩ | ⟨y, l, c, zs, hcs, hq, hl, hm, _⟩
  · simp [Value.cells] at hcs
    omega
  · simp [Value.cells] at hcs
    obtain ⟨rfl, rfl, rfl⟩ := hcs
    unfold maxLen at hm
    omega
end Go.Proofs.YtofkiaeocfpkeaaGreatDoor
