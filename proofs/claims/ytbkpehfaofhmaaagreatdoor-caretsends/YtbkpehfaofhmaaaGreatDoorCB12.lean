/-
  PROVED HERE: what the texts DBCaretO, DBCaretN, DBParseD say (each has its own words below).
-/
import Derived.Test.YtbkpehfaofhmaaaGreatDoorCB11
import Derived.Test.YtbkpehfaofhmaaaGreatDoorCB10
import Derived.Test.YtbkpehfaofhmaaaGreatDoorCB3
import Derived.Test.YtbkpehfaofhmaaaGreatDoorCBDBParseC
/- DBCaretO: the iterator that caret.outwards hands back goes over the places from one on, the nearer ones first. -/
namespace Go.Proofs.YtbkpehfaofhmaaaGreatDoor
open Go.RowKit Go.Shelf
attribute [local go_sem] Oper.semAt_some
theorem results_cells2 {P : Program} {fn : Func} {p u : Tmp} {t1 t2 : TypeId} (h : fn.results = #[.cell p t1, .cell u t2]) (tmps : Array Value) (w : World) (a1 a2 : Addr) (v1 v2 : Value) (hp : tmps.getD p undef = .pointer (some a1)) (hu : tmps.getD u undef = .pointer (some a2))
  (i1 : (isAgg t1).run P w = .ok false w) (i2 : (isAgg t2).run P w = .ok false w) (c1 : w.cell? a1 = some v1) (c2 : w.cell? a2 = some v2) : (results fn tmps).run P w = .ok (.tuple #[v1, v2]) w := by
 simp only [results, h]
 have hp' : tmps[p]?.getD undef = .pointer (some a1) := by simpa using hp
 have hu' : tmps[u]?.getD undef = .pointer (some a2) := by simpa using hu
 simp [Sem.run_bind, Result.andThen, asAddr, hp', hu', loadVar, i1, i2, go_sem, c1, c2]
set_option maxHeartbeats 1000000 in
theorem outwards_in (F : Fence) (n : Nat) (h30 : F.fn 27) (hro : F.round = none) (s a y : Int) (w : World) :
  CallsIn F n Tryz.prog 27 #[.int .i64 s, .int .i64 a, .int .i64 y] w fun e w' => e = .returned (.func (.func 58) #[] #[.pointer (some ⟨w.heap.size + 1, 0, none⟩), .pointer (some ⟨w.heap.size, 0, none⟩), .pointer (some ⟨w.heap.size + 1 + 1, 0, none⟩)]) ∧
   w' = ((w.alloc (.cells #[.int .i64 s] 3)).alloc (.cells #[.int .i64 a] 3)).alloc (.cells #[.int .i64 y] 3) := by
 refine callsIn_of_wp Tryz.func27 rfl h30 ?_ hro
 simp only [Tryz.ntmps27, List.size_toArray, List.length_cons, List.length_nil, Nat.reduceAdd, Nat.reduceSub, Array.replicate_succ, Array.replicate_zero, List.push_toArray, List.append_toArray, List.nil_append, List.cons_append]
 gi_wp2
 go_ret
 exact ⟨rfl, rfl⟩
def KpC (m : Nat) (W W' : World) : Prop := W.heap.size <= W'.heap.size /\ ∀ k, m <= k -> k <= m + 1 + 1 -> W'.heap[k]? = W.heap[k]?
theorem KpC.trans {m : Nat} {A B C : World} (h : KpC m A B) (k : KpC m B C) : KpC m A C := ⟨Nat.le_trans h.1 k.1, fun i h1 h2 => (k.2 i h1 h2).trans (h.2 i h1 h2)⟩
def Vars (W : World) (m size : Nat) (a y : Int) : Prop := W.heap[m]? = some (.cells #[.int .i64 (size : Int)] 3 (0, 0)) /\ W.heap[m + 1]? = some (.cells #[.int .i64 a] 3 (0, 0)) /\ W.heap[m + 1 + 1]? = some (.cells #[.int .i64 y] 3 (0, 0))
theorem Vars.kp {W W' : World} {m size : Nat} {a y : Int} (h : Vars W m size a y) (k : KpC m W W') : Vars W' m size a y := ⟨(k.2 _ (by omega) (by omega)).trans h.1, (k.2 _ (by omega) (by omega)).trans h.2.1, (k.2 _ (by omega) (by omega)).trans h.2.2⟩
theorem Vars.at_ {W : World} {m size : Nat} {a y : Int} (h : Vars W m size a y) : W.cell? ⟨m, 0, none⟩ = some (.int .i64 (size : Int)) /\ W.cell? ⟨m + 1, 0, none⟩ = some (.int .i64 a) /\ W.cell? ⟨m + 1 + 1, 0, none⟩ = some (.int .i64 y) := ⟨(cells1 h.1).1, (cells1 h.2.1).1, (cells1 h.2.2).1⟩
theorem outK_length (n : Nat) (a y : Int) (k : Nat) : (outK n a y k).length <= 2 * k + 1 := by
 induction k with
 | zero => simp [outK]
 | succ k ih =>
  rw [outK_succ, List.length_append]
  have : (pairL n a y k).length <= 2 := by unfold pairL; exact List.length_filter_le _ _
  omega
theorem index2 (p q : Int) (W : World) : (Instr.index 112 (.agg #[.int .i64 p, .int .i64 q]) (.int .i64 0)).run Tryz.prog W = .ok (.int .i64 p) W /\ (Instr.index 112 (.agg #[.int .i64 p, .int .i64 q]) (.int .i64 1)).run Tryz.prog W = .ok (.int .i64 q) W := by
 constructor
 ·kernel_rfl
 ·kernel_rfl
def halfL (n : Nat) (p q : Int) : Nat -> List Int
 | 0 => []
 | 1 => [p].filter (isPl n)
 | _ + 2 => [p, q].filter (isPl n)
theorem half_prefix (n : Nat) (p q : Int) (l : List Int) : l ++ halfL n p q 1 <+: l ++ halfL n p q 2 := by
 rw [halfL, halfL]
 refine (List.prefix_append_right_inj l).2 ?_
 cases e : isPl n p <;> simp [e]
theorem half_length (n : Nat) (p q : Int) (j : Nat) (h : j <= 1) : (halfL n p q j).length <= 1 := by
 match j, h with
 | 0, _ => simp [halfL]
 | 1, _ => exact List.length_filter_le _ _
set_option maxRecDepth 100000 in
set_option maxHeartbeats 4000000 in
theorem outwards1_in (n : Nat) (hn : 1 <= n) (li m size : Nat) (a y : Int) (hy : y = 1 \/ y = -1) (ha : 0 <= a /\ a <= (size : Int)) (hs : size <= 2048)
  (J Jx : List Int -> World -> Prop) (W : World)
  (hY : ∀ pre p W1, J pre W1 -> pre.length < 2 * size + 2 -> YieldAt Fence.wide (n - 1) Tryz.prog li (#[.int .i64 p]) W1 fun e W' =>
   (e = .returned (.bool true) /\ J (pre ++ [p]) W' /\ KpC m W1 W') \/ (e = .returned (.bool false) /\ Jx (pre ++ [p]) W'))
  (hv : Vars W m size a y) (h0 : J [] W) :
  CallsIn Fence.wide n Tryz.prog 58 #[.func (.yield li) #[] #[], .pointer (some ⟨m + 1, 0, none⟩), .pointer (some ⟨m, 0, none⟩), .pointer (some ⟨m + 1 + 1, 0, none⟩)] W fun e W' => (∃ v, e = .returned v) ∧
   ((∃ ys, ys = outK size a y size /\ J ys W') \/ (∃ pre, pre <+: outK size a y size /\ Jx pre W')) := by
 refine callsIn_of_wp Tryz.func58 rfl trivial ?_ rfl
 simp only [Tryz.ntmps58, List.size_toArray, List.length_cons, List.length_nil, Nat.reduceAdd, Nat.reduceSub, Array.replicate_succ, Array.replicate_zero, List.push_toArray, List.append_toArray, List.nil_append, List.cons_append]
 have HY : Hid (∀ pre p W1, J pre W1 -> pre.length < 2 * size + 2 -> YieldAt Fence.wide (n - 1) Tryz.prog li (#[.int .i64 p]) W1 fun e W' =>
   (e = .returned (.bool true) /\ J (pre ++ [p]) W' /\ KpC m W1 W') \/ (e = .returned (.bool false) /\ Jx (pre ++ [p]) W')) := hY
 have HV := hidC hv
 have HPL : Hid (∀ (d : Nat) (p : Int) (X : World), CallsIn Fence.wide d Tryz.prog 43 #[.int .i64 (size : Int), .int .i64 p] X fun e w' => e = .returned (.bool (isPl size p)) /\ w' = X) := fun _ p X => callsIn_wide.2 (isplace_calls size p X)
 have hfn : Fence.wide.fn 43 := trivial
 obtain ⟨v0, v1, v2⟩ := hv.at_
 obtain ⟨fn, tmps, assign, body, hy0, hY1⟩ := hY [] a W h0 (by simp)
 clear hv hY
 gi_wp2
 refine hY1.mono ?_
 rintro e W3 (⟨rfl, hJ3, hk3⟩ | ⟨rfl, hJx3⟩)
 ·have hv3 := HV.out.kp hk3
  obtain ⟨u0, u1, u2⟩ := hv3.at_
  have HV3 := hidC hv3
  clear hv3 hk3 hY1
  gi_wp2
  gi_loopw [5] (fun q wr => ∃ k : Nat, k <= size /\ q = .int .i64 ((k : Int) + 1) /\ J (outK size a y k) wr /\ Vars wr m size a y) (fun q _ => size + 1 - (intOf q).toNat)
  case atStart => exact ⟨0, by omega, rfl, hJ3, HV3.out⟩
  case round =>
   obtain ⟨k, hk, rfl, hJs, hvr⟩ := hrel
   obtain ⟨r0, r1, r2⟩ := hvr.at_
   have HVR := hidC hvr
   have HJS := hidC hJs
   clear hvr hJs
   by_cases hlt : k < size
   ·have hki : (k : Int) + 1 <= (size : Int) := by omega
    have hsi : (size : Int) <= 2048 := by omega
    obtain ⟨ya, hya⟩ : ∃ ya, ya = y * ((k : Int) + 1) := ⟨_, rfl⟩
    have hyb : -2048 <= ya /\ ya <= 2048 := by rcases hy with rfl | rfl <;> omega
    have HYA := hidC hya
    have HFI : Hid (∀ X, J (outK size a y k ++ halfL size (a + y * ((k : Int) + 1)) (a - y * ((k : Int) + 1)) 2) X -> J (outK size a y (k + 1)) X) := fun X h => by rw [outK_succ]; exact h
    have HPF : Hid (∀ l : List Int, l <+: outK size a y k ++ halfL size (a + y * ((k : Int) + 1)) (a - y * ((k : Int) + 1)) 2 -> l <+: outK size a y size) := fun l h => by
     obtain ⟨r, hr⟩ := outK_le size a y (k := k + 1) (m := size) (by omega)
     rw [hr, outK_succ]
     exact h.trans ⟨r, rfl⟩
    have HLN := hidC (show (outK size a y k).length < 2 * size from by have := outK_length size a y k; omega)
    gi_wp2
    generalize a + y * ((k : Int) + 1) = pa at *
    generalize a - y * ((k : Int) + 1) = pb at *
    generalize y * ((k : Int) + 1) = yk at *
    clear hya HYA
    gi_loopw [28] (fun q X => ∃ j : Nat, j <= 2 /\ q = .int .i64 (j : Int) /\ J (outK size a y k ++ halfL size pa pb j) X /\ Vars X m size a y) (fun q _ => 2 - (intOf q).toNat)
    case atStart => exact ⟨0, by omega, rfl, by simpa [halfL] using HJS.out, HVR.out⟩
    case round =>
     obtain ⟨j, hj, rfl, hJj, hvj⟩ := hrel
     obtain ⟨s0, s1, s2⟩ := hvj.at_
     have HVJ := hidC hvj
     have HJJ := hidC hJj
     clear hvj hJj
     have x0 := fun W => (index2 pa pb W).1
     have x1 := fun W => (index2 pa pb W).2
     match j, hj with
     | 0, _ =>
      have HHJ : Hid (isPl size pa = true -> outK size a y k ++ halfL size pa pb 0 ++ [pa] = outK size a y k ++ halfL size pa pb 1) := fun h => by rw [halfL, halfL, List.append_assoc, List.nil_append]; simp [h]
      have HHN : Hid (isPl size pa = false -> outK size a y k ++ halfL size pa pb 0 = outK size a y k ++ halfL size pa pb 1) := fun h => by rw [halfL, halfL]; simp [h]
      have HPX := hidC (show outK size a y k ++ halfL size pa pb 1 <+: outK size a y k ++ halfL size pa pb 2 from half_prefix _ _ _ _)
      have HLE := hidC (show (outK size a y k ++ halfL size pa pb 0).length < 2 * size + 2 from by have := HLN.out; have := half_length size pa pb 0 (by omega); rw [List.length_append]; omega)
      cases hip : isPl size pa with
      | true =>
       obtain ⟨fn2, tmps2, assign2, body2, hy2, hY2⟩ := HY.out _ pa _ HJJ.out HLE.out
       clear hy0
       gi_wp2_with (gi_at_call 43; refine (HPL.out _ pa _).mono ?_; rintro e X ⟨rfl, rfl⟩; rw [hip])
       refine hY2.mono ?_
       rintro e W4 (⟨rfl, hJ4, hk4⟩ | ⟨rfl, hJx4⟩)
       ·rw [HHJ.out hip] at hJ4
        have HV4 := hidC (HVJ.out.kp hk4)
        clear hY2 hk4
        gi_wp2
        go_roundw
        case rel => exact ⟨1, by omega, by go_num, hJ4, HV4.out⟩
        case measure => simp [intOf]
       ·rw [HHJ.out hip] at hJx4
        clear hY2
        gi_wp2
        refine bodyPost_ret (results_none rfl _ _ _) rfl ?_
        exact ⟨⟨_, rfl⟩, .inr ⟨_, HPF.out _ HPX.out, hJx4⟩⟩
      | false =>
       have hJ4 := hidC (show J (outK size a y k ++ halfL size pa pb 1) _ from HHN.out hip ▸ HJJ.out)
       clear hy0
       gi_wp2_with (gi_at_call 43; refine (HPL.out _ pa _).mono ?_; rintro e X ⟨rfl, rfl⟩; rw [hip])
       refine ⟨fun _ h => (by cases h), ?_⟩
       gi_wp2
       go_roundw
       case rel => exact ⟨1, by omega, by go_num, hJ4.out, HVJ.out⟩
       case measure => simp [intOf]
     | 1, _ =>
      have HHJ : Hid (isPl size pb = true -> outK size a y k ++ halfL size pa pb 1 ++ [pb] = outK size a y k ++ halfL size pa pb 2) := fun h => by rw [halfL, halfL, List.append_assoc]; cases e : isPl size pa <;> simp [h, e]
      have HHN : Hid (isPl size pb = false -> outK size a y k ++ halfL size pa pb 1 = outK size a y k ++ halfL size pa pb 2) := fun h => by rw [halfL, halfL]; cases e : isPl size pa <;> simp [h, e]
      have HPX := hidC (show outK size a y k ++ halfL size pa pb 2 <+: outK size a y k ++ halfL size pa pb 2 from List.prefix_refl _)
      have HLE := hidC (show (outK size a y k ++ halfL size pa pb 1).length < 2 * size + 2 from by have := HLN.out; have := half_length size pa pb 1 (by omega); rw [List.length_append]; omega)
      cases hip : isPl size pb with
      | true =>
       obtain ⟨fn2, tmps2, assign2, body2, hy2, hY2⟩ := HY.out _ pb _ HJJ.out HLE.out
       clear hy0
       gi_wp2_with (gi_at_call 43; refine (HPL.out _ pb _).mono ?_; rintro e X ⟨rfl, rfl⟩; rw [hip])
       refine hY2.mono ?_
       rintro e W4 (⟨rfl, hJ4, hk4⟩ | ⟨rfl, hJx4⟩)
       ·rw [HHJ.out hip] at hJ4
        have HV4 := hidC (HVJ.out.kp hk4)
        clear hY2 hk4
        gi_wp2
        go_roundw
        case rel => exact ⟨2, by omega, by go_num, hJ4, HV4.out⟩
        case measure => simp [intOf]
       ·rw [HHJ.out hip] at hJx4
        clear hY2
        gi_wp2
        refine bodyPost_ret (results_none rfl _ _ _) rfl ?_
        exact ⟨⟨_, rfl⟩, .inr ⟨_, HPF.out _ HPX.out, hJx4⟩⟩
      | false =>
       have hJ4 := hidC (show J (outK size a y k ++ halfL size pa pb 2) _ from HHN.out hip ▸ HJJ.out)
       clear hy0
       gi_wp2_with (gi_at_call 43; refine (HPL.out _ pb _).mono ?_; rintro e X ⟨rfl, rfl⟩; rw [hip])
       refine ⟨fun _ h => (by cases h), ?_⟩
       gi_wp2
       go_roundw
       case rel => exact ⟨2, by omega, by go_num, hJ4.out, HVJ.out⟩
       case measure => simp [intOf]
     | 2, _ =>
      have HJ2 := hidC (HFI.out _ HJJ.out)
      clear hy0
      gi_wp2
      go_roundw
      case rel => exact ⟨k + 1, by omega, by go_num, HJ2.out, HVJ.out⟩
      case measure => simp [intOf]; omega
     | j + 3, hj => omega
   ·obtain rfl : k = size := by omega
    have hki : ¬ ((k : Int) + 1 <= (k : Int)) := by omega
    clear hy0
    gi_wp2
    go_end0
    exact ⟨⟨_, rfl⟩, Or.inl HJS.out⟩
 ·gi_wp2
  refine bodyPost_ret (results_none rfl _ _ _) rfl ?_
  exact ⟨⟨_, rfl⟩, .inr ⟨_, ⟨_, rfl⟩, hJx3⟩⟩
end Go.Proofs.YtbkpehfaofhmaaaGreatDoor

/- DBCaretN: caret.Near tells the first of the places outwards that is a text place. -/
namespace Go.Proofs.YtbkpehfaofhmaaaGreatDoor
open Go.RowKit Go.Shelf
attribute [local go_sem] Oper.semAt_some
theorem wpInW_of_wp {P : Program} {o : Oper} {a : Act} {w : World} {K : Act -> World -> Prop} {Q : Exit -> Act -> World -> Prop} {n : Nat} (hd : ∀ c, o.op ≠ .defer c) (h : o.wp P a w K (onlyN Q)) : o.wpIn Fence.wide n P a w K Q := by
 unfold Oper.wpIn
 refine ⟨fun _ _ => trivial, ?_⟩
 rw [Oper.semAt_eq _ _ _ hd]
 unfold Oper.wp at h
 generalize (execOp a.eval o).run P w = r at h
 cases r with
 | ok x w' =>
  cases x with
  | value v => exact h
  | skip => exact h
  | defer d => exact h
  | enter f args =>
   refine ⟨(fun e => by cases e), callsIn_wide.2 (h.mono ?_)⟩
   intro e w'' he
   cases e with
   | returned v => exact he
   | panicked c => exact he.elim
   | outgrown => obtain ⟨_, _, h⟩ := he; exact h.elim
  | row row args =>
   refine ⟨(fun e => by cases e), fun c cs _ => ?_⟩
   obtain ⟨v, w', r, s⟩ := h c cs
   exact ⟨v, w', r, stepsIn_wide.2 s⟩
  | _ => exact h.elim
 | halt x w' =>
  cases x with
  | panic v => exact h.elim
  | _ => exact h.elim
theorem wpAnyInW_of_any {P : Program} {md : Region.Mode} {ops : Array Oper} {Q : Exit -> Act -> World -> Prop} {n : Nat} (hd : noDefer ops = true) : ∀ (fuel : Nat) (listed : Array Bool) (a : Act) (w : World), wpAny P md ops (onlyN Q) fuel listed a w -> wpAnyIn Fence.wide n P md ops Q fuel listed a w
 | 0, _, _, _, h => h
 | fuel + 1, listed, a, w, h => by
  refine ⟨h.1, fun i hi => ?_⟩
  have h2 := wpOp_mono (fun a' w' h' => wpAnyInW_of_any (n := n) hd fuel (listed.setIfInBounds i true) a' w' h') (h.2 i hi)
  unfold wpOp at h2
  unfold wpOpIn
  split
  ·rename_i e
   simp only [e] at h2
   exact h2
  ·rename_i o ho
   simp only [ho] at h2
   split
   ·rename_i hw
    simp only [hw, if_true] at h2
    rcases h2 with h2 | ⟨_, _, _, h2⟩
    ·exact wpInW_of_wp (noDefer_spec hd ho) h2
    ·exact h2.elim
   ·rename_i hw
    simp only [hw] at h2
    exact ⟨fun _ _ => trivial, h2⟩
theorem wpIn_wide_held {P : Program} {S : World -> Prop} {id : Nat} {ops : Array Oper} {Q : Exit -> Act -> World -> Prop} {a : Act} {w : World} {n : Nat} (hm : P.follows .mixedOrders = true) (hd : noDefer ops = true) (hS : S w.drew)
  (h : S w.drew -> wpAnyH P .any ops (onlyN Q) S ops.size (Array.replicate ops.size false) a w.drew) : (Code.region id ops true).wpIn Fence.wide n P Q a w :=
 wpIn_region_any hm (wpAnyInW_of_any hd _ _ _ _ (wpAny_of_held _ _ _ _ (h hS)))
def nearR (F : Int -> Bool) (E : Int) (n : Nat) (a s : Int) : Int × Int := if chkE E n a = 0 then nearD F n a (wayD s) else (0, chkE E n a)
theorem put_two {X : World} {b c : Nat} {u v : Value} {t t' : TypeId} (h : X.heap[b]? = some (.cells #[u] t (0, 0))) (k : X.heap[c]? = some (.cells #[v] t' (0, 0))) (hn : b ≠ c) (u' v' : Value) :
  ((X.setCell ⟨b, 0, none⟩ u').setCell ⟨c, 0, none⟩ v').heap[b]? = some (.cells #[u'] t (0, 0)) /\ ((X.setCell ⟨b, 0, none⟩ u').setCell ⟨c, 0, none⟩ v').heap[c]? = some (.cells #[v'] t' (0, 0)) :=
 ⟨(Below.heap_setCell _ _ _ _ hn).trans (heap_setCell_same X b 0 _ t u' h), heap_setCell_same _ c 0 _ t' v' ((Below.heap_setCell X _ u' c hn.symm).trans k)⟩
theorem find_stop {F : Int -> Bool} {l pre : List Int} {p : Int} (h : pre ++ [p] <+: l) (h1 : ∀ q ∈ pre, F q = false) (h2 : F p = true) : l.find? F = some p := by
 obtain ⟨r, rfl⟩ := h
 rw [List.append_assoc, List.find?_append, List.find?_eq_none.2 (fun q hq => by rw [h1 q hq]; decide), Option.none_or, List.singleton_append, List.find?_cons_of_pos h2]
def NearI (F : Int -> Bool) (w : World) (B : Nat) (a : Option Addr) (len cap : Nat) (pre : List Int) (W : World) : Prop :=
 W.heap[w.heap.size]? = some (.cells #[.pointer (some ⟨B, 0, none⟩)] 24 (0, 0)) /\ W.heap[w.heap.size + 1]? = some (.cells #[.slice a len cap] 22 (0, 0)) /\ W.heap[w.heap.size + 1 + 1]? = some (.cells #[.int .i64 0] 3 (0, 0)) /\ W.heap[w.heap.size + 1 + 1 + 1]? = some (.cells #[.int .i64 0] 28 (0, 0)) /\ (∀ q ∈ pre, F q = false) /\ Below w.heap.size w W
def NearX (F : Int -> Bool) (w : World) (c : Code) (pre : List Int) (W : World) : Prop :=
 ∃ pre' p, pre = pre' ++ [p] /\ (∀ q ∈ pre', F q = false) /\ F p = true /\ c = .ret /\ W.heap[w.heap.size + 1 + 1]? = some (.cells #[.int .i64 p] 3 (0, 0)) /\ W.heap[w.heap.size + 1 + 1 + 1]? = some (.cells #[.int .i64 0] 28 (0, 0)) /\ Below w.heap.size w W
set_option maxRecDepth 100000 in
set_option maxHeartbeats 4000000 in
theorem near_calls {w : World} {B : Nat} {a : Option Addr} {len cap : Nat} {A E : Int} {F : Int -> Bool} (h : CheckH w B a len cap A E) (hm : MayH w B a len cap F) (hlen : (len : Int) <= 9223372036854775807) (hE : E = 0 -> len <= 2048) (p s : Int) :
  Calls Tryz.prog 13 #[.pointer (some ⟨B, 0, none⟩), .slice a len cap, .int .i64 p, .int .i64 s] w fun e X' => e = .returned (.tuple #[.int .i64 (nearR F E len p s).1, .int .i64 (nearR F E len p s).2]) /\ Below w.heap.size w X' := by
 obtain ⟨W1, hW1⟩ : ∃ W1, (((w.alloc (.cells #[.pointer (some ⟨B, 0, none⟩)] 24)).alloc (.cells #[.slice a len cap] 22)).alloc (.cells #[.int .i64 0] 3)).alloc (.cells #[.int .i64 0] 28) = W1 := ⟨_, rfl⟩
 have hs1 : W1.heap.size = w.heap.size + 4 := by rw [<- hW1]; simp
 have hb1 : Below w.heap.size w W1 := by rw [<- hW1]; exact ((((Below.refl _ w).alloc (Nat.le_refl _) _).alloc (by simp) _).alloc (by simp; omega) _).alloc (by simp; omega) _
 obtain ⟨m0, m1, m2, m3⟩ := laid4 w (.cells #[.pointer (some ⟨B, 0, none⟩)] 24) (.cells #[.slice a len cap] 22) (.cells #[.int .i64 0] 3) (.cells #[.int .i64 0] 28)
 rw [hW1] at m0 m1 m2 m3
 have HW1 := hidC hW1
 have hI1 : NearI F w B a len cap [] W1 := ⟨m0, m1, m2, m3, (fun q hq => by cases hq), hb1⟩
 have HC := hidC (ccheck_calls h hlen p W1 hb1)
 have HI : Hid (∀ X, Below W1.heap.size W1 X -> NearI F w B a len cap [] X) := fun X hX => ⟨(hX.block _ (by omega)).trans m0, (hX.block _ (by omega)).trans m1, (hX.block _ (by omega)).trans m2, (hX.block _ (by omega)).trans m3, (fun q hq => by cases hq), hb1.trans (hX.mono hb1.size)⟩
 obtain ⟨c0, c1⟩ : W1.cell? ⟨w.heap.size, 0, none⟩ = some (.pointer (some ⟨B, 0, none⟩)) /\ W1.cell? ⟨w.heap.size + 1, 0, none⟩ = some (.slice a len cap) := ⟨(cells1 m0).1, (cells1 m1).1⟩
 have HM := hidC hm
 clear hW1 m0 m1 m2 m3 hI1 h hm
 unfold nearR
 by_cases hq : chkE E len p = 0
 ·rw [if_pos hq]
  rw [hq] at HC
  obtain ⟨hE0, hpl⟩ : E = 0 /\ isPl len p = true := by
   unfold chkE at hq
   split at hq
   ·split at hq
    ·exact ⟨by assumption, by assumption⟩
    ·cases hq
   ·exact absurd hq (by assumption)
  have hl48 := hE hE0
  have hp' := isPl_iff.1 hpl
  have hy := wayD_or s
  have HWY : Hid (∀ X : World, Calls Tryz.prog 28 #[.int .i64 s] X fun e w' => e = .returned (.int .i64 (wayD s)) /\ w' = X) := fun X => wayof_calls s X
  generalize wayD s = y at *
  refine (callsIn_wide (n := 6)).1 ?_
  refine callsIn_of_wp_marks Tryz.func13 rfl trivial ?_ rfl
  simp only [Tryz.ntmps13, List.size_toArray, List.length_cons, List.length_nil, Nat.reduceAdd, Nat.reduceSub, Array.replicate_succ, Array.replicate_zero, List.push_toArray, List.append_toArray, List.nil_append, List.cons_append]
  have hfc : Fence.wide.fn 23 := trivial
  have hfm : Fence.wide.fn 24 := trivial
  gi_wp2_with (gi_at_call 23; rw [HW1.out]; refine (callsIn_wide.2 HC.out).mono ?_; rintro e X ⟨rfl, hX⟩)
  have HKW : Hid (∀ Y, Below X.heap.size X Y -> Y.cell? ⟨w.heap.size + 1, 0, none⟩ = some (.slice a len cap)) := fun Y hY => (cells1 (HI.out Y (hX.trans (hY.mono hX.size))).2.1).1
  refine wpIn_wide_held (S := fun Y => Below X.heap.size X Y) mixed (by kernel_rfl) (Below.refl _ _).drew (fun hS => ?_)
  refine takeF 0 (some 19) (v := ?_) hS ?_ ?_
  rotate_left
  ·intro w hSw
   have k0 := HKW.out _ hSw
   try go_simp
   with_reducible rfl
  try simp only [lay4]
  refine takeF 1 (some 20) (v := ?_) hS ?_ ?_
  rotate_left
  ·intro w hSw
   try go_simp
   with_reducible rfl
  try simp only [lay4]
  refine takeF 2 (some 21) (v := ?_) hS ?_ ?_
  rotate_left
  ·intro w hSw
   try go_simp
   with_reducible rfl
  try simp only [lay4]
  refine takeF 3 (some 22) (v := ?_) hS ?_ ?_
  rotate_left
  ·intro w hSw
   try go_simp
   with_reducible rfl
  try simp only [lay4]
  refine callD 4 (by kernel_rfl) rfl (fun K hK => ?_)
  rw [if_pos (by rfl)]
  go_simp
  refine (HWY.out _).mono ?_
  rintro e X' ⟨rfl, rfl⟩
  refine hK.out _ _ hS (fun _ => ?_)
  clear hK K
  try simp only [lay4]
  refine callD 5 (by kernel_rfl) rfl (fun K hK => ?_)
  rw [if_pos (by rfl)]
  go_simp
  refine (callsIn_wide.1 (outwards_in Fence.wide 5 trivial rfl _ _ _ _)).mono ?_
  rintro e X5 ⟨rfl, hX5⟩
  have hv5 : Vars X5 X.heap.size len p y := by rw [hX5]; exact laid3P X.drew ..
  have hB5 : Below X.heap.size X X5 := by rw [hX5]; exact (((Below.refl _ X).drew.alloc (Nat.le_refl _) _).alloc (by rw [World.size_alloc]; exact Nat.le_succ _) _).alloc (by rw [World.size_alloc, World.size_alloc]; exact Nat.le_trans (Nat.le_succ _) (Nat.le_succ _)) _
  have hs5 : X5.heap.size = X.heap.size + 3 := by rw [hX5]; simp
  have hsX : w.heap.size + 4 <= X.heap.size := by rw [<- hs1]; exact hX.size
  have hI5 := HI.out X5 (hX.trans (hB5.mono hX.size))
  refine hK.out _ _ hB5 (fun _ => ?_)
  clear hK K
  try simp only [lay4]
  refine wpAnyH_done (by kernel_rfl) ?_ _
  dsimp only [onlyN]
  have hown : OwnFrom X5.heap.size (NearI F w B a len cap) := by
   rintro pre W W' row ⟨i0, i1, i2, i3, i4, i5⟩ hg hrr
   exact ⟨grown_cells hg hrr i0, grown_cells hg hrr i1, grown_cells hg hrr i2, grown_cells hg hrr i3, i4, grown_belowP i5 hg hrr (by omega) i5.size⟩
  have hownX : ∀ c, OwnFrom X5.heap.size (NearX F w c) := by
   rintro c pre W W' row ⟨pre', q, h1, h2, h3, h4, h5, h6, h7⟩ hg hrr
   exact ⟨pre', q, h1, h2, h3, h4, grown_cells hg hrr h5, grown_cells hg hrr h6, grown_belowP h7 hg hrr (by omega) h7.size⟩
  clear hX5 hb1 hS hX
  gi_wp2_with fail
  refine wpIn_rangeFunc_ownH rfl (by omega) (gf := 58) (lb := #[.pointer (some ⟨X.heap.size + 1, 0, none⟩), .pointer (some ⟨X.heap.size, 0, none⟩), .pointer (some ⟨X.heap.size + 1 + 1, 0, none⟩)]) rfl trivial (enters_of Tryz.func58 (by kernel_rfl) rfl)
   (encs := fun q : Int => #[.int .i64 q]) (Kp := KpC X.heap.size) (S := fun ys => ys = outK len p y len) (Sp := fun pre => pre <+: outK len p y len) (N := 2 * len + 2) (w0 := X5)
   (fun li J Jx W hW hJ _ hY h0 => outwards1_in 5 (by omega) li X.heap.size len p y hy hp' hl48 J Jx W hY (hv5.kp ⟨hW.size, fun k h1 h2 => hW.block k (by omega)⟩) h0)
   (fun h k => h.trans k) (fun W li o o' hl h1 h2 h3 => ⟨by simp, fun k h4 h5 => World.putObj_heap_other (by omega)⟩) (Below.refl _ _) (fun _ => rfl)
   (NearI F w B a len cap) (NearX F w) hown hownX hI5
   (fun q a' W => a' = { tmps := #[.pointer (some ⟨B, 0, none⟩), .slice a len cap, .int .i64 p, .int .i64 s, .pointer (some ⟨w.heap.size, 0, none⟩), .pointer (some ⟨w.heap.size + 1, 0, none⟩), undef, undef, .pointer (some ⟨w.heap.size + 1 + 1, 0, none⟩), .pointer (some ⟨w.heap.size + 1 + 1 + 1, 0, none⟩), .int .i64 0, .int .i64 q, .pointer (some ⟨B, 0, none⟩), .slice a len cap, .int .i64 p, .int .i64 0, .int .i64 0, .bool false, undef, .slice a len cap, .int .i64 (len : Int), .int .i64 p, .int .i64 s, .int .i64 y, .func (.func 58) #[] #[.pointer (some ⟨X.heap.size + 1, 0, none⟩), .pointer (some ⟨X.heap.size, 0, none⟩), .pointer (some ⟨X.heap.size + 1 + 1, 0, none⟩)], .int .i64 q, undef, undef, undef, undef, undef], defers := [] }) ?hax ?assign ?body ?done ?stop
  case hax =>
   rintro q a' _ W W' row h hg hrr
   exact h
  case assign =>
   rintro li pre q W K hi hK
   have HK := hidC hK
   clear hK
   gi_wp2
   exact HK.out _ _ (KeepsFrom.refl _ _) ⟨Nat.le_refl _, fun _ _ _ => rfl⟩ hi rfl
  case body =>
   rintro li pre q a' W hli ⟨r, hrec⟩ ⟨i0, i1, i2, i3, i4, i5⟩ rfl hlt
   have HMQ := hidC (HM.out W i5 q)
   have e0 := (cells1 i0).1
   have e1 := (cells1 i1).1
   have hsW : w.heap.size + 1 + 1 + 1 < W.heap.size := (Array.getElem?_eq_some_iff.1 i3).1
   have hlW := hidC (show X.heap.size + 3 <= W.heap.size from by have := (Array.getElem?_eq_some_iff.1 hrec).1; omega)
   have HIX : Hid (∀ Y, Below W.heap.size W Y -> Y.heap[w.heap.size]? = some (.cells #[.pointer (some ⟨B, 0, none⟩)] 24 (0, 0)) /\ Y.heap[w.heap.size + 1]? = some (.cells #[.slice a len cap] 22 (0, 0)) /\ Y.heap[w.heap.size + 1 + 1]? = some (.cells #[.int .i64 0] 3 (0, 0)) /\ Y.heap[w.heap.size + 1 + 1 + 1]? = some (.cells #[.int .i64 0] 28 (0, 0)) /\ Below w.heap.size w Y) := fun Y hY => ⟨(hY.block _ (by omega)).trans i0, (hY.block _ (by omega)).trans i1, (hY.block _ (by omega)).trans i2, (hY.block _ (by omega)).trans i3, i5.trans (hY.mono i5.size)⟩
   have HI4 := hidC i4
   have HI2 := hidC i2
   have HI3 := hidC i3
   have HSZ := hidC (show w.heap.size + 4 <= X.heap.size /\ X5.heap.size = X.heap.size + 3 from ⟨by omega, by omega⟩)
   clear i0 i1 i2 i3 i4 hown hownX hI5 hv5 hlt hrec
   cases hF : F q with
   | false =>
    rw [hF] at HMQ
    gi_wp2_with (gi_at_call 24; refine (CallsIn.inRound li (callsIn_wide.2 HMQ.out)).mono ?_; rintro e Y ⟨rfl, hY⟩)
    obtain ⟨y0, y1, y2, y3, y5⟩ := HIX.out Y hY
    refine ⟨?_, ?_, y0, y1, y2, y3, fun z hz => ?_, y5⟩
    ·exact KeepsFrom.of_grownBy (row := none) ⟨hY.os, hY.tape, hY.output, hY.size, fun k hk _ => hY.block k hk⟩ (fun j e => by cases e)
    ·exact ⟨hY.size, fun k h1 h2 => hY.block k (by have := hlW.out; omega)⟩
    ·rcases List.mem_append.1 hz with hz | hz
     ·exact HI4.out z hz
     ·obtain rfl : z = q := by simpa using hz
      exact hF
   | true =>
    rw [hF] at HMQ
    gi_wp2_with (gi_at_call 24; refine (CallsIn.inRound li (callsIn_wide.2 HMQ.out)).mono ?_; rintro e Y ⟨rfl, hY⟩; obtain ⟨_, _, y2, y3, _⟩ := HIX.out Y hY; obtain ⟨j2, f2⟩ := cells1 y2; obtain ⟨j3, f3⟩ := cells1 y3)
    obtain ⟨_, _, z2, z3, z5⟩ := HIX.out Y hY
    obtain ⟨k2, k3⟩ := put_two z2 z3 (by omega) (.int .i64 q) (.int .i64 0)
    have hz := HSZ.out
    refine ⟨?_, pre, q, rfl, HI4.out, hF, rfl, k2, k3, (z5.setCell (p := ⟨w.heap.size + 1 + 1, 0, none⟩) (by show w.heap.size <= w.heap.size + 1 + 1; omega) _).setCell (p := ⟨w.heap.size + 1 + 1 + 1, 0, none⟩) (by show w.heap.size <= w.heap.size + 1 + 1 + 1; omega) _⟩
    exact ((KeepsFrom.of_grownBy (row := none) ⟨hY.os, hY.tape, hY.output, hY.size, fun k hk _ => hY.block k hk⟩ (fun j e => by cases e)).trans (KeepsFrom.of_grownBy (grownBy_setCell' Y _ _) (fun j e => by cases e; omega))).trans (KeepsFrom.of_grownBy (grownBy_setCell' _ _ _) (fun j e => by cases e; omega))
  case done =>
   rintro D ys W hD rfl ⟨_, _, i2, i3, i4, i5⟩ hK
   have HF := hidC (show nearD F len p y = (0, 6) from by unfold nearD; rw [List.find?_eq_none.2 (fun q hq => by rw [i4 q hq]; decide)])
   obtain ⟨j2, f2⟩ := cells1 i2
   obtain ⟨j3, f3⟩ := cells1 i3
   obtain ⟨k2, k3⟩ := put_two i2 i3 (by omega) (.int .i64 0) (.int .i64 6)
   have q2 : ((W.setCell ⟨w.heap.size + 1 + 1, 0, none⟩ (.int .i64 0)).setCell ⟨w.heap.size + 1 + 1 + 1, 0, none⟩ (.int .i64 6)).heap[D]? = some (.deferred (some [])) := by
    rw [Below.heap_setCell _ _ _ D (by show D ≠ w.heap.size + 1 + 1 + 1; omega), Below.heap_setCell _ _ _ D (by show D ≠ w.heap.size + 1 + 1; omega)]
    exact hK
   have q3 : Below w.heap.size w ((W.setCell ⟨w.heap.size + 1 + 1, 0, none⟩ (.int .i64 0)).setCell ⟨w.heap.size + 1 + 1 + 1, 0, none⟩ (.int .i64 6)) := (i5.setCell (p := ⟨w.heap.size + 1 + 1, 0, none⟩) (by show w.heap.size <= w.heap.size + 1 + 1; omega) _).setCell (p := ⟨w.heap.size + 1 + 1 + 1, 0, none⟩) (by show w.heap.size <= w.heap.size + 1 + 1 + 1; omega) _
   have HQ := hidC (And.intro k2 (And.intro k3 (And.intro q2 (And.intro q3 (And.intro hD (And.intro hs5 hsX))))))
   clear i2 i3 i4 i5 hown hownX hI5 hv5 hD hK k2 k3 q2 q3
   gi_wp2
   obtain ⟨k2, k3, q2, q3, hD, hs5, hsX⟩ := HQ.out
   refine ⟨by simp, .inl ⟨_, _, rfl, run_takeDeferred q2, ?_⟩⟩
   exact ⟨_, results_cells2 rfl _ _ ⟨w.heap.size + 1 + 1, 0, none⟩ ⟨w.heap.size + 1 + 1 + 1, 0, none⟩ _ _ rfl rfl (Tryz.isAgg3 _) (Tryz.isAgg28 _) (cells1 ((World.putObj_heap_other (by omega)).trans k2)).1 (cells1 ((World.putObj_heap_other (by omega)).trans k3)).1, by rw [HF.out], q3.trans (belowK_b (w := w) (Nat.le_refl _) _ D _ _ (by omega) q2 rfl rfl)⟩
  case stop =>
   rintro D c pre W hD hpre ⟨pre', q, rfl, h2, h3, rfl, k2, k3, q3⟩ q2
   have HF := hidC (show nearD F len p y = (q, 0) from by unfold nearD; rw [find_stop hpre h2 h3])
   have HQ := hidC (And.intro k2 (And.intro k3 (And.intro q2 (And.intro q3 (And.intro hD (And.intro hs5 hsX))))))
   clear hown hownX hI5 hv5 hD k2 k3 q2 q3 hpre h2 h3
   gi_wp2
   obtain ⟨k2, k3, q2, q3, hD, hs5, hsX⟩ := HQ.out
   refine ⟨by simp, .inl ⟨_, _, rfl, run_takeDeferred q2, ?_⟩⟩
   exact ⟨_, results_cells2 rfl _ _ ⟨w.heap.size + 1 + 1, 0, none⟩ ⟨w.heap.size + 1 + 1 + 1, 0, none⟩ _ _ rfl rfl (Tryz.isAgg3 _) (Tryz.isAgg28 _) (cells1 ((World.putObj_heap_other (by omega)).trans k2)).1 (cells1 ((World.putObj_heap_other (by omega)).trans k3)).1, by rw [HF.out], q3.trans (belowK_b (w := w) (Nat.le_refl _) _ D _ _ (by omega) q2 rfl rfl)⟩
 ·rw [if_neg hq]
  generalize chkE E len p = q at *
  have hd : (q != 0) = true := by simpa using hq
  go_enter Tryz.func13, Tryz.ntmps13
  go_wp2_with fail
  rw [HW1.out]
  refine HC.out.mono ?_
  rintro e X ⟨rfl, hX⟩
  obtain ⟨_, _, i2, i3, _, hB⟩ := HI.out X hX
  obtain ⟨j2, f2⟩ := cells1 i2
  obtain ⟨j3, f3⟩ := cells1 i3
  have HBX := hidC hB
  have HI2 := hidC i2
  have HI3 := hidC i3
  clear hX hB i2 i3 hb1
  go_wp2
  obtain ⟨k2, k3⟩ := put_two HI2.out HI3.out (by omega) (.int .i64 0) (.int .i64 q)
  refine bodyPost_ret (results_cells2 rfl _ _ ⟨w.heap.size + 1 + 1, 0, none⟩ ⟨w.heap.size + 1 + 1 + 1, 0, none⟩ _ _ rfl rfl (Tryz.isAgg3 _) (Tryz.isAgg28 _) (cells1 k2).1 (cells1 k3).1) rfl ?_
  exact ⟨rfl, (HBX.out.setCell (p := ⟨w.heap.size + 1 + 1, 0, none⟩) (by show w.heap.size <= w.heap.size + 1 + 1; omega) _).setCell (p := ⟨w.heap.size + 1 + 1 + 1, 0, none⟩) (by show w.heap.size <= w.heap.size + 1 + 1 + 1; omega) _⟩
end Go.Proofs.YtbkpehfaofhmaaaGreatDoor

/- DBParseD: expr.Parse at every text: the tree that it answers lies in memory of its own. -/
namespace Go.Proofs.YtbkpehfaofhmaaaGreatDoor
open Go.RowKit
set_option maxRecDepth 100000 in
set_option maxHeartbeats 4000000 in
theorem parsea_calls (s : ByteArray) (hs : s.size <= 9223372036854775807) (w : World) (hg : ETy w) :
  Calls Tryz.prog 98 #[.string s] w fun e w' => Below w.heap.size w w' /\ ∃ r, ExA (fun b => w.heap.size <= b) w' 200 (outTree s) (rawV r) /\ e = .returned (.tuple #[rawV r, .int .i64 (outN s : Int), .int .i64 (outE s)]) := by
 have HR : Hid (∀ W, Calls Tryz.prog 125 #[.string s] W fun e w' => Below W.heap.size W w' /\ Rdd W.heap.size s e w') := fun W => read_calls s hs W
 have HT : Hid (∀ W, Below w.heap.size w W -> Calls Tryz.prog 126 #[refV (outN s) (outE s)] W fun e w' => e = .returned (.tuple #[.int .i64 (outN s : Int), .int .i64 (outE s)]) /\ Below W.heap.size W w') := fun W hW => told_calls (outN s) (outE s) W (hg.below hW)
 clear hg hs
 go_enter Tryz.func98, Tryz.ntmps98
 go_wp2_with fail
 refine (HR.out _).mono ?_
 rintro e1 W1 ⟨hB1, hE⟩
 have hz1 : W1.heap[w.heap.size]? = some (.cells #[.int .i64 0, .string ⟨#[]⟩, .slice none 0 0] 90 (0, 0)) := (hB1.block _ (by simp)).trans (heap_alloc_new w _)
 have hB : Below w.heap.size w W1 := ((Below.refl _ w).alloc (Nat.le_refl _) _).trans (hB1.mono (by simp))
 have hs1 : w.heap.size < W1.heap.size := by have := hB1.size; simp only [World.size_alloc] at this; omega
 clear HR
 rcases hE with ⟨t, r, o1, o2, o3, hX, rfl⟩ | ⟨o1, o2, rfl⟩
 ·obtain ⟨k, nm, a, ln, cp⟩ := r
  unfold rawV at hX ⊢
  simp only at hX ⊢
  have HO : Hid (outT s = some t /\ outE s = 0 /\ outN s = s.size) := ⟨o1, o2, o3⟩
  have HZ : Hid (∀ o, (W1.alloc o).heap[w.heap.size]? = some (.cells #[.int .i64 0, .string ⟨#[]⟩, .slice none 0 0] 90 (0, 0))) := fun o => (Below.heap_alloc W1 o _ hs1).trans hz1
  have HF : Hid (∀ o cs, Below w.heap.size w ((W1.alloc o).setRow w.heap.size cs)) := fun o cs => below_setRow (hB.alloc (by omega) o) (Nat.le_refl _) cs
  have HX : Hid (∀ o cs, ExA (fun b => w.heap.size <= b) ((W1.alloc o).setRow w.heap.size cs) 200 t (.agg #[.int .i64 k, .string nm, .slice a ln cp])) := fun o cs => ExA.kept (by rw [size_setRow]; simp) (fun b hb hA => by simp only [World.size_alloc] at hA; exact ⟨by omega, (setRow_other _ _ _ _ (by omega)).trans (Below.heap_alloc W1 o b hb)⟩) _ _ _ hX
  clear hX hz1 hB hB1 hs1 o1 o2 o3 HT
  go_wp2_with (refine wpList_store_row rfl 90 _ _ rfl w.heap.size #[.int .i64 k, .string nm, .slice a ln cp] rfl rfl 90 _ (HZ.out _) sizeExpr rfl (ones3 _ _ _ _ _) ?_)
  refine bodyPost_ret (results_row_tmp2 rfl _ _ w.heap.size 90 #[.int .i64 k, .string nm, .slice a ln cp] (0, 0) _ rfl (setRow_heap _ _ _ _ _ _ (HZ.out _)) Tryz.underlying90 rfl sizeExpr) rfl ?_
  refine ⟨HF.out _ _, (k, nm, a, ln, cp), ?_, ?_⟩
  ·unfold outTree
   rw [HO.out.1]
   exact HX.out _ _
  ·rw [HO.out.2.1, HO.out.2.2]
   rfl
 ·have HO : Hid (outT s = none) := o1
  have HZ : Hid ((W1.alloc (.cells #[.int .i64 0, .string ⟨#[]⟩, .slice none 0 0] 90)).heap[w.heap.size]? = some (.cells #[.int .i64 0, .string ⟨#[]⟩, .slice none 0 0] 90 (0, 0))) := (Below.heap_alloc W1 _ _ hs1).trans hz1
  have HB : Hid (Below w.heap.size w (W1.alloc (.cells #[.int .i64 0, .string ⟨#[]⟩, .slice none 0 0] 90)) /\ w.heap.size < (W1.alloc (.cells #[.int .i64 0, .string ⟨#[]⟩, .slice none 0 0] 90)).heap.size) := ⟨hB.alloc (by omega) _, by simp; omega⟩
  clear hz1 hB hB1 hs1 o1
  unfold zE
  obtain ⟨N, hN⟩ : ∃ N, outN s = N := ⟨_, rfl⟩
  obtain ⟨E, hEE⟩ : ∃ E, outE s = E := ⟨_, rfl⟩
  have HN : Hid (outN s = N /\ outE s = E) := ⟨hN, hEE⟩
  rw [hN, hEE] at HT ⊢
  clear hN hEE o2
  unfold refV at HT ⊢
  go_wp2_with fail
  refine (HT.out _ HB.out.1).mono ?_
  rintro e3 W3 ⟨rfl, hB3⟩
  have HZ3 : Hid (W3.heap[w.heap.size]? = some (.cells #[.int .i64 0, .string ⟨#[]⟩, .slice none 0 0] 90 (0, 0))) := (hB3.block _ HB.out.2).trans HZ.out
  have HF : Hid (∀ cs, Below w.heap.size w (W3.setRow w.heap.size cs)) := fun cs => below_setRow (HB.out.1.trans (hB3.mono HB.out.1.size)) (Nat.le_refl _) cs
  clear hB3 HZ HB HT
  go_wp2_with (refine wpList_store_row rfl 90 _ _ rfl w.heap.size #[.int .i64 0, .string ⟨#[]⟩, .slice none 0 0] rfl rfl 90 _ HZ3.out sizeExpr rfl (ones3 _ _ _ _ _) ?_)
  refine bodyPost_ret (results_row_tmp2 rfl _ _ w.heap.size 90 #[.int .i64 0, .string ⟨#[]⟩, .slice none 0 0] (0, 0) _ rfl (setRow_heap _ _ _ _ _ _ HZ3.out) Tryz.underlying90 rfl sizeExpr) rfl ?_
  refine ⟨HF.out _, (0, ⟨#[]⟩, none, 0, 0), ?_, by rw [HN.out.1, HN.out.2]; rfl⟩
  unfold outTree
  rw [HO.out]
  exact ExA.leaf _ _ 199 0 ⟨#[]⟩ none 0
end Go.Proofs.YtbkpehfaofhmaaaGreatDoor
