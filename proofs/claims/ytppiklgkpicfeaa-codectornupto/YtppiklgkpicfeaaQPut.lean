/-
  PROVED HERE: quad.Put, handed bytes and numbers, hands back new memory that holds the bytes and behind them the bytes of each number, and turns nothing that lay before.
-/
import Derived.Test.YtppiklgkpicfeaaQIter
import Derived.Laws.CopyRow
import Derived.Laws.IdiomCopy
import Derived.Laws.MakeOwn
import Derived.Laws.OwnMore
import Derived.Laws.CopyOwn
import Derived.Laws.Tables
namespace Go.Proofs.Ytppiklgkpicfeaa
open Go.RowKit Go.Shelf
attribute [local go_sem] Oper.semAt_some

/-- A slice's elements are the integers zs. -/
def Row (k : IntKind) (w : World) (a : Option Addr) (len : Nat) (zs : List Int) : Prop :=
  zs.length = len ∧ (len = 0 ∨ ∃ b o, a = some ⟨b, o, none⟩ ∧ b < w.heap.size ∧ ∀ i, i < len → w.cell? ⟨b, o + i, none⟩ = some (.int k (zs.getD i 0)))

theorem Row.below {k : IntKind} {w w' : World} {a : Option Addr} {len : Nat} {zs : List Int} (h : Row k w a len zs) (hb : Below w.heap.size w w') : Row k w' a len zs := by
  obtain ⟨h1, h2⟩ := h
  refine ⟨h1, ?_⟩
  rcases h2 with h2 | ⟨b, o, rfl, hlt, hc⟩
  · exact .inl h2
  · exact .inr ⟨b, o, rfl, Nat.lt_of_lt_of_le hlt hb.size, fun i hi => (hb.cell (p := ⟨b, o + i, none⟩) hlt).trans (hc i hi)⟩

theorem info5 : (Try.prog.info? 5).map (fun i => (i.zero, i.size, i.bytes)) = some (some (.int .u8 0), 1, 1) := by kernel_rfl

/-- How many bytes the first k numbers take. -/
def qsum (l : List Int) : Nat := (lebs l).length

theorem qsum_snoc (l : List Int) (x : Int) (h0 : 0 ≤ x) (h1 : x ≤ 18446744073709551615) : qsum (l ++ [x]) = qsum l + qlen x.toNat := by
  unfold qsum
  rw [lebs_snoc, List.length_append, leb_length x.toNat (by omega)]

theorem info5s : (Try.prog.info? 5).map (·.size) = some 1 := by kernel_rfl

theorem own_take (bs : List Int) (q : Nat) : (bs.map (Value.int .u8) ++ List.replicate q (Value.int .u8 0)).take (bs.length * 1) = bs.map (Value.int .u8) := by
  rw [Nat.mul_one, List.take_append_of_le_length (by simp), List.take_of_length_le (by simp)]

/-- 'copy(out, b)' into the new slice: it holds the bytes of b; the box lies as it lay. -/
theorem copy_ok (ab : Option Addr) (lb cb q : Nat) (bs : List Int) (w : World) (hrb : Row .u8 w ab lb bs) (hsz : lb + q ≤ maxLen) :
    ∃ v W1, (Builtin.copy_ #[22, 22] 3 #[.slice (some ⟨w.heap.size, 0, none⟩) lb (lb + q), .slice ab lb cb]).run Try.prog
        ((w.alloc (.cells (madeCells #[.int .u8 0] (lb + q)) 5)).alloc (.cells #[.slice (some ⟨w.heap.size, 0, none⟩) lb (lb + q)] 22)) = .ok v W1 ∧
      Boxed W1 (w.heap.size + 1) 22 (.slice (some ⟨w.heap.size, 0, none⟩) lb (lb + q)) ∧
      W1.ownsRow w.heap.size 5 1 (.slice (some ⟨w.heap.size, 0, none⟩) lb (lb + q)) lb (bs.map (Value.int .u8)) ∧ Below w.heap.size w W1 ∧ W1.heap.size = w.heap.size + 2 := by
  obtain ⟨hl, hr⟩ := hrb
  have hB : Below w.heap.size w ((w.alloc (.cells (madeCells #[.int .u8 0] (lb + q)) 5)).alloc (.cells #[.slice (some ⟨w.heap.size, 0, none⟩) lb (lb + q)] 22)) := ((Below.refl _ w).alloc (Nat.le_refl _) _).alloc (by simp) _
  have hg : ((w.alloc (.cells (madeCells #[.int .u8 0] (lb + q)) 5)).alloc (.cells #[.slice (some ⟨w.heap.size, 0, none⟩) lb (lb + q)] 22)).heap[w.heap.size]? = some (.cells (madeCells #[.int .u8 0] (lb + q)) 5 (0, 0)) :=
    (Below.heap_alloc _ _ _ (by simp)).trans (World.alloc_heap_new w _)
  have hbox : Boxed ((w.alloc (.cells (madeCells #[.int .u8 0] (lb + q)) 5)).alloc (.cells #[.slice (some ⟨w.heap.size, 0, none⟩) lb (lb + q)] 22)) (w.heap.size + 1) 22 (.slice (some ⟨w.heap.size, 0, none⟩) lb (lb + q)) := by
    have := Boxed.new (w.alloc (.cells (madeCells #[.int .u8 0] (lb + q)) 5)) 22 (.slice (some ⟨w.heap.size, 0, none⟩) lb (lb + q))
    rwa [World.size_alloc] at this
  have hsize : ((w.alloc (.cells (madeCells #[.int .u8 0] (lb + q)) 5)).alloc (.cells #[.slice (some ⟨w.heap.size, 0, none⟩) lb (lb + q)] 22)).heap.size = w.heap.size + 2 := by simp
  rcases hr with h0 | ⟨b, o, rfl, hlt, hc⟩
  · subst h0
    have hbs : bs = [] := List.length_eq_zero_iff.1 hl
    subst hbs
    refine ⟨_, _, run_copy_none _ 22 22 3 5 _ _ _ _ _ _ Try.underlying22 info5s (by simp), hbox, ⟨rfl, .inr ⟨_, _, _, rfl, Nat.le_refl _, hg, by omega, hsz, by rw [size_madeCells]; omega, by simp⟩⟩, hB, hsize⟩
  · have hsrc : ∀ j v, (bs.map (Value.int .u8))[j]? = some v → ((w.alloc (.cells (madeCells #[.int .u8 0] (lb + q)) 5)).alloc (.cells #[.slice (some ⟨w.heap.size, 0, none⟩) lb (lb + q)] 22)).cell? ((⟨b, o, none⟩ : Addr).add j) = some v := by
      intro j v hj
      have hjl : j < lb := by
        have := (List.getElem?_eq_some_iff.1 hj).1
        simp at this
        omega
      have hadd : (⟨b, o, none⟩ : Addr).add j = ⟨b, o + j, none⟩ := by unfold Addr.add; split <;> simp_all
      rw [hadd, hB.cell (p := ⟨b, o + j, none⟩) hlt, hc j hjl]
      rw [List.getElem?_map, List.getElem?_eq_getElem (by omega)] at hj
      simp at hj
      rw [← hj, List.getD_eq_getElem?_getD, List.getElem?_eq_getElem (by omega)]
      rfl
    refine ⟨_, _, run_copy_row Try.prog _ 22 22 3 5 w.heap.size 0 lb (lb + q) ⟨b, o, none⟩ lb cb _ 5 (bs.map (Value.int .u8)) Try.underlying22 info5s hg (by simp [hl]) hsrc (by simp [size_madeCells]; omega) (by simp [Value.oneCell']), ?_, ?_, ?_, ?_⟩
    · exact (setRow_other _ _ _ _ (by omega)).trans hbox
    · refine ⟨by simp [hl], .inr ⟨_, _, _, rfl, Nat.le_refl _, setRow_heap _ _ _ _ _ _ hg, by omega, hsz, ?_, ?_⟩⟩
      · simp [size_madeCells]; omega
      · simp [toList_madeCells_one, hl]
    · exact below_setRow hB (Nat.le_refl _) _
    · simp

/-- The mark that a loop over an iterator leaves among the deferred calls. -/
def mk (D : Nat) : Deferred := { target := .collected D, args := #[] }

/-- A function that has left such marks comes out: each block is shut; whatever abides that holds behind. -/
theorem leaves_marks {F : Fence} {n : Nat} {fn : Func} {tmps : Array Value} {R : Ending → World → Prop} (Good : World → Prop) (hend : ∀ W, Good W → LeavesInM F n Try.prog fn tmps R [] .returning W) :
    ∀ (ds : List Nat) (_ : ds.Nodup) (W : World) (_ : ∀ D ∈ ds, W.heap[D]? = some (.deferred (some []))) (_ : Good W)
      (_ : ∀ W D, D ∈ ds → Good W → W.heap[D]? = some (.deferred (some [])) → Good (W.putObj D (.deferred none))), LeavesInM F n Try.prog fn tmps R (ds.map mk) .returning W
  | [], _, W, _, hG, _ => hend W hG
  | D :: ds, hnd, W, hall, hG, hst => by
    obtain ⟨hn1, hn2⟩ := List.nodup_cons.1 hnd
    have hD := hall D (by simp)
    refine ⟨by simp, .inl ⟨D, _, rfl, run_takeDeferred hD, ?_⟩⟩
    refine leaves_marks Good hend ds hn2 _ (fun E hE => ?_) (hst W D (by simp) hG hD) (fun W E hE => hst W E (by simp [hE]))
    have hne : E ≠ D := fun e => hn1 (e ▸ hE)
    exact (World.putObj_heap_other hne).trans (hall E (by simp [hE]))

set_option maxRecDepth 100000 in
set_option maxHeartbeats 2000000 in
theorem put_calls (ab al : Option Addr) (lb cb ll cl : Nat) (bs ls : List Int) (w : World) (hrb : Row .u8 w ab lb bs) (hrl : Row .u64 w al ll ls) (hu : U64 ls)
    (hsz : lb + 10 * ll ≤ 70368744177664) :
    CallsIn Fence.wide 6 Try.prog 11 #[.slice ab lb cb, .slice al ll cl] w fun e w' => ∃ v, e = .returned v ∧
      w'.ownsRow w.heap.size 5 1 v (bs ++ lebs ls).length ((bs ++ lebs ls).map (Value.int .u8)) ∧ v ≠ .slice none 0 0 ∧ Below w.heap.size w w' := by
  have hrl' := hrl
  obtain ⟨i0, hi, hz0, hz1, hz2⟩ := info_parts info5
  have hll : ls.length = ll := hrl.1
  have hlb : bs.length = lb := hrb.1
  have h9 : Fence.wide.fn 20 := trivial
  have h21 : Fence.wide.fn 21 := trivial
  refine callsIn_of_wp_marks Try.func11 rfl trivial ?_ rfl
  simp only [Try.ntmps11, List.size_toArray, List.length_cons, List.length_nil, Nat.reduceAdd, Nat.reduceSub, Array.replicate_succ, Array.replicate_zero, List.push_toArray, List.append_toArray, List.nil_append, List.cons_append]
  gi_wp2
  gi_loop [5, 16] (fun s i => ∃ k : Nat, k ≤ ll ∧ i = .int .i64 k ∧ s = .int .i64 ((lb + qsum (ls.take k) : Nat) : Int)) (fun _ i => ll - (intOf i).toNat)
  case atStart => exact ⟨0, Nat.zero_le _, rfl, by simp [qsum, lebs]⟩
  case round =>
    obtain ⟨k, hk, rfl, rfl⟩ := hrel
    by_cases hlt : k < ll
    · obtain ⟨b, o, rfl, hbl, hc⟩ : ∃ b o, al = some ⟨b, o, none⟩ ∧ b < w.heap.size ∧ ∀ i, i < ll → w.cell? ⟨b, o + i, none⟩ = some (.int .u64 (ls.getD i 0)) := by
        rcases hrl.2 with h | h
        · omega
        · exact h
      have hck := hc k hlt
      have hxk := hu.get (k := k) (by omega)
      have hq := qlen_le (ls.getD k 0) hxk.1 hxk.2
      have hs : Hid (qsum (ls.take (k + 1)) = qsum (ls.take k) + qlen (ls.getD k 0).toNat) := by
        show qsum (ls.take (k + 1)) = _
        rw [take_snocD ls k (by omega), qsum_snoc _ _ hxk.1 hxk.2]
      have hql : qsum (ls.take k) ≤ 10 * k := by
        have := lebs_length (ls.take k) (hu.take k)
        unfold qsum
        rw [List.length_take] at this
        omega
      generalize ls.getD k 0 = x at *
      generalize qsum (ls.take k) = q at *
      clear hc hrl
      gi_wp2_with (gi_at_call 20; refine (callsIn_wide.2 (len_calls x _ hxk.1 hxk.2)).mono ?_; rintro e w' ⟨rfl, rfl⟩)
      go_round
      case rel => exact ⟨k + 1, by omega, by go_num, by rw [hs.out]; go_num⟩
      case measure => simp [intOf]; omega
    · have hkl : k = ll := by omega
      subst hkl
      rw [show ls.take k = ls from List.take_of_length_le (by omega)]
      have hql : qsum ls ≤ 10 * k := by
        have := lebs_length ls hu
        unfold qsum
        omega
      have hmk : ∀ u : World, (Instr.makeSlice 22 (.int .i64 (lb : Int)) (.int .i64 ((lb : Int) + (qsum ls : Int)))).run Try.prog u =
          .ok (.slice (some ⟨u.heap.size, 0, none⟩) lb (lb + qsum ls)) (u.alloc (.cells (madeCells #[.int .u8 0] (lb + qsum ls)) 5)) := fun u => by
        have h := run_make (P := Try.prog) u 22 5 i0 (.int .u8 0) Try.underlying22 hi hz0 .i64 .i64 (lb : Int) ((lb : Int) + (qsum ls : Int)) (by omega) (by omega) (by rw [hz2]; omega) (by omega)
        have e : ((lb : Int) + (qsum ls : Int)).toNat = lb + qsum ls := by omega
        rw [e] at h
        simpa [hz1, Value.cells] using h
      obtain ⟨cv, W1, hcopy, hbox, hown, hB1, hsz1⟩ := copy_ok ab lb cb (qsum ls) bs w hrb (by unfold maxLen; omega)
      gi_wp2
      clear hcopy hmk
      refine wpIn_loop (fun a W => ∃ (j : Nat) (ds : List Nat) (u10 u35 u36 u37 u38 u39 u45 : Value), j ≤ k ∧
          a = { tmps := #[.slice ab lb cb, .slice al k cl, undef, undef, .slice none 0 0,
            .int .i64 ((lb : Int) + (qsum ls : Int)), undef, u7,
            .pointer (some ⟨w.heap.size + 1, 0, none⟩), undef, u10, undef, .slice ab lb cb,
            .int .i64 (lb : Int), .slice al k cl, .int .i64 (k : Int), .int .i64 (k : Int),
            .bool false, u18, u19, u20, u21, u22, u23, u24, .slice ab lb cb, .int .i64 (lb : Int),
            .int .i64 ((lb : Int) + (qsum ls : Int)),
            .slice (some ⟨w.heap.size, 0, none⟩) lb (lb + qsum ls),
            .slice (some ⟨w.heap.size, 0, none⟩) lb (lb + qsum ls), .slice ab lb cb, cv,
            .slice al k cl, .int .i64 (k : Int), .int .i64 (j : Int), u35, u36, u37, u38, u39,
            undef, undef, undef, undef, undef, u45, undef], defers := ds.map mk } ∧
          (∃ v, Boxed W (w.heap.size + 1) 22 v ∧ W.ownsRow w.heap.size 5 1 v (bs ++ lebs (ls.take j)).length ((bs ++ lebs (ls.take j)).map (Value.int .u8)) ∧ v ≠ .slice none 0 0) ∧
          Below w.heap.size w W ∧ w.heap.size + 2 ≤ W.heap.size ∧ ds.Nodup ∧ ∀ D ∈ ds, w.heap.size ≤ D ∧ W.heap[D]? = some (.deferred (some [])))
        (fun a _ => k - (intOf (a.tmps.getD 34 undef)).toNat) ?_ ?_
      · refine ⟨0, [], undef, undef, undef, undef, undef, undef, undef, Nat.zero_le _, rfl, ⟨_, hbox, ?_, by simp⟩, hB1, by omega, List.nodup_nil, by simp⟩
        simpa [lebs, hlb] using hown
      · rintro _ W ⟨j, ds, u10, u35, u36, u37, u38, u39, u45, hj, rfl, ⟨v, hv, hrow, hnil⟩, hB, hWs, hnd, hds⟩
        by_cases hlt : j < k
        · obtain ⟨b, o, rfl, hbl, hcl⟩ : ∃ b o, al = some ⟨b, o, none⟩ ∧ b < w.heap.size ∧ ∀ i, i < k → w.cell? ⟨b, o + i, none⟩ = some (.int .u64 (ls.getD i 0)) := by
            rcases hrl.2 with h | h
            · omega
            · exact h
          have hck : W.cell? ⟨b, o + j, none⟩ = some (.int .u64 (ls.getD j 0)) := (hB.cell (p := ⟨b, o + j, none⟩) hbl).trans (hcl j hlt)
          have hxk := hu.get (k := j) (by omega)
          have hlen : (bs ++ lebs (ls.take j)).length + 10 ≤ 70368744177664 := by
            have := lebs_length (ls.take j) (hu.take j)
            rw [List.length_take] at this
            rw [List.length_append]
            omega
          have HT : Hid (lebs (ls.take (j + 1)) = lebs (ls.take j) ++ leb (ls.getD j 0).toNat) := by
            show lebs (ls.take (j + 1)) = _
            rw [take_snocD ls j (by omega), lebs_snoc]
          have hlq : (leb (ls.getD j 0).toNat).length ≤ 10 := by
            rw [leb_length _ (by omega)]
            exact (qlen_le _ hxk.1 hxk.2).2
          clear hcl hrl hrl'
          generalize ls.getD j 0 = x at *
          generalize hf : bs ++ lebs (ls.take j) = f at *
          have HF : Hid (bs ++ lebs (ls.take j) = f) := hf
          clear hf
          gi_wp2_with (gi_at_call 21; refine (bytesOf_in Fence.wide 5 trivial rfl x W).mono ?_; rintro e w' ⟨rfl, rfl⟩)
          have bN := Boxed.new W 38 (.int .u64 x)
          have hB2 : Below w.heap.size w (W.alloc (.cells #[.int .u64 x] 38)) := hB.alloc hB.size _
          refine wpIn_rangeFunc_ownG rfl (by omega) (gf := 34) (lb := #[.pointer (some ⟨W.heap.size, 0, none⟩)]) rfl trivial (enters_of Try.func34 (by kernel_rfl) rfl)
            (bytesOf_stops Fence.wide 5 trivial rfl (by omega) W.heap.size w.heap.size x hxk.1 hxk.2 _ (by simp) bN.cell) belowK_t (belowK_b (by simp; omega)) (Below.refl _ _) (fun _ => rfl)
            (fun pre W' => (∃ v, Boxed W' (w.heap.size + 1) 22 v ∧ W'.ownsRow w.heap.size 5 1 v (f ++ pre).length ((f ++ pre).map (Value.int .u8)) ∧ v ≠ .slice none 0 0) ∧ Below w.heap.size w W' ∧ ∀ D ∈ ds, W'.heap[D]? = some (.deferred (some [])))
            (fun _ _ _ => False)
            (OwnFrom.and (Own.from (holdsRow_own w.heap.size (w.heap.size + 1) 22 5 1 (fun pre => (f ++ pre).length) (fun pre => (f ++ pre).map (Value.int .u8)) (fun _ v => v ≠ .slice none 0 0)) _)
              (OwnFrom.and (ownFrom_below (Nat.le_refl _) (by simp; omega)) ?marks))
            (fun _ _ _ _ _ hs _ _ => hs)
            ⟨⟨v, hv.alloc _, by simpa using hrow.alloc _, hnil⟩, hB2, fun D hD => (Below.heap_alloc _ _ _ (Array.getElem?_eq_some_iff.1 (hds D hD).2).1).trans (hds D hD).2⟩
            (fun c => { tmps := #[.slice ab lb cb, .slice (some ⟨b, o, none⟩) k cl, undef, undef, .slice none 0 0,
              .int .i64 ((lb : Int) + (qsum ls : Int)), undef, u7,
              .pointer (some ⟨w.heap.size + 1, 0, none⟩), undef, .int .u64 x, .int .u8 c, .slice ab lb cb,
              .int .i64 (lb : Int), .slice (some ⟨b, o, none⟩) k cl, .int .i64 (k : Int), .int .i64 (k : Int),
              .bool false, u18, u19, u20, u21, u22, u23, u24, .slice ab lb cb, .int .i64 (lb : Int),
              .int .i64 ((lb : Int) + (qsum ls : Int)),
              .slice (some ⟨w.heap.size, 0, none⟩) lb (lb + qsum ls),
              .slice (some ⟨w.heap.size, 0, none⟩) lb (lb + qsum ls), .slice ab lb cb, cv,
              .slice (some ⟨b, o, none⟩) k cl, .int .i64 (k : Int), .int .i64 (j : Int), .bool true, .pointer (some ⟨b, o + j, none⟩), .int .u64 x, .int .u64 x,
              .func (.func 34) #[] #[.pointer (some ⟨W.heap.size, 0, none⟩)],
              .int .u8 c, undef, undef, undef, undef, u45, undef], defers := [] }) ?assign ?body ?done ?stop
          case marks =>
            intro s X Y row hs hg hr D hD
            have hlt := (Array.getElem?_eq_some_iff.1 (hds D hD).2).1
            refine (hg.block D (Array.getElem?_eq_some_iff.1 (hs D hD)).1 (fun e => ?_)).trans (hs D hD)
            have := (hr D e.symm).1
            simp at this
            omega
          case assign =>
            intro l c W' K hK
            gi_wp2
            exact hK
          case body =>
            rintro l pre c W' ⟨⟨v', hv', hrow', hnil'⟩, hB', hm'⟩ hlt'
            have hc := hv'.cell
            have hfl : (f ++ pre).length ≤ f.length + pre.length := by simp
            generalize hN : (f ++ pre).length = N at *
            have HN : Hid ((f ++ pre).length = N) := hN
            clear hN
            gi_wp2_with (gi_at_builtin; refine wpListIn_append_own _ rfl _ _ 22 rfl w.heap.size 5 i0 (.int .u8 0) 1 1 Try.underlying22 hi hz0 hz1 hz2 rfl (by decide) _ _ _ rfl (hrow'.alloc _) ⟨W'.heap.size, 0, none⟩ 1 1 [.int .u8 c] rfl rfl (cell_one_new _ _ _) (by simp [Value.oneCell']) (by unfold maxLen; omega) (by omega) (by have := hB'.size; simp; omega) ?_; intro v2 w1 hown' hgrow hnil2; obtain ⟨g', cap', rfl⟩ := ownsRow_succ hown'; obtain ⟨hv1, hv2, hr2, hk2, hb2⟩ := hv'.appended (by decide) hrow' hB'.size (by omega) hown' hgrow; have hc1 := hv1.cell; have hf1 := hv1.frozen)
            exact ⟨hk2.from _, hb2, ⟨_, hv2, by rw [← List.append_assoc, List.length_append, HN.out]; simpa using hr2, by simp⟩, hB'.trans hb2, fun D hD => hk2.same D _ (hm' D hD) rfl⟩
          case done =>
            rintro D ys W' hD rfl ⟨⟨v', hv', hrow', hnil'⟩, hB', hm'⟩ hK
            gi_wp2
            refine ⟨⟨j + 1, D :: ds, .int .u64 x, .bool true, .pointer (some ⟨b, o + j, none⟩), .int .u64 x, .int .u64 x, .func (.func 34) #[] #[.pointer (some ⟨W.heap.size, 0, none⟩)], .int .i64 ((j : Int) + 1), by omega, ?_, ⟨v', hv', ?_, hnil'⟩, hB', ?_, ?_, ?_⟩, ?_⟩
            · rw [show ((j + 1 : Nat) : Int) = (j : Int) + 1 from by omega]
              rfl
            · rw [HT.out, ← List.append_assoc, HF.out]
              exact hrow'
            · have h1 := (Array.getElem?_eq_some_iff.1 hK).1
              simp at hD
              omega
            · refine List.nodup_cons.2 ⟨fun hin => ?_, hnd⟩
              have h1 := (Array.getElem?_eq_some_iff.1 (hds D hin).2).1
              simp at hD
              omega
            · intro E hE
              rcases List.mem_cons.1 hE with rfl | hE
              · simp at hD
                exact ⟨by omega, hK⟩
              · exact ⟨(hds E hE).1, hm' E hE⟩
            · simp [intOf]
              omega
          case stop =>
            rintro D c pre W' _ _ h _
            exact h.elim
        · have hkl : j = k := by omega
          subst hkl
          rw [show ls.take j = ls from List.take_of_length_le (by omega)] at hrow
          have hc := hv.cell
          gi_wp2
          refine leaves_marks (fun W' => W'.ownsRow w.heap.size 5 1 v (bs ++ lebs ls).length ((bs ++ lebs ls).map (Value.int .u8)) ∧ Below w.heap.size w W') ?_ ds hnd W (fun D hD => (hds D hD).2) ⟨hrow, hB⟩ ?_
          · rintro W' ⟨hr', hb'⟩
            exact ⟨_, results_tmp rfl _ _ _, v, rfl, hr', hnil, hb'⟩
          · rintro W' D hD ⟨hr', hb'⟩ hK
            exact ⟨ownsRow_putObj hr' _ hK rfl, hb'.trans (belowK_b (w := w) (Nat.le_refl _) W' D _ _ (hds D hD).1 hK rfl rfl)⟩
end Go.Proofs.Ytppiklgkpicfeaa
