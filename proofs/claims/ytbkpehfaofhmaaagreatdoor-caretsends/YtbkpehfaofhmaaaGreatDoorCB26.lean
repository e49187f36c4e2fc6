/-
  PROVED HERE: what the texts DBRightN, DBKindsF, DBNewF say (each has its own words below).
-/
import Derived.Test.YtbkpehfaofhmaaaGreatDoorCB25
import Derived.Test.YtbkpehfaofhmaaaGreatDoorCB14
import Derived.Test.YtbkpehfaofhmaaaGreatDoorCB23
/- DBRightN: schema's rightNames: whether all names are letters, and none is there twice. -/
namespace Go.Proofs.YtbkpehfaofhmaaaGreatDoor
open Go.RowKit
set_option maxRecDepth 100000 in
set_option maxHeartbeats 400000 in
theorem samename_calls (nm : ByteArray) (ta : Option Addr) (tl tc : Nat) (b : Nat) (on : ByteArray) (w : World) (hb : w.cell? ⟨b, 0, none⟩ = some (.string on)) :
  Calls Tryz.prog 66 #[.agg #[.string nm, .slice ta tl tc], .pointer (some ⟨b, 0, none⟩)] w fun e w' => e = .returned (.bool (nm.toList == on.toList)) /\ Below w.heap.size w w' := by
 have hlt := World.block_lt_of_cell? w _ hb
 have hB : Below w.heap.size w (w.alloc (.cells #[.string nm, .slice ta tl tc] 61)) := (Below.refl _ w).alloc (Nat.le_refl _) _
 have h2 : (w.alloc (.cells #[.string nm, .slice ta tl tc] 61)).cell? ⟨b, 0, none⟩ = some (.string on) := (hB.cell (p := ⟨b, 0, none⟩) hlt).trans hb
 have HB : Hid (Below w.heap.size w (w.alloc (.cells #[.string nm, .slice ta tl tc] 61))) := hB
 clear hB hb
 go_enter Tryz.func66, Tryz.ntmps66
 go_wp2
 go_ret
 exact ⟨rfl, HB.out⟩
def nameIn (gs : List Grp) (n : Nat) (on : ByteArray) : Prop := ∃ (j : Nat) (x : Grp), j < n /\ gs[j]? = some x /\ (x.1.toList == on.toList) = true
set_option maxRecDepth 100000 in
set_option maxHeartbeats 400000 in
theorem gindex_calls (g o n c : Nat) (len : Nat) (gs : List Grp) (b : Nat) (on : ByteArray) (w : World) (hG : Groups w (some ⟨g, o, none⟩) len gs) (hn : n <= len) (hlen : len <= 1000000) (hb : w.cell? ⟨b, 0, none⟩ = some (.string on)) :
  Calls Tryz.prog 97 #[.slice (some ⟨g, o, none⟩) n c, .func (.func 66) #[] #[.pointer (some ⟨b, 0, none⟩)]] w fun e w' => ∃ i : Int, e = .returned (.int .i64 i) /\ (0 <= i ↔ nameIn gs n on) /\ Below w.heap.size w w' := by
 have hbl := World.block_lt_of_cell? w _ hb
 have HX : Hid (∀ (X : World) (j : Nat), Below w.heap.size w X -> j < n -> ∃ x ta tl tc, gs[j]? = some x /\ X.cell? ⟨g, o + j * 2, none⟩ = some (.string x.1) /\ X.cell? ⟨g, o + j * 2 + 1, none⟩ = some (.slice ta tl tc) /\ Calls Tryz.prog 66 #[.agg #[.string x.1, .slice ta tl tc], .pointer (some ⟨b, 0, none⟩)] X fun e w' => e = .returned (.bool (x.1.toList == on.toList)) /\ Below X.heap.size X w') := fun X j hX hj => by
  obtain ⟨b', o', x, ta, tl, tc, h1, h2, h3, h4⟩ := hG.at (i := j) (by omega)
  injection h1 with h1
  injection h1 with e1 e2
  subst e1 e2
  obtain ⟨h5, h6⟩ := h4 X hX
  exact ⟨x, ta, tl, tc, h2, h5, h6, samename_calls _ _ _ _ b on X ((hX.cell (p := ⟨b, 0, none⟩) hbl).trans hb)⟩
 have hni : (n : Int) <= 1000000 := by omega
 clear hG hb hbl
 go_enter Tryz.func97, Tryz.ntmps97
 go_wp2
 go_loopg [8] (n + 1) (fun gk v wr => ∃ j : Nat, j <= n /\ n < j + gk /\ v = .int .i64 (j : Int) /\ (∀ (q : Nat) (x : Grp), q < j -> gs[q]? = some x -> (x.1.toList == on.toList) = false) /\ Below w.heap.size w wr)
 case atStart => exact ⟨0, Nat.zero_le _, by omega, rfl, fun q x hq => by omega, Below.refl _ _⟩
 case round =>
  obtain ⟨j, hj, hgk, rfl, hT, hB⟩ := hrel
  by_cases hlt : j < n
  ·obtain ⟨x, ta, tl, tc, hx, c0, c1, HC⟩ := HX.out wr j hB hlt
   have hii : (j : Int) < (n : Int) := by omega
   have hj0 : (0 : Int) <= (j : Int) := by omega
   have hd : decide ((j : Int) < (n : Int)) = true := by simpa using hii
   obtain ⟨r, hr⟩ : ∃ r, (x.1.toList == on.toList) = r := ⟨_, rfl⟩
   rw [hr] at HC
   have HB : Hid (gs[j]? = some x /\ (x.1.toList == on.toList) = r /\ (∀ (q : Nat) (x : Grp), q < j -> gs[q]? = some x -> (x.1.toList == on.toList) = false) /\ Below w.heap.size w wr) := ⟨hx, hr, hT, hB⟩
   clear hT hB hx HX hr
   go_wp2_with fail
   refine HC.mono ?_
   rintro e W1 ⟨rfl, hB1⟩
   have HB1 : Hid (Below w.heap.size w W1) := HB.out.2.2.2.trans (hB1.mono HB.out.2.2.2.size)
   clear hB1 HC
   cases r with
   | true =>
    go_wp2
    go_ret
    exact ⟨(j : Int), rfl, ⟨fun _ => ⟨j, x, hlt, HB.out.1, HB.out.2.1⟩, fun _ => by omega⟩, HB1.out⟩
   | false =>
    go_wp2
    go_roundg (n - j)
    case measure => omega
    case rel => exact ⟨j + 1, by omega, by omega, by first | rfl | go_num, fun q y hq hy => by
     by_cases e : q = j
     ·subst e
      rw [HB.out.1] at hy
      cases hy
      exact HB.out.2.1
     ·exact HB.out.2.2.1 q y (by omega) hy, HB1.out⟩
  ·obtain rfl : j = n := by omega
   have hd : decide ((j : Int) < (j : Int)) = false := by simp
   have HB : Hid ((∀ (q : Nat) (x : Grp), q < j -> gs[q]? = some x -> (x.1.toList == on.toList) = false) /\ Below w.heap.size w wr) := ⟨hT, hB⟩
   clear hT hB HX
   go_wp2
   go_ret
   exact ⟨-1, rfl, ⟨fun h => by omega, fun ⟨q, x, h1, h2, h3⟩ => by rw [HB.out.1 q x h1 h2] at h3; cases h3⟩, HB.out.2⟩
set_option maxRecDepth 100000 in
theorem gcontains_calls (g o n c : Nat) (len : Nat) (gs : List Grp) (b : Nat) (on : ByteArray) (w : World) (hG : Groups w (some ⟨g, o, none⟩) len gs) (hn : n <= len) (hlen : len <= 1000000) (hb : w.cell? ⟨b, 0, none⟩ = some (.string on)) :
  Calls Tryz.prog 68 #[.slice (some ⟨g, o, none⟩) n c, .func (.func 66) #[] #[.pointer (some ⟨b, 0, none⟩)]] w fun e w' => ∃ r : Bool, e = .returned (.bool r) /\ (r = true ↔ nameIn gs n on) /\ Below w.heap.size w w' := by
 have HF := gindex_calls g o n c len gs b on w hG hn hlen hb
 clear hG hb
 go_enter Tryz.func68, Tryz.ntmps68
 go_wp2_with fail
 refine HF.mono ?_
 rintro e W ⟨i, rfl, h1, h2⟩
 have HE : Hid ((0 <= i ↔ nameIn gs n on) /\ Below w.heap.size w W) := ⟨h1, h2⟩
 clear h1 h2 HF
 go_wp2
 go_ret
 exact ⟨decide (0 <= i), rfl, by rw [decide_eq_true_iff]; exact HE.out.1, HE.out.2⟩
def RightN (gs : List Grp) : Prop := ∀ (i : Nat) (x : Grp), gs[i]? = some x -> letters x.1 = true /\ ¬ nameIn gs i x.1
set_option maxRecDepth 100000 in
set_option maxHeartbeats 600000 in
theorem rightnames_calls (g c : Nat) (len : Nat) (gs : List Grp) (w : World) (hG : Groups w (some ⟨g, 0, none⟩) len gs) (hlen : len <= 1000000) (hc : len <= c) (hc2 : c <= 9223372036854775807) (hsz : ∀ x ∈ gs, x.1.size <= 9223372036854775807) :
  Calls Tryz.prog 38 #[.slice (some ⟨g, 0, none⟩) len c] w fun e w' => ∃ r : Bool, e = .returned (.bool r) /\ (r = true ↔ RightN gs) /\ Below w.heap.size w w' := by
 have HX : Hid (∀ (X : World) (j : Nat), Below w.heap.size w X -> j < len -> ∃ x ta tl tc, gs[j]? = some x /\ X.cell? ⟨g, j * 2, none⟩ = some (.string x.1) /\ X.cell? ⟨g, j * 2 + 1, none⟩ = some (.slice ta tl tc) /\ x.1.size <= 9223372036854775807) := fun X j hX hj => by
  obtain ⟨b', o', x, ta, tl, tc, h1, h2, h3, h4⟩ := hG.at (i := j) hj
  injection h1 with h1
  injection h1 with e1 e2
  subst e1 e2
  obtain ⟨h5, h6⟩ := h4 X hX
  rw [Nat.zero_add] at h5 h6
  exact ⟨x, ta, tl, tc, h2, h5, h6, hsz x (List.mem_of_getElem? h2)⟩
 have HGC : Hid (∀ (X : World) (j b cc : Nat) (on : ByteArray), Below w.heap.size w X -> j <= len -> X.cell? ⟨b, 0, none⟩ = some (.string on) -> Calls Tryz.prog 68 #[.slice (some ⟨g, 0, none⟩) j cc, .func (.func 66) #[] #[.pointer (some ⟨b, 0, none⟩)]] X fun e w' => ∃ r : Bool, e = .returned (.bool r) /\ (r = true ↔ nameIn gs j on) /\ Below X.heap.size X w') := fun X j b cc on hX hj hb => gcontains_calls g 0 j cc len gs b on X (hG.below hX) hj hlen hb
 have HLL : Hid (gs.length = len) := hG.1
 have hli : (len : Int) <= 1000000 := by omega
 have hlc : (len : Int) <= (c : Int) := by omega
 have hci : (c : Int) <= 9223372036854775807 := by omega
 clear hG hsz
 go_enter Tryz.func38, Tryz.ntmps38
 go_wp2
 go_loopg [8] (len + 1) (fun gk v wr => ∃ j : Nat, j <= len /\ len < j + gk /\ v = .int .i64 (j : Int) /\ (∀ (i : Nat) (x : Grp), i < j -> gs[i]? = some x -> letters x.1 = true /\ ¬ nameIn gs i x.1) /\ Below w.heap.size w wr)
 case atStart => exact ⟨0, Nat.zero_le _, by omega, rfl, fun q x hq => by omega, Below.refl _ _⟩
 case round =>
  obtain ⟨j, hj, hgk, rfl, hT, hB⟩ := hrel
  by_cases hlt : j < len
  ·obtain ⟨x, ta, tl, tc, hx, c0, c1, hxs⟩ := HX.out wr j hB hlt
   have hii : (j : Int) < (len : Int) := by omega
   have hj0 : (0 : Int) <= (j : Int) := by omega
   have hd : decide ((j : Int) < (len : Int)) = true := by simpa using hii
   have hjc : (j : Int) <= (c : Int) := by omega
   have hjcn : j <= c := by omega
   obtain ⟨V0, hV0⟩ : ∃ V0, V0 = wr.alloc (.cells #[.string x.1, .slice ta tl tc] 61) := ⟨_, rfl⟩
   have hBV : Below wr.heap.size wr V0 := by rw [hV0]; exact (Below.refl _ wr).alloc (Nat.le_refl _) _
   have m0 : V0.heap[wr.heap.size]? = some (.cells #[.string x.1, .slice ta tl tc] 61 (0, 0)) := by rw [hV0]; exact World.alloc_heap_new wr _
   have hlt0 : wr.heap.size < V0.heap.size := (Array.getElem?_eq_some_iff.1 m0).1
   have HKS : Hid (∀ X : World, Below V0.heap.size V0 X -> X.cell? ⟨wr.heap.size, 0, none⟩ = some (.string x.1)) := fun X hX => by
    have mX := (hX.block _ hlt0).trans m0
    exact cell_of_row X wr.heap.size 0 _ _ _ mX
   have HVB : Hid (Below w.heap.size w V0) := hB.trans (hBV.mono hB.size)
   have HNM := sname_calls x.1 hxs V0
   have HV0 : Hid (wr.alloc (.cells #[.string x.1, .slice ta tl tc] 61) = V0) := hV0.symm
   have HB : Hid (gs[j]? = some x /\ (∀ (i : Nat) (x : Grp), i < j -> gs[i]? = some x -> letters x.1 = true /\ ¬ nameIn gs i x.1)) := ⟨hx, hT⟩
   have k0 := HKS.out V0 (Below.refl _ _)
   obtain ⟨r, hr⟩ : ∃ r, letters x.1 = r := ⟨_, rfl⟩
   rw [hr] at HNM
   have HR : Hid (letters x.1 = r) := hr
   clear hT hB hx HX hr hV0 m0 hlt0 hBV hxs
   go_wp2_with fail
   rw [HV0.out]
   refine HNM.mono ?_
   rintro e W1 ⟨rfl, hB1⟩
   have HB1 : Hid (Below w.heap.size w W1) := HVB.out.trans (hB1.mono HVB.out.size)
   have k1 := HKS.out W1 hB1
   have HCC := HGC.out W1 j wr.heap.size c x.1 HB1.out hj k1
   clear hB1 HNM
   cases r with
   | false =>
    clear HCC
    go_wp2
    go_ret
    exact ⟨false, rfl, ⟨fun h => (by cases h), fun h => by
     have := (h j x HB.out.1).1
     rw [HR.out] at this
     cases this⟩, HB1.out⟩
   | true =>
    go_wp2_with fail
    refine HCC.mono ?_
    rintro e W2 ⟨r2, rfl, hr2, hB2⟩
    have HB2 : Hid (Below w.heap.size w W2) := HB1.out.trans (hB2.mono HB1.out.size)
    have HR2 : Hid (r2 = true ↔ nameIn gs j x.1) := hr2
    clear hB2 hr2 HCC
    cases r2 with
    | true =>
     go_wp2
     go_ret
     exact ⟨false, rfl, ⟨fun h => (by cases h), fun h => absurd (HR2.out.1 (by first | rfl | trivial)) (h j x HB.out.1).2⟩, HB2.out⟩
    | false =>
     go_wp2
     go_roundg (len - j)
     case measure => omega
     case rel => exact ⟨j + 1, by omega, by omega, by first | rfl | go_num, fun q y hq hy => by
      by_cases e : q = j
      ·subst e
       rw [HB.out.1] at hy
       cases hy
       exact ⟨HR.out, fun h => by cases HR2.out.2 h⟩
      ·exact HB.out.2 q y (by omega) hy, HB2.out⟩
  ·obtain rfl : j = len := by omega
   have hd : decide ((j : Int) < (j : Int)) = false := by simp
   have HB : Hid (RightN gs /\ Below w.heap.size w wr) := ⟨fun i x hx => hT i x (by have := (List.getElem?_eq_some_iff.1 hx).1; have := HLL.out; omega) hx, hB⟩
   clear hT hB HX
   go_wp2
   go_ret
   exact ⟨true, rfl, ⟨fun _ => HB.out.1, fun _ => rfl⟩, HB.out.2⟩
end Go.Proofs.YtbkpehfaofhmaaaGreatDoor

/- DBKindsF: schema's kindsOf at every slice of types: the whole and the types, whose trees are not read yet, in memory of their own. -/
namespace Go.Proofs.YtbkpehfaofhmaaaGreatDoor
open Go.RowKit
set_option maxRecDepth 100000 in
set_option maxHeartbeats 300000 in
theorem kindsof_calls (a : Option Addr) (len cap : Nat) (l : List SpecD) (w : World) (hl : Specs w a len l) (hsz : len <= 15) :
  Calls Tryz.prog 32 #[.slice a len cap] w fun e w' => ∃ g c, e = .returned (.slice (some ⟨g, 0, none⟩) (len + 1) c) /\ w'.ownsRow w.heap.size 106 10 (.slice (some ⟨g, 0, none⟩) (len + 1) c) (bareK zeroS :: l.map bareK).length (flatK (bareK zeroS :: l.map bareK)) /\ Below w.heap.size w w' := by
 have HS : Hid (∀ (X : World) (i : Nat), Below w.heap.size w X -> i < len -> ∃ b o x, a = some ⟨b, o, none⟩ /\ l[i]? = some x /\ SpecAt X b (o + i * 7) x) := fun X i hX hi => by
  obtain ⟨b, o, x, h1, _, h2, h3⟩ := hl.at hi
  exact ⟨b, o, x, h1, h2, h3 X hX⟩
 have HLL : Hid (l.length = len) := hl.1
 have HB0 : Hid (Below w.heap.size w (w.alloc (.cells (kindC (bareK zeroS)).toArray 106))) := (Below.refl _ w).alloc (Nat.le_refl _) _
 have HO0 : Hid ((w.alloc (.cells (kindC (bareK zeroS)).toArray 106)).ownsRow w.heap.size 106 10 (.slice (some ⟨w.heap.size, 0, none⟩) 1 1) 1 (flatK [bareK zeroS])) := ⟨rfl, .inr ⟨w.heap.size, 1, _, rfl, Nat.le_refl _, World.alloc_heap_new w _, Nat.le_refl _, by unfold maxLen; omega, rfl, rfl⟩⟩
 have hsi : (len : Int) <= 15 := by omega
 clear hl
 go_enter Tryz.func32, Tryz.ntmps32
 go_wp2
 go_loopg [3, 10] (len + 1) (fun gk u v wr => ∃ (i : Nat) (g c : Nat), i <= len /\ len < i + gk /\ u = .slice (some ⟨g, 0, none⟩) (i + 1) c /\ v = .int .i64 (i : Int) /\ wr.ownsRow w.heap.size 106 10 (.slice (some ⟨g, 0, none⟩) (i + 1) c) (bareK zeroS :: (l.take i).map bareK).length (flatK (bareK zeroS :: (l.take i).map bareK)) /\ Below w.heap.size w wr)
 case atStart => exact ⟨0, _, _, Nat.zero_le _, by omega, rfl, rfl, by rw [List.take_zero]; exact HO0.out, HB0.out⟩
 case round =>
  obtain ⟨i, g, c, hi, hgk, rfl, rfl, hown, hB⟩ := hrel
  clear HO0 HB0
  by_cases hlt : i < len
  ·obtain ⟨b, o, x, rfl, hx, c0, c1, c2, c3, c4, c5, c6⟩ := HS.out wr i hB hlt
   have hii : (i : Int) < (len : Int) := by omega
   have hi0 : (0 : Int) <= (i : Int) := by omega
   have hd : decide ((i : Int) < (len : Int)) = true := by simpa using hii
   have hB1 : Below wr.heap.size wr (wr.alloc (.cells (specC x).toArray 56)) := (Below.refl _ wr).alloc (Nat.le_refl _) _
   have hB2 : Below wr.heap.size wr ((wr.alloc (.cells (specC x).toArray 56)).alloc (.cells (kindC (bareK x)).toArray 106)) := hB1.alloc hB1.size _
   have hlenk : (bareK zeroS :: (l.take i).map bareK).length = i + 1 := by rw [List.length_cons, List.length_map, List.length_take]; have := HLL.out; omega
   obtain ⟨g', cap', W1, hrun, hown', hBW⟩ := kind_put _ w.heap.size _ _ (owns_same hown fun k hk => hB2.block k (owns_lt hown hk).1) (bareK x) (by omega) (by have := hB2.size; have := hB.size; omega) (wr.alloc (.cells (specC x).toArray 56)).heap.size 1 (ten_new (wr.alloc (.cells (specC x).toArray 56)) _ _)
   have htk : l.take (i + 1) = l.take i ++ [x] := by rw [List.take_add_one, hx]; rfl
   have HN : Hid (W1.ownsRow w.heap.size 106 10 (.slice (some ⟨g', 0, none⟩) (i + 1 + 1) cap') (bareK zeroS :: (l.take (i + 1)).map bareK).length (flatK (bareK zeroS :: (l.take (i + 1)).map bareK)) /\ Below w.heap.size w W1) := by
    refine ⟨?_, (hB.trans (hB2.mono hB.size)).trans hBW⟩
    rw [htk, List.map_append, List.map_singleton]
    rw [hlenk] at hown'
    exact hown'
   rw [hlenk, World.size_alloc] at hrun
   have HRUN : Hid ((Builtin.append_ #[77, 77] 77 #[.slice (some ⟨g, 0, none⟩) (i + 1) c, .slice (some ⟨wr.heap.size + 1, 0, none⟩) 1 1]).run Tryz.prog ((wr.alloc (.cells #[.string x.name, .string x.expr, .bool x.leaf, .int .i64 x.marks, .int .i64 x.least, .int .i64 x.most, .bool x.lines] 56)).alloc (.cells #[.string x.name, .string x.expr, .bool x.leaf, .int .i64 x.marks, .int .i64 x.least, .int .i64 x.most, .bool x.lines, .int .i64 0, .string ⟨#[]⟩, .slice none 0 0] 106)) = .ok (.slice (some ⟨g', 0, none⟩) (i + 1 + 1) cap') W1) := hrun
   clear hown hB hB1 hB2 hBW hown' hrun htk HS hlenk hx
   go_wp2_with (first
    | (at_builtin; trace_state; refine wpList_run_append rfl (.tmp 14) (.tmp 17) 77 rfl _ _ _ _ rfl rfl HRUN.out ?_)
    | fail)
   go_roundg (len - i)
   case measure => omega
   case rel => exact ⟨i + 1, g', cap', by omega, by omega, rfl, by first | rfl | go_num, HN.out⟩
  ·obtain rfl : i = len := by omega
   have hd : decide ((i : Int) < (i : Int)) = false := by simp
   have HN : Hid (wr.ownsRow w.heap.size 106 10 (.slice (some ⟨g, 0, none⟩) (i + 1) c) (bareK zeroS :: l.map bareK).length (flatK (bareK zeroS :: l.map bareK)) /\ Below w.heap.size w wr) := by
    rw [List.take_of_length_le (by have := HLL.out; omega)] at hown
    exact ⟨hown, hB⟩
   clear hown hB HS
   go_wp2
   go_ret
   exact ⟨g, c, rfl, HN.out⟩
end Go.Proofs.YtbkpehfaofhmaaaGreatDoor

/- DBNewF: schema.New at every expression, types and groups: what it returns, and the schema as it lies in memory. -/
namespace Go.Proofs.YtbkpehfaofhmaaaGreatDoor
open Go.RowKit
noncomputable def newE (whole : ByteArray) (l : List SpecD) (gs : List Grp) : Int :=
 open Classical in
 if 15 < l.length \/ 16 < gs.length then 1
 else if l.all okS = true /\ RightN (namesD l gs) then firstE (whole :: l.map (·.expr)) (namesD l gs)
 else 1
structure SchAt (w : World) (B g c ng nc : Nat) (ks : List KindD) (gs : List Grp) (ts : List (DataW Unit)) : Prop where
 sch : w.heap[B]? = some (.cells #[.slice (some ⟨g, 0, none⟩) ks.length c, .slice (some ⟨ng, 0, none⟩) gs.length nc] 81 (0, 0))
 glt : g < w.heap.size
 kinds : ∀ (i : Nat) (x : KindD), ks[i]? = some x -> SpecAt w g (i * 10) x.1 /\ w.cell? ⟨g, i * 10 + 7, none⟩ = some (.int .i64 x.2.1) /\ w.cell? ⟨g, i * 10 + 8, none⟩ = some (.string x.2.2.1) /\ w.cell? ⟨g, i * 10 + 9, none⟩ = some (.slice x.2.2.2.1 x.2.2.2.2.1 x.2.2.2.2.2)
 names : Groups w (some ⟨ng, 0, none⟩) gs.length gs
 len : ts.length = ks.length
 cap : ks.length <= c /\ c <= 9223372036854775807 /\ ks.length <= 16
 trees : ∀ (i : Nat) (x : KindD) (t : DataW Unit), ks[i]? = some x -> ts[i]? = some t -> Ex w 200 t (rawV x.2) /\ named 200 t /\ chk 200 t gs = 0
theorem SchAt.below {w w' : World} {B g c ng nc : Nat} {ks : List KindD} {gs : List Grp} {ts : List (DataW Unit)} (h : SchAt w B g c ng nc ks gs ts) (hB : Below w.heap.size w w') : SchAt w' B g c ng nc ks gs ts := by
 have e : ∀ k, w'.cell? ⟨g, k, none⟩ = w.cell? ⟨g, k, none⟩ := fun k => World.cell?_of_block (hB.block g h.glt)
 refine ⟨(hB.block B (Array.getElem?_eq_some_iff.1 h.sch).1).trans h.sch, Nat.lt_of_lt_of_le h.glt hB.size, fun i x hx => ?_, h.names.below hB, h.len, h.cap, fun i x t hx ht => ?_⟩
 ·obtain ⟨h1, h2, h3, h4⟩ := h.kinds i x hx
  exact ⟨h1.same (hB.block g h.glt), by rw [e]; exact h2, by rw [e]; exact h3, by rw [e]; exact h4⟩
 ·obtain ⟨h1, h2, h3⟩ := h.trees i x t hx ht
  exact ⟨Ex.below hB _ _ _ h1, h2, h3⟩
def treesOf (whole : ByteArray) (l : List SpecD) : List (DataW Unit) := (whole :: l.map (·.expr)).map outTree
def MadeS (w : World) (B : Nat) (whole : ByteArray) (l : List SpecD) (gs : List Grp) : Prop := ∃ g c ng nc ks, SchAt w B g c ng nc ks (namesD l gs) (treesOf whole l) /\ ks.map (·.1) = zeroS :: l
theorem MadeS.below {w w' : World} {B : Nat} {whole : ByteArray} {l : List SpecD} {gs : List Grp} (h : MadeS w B whole l gs) (hB : Below w.heap.size w w') : MadeS w' B whole l gs := by
 obtain ⟨g, c, ng, nc, ks, h1, h2⟩ := h
 exact ⟨g, c, ng, nc, ks, h1.below hB, h2⟩
theorem readE_zero {s : ByteArray} {gs : List Grp} (h : readE s gs = 0) : chk 200 (outTree s) gs = 0 := by
 unfold readE at h
 split at h
 ·rename_i h1
  exact absurd h h1
 ·exact h
theorem RdI.made {base : Nat} {w0 : World} {B g c ng nc : Nat} {xs : List GrpD} {whole : ByteArray} {l : List SpecD} {gs : List Grp} {wr : World} {ks : List KindD} (h : RdI base w0 B g c ng nc xs (whole :: l.map (·.expr)) (zeroS :: l) wr ks ks.length) (hn : xs.map plainG = namesD l gs) (hl : l.length <= 15) (hxl : xs.length <= 1000) : MadeS wr B whole l gs := by
 have hkl : ks.length = l.length + 1 := by have := congrArg List.length h.spec; rw [List.length_map, List.length_cons] at this; exact this
 have hnl : (namesD l gs).length = xs.length := by rw [<- hn, List.length_map]
 obtain ⟨hgl, _⟩ := owns_lt h.row (g := g) rfl
 have hcap : ks.length <= c /\ c <= maxLen := by
  rcases h.row.2 with ⟨e, _⟩ | ⟨g', cap, cur, e, _, _, h1, h2, _⟩
  ·cases e
  ·injection e with _ _ e3
   subst e3
   exact ⟨h1, h2⟩
 refine ⟨g, c, ng, nc, ks, ⟨by rw [hnl]; exact h.sch, hgl, fun i x hx => ?_, by rw [hnl, <- hn]; exact h.nms.groups rfl (by omega), by unfold treesOf; simp; omega, ⟨hcap.1, by have := hcap.2; unfold maxLen at this; omega, by omega⟩, fun i x t hx ht => ?_⟩, h.spec⟩
 ·obtain ⟨g', cap', e, hc⟩ := owns_cell h.row (by omega)
  injection e with e1
  injection e1 with e1
  injection e1 with e1
  subst e1
  exact ⟨(kinds_at h.row).2 i x hx, hc _ _ (flatK_at (j := 7) hx rfl), hc _ _ (flatK_at (j := 8) hx rfl), hc _ _ (flatK_at (j := 9) hx rfl)⟩
 ·unfold treesOf at ht
  rw [List.getElem?_map] at ht
  cases hs : (whole :: l.map (·.expr))[i]? with
  | none => rw [hs] at ht; cases ht
  | some s =>
   rw [hs] at ht
   cases ht
   have hi : i < ks.length := (List.getElem?_eq_some_iff.1 hx).1
   refine ⟨ExA.ex _ _ _ (h.tree i x s hi hx hs), out_named s, ?_⟩
   have := readE_zero (h.zero i s hi hs)
   rw [hn] at this
   exact this
theorem Nms.base {b b' : Nat} {W : World} {v : Value} {xs : List GrpD} (h : Nms b W v xs) (hb : b' <= b) : Nms b' W v xs := by
 refine ⟨⟨h.row.1, ?_⟩, h.ok⟩
 rcases h.row.2 with h2 | ⟨g, cap, cur, h1, h2, h3⟩
 ·exact .inl h2
 ·exact .inr ⟨g, cap, cur, h1, Nat.le_trans hb h2, h3⟩
theorem bare_expr (l : List SpecD) (whole : ByteArray) : ∀ (j : Nat) (x : KindD), 1 <= j -> (bareK zeroS :: l.map bareK)[j]? = some x -> (whole :: l.map (·.expr))[j]? = some x.1.expr := by
 intro j x hj hx
 obtain ⟨k, rfl⟩ : ∃ k, j = k + 1 := ⟨j - 1, by omega⟩
 rw [List.getElem?_cons_succ, List.getElem?_map] at hx ⊢
 cases hq : l[k]? with
 | none => rw [hq] at hx; cases hx
 | some y =>
  rw [hq] at hx
  cases hx
  rfl
theorem all_bare (l : List SpecD) : (((bareK zeroS :: l.map bareK).drop 1).all fun x => okS x.1) = l.all okS := by
 rw [List.drop_succ_cons, List.drop_zero, List.all_map]
 rfl
set_option maxRecDepth 100000 in
set_option maxHeartbeats 800000 in
theorem new_calls (whole : ByteArray) (a : Option Addr) (len cap : Nat) (l : List SpecD) (ga : Option Addr) (gl gc : Nat) (gs : List Grp) (w : World) (hw : whole.size <= 9223372036854775807) (hl : Specs w a len l) (hG : Groups w ga gl gs) (hls : ∀ x ∈ l, x.name.size <= 9223372036854775807 /\ x.expr.size <= 9223372036854775807) (hgs : ∀ x ∈ gs, x.1.size <= 9223372036854775807 /\ x.2.length <= 1500000) (hE : ETy w) :
  Calls Tryz.prog 19 #[.string whole, .slice a len cap, .slice ga gl gc] w fun e w' => Below w.heap.size w w' /\ ((newE whole l gs ≠ 0 /\ e = .returned (.tuple #[.pointer none, .int .i64 (newE whole l gs)])) \/ (newE whole l gs = 0 /\ ∃ B, e = .returned (.tuple #[.pointer (some ⟨B, 0, none⟩), .int .i64 0]) /\ MadeS w' B whole l gs)) := by
 have hll := hl.1
 have hgl := hG.1
 have hl63 := hl.2.1
 have hg63 := hG.2.1
 have hli : (len : Int) <= 9223372036854775807 := by omega
 have hgi : (gl : Int) <= 9223372036854775807 := by omega
 by_cases h1 : 15 < len
 ·have HN : Hid (newE whole l gs = 1) := by
   show newE whole l gs = 1
   unfold newE
   rw [if_pos (.inl (by omega))]
  have hd : decide ((15 : Int) < (len : Int)) = true := by simp; omega
  have HR : Hid (Below w.heap.size w w) := Below.refl _ _
  clear hl hG hls hgs hE
  go_enter Tryz.func19, Tryz.ntmps19
  go_wp2
  go_ret2
  exact ⟨HR.out, .inl ⟨by rw [HN.out]; decide, by rw [HN.out]; rfl⟩⟩
 have hd1 : decide ((15 : Int) < (len : Int)) = false := by simp; omega
 by_cases h2 : 16 < gl
 ·have HN : Hid (newE whole l gs = 1) := by
   show newE whole l gs = 1
   unfold newE
   rw [if_pos (.inr (by omega))]
  have hd : decide ((16 : Int) < (gl : Int)) = true := by simp; omega
  have HR : Hid (Below w.heap.size w w) := Below.refl _ _
  clear hl hG hls hgs hE
  go_enter Tryz.func19, Tryz.ntmps19
  go_wp2
  go_ret2
  exact ⟨HR.out, .inl ⟨by rw [HN.out]; decide, by rw [HN.out]; rfl⟩⟩
 have hd2 : decide ((16 : Int) < (gl : Int)) = false := by simp; omega
 have hnE : newE whole l gs = (open Classical in if l.all okS = true /\ RightN (namesD l gs) then firstE (whole :: l.map (·.expr)) (namesD l gs) else 1) := by
  unfold newE
  rw [if_neg (by omega)]
 have HKO := Hid.mk_ (kindsof_calls a len cap l w hl (by omega))
 have HNO : Hid (∀ X, Below w.heap.size w X -> Calls Tryz.prog 33 #[.slice a len cap, .slice ga gl gc] X fun e w' => ∃ (g c : Nat) (xs : List GrpD), e = .returned (.slice (some ⟨g, 0, none⟩) xs.length c) /\ Nms X.heap.size w' (.slice (some ⟨g, 0, none⟩) xs.length c) xs /\ xs.map plainG = namesD l gs /\ Below X.heap.size X w') := fun X hX => namesof_calls a len cap l ga gl gc gs X (hl.below hX) (hG.below hX) (by omega) (by omega) (fun x hx => (hgs x hx).2)
 have hsz : ∀ x ∈ namesD l gs, x.1.size <= 9223372036854775807 := by
  intro x hx
  unfold namesD at hx
  rcases List.mem_cons.1 hx with rfl | hx
  ·decide
  ·rcases List.mem_append.1 hx with hx | hx
   ·have : ∀ (l : List SpecD) (i : Nat) (x : Grp), x ∈ specNames i l -> ∃ s ∈ l, x.1 = s.name := by
     intro l
     induction l with
     | nil => intro i x hx; cases hx
     | cons s r ih =>
      intro i x hx
      rw [specNames] at hx
      rcases List.mem_cons.1 hx with rfl | hx
      ·exact ⟨s, List.mem_cons_self .., rfl⟩
      ·obtain ⟨q, h1, h2⟩ := ih _ _ hx
       exact ⟨q, List.mem_cons_of_mem _ h1, h2⟩
    obtain ⟨s, h1, h2⟩ := this l 0 x hx
    rw [h2]
    exact (hls s h1).1
   ·exact (hgs x hx).1
 have hnl : (namesD l gs).length <= 100 := by
  unfold namesD
  rw [List.length_cons, List.length_append, specNames_length]
  omega
 -- what comes behind namesOf
 have HALL : Hid (∀ (X1 X2 : World) (g c ng nc : Nat) (xs : List GrpD), X1.ownsRow w.heap.size 106 10 (.slice (some ⟨g, 0, none⟩) (len + 1) c) (bareK zeroS :: l.map bareK).length (flatK (bareK zeroS :: l.map bareK)) -> Below w.heap.size w X1 -> Nms X1.heap.size X2 (.slice (some ⟨ng, 0, none⟩) xs.length nc) xs -> xs.map plainG = namesD l gs -> Below X1.heap.size X1 X2 -> ∀ X3 X4, X3 = X2.alloc (.cells #[.slice (some ⟨g, 0, none⟩) (len + 1) c, .slice (some ⟨ng, 0, none⟩) xs.length nc] 81) -> X4 = X3.alloc (.cells #[.func (.func 35) #[] #[], .func (.func 36) #[] #[], .func (.func 37) #[] #[]] 83) →
   Below w.heap.size w X4 /\ (∀ X, Below X4.heap.size X4 X -> X.cell? ⟨X2.heap.size, 0, none⟩ = some (.slice (some ⟨g, 0, none⟩) (len + 1) c) /\ X.cell? ⟨X2.heap.size, 1, none⟩ = some (.slice (some ⟨ng, 0, none⟩) xs.length nc)) /\ Calls Tryz.prog 34 #[.pointer (some ⟨X2.heap.size, 0, none⟩), .slice (some ⟨X3.heap.size, 0, none⟩) 3 3] X4 (fun e w' => e = .returned (.bool (l.all okS)) /\ Below X4.heap.size X4 w') ∧
   (∀ X, Below X4.heap.size X4 X -> Calls Tryz.prog 38 #[.slice (some ⟨ng, 0, none⟩) xs.length nc] X fun e w' => ∃ r : Bool, e = .returned (.bool r) /\ (r = true ↔ RightN (namesD l gs)) /\ Below X.heap.size X w') ∧
   (∀ X, Below X4.heap.size X4 X -> Calls Tryz.prog 39 #[.pointer (some ⟨X2.heap.size, 0, none⟩), .string whole] X fun e w' => e = .returned (.int .i64 (firstE (whole :: l.map (·.expr)) (namesD l gs))) /\ Below w.heap.size w w' /\ (firstE (whole :: l.map (·.expr)) (namesD l gs) = 0 -> MadeS w' X2.heap.size whole l gs))) := by
  intro X1 X2 g c ng nc xs hown hB1 hnm hxn hB2 X3 X4 hX3 hX4
  have hxl : xs.length = (namesD l gs).length := by rw [<- hxn, List.length_map]
  have hkl : (bareK zeroS :: l.map bareK).length = len + 1 := by rw [List.length_cons, List.length_map]; omega
  have hB12 : Below w.heap.size w X2 := hB1.trans (hB2.mono hB1.size)
  have hB23 : Below X2.heap.size X2 X3 := by rw [hX3]; exact (Below.refl _ _).alloc (Nat.le_refl _) _
  have hB34 : Below X3.heap.size X3 X4 := by rw [hX4]; exact (Below.refl _ _).alloc (Nat.le_refl _) _
  have m3 : X3.heap[X2.heap.size]? = some (.cells #[.slice (some ⟨g, 0, none⟩) (len + 1) c, .slice (some ⟨ng, 0, none⟩) xs.length nc] 81 (0, 0)) := by rw [hX3]; exact World.alloc_heap_new X2 _
  have hlt3 : X2.heap.size < X3.heap.size := (Array.getElem?_eq_some_iff.1 m3).1
  have m4 : X4.heap[X2.heap.size]? = some (.cells #[.slice (some ⟨g, 0, none⟩) (len + 1) c, .slice (some ⟨ng, 0, none⟩) xs.length nc] 81 (0, 0)) := (hB34.block _ hlt3).trans m3
  have f4 : X4.heap[X3.heap.size]? = some (.cells #[.func (.func 35) #[] #[], .func (.func 36) #[] #[], .func (.func 37) #[] #[]] 83 (0, 0)) := by rw [hX4]; exact World.alloc_heap_new X3 _
  have hB24 : Below X2.heap.size X2 X4 := hB23.trans (hB34.mono hB23.size)
  have hB14 : Below X1.heap.size X1 X4 := hB2.trans (hB24.mono hB2.size)
  have hB4 : Below w.heap.size w X4 := hB12.trans (hB24.mono hB12.size)
  have hlt4 : X2.heap.size < X4.heap.size := (Array.getElem?_eq_some_iff.1 m4).1
  have hown4 : X4.ownsRow w.heap.size 106 10 (.slice (some ⟨g, 0, none⟩) (len + 1) c) (bareK zeroS :: l.map bareK).length (flatK (bareK zeroS :: l.map bareK)) := owns_same hown fun k hk => hB14.block k (owns_lt hown hk).1
  have hnm4 : Nms w.heap.size X4 (.slice (some ⟨ng, 0, none⟩) xs.length nc) xs := (hnm.below hB24).base hB1.size
  refine ⟨hB4, fun X hX => ?_, ?_, fun X hX => ?_, fun X hX => ?_⟩
  ·have hc := fun j => cell_of_row X X2.heap.size j _ _ _ ((hX.block _ hlt4).trans m4)
   exact ⟨hc 0, hc 1⟩
  ·have := everytype_calls X2.heap.size g c X3.heap.size (.slice (some ⟨ng, 0, none⟩) xs.length nc) (bareK zeroS :: l.map bareK) X4 (by rw [hkl]; exact m4) (kinds_at hown4) f4 (by omega)
   rw [all_bare] at this
   exact this
  ·have hgr := (hnm4.below hX).groups rfl (by omega)
   rw [hxn] at hgr
   have hcap : xs.length <= nc /\ nc <= maxLen := by
    rcases hnm4.row.2 with ⟨e, _⟩ | ⟨g', cap, cur, e, _, _, h1, h2, _⟩
    ·cases e
    ·injection e with _ _ e3
     subst e3
     exact ⟨h1, h2⟩
   exact rightnames_calls ng nc xs.length (namesD l gs) X hgr (by omega) hcap.1 (by have := hcap.2; unfold maxLen at this; omega) hsz
  ·have hBX : Below w.heap.size w X := hB4.trans (hX.mono hB4.size)
   have hR : RdI w.heap.size X X2.heap.size g c ng nc xs (whole :: l.map (·.expr)) (zeroS :: l) X (bareK zeroS :: l.map bareK) 0 := by
    refine ⟨by rw [hkl]; exact (hX.block _ hlt4).trans m4, ?_, hnm4.below hX, ?_, fun j x s hj => by omega, fun j s hj => by omega, ⟨rfl, rfl, rfl, Nat.le_refl _, fun _ _ _ => rfl⟩, hE.below hBX⟩
    ·have := owns_same hown4 (w' := X) fun k hk => hX.block k (owns_lt hown4 hk).1
     rw [hkl] at this ⊢
     exact this
    ·rw [List.map_cons, List.map_map]
     show zeroS :: l.map _ = zeroS :: l
     congr 1
     exact List.map_id' l
   have het : 0 < w.heap.size := hE.lt
   refine (readall_calls w.heap.size X2.heap.size g c ng nc xs whole (whole :: l.map (·.expr)) (zeroS :: l) X (bareK zeroS :: l.map bareK) hR het rfl (bare_expr l whole) (by simp) (fun s hs => ?_) (by omega) (by omega)).mono ?_
   ·rcases List.mem_cons.1 hs with rfl | hs
    ·exact hw
    ·obtain ⟨q, hq, rfl⟩ := List.mem_map.1 hs
     exact (hls q hq).2
   ·rintro e w' ⟨rfl, hgr, hz⟩
    rw [hxn] at hz ⊢
    refine ⟨rfl, hBX.grown hgr hBX.size (fun k e => by injection e with e; subst e; exact owned_base hown (g := g) rfl), fun h0 => ?_⟩
    obtain ⟨ks', hk', hI⟩ := hz h0
    rw [<- hk'] at hI
    exact hI.made hxn (by omega) (by omega)
 generalize hnew : newE whole l gs = NE at *
 have HNE := Hid.mk_ hnE
 clear hl hG hls hgs hE hsz hnl hnE hnew
 go_enter Tryz.func19, Tryz.ntmps19
 go_wp2_with fail
 refine HKO.out.mono ?_
 rintro e X1 ⟨g, c, rfl, hown, hB1⟩
 have HX1 : Hid (X1.ownsRow w.heap.size 106 10 (.slice (some ⟨g, 0, none⟩) (len + 1) c) (bareK zeroS :: l.map bareK).length (flatK (bareK zeroS :: l.map bareK)) /\ Below w.heap.size w X1) := ⟨hown, hB1⟩
 have HN1 := HNO.out X1 hB1
 clear hown hB1 HKO HNO
 go_wp2_with fail
 refine HN1.mono ?_
 rintro e X2 ⟨ng, nc, xs, rfl, hnm, hxn, hB2⟩
 obtain ⟨hB4, hcells, hev, hrn, hra⟩ := HALL.out X1 X2 g c ng nc xs HX1.out.1 HX1.out.2 hnm hxn hB2 _ _ rfl rfl
 have HB4 := Hid.mk_ hB4
 have HCE := Hid.mk_ hcells
 have HRN := Hid.mk_ hrn
 have HRA := Hid.mk_ hra
 obtain ⟨ca, hca⟩ : ∃ r, r = l.all okS := ⟨_, rfl⟩
 rw [<- hca] at hev HNE
 clear hnm hxn hB2 HALL HN1 HX1 hB4 hcells hrn hra hca
 rw [World.size_alloc] at hev
 go_wp2_with fail
 refine hev.mono ?_
 rintro e X5 ⟨rfl, hB5⟩
 have HB5 : Hid (Below w.heap.size w X5) := HB4.out.trans (hB5.mono HB4.out.size)
 have HBX5 := Hid.mk_ hB5
 obtain ⟨k0, k1⟩ := HCE.out X5 hB5
 have HRN5 := HRN.out X5 hB5
 clear hB5 hev
 cases ca with
 | false =>
  have HN : Hid (NE = 1) := by
   show NE = 1
   rw [HNE.out, if_neg (by simp)]
  clear HRN5
  go_wp2
  go_ret2
  exact ⟨HB5.out, .inl ⟨by rw [HN.out]; decide, by rw [HN.out]; rfl⟩⟩
 | true =>
  go_wp2_with fail
  refine HRN5.mono ?_
  rintro e X6 ⟨r, rfl, hr, hB6⟩
  have hB46 := HBX5.out.trans (hB6.mono HBX5.out.size)
  have HB6 : Hid (Below w.heap.size w X6) := HB4.out.trans (hB46.mono HB4.out.size)
  have HRA6 := HRA.out X6 hB46
  have HR := Hid.mk_ hr
  clear hB6 hB46 hr HRN5 HRN HRA
  cases r with
  | false =>
   have HN : Hid (NE = 1) := by
    show NE = 1
    rw [HNE.out, if_neg (fun h => by cases HR.out.2 h.2)]
   clear HRA6
   go_wp2
   go_ret2
   exact ⟨HB6.out, .inl ⟨by rw [HN.out]; decide, by rw [HN.out]; rfl⟩⟩
  | true =>
   have hN : NE = firstE (whole :: l.map (·.expr)) (namesD l gs) := by
    rw [HNE.out, if_pos ⟨rfl, HR.out.1 (by first | rfl | trivial)⟩]
   rw [<- hN] at HRA6
   clear HNE hN HR
   go_wp2_with fail
   refine HRA6.mono ?_
   rintro e X7 ⟨rfl, hB7, hmade⟩
   have HE : Hid (Below w.heap.size w X7 /\ (NE = 0 -> MadeS X7 X2.heap.size whole l gs)) := ⟨hB7, hmade⟩
   clear hB7 hmade HRA6
   by_cases hz : NE = 0
   ·subst hz
    have hb0 : ((0 : Int) != 0) = false := rfl
    go_wp2
    go_ret2
    first | exact ⟨HE.out.1, .inr ⟨rfl, X2.heap.size, rfl, HE.out.2 rfl⟩⟩ | exact ⟨HE.out.1, X2.heap.size, rfl, HE.out.2 (by first | rfl | trivial)⟩
   ·have e0 : (NE == 0) = false := by simpa using hz
    have e1 : (NE != 0) = true := by simp [bne, e0]
    go_wp2
    go_ret2
    exact ⟨HE.out.1, .inl ⟨hz, rfl⟩⟩
end Go.Proofs.YtbkpehfaofhmaaaGreatDoor
