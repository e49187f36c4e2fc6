/-
  PROVED HERE: what the texts DBReadA, DBIsNm say (each has its own words below).
-/
import Derived.Test.YtbkpehfaofhmaaaGreatDoorCB3
import Derived.Test.YtbkpehfaofhmaaaGreatDoorCB24
import Derived.Test.YtbkpehfaofhmaaaGreatDoorCB7
import Derived.Laws.RangeString
/- DBReadA: schema's readAll: the trees of the whole and of each type; the first error. -/
namespace Go.Proofs.YtbkpehfaofhmaaaGreatDoor
open Go.RowKit
def firstE : List ByteArray -> List Grp -> Int
 | [], _ => 0
 | s :: r, gs => if readE s gs ≠ 0 then readE s gs else firstE r gs
theorem firstE_at : ∀ (ss : List ByteArray) (gs : List Grp) (i : Nat) (s : ByteArray), ss[i]? = some s -> (∀ (j : Nat) (q : ByteArray), j < i -> ss[j]? = some q -> readE q gs = 0) -> readE s gs ≠ 0 -> firstE ss gs = readE s gs := by
 intro ss gs
 induction ss with
 | nil => intro i s h; simp at h
 | cons x r ih =>
  intro i s h hz hne
  cases i with
  | zero =>
   simp only [List.getElem?_cons_zero, Option.some.injEq] at h
   subst h
   rw [firstE, if_pos hne]
  | succ i =>
   rw [List.getElem?_cons_succ] at h
   rw [firstE, if_neg (by rw [hz 0 x (by omega) rfl]; simp)]
   exact ih i s h (fun j q hj hq => hz (j + 1) q (by omega) (by rw [List.getElem?_cons_succ]; exact hq)) hne
theorem firstE_zero : ∀ (ss : List ByteArray) (gs : List Grp), (∀ (j : Nat) (q : ByteArray), ss[j]? = some q -> readE q gs = 0) -> firstE ss gs = 0 := by
 intro ss gs
 induction ss with
 | nil => intro _; rfl
 | cons x r ih =>
  intro hz
  rw [firstE, if_neg (by rw [hz 0 x rfl]; simp)]
  exact ih (fun j q hq => hz (j + 1) q (by rw [List.getElem?_cons_succ]; exact hq))
structure RdI (base : Nat) (w0 : World) (B g c ng nc : Nat) (xs : List GrpD) (ss : List ByteArray) (sp : List SpecD) (wr : World) (ks : List KindD) (m : Nat) : Prop where
 sch : wr.heap[B]? = some (.cells #[.slice (some ⟨g, 0, none⟩) ks.length c, .slice (some ⟨ng, 0, none⟩) xs.length nc] 81 (0, 0))
 row : wr.ownsRow base 106 10 (.slice (some ⟨g, 0, none⟩) ks.length c) ks.length (flatK ks)
 nms : Nms base wr (.slice (some ⟨ng, 0, none⟩) xs.length nc) xs
 spec : ks.map (·.1) = sp
 tree : ∀ (j : Nat) (x : KindD) (s : ByteArray), j < m -> ks[j]? = some x -> ss[j]? = some s -> ExA (fun b => b ≠ g) wr 200 (outTree s) (rawV x.2)
 zero : ∀ (j : Nat) (s : ByteArray), j < m -> ss[j]? = some s -> readE s (xs.map plainG) = 0
 grown : w0.grownBy wr (some g)
 ety : ETy wr
theorem RdI.cells {base : Nat} {w0 : World} {B g c ng nc : Nat} {xs : List GrpD} {ss : List ByteArray} {sp : List SpecD} {wr : World} {ks : List KindD} {m : Nat} (h : RdI base w0 B g c ng nc xs ss sp wr ks m) : wr.cell? ⟨B, 0, none⟩ = some (.slice (some ⟨g, 0, none⟩) ks.length c) /\ wr.cell? ⟨B, 1, none⟩ = some (.slice (some ⟨ng, 0, none⟩) xs.length nc) := by
 have hc := fun j => cell_of_row wr B j _ _ _ h.sch
 exact ⟨hc 0, hc 1⟩
theorem RdI.expr {base : Nat} {w0 : World} {B g c ng nc : Nat} {xs : List GrpD} {ss : List ByteArray} {sp : List SpecD} {wr : World} {ks : List KindD} {m : Nat} (h : RdI base w0 B g c ng nc xs ss sp wr ks m) {i : Nat} {x : KindD} (hx : ks[i]? = some x) : wr.cell? ⟨g, i * 10 + 1, none⟩ = some (.string x.1.expr) := ((kinds_at h.row).2 i x hx).2.1
theorem RdI.next {base : Nat} {w0 : World} {B g c ng nc : Nat} {xs : List GrpD} {ss : List ByteArray} {sp : List SpecD} {wr Y : World} {ks : List KindD} {m : Nat} (h : RdI base w0 B g c ng nc xs ss sp wr ks m) {x : KindD} {s : ByteArray} (hx : ks[m]? = some x) (hs : ss[m]? = some s) (hz : readE s (xs.map plainG) = 0) (hg : wr.grownBy Y (some g)) {r : Raw} (hr : Y.ownsRow base 106 10 (.slice (some ⟨g, 0, none⟩) ks.length c) ks.length (flatK (ks.set m (x.1, r.1, r.2.1, r.2.2.1, r.2.2.2.1, r.2.2.2.2)))) (hX : ExA (fun b => wr.heap.size <= b) Y 200 (outTree s) (rawV r)) (he : ETy Y) :
  RdI base w0 B g c ng nc xs ss sp Y (ks.set m (x.1, r.1, r.2.1, r.2.2.1, r.2.2.2.1, r.2.2.2.2)) (m + 1) := by
 obtain ⟨hgl, cur, hcur⟩ := owns_lt h.row (g := g) rfl
 have hBg : some B ≠ some g := fun e => by
  injection e with e
  subst e
  have := h.sch
  rw [hcur] at this
  injection this with this
  injection this with _ t2 _
  exact absurd t2 (by decide)
 refine ⟨?_, by rw [List.length_set]; exact hr, h.nms.grown hg hcur, ?_, ?_, ?_, grown_trans h.grown hg, he⟩
 ·rw [List.length_set]
  exact (hg.block B (Array.getElem?_eq_some_iff.1 h.sch).1 hBg).trans h.sch
 ·rw [List.map_set, h.spec]
  have e : sp[m]? = some x.1 := by rw [<- h.spec, List.getElem?_map, hx]; rfl
  refine List.ext_getElem? fun q => ?_
  rw [List.getElem?_set]
  split
  ·rename_i e'
   subst e'
   rw [if_pos (List.getElem?_eq_some_iff.1 e).1, e]
  ·rfl
 ·intro j y q hj hy hq
  by_cases e : j = m
  ·subst e
   rw [List.getElem?_set, if_pos rfl, if_pos (List.getElem?_eq_some_iff.1 hx).1] at hy
   cases hy
   rw [hs] at hq
   cases hq
   exact ExA.mono (fun b _ hb => by omega) hX
  ·rw [List.getElem?_set, if_neg (fun e' => e e'.symm)] at hy
   exact ExA.kept hg.size (fun b hb hA => ⟨hA, hg.block b hb (fun e' => hA (by injection e'))⟩) _ _ _ (h.tree j y q (by omega) hy hq)
 ·intro j q hj hq
  by_cases e : j = m
  ·subst e
   rw [hs] at hq
   cases hq
   exact hz
  ·exact h.zero j q (by omega) hq
theorem ETy.grown {w w' : World} {g : Nat} (h : ETy w) (hg : w.grownBy w' (some g)) (hne : 0 ≠ g) : ETy w' := by
 have hl := h.lt
 unfold ETy at h ⊢
 exact (World.cell?_of_block (hg.block 0 hl (by intro e; injection e with e; exact hne e))).trans h
def RdQ (base : Nat) (w0 : World) (B g c ng nc : Nat) (xs : List GrpD) (ss : List ByteArray) (sp : List SpecD) (n : Nat) (Y : World) (f : Int) (m : Nat) : Prop := w0.grownBy Y (some g) /\ Y.cell? ⟨B, 0, none⟩ = some (.slice (some ⟨g, 0, none⟩) n c) /\ ((f = 0 /\ ∃ ks, ks.length = n /\ RdI base w0 B g c ng nc xs ss sp Y ks m) \/ (f ≠ 0 /\ firstE ss (xs.map plainG) = f))
theorem RdI.post {base : Nat} {w0 : World} {B g c ng nc : Nat} {xs : List GrpD} {ss : List ByteArray} {sp : List SpecD} {wr : World} {ks : List KindD} {m : Nat} (h : RdI base w0 B g c ng nc xs ss sp wr ks m) (hbase : 0 < base) {x : KindD} {s : ByteArray} (hx : ks[m]? = some x) (hs : ss[m]? = some s) {q : Nat} {y : KindD} (hy : ks[q]? = some y) {X : World} (hBX : Below wr.heap.size wr X) :
  ∀ (e : Ending) (Y : World), (e = .returned (.int .i64 (readE s (xs.map plainG))) /\ X.grownBy Y (some g) /\ ∃ ks' : List KindD, ks'.map (·.1) = ks.map (·.1) /\ Y.ownsRow base 106 10 (.slice (some ⟨g, 0, none⟩) ks.length c) ks.length (flatK ks') /\ (readE s (xs.map plainG) = 0 -> ∃ r : Raw, ks' = ks.set m (x.1, r.1, r.2.1, r.2.2.1, r.2.2.2.1, r.2.2.2.2) /\ ExA (fun b => X.heap.size <= b) Y 200 (outTree s) (rawV r))) -> e = .returned (.int .i64 (readE s (xs.map plainG))) /\ (Y.cell? ⟨B, 0, none⟩ = some (.slice (some ⟨g, 0, none⟩) ks.length c) /\ Y.cell? ⟨B, 1, none⟩ = some (.slice (some ⟨ng, 0, none⟩) xs.length nc) /\ Y.cell? ⟨g, q * 10 + 1, none⟩ = some (.string y.1.expr)) /\ RdQ base w0 B g c ng nc xs ss sp ks.length Y (readE s (xs.map plainG)) (m + 1) := by
 rintro e Y ⟨rfl, hg0, ks', hsp, hrow, hr⟩
 have hg : wr.grownBy Y (some g) := grown_trans (grown_below hBX) hg0
 obtain ⟨hgl, cur, hcur⟩ := owns_lt h.row (g := g) rfl
 have hgb := owned_base h.row (g := g) rfl
 have hBg : some B ≠ some g := fun e => by
  injection e with e
  subst e
  have := h.sch
  rw [hcur] at this
  injection this with this
  injection this with _ t2 _
  exact absurd t2 (by decide)
 have hsY := (hg.block B (Array.getElem?_eq_some_iff.1 h.sch).1 hBg).trans h.sch
 have hc := fun j => cell_of_row Y B j _ _ _ hsY
 have hce : Y.cell? ⟨g, q * 10 + 1, none⟩ = some (.string y.1.expr) := by
  have hl : ks'.length = ks.length := by have := congrArg List.length hsp; rw [List.length_map, List.length_map] at this; exact this
  have e1 : (ks'.map (·.1))[q]? = (ks.map (·.1))[q]? := by rw [hsp]
  obtain ⟨z, hz⟩ : ∃ z, ks'[q]? = some z := ⟨_, List.getElem?_eq_getElem (by have := (List.getElem?_eq_some_iff.1 hy).1; omega)⟩
  rw [List.getElem?_map, List.getElem?_map, hz, hy] at e1
  have e2 : z.1 = y.1 := by simpa using e1
  rw [<- hl] at hrow
  rw [<- e2]
  exact ((kinds_at hrow).2 q z hz).2.1
 refine ⟨rfl, ⟨hc 0, hc 1, hce⟩, grown_trans h.grown hg, hc 0, ?_⟩
 by_cases hz : readE s (xs.map plainG) = 0
 ·obtain ⟨r, r1, r2⟩ := hr hz
  rw [r1] at hrow
  exact .inl ⟨hz, _, by rw [List.length_set], h.next hx hs hz hg hrow (ExA.mono (fun b _ hb => Nat.le_trans hBX.size hb) r2) (h.ety.grown hg (by omega))⟩
 ·exact .inr ⟨hz, firstE_at ss _ m s hs (fun j q hj hq => h.zero j q hj hq) hz⟩
theorem RdI.below {base : Nat} {w0 : World} {B g c ng nc : Nat} {xs : List GrpD} {ss : List ByteArray} {sp : List SpecD} {wr X : World} {ks : List KindD} {m : Nat} (h : RdI base w0 B g c ng nc xs ss sp wr ks m) (hB : Below wr.heap.size wr X) : RdI base w0 B g c ng nc xs ss sp X ks m :=
 ⟨(hB.block B (Array.getElem?_eq_some_iff.1 h.sch).1).trans h.sch, owns_same h.row fun k hk => hB.block k (owns_lt h.row hk).1, h.nms.below hB, h.spec, fun j x s h1 h2 h3 => ExA.kept hB.size (fun b hb hA => ⟨hA, hB.block b hb⟩) _ _ _ (h.tree j x s h1 h2 h3), h.zero, grown_trans h.grown (grown_below hB), h.ety.below hB⟩
set_option maxRecDepth 100000 in
set_option maxHeartbeats 800000 in
theorem readall_calls (base B g c ng nc : Nat) (xs : List GrpD) (whole : ByteArray) (ss : List ByteArray) (sp : List SpecD) (w : World) (ks : List KindD) (h : RdI base w B g c ng nc xs ss sp w ks 0) (hbase : 0 < base) (h0 : ss[0]? = some whole) (hss : ∀ (j : Nat) (x : KindD), 1 <= j -> ks[j]? = some x -> ss[j]? = some x.1.expr) (hsl : ss.length = ks.length) (hsz : ∀ s ∈ ss, s.size <= 9223372036854775807) (hlen : ks.length <= 1000) (hxl : xs.length <= 1000) :
  Calls Tryz.prog 39 #[.pointer (some ⟨B, 0, none⟩), .string whole] w fun e w' => e = .returned (.int .i64 (firstE ss (xs.map plainG))) /\ w.grownBy w' (some g) /\ (firstE ss (xs.map plainG) = 0 -> ∃ ks', ks'.length = ks.length /\ RdI base w B g c ng nc xs ss sp w' ks' ks.length) := by
 have hpos : 0 < ks.length := by have := (List.getElem?_eq_some_iff.1 h0).1; omega
 obtain ⟨x0, hx0⟩ : ∃ x, ks[0]? = some x := ⟨_, List.getElem?_eq_getElem hpos⟩
 have HSP : Hid (∀ (ks' : List KindD) (Y : World) (m : Nat), RdI base w B g c ng nc xs ss sp Y ks' m -> ks'.length = ks.length -> ∀ (j : Nat) (x : KindD), 1 <= j -> ks'[j]? = some x -> ss[j]? = some x.1.expr) := fun ks' Y m h' hl j x h1 hx => by
  obtain ⟨y, hy⟩ : ∃ y, ks[j]? = some y := ⟨_, List.getElem?_eq_getElem (by have := (List.getElem?_eq_some_iff.1 hx).1; omega)⟩
  have e1 : (ks'.map (·.1))[j]? = (ks.map (·.1))[j]? := by rw [h'.spec, h.spec]
  rw [List.getElem?_map, List.getElem?_map, hx, hy] at e1
  have e2 : x.1 = y.1 := by simpa using e1
  rw [e2]
  exact hss j y h1 hy
 have HSZ : Hid (∀ (j : Nat) (s : ByteArray), ss[j]? = some s -> s.size <= 9223372036854775807) := fun j s hs => hsz s (List.mem_of_getElem? hs)
 have HB : Hid (0 < base) := hbase
 have HXL : Hid (xs.length <= 1000) := hxl
 have HSL : Hid (ss.length = ks.length) := hsl
 have HFZ : Hid (∀ (Y : World) (ks' : List KindD), RdI base w B g c ng nc xs ss sp Y ks' ks.length -> firstE ss (xs.map plainG) = 0) := fun Y ks' h' => firstE_zero ss _ (fun j q hq => h'.zero j q (by have := (List.getElem?_eq_some_iff.1 hq).1; omega) hq)
 have hBd : Below w.heap.size w w.drew := (Below.refl _ _).drew
 have HRD := Hid.mk_ (kread_calls base base g c 0 ks x0 whole w.drew ng nc xs (h.below hBd).row hx0 (h.below hBd).nms hxl (hsz _ (List.mem_of_getElem? h0)) (h.below hBd).ety)
 have HPOST : Hid (∀ (e : Ending) (Y : World), _ -> e = .returned (.int .i64 (readE whole (xs.map plainG))) /\ (Y.cell? ⟨B, 0, none⟩ = some (.slice (some ⟨g, 0, none⟩) ks.length c) /\ Y.cell? ⟨B, 1, none⟩ = some (.slice (some ⟨ng, 0, none⟩) xs.length nc) /\ True) /\ RdQ base w B g c ng nc xs ss sp ks.length Y (readE whole (xs.map plainG)) 1) := fun e Y hp => by
  obtain ⟨r1, r2, r3⟩ := h.post hbase hx0 h0 hx0 hBd e Y hp
  exact ⟨r1, ⟨r2.1, r2.2.1, trivial⟩, r3⟩
 have hcs := h.cells
 have hli : (ks.length : Int) <= 1000 := by omega
 have hpi : (0 : Int) < (ks.length : Int) := by omega
 obtain ⟨f0, hf0⟩ : ∃ f0, f0 = readE whole (xs.map plainG) := ⟨_, rfl⟩
 rw [Nat.zero_mul, <- hf0] at HRD
 rw [<- hf0] at HPOST
 clear h hss hsl hsz hbase hxl h0 hx0 hf0 hBd
 go_enter Tryz.func39, Tryz.ntmps39
 go_wp2_with fail
 refine wp_region_held_drew (S := fun X => X.cell? ⟨B, 0, none⟩ = some (.slice (some ⟨g, 0, none⟩) ks.length c) /\ X.cell? ⟨B, 1, none⟩ = some (.slice (some ⟨ng, 0, none⟩) xs.length nc) /\ True) hmx ⟨hcs.1, hcs.2, trivial⟩ (fun hS => ?_)
 refine takeF 0 (some 7) (v := ?_) hS ?_ ?_
 rotate_left
 ·intro w hSw
  try go_simp
  with_reducible rfl
 try simp only [lay4]
 refine takeF 1 (some 8) (v := ?_) hS ?_ ?_
 rotate_left
 ·intro w hSw
  go_simp
  with_reducible rfl
 try simp only [lay4]
 refine takeF 2 (some 9) (v := ?_) hS ?_ ?_
 rotate_left
 ·intro w hSw
  go_simp
  with_reducible rfl
 try simp only [lay4]
 refine takeF 3 (some 10) (v := ?_) hS ?_ ?_
 rotate_left
 ·intro w hSw
  obtain ⟨k0, k1, k2⟩ := hSw
  go_simp
  with_reducible rfl
 try simp only [lay4]
 refine takeF 4 (some 11) (v := ?_) hS ?_ ?_
 rotate_left
 ·intro w hSw
  go_simp
  with_reducible rfl
 try simp only [lay4]
 refine takeF 5 (some 12) (v := ?_) hS ?_ ?_
 rotate_left
 ·intro w hSw
  try go_simp
  with_reducible rfl
 try simp only [lay4]
 refine takeF 6 (some 13) (v := ?_) hS ?_ ?_
 rotate_left
 ·intro w hSw
  try go_simp
  with_reducible rfl
 try simp only [lay4]
 refine takeF 7 (some 14) (v := ?_) hS ?_ ?_
 rotate_left
 ·intro w hSw
  go_simp
  with_reducible rfl
 try simp only [lay4]
 refine takeF 8 (some 15) (v := ?_) hS ?_ ?_
 rotate_left
 ·intro w hSw
  go_simp
  with_reducible rfl
 try simp only [lay4]
 refine takeF 9 (some 16) (v := ?_) hS ?_ ?_
 rotate_left
 ·intro w hSw
  obtain ⟨k0, k1, k2⟩ := hSw
  go_simp
  with_reducible rfl
 try simp only [lay4]
 refine callD 10 (by kernel_rfl) rfl (fun K hK => ?_)
 rw [if_pos (by rfl)]
 go_simp
 refine HRD.out.mono ?_
 rintro e Y hpost
 obtain ⟨rfl, hSY, hpost⟩ := HPOST.out e Y hpost
 have HQ := Hid.mk_ hpost
 clear hpost
 refine hK.out _ _ hSY (fun _ => ?_)
 clear hK K
 try simp only [lay4]
 refine takeF 11 (some 5) (v := ?_) hSY ?_ ?_
 rotate_left
 ·intro w hSw
  try go_simp
  with_reducible rfl
 try simp only [lay4]
 refine wpAnyH_done (by kernel_rfl) ?_ _
 go_wp2
 clear HRD HPOST hcs hSY hS
 go_loopg [5, 6] (ks.length + 1) (fun gk u v wr => ∃ (i : Nat) (f : Int), 1 <= i /\ ks.length < i + gk /\ u = .int .i64 f /\ v = .int .i64 (i : Int) /\ i <= ks.length /\ RdQ base w B g c ng nc xs ss sp ks.length wr f i)
 case atStart => exact ⟨1, f0, by omega, by omega, rfl, rfl, by omega, HQ.out⟩
 case round =>
  obtain ⟨i, f, hi1, hgk, rfl, rfl, hin, hq⟩ := hrel
  clear HQ
  obtain ⟨hgr, hcb, hq⟩ := hq
  by_cases hlt : i < ks.length
  ·have hdi : decide ((i : Int) < (ks.length : Int)) = true := by simp; omega
   have hii : (i : Int) < (ks.length : Int) := by omega
   have hi0 : (0 : Int) <= (i : Int) := by omega
   rcases hq with ⟨rfl, ks1, hl1, hI⟩ | ⟨hf, hfe⟩
   ·have hf0 : ((0 : Int) == 0) = true := rfl
    obtain ⟨x, hx⟩ : ∃ x, ks1[i]? = some x := ⟨_, List.getElem?_eq_getElem (by omega)⟩
    have hs := HSP.out ks1 wr i hI hl1 i x hi1 hx
    have hBd : Below wr.heap.size wr wr.drew := (Below.refl _ _).drew
    have HRD := Hid.mk_ (kread_calls base base g c i ks1 x x.1.expr wr.drew ng nc xs (hI.below hBd).row hx (hI.below hBd).nms HXL.out (HSZ.out i _ hs) (hI.below hBd).ety)
    have HPOST : Hid (∀ (e : Ending) (Y : World), _ -> e = .returned (.int .i64 (readE x.1.expr (xs.map plainG))) /\ (Y.cell? ⟨B, 0, none⟩ = some (.slice (some ⟨g, 0, none⟩) ks.length c) /\ Y.cell? ⟨B, 1, none⟩ = some (.slice (some ⟨ng, 0, none⟩) xs.length nc) /\ Y.cell? ⟨g, i * 10 + 1, none⟩ = some (.string x.1.expr)) /\ RdQ base w B g c ng nc xs ss sp ks.length Y (readE x.1.expr (xs.map plainG)) (i + 1)) := fun e Y hp => by
     obtain ⟨r1, r2, r3⟩ := hI.post HB.out hx hs hx hBd e Y hp
     rw [hl1] at r2 r3
     exact ⟨r1, r2, r3⟩
    have hcs := hI.cells
    have hce := hI.expr hx
    rw [hl1] at hcs HRD
    rw [hl1] at HPOST
    obtain ⟨f1, hf1⟩ : ∃ f1, f1 = readE x.1.expr (xs.map plainG) := ⟨_, rfl⟩
    rw [<- hf1] at HRD HPOST
    obtain ⟨ex, hex⟩ : ∃ ex, ex = x.1.expr := ⟨_, rfl⟩
    rw [<- hex] at HRD HPOST hce
    clear hI hx hs hf1 hex hBd hgr hcb
    obtain ⟨k0, k1⟩ := hcs
    go_wp2_with fail
    refine wp_region_held_drew (S := fun X => X.cell? ⟨B, 0, none⟩ = some (.slice (some ⟨g, 0, none⟩) ks.length c) /\ X.cell? ⟨B, 1, none⟩ = some (.slice (some ⟨ng, 0, none⟩) xs.length nc) /\ X.cell? ⟨g, i * 10 + 1, none⟩ = some (.string ex)) hmx ⟨k0, k1, hce⟩ (fun hS => ?_)
    refine takeF 0 (some 31) (v := ?_) hS ?_ ?_
    rotate_left
    ·intro w hSw
     try go_simp
     with_reducible rfl
    try simp only [lay4]
    refine takeF 1 (some 32) (v := ?_) hS ?_ ?_
    rotate_left
    ·intro w hSw
     go_simp
     with_reducible rfl
    try simp only [lay4]
    refine takeF 2 (some 33) (v := ?_) hS ?_ ?_
    rotate_left
    ·intro w hSw
     go_simp
     with_reducible rfl
    try simp only [lay4]
    refine takeF 3 (some 34) (v := ?_) hS ?_ ?_
    rotate_left
    ·intro w hSw
     obtain ⟨k0, k1, k2⟩ := hSw
     go_simp
     with_reducible rfl
    try simp only [lay4]
    refine takeF 4 (some 35) (v := ?_) hS ?_ ?_
    rotate_left
    ·intro w hSw
     try go_simp
     with_reducible rfl
    try simp only [lay4]
    refine takeF 5 (some 36) (v := ?_) hS ?_ ?_
    rotate_left
    ·intro w hSw
     go_simp
     with_reducible rfl
    try simp only [lay4]
    refine takeF 6 (some 37) (v := ?_) hS ?_ ?_
    rotate_left
    ·intro w hSw
     try go_simp
     with_reducible rfl
    try simp only [lay4]
    refine takeF 7 (some 38) (v := ?_) hS ?_ ?_
    rotate_left
    ·intro w hSw
     go_simp
     with_reducible rfl
    try simp only [lay4]
    refine takeF 8 (some 39) (v := ?_) hS ?_ ?_
    rotate_left
    ·intro w hSw
     go_simp
     with_reducible rfl
    try simp only [lay4]
    refine takeF 9 (some 40) (v := ?_) hS ?_ ?_
    rotate_left
    ·intro w hSw
     obtain ⟨k0, k1, k2⟩ := hSw
     go_simp
     with_reducible rfl
    try simp only [lay4]
    refine takeF 10 (some 41) (v := ?_) hS ?_ ?_
    rotate_left
    ·intro w hSw
     try go_simp
     with_reducible rfl
    try simp only [lay4]
    refine takeF 11 (some 42) (v := ?_) hS ?_ ?_
    rotate_left
    ·intro w hSw
     go_simp
     with_reducible rfl
    try simp only [lay4]
    refine takeF 12 (some 43) (v := ?_) hS ?_ ?_
    rotate_left
    ·intro w hSw
     go_simp
     with_reducible rfl
    try simp only [lay4]
    refine takeF 13 (some 44) (v := ?_) hS ?_ ?_
    rotate_left
    ·intro w hSw
     go_simp
     with_reducible rfl
    try simp only [lay4]
    refine takeF 14 (some 45) (v := ?_) hS ?_ ?_
    rotate_left
    ·intro w hSw
     obtain ⟨k0, k1, k2⟩ := hSw
     go_simp
     with_reducible rfl
    try simp only [lay4]
    refine takeF 15 (some 46) (v := ?_) hS ?_ ?_
    rotate_left
    ·intro w hSw
     try go_simp
     with_reducible rfl
    try simp only [lay4]
    refine takeF 16 (some 47) (v := ?_) hS ?_ ?_
    rotate_left
    ·intro w hSw
     go_simp
     with_reducible rfl
    try simp only [lay4]
    refine takeF 17 (some 48) (v := ?_) hS ?_ ?_
    rotate_left
    ·intro w hSw
     go_simp
     with_reducible rfl
    try simp only [lay4]
    refine takeF 18 (some 49) (v := ?_) hS ?_ ?_
    rotate_left
    ·intro w hSw
     obtain ⟨k0, k1, k2⟩ := hSw
     go_simp
     with_reducible rfl
    try simp only [lay4]
    refine callD 19 (by kernel_rfl) rfl (fun K hK => ?_)
    rw [if_pos (by rfl)]
    go_simp
    refine HRD.out.mono ?_
    rintro e Y hpost
    obtain ⟨rfl, hSY, hpost⟩ := HPOST.out e Y hpost
    have HQ := Hid.mk_ hpost
    clear hpost
    refine hK.out _ _ hSY (fun _ => ?_)
    clear hK K
    try simp only [lay4]
    refine takeF 20 (some 5) (v := ?_) hSY ?_ ?_
    rotate_left
    ·intro w hSw
     try go_simp
     with_reducible rfl
    try simp only [lay4]
    refine wpAnyH_done (by kernel_rfl) ?_ _
    go_wp2
    go_roundg (ks.length - i)
    case measure => omega
    case rel => exact ⟨i + 1, _, by omega, by omega, rfl, by first | rfl | go_num, by omega, HQ.out⟩
   ·have hf0 : (f == 0) = false := by simpa using hf
    have HE : Hid (firstE ss (xs.map plainG) = f /\ w.grownBy wr (some g)) := ⟨hfe, hgr⟩
    clear hfe hgr
    go_wp2
    go_ret
    exact ⟨by rw [HE.out.1]; rfl, HE.out.2, fun e => absurd (HE.out.1.symm.trans e) hf⟩
  ·have hie : i = ks.length := by omega
   subst hie
   have hdi : decide ((ks.length : Int) < (ks.length : Int)) = false := by simp
   have HE : Hid (firstE ss (xs.map plainG) = f /\ w.grownBy wr (some g) /\ (firstE ss (xs.map plainG) = 0 -> ∃ ks', ks'.length = ks.length /\ RdI base w B g c ng nc xs ss sp wr ks' ks.length)) := by
    rcases hq with ⟨rfl, ks1, hl1, hI⟩ | ⟨hf, hfe⟩
    ·exact ⟨HFZ.out wr ks1 hI, hgr, fun _ => ⟨ks1, hl1, hI⟩⟩
    ·exact ⟨hfe, hgr, fun e => absurd (hfe.symm.trans e) hf⟩
   clear hq hgr
   go_wp2
   go_ret
   exact ⟨by rw [HE.out.1]; rfl, HE.out.2⟩
end Go.Proofs.YtbkpehfaofhmaaaGreatDoor

/- DBIsNm: schema's isName at every text: it tells whether all is letters, and there are some. -/
namespace Go.Proofs.YtbkpehfaofhmaaaGreatDoor
open Go.RowKit
theorem decode_wide (s : ByteArray) (pos : Nat) (h : pos < s.size) (ha : ¬ (s[pos]'h).toNat < 128) : 128 <= (Utf8.decode s pos).1 /\ (Utf8.decode s pos).1 <= 2147483647 := by
 have e : s.get! (pos + 0) = s[pos]'h := by
  show s.get! pos = _
  simp [ByteArray.get!, getElem!_pos, h]
  rfl
 have hb : (s[pos]'h).toNat < 256 := UInt8.toNat_lt _
 unfold Utf8.decode
 simp only [e]
 rw [if_neg ha]
 have hr : 128 <= Utf8.runeError /\ Utf8.runeError <= 2147483647 := by decide
 split
 ·split
  ·exact ⟨by assumption, by dsimp only; omega⟩
  ·exact hr
 ·split
  ·split
   ·rename_i hc
    simp only [Bool.and_eq_true, decide_eq_true_eq] at hc
    exact ⟨by dsimp only; omega, by dsimp only; omega⟩
   ·exact hr
  ·split
   ·split
    ·rename_i hc
     simp only [Bool.and_eq_true, decide_eq_true_eq] at hc
     exact ⟨by dsimp only; omega, by dsimp only; omega⟩
    ·exact hr
   ·exact hr
theorem run_next_any {P : Program} (w : World) (s : ByteArray) (pos : Nat) (ty : TypeId) (h : pos < s.size) :
  (Instr.next (.pointer (some ⟨w.heap.size, 0, none⟩)) true ty).run P (w.iter s pos) =
   .ok (.tuple #[.bool true, .int .i64 pos, .int .i32 ((Utf8.decode s pos).1 : Int)]) (w.iter s (pos + (Utf8.decode s pos).2)) := by
 simp only [Instr.next, getObj, setObj, Sem.run_bind, Sem.run, World.iter_heap, Result.andThen, h, if_true, World.iter_set]
 simp [goInt]
theorem other_calls (c : Int) (w : World) : Calls Tryz.prog 95 #[.int .i32 c] w fun e w' => e = .returned (.bool (!lett c)) /\ w' = w := by
 by_cases h1 : c < 97
 ·have h2 : lett c = false := by unfold lett; simp; omega
  rw [h2]
  go_enter Tryz.func95, Tryz.ntmps95
  go_wp2
  go_ret
  exact ⟨by first | rfl | simp [h1], rfl⟩
 ·have hd : decide (c < 97) = false := by simpa using h1
  have h2 : (!lett c) = decide (122 < c) := by
   have h97 : decide (97 <= c) = true := by simp; omega
   unfold lett
   rw [h97, Bool.true_and, <- decide_not, decide_eq_decide]
   omega
  rw [h2]
  go_enter Tryz.func95, Tryz.ntmps95
  go_wp2
  go_ret
  exact ⟨by first | rfl | simp [h1], rfl⟩
def lettTo (s : ByteArray) (i : Nat) : Prop := ∀ (k : Nat) (h : k < s.size), k < i -> letter s[k] = true
theorem lettTo_all (s : ByteArray) (h : lettTo s s.size) : s.toList.all letter = true := by
 rw [List.all_eq_true]
 intro c hc
 obtain ⟨k, hk⟩ := List.getElem?_of_mem hc
 have hlt : k < s.size := by
  have := (List.getElem?_eq_some_iff.1 hk).1
  rw [toList_length] at this
  exact this
 rw [toList_at s k hlt] at hk
 cases hk
 exact h k hlt hlt
theorem letter_lett (c : UInt8) : lett (c.toNat : Int) = letter c := by
 unfold lett letter
 have h1 : decide ((97 : Int) <= (c.toNat : Int)) = decide (97 <= c.toNat) := by simp only [decide_eq_decide]; omega
 have h2 : decide ((c.toNat : Int) <= 122) = decide (c.toNat <= 122) := by simp only [decide_eq_decide]; omega
 rw [h1, h2]
theorem not_all (s : ByteArray) (k : Nat) (h : k < s.size) (hl : letter s[k] = false) : s.toList.all letter = false := by
 rw [List.all_eq_false]
 exact ⟨s[k], List.mem_of_getElem? (toList_at s k h), by rw [hl]; exact Bool.false_ne_true⟩
set_option maxRecDepth 100000 in
set_option maxHeartbeats 1000000 in
theorem findex_calls (s : ByteArray) (hs : s.size <= 9223372036854775807) (w : World) : Calls Tryz.prog 155 #[.string s, .func (.func 95) #[] #[], .bool true] w fun e w' => ∃ i : Int, e = .returned (.int .i64 i) /\ decide (0 <= i) = (!s.toList.all letter) /\ Below w.heap.size w w' := by
 have HB : Hid (∀ pos, Below w.heap.size w (w.iter s pos)) := fun pos => (Below.refl _ w).alloc (Nat.le_refl _) _
 have HO : Hid (∀ (c : Int) (W : World), Calls Tryz.prog 95 #[.int .i32 c] W fun e w' => e = .returned (.bool (!lett c)) /\ w' = W) := fun c W => other_calls c W
 have hrg := run_range_string (P := Tryz.prog) w 9 s Tryz.underlying9
 have hsi : (s.size : Int) <= 9223372036854775807 := by omega
 clear hs
 go_enter Tryz.func155, Tryz.ntmps155
 go_wp2
 go_loopg [7] (s.size + 1) (fun gk v wr => ∃ pos : Nat, pos <= s.size /\ s.size < pos + gk /\ wr = w.iter s pos /\ lettTo s pos)
 case atStart => exact ⟨0, Nat.zero_le _, by omega, rfl, fun k h hk => absurd hk (Nat.not_lt_zero _)⟩
 case round =>
  obtain ⟨pos, hpos, hgk, rfl, hT⟩ := hrel
  clear hrg
  by_cases hlt : pos < s.size
  ·by_cases hasc : (s[pos]'hlt).toNat < 128
   ·have hnx : ∀ ty, (Instr.next (.pointer (some ⟨w.heap.size, 0, none⟩)) true ty).run Tryz.prog (w.iter s pos) = _ := fun ty => run_next_ascii w s pos ty hlt hasc
    have HC := HO.out ((s[pos]'hlt).toNat : Int) (w.iter s (pos + 1))
    have hle := letter_lett (s[pos]'hlt)
    by_cases hl : letter (s[pos]'hlt) = true
    ·rw [hl] at hle
     have HT : Hid (lettTo s (pos + 1)) := fun k h hk => by
      by_cases e : k = pos
      ·subst e; exact hl
      ·exact hT k h (by omega)
     clear hT hl
     go_wp2_with fail
     refine HC.mono ?_
     rintro e W ⟨rfl, rfl⟩
     rw [hle]
     go_wp2
     go_roundg (s.size - pos)
     case measure => omega
     case rel => exact ⟨pos + 1, by omega, by omega, rfl, HT.out⟩
    ·have hl' : letter (s[pos]'hlt) = false := by simpa using hl
     rw [hl'] at hle
     have HF : Hid (s.toList.all letter = false) := not_all s pos hlt hl'
     clear hT hl hl'
     go_wp2_with fail
     refine HC.mono ?_
     rintro e W ⟨rfl, rfl⟩
     rw [hle]
     go_wp2
     go_ret
     exact ⟨(pos : Int), rfl, by rw [HF.out]; simp, HB.out _⟩
   ·obtain ⟨d1, d2⟩ := decode_wide s pos hlt hasc
    have hnx : ∀ ty, (Instr.next (.pointer (some ⟨w.heap.size, 0, none⟩)) true ty).run Tryz.prog (w.iter s pos) = _ := fun ty => run_next_any w s pos ty hlt
    have HC := HO.out ((Utf8.decode s pos).1 : Int) (w.iter s (pos + (Utf8.decode s pos).2))
    have hle : lett ((Utf8.decode s pos).1 : Int) = false := by unfold lett; simp; omega
    have HF : Hid (s.toList.all letter = false) := not_all s pos hlt (by unfold letter; simp; omega)
    clear hT d1 d2
    go_wp2_with fail
    refine HC.mono ?_
    rintro e W ⟨rfl, rfl⟩
    rw [hle]
    go_wp2
    go_ret
    exact ⟨(pos : Int), rfl, by rw [HF.out]; simp, HB.out _⟩
  ·obtain rfl : pos = s.size := by omega
   have hnx : ∀ ty, (Instr.next (.pointer (some ⟨w.heap.size, 0, none⟩)) true ty).run Tryz.prog (w.iter s s.size) = _ := fun ty => run_next_end w s s.size ty hlt
   have HF : Hid (s.toList.all letter = true) := lettTo_all s hT
   clear hT
   go_wp2
   go_ret
   exact ⟨-1, rfl, by rw [HF.out]; rfl, HB.out _⟩
set_option maxRecDepth 100000 in
theorem sindex_calls (s : ByteArray) (hs : s.size <= 9223372036854775807) (w : World) : Calls Tryz.prog 124 #[.string s, .func (.func 95) #[] #[]] w fun e w' => ∃ i : Int, e = .returned (.int .i64 i) /\ decide (0 <= i) = (!s.toList.all letter) /\ Below w.heap.size w w' := by
 have HF := findex_calls s hs w
 clear hs
 go_enter Tryz.func124, Tryz.ntmps124
 go_wp2_with fail
 refine HF.mono ?_
 rintro e W ⟨i, rfl, h1, h2⟩
 have HE : Hid (decide (0 <= i) = (!s.toList.all letter) /\ Below w.heap.size w W) := ⟨h1, h2⟩
 clear h1 h2 HF
 go_wp2
 go_ret
 exact ⟨i, rfl, HE.out⟩
set_option maxRecDepth 100000 in
theorem scontains_calls (s : ByteArray) (hs : s.size <= 9223372036854775807) (w : World) : Calls Tryz.prog 96 #[.string s, .func (.func 95) #[] #[]] w fun e w' => e = .returned (.bool (!s.toList.all letter)) /\ Below w.heap.size w w' := by
 have HF := sindex_calls s hs w
 clear hs
 go_enter Tryz.func96, Tryz.ntmps96
 go_wp2_with fail
 refine HF.mono ?_
 rintro e W ⟨i, rfl, h1, h2⟩
 have HE : Hid (decide (0 <= i) = (!s.toList.all letter) /\ Below w.heap.size w W) := ⟨h1, h2⟩
 clear h1 h2 HF
 go_wp2
 go_ret
 exact ⟨by rw [<- HE.out.1]; rfl, HE.out.2⟩
set_option maxRecDepth 100000 in
theorem sname_calls (s : ByteArray) (hs : s.size <= 9223372036854775807) (w : World) : Calls Tryz.prog 67 #[.string s] w fun e w' => e = .returned (.bool (letters s)) /\ Below w.heap.size w w' := by
 have HF := scontains_calls s hs w
 have HR : Hid (Below w.heap.size w w) := Below.refl _ _
 by_cases h0 : s.toList = []
 ·have HL : Hid (letters s = false) := by
   show letters s = false
   unfold letters
   rw [h0]
   rfl
  clear hs HF
  go_enter Tryz.func67, Tryz.ntmps67
  go_wp2
  go_ret
  exact ⟨by rw [HL.out]; rfl, HR.out⟩
 ·have HL : Hid (letters s = s.toList.all letter) := by
   show letters s = s.toList.all letter
   unfold letters
   rw [List.isEmpty_eq_false_iff.2 h0, Bool.not_false, Bool.and_true]
  clear hs
  go_enter Tryz.func67, Tryz.ntmps67
  go_wp2_with fail
  refine HF.mono ?_
  rintro e W ⟨rfl, h2⟩
  have HE : Hid (Below w.heap.size w W) := h2
  clear h2 HF
  go_wp2
  go_ret
  exact ⟨by rw [HL.out]; first | rfl | (simp [h0]), HE.out⟩
end Go.Proofs.YtbkpehfaofhmaaaGreatDoor
