/-
  PROVED HERE: write at every right tree: its text is written, nothing else that lay before is turned.
-/
import Derived.Test.YtafidabopcgkhaaDoorWSign
namespace Go.Proofs.YtafidabopcgkhaaDoor
open Go.RowKit

set_option maxRecDepth 100000 in
set_option maxHeartbeats 4000000 in
theorem write_calls (w0 : World) (B b : Nat) (hB0 : B = w0.heap.size) : ∀ n, ∀ (t : DataW Unit) (v : Value), Ex w0 n t v → rightE n t = true → ∀ (w : World) (bs : List Value), Below B w0 w → Lib.IsBuilder 57 5 B b bs w → B ≤ w.heap.size → bs.length + (textE n t).size + 4 * n ≤ 140737488355328 → Calls Tryd.prog 22 #[.pointer (some ⟨b, 0, none⟩), v] w fun e w' => e = .returned (.tuple #[]) ∧ Lib.IsBuilder 57 5 B b (bs ++ Lib.strCells (textE n t)) w' ∧ Below B w w' ∧ BoxK w w' := by
  intro n
  induction n with
  | zero => intro t v hX; exact hX.elim
  | succ n ih =>
    intro t v hX hr w bs hB h hs hlen
    have hX0 := hX
    obtain ⟨k, nm, a, ln, cp, ts, rfl, rfl, hl, hz, hkid⟩ := hX
    rw [right_same] at hr
    unfold rightP at hr
    rw [textE, kindT_node, nameT_node, subs_node] at hlen ⊢
    by_cases k0 : k = 0
    · subst k0
      rw [if_pos rfl, Bool.and_eq_true] at hr
      have hts : ts = [] := List.length_eq_zero_iff.1 (by simpa using hr.2)
      subst hts
      rw [if_neg (by decide), if_neg (by decide), if_neg (by decide), if_neg (by decide), joinE]
      obtain ⟨w1, hw1⟩ : ∃ w1, w1 = w.alloc (.cells #[.int .i64 0, .string nm, .slice a ln cp] 24) := ⟨_, rfl⟩
      have hB1 : Below B w w1 := by rw [hw1]; exact (Below.refl B w).alloc hs _
      have hx1 : BoxK w w1 := by rw [hw1]; exact BoxK.alloc w _
      have hbox : w1.heap[w.heap.size]? = some (.cells #[.int .i64 0, .string nm, .slice a ln cp] 24 (0, 0)) := by rw [hw1]; exact heap_alloc_new w _
      have hb1 : Lib.IsBuilder 57 5 B b bs w1 := by rw [hw1]; exact isb_alloc h _
      have hs1 : B ≤ w1.heap.size := Bld.next hB1 hs
      have HE : Hid (Lib.IsBuilder 57 5 B b (bs ++ Lib.strCells ⟨#[]⟩) w1 ∧ Below B w w1 ∧ BoxK w w1) := ⟨by simpa [Lib.strCells] using hb1, hB1, hx1⟩
      clear hlen hr hkid hX0 hB h hs hB1 hx1 hbox hb1 hs1 ih hl hz
      go_enter Tryd.func22, Tryd.ntmps22
      go_wp2
      rw [← hw1]
      go_end0
      exact ⟨rfl, HE.out.1, HE.out.2.1, HE.out.2.2⟩
    rw [if_neg k0] at hr
    by_cases k1 : k = 1
    · subst k1
      rw [if_pos rfl] at hlen ⊢
      obtain ⟨w1, hw1⟩ : ∃ w1, w1 = w.alloc (.cells #[.int .i64 1, .string nm, .slice a ln cp] 24) := ⟨_, rfl⟩
      have hB1 : Below B w w1 := by rw [hw1]; exact (Below.refl B w).alloc hs _
      have hx1 : BoxK w w1 := by rw [hw1]; exact BoxK.alloc w _
      have hbox : w1.heap[w.heap.size]? = some (.cells #[.int .i64 1, .string nm, .slice a ln cp] 24 (0, 0)) := by rw [hw1]; exact heap_alloc_new w _
      have hb1 : Lib.IsBuilder 57 5 B b bs w1 := by rw [hw1]; exact isb_alloc h _
      have hs1 : B ≤ w1.heap.size := Bld.next hB1 hs
      have HT := btext_calls B b bs nm w1 hb1 (by omega) hs1
      have HF : Hid (Below B w w1 ∧ BoxK w w1) := ⟨hB1, hx1⟩
      clear hlen hr hkid hX0 hB h hs hB1 hx1 hbox hb1 hs1 ih hl hz k0
      go_enter Tryd.func22, Tryd.ntmps22
      go_wp2_with fail
      rw [← hw1]
      refine HT.mono ?_
      clear HT
      rintro e W2 ⟨rfl, h2, hB2, hx2⟩
      have HE : Hid (Lib.IsBuilder 57 5 B b (bs ++ Lib.strCells nm) W2 ∧ Below B w W2 ∧ BoxK w W2) := ⟨h2, HF.out.1.trans hB2, HF.out.2.trans hx2⟩
      clear h2 hB2 hx2 HF
      go_wp2
      go_end0
      exact ⟨rfl, HE.out.1, HE.out.2.1, HE.out.2.2⟩
    rw [if_neg k1] at hr hlen ⊢
    by_cases k2 : k = 2 ∨ k = 3
    · rw [if_pos k2, Bool.and_eq_true] at hr
      have hia := hr.2
      rw [if_neg (by omega), if_neg (by omega), if_neg (by omega)] at hlen ⊢
      obtain ⟨c, hc⟩ : ∃ c : UInt8, (k = 2 ∧ c = 32) ∨ (k = 3 ∧ c = 124) := by
        rcases k2 with h | h
        · exact ⟨32, .inl ⟨h, rfl⟩⟩
        · exact ⟨124, .inr ⟨h, rfl⟩⟩
      obtain ⟨w1, hw1⟩ : ∃ w1, w1 = w.alloc (.cells #[.int .i64 k, .string nm, .slice a ln cp] 24) := ⟨_, rfl⟩
      have hB1 : Below B w w1 := by rw [hw1]; exact (Below.refl B w).alloc hs _
      have hx1 : BoxK w w1 := by rw [hw1]; exact BoxK.alloc w _
      have hbox : w1.heap[w.heap.size]? = some (.cells #[.int .i64 k, .string nm, .slice a ln cp] 24 (0, 0)) := by rw [hw1]; exact heap_alloc_new w _
      have hb1 : Lib.IsBuilder 57 5 B b bs w1 := by rw [hw1]; exact isb_alloc h _
      have hs1 : B ≤ w1.heap.size := Bld.next hB1 hs
      have HRW := wrow_calls w0 B b n (4 * n) hB0 k c hc nm a ln cp ts (textE n) hX0 (fun x v hx hEx W bs' g1 g2 g3 g4 => ih x v hEx (inAll_right hia hx) W bs' g1 g2 g3 g4) bs w1 (hB.trans hB1) hb1 hs1 (by omega)
      have HF : Hid (Below B w w1 ∧ BoxK w w1) := ⟨hB1, hx1⟩
      clear hlen hr hia hkid hX0 hB h hs hB1 hx1 hbox hb1 hs1 ih hl hz k0 k1 k2
      rcases hc with ⟨rfl, rfl⟩ | ⟨rfl, rfl⟩
      all_goals
        go_enter Tryd.func22, Tryd.ntmps22
        go_wp2_with fail
        rw [← hw1]
        refine HRW.mono ?_
        clear HRW
        rintro e W2 ⟨rfl, h2, hB2, hx2⟩
        have HF2 : Hid (Below B w W2 ∧ BoxK w W2) := ⟨HF.out.1.trans hB2, HF.out.2.trans hx2⟩
        clear hB2 hx2 HF
        go_wp2
        go_end0
        exact ⟨rfl, h2, HF2.out.1, HF2.out.2⟩
    rw [if_neg k2] at hr
    by_cases k4 : k = 4 ∨ k = 5 ∨ k = 6
    · rw [if_pos k4, Bool.and_eq_true, Bool.and_eq_true] at hr
      obtain ⟨⟨_, hlen1⟩, hia⟩ := hr
      have hl1 : ts.length = 1 := by simpa using hlen1
      obtain ⟨x, rfl⟩ : ∃ x, ts = [x] := List.length_eq_one_iff.1 hl1
      have hln : ln = 1 := by rw [← hl]; exact hl1
      subst hln
      obtain ⟨bb, o, x', kx, sx, ax, lx, cx, rfl, _, hx', hcx⟩ := kid_at hl hkid (i := 0) (by omega)
      have hxx : x = x' := by simpa using hx'
      subst hxx
      simp only [Nat.zero_mul, Nat.add_zero] at hcx
      have hrx := inAll_right hia (List.mem_singleton.2 rfl)
      obtain ⟨c, hc⟩ : ∃ c : UInt8, (k = 4 ∧ c = 42) ∨ (k = 5 ∧ c = 43) ∨ (k = 6 ∧ c = 63) := by
        rcases k4 with h | h | h
        · exact ⟨42, .inl ⟨h, rfl⟩⟩
        · exact ⟨43, .inr (.inl ⟨h, rfl⟩)⟩
        · exact ⟨63, .inr (.inr ⟨h, rfl⟩)⟩
      have htx : (if k = 4 then within (textE n) (headT [x]) ++ sign 42 else if k = 5 then within (textE n) (headT [x]) ++ sign 43 else if k = 6 then within (textE n) (headT [x]) ++ sign 63 else joinE (textE n) k ⟨#[]⟩ 0 [x]) = within (textE n) x ++ sign c := by
        rcases hc with ⟨rfl, rfl⟩ | ⟨rfl, rfl⟩ | ⟨rfl, rfl⟩
        · rfl
        · rfl
        · rfl
      rw [htx] at hlen ⊢
      exact wsign_calls w0 B b n hB0 ih k c hc nm bb o cp x kx sx ax lx cx hcx hrx w bs hB h hs hlen
    · rw [if_neg k4] at hr
      cases hr
end Go.Proofs.YtafidabopcgkhaaDoor
