/-
  PROVED HERE: the document's own put and get: a number of an act by its letter.
-/
import Derived.Test.YtmkcdkfjomaidaaDoorPBack
namespace Go.Proofs.YtmkcdkfjomaidaaDoor
open Go.RowKit

theorem results_one {P : Program} {fn : Func} {p : Tmp} {ty : TypeId} (h : fn.results = #[.cell p ty]) (tmps : Array Value) (w : World) (g : Nat) (t : TypeId) (cs : Array Value) (fr : Nat × Nat) (d : TypeDesc)
    (hp : tmps.getD p undef = .pointer (some ⟨g, 0, none⟩)) (hg : w.heap[g]? = some (.cells cs t fr))
    (hu : P.underlying ty = some d) (hd : (match d with | .struct _ | .array _ _ => true | _ => false) = true) (hi : (P.info? ty).map (·.size) = some cs.size) :
    (results fn tmps).run P w = .ok (.agg cs) w := by
  have hp' : tmps[p]?.getD undef = .pointer (some ⟨g, 0, none⟩) := by simpa using hp
  simp [results, h, hp', asAddr, run_loadVar_row w g t ty cs fr d hg hu hd hi]

set_option maxRecDepth 100000 in
set_option maxHeartbeats 1000000 in
theorem get_calls (k a b c d n : Int) (bp : Option Addr) (bl bc : Nat) (l : UInt8) (w : World) :
    Calls Tryd.prog 20 #[.agg #[.int .i64 k, .int .i64 a, .int .i64 b, .int .i64 c, .int .i64 d, .int .i64 n, .slice bp bl bc], .int .u8 (l.toNat : Int)] w fun e w' => e = .returned (.int .i64 (numAt a c d n l)) ∧ Below w.heap.size w w' := by
  have HB : Hid (∀ o, Below w.heap.size w (w.alloc o)) := fun o => (Below.refl _ w).alloc (Nat.le_refl _) o
  generalize hq : (l.toNat : Int) = q at *
  have hN : numAt a c d n l = if q = 97 then a else if q = 99 then c else if q = 100 then d else n := by unfold numAt; rw [hq]
  rw [hN]
  clear hN hq
  by_cases h1 : q = 97
  · subst h1
    rw [if_pos rfl]
    go_enter Tryd.func20, Tryd.ntmps20
    go_wp2
    go_ret
    exact ⟨rfl, HB.out _⟩
  · rw [if_neg h1]
    by_cases h2 : q = 99
    · subst h2
      rw [if_pos rfl]
      go_enter Tryd.func20, Tryd.ntmps20
      go_wp2
      go_ret
      exact ⟨rfl, HB.out _⟩
    · rw [if_neg h2]
      by_cases h3 : q = 100
      · subst h3
        rw [if_pos rfl]
        go_enter Tryd.func20, Tryd.ntmps20
        go_wp2
        go_ret
        exact ⟨rfl, HB.out _⟩
      · rw [if_neg h3]
        go_enter Tryd.func20, Tryd.ntmps20
        go_wp2
        go_ret
        exact ⟨rfl, HB.out _⟩

set_option maxRecDepth 100000 in
set_option maxHeartbeats 1000000 in
theorem put_calls (k a b c d n v : Int) (l : UInt8) (a1 c1 d1 n1 : Int) (hset : (actC k a b c d n).setIfInBounds (off (l.toNat : Int)) (.int .i64 v) = actC k a1 b c1 d1 n1) (w : World) :
    Calls Tryd.prog 21 #[.agg #[.int .i64 k, .int .i64 a, .int .i64 b, .int .i64 c, .int .i64 d, .int .i64 n, .slice none 0 0], .int .u8 (l.toNat : Int), .int .i64 v] w fun e w' => e = .returned (.agg #[.int .i64 k, .int .i64 a1, .int .i64 b, .int .i64 c1, .int .i64 d1, .int .i64 n1, .slice none 0 0]) ∧ Below w.heap.size w w' := by
  have HB : Hid (∀ o1 o2 cs, Below w.heap.size w (((w.alloc o1).alloc o2).setRow (w.heap.size + 1) cs)) := fun o1 o2 cs => by
    have h := (Below.refl _ w).alloc (Nat.le_refl _) o1
    exact below_setRow (h.alloc h.size o2) (by omega) cs
  have HZ : Hid (∀ o1, ((w.alloc o1).alloc (.cells (actC 0 0 0 0 0 0) 24)).heap[w.heap.size + 1]? = some (.cells (actC 0 0 0 0 0 0) 24 (0, 0))) := fun o1 => by
    have := World.alloc_heap_new (w.alloc o1) (.cells (actC 0 0 0 0 0 0) 24)
    rw [World.size_alloc] at this
    exact this
  generalize hq : (l.toNat : Int) = q at *
  by_cases h1 : q = 97
  · subst h1
    have e := actC_inj (show actC k v b c d n = actC k a1 b c1 d1 n1 from hset)
    obtain ⟨_, rfl, _, rfl, rfl, rfl⟩ := e
    clear hset
    go_enter Tryd.func21, Tryd.ntmps21
    go_wp2_with (refine wpList_store_row rfl 24 _ _ rfl (w.heap.size + 1) #[.int .i64 k, .int .i64 v, .int .i64 b, .int .i64 c, .int .i64 d, .int .i64 n, .slice none 0 0] rfl rfl 24 _ (HZ.out _) sizeAct rfl (ones7 _ _ _ _ _ _ _ _ _) ?_)
    refine bodyPost_ret (results_one rfl _ _ (w.heap.size + 1) 24 #[.int .i64 k, .int .i64 v, .int .i64 b, .int .i64 c, .int .i64 d, .int .i64 n, .slice none 0 0] (0, 0) _ rfl (setRow_heap _ _ _ _ _ _ (HZ.out _)) Tryd.underlying24 rfl sizeAct) rfl ?_
    exact ⟨rfl, HB.out _ _ _⟩
  · by_cases h2 : q = 99
    · subst h2
      have e := actC_inj (show actC k a b v d n = actC k a1 b c1 d1 n1 from hset)
      obtain ⟨_, rfl, _, rfl, rfl, rfl⟩ := e
      clear hset
      go_enter Tryd.func21, Tryd.ntmps21
      go_wp2_with (refine wpList_store_row rfl 24 _ _ rfl (w.heap.size + 1) #[.int .i64 k, .int .i64 a, .int .i64 b, .int .i64 v, .int .i64 d, .int .i64 n, .slice none 0 0] rfl rfl 24 _ (HZ.out _) sizeAct rfl (ones7 _ _ _ _ _ _ _ _ _) ?_)
      refine bodyPost_ret (results_one rfl _ _ (w.heap.size + 1) 24 #[.int .i64 k, .int .i64 a, .int .i64 b, .int .i64 v, .int .i64 d, .int .i64 n, .slice none 0 0] (0, 0) _ rfl (setRow_heap _ _ _ _ _ _ (HZ.out _)) Tryd.underlying24 rfl sizeAct) rfl ?_
      exact ⟨rfl, HB.out _ _ _⟩
    · by_cases h3 : q = 100
      · subst h3
        have e := actC_inj (show actC k a b c v n = actC k a1 b c1 d1 n1 from hset)
        obtain ⟨_, rfl, _, rfl, rfl, rfl⟩ := e
        clear hset
        go_enter Tryd.func21, Tryd.ntmps21
        go_wp2_with (refine wpList_store_row rfl 24 _ _ rfl (w.heap.size + 1) #[.int .i64 k, .int .i64 a, .int .i64 b, .int .i64 c, .int .i64 v, .int .i64 n, .slice none 0 0] rfl rfl 24 _ (HZ.out _) sizeAct rfl (ones7 _ _ _ _ _ _ _ _ _) ?_)
        refine bodyPost_ret (results_one rfl _ _ (w.heap.size + 1) 24 #[.int .i64 k, .int .i64 a, .int .i64 b, .int .i64 c, .int .i64 v, .int .i64 n, .slice none 0 0] (0, 0) _ rfl (setRow_heap _ _ _ _ _ _ (HZ.out _)) Tryd.underlying24 rfl sizeAct) rfl ?_
        exact ⟨rfl, HB.out _ _ _⟩
      · have ho : off q = 5 := by unfold off; rw [if_neg h1, if_neg h2, if_neg h3]
        rw [ho] at hset
        clear ho
        have e := actC_inj (show actC k a b c d v = actC k a1 b c1 d1 n1 from hset)
        obtain ⟨_, rfl, _, rfl, rfl, rfl⟩ := e
        clear hset
        go_enter Tryd.func21, Tryd.ntmps21
        go_wp2_with (refine wpList_store_row rfl 24 _ _ rfl (w.heap.size + 1) #[.int .i64 k, .int .i64 a, .int .i64 b, .int .i64 c, .int .i64 d, .int .i64 v, .slice none 0 0] rfl rfl 24 _ (HZ.out _) sizeAct rfl (ones7 _ _ _ _ _ _ _ _ _) ?_)
        refine bodyPost_ret (results_one rfl _ _ (w.heap.size + 1) 24 #[.int .i64 k, .int .i64 a, .int .i64 b, .int .i64 c, .int .i64 d, .int .i64 v, .slice none 0 0] (0, 0) _ rfl (setRow_heap _ _ _ _ _ _ (HZ.out _)) Tryd.underlying24 rfl sizeAct) rfl ?_
        exact ⟨rfl, HB.out _ _ _⟩
end Go.Proofs.YtmkcdkfjomaidaaDoor
