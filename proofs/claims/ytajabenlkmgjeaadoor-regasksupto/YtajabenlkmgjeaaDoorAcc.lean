/-
  PROVED HERE: reg's Accepts at every tree, all groups and every word: it answers whether the word is of the tree's language; nothing that lay before is turned.
-/
import Derived.Test.YtajabenlkmgjeaaDoorWalked
namespace Go.Proofs.YtajabenlkmgjeaaDoor
open Go.RowKit Go.Maps

/-- The words of a tree with these groups. -/
def LangD (gs : List Grp) : Nat → DataW Unit → List Int → Prop := Lang kindT (fun t => maskG gs (nameT t)) subs
theorem reads_end {F : List Place} (h0 : F[0]? = some (0, [], 0)) : ∀ {k : Nat} {v : List Int}, Reads F k 0 v → v = [] := by
  intro k v h
  cases k with
  | zero => exact h.2
  | succ k =>
    rcases h with h | ⟨x, hx, h⟩
    · exact h.2
    · rw [h0] at hx
      cases hx
      rcases h with ⟨_, q, hq, _⟩ | ⟨h, _⟩
      · cases hq
      · exact absurd rfl h
theorem via_reads {F : List Place} {q : Nat} {v : List Int} {m : Nat} (hR : Reads F m q v) : ∀ {k p : Nat}, Via F k p q → Reads F (k + m) p v := by
  intro k
  induction k with
  | zero => rintro p rfl; simpa using hR
  | succ k ih =>
    intro p hp
    rw [show k + 1 + m = k + m + 1 from by omega]
    rcases hp with rfl | ⟨y, hy, hz, s, hs, hp⟩
    · exact Reads.upto (by omega) hR
    · exact .inr ⟨y, hy, .inl ⟨hz, s, hs, ih hp⟩⟩
/-- What comes to the end behind a word is what has it. -/
theorem after_lang {n : Nat} {t : DataW Unit} {gs : List Grp} (h : chk n t gs = 0) (zs : List Int) : afterS (planF gs n t) (startS (planF gs n t) (firstF gs n t)) zs 0 ↔ LangD gs n t zs := by
  obtain ⟨h1, h2, h3⟩ := chk_zero h
  obtain ⟨hS, hf⟩ := plan_sound h
  have h0 := hS.wf.1
  rw [← reads_after h0 zs _ (startS_shut _ _)]
  have hlike : Like (planF gs n t) (planF gs n t) 1 (planF gs n t).length := fun _ _ _ => rfl
  constructor
  · rintro ⟨a, k, ⟨m, hm⟩, hr⟩
    obtain ⟨u, v, k', _, rfl, hu, hv⟩ := lay_sound kindT (fun t => maskG gs (nameT t)) subs (F := planF gs n t) n t h1 0 [((0, [], 0) : Place)] wf_one (by simp) hlike (m + k) zs (via_reads hr hm)
    rw [reads_end h0 hv, List.append_nil]
    exact hu
  · intro hl
    obtain ⟨k', hk⟩ := lay_full kindT (fun t => maskG gs (nameT t)) subs (F := planF gs n t) n t h1 0 [((0, [], 0) : Place)] wf_one (by simp) hlike zs [] 0 hl ⟨rfl, rfl⟩
    rw [List.append_nil] at hk
    exact ⟨_, k', ⟨0, rfl⟩, hk⟩
theorem read_zero {F : List Place} {p : Nat} {zs : List Int} {S : Nat → Bool} {i : Nat} (h : Read F p zs S i) : S 0 = true ↔ afterS F (startS F p) zs 0 := by
  obtain ⟨h1, h2, ⟨_, h3⟩ | ⟨h3, h4, h5⟩⟩ := h
  · exact h3 0
  · rw [h4 0]
    constructor
    · intro e; cases e
    · intro e
      exfalso
      have hsplit : zs = zs.take (i + 1) ++ zs.drop (i + 1) := (List.take_append_drop _ _).symm
      rw [hsplit] at e
      unfold afterS at e
      rw [List.foldl_append] at e
      exact afterS_empty (S := List.foldl (stepS F) (startS F p) (zs.take (i + 1))) h5 (zs.drop (i + 1)) 0 e
theorem look_nil0 (w : World) : (Instr.lookup 71 (.map none) (.int .i64 0) true).run Tryd.prog w = .ok (.tuple #[.agg #[], .bool false]) w := by
  have := Maps.look_nil (P := Tryd.prog) (w := w) (t := 71) (e := 87) true lawI Tryd.underlying71 (zeroU w) (keyOf_int_mk Tryd.underlying3 (a := 0) (by decide))
  simpa using this
set_option maxRecDepth 100000 in
set_option maxHeartbeats 1000000 in
theorem mayend_calls (w0 w : World) (Bw : Nat) (F : List Place) (S : Nat → Bool) (h : Made w0 w Bw F S) (_hN : F.length ≤ 1000000000) :
    Calls Tryd.prog 25 #[.pointer (some ⟨Bw, 0, none⟩)] w fun e w' => e = .returned (.bool (S 0)) ∧ Below w.heap.size w w' := by
  obtain ⟨_, lv, bh, bs, _, _, hW⟩ := h
  obtain ⟨c0, c1, _⟩ := cells3 hW.blk
  obtain ⟨D, hown, _, hD⟩ := hW.here
  have hk := has_iff hD 0
  have HB0 : Hid (∀ o, Below w.heap.size w (w.alloc o)) := fun o => (Below.refl _ w).alloc (Nat.le_refl _) _
  generalize S 0 = b at *
  clear hD hW
  go_enter Tryd.func25, Tryd.ntmps25
  go_wp2_with (first
    | (at_lookup; refine wpList_lookup_own_unit _ rfl _ _ 71 rfl 3 87 lawI Tryd.underlying71 (zeroU _) bh F.length D rfl hown _ _ rfl (keyOf_int_mk Tryd.underlying3 (a := 0) (by decide)) ?_; rw [show Maps.has D (.int .i64 0) = b from hk])
    | go_in)
  go_ret
  exact ⟨rfl, HB0.out _⟩
set_option maxRecDepth 100000 in
set_option maxHeartbeats 1000000 in
theorem mayend_nil (w : World) (Bw : Nat) (h : w.heap[Bw]? = some (.cells #[.slice none 0 0, .map none, .map none] 73 (0, 0))) :
    Calls Tryd.prog 25 #[.pointer (some ⟨Bw, 0, none⟩)] w fun e w' => e = .returned (.bool false) ∧ Below w.heap.size w w' := by
  obtain ⟨c0, c1, _⟩ := cells3 h
  have hl := fun w => look_nil0 w
  have HB0 : Hid (∀ o, Below w.heap.size w (w.alloc o)) := fun o => (Below.refl _ w).alloc (Nat.le_refl _) _
  clear h
  go_enter Tryd.func25, Tryd.ntmps25
  go_wp2
  go_ret
  exact ⟨rfl, HB0.out _⟩
set_option maxRecDepth 100000 in
set_option maxHeartbeats 1000000 in
theorem accepts_calls (n : Nat) (t : DataW Unit) (v : Value) (ga : Option Addr) (gl gc : Nat) (gs : List Grp) (za : Option Addr) (zl zc : Nat) (zs : List Int) (w : World) (h : Ex w n t v) (hN : named n t) (hG : Groups w ga gl gs) (hZ : Ints w za zl zs) :
    Calls Tryd.prog 10 #[v, .slice ga gl gc, .slice za zl zc] w fun e w' => ∃ b, e = .returned (.bool b) ∧ (b = true ↔ (chk n t gs = 0 ∧ LangD gs n t zs)) ∧ Below w.heap.size w w' := by
  have HB0 : Hid (∀ o, Below w.heap.size w (w.alloc o)) := fun o => (Below.refl _ w).alloc (Nat.le_refl _) _
  by_cases hc : chk n t gs = 0
  · have H1 : Hid (∀ W, Below w.heap.size w W → Calls Tryd.prog 24 #[v, .slice ga gl gc, .slice za zl zc] W fun e w' => ∃ (Bw : Nat) (S : Nat → Bool) (i : Nat), e = .returned (.tuple #[.pointer (some ⟨Bw, 0, none⟩), .int .i64 (i : Int)]) ∧ Made W w' Bw (planF gs n t) S ∧ Read (planF gs n t) (firstF gs n t) zs S i ∧ Below W.heap.size W w') := fun W hW => walked_calls n t v ga gl gc gs za zl zc zs W (Ex.below hW _ _ _ h) hN (hG.below hW) (hZ.below hW) hc
    have hsm := (plan_sound hc).1.small
    have HE : Hid (∀ S i, Read (planF gs n t) (firstF gs n t) zs S i → (S 0 = true ↔ (chk n t gs = 0 ∧ LangD gs n t zs))) := fun S i hr => by
      rw [read_zero hr, after_lang hc zs]
      exact ⟨fun e => ⟨hc, e⟩, fun e => e.2⟩
    obtain ⟨k, s, a, len, cap, rfl⟩ : ∃ k s a len cap, v = .agg #[.int .i64 k, .string s, .slice a len cap] := by
      cases n with
      | zero => exact h.elim
      | succ n => obtain ⟨k, s, a, len, cap, ts, _, rfl, _⟩ := h; exact ⟨k, s, a, len, cap, rfl⟩
    clear h hN hG hZ hc
    generalize planF gs n t = F at *
    generalize firstF gs n t = first at *
    go_enter Tryd.func10, Tryd.ntmps10
    go_wp2_with fail
    refine (H1.out _ (HB0.out _)).mono ?_
    rintro e W ⟨Bw, S, i, rfl, hM, hR, hW⟩
    have HM := mayend_calls _ W Bw F S hM hsm
    have hb := HE.out S i hR
    have HB : Hid (Below w.heap.size w W) := (HB0.out _).trans (hW.mono (by simp))
    have HI : Hid (S 0 = true ↔ (chk n t gs = 0 ∧ LangD gs n t zs)) := hb
    clear hM hR hW hb HE H1
    generalize S 0 = b at *
    go_wp2_with fail
    refine HM.mono ?_
    rintro e W2 ⟨rfl, hW2⟩
    go_wp2
    go_ret
    exact ⟨b, rfl, HI.out, HB.out.trans (hW2.mono HB.out.size)⟩
  · have H1 : Hid (∀ W, Below w.heap.size w W → Calls Tryd.prog 24 #[v, .slice ga gl gc, .slice za zl zc] W fun e w' => ∃ Bw, e = .returned (.tuple #[.pointer (some ⟨Bw, 0, none⟩), .int .i64 0]) ∧ w'.heap[Bw]? = some (.cells #[.slice none 0 0, .map none, .map none] 73 (0, 0)) ∧ Below W.heap.size W w') := fun W hW => walked_no n t v ga gl gc gs za zl zc W (Ex.below hW _ _ _ h) hN (hG.below hW) hc
    have HI : Hid (false = true ↔ (chk n t gs = 0 ∧ LangD gs n t zs)) := ⟨fun e => (by cases e), fun e => absurd e.1 hc⟩
    obtain ⟨k, s, a, len, cap, rfl⟩ : ∃ k s a len cap, v = .agg #[.int .i64 k, .string s, .slice a len cap] := by
      cases n with
      | zero => exact h.elim
      | succ n => obtain ⟨k, s, a, len, cap, ts, _, rfl, _⟩ := h; exact ⟨k, s, a, len, cap, rfl⟩
    clear h hN hG hZ hc
    generalize LangD gs n t zs = Q at *
    generalize (chk n t gs = 0) = Q2 at *
    go_enter Tryd.func10, Tryd.ntmps10
    go_wp2_with fail
    refine (H1.out _ (HB0.out _)).mono ?_
    rintro e W ⟨Bw, rfl, hM, hW⟩
    have HM := mayend_nil W Bw hM
    have HB : Hid (Below w.heap.size w W) := (HB0.out _).trans (hW.mono (by simp))
    clear hM hW H1
    go_wp2_with fail
    refine HM.mono ?_
    rintro e W2 ⟨rfl, hW2⟩
    go_wp2
    go_ret
    exact ⟨false, rfl, HI.out, HB.out.trans (hW2.mono HB.out.size)⟩
end Go.Proofs.YtajabenlkmgjeaaDoor
