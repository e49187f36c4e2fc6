/-
  PROVED HERE: what the texts Acc, Awake, Signs6, Apd, Sp say (each has its own words below).
-/
import Derived.Test.YtgkplmnhmobnnaaGreatDoorSMWalked
import Derived.Test.YtgkplmnhmobnnaaGreatDoorSM10
import Derived.Maps.AppendAt
import Derived.Laws.AppendOwnNone
import Derived.Test.YtgkplmnhmobnnaaGreatDoorSM9
import Derived.Test.YtgkplmnhmobnnaaGreatDoorSMParseC
/- Acc: reg's Accepts at every tree, all groups and every word: it answers whether the word is of the tree's language; nothing that lay before is turned. -/
namespace Go.Proofs.YtgkplmnhmobnnaaGreatDoor
open Go.RowKit Go.Maps

/-- The words of a tree with these groups. -/
def LangD (gs : List Grp) : Nat → DataW Unit → List Int → Prop := Lang kindT (fun t => maskG gs (nameT t)) subs
theorem reads_end {F : List Place} (h0 : F[0]? = some (0, [], 0)) : ∀ {k : Nat} {v : List Int}, Reads F k 0 v → v = [] := by
  intro k v h
  cases k with
  | zero => exact h.2
  | succ k =>
    rcases h with h | ⟨x, hx, h⟩
    · exact h.2
    · rw [h0] at hx
      cases hx
      rcases h with ⟨_, q, hq, _⟩ | ⟨h, _⟩
      · cases hq
      · exact absurd rfl h
theorem via_reads {F : List Place} {q : Nat} {v : List Int} {m : Nat} (hR : Reads F m q v) : ∀ {k p : Nat}, Via F k p q → Reads F (k + m) p v := by
  intro k
  induction k with
  | zero => rintro p rfl; simpa using hR
  | succ k ih =>
    intro p hp
    rw [show k + 1 + m = k + m + 1 from by omega]
    rcases hp with rfl | ⟨y, hy, hz, s, hs, hp⟩
    · exact Reads.upto (by omega) hR
    · exact .inr ⟨y, hy, .inl ⟨hz, s, hs, ih hp⟩⟩
/-- What comes to the end behind a word is what has it. -/
theorem after_lang {n : Nat} {t : DataW Unit} {gs : List Grp} (h : chk n t gs = 0) (zs : List Int) : afterS (planF gs n t) (startS (planF gs n t) (firstF gs n t)) zs 0 ↔ LangD gs n t zs := by
  obtain ⟨h1, h2, h3⟩ := chk_zero h
  obtain ⟨hS, hf⟩ := plan_sound h
  have h0 := hS.wf.1
  rw [← reads_after h0 zs _ (startS_shut _ _)]
  have hlike : Like (planF gs n t) (planF gs n t) 1 (planF gs n t).length := fun _ _ _ => rfl
  constructor
  · rintro ⟨a, k, ⟨m, hm⟩, hr⟩
    obtain ⟨u, v, k', _, rfl, hu, hv⟩ := lay_sound kindT (fun t => maskG gs (nameT t)) subs (F := planF gs n t) n t h1 0 [((0, [], 0) : Place)] wf_one (by simp) hlike (m + k) zs (via_reads hr hm)
    rw [reads_end h0 hv, List.append_nil]
    exact hu
  · intro hl
    obtain ⟨k', hk⟩ := lay_full kindT (fun t => maskG gs (nameT t)) subs (F := planF gs n t) n t h1 0 [((0, [], 0) : Place)] wf_one (by simp) hlike zs [] 0 hl ⟨rfl, rfl⟩
    rw [List.append_nil] at hk
    exact ⟨_, k', ⟨0, rfl⟩, hk⟩
theorem read_zero {F : List Place} {p : Nat} {zs : List Int} {S : Nat → Bool} {i : Nat} (h : Read F p zs S i) : S 0 = true ↔ afterS F (startS F p) zs 0 := by
  obtain ⟨h1, h2, ⟨_, h3⟩ | ⟨h3, h4, h5⟩⟩ := h
  · exact h3 0
  · rw [h4 0]
    constructor
    · intro e; cases e
    · intro e
      exfalso
      have hsplit : zs = zs.take (i + 1) ++ zs.drop (i + 1) := (List.take_append_drop _ _).symm
      rw [hsplit] at e
      unfold afterS at e
      rw [List.foldl_append] at e
      exact afterS_empty (S := List.foldl (stepS F) (startS F p) (zs.take (i + 1))) h5 (zs.drop (i + 1)) 0 e
theorem look_nil0 (w : World) : (Instr.lookup 144 (.map none) (.int .i64 0) true).run Tryz.prog w = .ok (.tuple #[.agg #[], .bool false]) w := by
  have := Maps.look_nil (P := Tryz.prog) (w := w) (t := 144) (e := 155) true lawI Tryz.underlying144 (zeroU w) (keyOf_int_mk Tryz.underlying3 (a := 0) (by decide))
  simpa using this
set_option maxRecDepth 100000 in
set_option maxHeartbeats 1000000 in
theorem mayend_calls (w0 w : World) (Bw : Nat) (F : List Place) (S : Nat → Bool) (h : Made w0 w Bw F S) (_hN : F.length ≤ 1000000000) :
    Calls Tryz.prog 78 #[.pointer (some ⟨Bw, 0, none⟩)] w fun e w' => e = .returned (.bool (S 0)) ∧ Below w.heap.size w w' := by
  obtain ⟨_, lv, bh, bs, _, _, hW⟩ := h
  obtain ⟨c0, c1, _⟩ := cells3 hW.blk
  obtain ⟨D, hown, _, hD⟩ := hW.here
  have hk := has_iff hD 0
  have HB0 : Hid (∀ o, Below w.heap.size w (w.alloc o)) := fun o => (Below.refl _ w).alloc (Nat.le_refl _) _
  generalize S 0 = b at *
  clear hD hW
  go_enter Tryz.func78, Tryz.ntmps78
  go_wp2_with (first
    | (at_lookup; refine wpList_lookup_own_unit _ rfl _ _ 144 rfl 3 155 lawI Tryz.underlying144 (zeroU _) bh F.length D rfl hown _ _ rfl (keyOf_int_mk Tryz.underlying3 (a := 0) (by decide)) ?_; rw [show Maps.has D (.int .i64 0) = b from hk])
    | go_in)
  go_ret
  exact ⟨rfl, HB0.out _⟩
set_option maxRecDepth 100000 in
set_option maxHeartbeats 1000000 in
theorem mayend_nil (w : World) (Bw : Nat) (h : w.heap[Bw]? = some (.cells #[.slice none 0 0, .map none, .map none] 146 (0, 0))) :
    Calls Tryz.prog 78 #[.pointer (some ⟨Bw, 0, none⟩)] w fun e w' => e = .returned (.bool false) ∧ Below w.heap.size w w' := by
  obtain ⟨c0, c1, _⟩ := cells3 h
  have hl := fun w => look_nil0 w
  have HB0 : Hid (∀ o, Below w.heap.size w (w.alloc o)) := fun o => (Below.refl _ w).alloc (Nat.le_refl _) _
  clear h
  go_enter Tryz.func78, Tryz.ntmps78
  go_wp2
  go_ret
  exact ⟨rfl, HB0.out _⟩
set_option maxRecDepth 100000 in
set_option maxHeartbeats 1000000 in
theorem accepts_calls (n : Nat) (t : DataW Unit) (v : Value) (ga : Option Addr) (gl gc : Nat) (gs : List Grp) (za : Option Addr) (zl zc : Nat) (zs : List Int) (w : World) (h : Ex w n t v) (hN : named n t) (hG : Groups w ga gl gs) (hZ : Ints w za zl zs) :
    Calls Tryz.prog 42 #[v, .slice ga gl gc, .slice za zl zc] w fun e w' => ∃ b, e = .returned (.bool b) ∧ (b = true ↔ (chk n t gs = 0 ∧ LangD gs n t zs)) ∧ Below w.heap.size w w' := by
  have HB0 : Hid (∀ o, Below w.heap.size w (w.alloc o)) := fun o => (Below.refl _ w).alloc (Nat.le_refl _) _
  by_cases hc : chk n t gs = 0
  · have H1 : Hid (∀ W, Below w.heap.size w W → Calls Tryz.prog 77 #[v, .slice ga gl gc, .slice za zl zc] W fun e w' => ∃ (Bw : Nat) (S : Nat → Bool) (i : Nat), e = .returned (.tuple #[.pointer (some ⟨Bw, 0, none⟩), .int .i64 (i : Int)]) ∧ Made W w' Bw (planF gs n t) S ∧ Read (planF gs n t) (firstF gs n t) zs S i ∧ Below W.heap.size W w') := fun W hW => walked_calls n t v ga gl gc gs za zl zc zs W (Ex.below hW _ _ _ h) hN (hG.below hW) (hZ.below hW) hc
    have hsm := (plan_sound hc).1.small
    have HE : Hid (∀ S i, Read (planF gs n t) (firstF gs n t) zs S i → (S 0 = true ↔ (chk n t gs = 0 ∧ LangD gs n t zs))) := fun S i hr => by
      rw [read_zero hr, after_lang hc zs]
      exact ⟨fun e => ⟨hc, e⟩, fun e => e.2⟩
    obtain ⟨k, s, a, len, cap, rfl⟩ : ∃ k s a len cap, v = .agg #[.int .i64 k, .string s, .slice a len cap] := by
      cases n with
      | zero => exact h.elim
      | succ n => obtain ⟨k, s, a, len, cap, ts, _, rfl, _⟩ := h; exact ⟨k, s, a, len, cap, rfl⟩
    clear h hN hG hZ hc
    generalize planF gs n t = F at *
    generalize firstF gs n t = first at *
    go_enter Tryz.func42, Tryz.ntmps42
    go_wp2_with fail
    refine (H1.out _ (HB0.out _)).mono ?_
    rintro e W ⟨Bw, S, i, rfl, hM, hR, hW⟩
    have HM := mayend_calls _ W Bw F S hM hsm
    have hb := HE.out S i hR
    have HB : Hid (Below w.heap.size w W) := (HB0.out _).trans (hW.mono (by simp))
    have HI : Hid (S 0 = true ↔ (chk n t gs = 0 ∧ LangD gs n t zs)) := hb
    clear hM hR hW hb HE H1
    generalize S 0 = b at *
    go_wp2_with fail
    refine HM.mono ?_
    rintro e W2 ⟨rfl, hW2⟩
    go_wp2
    go_ret
    exact ⟨b, rfl, HI.out, HB.out.trans (hW2.mono HB.out.size)⟩
  · have H1 : Hid (∀ W, Below w.heap.size w W → Calls Tryz.prog 77 #[v, .slice ga gl gc, .slice za zl zc] W fun e w' => ∃ Bw, e = .returned (.tuple #[.pointer (some ⟨Bw, 0, none⟩), .int .i64 0]) ∧ w'.heap[Bw]? = some (.cells #[.slice none 0 0, .map none, .map none] 146 (0, 0)) ∧ Below W.heap.size W w') := fun W hW => walked_no n t v ga gl gc gs za zl zc W (Ex.below hW _ _ _ h) hN (hG.below hW) hc
    have HI : Hid (false = true ↔ (chk n t gs = 0 ∧ LangD gs n t zs)) := ⟨fun e => (by cases e), fun e => absurd e.1 hc⟩
    obtain ⟨k, s, a, len, cap, rfl⟩ : ∃ k s a len cap, v = .agg #[.int .i64 k, .string s, .slice a len cap] := by
      cases n with
      | zero => exact h.elim
      | succ n => obtain ⟨k, s, a, len, cap, ts, _, rfl, _⟩ := h; exact ⟨k, s, a, len, cap, rfl⟩
    clear h hN hG hZ hc
    generalize LangD gs n t zs = Q at *
    generalize (chk n t gs = 0) = Q2 at *
    go_enter Tryz.func42, Tryz.ntmps42
    go_wp2_with fail
    refine (H1.out _ (HB0.out _)).mono ?_
    rintro e W ⟨Bw, rfl, hM, hW⟩
    have HM := mayend_nil W Bw hM
    have HB : Hid (Below w.heap.size w W) := (HB0.out _).trans (hW.mono (by simp))
    clear hM hW H1
    go_wp2_with fail
    refine HM.mono ?_
    rintro e W2 ⟨rfl, hW2⟩
    go_wp2
    go_ret
    exact ⟨false, rfl, HI.out, HB.out.trans (hW2.mono HB.out.size)⟩
end Go.Proofs.YtgkplmnhmobnnaaGreatDoor

/- Awake: a name's language; the law's own awake answers true; nothing that lay before is turned. -/
namespace Go.Proofs.YtgkplmnhmobnnaaGreatDoor
open Go.RowKit

theorem bit_fold : ∀ (l : List Int) (m k : Nat), (l.foldl (fun m t => m ||| 2 ^ t.toNat) m).testBit k = (m.testBit k || l.any (fun t => t.toNat == k)) := by
  intro l
  induction l with
  | nil => intro m k; simp
  | cons t r ih =>
    intro m k
    rw [List.foldl_cons, ih, Nat.testBit_or, Nat.testBit_two_pow, List.any_cons, Bool.or_assoc]
    congr 2
theorem takes_mem {ts : List Int} (h : ts.all isTy = true) (a : Int) : takes (maskOf ts) a = true ↔ a ∈ ts := by
  have hty : ∀ x ∈ ts, 0 ≤ x ∧ x < 16 := fun x hx => by
    have := List.all_eq_true.1 h x hx
    unfold isTy at this
    simpa using this
  unfold takes maskOf
  rw [bit_fold]
  simp only [Nat.zero_testBit, Bool.false_or, Bool.and_eq_true, decide_eq_true_eq, List.any_eq_true, beq_iff_eq]
  constructor
  · rintro ⟨⟨h0, h1⟩, x, hx, e⟩
    have := hty x hx
    rw [show a = x from by omega]
    exact hx
  · intro ha
    exact ⟨hty a ha, a, ha, rfl⟩
def aName : ByteArray := ⟨#[97]⟩
theorem letters_a : letters ⟨#[97]⟩ = true := by simp [letters, ByteArray.toList_eq, letter]
theorem name_check : checkE 1 (node 1 ⟨#[97]⟩ []) = 0 := by
  have h3 : rightE 1 (node 1 ⟨#[97]⟩ []) = true := by
    rw [rightE, subs_node, kindT_node, nameT_node]
    simp [shapely, letters_a]
  unfold checkE
  rw [show cnt 1 (node 1 ⟨#[97]⟩ []) = 1 from rfl, show dp 1 (node 1 ⟨#[97]⟩ []) = 1 from rfl, if_neg (by decide), if_pos h3]
theorem maskG_one (ts : List Int) : maskG [(⟨#[97]⟩, ts)] ⟨#[97]⟩ = maskOf ts := by rw [maskG, if_pos (by simp)]
theorem rightG_one (ts : List Int) : rightG [(⟨#[97]⟩, ts)] = rightTs ts := by unfold rightG; simp
/-- What Check says of the name a alone, with one group of that name. -/
theorem name_chk (ts : List Int) : chk 1 (node 1 ⟨#[97]⟩ []) [(⟨#[97]⟩, ts)] = 0 ↔ rightTs ts = true ∧ ts ≠ [] := by
  unfold chk
  rw [if_pos name_check, rightG_one]
  have hn : nmd [(⟨#[97]⟩, ts)] 1 (node 1 ⟨#[97]⟩ []) = !(((maskOf ts : Nat) : Int) == 0) := by rw [nmd, kindT_node, if_pos rfl, nameT_node, maskG_one]
  rw [hn]
  cases hr : rightTs ts with
  | false => simp
  | true =>
    have hall : ts.all isTy = true := by unfold rightTs at hr; rw [Bool.and_eq_true] at hr; exact hr.2
    have hz : maskOf ts = 0 ↔ ts = [] := by
      constructor
      · intro e
        cases ts with
        | nil => rfl
        | cons x r =>
          have := (takes_mem hall x).2 (List.mem_cons_self ..)
          rw [e, takes_zero] at this
          cases this
      · intro e; rw [e]; rfl
    by_cases e : ts = []
    · rw [if_pos rfl, hz.2 e]
      simp [e]
    · have : maskOf ts ≠ 0 := fun h => e (hz.1 h)
      rw [if_pos rfl, if_pos (by simp; omega)]
      simp [e]
theorem name_lang (ts : List Int) (zs : List Int) (h : rightTs ts = true) : LangD [(⟨#[97]⟩, ts)] 1 (node 1 ⟨#[97]⟩ []) zs ↔ ∃ a, zs = [a] ∧ a ∈ ts := by
  have hall : ts.all isTy = true := by unfold rightTs at h; rw [Bool.and_eq_true] at h; exact h.2
  unfold LangD
  rw [Lang, kindT_node, if_pos rfl, nameT_node, maskG_one]
  constructor
  · rintro ⟨a, e, ha⟩
    exact ⟨a, e, (takes_mem hall a).1 ha⟩
  · rintro ⟨a, e, ha⟩
    exact ⟨a, e, (takes_mem hall a).2 ha⟩
theorem Ex.leaf (w : World) (k : Int) (s : ByteArray) (a : Option Addr) (cap : Nat) : Ex w 1 (node k s []) (.agg #[.int .i64 k, .string s, .slice a 0 cap]) := ⟨k, s, a, 0, cap, [], rfl, rfl, rfl, by omega, .inl rfl⟩
theorem named_a : named 1 (node 1 ⟨#[97]⟩ []) := ⟨by rw [nameT_node]; decide, fun x hx => by cases hx⟩
/-- A group of one name that was just made. -/
theorem Groups.one {w : World} {b : Nat} {s : ByteArray} {a : Option Addr} {len cap : Nat} {ts : List Int} (hb : w.heap[b]? = some (.cells #[.string s, .slice a len cap] 59 (0, 0))) (hT : Ints w a len ts) : Groups w (some ⟨b, 0, none⟩) 1 [(s, ts)] := by
  refine ⟨rfl, by omega, .inr ⟨b, 0, rfl, (Array.getElem?_eq_some_iff.1 hb).1, fun i g hg => ?_⟩⟩
  cases i with
  | zero =>
    simp at hg
    subst hg
    exact ⟨a, len, cap, cell_of_row w b 0 _ _ _ hb, cell_of_row w b 1 _ _ _ hb, hT⟩
  | succ i => simp at hg
theorem Ints.none0 (w : World) : Ints w none 0 [] := ⟨rfl, by omega, .inl rfl⟩
theorem Ints.one {w : World} {b : Nat} {x : Int} (hb : w.heap[b]? = some (.cells #[.int .i64 x] 3 (0, 0))) : Ints w (some ⟨b, 0, none⟩) 1 [x] := by
  refine ⟨rfl, by omega, .inr ⟨b, 0, rfl, (Array.getElem?_eq_some_iff.1 hb).1, fun i y hy => ?_⟩⟩
  cases i with
  | zero => simp at hy; subst hy; exact cell_of_row w b 0 _ _ _ hb
  | succ i => simp at hy
theorem Ints.two {w : World} {b : Nat} {x y : Int} (hb : w.heap[b]? = some (.cells #[.int .i64 x, .int .i64 y] 3 (0, 0))) : Ints w (some ⟨b, 0, none⟩) 2 [x, y] := by
  refine ⟨rfl, by omega, .inr ⟨b, 0, rfl, (Array.getElem?_eq_some_iff.1 hb).1, fun i z hz => ?_⟩⟩
  match i, hz with
  | 0, hz => simp at hz; subst hz; exact cell_of_row w b 0 _ _ _ hb
  | 1, hz => simp at hz; subst hz; exact cell_of_row w b 1 _ _ _ hb
end Go.Proofs.YtgkplmnhmobnnaaGreatDoor

/- Signs6: what Check and the language say of a tree behind a sign. -/
namespace Go.Proofs.YtgkplmnhmobnnaaGreatDoor
open Go.RowKit

theorem one_tree {n : Nat} {k : Int} {t : DataW Unit} {gs : List Grp} (hk : k = 4 ∨ k = 5 ∨ k = 6) : chk (n + 1) (node k ⟨#[]⟩ [t]) gs = 0 ↔ (1 + cnt n t ≤ 200 ∧ dp n t + 1 ≤ 60 ∧ kindT t ≠ 0 ∧ rightE n t = true ∧ rightG gs = true ∧ nmd gs n t = true) := by
  have hc : cnt (n + 1) (node k ⟨#[]⟩ [t]) = 1 + cnt n t := by rw [cnt, subs_node]; simp [total]
  have hd : dp (n + 1) (node k ⟨#[]⟩ [t]) = dp n t + 1 := by
    have := dp_nonneg n t
    rw [dp, subs_node]
    simp only [greatest]
    omega
  have hr : rightE (n + 1) (node k ⟨#[]⟩ [t]) = (!(kindT t == 0) && rightE n t) := by
    rw [rightE, subs_node, kindT_node, nameT_node]
    unfold shapely
    rw [if_neg (by omega), if_neg (by omega), if_pos hk]
    simp
  have hn : nmd gs (n + 1) (node k ⟨#[]⟩ [t]) = nmd gs n t := by
    rw [nmd, kindT_node, if_neg (by omega), subs_node]
    simp
  unfold chk
  rw [hn]
  have hE : checkE (n + 1) (node k ⟨#[]⟩ [t]) = 0 ↔ (1 + cnt n t ≤ 200 ∧ dp n t + 1 ≤ 60 ∧ kindT t ≠ 0 ∧ rightE n t = true) := by
    unfold checkE
    rw [hc, hd, hr]
    by_cases h1 : 200 < 1 + cnt n t ∨ 60 < dp n t + 1
    · rw [if_pos h1]
      constructor
      · intro e; cases e
      · rintro ⟨h2, h3, _⟩; omega
    · rw [if_neg h1]
      by_cases h2 : kindT t = 0
      · simp [h2]
      · cases h3 : rightE n t with
        | false => simp
        | true => simp [h2]; omega
  constructor
  · intro h
    split at h
    · rename_i h1
      split at h
      · rename_i h2
        split at h
        · rename_i h3
          obtain ⟨e1, e2, e3, e4⟩ := hE.1 h1
          exact ⟨e1, e2, e3, e4, h2, h3⟩
        · cases h
      · cases h
    · rename_i h1
      exact absurd h h1
  · rintro ⟨e1, e2, e3, e4, h2, h3⟩
    rw [if_pos (hE.2 ⟨e1, e2, e3, e4⟩), if_pos h2, if_pos h3]
theorem one_within {n : Nat} {k : Int} {t : DataW Unit} {gs : List Grp} (hk : k = 4 ∨ k = 5 ∨ k = 6) (h : chk (n + 1) (node k ⟨#[]⟩ [t]) gs = 0) : chk n t gs = 0 := by
  obtain ⟨e1, e2, e3, e4, h2, h3⟩ := (one_tree hk).1 h
  have : checkE n t = 0 := by
    unfold checkE
    rw [if_neg (by omega), if_pos e4]
  unfold chk
  rw [if_pos this, if_pos h2, if_pos h3]
theorem one_other {n : Nat} {k k' : Int} {t : DataW Unit} {gs : List Grp} (hk : k = 4 ∨ k = 5 ∨ k = 6) (hk' : k' = 4 ∨ k' = 5 ∨ k' = 6) (h : chk (n + 1) (node k ⟨#[]⟩ [t]) gs = 0) : chk (n + 1) (node k' ⟨#[]⟩ [t]) gs = 0 := (one_tree hk').2 ((one_tree hk).1 h)
theorem lang_opt (gs : List Grp) (n : Nat) (t : DataW Unit) (zs : List Int) : LangD gs (n + 1) (node 6 ⟨#[]⟩ [t]) zs ↔ (zs = [] ∨ LangD gs n t zs) := by
  unfold LangD
  rw [Lang, kindT_node, subs_node]
  simp
theorem lang_star (gs : List Grp) (n : Nat) (t : DataW Unit) (zs : List Int) : LangD gs (n + 1) (node 4 ⟨#[]⟩ [t]) zs ↔ ∃ m, LPow (LangD gs n t) m zs := by
  unfold LangD
  rw [Lang, kindT_node, subs_node]
  simp
theorem lang_plus (gs : List Grp) (n : Nat) (t : DataW Unit) (zs : List Int) : LangD gs (n + 1) (node 5 ⟨#[]⟩ [t]) zs ↔ ∃ m, LPow (LangD gs n t) (m + 1) zs := by
  unfold LangD
  rw [Lang, kindT_node, subs_node]
  simp
theorem pow_one {f : List Int → Prop} {a : List Int} (h : f a) : LPow f 1 a := ⟨a, [], by simp, h, rfl⟩
theorem pow_two {f : List Int → Prop} {a b : List Int} (h : f a) (h' : f b) : LPow f 2 (a ++ b) := ⟨a, b, rfl, h, pow_one h'⟩
theorem pow_nil {f : List Int → Prop} {m : Nat} (h : LPow f (m + 1) []) : f [] := by
  obtain ⟨u, v, e, h1, _⟩ := h
  have : u = [] := by
    cases u with
    | nil => rfl
    | cons x r => cases e
  rwa [this] at h1
/-- A tree that is laid behind a sign, in memory. -/
theorem Ex.behind {w : World} {n : Nat} {t : DataW Unit} {b : Nat} {k : Int} {s : ByteArray} {a : Option Addr} {len cap c : Nat} (k' : Int) (hb : w.heap[b]? = some (.cells #[.int .i64 k, .string s, .slice a len cap] 64 (0, 0))) (h : Ex w n t (.agg #[.int .i64 k, .string s, .slice a len cap])) : Ex w (n + 1) (node k' ⟨#[]⟩ [t]) (.agg #[.int .i64 k', .string ⟨#[]⟩, .slice (some ⟨b, 0, none⟩) 1 c]) := by
  refine ⟨k', ⟨#[]⟩, some ⟨b, 0, none⟩, 1, c, [t], rfl, rfl, rfl, by omega, .inr ⟨b, 0, rfl, (Array.getElem?_eq_some_iff.1 hb).1, fun i x hx => ?_⟩⟩
  cases i with
  | zero =>
    simp at hx
    subst hx
    exact ⟨k, s, a, len, cap, cell_of_row w b 0 _ _ _ hb, cell_of_row w b 1 _ _ _ hb, cell_of_row w b 2 _ _ _ hb, h⟩
  | succ i => simp at hx
theorem named_behind {n : Nat} {t : DataW Unit} (k : Int) (h : named n t) : named (n + 1) (node k ⟨#[]⟩ [t]) := by
  refine ⟨by rw [nameT_node]; decide, fun x hx => ?_⟩
  rw [subs_node] at hx
  simp at hx
  rw [hx]
  exact h
end Go.Proofs.YtgkplmnhmobnnaaGreatDoor

/- Apd: a slice of integers that is put behind another, whose cells the call made itself. -/
namespace Go.Proofs.YtgkplmnhmobnnaaGreatDoor
open Go.ChangeShapes Go.WideShapes Go.ChangeAt Go.RowKit

theorem open_rowc {H : Type} {enc : TypeId × Value → H} {W : World} {a : Option Addr} {len cap : Nat} {d : DataW H} {p : List MemPlace} (h : DataW.Trod enc Tryz.prog W 0 (fun _ => true) true 57 (.slice a len cap) d p) : a = none → cap = 0 := by
  obtain ⟨fuel, hf⟩ := h
  rcases open_ints Tryz.underlying57 Tryz.underlying3 (by kernel_rfl) hf with ⟨hcs, _⟩ | ⟨y, l, c, zs, hcs, _⟩
  · simp [Value.cells] at hcs
    obtain ⟨rfl, rfl, rfl⟩ := hcs
    intro _; rfl
  · simp [Value.cells] at hcs
    obtain ⟨rfl, rfl, rfl⟩ := hcs
    intro e; cases e
def intsV (zs : List Int) : List Value := zs.map (Value.int .i64)
theorem intsV_append (xs zs : List Int) : intsV xs ++ intsV zs = intsV (xs ++ zs) := (List.map_append ..).symm
theorem owned_nil (w : World) (base : Nat) (hb : base ≤ w.heap.size) : (w.alloc (.cells #[] 3)).ownsRow base 3 1 (.slice (some ⟨w.heap.size, 0, none⟩) 0 0) 0 (intsV []) :=
  ⟨rfl, .inr ⟨w.heap.size, 0, _, rfl, hb, World.alloc_heap_new w _, Nat.le_refl _, by unfold maxLen; omega, rfl, rfl⟩⟩
theorem owned_ints {w : World} {base n : Nat} {v : Value} {zs : List Int} (h : w.ownsRow base 3 1 v n (intsV zs)) (hn : n ≤ 9223372036854775807) : ∃ a c, v = .slice a n c ∧ Ints w a n zs := by
  have hl : zs.length = n := by
    have := h.1
    unfold intsV at this
    rw [List.length_map] at this
    omega
  rcases Nat.eq_zero_or_pos n with h0 | h0
  · subst h0
    rcases h.2 with ⟨rfl, _⟩ | ⟨g, cap, cur, rfl, _⟩
    · exact ⟨none, 0, rfl, hl, hn, .inl rfl⟩
    · exact ⟨_, _, rfl, hl, hn, .inl rfl⟩
  · obtain ⟨g, cap, rfl, hc⟩ := owns_cell h h0
    obtain ⟨hlt, _⟩ := owns_lt h (g := g) rfl
    refine ⟨_, _, rfl, hl, hn, .inr ⟨g, 0, rfl, hlt, fun i x hx => ?_⟩⟩
    rw [Nat.zero_add]
    exact hc i _ (by unfold intsV; rw [List.getElem?_map, hx]; rfl)
theorem owned_base {w : World} {base n : Nat} {v : Value} {e : TypeId} {sz : Nat} {xs : List Value} (h : w.ownsRow base e sz v n xs) {g : Nat} (hg : v.ownBlock = some g) : base ≤ g := by
  rcases h.2 with ⟨rfl, _⟩ | ⟨g', cap, cur, rfl, hb, _⟩
  · cases hg
  · cases hg
    exact hb
theorem wpList_append_ints {w : World} {ops : Array Oper} {rest : List Oper} {o : Oper} {a : Act} {Q : Exit → Act → World → Prop} (hgd : o.guard = none) (s x : Operand)
    (ho : o.op = .call { callee := .builtin .append, args := #[s, x], argTypes := #[57, 57] }) (base : Nat) (v : Value) (n : Nat) (xs : List Int) (hs : a.eval s = v) (hown : w.ownsRow base 3 1 v n (intsV xs))
    (za : Option Addr) (zl zc : Nat) (zs : List Int) (hx : a.eval x = .slice za zl zc) (hc : za = none → zc = 0) (hZ : Ints w za zl zs) (h63 : n + zl ≤ 1000000000) (hbase : base ≤ w.heap.size)
    (h : ∀ v' w', w'.ownsRow base 3 1 v' (n + zl) (intsV (xs ++ zs)) → Below base w w' → wpList Tryz.prog ops Q rest (a.put o.dst v') w') : wpList Tryz.prog ops Q (o :: rest) a w := by
  obtain ⟨i0, hi, hz0, hz1, hz2⟩ := info_parts infoInt
  obtain ⟨hl, _, hz⟩ := hZ
  cases za with
  | none =>
    have hzl : zl = 0 := by
      rcases hz with hz | ⟨b, o, e, _⟩
      · exact hz
      · cases e
    subst hzl
    rw [hc rfl] at hx
    have : zs = [] := List.length_eq_zero_iff.1 hl
    subst this
    refine wpList_append_own_none hgd s x 57 ho base 3 i0 1 Tryz.underlying57 hi v n _ hs hown hx ?_
    refine h v w ?_ (Below.refl _ _)
    rw [List.append_nil]
    exact hown
  | some ad =>
    refine wpList_append_own_at w hgd s x 57 ho base 3 i0 _ 1 8 Tryz.underlying57 hi hz0 hz1 hz2 rfl (by decide) v n _ hs hown ad zl zc (intsV zs) hx (by unfold intsV; rw [List.length_map]; omega) (fun j u hj => ?_) (fun u hu => ?_) (by unfold maxLen; omega) (by omega) hbase ?_
    · unfold intsV at hj
      rw [List.getElem?_map] at hj
      cases hq : zs[j]? with
      | none => rw [hq] at hj; cases hj
      | some y =>
        rw [hq] at hj
        cases hj
        rcases hz with hz | ⟨b, o, e, _, hcc⟩
        · have := (List.getElem?_eq_some_iff.1 hq).1
          omega
        · cases e
          rw [add_none]
          exact hcc j y hq
    · unfold intsV at hu
      obtain ⟨y, _, rfl⟩ := List.mem_map.1 hu
      rfl
    · intro v' w' q1 q2 _ _
      rw [intsV_append] at q1
      exact h v' w' q1 ((Below.refl base w).grown q2 hbase (fun k e => owned_base hown e))
end Go.Proofs.YtgkplmnhmobnnaaGreatDoor

/- Sp: types as plain data, and how a slice of them lies in memory; the row of kinds that schema.New makes of them. -/
namespace Go.Proofs.YtgkplmnhmobnnaaGreatDoor
open Go.RowKit

/-- A type, as it is handed in. -/
structure SpecD where
  name : ByteArray
  expr : ByteArray
  leaf : Bool
  marks : Int
  least : Int
  most : Int
  lines : Bool
def specC (s : SpecD) : List Value := [.string s.name, .string s.expr, .bool s.leaf, .int .i64 s.marks, .int .i64 s.least, .int .i64 s.most, .bool s.lines]
def specV (s : SpecD) : Value := .agg #[.string s.name, .string s.expr, .bool s.leaf, .int .i64 s.marks, .int .i64 s.least, .int .i64 s.most, .bool s.lines]
/-- How the cells of a type lie from a place on. -/
def SpecAt (w : World) (b o : Nat) (s : SpecD) : Prop := w.cell? ⟨b, o, none⟩ = some (.string s.name) ∧ w.cell? ⟨b, o + 1, none⟩ = some (.string s.expr) ∧ w.cell? ⟨b, o + 2, none⟩ = some (.bool s.leaf) ∧ w.cell? ⟨b, o + 3, none⟩ = some (.int .i64 s.marks) ∧ w.cell? ⟨b, o + 4, none⟩ = some (.int .i64 s.least) ∧ w.cell? ⟨b, o + 5, none⟩ = some (.int .i64 s.most) ∧ w.cell? ⟨b, o + 6, none⟩ = some (.bool s.lines)
theorem SpecAt.same {w w' : World} {b o : Nat} {s : SpecD} (h : SpecAt w b o s) (hb : w'.heap[b]? = w.heap[b]?) : SpecAt w' b o s := by
  have e : ∀ k, w'.cell? ⟨b, k, none⟩ = w.cell? ⟨b, k, none⟩ := fun k => World.cell?_of_block hb
  unfold SpecAt
  rw [e, e, e, e, e, e, e]
  exact h
def Specs (w : World) (a : Option Addr) (len : Nat) (l : List SpecD) : Prop :=
  l.length = len ∧ len ≤ 9223372036854775807 ∧ (len = 0 ∨ ∃ b o, a = some ⟨b, o, none⟩ ∧ b < w.heap.size ∧ ∀ i x, l[i]? = some x → SpecAt w b (o + i * 7) x)
theorem Specs.below {w w' : World} {a : Option Addr} {len : Nat} {l : List SpecD} (h : Specs w a len l) (hb : Below w.heap.size w w') : Specs w' a len l := by
  obtain ⟨h1, h2, h3⟩ := h
  refine ⟨h1, h2, ?_⟩
  rcases h3 with h3 | ⟨b, o, e, hlt, hc⟩
  · exact .inl h3
  · exact .inr ⟨b, o, e, Nat.lt_of_lt_of_le hlt hb.size, fun i x hx => (hc i x hx).same (hb.block b hlt)⟩
theorem Specs.at {w : World} {a : Option Addr} {len : Nat} {l : List SpecD} (h : Specs w a len l) {i : Nat} (hi : i < len) : ∃ b o x, a = some ⟨b, o, none⟩ ∧ b < w.heap.size ∧ l[i]? = some x ∧ ∀ W : World, Below w.heap.size w W → SpecAt W b (o + i * 7) x := by
  obtain ⟨h1, _, h3⟩ := h
  rcases h3 with h3 | ⟨b, o, rfl, hlt, hc⟩
  · omega
  · have hx : l[i]? = some (l[i]'(by omega)) := List.getElem?_eq_getElem (by omega)
    exact ⟨b, o, _, rfl, hlt, hx, fun W hb => (hc i _ hx).same (hb.block b hlt)⟩
/-- A kind: a type and its tree, as it lies. -/
abbrev KindD : Type := SpecD × Int × ByteArray × Option Addr × Nat × Nat
def kindC (x : KindD) : List Value := specC x.1 ++ [.int .i64 x.2.1, .string x.2.2.1, .slice x.2.2.2.1 x.2.2.2.2.1 x.2.2.2.2.2]
def flatK : List KindD → List Value
  | [] => []
  | x :: r => kindC x ++ flatK r
def zeroS : SpecD := ⟨⟨#[]⟩, ⟨#[]⟩, false, 0, 0, 0, false⟩
def bareK (s : SpecD) : KindD := (s, 0, ⟨#[]⟩, none, 0, 0)
theorem kindC_length (x : KindD) : (kindC x).length = 10 := rfl
theorem flatK_append (l m : List KindD) : flatK (l ++ m) = flatK l ++ flatK m := by
  induction l with
  | nil => rfl
  | cons e r ih => rw [List.cons_append, flatK, flatK, ih, List.append_assoc]
theorem flatK_length (l : List KindD) : (flatK l).length = l.length * 10 := by
  induction l with
  | nil => rfl
  | cons e r ih => rw [flatK, List.length_append, ih, List.length_cons, kindC_length]; omega
theorem flatK_at : ∀ {l : List KindD} {i : Nat} {x : KindD} {j : Nat} {u : Value}, l[i]? = some x → (kindC x)[j]? = some u → (flatK l)[i * 10 + j]? = some u := by
  intro l
  induction l with
  | nil => intro i x j u h; simp at h
  | cons y r ih =>
    intro i x j u h hj
    have hj10 : j < 10 := by
      have := (List.getElem?_eq_some_iff.1 hj).1
      rw [kindC_length] at this
      exact this
    cases i with
    | zero =>
      simp only [List.getElem?_cons_zero, Option.some.injEq] at h
      subst h
      rw [flatK, Nat.zero_mul, Nat.zero_add, List.getElem?_append_left (by rw [kindC_length]; exact hj10)]
      exact hj
    | succ i =>
      rw [List.getElem?_cons_succ] at h
      rw [flatK, List.getElem?_append_right (by rw [kindC_length]; omega), kindC_length]
      have e : (i + 1) * 10 + j - 10 = i * 10 + j := by omega
      rw [e]
      exact ih h hj
theorem infoKind : (Tryz.prog.info? 76).map (fun i => (i.zero, i.size, i.bytes)) = some (some (.agg #[.string ⟨#[]⟩, .string ⟨#[]⟩, .bool false, .int .i64 0, .int .i64 0, .int .i64 0, .bool false, .int .i64 0, .string ⟨#[]⟩, .slice none 0 0]), 10, 120) := by kernel_rfl
theorem kindC_one (x : KindD) : ∀ u ∈ kindC x, u.oneCell' = true := by
  intro u hu
  simp only [kindC, specC, List.mem_append, List.mem_cons, List.not_mem_nil, or_false] at hu
  rcases hu with (rfl | rfl | rfl | rfl | rfl | rfl | rfl) | (rfl | rfl | rfl) <;> rfl
theorem ten_new (w : World) (x : KindD) (t : TypeId) : ∀ j u, (kindC x)[j]? = some u → (w.alloc (.cells (kindC x).toArray t)).cell? ((⟨w.heap.size, 0, none⟩ : Addr).add j) = some u := by
  intro j u hj
  have hadd : (⟨w.heap.size, 0, none⟩ : Addr).add j = ⟨w.heap.size, j, none⟩ := by unfold Addr.add; split <;> simp_all
  rw [hadd, cell_of_row _ _ j _ _ _ (World.alloc_heap_new w _), List.getElem?_toArray]
  exact hj
/-- A kind more. -/
theorem kind_put (W : World) (base : Nat) (v : Value) (ks : List KindD) (hown : W.ownsRow base 76 10 v ks.length (flatK ks)) (x : KindD) (hlen : ks.length ≤ 1000000) (hbase : base ≤ W.heap.size) (b cap : Nat) (hc : ∀ j u, (kindC x)[j]? = some u → W.cell? ((⟨b, 0, none⟩ : Addr).add j) = some u) :
    ∃ g' cap' W1, (Builtin.append_ #[79, 79] 79 #[v, .slice (some ⟨b, 0, none⟩) 1 cap]).run Tryz.prog W = .ok (.slice (some ⟨g', 0, none⟩) (ks.length + 1) cap') W1 ∧ W1.ownsRow base 76 10 (.slice (some ⟨g', 0, none⟩) (ks.length + 1) cap') (ks ++ [x]).length (flatK (ks ++ [x])) ∧ Below base W W1 := by
  obtain ⟨i0, hi, hz0, hz1, hz2⟩ := info_parts infoKind
  obtain ⟨v', W1, hrun, r1, r2, _, _⟩ := run_append_own_at (P := Tryz.prog) W base 79 79 76 i0 _ 10 120 Tryz.underlying79 hi hz0 hz1 hz2 rfl (by decide) v ks.length _ hown ⟨b, 0, none⟩ 1 cap (kindC x) rfl hc (kindC_one x) (by unfold maxLen; omega) (by omega) hbase
  have e1 : flatK ks ++ kindC x = flatK (ks ++ [x]) := by rw [flatK_append]; simp [flatK]
  rw [e1] at r1
  obtain ⟨g, cap', rfl, _⟩ := owns_cell r1 (Nat.succ_pos _)
  exact ⟨g, cap', W1, hrun, by rw [List.length_append]; exact r1, (Below.refl base W).grown r2 hbase (fun k e => owned_base hown e)⟩
end Go.Proofs.YtgkplmnhmobnnaaGreatDoor
