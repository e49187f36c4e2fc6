/-
  PROVED HERE: what the texts Listed6, Nexts6, RefSays, Bfs, NetNm, ProgAsks, Ways say (each has its own words below).
-/
import Derived.Test.YtofkiaeocfpkeaaGreatDoorRF13
import Derived.Laws.IdiomRangeMap
import Derived.BigQuiet
/- Listed6: reg's listed at every set: its types, rising; nothing that lay before is turned. -/
namespace Go.Proofs.YtofkiaeocfpkeaaGreatDoor
open Go.RowKit

/-- How far the list is: of m the bits of r are left. -/
structure ListI (m r : Nat) (xs : List Int) : Prop where
  lt : r < 65536
  mem : ∀ j : Nat, m.testBit j = true ↔ (r.testBit j = true ∨ (j : Int) ∈ xs)
  nat : ∀ x ∈ xs, ∃ j : Nat, x = (j : Int)
  rise : xs.Pairwise (· < ·)
  low : ∀ x ∈ xs, ∀ j : Nat, r.testBit j = true → x < (j : Int)
  few : ∀ j : Nat, r.testBit j = true → xs.length ≤ j
theorem bit_small {m j : Nat} (h : m < 65536) (hj : m.testBit j = true) : j < 16 := by
  rcases Nat.lt_or_ge j 16 with e | e
  · exact e
  · have : m < 2 ^ j := Nat.lt_of_lt_of_le h (Nat.pow_le_pow_right (n := 2) (by decide) e)
    rw [Nat.testBit_lt_two_pow this] at hj
    cases hj
theorem ListI.on {m k q : Nat} {xs : List Int} (h : ListI m (2 ^ k * (2 * q + 1)) xs) : ListI m ((2 ^ k * (2 * q + 1)) &&& (2 ^ k * (2 * q + 1) - 1)) (xs ++ [(k : Int)]) ∧ xs.length < 16 := by
  have hk := low_is k q
  have hb : ∀ j, ((2 ^ k * (2 * q + 1)) &&& (2 ^ k * (2 * q + 1) - 1)).testBit j = true ↔ ((2 ^ k * (2 * q + 1)).testBit j = true ∧ j ≠ k) := fun j => by
    rw [struck, Bool.and_eq_true, Bool.not_eq_true', decide_eq_false_iff_not]
  have hgt : ∀ j, ((2 ^ k * (2 * q + 1)) &&& (2 ^ k * (2 * q + 1) - 1)).testBit j = true → k < j := fun j hj => by
    obtain ⟨h1, h2⟩ := (hb j).1 hj
    rcases Nat.lt_or_ge j k with e | e
    · rw [low_none k q j e] at h1
      cases h1
    · omega
  refine ⟨⟨Nat.lt_of_le_of_lt Nat.and_le_left h.lt, fun j => ?_, fun x hx => ?_, ?_, fun x hx j hj => ?_, fun j hj => ?_⟩, ?_⟩
  · rw [h.mem, hb, List.mem_append, List.mem_singleton]
    constructor
    · rintro (e | e)
      · by_cases hjk : j = k
        · exact .inr (.inr (by rw [hjk]))
        · exact .inl ⟨e, hjk⟩
      · exact .inr (.inl e)
    · rintro (⟨e, _⟩ | e | e)
      · exact .inl e
      · exact .inr e
      · have : j = k := by omega
        rw [this]
        exact .inl hk
  · rcases List.mem_append.1 hx with e | e
    · exact h.nat x e
    · exact ⟨k, List.mem_singleton.1 e⟩
  · rw [List.pairwise_append]
    refine ⟨h.rise, List.pairwise_singleton _ _, fun x hx y hy => ?_⟩
    rw [List.mem_singleton.1 hy]
    exact h.low x hx k hk
  · have := hgt j hj
    rcases List.mem_append.1 hx with e | e
    · exact h.low x e j ((hb j).1 hj).1
    · rw [List.mem_singleton.1 e]
      omega
  · have h1 := hgt j hj
    have h2 := h.few k hk
    rw [List.length_append, List.length_singleton]
    omega
  · have h1 := h.few k hk
    have h2 := bit_small h.lt hk
    omega
theorem ListI.start {m : Nat} (h : m < 65536) : ListI m m [] := ⟨h, fun j => (by simp), fun x hx => (by cases hx), List.Pairwise.nil, fun x hx => (by cases hx), fun j _ => Nat.zero_le _⟩
end Go.Proofs.YtofkiaeocfpkeaaGreatDoor

/- Nexts6: reg's Begins and Nexts at every right tree, all groups and every word; nothing that lay before is turned. -/
namespace Go.Proofs.YtofkiaeocfpkeaaGreatDoor
open Go.RowKit

/-- The word leads somewhere. -/
def PreD (gs : List Grp) (n : Nat) (t : DataW Unit) (zs : List Int) : Prop := ∃ q, afterS (planF gs n t) (startS (planF gs n t) (firstF gs n t)) zs q
/-- How long the longest beginning is that leads somewhere. -/
def LongD (gs : List Grp) (n : Nat) (t : DataW Unit) (zs : List Int) (i : Nat) : Prop := i ≤ zs.length ∧ PreD gs n t (zs.take i) ∧ (i < zs.length → ¬ PreD gs n t (zs.take (i + 1)))
theorem pre_less {gs : List Grp} {n : Nat} {t : DataW Unit} {xs ys : List Int} (h : PreD gs n t (xs ++ ys)) : PreD gs n t xs := by
  unfold PreD at h ⊢
  obtain ⟨q, hq⟩ := h
  apply Classical.byContradiction
  intro hn
  have : ∀ p, ¬ afterS (planF gs n t) (startS (planF gs n t) (firstF gs n t)) xs p := fun p hp => hn ⟨p, hp⟩
  have h2 := afterS_empty (F := planF gs n t) this ys q
  unfold afterS at hq h2
  rw [List.foldl_append] at hq
  exact h2 hq
theorem long_all {gs : List Grp} {n : Nat} {t : DataW Unit} {zs : List Int} {i : Nat} (h : LongD gs n t zs i) (hp : PreD gs n t zs) : i = zs.length := by
  obtain ⟨h1, _, h3⟩ := h
  rcases Nat.lt_or_ge i zs.length with e | e
  · refine absurd ?_ (h3 e)
    rw [← List.take_append_drop (i + 1) zs] at hp
    exact pre_less hp
  · omega
theorem long_of {gs : List Grp} {n : Nat} {t : DataW Unit} {zs : List Int} {i : Nat} (h : LongD gs n t zs i) (hp : i = zs.length) : PreD gs n t zs := by
  have := h.2.1
  rwa [hp, List.take_of_length_le (Nat.le_refl _)] at this
set_option maxRecDepth 100000 in
set_option maxHeartbeats 1000000 in
theorem begins_calls (n : Nat) (t : DataW Unit) (v : Value) (ga : Option Addr) (gl gc : Nat) (gs : List Grp) (za : Option Addr) (zl zc : Nat) (zs : List Int) (w : World) (h : Ex w n t v) (hN : named n t) (hG : Groups w ga gl gs) (hZ : Ints w za zl zs) (hc : chk n t gs = 0) :
    Calls Tryz.prog 167 #[v, .slice ga gl gc, .slice za zl zc] w fun e w' => ∃ i : Nat, e = .returned (.int .i64 (i : Int)) ∧ LongD gs n t zs i ∧ Below w.heap.size w w' := by
  have hb0 : ∀ o, Below w.heap.size w (w.alloc o) := fun o => (Below.refl _ w).alloc (Nat.le_refl _) _
  have HW : Hid (∀ o, Calls Tryz.prog 37 #[v, .slice ga gl gc, .slice za zl zc] (w.alloc o) fun e w' => ∃ (Bw : Nat) (i : Nat), e = .returned (.tuple #[.pointer (some ⟨Bw, 0, none⟩), .int .i64 (i : Int)]) ∧ LongD gs n t zs i ∧ Below w.heap.size w w') := fun o => by
    refine (walked_calls n t v ga gl gc gs za zl zc zs (w.alloc o) (Ex.below (hb0 o) _ _ _ h) hN (hG.below (hb0 o)) (hZ.below (hb0 o)) hc).mono ?_
    rintro e W ⟨Bw, S, i, rfl, _, ⟨r1, r2, r3⟩, hB⟩
    refine ⟨Bw, i, rfl, ⟨r1, r2, fun hi hp => ?_⟩, (hb0 o).trans (hB.mono (by simp))⟩
    rcases r3 with ⟨e, _⟩ | ⟨_, _, e⟩
    · omega
    · obtain ⟨q, hq⟩ := hp
      exact e q hq
  obtain ⟨k, s, a, len, cap, rfl⟩ : ∃ k s a len cap, v = .agg #[.int .i64 k, .string s, .slice a len cap] := by
    cases n with
    | zero => exact h.elim
    | succ n => obtain ⟨k, s, a, len, cap, ts, _, rfl, _⟩ := h; exact ⟨k, s, a, len, cap, rfl⟩
  clear h hN hG hZ hc hb0
  go_enter Tryz.func167, Tryz.ntmps167
  go_wp2_with fail
  refine (HW.out _).mono ?_
  rintro e W ⟨Bw, i, rfl, hL, hB⟩
  have HE : Hid (LongD gs n t zs i ∧ Below w.heap.size w W) := ⟨hL, hB⟩
  clear hL hB HW
  go_wp2
  go_ret
  exact ⟨i, rfl, HE.out⟩
theorem takes_bit {m : Nat} (hm : m < 65536) (x : Int) : takes m x = true ↔ ∃ j : Nat, x = (j : Int) ∧ m.testBit j = true := by
  have htk : takes m x = (isTy x && m.testBit x.toNat) := by unfold takes isTy; rfl
  rw [htk, Bool.and_eq_true]
  constructor
  · rintro ⟨h1, h2⟩
    refine ⟨x.toNat, ?_, h2⟩
    unfold isTy at h1
    simp at h1
    omega
  · rintro ⟨j, rfl, hj⟩
    have := bit_small hm hj
    refine ⟨by unfold isTy; simp; omega, by simpa using hj⟩
/-- What a set of places takes on leads somewhere. -/
theorem pre_snoc {gs : List Grp} {n : Nat} {t : DataW Unit} {zs : List Int} {S : Nat → Bool} (hF : Sound1 (planF gs n t) (planF gs n t).length) (hS : ∀ q, S q = true ↔ afterS (planF gs n t) (startS (planF gs n t) (firstF gs n t)) zs q) (x : Int) :
    PreD gs n t (zs ++ [x]) ↔ ∃ j : Nat, x = (j : Int) ∧ ∃ (p : Nat) (y : Place), S p = true ∧ (planF gs n t)[p]? = some y ∧ y.1.testBit j = true := by
  unfold PreD
  rw [afterS_snoc]
  constructor
  · rintro ⟨q, a, y, r, k, h1, h2, h3, h4, h5⟩
    obtain ⟨j, rfl, hj⟩ := (takes_bit (hF.mask a y h2) x).1 h3
    exact ⟨j, rfl, a, y, (hS a).2 h1, h2, hj⟩
  · rintro ⟨j, rfl, p, y, h1, h2, h3⟩
    have h0 : y.1 ≠ 0 := fun e => by rw [e] at h3; simp at h3
    obtain ⟨q, e, _⟩ := hF.step h2 h0
    exact ⟨q, p, y, q, 0, (hS p).1 h1, h2, (takes_bit (hF.mask p y h2) _).2 ⟨j, rfl, h3⟩, by rw [e]; rfl, rfl⟩
end Go.Proofs.YtofkiaeocfpkeaaGreatDoor

/- RefSays: what the document calls Accepts, Begins and Nexts answer. -/
namespace Go.Proofs.YtofkiaeocfpkeaaGreatDoor
open Go.RowKit

theorem kinds_right : ∀ (n : Nat) (t : DataW Unit), rightE n t = true → KindsN kindT subs n t := by
  intro n
  induction n with
  | zero => intro t _; trivial
  | succ n ih =>
    intro t h
    rw [rightE, Bool.and_eq_true, List.all_eq_true] at h
    obtain ⟨h1, h2⟩ := h
    refine ⟨?_, fun x hx => ih x (by have := h1 x hx; rw [Bool.and_eq_true] at this; exact this.2)⟩
    unfold shapely at h2
    by_cases k0 : kindT t = 0
    · omega
    · rw [if_neg k0] at h2
      by_cases k1 : kindT t = 1
      · omega
      · rw [if_neg k1] at h2
        by_cases k2 : kindT t = 4 ∨ kindT t = 5 ∨ kindT t = 6
        · omega
        · rw [if_neg k2] at h2
          by_cases k3 : kindT t = 2 ∨ kindT t = 3
          · omega
          · rw [if_neg k3] at h2
            cases h2
/-- No place takes more than sixteen types. -/
def TyN (N : List Node) : Prop := ∀ (i : Nat) (x : Node), N[i]? = some x → x.2.1.length ≤ 16
theorem ty_place {N : List Node} (h : TyN N) : TyN (placeN N) := fun i x hx => by
  rcases place_at hx with e | rfl
  · exact h i x e
  · exact Nat.zero_le _
theorem ty_free {N : List Node} (h : TyN N) (a b : Nat) : TyN (freeN N a b) := fun i x hx => by
  obtain ⟨y, hy, rfl⟩ := modify_at hx
  have := h i y hy
  split <;> exact this
theorem ty_name {N : List Node} (h : TyN N) (c : Nat) {ts : List Int} (ht : ts.length ≤ 16) (b : Nat) : TyN (nameN N c ts b) := fun i x hx => by
  obtain ⟨y, hy, rfl⟩ := modify_at hx
  have := h i y hy
  split
  · exact ht
  · exact this
theorem ty_seq {T : Type} {f : T → Nat → Nat → List Node → List Node} (hf : ∀ x a b N, TyN N → TyN (f x a b N)) : ∀ (l : List T) a b N, TyN N → TyN (seqN f l a b N) := by
  intro l
  induction l with
  | nil => intro a b N h; exact ty_free h a b
  | cons x r ih => intro a b N h; exact ih _ _ _ (hf x _ _ _ (ty_place h))
theorem ty_alt {T : Type} {f : T → Nat → Nat → List Node → List Node} (hf : ∀ x a b N, TyN N → TyN (f x a b N)) : ∀ (l : List T) a b N, TyN N → TyN (altsN f l a b N) := by
  intro l
  induction l with
  | nil => intro a b N h; exact h
  | cons x r ih => intro a b N h; exact ih _ _ _ (hf x _ _ _ h)
theorem ty_lay {T : Type} (K : T → Int) (Ty : T → List Int) (U : T → List T) (hT : ∀ t, (Ty t).length ≤ 16) : ∀ (n : Nat) (t : T) (a b : Nat) (N : List Node), TyN N → TyN (layN K Ty U n t a b N) := by
  intro n
  induction n with
  | zero => intro t a b N h; exact h
  | succ n ih =>
    intro t a b N h
    rw [layN]
    split
    · exact ty_free h a b
    · split
      · exact ty_name (ty_free (ty_place h) _ _) _ (hT t) _
      · split
        · exact ty_seq (fun x a b N h => ih x a b N h) _ _ _ _ h
        · split
          · exact ty_alt (fun x a b N h => ih x a b N h) _ _ _ _ h
          · have h1 : TyN (oneN (layN K Ty U n) (U t) N.length (N.length + 1) (freeN (placeN (placeN N)) a N.length)) := by
              cases U t with
              | nil => exact ty_free (ty_place (ty_place h)) _ _
              | cons x r => exact ih x _ _ _ (ty_free (ty_place (ty_place h)) _ _)
            dsimp only [signN]
            split
            · split
              · exact ty_free h1 _ _
              · exact ty_free (ty_free h1 _ _) _ _
            · split
              · exact ty_free (ty_free h1 _ _) _ _
              · exact ty_free (ty_free (ty_free h1 _ _) _ _) _ _
theorem tyG_few {gs : List Grp} (hr : rightG gs = true) (s : ByteArray) : (tyG gs s).length ≤ 16 := by
  unfold rightG at hr
  rw [Bool.and_eq_true] at hr
  have hr2 := List.all_eq_true.1 hr.2
  clear hr
  induction gs with
  | nil => exact Nat.zero_le _
  | cons g r ih =>
    rw [tyG]
    split
    · have hg := hr2 g (List.mem_cons_self ..)
      unfold rightTs at hg
      rw [Bool.and_eq_true] at hg
      exact of_decide_eq_true hg.1
    · exact ih fun y hy => hr2 y (List.mem_cons_of_mem _ hy)
theorem chk_parts {n : Nat} {t : DataW Unit} {gs : List Grp} (h : chk n t gs = 0) : SK gs n t ∧ rightG gs = true ∧ size subs n t ≤ 200 := by
  obtain ⟨h1, h2, h3⟩ := chk_zero h
  refine ⟨⟨h1, kinds_right n t ?_⟩, h2, h3⟩
  apply checkE_right
  unfold chk at h
  split at h
  · assumption
  · rename_i hc; exact absurd h hc
/-- The document's net of a tree that Check lets by. -/
theorem netF_nets {n : Nat} {t : DataW Unit} {gs : List Grp} (h : chk n t gs = 0) : Nets (netF gs n t) (LangD gs n t) ∧ (netF gs n t).length ≤ 50000 ∧ FewN 50000 (netF gs n t) ∧ TyN (netF gs n t) := by
  obtain ⟨⟨hS, hK⟩, hr, hsz⟩ := chk_parts h
  have hA : Adds twoN (netF gs n t) (4 * size subs n t - 2) (4 * size subs n t) := adds_layM hS (by decide) (by decide)
  have hfew : FewN 0 twoN := fun p x hx => by
    unfold twoN at hx
    rcases place_at hx with hx | rfl
    · rcases place_at hx with hx | rfl
      · simp at hx
      · exact Nat.le_refl _
    · exact Nat.le_refl _
  have hty : TyN twoN := ty_place (ty_place (fun i x hx => by simp at hx))
  refine ⟨net_of kindT (fun t => maskG gs (nameT t)) (tyS gs) subs (fun t a => tyG_mask hr (nameT t) a) (fun s hs e => hs ((tyG_zero hr (nameT s)).2 e)) n t hS hK hA, ?_, (hA.few 0 hfew).more (by omega), ty_lay kindT (tyS gs) subs (fun t => tyG_few hr (nameT t)) n t 0 1 twoN hty⟩
  have := hA.hi
  have e : twoN.length = 2 := rfl
  omega
/-- Each place of the program's leads to the end. -/
theorem place_live {F : List Place} (hF : wf F) (hm : ∀ (i : Nat) (x : Place), F[i]? = some x → x.1 < 65536) : ∀ (m p : Nat), p ≤ m → p < F.length → ∃ k v, Reads F k p v := by
  intro m
  induction m with
  | zero =>
    intro p hp _
    have e0 : p = 0 := by omega
    subst e0
    exact ⟨0, [], rfl, rfl⟩
  | succ m ih =>
    intro p hp hl
    rcases Nat.eq_zero_or_pos p with rfl | hpos
    · exact ⟨0, [], rfl, rfl⟩
    · have hx : F[p]? = some F[p] := List.getElem?_eq_getElem hl
      rcases hF.2 p _ hpos hx with ⟨h1, q, h2, h3, _⟩ | ⟨h1, h2, q, h3, h4, _⟩
      · obtain ⟨k, v, hr⟩ := ih q (by omega) (by omega)
        obtain ⟨j, r, e⟩ := low_bit F[p].1 F[p].1 (Nat.le_refl _) h1
        have hj : F[p].1.testBit j = true := by
          rw [e, Nat.mul_comm, Nat.testBit_mul_two_pow]
          simp
        have hj16 := bit_small (hm p _ hx) hj
        refine ⟨k + 1, (j : Int) :: v, .inr ⟨_, hx, .inr ⟨h1, (j : Int), v, q, rfl, ?_, by rw [h2]; rfl, hr⟩⟩⟩
        unfold takes
        simp
        exact ⟨by omega, hj⟩
      · obtain ⟨k, v, hr⟩ := ih q (by omega) (by omega)
        exact ⟨k + 1, v, .inr ⟨_, hx, .inl ⟨h1, q, h3, hr⟩⟩⟩
theorem via_lt {F : List Place} {N : Nat} (hF : Sound1 F N) : ∀ {k p q : Nat}, p < N → Via F k p q → q < N := by
  intro k
  induction k with
  | zero => rintro p q hp rfl; exact hp
  | succ k ih =>
    intro p q hp hv
    rcases hv with rfl | ⟨x, hx, h0, r, hr, hv⟩
    · exact hp
    · exact ih (hF.lt p x hx h0 r hr) hv
theorem after_ltS {F : List Place} {N first : Nat} (hF : Sound1 F N) (hf : first < N) : ∀ w q, afterS F (startS F first) w q → q < N := by
  intro w
  rcases List.eq_nil_or_concat w with rfl | ⟨u, t, rfl⟩
  · rintro q ⟨k, hv⟩
    exact via_lt hF hf hv
  · rw [List.concat_eq_append, afterS_snoc]
    rintro q ⟨a, x, r, k, _, hx, ht, hr, hv⟩
    have h0 : x.1 ≠ 0 := fun e => by rw [e, takes_zero] at ht; cases ht
    rcases Nat.eq_zero_or_pos a with rfl | hpos
    · rw [hF.wf.1] at hx
      cases hx
      exact absurd rfl h0
    · have hal := (List.getElem?_eq_some_iff.1 hx).1
      rcases hF.wf.2 a x hpos hx with ⟨_, q', e, hlt, _⟩ | ⟨h1, _⟩
      · rw [e] at hr
        cases hr
        exact via_lt hF (by have := hF.len; omega) hv
      · exact absurd h1 h0
theorem pre_lang {n : Nat} {t : DataW Unit} {gs : List Grp} (h : chk n t gs = 0) (w : List Int) : PreD gs n t w ↔ ∃ v, LangD gs n t (w ++ v) := by
  obtain ⟨hF, hf⟩ := plan_sound h
  have h0 := hF.wf.1
  have key : ∀ v, LangD gs n t (w ++ v) ↔ ∃ a k, afterS (planF gs n t) (startS (planF gs n t) (firstF gs n t)) w a ∧ Reads (planF gs n t) k a v := fun v => by
    rw [← after_lang h, reads_after h0 v _ (afterS_shut (startS_shut _ _) w)]
    unfold afterS
    rw [List.foldl_append]
  constructor
  · rintro ⟨q, hq⟩
    obtain ⟨k, v, hr⟩ := place_live hF.wf hF.mask q q (Nat.le_refl _) (after_ltS hF hf w q hq)
    exact ⟨v, (key v).2 ⟨q, k, hq, hr⟩⟩
  · rintro ⟨v, hv⟩
    obtain ⟨a, k, ha, _⟩ := (key v).1 hv
    exact ⟨a, ha⟩
end Go.Proofs.YtofkiaeocfpkeaaGreatDoor

/- RefAsks: what the document's Accepts, Begins and Nexts answer. -/
namespace Go.Proofs.YtofkiaeocfpkeaaGreatDoor
open Go.RowKit

theorem net_ok {w W : World} {Bn n : Nat} {t : DataW Unit} {gs : List Grp} (h : chk n t gs = 0) (hN : NetIn w W Bn (netF gs n t)) : NetOk w W Bn (netF gs n t) := by
  obtain ⟨h1, h2, h3, _⟩ := netF_nets h
  exact ⟨hN, h1.fit, h1.two, h2, h3⟩
/-- Made, and run. -/
theorem ran_of {w : World} {n : Nat} {t : DataW Unit} {v : Value} {ga : Option Addr} {gl gc : Nat} {gs : List Grp} {za : Option Addr} {zl zc : Nat} {zs : List Int} (h : Ex w n t v) (hG : Groups w ga gl gs) (hZ : Ints w za zl zs) (hc : chk n t gs = 0) :
    ∀ X, Below w.heap.size w X → Calls Tryz.prog 44 #[v, .slice ga gl gc] X fun e w' => ∃ Bn, e = .returned (.pointer (some ⟨Bn, 0, none⟩)) ∧ NetOk X w' Bn (netF gs n t) ∧ Below X.heap.size X w' ∧
      Calls Tryz.prog 45 #[.pointer (some ⟨Bn, 0, none⟩), .slice za zl zc] w' fun e w2 => ∃ (a : Addr) (c : Nat) (bs : List Bool) (i : Nat), e = .returned (.tuple #[.slice (some a) (netF gs n t).length c, .int .i64 (i : Int)]) ∧ Bools w2 (some a) (netF gs n t).length bs ∧ ReadM (netF gs n t) zs bs i ∧ Below w'.heap.size w' w2 := fun X hX => by
  obtain ⟨hS, _, hsz⟩ := chk_parts hc
  refine (made_calls n t v ga gl gc gs X (Ex.below hX _ _ _ h) hS (hG.below hX) hsz).mono ?_
  rintro e W ⟨Bn, rfl, hN⟩
  exact ⟨Bn, rfl, net_ok hc hN, hN.bel, run_calls X W Bn _ (net_ok hc hN) (netF_nets hc).2.2.2 za zl zc zs (hZ.below (hX.trans (hN.bel.mono hX.size)))⟩
theorem ran_long {n : Nat} {t : DataW Unit} {gs : List Grp} (hc : chk n t gs = 0) {zs : List Int} {bs : List Bool} {i : Nat} (h : ReadM (netF gs n t) zs bs i) : LongD gs n t zs i := by
  obtain ⟨hN, _⟩ := netF_nets hc
  obtain ⟨h1, h2, h3⟩ := h
  have key : ∀ xs, (∃ q, afterM (netF gs n t) xs q) ↔ PreD gs n t xs := fun xs => by rw [hN.begins, ← pre_lang hc]
  exact ⟨h1, (key _).1 h2.1, fun hi hp => h3 hi ((key _).2 hp)⟩
set_option maxRecDepth 100000 in
set_option maxHeartbeats 2000000 in
theorem refaccepts_calls (n : Nat) (t : DataW Unit) (v : Value) (ga : Option Addr) (gl gc : Nat) (gs : List Grp) (za : Option Addr) (zl zc : Nat) (zs : List Int) (w : World) (h : Ex w n t v) (hN : named n t) (hb : cnt n t ≤ 1152921504606846976) (hG : Groups w ga gl gs) (hZ : Ints w za zl zs) :
    Calls Tryz.prog 54 #[v, .slice ga gl gc, .slice za zl zc] w fun e w' => ∃ b : Bool, e = .returned (.bool b) ∧ (b = true ↔ (chk n t gs = 0 ∧ LangD gs n t zs)) ∧ Below w.heap.size w w' := by
  obtain ⟨k, s, ka, kl, kc, rfl⟩ : ∃ k s a len cap, v = .agg #[.int .i64 k, .string s, .slice a len cap] := by
    cases n with
    | zero => exact h.elim
    | succ n => obtain ⟨k, s, a, len, cap, ts, _, rfl, _⟩ := h; exact ⟨k, s, a, len, cap, rfl⟩
  obtain ⟨w1, hw1⟩ : ∃ w1, w1 = w.alloc (.cells #[.int .i64 k, .string s, .slice ka kl kc] 26) := ⟨_, rfl⟩
  have hB1 : Below w.heap.size w w1 := by rw [hw1]; exact (Below.refl _ w).alloc (Nat.le_refl _) _
  have m0 : w1.heap[w.heap.size]? = some (.cells #[.int .i64 k, .string s, .slice ka kl kc] 26 (0, 0)) := by rw [hw1]; exact World.alloc_heap_new w _
  have hlt1 : w.heap.size < w1.heap.size := (Array.getElem?_eq_some_iff.1 m0).1
  have HK : Hid (∀ X : World, Below w1.heap.size w1 X → X.cell? ⟨w.heap.size, 0, none⟩ = some (.int .i64 k) ∧ X.cell? ⟨w.heap.size, 1, none⟩ = some (.string s) ∧ X.cell? ⟨w.heap.size, 2, none⟩ = some (.slice ka kl kc)) := fun X hX => by
    obtain ⟨a0, a1, a2, _⟩ := cells3 ((hX.block _ hlt1).trans m0)
    exact ⟨a0, a1, a2⟩
  have HW1 : Hid (w.alloc (.cells #[.int .i64 k, .string s, .slice ka kl kc] 26) = w1) := hw1.symm
  have HBW : Hid (∀ X, Below w1.heap.size w1 X → Below w.heap.size w X) := fun X hX => hB1.trans (hX.mono hB1.size)
  have HC : Hid (Calls Tryz.prog 43 #[.agg #[.int .i64 k, .string s, .slice ka kl kc], .slice ga gl gc] w1 fun e w' => e = .returned (.int .i64 (chk n t gs)) ∧ Below w1.heap.size w1 w') := refcheck_calls n t _ ga gl gc gs w1 (Ex.below hB1 _ _ _ h) hN hb (hG.below hB1)
  obtain ⟨q0, q1, q2⟩ := HK.out w1 (Below.refl _ _)
  have hzi : (zl : Int) ≤ 9223372036854775807 := by have := hZ.2.1; omega
  have HZL : Hid (zs.length = zl) := hZ.1
  obtain ⟨f, hf⟩ : ∃ f, chk n t gs = f := ⟨_, rfl⟩
  by_cases hf0 : f ≠ 0
  · have e0 : (f == 0) = false := by simpa using hf0
    have e1 : (f != 0) = true := by simp [bne, e0]
    rw [hf] at HC
    have HF : Hid (chk n t gs ≠ 0) := by rw [hf]; exact hf0
    clear h hN hb hG hB1 m0 hlt1 hw1 hZ hf
    go_enter Tryz.func54, Tryz.ntmps54
    go_wp2_with fail
    rw [HW1.out]
    refine HC.out.mono ?_
    rintro e X ⟨rfl, hX⟩
    have HEND : Hid (Below w.heap.size w X) := HBW.out X hX
    clear hX
    go_wp2
    go_ret
    exact ⟨false, rfl, ⟨fun e => (by cases e), fun e => absurd e.1 HF.out⟩, HEND.out⟩
  · have hf0 : f = 0 := Classical.not_not.1 hf0
    subst hf0
    rw [hf] at HC
    have hb0 : ((0 : Int) != 0) = false := rfl
    have HM : Hid (∀ X, Below w1.heap.size w1 X → _) := fun X hX => ran_of h hG hZ (gc := gc) (zc := zc) hf X (HBW.out X hX)
    have HH : Hid (chk n t gs = 0) := hf
    clear h hN hb hG hB1 m0 hlt1 hw1 hZ hf
    go_enter Tryz.func54, Tryz.ntmps54
    go_wp2_with fail
    rw [HW1.out]
    refine HC.out.mono ?_
    rintro e X ⟨rfl, hX⟩
    have HMX := HM.out X hX
    obtain ⟨r0, r1, r2⟩ := HK.out X hX
    have HBX : Hid (Below w.heap.size w X) := HBW.out X hX
    clear hX HM HC
    go_wp2_with fail
    refine HMX.mono ?_
    rintro e W ⟨Bn, rfl, hNet, hBW, hrun⟩
    have HNet : Hid (NetOk X W Bn (netF gs n t)) := hNet
    have HBB : Hid (Below w.heap.size w W) := HBX.out.trans (hBW.mono HBX.out.size)
    clear hNet hBW HMX
    go_wp2_with fail
    refine hrun.mono ?_
    rintro e W2 ⟨a, c, bs, i, rfl, hbs, hR, hB2⟩
    obtain ⟨hN2, _⟩ := netF_nets HH.out
    have h2 := hN2.two
    obtain ⟨b, o, y, e1, hy, cy⟩ := hbs.at (i := 1) (by omega)
    cases e1
    have c1 := cy W2 (Below.refl _ _)
    have h1i : (1 : Int) < ((netF gs n t).length : Int) := by omega
    have HBE : Hid (Below w.heap.size w W2) := HBB.out.trans (hB2.mono HBB.out.size)
    have hzz : i ≤ zl := by have := hR.1; have := HZL.out; omega
    by_cases hi : i = zl
    · subst hi
      have HE : Hid (y = true ↔ (chk n t gs = 0 ∧ LangD gs n t zs)) := by
        have hlen := HZL.out
        have := hR.2.1.2 1
        rw [hy, ← hlen, List.take_length, hN2.ends] at this
        constructor
        · intro e
          subst e
          exact ⟨HH.out, this.1 rfl⟩
        · intro e
          have := this.2 e.2
          cases this
          rfl
      have hii : ((i : Int) == (i : Int)) = true := by simp
      clear hbs hR hB2 hrun cy hy h2 hN2 hzz
      go_wp2
      go_ret
      exact ⟨y, rfl, HE.out, HBE.out⟩
    · have HE : Hid (false = true ↔ (chk n t gs = 0 ∧ LangD gs n t zs)) := by
        refine ⟨fun e => (by cases e), fun e => ?_⟩
        have hlen := HZL.out
        exfalso
        refine hR.2.2 (by omega) ?_
        rw [hN2.begins]
        exact ⟨zs.drop (i + 1), by rw [List.take_append_drop]; exact e.2⟩
      have hii : ((i : Int) == (zl : Int)) = false := by rw [beq_eq_false_iff_ne]; omega
      clear hbs hR hB2 hrun cy hy h2 hN2 hzz hi
      go_wp2
      go_ret
      exact ⟨false, rfl, HE.out, HBE.out⟩
set_option maxRecDepth 100000 in
set_option maxHeartbeats 2000000 in
theorem refbegins_calls (n : Nat) (t : DataW Unit) (v : Value) (ga : Option Addr) (gl gc : Nat) (gs : List Grp) (za : Option Addr) (zl zc : Nat) (zs : List Int) (w : World) (h : Ex w n t v) (hN : named n t) (hb : cnt n t ≤ 1152921504606846976) (hG : Groups w ga gl gs) (hZ : Ints w za zl zs) :
    Calls Tryz.prog 102 #[v, .slice ga gl gc, .slice za zl zc] w fun e w' => ∃ i : Nat, e = .returned (.int .i64 (i : Int)) ∧ (chk n t gs = 0 → LongD gs n t zs i) ∧ (chk n t gs ≠ 0 → i = 0) ∧ Below w.heap.size w w' := by
  obtain ⟨k, s, ka, kl, kc, rfl⟩ : ∃ k s a len cap, v = .agg #[.int .i64 k, .string s, .slice a len cap] := by
    cases n with
    | zero => exact h.elim
    | succ n => obtain ⟨k, s, a, len, cap, ts, _, rfl, _⟩ := h; exact ⟨k, s, a, len, cap, rfl⟩
  obtain ⟨w1, hw1⟩ : ∃ w1, w1 = w.alloc (.cells #[.int .i64 k, .string s, .slice ka kl kc] 26) := ⟨_, rfl⟩
  have hB1 : Below w.heap.size w w1 := by rw [hw1]; exact (Below.refl _ w).alloc (Nat.le_refl _) _
  have m0 : w1.heap[w.heap.size]? = some (.cells #[.int .i64 k, .string s, .slice ka kl kc] 26 (0, 0)) := by rw [hw1]; exact World.alloc_heap_new w _
  have hlt1 : w.heap.size < w1.heap.size := (Array.getElem?_eq_some_iff.1 m0).1
  have HK : Hid (∀ X : World, Below w1.heap.size w1 X → X.cell? ⟨w.heap.size, 0, none⟩ = some (.int .i64 k) ∧ X.cell? ⟨w.heap.size, 1, none⟩ = some (.string s) ∧ X.cell? ⟨w.heap.size, 2, none⟩ = some (.slice ka kl kc)) := fun X hX => by
    obtain ⟨a0, a1, a2, _⟩ := cells3 ((hX.block _ hlt1).trans m0)
    exact ⟨a0, a1, a2⟩
  have HW1 : Hid (w.alloc (.cells #[.int .i64 k, .string s, .slice ka kl kc] 26) = w1) := hw1.symm
  have HBW : Hid (∀ X, Below w1.heap.size w1 X → Below w.heap.size w X) := fun X hX => hB1.trans (hX.mono hB1.size)
  have HC : Hid (Calls Tryz.prog 43 #[.agg #[.int .i64 k, .string s, .slice ka kl kc], .slice ga gl gc] w1 fun e w' => e = .returned (.int .i64 (chk n t gs)) ∧ Below w1.heap.size w1 w') := refcheck_calls n t _ ga gl gc gs w1 (Ex.below hB1 _ _ _ h) hN hb (hG.below hB1)
  obtain ⟨q0, q1, q2⟩ := HK.out w1 (Below.refl _ _)
  have hzi : (zl : Int) ≤ 9223372036854775807 := by have := hZ.2.1; omega
  have HZL : Hid (zs.length = zl) := hZ.1
  obtain ⟨f, hf⟩ : ∃ f, chk n t gs = f := ⟨_, rfl⟩
  by_cases hf0 : f ≠ 0
  · have e0 : (f == 0) = false := by simpa using hf0
    have e1 : (f != 0) = true := by simp [bne, e0]
    rw [hf] at HC
    have HF : Hid (chk n t gs ≠ 0) := by rw [hf]; exact hf0
    clear h hN hb hG hB1 m0 hlt1 hw1 hZ hf
    go_enter Tryz.func102, Tryz.ntmps102
    go_wp2_with fail
    rw [HW1.out]
    refine HC.out.mono ?_
    rintro e X ⟨rfl, hX⟩
    have HEND : Hid (Below w.heap.size w X) := HBW.out X hX
    clear hX
    go_wp2
    go_ret
    exact ⟨0, rfl, fun e => absurd e HF.out, fun _ => rfl, HEND.out⟩
  · have hf0 : f = 0 := Classical.not_not.1 hf0
    subst hf0
    rw [hf] at HC
    have hb0 : ((0 : Int) != 0) = false := rfl
    have HM : Hid (∀ X, Below w1.heap.size w1 X → _) := fun X hX => ran_of h hG hZ (gc := gc) (zc := zc) hf X (HBW.out X hX)
    have HH : Hid (chk n t gs = 0) := hf
    clear h hN hb hG hB1 m0 hlt1 hw1 hZ hf
    go_enter Tryz.func102, Tryz.ntmps102
    go_wp2_with fail
    rw [HW1.out]
    refine HC.out.mono ?_
    rintro e X ⟨rfl, hX⟩
    have HMX := HM.out X hX
    obtain ⟨r0, r1, r2⟩ := HK.out X hX
    have HBX : Hid (Below w.heap.size w X) := HBW.out X hX
    clear hX HM HC
    go_wp2_with fail
    refine HMX.mono ?_
    rintro e W ⟨Bn, rfl, hNet, hBW, hrun⟩
    have HNet : Hid (NetOk X W Bn (netF gs n t)) := hNet
    have HBB : Hid (Below w.heap.size w W) := HBX.out.trans (hBW.mono HBX.out.size)
    clear hNet hBW HMX
    go_wp2_with fail
    refine hrun.mono ?_
    rintro e W2 ⟨a, c, bs, i, rfl, hbs, hR, hB2⟩
    have HE : Hid (LongD gs n t zs i ∧ Below w.heap.size w W2) := ⟨ran_long HH.out hR, HBB.out.trans (hB2.mono HBB.out.size)⟩
    clear hbs hR hB2 hrun
    go_wp2
    go_ret
    exact ⟨i, rfl, fun _ => HE.out.1, fun e => absurd HH.out e, HE.out.2⟩
end Go.Proofs.YtofkiaeocfpkeaaGreatDoor

/- RefNexts: what the document's Nexts answers. -/
namespace Go.Proofs.YtofkiaeocfpkeaaGreatDoor
open Go.RowKit

theorem pre_small {gs : List Grp} {n : Nat} {t : DataW Unit} {zs : List Int} (hc : chk n t gs = 0) {x : Int} (h : PreD gs n t (zs ++ [x])) : 0 ≤ x ∧ x < 16 := by
  classical
  obtain ⟨hs, _⟩ := plan_sound hc
  rw [pre_snoc hs (S := fun q => decide (afterS (planF gs n t) (startS (planF gs n t) (firstF gs n t)) zs q)) (fun q => by simp)] at h
  obtain ⟨j, rfl, p, y, h1, h2, h3⟩ := h
  have := bit_small (hs.mask p y h2) h3
  omega
/-- What is listed of the first j types. -/
structure NxI (gs : List Grp) (n : Nat) (t : DataW Unit) (zs : List Int) (j : Nat) (xs : List Int) : Prop where
  mem : ∀ x : Int, x ∈ xs ↔ ∃ m : Nat, m < j ∧ x = (m : Int) ∧ PreD gs n t (zs ++ [x])
  rise : xs.Pairwise (· < ·)
  few : xs.length ≤ j
theorem NxI.skip {gs : List Grp} {n : Nat} {t : DataW Unit} {zs : List Int} {j : Nat} {xs : List Int} (h : NxI gs n t zs j xs) (hp : ¬ PreD gs n t (zs ++ [(j : Int)])) : NxI gs n t zs (j + 1) xs := by
  refine ⟨fun x => ?_, h.rise, by have := h.few; omega⟩
  rw [h.mem]
  constructor
  · rintro ⟨m, h1, h2, h3⟩; exact ⟨m, by omega, h2, h3⟩
  · rintro ⟨m, h1, h2, h3⟩
    refine ⟨m, ?_, h2, h3⟩
    rcases Nat.lt_or_ge m j with h | h
    · exact h
    · obtain rfl : m = j := by omega
      rw [h2] at h3
      exact absurd h3 hp
theorem NxI.put {gs : List Grp} {n : Nat} {t : DataW Unit} {zs : List Int} {j : Nat} {xs : List Int} (h : NxI gs n t zs j xs) (hp : PreD gs n t (zs ++ [(j : Int)])) : NxI gs n t zs (j + 1) (xs ++ [(j : Int)]) := by
  refine ⟨fun x => ?_, ?_, by rw [List.length_append, List.length_singleton]; have := h.few; omega⟩
  · rw [List.mem_append, h.mem, List.mem_singleton]
    constructor
    · rintro (⟨m, h1, h2, h3⟩ | rfl)
      · exact ⟨m, by omega, h2, h3⟩
      · exact ⟨j, by omega, rfl, hp⟩
    · rintro ⟨m, h1, h2, h3⟩
      rcases Nat.lt_or_ge m j with h | h
      · exact .inl ⟨m, h, h2, h3⟩
      · exact .inr (by omega)
  · rw [List.pairwise_append]
    refine ⟨h.rise, List.pairwise_singleton _ _, fun a ha b hb => ?_⟩
    obtain ⟨m, h1, h2, _⟩ := (h.mem a).1 ha
    rw [List.mem_singleton] at hb
    omega
theorem NxI.full {gs : List Grp} {n : Nat} {t : DataW Unit} {zs : List Int} {xs : List Int} (hc : chk n t gs = 0) (h : NxI gs n t zs 16 xs) (x : Int) : x ∈ xs ↔ PreD gs n t (zs ++ [x]) := by
  rw [h.mem]
  constructor
  · rintro ⟨m, _, _, h3⟩; exact h3
  · intro hp
    have := pre_small hc hp
    exact ⟨x.toNat, by omega, by omega, hp⟩
theorem NxI.none {gs : List Grp} {n : Nat} {t : DataW Unit} {zs : List Int} {j : Nat} {xs : List Int} (hno : ¬ PreD gs n t zs) (h : NxI gs n t zs j xs) (x : Int) : x ∈ xs ↔ PreD gs n t (zs ++ [x]) := by
  rw [h.mem]
  constructor
  · rintro ⟨m, _, _, h3⟩; exact h3
  · intro hp; exact absurd (pre_less hp) hno
theorem rise_eq : ∀ {a b : List Int}, a.Pairwise (· < ·) → b.Pairwise (· < ·) → (∀ x, x ∈ a ↔ x ∈ b) → a = b := by
  intro a
  induction a with
  | nil =>
    intro b _ _ h
    cases b with
    | nil => rfl
    | cons y r => exact absurd ((h y).2 (List.mem_cons_self ..)) (by simp)
  | cons x r ih =>
    intro b ha hb h
    cases b with
    | nil => exact absurd ((h x).1 (List.mem_cons_self ..)) (by simp)
    | cons y s =>
      obtain ⟨a1, a2⟩ := List.pairwise_cons.1 ha
      obtain ⟨b1, b2⟩ := List.pairwise_cons.1 hb
      have e : x = y := by
        rcases List.mem_cons.1 ((h x).1 (List.mem_cons_self ..)) with e | e
        · exact e
        · rcases List.mem_cons.1 ((h y).2 (List.mem_cons_self ..)) with e' | e'
          · exact e'.symm
          · have := a1 y e'; have := b1 x e; omega
      subst e
      rw [ih a2 b2 fun z => ?_]
      constructor
      · intro hz
        rcases List.mem_cons.1 ((h z).1 (List.mem_cons_of_mem _ hz)) with e | e
        · have := a1 z hz; omega
        · exact e
      · intro hz
        rcases List.mem_cons.1 ((h z).2 (List.mem_cons_of_mem _ hz)) with e | e
        · have := b1 z hz; omega
        · exact e
/-- One type more, wherever the net and the set lie. -/
theorem stepped_of {w0 W W2 : World} {Bn n : Nat} {t : DataW Unit} {gs : List Grp} (hc : chk n t gs = 0) {a : Addr} {c : Nat} {bs : List Bool} {zs : List Int} (hN : NetOk w0 W Bn (netF gs n t)) (hB : Below W.heap.size W W2) (hbs : Bools W2 (some a) (netF gs n t).length bs) (hR : ReadM (netF gs n t) zs bs zs.length) :
    ∀ (X : World) (x : Int), Below W2.heap.size W2 X → Calls Tryz.prog 46 #[.pointer (some ⟨Bn, 0, none⟩), .slice (some a) (netF gs n t).length c, .int .i64 x] X fun e w' => ∃ (a' : Addr) (c' : Nat) (sm : Bool), e = .returned (.tuple #[.slice (some a') (netF gs n t).length c', .bool sm]) ∧ (sm = true ↔ PreD gs n t (zs ++ [x])) ∧ Below X.heap.size X w' := fun X x hX => by
  obtain ⟨hNn, _, _, hty⟩ := netF_nets hc
  refine (step_calls w0 X Bn _ (hN.keep (hB.trans (hX.mono hB.size))) hty a c bs (hbs.below hX) x).mono ?_
  rintro e W3 ⟨a', c', bs', sm, rfl, _, _, hs, hB3⟩
  refine ⟨a', c', sm, rfl, ?_, hB3⟩
  have e1 := hR.2.1.2
  rw [List.take_length] at e1
  rw [hs, pre_lang hc, ← hNn.begins, afterM_snoc, hop_some]
  exact ⟨fun ⟨q, h⟩ => ⟨q, (stepM_congr e1 x q).1 h⟩, fun ⟨q, h⟩ => ⟨q, (stepM_congr e1 x q).2 h⟩⟩
end Go.Proofs.YtofkiaeocfpkeaaGreatDoor

/- Bfs: words by their length and then type by type; a search through words, the short ones first, finds the least. -/
namespace Go.Proofs.YtofkiaeocfpkeaaGreatDoor

/-- Ahead, of two words as long. -/
def lexLt : List Int → List Int → Prop
  | a :: x, b :: y => a < b ∨ (a = b ∧ lexLt x y)
  | _, _ => False
/-- Shorter, or as long and ahead. -/
def shLt (x y : List Int) : Prop := x.length < y.length ∨ (x.length = y.length ∧ lexLt x y)
def shLe (x y : List Int) : Prop := x = y ∨ shLt x y
theorem lexLt_irr : ∀ x : List Int, ¬ lexLt x x := by
  intro x
  induction x with
  | nil => exact fun h => h
  | cons a r ih =>
    rintro (h | h)
    · omega
    · exact ih h.2
theorem lexLt_trans : ∀ {x y z : List Int}, lexLt x y → lexLt y z → lexLt x z := by
  intro x
  induction x with
  | nil => intro y z h; exact h.elim
  | cons a r ih =>
    intro y z h1 h2
    cases y with
    | nil => exact h1.elim
    | cons b y =>
      cases z with
      | nil => exact h2.elim
      | cons c z =>
        rcases h1 with h1 | ⟨rfl, h1⟩
        · rcases h2 with h2 | ⟨rfl, h2⟩
          · exact .inl (by omega)
          · exact .inl h1
        · rcases h2 with h2 | ⟨rfl, h2⟩
          · exact .inl h2
          · exact .inr ⟨rfl, ih h1 h2⟩
theorem shLt_trans {x y z : List Int} (h1 : shLt x y) (h2 : shLt y z) : shLt x z := by
  rcases h1 with h1 | ⟨h1, g1⟩
  · rcases h2 with h2 | ⟨h2, _⟩
    · exact .inl (by omega)
    · exact .inl (by omega)
  · rcases h2 with h2 | ⟨h2, g2⟩
    · exact .inl (by omega)
    · exact .inr ⟨by omega, lexLt_trans g1 g2⟩
theorem shLt_irr (x : List Int) : ¬ shLt x x := by
  rintro (h | h)
  · omega
  · exact lexLt_irr x h.2
theorem shLe_trans {x y z : List Int} (h1 : shLe x y) (h2 : shLe y z) : shLe x z := by
  rcases h1 with rfl | h1
  · exact h2
  · rcases h2 with rfl | h2
    · exact .inr h1
    · exact .inr (shLt_trans h1 h2)
theorem shLe_anti {x y : List Int} (h1 : shLe x y) (h2 : shLe y x) : x = y := by
  rcases h1 with h1 | h1
  · exact h1
  · rcases h2 with h2 | h2
    · exact h2.symm
    · exact (shLt_irr x (shLt_trans h1 h2)).elim
theorem shLe_prefix (u v : List Int) : shLe u (u ++ v) := by
  cases v with
  | nil => rw [List.append_nil]; exact .inl rfl
  | cons a r => exact .inr (.inl (by rw [List.length_append, List.length_cons]; omega))
theorem lexLt_snoc : ∀ {x y : List Int} (a b : Int), lexLt x y → lexLt (x ++ [a]) (y ++ [b]) := by
  intro x
  induction x with
  | nil => intro y a b h; exact h.elim
  | cons c r ih =>
    intro y a b h
    cases y with
    | nil => exact h.elim
    | cons d y =>
      rcases h with h | ⟨h, h'⟩
      · exact .inl h
      · exact .inr ⟨h, ih a b h'⟩
theorem lexLt_last : ∀ (x : List Int) {a b : Int}, a < b → lexLt (x ++ [a]) (x ++ [b]) := by
  intro x
  induction x with
  | nil => intro a b h; exact .inl h
  | cons c r ih => intro a b h; exact .inr ⟨rfl, ih h⟩
theorem shLt_snoc {x y : List Int} (a b : Int) (h : shLt x y) : shLt (x ++ [a]) (y ++ [b]) := by
  rcases h with h | ⟨h, g⟩
  · exact .inl (by simp only [List.length_append, List.length_singleton]; omega)
  · exact .inr ⟨by simp only [List.length_append, List.length_singleton]; omega, lexLt_snoc a b g⟩
theorem shLe_snoc {x y : List Int} (a : Int) (h : shLe x y) : shLe (x ++ [a]) (y ++ [a]) := by
  rcases h with rfl | h
  · exact .inl rfl
  · exact .inr (shLt_snoc a a h)
theorem shLt_last (x : List Int) {a b : Int} (h : a < b) : shLt (x ++ [a]) (x ++ [b]) := .inr ⟨by simp, lexLt_last x h⟩
theorem shLt_more (x : List Int) (a : Int) : shLt x (x ++ [a]) := .inl (by simp)

/-- The search: the words ws are known, those ahead of i are done, of the one at i the types below t. -/
structure Bfs (A : List Int → Nat → Prop) (ws : List (List Int)) (i t : Nat) : Prop where
  root : ws[0]? = some []
  sorted : ws.Pairwise shLt
  apart : ws.Pairwise (fun u v => A u ≠ A v)
  no : ∀ (j : Nat) u, j < i → ws[j]? = some u → ¬ A u 1
  closed : ∀ (j : Nat) u (s : Nat), (j < i ∨ (j = i ∧ s < t)) → s < 16 → ws[j]? = some u → (∃ q, A (u ++ [(s : Int)]) q) → ∃ v ∈ ws, A v = A (u ++ [(s : Int)]) ∧ shLe v (u ++ [(s : Int)])
  upper : ∀ u, ws[i]? = some u → ∀ v ∈ ws, shLt v (u ++ [(t : Int)])
  long : ∀ u ∈ ws, u = [] ∨ ∃ v x, u = v ++ [x]
theorem Bfs.first (A : List Int → Nat → Prop) : Bfs A [[]] 0 0 where
  root := rfl
  sorted := List.pairwise_singleton _ _
  apart := List.pairwise_singleton _ _
  no := fun j u h => by omega
  closed := fun j u s h => by omega
  upper := fun u hu v hv => by
    cases hu
    rw [List.mem_singleton] at hv
    subst hv
    exact shLt_more [] _
  long := fun u hu => .inl (List.mem_singleton.1 hu)
theorem Bfs.skip {A : List Int → Nat → Prop} {ws : List (List Int)} {i t : Nat} (h : Bfs A ws i t) {u : List Int} (hu : ws[i]? = some u) (hn : ¬ ∃ q, A (u ++ [(t : Int)]) q) : Bfs A ws i (t + 1) where
  root := h.root
  sorted := h.sorted
  apart := h.apart
  no := h.no
  closed := fun j v s hj hs hv hq => by
    by_cases e : j = i ∧ s = t
    · obtain ⟨rfl, rfl⟩ := e
      rw [hu] at hv
      cases hv
      exact (hn hq).elim
    · exact h.closed j v s (by omega) hs hv hq
  upper := fun v hv x hx => by
    rw [hu] at hv
    cases hv
    exact shLt_trans (h.upper u hu x hx) (shLt_last u (by omega))
  long := h.long
theorem Bfs.seen {A : List Int → Nat → Prop} {ws : List (List Int)} {i t : Nat} (h : Bfs A ws i t) {u v : List Int} (hu : ws[i]? = some u) (hv : v ∈ ws) (e : A v = A (u ++ [(t : Int)])) : Bfs A ws i (t + 1) where
  root := h.root
  sorted := h.sorted
  apart := h.apart
  no := h.no
  closed := fun j x s hj hs hx hq => by
    by_cases e' : j = i ∧ s = t
    · obtain ⟨rfl, rfl⟩ := e'
      rw [hu] at hx
      cases hx
      exact ⟨v, hv, e, .inr (h.upper u hu v hv)⟩
    · exact h.closed j x s (by omega) hs hx hq
  upper := fun v hv x hx => by
    rw [hu] at hv
    cases hv
    exact shLt_trans (h.upper u hu x hx) (shLt_last u (by omega))
  long := h.long
theorem Bfs.put {A : List Int → Nat → Prop} {ws : List (List Int)} {i t : Nat} (h : Bfs A ws i t) {u : List Int} (hu : ws[i]? = some u) (hn : ∀ v ∈ ws, A v ≠ A (u ++ [(t : Int)])) : Bfs A (ws ++ [u ++ [(t : Int)]]) i (t + 1) := by
  have hi : i < ws.length := (List.getElem?_eq_some_iff.1 hu).1
  have h0 : 0 < ws.length := by omega
  have low : ∀ {j : Nat} {x : List Int}, j ≤ i → (ws ++ [u ++ [(t : Int)]])[j]? = some x → ws[j]? = some x := fun {j x} hj hx => by
    rw [List.getElem?_append_left (by omega)] at hx
    exact hx
  refine ⟨?_, ?_, ?_, ?_, ?_, ?_, ?_⟩
  · rw [List.getElem?_append_left h0]; exact h.root
  · rw [List.pairwise_append]
    refine ⟨h.sorted, List.pairwise_singleton _ _, fun x hx y hy => ?_⟩
    rw [List.mem_singleton] at hy
    subst hy
    exact h.upper u hu x hx
  · rw [List.pairwise_append]
    refine ⟨h.apart, List.pairwise_singleton _ _, fun x hx y hy => ?_⟩
    rw [List.mem_singleton] at hy
    subst hy
    exact hn x hx
  · exact fun j x hj hx => h.no j x hj (low (by omega) hx)
  · intro j x s hj hs hx hq
    have hx' := low (by omega) hx
    by_cases e' : j = i ∧ s = t
    · obtain ⟨rfl, rfl⟩ := e'
      rw [hu] at hx'
      cases hx'
      exact ⟨u ++ [(s : Int)], List.mem_append_right _ (List.mem_singleton.2 rfl), rfl, .inl rfl⟩
    · obtain ⟨v, hv, e, l⟩ := h.closed j x s (by omega) hs hx' hq
      exact ⟨v, List.mem_append_left _ hv, e, l⟩
  · intro v hv x hx
    have hv' := low (Nat.le_refl _) hv
    rw [hu] at hv'
    cases hv'
    rcases List.mem_append.1 hx with hx | hx
    · exact shLt_trans (h.upper u hu x hx) (shLt_last u (by omega))
    · rw [List.mem_singleton] at hx
      subst hx
      exact shLt_last u (by omega)
  · intro x hx
    rcases List.mem_append.1 hx with hx | hx
    · exact h.long x hx
    · exact .inr ⟨u, _, List.mem_singleton.1 hx⟩
theorem pair_at {R : List Int → List Int → Prop} {ws : List (List Int)} (h : ws.Pairwise R) {i j : Nat} {u v : List Int} (hij : i < j) (hu : ws[i]? = some u) (hv : ws[j]? = some v) : R u v := by
  obtain ⟨h1, e1⟩ := List.getElem?_eq_some_iff.1 hu
  obtain ⟨h2, e2⟩ := List.getElem?_eq_some_iff.1 hv
  have := List.pairwise_iff_getElem.1 h i j h1 h2 hij
  rw [e1, e2] at this
  exact this
theorem Bfs.next {A : List Int → Nat → Prop} {ws : List (List Int)} {i : Nat} (h : Bfs A ws i 16) {u : List Int} (hu : ws[i]? = some u) (hn : ¬ A u 1) : Bfs A ws (i + 1) 0 where
  root := h.root
  sorted := h.sorted
  apart := h.apart
  no := fun j v hj hv => by
    by_cases e : j = i
    · subst e
      rw [hu] at hv
      cases hv
      exact hn
    · exact h.no j v (by omega) hv
  closed := fun j v s hj hs hv hq => h.closed j v s (by omega) hs hv hq
  upper := fun v hv x hx => by
    have huv := pair_at h.sorted (Nat.lt_succ_self i) hu hv
    have hxu := h.upper u hu x hx
    exact shLt_trans hxu (shLt_snoc _ _ huv)
  long := h.long
/-- Some word that is not done yet is no greater than any that comes to the end. -/
theorem Bfs.ahead {A : List Int → Nat → Prop} {ws : List (List Int)} {i : Nat} (h : Bfs A ws i 0) (hA : ∀ u v x, A u = A v → A (u ++ [x]) = A (v ++ [x])) (hs : ∀ u x, (∃ q, A (u ++ [x]) q) → 0 ≤ x ∧ x < 16) (hp : ∀ u v, (∃ q, A (u ++ v) q) → ∃ q, A u q) {ys : List Int} (hy : A ys 1) :
    ∃ (k : Nat) (v : List Int), i ≤ k ∧ ws[k]? = some v ∧ shLe v ys := by
  have go : ∀ (r u : List Int), u ++ r = ys → (∃ (j : Nat) (v : List Int), j < i ∧ ws[j]? = some v ∧ A v = A u ∧ shLe v u) → ∃ (k : Nat) (v : List Int), i ≤ k ∧ ws[k]? = some v ∧ shLe v ys := by
    intro r
    induction r with
    | nil =>
      rintro u e ⟨j, v, hj, hv, ev, _⟩
      rw [List.append_nil] at e
      subst e
      exact (h.no j v hj hv (by rw [ev]; exact hy)).elim
    | cons x r ih =>
      rintro u e ⟨j, v, hj, hv, ev, lv⟩
      have hq : ∃ q, A (u ++ [x]) q := hp (u ++ [x]) r ⟨1, by rw [List.append_assoc, List.singleton_append, e]; exact hy⟩
      obtain ⟨x0, x1⟩ := hs u x hq
      obtain ⟨s, rfl⟩ : ∃ s : Nat, x = (s : Int) := ⟨x.toNat, by omega⟩
      have e1 := hA v u (s : Int) ev
      obtain ⟨v', hv', ev', lv'⟩ := h.closed j v s (.inl hj) (by omega) hv (by rw [e1]; exact hq)
      have l2 : shLe v' (u ++ [(s : Int)]) := shLe_trans lv' (shLe_snoc _ lv)
      obtain ⟨k, hk⟩ := List.getElem?_of_mem hv'
      by_cases hki : k < i
      · exact ih (u ++ [(s : Int)]) (by rw [List.append_assoc, List.singleton_append]; exact e) ⟨k, v', hki, hk, by rw [ev', e1], l2⟩
      · refine ⟨k, v', by omega, hk, shLe_trans l2 ?_⟩
        have := shLe_prefix (u ++ [(s : Int)]) r
        rw [List.append_assoc, List.singleton_append, e] at this
        exact this
  by_cases hi : 0 < i
  · exact go ys [] rfl ⟨0, [], hi, h.root, rfl, .inl rfl⟩
  · exact ⟨0, [], by omega, h.root, shLe_prefix [] ys⟩
theorem Bfs.found {A : List Int → Nat → Prop} {ws : List (List Int)} {i : Nat} (h : Bfs A ws i 0) (hA : ∀ u v x, A u = A v → A (u ++ [x]) = A (v ++ [x])) (hs : ∀ u x, (∃ q, A (u ++ [x]) q) → 0 ≤ x ∧ x < 16) (hp : ∀ u v, (∃ q, A (u ++ v) q) → ∃ q, A u q) {u : List Int} (hu : ws[i]? = some u) {ys : List Int} (hy : A ys 1) : shLe u ys := by
  obtain ⟨k, v, hk, hv, l⟩ := h.ahead hA hs hp hy
  by_cases e : k = i
  · subst e
    rw [hu] at hv
    cases hv
    exact l
  · exact shLe_trans (.inr (pair_at h.sorted (by omega) hu hv)) l
theorem Bfs.none {A : List Int → Nat → Prop} {ws : List (List Int)} {i : Nat} (h : Bfs A ws i 0) (hA : ∀ u v x, A u = A v → A (u ++ [x]) = A (v ++ [x])) (hs : ∀ u x, (∃ q, A (u ++ [x]) q) → 0 ≤ x ∧ x < 16) (hp : ∀ u v, (∃ q, A (u ++ v) q) → ∃ q, A u q) (hi : ws.length ≤ i) {ys : List Int} (hy : A ys 1) : False := by
  obtain ⟨k, v, hk, hv, _⟩ := h.ahead hA hs hp hy
  have := (List.getElem?_eq_some_iff.1 hv).1
  omega

/-- A set of places as a number. -/
noncomputable def code (P : Nat → Prop) : List Nat → Nat
  | [] => 0
  | q :: l => (open Classical in if P q then 1 else 0) + 2 * code P l
theorem code_lt (P : Nat → Prop) : ∀ l : List Nat, code P l < 2 ^ l.length := by
  intro l
  induction l with
  | nil => exact Nat.one_pos
  | cons q l ih =>
    rw [code, List.length_cons, Nat.pow_succ]
    split <;> omega
theorem code_same {P Q : Nat → Prop} : ∀ {l : List Nat}, code P l = code Q l → ∀ q ∈ l, P q ↔ Q q := by
  intro l
  induction l with
  | nil => intro _ q hq; cases hq
  | cons a l ih =>
    intro h q hq
    rw [code, code] at h
    have h2 : code P l = code Q l ∧ (P a ↔ Q a) := by
      by_cases hp : P a
      · by_cases hq : Q a
        · rw [if_pos hp, if_pos hq] at h; exact ⟨by omega, by simp [hp, hq]⟩
        · rw [if_pos hp, if_neg hq] at h; omega
      · by_cases hq : Q a
        · rw [if_neg hp, if_pos hq] at h; omega
        · rw [if_neg hp, if_neg hq] at h; exact ⟨by omega, by simp [hp, hq]⟩
    rcases List.mem_cons.1 hq with rfl | hq
    · exact h2.2
    · exact ih h2.1 q hq
theorem few_nats : ∀ (m : Nat) (l : List Nat), l.Nodup → (∀ x ∈ l, x < m) → l.length ≤ m := by
  intro m
  induction m with
  | zero =>
    intro l _ h
    cases l with
    | nil => exact Nat.le_refl _
    | cons a r => exact absurd (h a (List.mem_cons_self ..)) (Nat.not_lt_zero _)
  | succ m ih =>
    intro l hd h
    have h1 := ih (l.erase m) (hd.sublist List.erase_sublist) (fun x hx => by
      rw [hd.mem_erase_iff] at hx
      have := h x hx.2
      omega)
    have h2 := List.length_erase (a := m) (l := l)
    by_cases hm : m ∈ l
    · rw [if_pos hm] at h2; omega
    · rw [if_neg hm] at h2; omega
/-- The words known are few: what comes behind a type is told by the few places nx. -/
theorem Bfs.few {A : List Int → Nat → Prop} {ws : List (List Int)} {i t : Nat} (h : Bfs A ws i t) (nx : List Nat) (G : List Int → Nat → Prop) (hG : ∀ u v x y, (∀ q ∈ nx, G (u ++ [x]) q ↔ G (v ++ [y]) q) → A (u ++ [x]) = A (v ++ [y])) : ws.length ≤ 2 ^ nx.length + 1 := by
  cases ws with
  | nil => exact Nat.zero_le _
  | cons w0 r =>
    obtain rfl : w0 = [] := by have := h.root; simpa using this
    have hl : ∀ u ∈ r, ∃ v x, u = v ++ [x] := fun u hu => by
      rcases h.long u (List.mem_cons_of_mem _ hu) with rfl | h'
      · exact (shLt_irr [] ((List.pairwise_cons.1 h.sorted).1 [] hu)).elim
      · exact h'
    have hd : (r.map fun u => code (G u) nx).Nodup := by
      unfold List.Nodup
      rw [List.pairwise_map]
      refine List.Pairwise.imp_of_mem ?_ (List.pairwise_cons.1 h.apart).2
      intro u v hu hv hne he
      obtain ⟨u', x, rfl⟩ := hl u hu
      obtain ⟨v', y, rfl⟩ := hl v hv
      exact hne (hG u' v' x y (code_same he))
    have := few_nats (2 ^ nx.length) _ hd (fun x hx => by
      obtain ⟨u, _, rfl⟩ := List.mem_map.1 hx
      exact code_lt _ _)
    rw [List.length_map] at this
    rw [List.length_cons]
    omega
end Go.Proofs.YtofkiaeocfpkeaaGreatDoor

/- NetNm: how many places of a net have types of their own; so how many sets of places a word can lead to. -/
namespace Go.Proofs.YtofkiaeocfpkeaaGreatDoor

/-- How many places have types of their own. -/
def nm : List Node → Nat
  | [] => 0
  | x :: r => (if x.2.1 = [] then 0 else 1) + nm r
theorem nm_append (N M : List Node) : nm (N ++ M) = nm N + nm M := by
  induction N with
  | nil => simp [nm]
  | cons x r ih => rw [List.cons_append, nm, nm, ih]; omega
theorem nm_modify {f : Node → Node} (hf : ∀ x, (f x).2.1 = x.2.1) : ∀ (N : List Node) (a : Nat), nm (N.modify a f) = nm N := by
  intro N
  induction N with
  | nil => intro a; simp [nm]
  | cons x r ih =>
    intro a
    cases a with
    | zero => rw [List.modify_zero_cons, nm, nm, hf]
    | succ a => rw [List.modify_succ_cons, nm, nm, ih]
theorem nm_modify_le (f : Node → Node) : ∀ (N : List Node) (a : Nat), nm (N.modify a f) ≤ nm N + 1 := by
  intro N
  induction N with
  | nil => intro a; simp [nm]
  | cons x r ih =>
    intro a
    cases a with
    | zero => rw [List.modify_zero_cons, nm, nm]; split <;> split <;> omega
    | succ a => rw [List.modify_succ_cons, nm, nm]; have := ih a; omega
theorem nm_place (N : List Node) : nm (placeN N) = nm N := by unfold placeN newNode; rw [nm_append]; simp [nm]
theorem nm_free (N : List Node) (a b : Nat) : nm (freeN N a b) = nm N := nm_modify (f := fun x => (x.1 ++ [b], x.2)) (fun _ => rfl) N a
theorem nm_name (N : List Node) (c : Nat) (ts : List Int) (b : Nat) : nm (nameN N c ts b) ≤ nm N + 1 := nm_modify_le _ N c
section
variable {T : Type}
theorem nm_seq {f : T → Nat → Nat → List Node → List Node} {s : T → Nat} : ∀ (l : List T), (∀ x ∈ l, ∀ a b N, nm (f x a b N) ≤ nm N + s x) → ∀ a b N, nm (seqN f l a b N) ≤ nm N + (l.map s).sum := by
  intro l
  induction l with
  | nil => intro _ a b N; rw [seqN, nm_free]; exact Nat.le_add_right ..
  | cons x r ih =>
    intro h a b N
    have h1 := h x (List.mem_cons_self ..) a N.length (placeN N)
    have h2 := ih (fun y hy => h y (List.mem_cons_of_mem _ hy)) N.length b (f x a N.length (placeN N))
    rw [nm_place] at h1
    rw [seqN, List.map_cons, List.sum_cons]
    omega
theorem nm_alt {f : T → Nat → Nat → List Node → List Node} {s : T → Nat} : ∀ (l : List T), (∀ x ∈ l, ∀ a b N, nm (f x a b N) ≤ nm N + s x) → ∀ a b N, nm (altsN f l a b N) ≤ nm N + (l.map s).sum := by
  intro l
  induction l with
  | nil => intro _ a b N; rw [altsN]; exact Nat.le_add_right ..
  | cons x r ih =>
    intro h a b N
    have h1 := h x (List.mem_cons_self ..) a b N
    have h2 := ih (fun y hy => h y (List.mem_cons_of_mem _ hy)) a b (f x a b N)
    rw [altsN, List.map_cons, List.sum_cons]
    omega
variable (K : T → Int) (Ty : T → List Int) (U : T → List T)
theorem nm_lay : ∀ (n : Nat) (t : T) (a b : Nat) (N : List Node), nm (layN K Ty U n t a b N) ≤ nm N + size U n t := by
  intro n
  induction n with
  | zero => intro t a b N; rw [layN]; exact Nat.le_add_right ..
  | succ n ih =>
    intro t a b N
    rw [size, layN]
    split
    · rw [nm_free]; omega
    split
    · have := nm_name (freeN (placeN N) a N.length) N.length (Ty t) b
      rw [nm_free, nm_place] at this
      omega
    split
    · have := nm_seq (s := size U n) (U t) (fun x _ => ih x) a b N
      omega
    split
    · have := nm_alt (s := size U n) (U t) (fun x _ => ih x) a b N
      omega
    dsimp only [signN]
    have h2 : nm (oneN (layN K Ty U n) (U t) N.length (N.length + 1) (freeN (placeN (placeN N)) a N.length)) ≤ nm N + ((U t).map (size U n)).sum := by
      cases hu : U t with
      | nil => rw [oneN, nm_free, nm_place, nm_place]; exact Nat.le_add_right ..
      | cons x r =>
        rw [oneN, List.map_cons, List.sum_cons]
        have := ih x N.length (N.length + 1) (freeN (placeN (placeN N)) a N.length)
        rw [nm_free, nm_place, nm_place] at this
        omega
    split <;> split <;> (repeat rw [nm_free]) <;> omega
end
/-- Where the types of those places lead. -/
def nxs : List Node → List Nat
  | [] => []
  | x :: r => if x.2.1 = [] then nxs r else x.2.2.toNat :: nxs r
theorem nxs_length (N : List Node) : (nxs N).length = nm N := by
  induction N with
  | nil => rfl
  | cons x r ih => rw [nxs, nm]; split <;> simp [ih] <;> omega
theorem nxs_mem : ∀ {N : List Node} {a : Nat} {x : Node} {t : Int} {q : Nat}, N[a]? = some x → t ∈ x.2.1 → x.2.2 = (q : Int) → q ∈ nxs N := by
  intro N
  induction N with
  | nil => intro a x t q h; simp at h
  | cons y r ih =>
    intro a x t q h ht hq
    rw [nxs]
    cases a with
    | zero =>
      simp only [List.getElem?_cons_zero, Option.some.injEq] at h
      subst h
      rw [if_neg (fun e => by rw [e] at ht; cases ht), hq]
      exact List.mem_cons_self ..
    | succ a =>
      rw [List.getElem?_cons_succ] at h
      have := ih h ht hq
      split
      · exact this
      · exact List.mem_cons_of_mem _ this
theorem hop_nxs {F : List Node} {S : Nat → Prop} {t : Int} {q : Nat} (h : hopM F S t q) : q ∈ nxs F := by
  obtain ⟨a, x, _, h1, h2, h3⟩ := h
  exact nxs_mem h1 h2 h3
/-- What is reached behind zs and a word. -/
def behind (F : List Node) (zs : List Int) (u : List Int) : Nat → Prop := afterM F (zs ++ u)
theorem behind_snoc (F : List Node) (zs u : List Int) (x : Int) : behind F zs (u ++ [x]) = stepM F (behind F zs u) x := by
  unfold behind
  rw [← List.append_assoc, afterM_snoc]
theorem behind_same (F : List Node) (zs : List Int) (u v : List Int) (x : Int) (h : behind F zs u = behind F zs v) : behind F zs (u ++ [x]) = behind F zs (v ++ [x]) := by rw [behind_snoc, behind_snoc, h]
/-- A search through F knows few words. -/
theorem few_behind {F : List Node} {zs : List Int} {ws : List (List Int)} {i t : Nat} (h : Bfs (behind F zs) ws i t) : ws.length ≤ 2 ^ nm F + 1 := by
  rw [← nxs_length]
  refine h.few (nxs F) (fun v => hopM F (behind F zs v.dropLast) (v.getLast?.getD 0)) (fun u v x y hq => ?_)
  simp only [List.dropLast_concat, List.getLast?_concat, Option.getD_some] at hq
  rw [behind_snoc, behind_snoc]
  unfold stepM
  have : hopM F (behind F zs u) x = hopM F (behind F zs v) y := by
    funext q
    refine propext ⟨fun h => (hq q (hop_nxs h)).1 h, fun h => (hq q (hop_nxs h)).2 h⟩
  rw [this]
theorem nm_netF (gs : List Grp) (n : Nat) (t : DataW Unit) : nm (netF gs n t) ≤ size subs n t := by
  have := nm_lay kindT (tyS gs) subs n t 0 1 twoN
  have e : nm twoN = 0 := by unfold twoN; rw [nm_place, nm_place]; rfl
  rw [e] at this
  unfold netF layM
  omega
end Go.Proofs.YtofkiaeocfpkeaaGreatDoor

/- ProgAsks: what Begins and Nexts answer of every tree; when two rows are the same; what is light. -/
namespace Go.Proofs.YtofkiaeocfpkeaaGreatDoor
open Go.RowKit

set_option maxRecDepth 100000 in
set_option maxHeartbeats 1000000 in
theorem begins_no (n : Nat) (t : DataW Unit) (v : Value) (ga : Option Addr) (gl gc : Nat) (gs : List Grp) (za : Option Addr) (zl zc : Nat) (w : World) (h : Ex w n t v) (hN : named n t) (hG : Groups w ga gl gs) (hc : chk n t gs ≠ 0) :
    Calls Tryz.prog 167 #[v, .slice ga gl gc, .slice za zl zc] w fun e w' => e = .returned (.int .i64 0) ∧ Below w.heap.size w w' := by
  have HB0 : Hid (∀ o, Below w.heap.size w (w.alloc o)) := fun o => (Below.refl _ w).alloc (Nat.le_refl _) _
  have H1 : Hid (∀ W, Below w.heap.size w W → Calls Tryz.prog 37 #[v, .slice ga gl gc, .slice za zl zc] W fun e w' => ∃ Bw, e = .returned (.tuple #[.pointer (some ⟨Bw, 0, none⟩), .int .i64 0]) ∧ w'.heap[Bw]? = some (.cells #[.slice none 0 0, .map none, .map none] 81 (0, 0)) ∧ Below W.heap.size W w') := fun W hW => walked_no n t v ga gl gc gs za zl zc W (Ex.below hW _ _ _ h) hN (hG.below hW) hc
  obtain ⟨k, s, a, len, cap, rfl⟩ : ∃ k s a len cap, v = .agg #[.int .i64 k, .string s, .slice a len cap] := by
    cases n with
    | zero => exact h.elim
    | succ n => obtain ⟨k, s, a, len, cap, ts, _, rfl, _⟩ := h; exact ⟨k, s, a, len, cap, rfl⟩
  clear h hN hG hc
  go_enter Tryz.func167, Tryz.ntmps167
  go_wp2_with fail
  refine (H1.out _ (HB0.out _)).mono ?_
  rintro e W ⟨Bw, rfl, hM, hW⟩
  have HB : Hid (Below w.heap.size w W) := (HB0.out _).trans (hW.mono (by simp))
  clear hM hW H1
  go_wp2
  go_ret
  exact ⟨rfl, HB.out⟩
theorem begins_any (n : Nat) (t : DataW Unit) (v : Value) (ga : Option Addr) (gl gc : Nat) (gs : List Grp) (za : Option Addr) (zl zc : Nat) (zs : List Int) (w : World) (h : Ex w n t v) (hN : named n t) (hG : Groups w ga gl gs) (hZ : Ints w za zl zs) :
    Calls Tryz.prog 167 #[v, .slice ga gl gc, .slice za zl zc] w fun e w' => ∃ i : Nat, e = .returned (.int .i64 (i : Int)) ∧ (chk n t gs = 0 → LongD gs n t zs i) ∧ (chk n t gs ≠ 0 → i = 0) ∧ Below w.heap.size w w' := by
  by_cases hc : chk n t gs = 0
  · refine (begins_calls n t v ga gl gc gs za zl zc zs w h hN hG hZ hc).mono ?_
    rintro e W ⟨i, rfl, h1, h2⟩
    exact ⟨i, rfl, fun _ => h1, fun e => absurd hc e, h2⟩
  · refine (begins_no n t v ga gl gc gs za zl zc w h hN hG hc).mono ?_
    rintro e W ⟨rfl, h2⟩
    exact ⟨0, rfl, fun e => absurd e hc, fun _ => rfl, h2⟩
set_option maxRecDepth 100000 in
set_option maxHeartbeats 1000000 in
theorem types_nil (w : World) (Bw : Nat) (fv : Value) (h : w.heap[Bw]? = some (.cells #[.slice none 0 0, .map none, .map none] 81 (0, 0))) :
    Calls Tryz.prog 40 #[.pointer (some ⟨Bw, 0, none⟩), fv] w fun e w' => e = .returned (.int .u16 0) ∧ Below w.heap.size w w' := by
  obtain ⟨c0, c1, _⟩ := cells3 h
  have hrg := run_range_nilMap (P := Tryz.prog) w 79 3 198 Tryz.underlying79
  have hnx : ∀ ty, (Instr.next (.pointer (some ⟨w.heap.size, 0, none⟩)) false ty).run Tryz.prog (w.alloc (.mapIter none 0 #[] 0)) = _ := fun ty => run_next_nilMap w ty 0 0 #[]
  have HB0 : Hid (∀ o, Below w.heap.size w (w.alloc o)) := fun o => (Below.refl _ w).alloc (Nat.le_refl _) _
  clear h
  go_enter Tryz.func40, Tryz.ntmps40
  go_wp2
  refine wp_loop_rounds 1 ?_
  rw [rounds_succ]
  go_wp2
  go_ret
  exact ⟨rfl, HB0.out _⟩
set_option maxRecDepth 100000 in
set_option maxHeartbeats 1000000 in
theorem list_calls (w : World) (xa ya : Option Addr) (xc yc : Nat) (xs : List Int) (hx : Ints w xa xs.length xs) (hy : Ints w ya xs.length xs) :
    Calls Tryz.prog 14 #[.slice xa xs.length xc, .slice ya xs.length yc] w fun e w' => e = .returned (.bool true) ∧ Below w.heap.size w w' := by
  obtain ⟨zl, hz⟩ : ∃ zl, xs.length = zl := ⟨_, rfl⟩
  rw [hz] at hx hy ⊢
  have hzi : (zl : Int) ≤ 9223372036854775807 := by have := hx.2.1; omega
  have HX : Hid (∀ (X : World) (i : Nat), Below w.heap.size w X → i < zl → ∃ b o b' o' x, xa = some ⟨b, o, none⟩ ∧ ya = some ⟨b', o', none⟩ ∧ X.cell? ⟨b, o + i, none⟩ = some (.int .i64 x) ∧ X.cell? ⟨b', o' + i, none⟩ = some (.int .i64 x)) := fun X i hX hi => by
    obtain ⟨b, o, x, e1, e2, e3⟩ := hx.at hi
    obtain ⟨b', o', x', f1, f2, f3⟩ := hy.at hi
    rw [e2] at f2
    cases f2
    exact ⟨b, o, b', o', x, e1, f1, e3 X hX, f3 X hX⟩
  have hne : ((zl : Int) != (zl : Int)) = false := by simp
  clear hx hy hz
  go_enter Tryz.func14, Tryz.ntmps14
  go_wp2
  go_loopg [5] (zl + 1) (fun gk v wr => ∃ i : Nat, i ≤ zl ∧ zl < i + gk ∧ v = .int .i64 (i : Int) ∧ Below w.heap.size w wr)
  case atStart => exact ⟨0, Nat.zero_le _, by omega, rfl, Below.refl _ _⟩
  case round =>
    obtain ⟨i, hi, hgk, rfl, hB⟩ := hrel
    by_cases hlt : i < zl
    · obtain ⟨b, o, b', o', x, rfl, rfl, c1, c2⟩ := HX.out wr i hB hlt
      have hii : (i : Int) < (zl : Int) := by omega
      have hi0 : (0 : Int) ≤ (i : Int) := by omega
      have hxx : (x != x) = false := by simp
      have HB : Hid (Below w.heap.size w wr) := hB
      clear hB HX
      go_wp2
      go_quiet (fail)
      go_wp2
      go_roundg (zl - i)
      case measure => omega
      case rel => exact ⟨i + 1, by omega, by omega, by first | rfl | go_num, by first | exact HB.out | exact HB.out.trans ⟨rfl, rfl, rfl, Nat.le_refl _, fun _ _ => rfl⟩⟩
    · obtain rfl : i = zl := by omega
      have hd : decide ((i : Int) < (i : Int)) = false := by simp
      have HB : Hid (Below w.heap.size w wr) := hB
      clear hB HX
      go_wp2
      go_ret
      exact ⟨rfl, HB.out⟩
set_option maxRecDepth 100000 in
theorem light_calls (ga : Option Addr) (gl gc : Nat) (za : Option Addr) (zl zc : Nat) (w : World) :
    Calls Tryz.prog 10 #[.slice ga gl gc, .slice za zl zc] w fun e w' => ∃ b, e = .returned (.bool b) ∧ w' = w := by
  by_cases h1 : decide ((gl : Int) ≤ 16) = true
  · go_enter Tryz.func10, Tryz.ntmps10
    go_wp2
    go_ret
    exact ⟨_, rfl, rfl⟩
  · have h2 : decide ((gl : Int) ≤ 16) = false := by simpa using h1
    clear h1
    go_enter Tryz.func10, Tryz.ntmps10
    go_wp2
    go_ret
    exact ⟨_, rfl, rfl⟩
end Go.Proofs.YtofkiaeocfpkeaaGreatDoor

/- Ways: the ways that the document's Fill keeps, as they lie in memory; one more; whether two sets are the same, and whether one is known. -/
namespace Go.Proofs.YtofkiaeocfpkeaaGreatDoor
open Go.RowKit

theorem infoWay : (Tryz.prog.info? 97).map (fun i => (i.zero, i.size, i.bytes)) = some (some (.agg #[.slice none 0 0, .slice none 0 0]), 2, 48) := by kernel_rfl
/-- A way: where its places lie, what they are; where its types lie, what they are. -/
abbrev Wy : Type := (Addr × Nat × List Bool) × (Option Addr × Nat × List Int)
def wayV (N : Nat) (e : Wy) : List Value := [.slice (some e.1.1) N e.1.2.1, .slice e.2.1 e.2.2.2.length e.2.2.1]
def flatW (N : Nat) : List Wy → List Value
  | [] => []
  | e :: r => wayV N e ++ flatW N r
theorem flatW_append (N : Nat) (l m : List Wy) : flatW N (l ++ m) = flatW N l ++ flatW N m := by
  induction l with
  | nil => rfl
  | cons e r ih => rw [List.cons_append, flatW, flatW, ih, List.append_assoc]
theorem flatW_length (N : Nat) (l : List Wy) : (flatW N l).length = l.length * 2 := by
  induction l with
  | nil => rfl
  | cons e r ih => rw [flatW, List.length_append, ih, List.length_cons]; simp only [wayV, List.length_cons, List.length_nil]; omega
theorem flatW_at {N : Nat} : ∀ {l : List Wy} {i : Nat} {e : Wy}, l[i]? = some e → (flatW N l)[i * 2]? = some (.slice (some e.1.1) N e.1.2.1) ∧ (flatW N l)[i * 2 + 1]? = some (.slice e.2.1 e.2.2.2.length e.2.2.1) := by
  intro l
  induction l with
  | nil => intro i e h; simp at h
  | cons x r ih =>
    intro i e h
    cases i with
    | zero =>
      simp only [List.getElem?_cons_zero, Option.some.injEq] at h
      subst h
      exact ⟨rfl, rfl⟩
    | succ i =>
      rw [List.getElem?_cons_succ] at h
      obtain ⟨h1, h2⟩ := ih h
      rw [flatW]
      have e1 : (i + 1) * 2 = (wayV N x).length + i * 2 := by simp only [wayV, List.length_cons, List.length_nil]; omega
      rw [e1, Nat.add_assoc, List.getElem?_append_right (Nat.le_add_right ..), List.getElem?_append_right (Nat.le_add_right ..), Nat.add_sub_cancel_left, Nat.add_sub_cancel_left]
      exact ⟨h1, h2⟩
structure WayOk (N : Nat) (W : World) (e : Wy) : Prop where
  bools : Bools W (some e.1.1) N e.1.2.2
  row : W.ownsRow 0 3 1 (.slice e.2.1 e.2.2.2.length e.2.2.1) e.2.2.2.length (intsV e.2.2.2)
theorem WayOk.below {N : Nat} {W W' : World} {e : Wy} (h : WayOk N W e) (hB : Below W.heap.size W W') : WayOk N W' e :=
  ⟨h.bools.below hB, owns_same h.row fun g hg => hB.block g (owns_lt h.row hg).1⟩
structure Ways (base : Nat) (W : World) (v : Value) (N : Nat) (es : List Wy) : Prop where
  row : W.ownsRow base 97 2 v es.length (flatW N es)
  ok : ∀ e ∈ es, WayOk N W e
theorem Ways.below {base : Nat} {W W' : World} {v : Value} {N : Nat} {es : List Wy} (h : Ways base W v N es) (hB : Below W.heap.size W W') : Ways base W' v N es :=
  ⟨owns_same h.row fun g hg => hB.block g (owns_lt h.row hg).1, fun e he => (h.ok e he).below hB⟩
theorem Ways.cell {base : Nat} {W : World} {v : Value} {N : Nat} {es : List Wy} (h : Ways base W v N es) (h0 : 0 < es.length) : ∃ g cap, v = .slice (some ⟨g, 0, none⟩) es.length cap ∧ ∀ (X : World), Below W.heap.size W X → ∀ (i : Nat) (e : Wy), es[i]? = some e → X.cell? ⟨g, i * 2, none⟩ = some (.slice (some e.1.1) N e.1.2.1) ∧ X.cell? ⟨g, i * 2 + 1, none⟩ = some (.slice e.2.1 e.2.2.2.length e.2.2.1) := by
  obtain ⟨g, cap, e, hc⟩ := owns_cell h.row h0
  refine ⟨g, cap, e, fun X hX i x hx => ?_⟩
  obtain ⟨f1, f2⟩ := flatW_at (N := N) hx
  have hlt : g < W.heap.size := (owns_lt h.row (g := g) (by rw [e]; rfl)).1
  exact ⟨(hX.cell (p := ⟨g, i * 2, none⟩) hlt).trans (hc _ _ f1), (hX.cell (p := ⟨g, i * 2 + 1, none⟩) hlt).trans (hc _ _ f2)⟩
theorem ways_type : 4 ≠ 97 ∧ 3 ≠ 97 := by decide
/-- What a way says stays, whatever becomes of the row of ways. -/
theorem WayOk.grown {N : Nat} {W W' : World} {e : Wy} {v : Value} {base n : Nat} {xs : List Value} (h : WayOk N W e) (hr : W.ownsRow base 97 2 v n xs) (hg : W.grownBy W' v.ownBlock) : WayOk N W' e := by
  have hne : ∀ k c f t, W.heap[k]? = some (.cells c t f) → t ≠ 97 → some k ≠ v.ownBlock := fun k c f t hk ht he => by
    obtain ⟨_, cur, hcur⟩ := owns_lt hr he.symm
    rw [hcur] at hk
    injection hk with hk
    injection hk with _ h2 _
    exact ht h2.symm
  have hb := h.bools
  refine ⟨⟨hb.1, hb.2.1, ?_⟩, owns_same h.row fun g hg' => ?_⟩
  · rcases hb.2.2 with h0 | ⟨b, o, e', hI, hc⟩
    · exact .inl h0
    · have hl := hI.lt
      obtain ⟨c, f, hh⟩ := hI
      have hsame := hg.block b hl (hne b c f _ hh ways_type.1)
      exact .inr ⟨b, o, e', ⟨c, f, hsame.trans hh⟩, fun i x hx => (World.cell?_of_block hsame).trans (hc i x hx)⟩
  · obtain ⟨hl, cur, hcur⟩ := owns_lt h.row hg'
    exact hg.block g hl (hne g cur _ _ hcur ways_type.2)
/-- One way more. -/
theorem Ways.put {base : Nat} {W : World} {v : Value} {N : Nat} {es : List Wy} (h : Ways base W v N es) (e : Wy) (he : WayOk N W e) (hlen : es.length ≤ 1000000000) (hbase : base ≤ W.heap.size)
    (b cap : Nat) (hc : ∀ j u, (wayV N e)[j]? = some u → W.cell? ((⟨b, 0, none⟩ : Addr).add j) = some u) :
    ∃ v' W1, (Builtin.append_ #[98, 98] 98 #[v, .slice (some ⟨b, 0, none⟩) 1 cap]).run Tryz.prog W = .ok v' W1 ∧ (∃ g' cap', v' = .slice (some ⟨g', 0, none⟩) (es.length + 1) cap') ∧ Ways base W1 v' N (es ++ [e]) ∧ W.grownBy W1 v.ownBlock := by
  obtain ⟨i0, hi, hz0, hz1, hz2⟩ := info_parts infoWay
  obtain ⟨v', W1, hrun, r1, r2, _, _⟩ := run_append_own_at (P := Tryz.prog) W base 98 98 97 i0 _ 2 48 Tryz.underlying98 hi hz0 hz1 hz2 rfl (by decide) v es.length _ h.row ⟨b, 0, none⟩ 1 cap (wayV N e) rfl hc (fun u hu => by
    simp only [wayV, List.mem_cons, List.not_mem_nil, or_false] at hu
    rcases hu with rfl | rfl <;> rfl) (by unfold maxLen; omega) (by omega) hbase
  have e1 : flatW N es ++ wayV N e = flatW N (es ++ [e]) := by rw [flatW_append]; simp [flatW]
  rw [e1] at r1
  refine ⟨v', W1, hrun, ?_, ⟨by rw [List.length_append]; exact r1, fun x hx => ?_⟩, r2⟩
  · obtain ⟨g, cap', e2, _⟩ := owns_cell r1 (Nat.succ_pos _)
    exact ⟨g, cap', e2⟩
  · rcases List.mem_append.1 hx with hx | hx
    · exact (h.ok x hx).grown h.row r2
    · rw [List.mem_singleton] at hx
      subst hx
      exact he.grown h.row r2
set_option maxRecDepth 100000 in
set_option maxHeartbeats 1000000 in
theorem twin_calls (w : World) (xa ya : Option Addr) (xc yc N : Nat) (xs ys : List Bool) (hx : Bools w xa N xs) (hy : Bools w ya N ys) :
    Calls Tryz.prog 98 #[.slice xa N xc, .slice ya N yc] w fun e w' => ∃ r : Bool, e = .returned (.bool r) ∧ (r = true ↔ xs = ys) ∧ Below w.heap.size w w' := by
  have hzi : (N : Int) ≤ 9223372036854775807 := by have := hx.2.1; omega
  have HX : Hid (∀ (X : World) (i : Nat), Below w.heap.size w X → i < N → ∃ b o b' o' x y, xa = some ⟨b, o, none⟩ ∧ ya = some ⟨b', o', none⟩ ∧ X.cell? ⟨b, o + i, none⟩ = some (.bool x) ∧ X.cell? ⟨b', o' + i, none⟩ = some (.bool y) ∧ xs[i]? = some x ∧ ys[i]? = some y) := fun X i hX hi => by
    obtain ⟨b, o, x, e1, e2, e3⟩ := hx.at hi
    obtain ⟨b', o', x', f1, f2, f3⟩ := hy.at hi
    exact ⟨b, o, b', o', x, x', e1, f1, e3 X hX, f3 X hX, e2, f2⟩
  have HL : Hid (xs.length = N ∧ ys.length = N) := ⟨hx.1, hy.1⟩
  clear hx hy
  go_enter Tryz.func98, Tryz.ntmps98
  go_wp2
  go_loopg [5] (N + 1) (fun gk v wr => ∃ i : Nat, i ≤ N ∧ N < i + gk ∧ v = .int .i64 (i : Int) ∧ xs.take i = ys.take i ∧ Below w.heap.size w wr)
  case atStart => exact ⟨0, Nat.zero_le _, by omega, rfl, by simp, Below.refl _ _⟩
  case round =>
    obtain ⟨i, hi, hgk, rfl, hT, hB⟩ := hrel
    by_cases hlt : i < N
    · obtain ⟨b, o, b', o', x, y, rfl, rfl, c1, c2, g1, g2⟩ := HX.out wr i hB hlt
      have hii : (i : Int) < (N : Int) := by omega
      have hi0 : (0 : Int) ≤ (i : Int) := by omega
      by_cases hxy : x = y
      · subst hxy
        have hxx : (x != x) = false := by simp
        have HB : Hid (xs.take (i + 1) = ys.take (i + 1) ∧ Below w.heap.size w wr) := ⟨by rw [List.take_add_one, List.take_add_one, hT, g1, g2], hB⟩
        clear hB HX hT g1 g2
        go_wp2
        go_quiet (fail)
        go_wp2
        go_roundg (N - i)
        case measure => omega
        case rel => exact ⟨i + 1, by omega, by omega, by first | rfl | go_num, HB.out.1, by first | exact HB.out.2 | exact HB.out.2.trans ⟨rfl, rfl, rfl, Nat.le_refl _, fun _ _ => rfl⟩⟩
      · have hxx : (x == y) = false := by simpa using hxy
        have hxx2 : (!(x == y)) = true := by rw [hxx]; rfl
        have HB : Hid (xs ≠ ys ∧ Below w.heap.size w wr) := ⟨fun e => by rw [e, g2] at g1; injection g1 with g1; exact hxy g1.symm, hB⟩
        clear hB HX hT g1 g2
        go_wp2
        go_quiet (fail)
        go_wp2
        go_ret
        exact ⟨false, rfl, ⟨fun e => (by cases e), fun e => absurd e HB.out.1⟩, by first | exact HB.out.2 | exact HB.out.2.trans ⟨rfl, rfl, rfl, Nat.le_refl _, fun _ _ => rfl⟩⟩
    · obtain rfl : i = N := by omega
      have hd : decide ((i : Int) < (i : Int)) = false := by simp
      have HB : Hid (xs = ys ∧ Below w.heap.size w wr) := ⟨by
        have h1 := List.take_of_length_le (l := xs) (i := i) (by have := HL.out.1; omega)
        have h2 := List.take_of_length_le (l := ys) (i := i) (by have := HL.out.2; omega)
        rw [← h1, ← h2, hT], hB⟩
      clear hB HX hT
      go_wp2
      go_ret
      exact ⟨true, rfl, ⟨fun _ => HB.out.1, fun _ => rfl⟩, HB.out.2⟩
end Go.Proofs.YtofkiaeocfpkeaaGreatDoor
