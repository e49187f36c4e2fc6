/-
  PROVED HERE: what the document calls Accepts, Begins and Nexts answer.
-/
import Derived.Test.YtajabenlkmgjeaaDoorNetsD
import Derived.Test.YtajabenlkmgjeaaDoorRefChk
import Derived.Test.YtajabenlkmgjeaaDoorNexts6
/- NetAll: the net of a tree that Check lets by reads its words; what begins a word, for the program's places and for the document's net. -/
namespace Go.Proofs.YtajabenlkmgjeaaDoor
open Go.RowKit

theorem kinds_right : ∀ (n : Nat) (t : DataW Unit), rightE n t = true → KindsN kindT subs n t := by
  intro n
  induction n with
  | zero => intro t _; trivial
  | succ n ih =>
    intro t h
    rw [rightE, Bool.and_eq_true, List.all_eq_true] at h
    obtain ⟨h1, h2⟩ := h
    refine ⟨?_, fun x hx => ih x (by have := h1 x hx; rw [Bool.and_eq_true] at this; exact this.2)⟩
    unfold shapely at h2
    by_cases k0 : kindT t = 0
    · omega
    · rw [if_neg k0] at h2
      by_cases k1 : kindT t = 1
      · omega
      · rw [if_neg k1] at h2
        by_cases k2 : kindT t = 4 ∨ kindT t = 5 ∨ kindT t = 6
        · omega
        · rw [if_neg k2] at h2
          by_cases k3 : kindT t = 2 ∨ kindT t = 3
          · omega
          · rw [if_neg k3] at h2
            cases h2
/-- No place takes more than sixteen types. -/
def TyN (N : List Node) : Prop := ∀ (i : Nat) (x : Node), N[i]? = some x → x.2.1.length ≤ 16
theorem ty_place {N : List Node} (h : TyN N) : TyN (placeN N) := fun i x hx => by
  rcases place_at hx with e | rfl
  · exact h i x e
  · exact Nat.zero_le _
theorem ty_free {N : List Node} (h : TyN N) (a b : Nat) : TyN (freeN N a b) := fun i x hx => by
  obtain ⟨y, hy, rfl⟩ := modify_at hx
  have := h i y hy
  split <;> exact this
theorem ty_name {N : List Node} (h : TyN N) (c : Nat) {ts : List Int} (ht : ts.length ≤ 16) (b : Nat) : TyN (nameN N c ts b) := fun i x hx => by
  obtain ⟨y, hy, rfl⟩ := modify_at hx
  have := h i y hy
  split
  · exact ht
  · exact this
theorem ty_seq {T : Type} {f : T → Nat → Nat → List Node → List Node} (hf : ∀ x a b N, TyN N → TyN (f x a b N)) : ∀ (l : List T) a b N, TyN N → TyN (seqN f l a b N) := by
  intro l
  induction l with
  | nil => intro a b N h; exact ty_free h a b
  | cons x r ih => intro a b N h; exact ih _ _ _ (hf x _ _ _ (ty_place h))
theorem ty_alt {T : Type} {f : T → Nat → Nat → List Node → List Node} (hf : ∀ x a b N, TyN N → TyN (f x a b N)) : ∀ (l : List T) a b N, TyN N → TyN (altsN f l a b N) := by
  intro l
  induction l with
  | nil => intro a b N h; exact h
  | cons x r ih => intro a b N h; exact ih _ _ _ (hf x _ _ _ h)
theorem ty_lay {T : Type} (K : T → Int) (Ty : T → List Int) (U : T → List T) (hT : ∀ t, (Ty t).length ≤ 16) : ∀ (n : Nat) (t : T) (a b : Nat) (N : List Node), TyN N → TyN (layN K Ty U n t a b N) := by
  intro n
  induction n with
  | zero => intro t a b N h; exact h
  | succ n ih =>
    intro t a b N h
    rw [layN]
    split
    · exact ty_free h a b
    · split
      · exact ty_name (ty_free (ty_place h) _ _) _ (hT t) _
      · split
        · exact ty_seq (fun x a b N h => ih x a b N h) _ _ _ _ h
        · split
          · exact ty_alt (fun x a b N h => ih x a b N h) _ _ _ _ h
          · have h1 : TyN (oneN (layN K Ty U n) (U t) N.length (N.length + 1) (freeN (placeN (placeN N)) a N.length)) := by
              cases U t with
              | nil => exact ty_free (ty_place (ty_place h)) _ _
              | cons x r => exact ih x _ _ _ (ty_free (ty_place (ty_place h)) _ _)
            dsimp only [signN]
            split
            · split
              · exact ty_free h1 _ _
              · exact ty_free (ty_free h1 _ _) _ _
            · split
              · exact ty_free (ty_free h1 _ _) _ _
              · exact ty_free (ty_free (ty_free h1 _ _) _ _) _ _
theorem tyG_few {gs : List Grp} (hr : rightG gs = true) (s : ByteArray) : (tyG gs s).length ≤ 16 := by
  unfold rightG at hr
  rw [Bool.and_eq_true] at hr
  have hr2 := List.all_eq_true.1 hr.2
  clear hr
  induction gs with
  | nil => exact Nat.zero_le _
  | cons g r ih =>
    rw [tyG]
    split
    · have hg := hr2 g (List.mem_cons_self ..)
      unfold rightTs at hg
      rw [Bool.and_eq_true] at hg
      exact of_decide_eq_true hg.1
    · exact ih fun y hy => hr2 y (List.mem_cons_of_mem _ hy)
theorem chk_parts {n : Nat} {t : DataW Unit} {gs : List Grp} (h : chk n t gs = 0) : SK gs n t ∧ rightG gs = true ∧ size subs n t ≤ 200 := by
  obtain ⟨h1, h2, h3⟩ := chk_zero h
  refine ⟨⟨h1, kinds_right n t ?_⟩, h2, h3⟩
  apply checkE_right
  unfold chk at h
  split at h
  · assumption
  · rename_i hc; exact absurd h hc
/-- The document's net of a tree that Check lets by. -/
theorem netF_nets {n : Nat} {t : DataW Unit} {gs : List Grp} (h : chk n t gs = 0) : Nets (netF gs n t) (LangD gs n t) ∧ (netF gs n t).length ≤ 50000 ∧ FewN 50000 (netF gs n t) ∧ TyN (netF gs n t) := by
  obtain ⟨⟨hS, hK⟩, hr, hsz⟩ := chk_parts h
  have hA : Adds twoN (netF gs n t) (4 * size subs n t - 2) (4 * size subs n t) := adds_layM hS (by decide) (by decide)
  have hfew : FewN 0 twoN := fun p x hx => by
    unfold twoN at hx
    rcases place_at hx with hx | rfl
    · rcases place_at hx with hx | rfl
      · simp at hx
      · exact Nat.le_refl _
    · exact Nat.le_refl _
  have hty : TyN twoN := ty_place (ty_place (fun i x hx => by simp at hx))
  refine ⟨net_of kindT (fun t => maskG gs (nameT t)) (tyS gs) subs (fun t a => tyG_mask hr (nameT t) a) (fun s hs e => hs ((tyG_zero hr (nameT s)).2 e)) n t hS hK hA, ?_, (hA.few 0 hfew).more (by omega), ty_lay kindT (tyS gs) subs (fun t => tyG_few hr (nameT t)) n t 0 1 twoN hty⟩
  have := hA.hi
  have e : twoN.length = 2 := rfl
  omega
/-- Each place of the program's leads to the end. -/
theorem place_live {F : List Place} (hF : wf F) (hm : ∀ (i : Nat) (x : Place), F[i]? = some x → x.1 < 65536) : ∀ (m p : Nat), p ≤ m → p < F.length → ∃ k v, Reads F k p v := by
  intro m
  induction m with
  | zero =>
    intro p hp _
    have e0 : p = 0 := by omega
    subst e0
    exact ⟨0, [], rfl, rfl⟩
  | succ m ih =>
    intro p hp hl
    rcases Nat.eq_zero_or_pos p with rfl | hpos
    · exact ⟨0, [], rfl, rfl⟩
    · have hx : F[p]? = some F[p] := List.getElem?_eq_getElem hl
      rcases hF.2 p _ hpos hx with ⟨h1, q, h2, h3, _⟩ | ⟨h1, h2, q, h3, h4, _⟩
      · obtain ⟨k, v, hr⟩ := ih q (by omega) (by omega)
        obtain ⟨j, r, e⟩ := low_bit F[p].1 F[p].1 (Nat.le_refl _) h1
        have hj : F[p].1.testBit j = true := by
          rw [e, Nat.mul_comm, Nat.testBit_mul_two_pow]
          simp
        have hj16 := bit_small (hm p _ hx) hj
        refine ⟨k + 1, (j : Int) :: v, .inr ⟨_, hx, .inr ⟨h1, (j : Int), v, q, rfl, ?_, by rw [h2]; rfl, hr⟩⟩⟩
        unfold takes
        simp
        exact ⟨by omega, hj⟩
      · obtain ⟨k, v, hr⟩ := ih q (by omega) (by omega)
        exact ⟨k + 1, v, .inr ⟨_, hx, .inl ⟨h1, q, h3, hr⟩⟩⟩
theorem via_lt {F : List Place} {N : Nat} (hF : Sound1 F N) : ∀ {k p q : Nat}, p < N → Via F k p q → q < N := by
  intro k
  induction k with
  | zero => rintro p q hp rfl; exact hp
  | succ k ih =>
    intro p q hp hv
    rcases hv with rfl | ⟨x, hx, h0, r, hr, hv⟩
    · exact hp
    · exact ih (hF.lt p x hx h0 r hr) hv
theorem after_ltS {F : List Place} {N first : Nat} (hF : Sound1 F N) (hf : first < N) : ∀ w q, afterS F (startS F first) w q → q < N := by
  intro w
  rcases List.eq_nil_or_concat w with rfl | ⟨u, t, rfl⟩
  · rintro q ⟨k, hv⟩
    exact via_lt hF hf hv
  · rw [List.concat_eq_append, afterS_snoc]
    rintro q ⟨a, x, r, k, _, hx, ht, hr, hv⟩
    have h0 : x.1 ≠ 0 := fun e => by rw [e, takes_zero] at ht; cases ht
    rcases Nat.eq_zero_or_pos a with rfl | hpos
    · rw [hF.wf.1] at hx
      cases hx
      exact absurd rfl h0
    · have hal := (List.getElem?_eq_some_iff.1 hx).1
      rcases hF.wf.2 a x hpos hx with ⟨_, q', e, hlt, _⟩ | ⟨h1, _⟩
      · rw [e] at hr
        cases hr
        exact via_lt hF (by have := hF.len; omega) hv
      · exact absurd h1 h0
theorem pre_lang {n : Nat} {t : DataW Unit} {gs : List Grp} (h : chk n t gs = 0) (w : List Int) : PreD gs n t w ↔ ∃ v, LangD gs n t (w ++ v) := by
  obtain ⟨hF, hf⟩ := plan_sound h
  have h0 := hF.wf.1
  have key : ∀ v, LangD gs n t (w ++ v) ↔ ∃ a k, afterS (planF gs n t) (startS (planF gs n t) (firstF gs n t)) w a ∧ Reads (planF gs n t) k a v := fun v => by
    rw [← after_lang h, reads_after h0 v _ (afterS_shut (startS_shut _ _) w)]
    unfold afterS
    rw [List.foldl_append]
  constructor
  · rintro ⟨q, hq⟩
    obtain ⟨k, v, hr⟩ := place_live hF.wf hF.mask q q (Nat.le_refl _) (after_ltS hF hf w q hq)
    exact ⟨v, (key v).2 ⟨q, k, hq, hr⟩⟩
  · rintro ⟨v, hv⟩
    obtain ⟨a, k, ha, _⟩ := (key v).1 hv
    exact ⟨a, ha⟩
end Go.Proofs.YtajabenlkmgjeaaDoor

/- RefAsks: what the document's Accepts, Begins and Nexts answer. -/
namespace Go.Proofs.YtajabenlkmgjeaaDoor
open Go.RowKit

theorem net_ok {w W : World} {Bn n : Nat} {t : DataW Unit} {gs : List Grp} (h : chk n t gs = 0) (hN : NetIn w W Bn (netF gs n t)) : NetOk w W Bn (netF gs n t) := by
  obtain ⟨h1, h2, h3, _⟩ := netF_nets h
  exact ⟨hN, h1.fit, h1.two, h2, h3⟩
/-- Made, and run. -/
theorem ran_of {w : World} {n : Nat} {t : DataW Unit} {v : Value} {ga : Option Addr} {gl gc : Nat} {gs : List Grp} {za : Option Addr} {zl zc : Nat} {zs : List Int} (h : Ex w n t v) (hG : Groups w ga gl gs) (hZ : Ints w za zl zs) (hc : chk n t gs = 0) :
    ∀ X, Below w.heap.size w X → Calls Tryd.prog 26 #[v, .slice ga gl gc] X fun e w' => ∃ Bn, e = .returned (.pointer (some ⟨Bn, 0, none⟩)) ∧ NetOk X w' Bn (netF gs n t) ∧ Below X.heap.size X w' ∧
      Calls Tryd.prog 27 #[.pointer (some ⟨Bn, 0, none⟩), .slice za zl zc] w' fun e w2 => ∃ (a : Addr) (c : Nat) (bs : List Bool) (i : Nat), e = .returned (.tuple #[.slice (some a) (netF gs n t).length c, .int .i64 (i : Int)]) ∧ Bools w2 (some a) (netF gs n t).length bs ∧ ReadM (netF gs n t) zs bs i ∧ Below w'.heap.size w' w2 := fun X hX => by
  obtain ⟨hS, _, hsz⟩ := chk_parts hc
  refine (made_calls n t v ga gl gc gs X (Ex.below hX _ _ _ h) hS (hG.below hX) hsz).mono ?_
  rintro e W ⟨Bn, rfl, hN⟩
  exact ⟨Bn, rfl, net_ok hc hN, hN.bel, run_calls X W Bn _ (net_ok hc hN) (netF_nets hc).2.2.2 za zl zc zs (hZ.below (hX.trans (hN.bel.mono hX.size)))⟩
theorem ran_long {n : Nat} {t : DataW Unit} {gs : List Grp} (hc : chk n t gs = 0) {zs : List Int} {bs : List Bool} {i : Nat} (h : ReadM (netF gs n t) zs bs i) : LongD gs n t zs i := by
  obtain ⟨hN, _⟩ := netF_nets hc
  obtain ⟨h1, h2, h3⟩ := h
  have key : ∀ xs, (∃ q, afterM (netF gs n t) xs q) ↔ PreD gs n t xs := fun xs => by rw [hN.begins, ← pre_lang hc]
  exact ⟨h1, (key _).1 h2.1, fun hi hp => h3 hi ((key _).2 hp)⟩
set_option maxRecDepth 100000 in
set_option maxHeartbeats 2000000 in
theorem refaccepts_calls (n : Nat) (t : DataW Unit) (v : Value) (ga : Option Addr) (gl gc : Nat) (gs : List Grp) (za : Option Addr) (zl zc : Nat) (zs : List Int) (w : World) (h : Ex w n t v) (hN : named n t) (hb : cnt n t ≤ 1152921504606846976) (hG : Groups w ga gl gs) (hZ : Ints w za zl zs) :
    Calls Tryd.prog 11 #[v, .slice ga gl gc, .slice za zl zc] w fun e w' => ∃ b : Bool, e = .returned (.bool b) ∧ (b = true ↔ (chk n t gs = 0 ∧ LangD gs n t zs)) ∧ Below w.heap.size w w' := by
  obtain ⟨k, s, ka, kl, kc, rfl⟩ : ∃ k s a len cap, v = .agg #[.int .i64 k, .string s, .slice a len cap] := by
    cases n with
    | zero => exact h.elim
    | succ n => obtain ⟨k, s, a, len, cap, ts, _, rfl, _⟩ := h; exact ⟨k, s, a, len, cap, rfl⟩
  obtain ⟨w1, hw1⟩ : ∃ w1, w1 = w.alloc (.cells #[.int .i64 k, .string s, .slice ka kl kc] 24) := ⟨_, rfl⟩
  have hB1 : Below w.heap.size w w1 := by rw [hw1]; exact (Below.refl _ w).alloc (Nat.le_refl _) _
  have m0 : w1.heap[w.heap.size]? = some (.cells #[.int .i64 k, .string s, .slice ka kl kc] 24 (0, 0)) := by rw [hw1]; exact World.alloc_heap_new w _
  have hlt1 : w.heap.size < w1.heap.size := (Array.getElem?_eq_some_iff.1 m0).1
  have HK : Hid (∀ X : World, Below w1.heap.size w1 X → X.cell? ⟨w.heap.size, 0, none⟩ = some (.int .i64 k) ∧ X.cell? ⟨w.heap.size, 1, none⟩ = some (.string s) ∧ X.cell? ⟨w.heap.size, 2, none⟩ = some (.slice ka kl kc)) := fun X hX => by
    obtain ⟨a0, a1, a2, _⟩ := cells3 ((hX.block _ hlt1).trans m0)
    exact ⟨a0, a1, a2⟩
  have HW1 : Hid (w.alloc (.cells #[.int .i64 k, .string s, .slice ka kl kc] 24) = w1) := hw1.symm
  have HBW : Hid (∀ X, Below w1.heap.size w1 X → Below w.heap.size w X) := fun X hX => hB1.trans (hX.mono hB1.size)
  have HC : Hid (Calls Tryd.prog 9 #[.agg #[.int .i64 k, .string s, .slice ka kl kc], .slice ga gl gc] w1 fun e w' => e = .returned (.int .i64 (chk n t gs)) ∧ Below w1.heap.size w1 w') := refcheck_calls n t _ ga gl gc gs w1 (Ex.below hB1 _ _ _ h) hN hb (hG.below hB1)
  obtain ⟨q0, q1, q2⟩ := HK.out w1 (Below.refl _ _)
  have hzi : (zl : Int) ≤ 9223372036854775807 := by have := hZ.2.1; omega
  have HZL : Hid (zs.length = zl) := hZ.1
  obtain ⟨f, hf⟩ : ∃ f, chk n t gs = f := ⟨_, rfl⟩
  by_cases hf0 : f ≠ 0
  · have e0 : (f == 0) = false := by simpa using hf0
    have e1 : (f != 0) = true := by simp [bne, e0]
    rw [hf] at HC
    have HF : Hid (chk n t gs ≠ 0) := by rw [hf]; exact hf0
    clear h hN hb hG hB1 m0 hlt1 hw1 hZ hf
    go_enter Tryd.func11, Tryd.ntmps11
    go_wp2_with fail
    rw [HW1.out]
    refine HC.out.mono ?_
    rintro e X ⟨rfl, hX⟩
    have HEND : Hid (Below w.heap.size w X) := HBW.out X hX
    clear hX
    go_wp2
    go_ret
    exact ⟨false, rfl, ⟨fun e => (by cases e), fun e => absurd e.1 HF.out⟩, HEND.out⟩
  · have hf0 : f = 0 := Classical.not_not.1 hf0
    subst hf0
    rw [hf] at HC
    have hb0 : ((0 : Int) != 0) = false := rfl
    have HM : Hid (∀ X, Below w1.heap.size w1 X → _) := fun X hX => ran_of h hG hZ (gc := gc) (zc := zc) hf X (HBW.out X hX)
    have HH : Hid (chk n t gs = 0) := hf
    clear h hN hb hG hB1 m0 hlt1 hw1 hZ hf
    go_enter Tryd.func11, Tryd.ntmps11
    go_wp2_with fail
    rw [HW1.out]
    refine HC.out.mono ?_
    rintro e X ⟨rfl, hX⟩
    have HMX := HM.out X hX
    obtain ⟨r0, r1, r2⟩ := HK.out X hX
    have HBX : Hid (Below w.heap.size w X) := HBW.out X hX
    clear hX HM HC
    go_wp2_with fail
    refine HMX.mono ?_
    rintro e W ⟨Bn, rfl, hNet, hBW, hrun⟩
    have HNet : Hid (NetOk X W Bn (netF gs n t)) := hNet
    have HBB : Hid (Below w.heap.size w W) := HBX.out.trans (hBW.mono HBX.out.size)
    clear hNet hBW HMX
    go_wp2_with fail
    refine hrun.mono ?_
    rintro e W2 ⟨a, c, bs, i, rfl, hbs, hR, hB2⟩
    obtain ⟨hN2, _⟩ := netF_nets HH.out
    have h2 := hN2.two
    obtain ⟨b, o, y, e1, hy, cy⟩ := hbs.at (i := 1) (by omega)
    cases e1
    have c1 := cy W2 (Below.refl _ _)
    have h1i : (1 : Int) < ((netF gs n t).length : Int) := by omega
    have HBE : Hid (Below w.heap.size w W2) := HBB.out.trans (hB2.mono HBB.out.size)
    have hzz : i ≤ zl := by have := hR.1; have := HZL.out; omega
    by_cases hi : i = zl
    · subst hi
      have HE : Hid (y = true ↔ (chk n t gs = 0 ∧ LangD gs n t zs)) := by
        have hlen := HZL.out
        have := hR.2.1.2 1
        rw [hy, ← hlen, List.take_length, hN2.ends] at this
        constructor
        · intro e
          subst e
          exact ⟨HH.out, this.1 rfl⟩
        · intro e
          have := this.2 e.2
          cases this
          rfl
      have hii : ((i : Int) == (i : Int)) = true := by simp
      clear hbs hR hB2 hrun cy hy h2 hN2 hzz
      go_wp2
      go_ret
      exact ⟨y, rfl, HE.out, HBE.out⟩
    · have HE : Hid (false = true ↔ (chk n t gs = 0 ∧ LangD gs n t zs)) := by
        refine ⟨fun e => (by cases e), fun e => ?_⟩
        have hlen := HZL.out
        exfalso
        refine hR.2.2 (by omega) ?_
        rw [hN2.begins]
        exact ⟨zs.drop (i + 1), by rw [List.take_append_drop]; exact e.2⟩
      have hii : ((i : Int) == (zl : Int)) = false := by rw [beq_eq_false_iff_ne]; omega
      clear hbs hR hB2 hrun cy hy h2 hN2 hzz hi
      go_wp2
      go_ret
      exact ⟨false, rfl, HE.out, HBE.out⟩
set_option maxRecDepth 100000 in
set_option maxHeartbeats 2000000 in
theorem refbegins_calls (n : Nat) (t : DataW Unit) (v : Value) (ga : Option Addr) (gl gc : Nat) (gs : List Grp) (za : Option Addr) (zl zc : Nat) (zs : List Int) (w : World) (h : Ex w n t v) (hN : named n t) (hb : cnt n t ≤ 1152921504606846976) (hG : Groups w ga gl gs) (hZ : Ints w za zl zs) :
    Calls Tryd.prog 13 #[v, .slice ga gl gc, .slice za zl zc] w fun e w' => ∃ i : Nat, e = .returned (.int .i64 (i : Int)) ∧ (chk n t gs = 0 → LongD gs n t zs i) ∧ (chk n t gs ≠ 0 → i = 0) ∧ Below w.heap.size w w' := by
  obtain ⟨k, s, ka, kl, kc, rfl⟩ : ∃ k s a len cap, v = .agg #[.int .i64 k, .string s, .slice a len cap] := by
    cases n with
    | zero => exact h.elim
    | succ n => obtain ⟨k, s, a, len, cap, ts, _, rfl, _⟩ := h; exact ⟨k, s, a, len, cap, rfl⟩
  obtain ⟨w1, hw1⟩ : ∃ w1, w1 = w.alloc (.cells #[.int .i64 k, .string s, .slice ka kl kc] 24) := ⟨_, rfl⟩
  have hB1 : Below w.heap.size w w1 := by rw [hw1]; exact (Below.refl _ w).alloc (Nat.le_refl _) _
  have m0 : w1.heap[w.heap.size]? = some (.cells #[.int .i64 k, .string s, .slice ka kl kc] 24 (0, 0)) := by rw [hw1]; exact World.alloc_heap_new w _
  have hlt1 : w.heap.size < w1.heap.size := (Array.getElem?_eq_some_iff.1 m0).1
  have HK : Hid (∀ X : World, Below w1.heap.size w1 X → X.cell? ⟨w.heap.size, 0, none⟩ = some (.int .i64 k) ∧ X.cell? ⟨w.heap.size, 1, none⟩ = some (.string s) ∧ X.cell? ⟨w.heap.size, 2, none⟩ = some (.slice ka kl kc)) := fun X hX => by
    obtain ⟨a0, a1, a2, _⟩ := cells3 ((hX.block _ hlt1).trans m0)
    exact ⟨a0, a1, a2⟩
  have HW1 : Hid (w.alloc (.cells #[.int .i64 k, .string s, .slice ka kl kc] 24) = w1) := hw1.symm
  have HBW : Hid (∀ X, Below w1.heap.size w1 X → Below w.heap.size w X) := fun X hX => hB1.trans (hX.mono hB1.size)
  have HC : Hid (Calls Tryd.prog 9 #[.agg #[.int .i64 k, .string s, .slice ka kl kc], .slice ga gl gc] w1 fun e w' => e = .returned (.int .i64 (chk n t gs)) ∧ Below w1.heap.size w1 w') := refcheck_calls n t _ ga gl gc gs w1 (Ex.below hB1 _ _ _ h) hN hb (hG.below hB1)
  obtain ⟨q0, q1, q2⟩ := HK.out w1 (Below.refl _ _)
  have hzi : (zl : Int) ≤ 9223372036854775807 := by have := hZ.2.1; omega
  have HZL : Hid (zs.length = zl) := hZ.1
  obtain ⟨f, hf⟩ : ∃ f, chk n t gs = f := ⟨_, rfl⟩
  by_cases hf0 : f ≠ 0
  · have e0 : (f == 0) = false := by simpa using hf0
    have e1 : (f != 0) = true := by simp [bne, e0]
    rw [hf] at HC
    have HF : Hid (chk n t gs ≠ 0) := by rw [hf]; exact hf0
    clear h hN hb hG hB1 m0 hlt1 hw1 hZ hf
    go_enter Tryd.func13, Tryd.ntmps13
    go_wp2_with fail
    rw [HW1.out]
    refine HC.out.mono ?_
    rintro e X ⟨rfl, hX⟩
    have HEND : Hid (Below w.heap.size w X) := HBW.out X hX
    clear hX
    go_wp2
    go_ret
    exact ⟨0, rfl, fun e => absurd e HF.out, fun _ => rfl, HEND.out⟩
  · have hf0 : f = 0 := Classical.not_not.1 hf0
    subst hf0
    rw [hf] at HC
    have hb0 : ((0 : Int) != 0) = false := rfl
    have HM : Hid (∀ X, Below w1.heap.size w1 X → _) := fun X hX => ran_of h hG hZ (gc := gc) (zc := zc) hf X (HBW.out X hX)
    have HH : Hid (chk n t gs = 0) := hf
    clear h hN hb hG hB1 m0 hlt1 hw1 hZ hf
    go_enter Tryd.func13, Tryd.ntmps13
    go_wp2_with fail
    rw [HW1.out]
    refine HC.out.mono ?_
    rintro e X ⟨rfl, hX⟩
    have HMX := HM.out X hX
    obtain ⟨r0, r1, r2⟩ := HK.out X hX
    have HBX : Hid (Below w.heap.size w X) := HBW.out X hX
    clear hX HM HC
    go_wp2_with fail
    refine HMX.mono ?_
    rintro e W ⟨Bn, rfl, hNet, hBW, hrun⟩
    have HNet : Hid (NetOk X W Bn (netF gs n t)) := hNet
    have HBB : Hid (Below w.heap.size w W) := HBX.out.trans (hBW.mono HBX.out.size)
    clear hNet hBW HMX
    go_wp2_with fail
    refine hrun.mono ?_
    rintro e W2 ⟨a, c, bs, i, rfl, hbs, hR, hB2⟩
    have HE : Hid (LongD gs n t zs i ∧ Below w.heap.size w W2) := ⟨ran_long HH.out hR, HBB.out.trans (hB2.mono HBB.out.size)⟩
    clear hbs hR hB2 hrun
    go_wp2
    go_ret
    exact ⟨i, rfl, fun _ => HE.out.1, fun e => absurd HH.out e, HE.out.2⟩
end Go.Proofs.YtajabenlkmgjeaaDoor

/- RefNexts: what the document's Nexts answers. -/
namespace Go.Proofs.YtajabenlkmgjeaaDoor
open Go.RowKit

theorem pre_small {gs : List Grp} {n : Nat} {t : DataW Unit} {zs : List Int} (hc : chk n t gs = 0) {x : Int} (h : PreD gs n t (zs ++ [x])) : 0 ≤ x ∧ x < 16 := by
  classical
  obtain ⟨hs, _⟩ := plan_sound hc
  rw [pre_snoc hs (S := fun q => decide (afterS (planF gs n t) (startS (planF gs n t) (firstF gs n t)) zs q)) (fun q => by simp)] at h
  obtain ⟨j, rfl, p, y, h1, h2, h3⟩ := h
  have := bit_small (hs.mask p y h2) h3
  omega
/-- What is listed of the first j types. -/
structure NxI (gs : List Grp) (n : Nat) (t : DataW Unit) (zs : List Int) (j : Nat) (xs : List Int) : Prop where
  mem : ∀ x : Int, x ∈ xs ↔ ∃ m : Nat, m < j ∧ x = (m : Int) ∧ PreD gs n t (zs ++ [x])
  rise : xs.Pairwise (· < ·)
  few : xs.length ≤ j
theorem NxI.skip {gs : List Grp} {n : Nat} {t : DataW Unit} {zs : List Int} {j : Nat} {xs : List Int} (h : NxI gs n t zs j xs) (hp : ¬ PreD gs n t (zs ++ [(j : Int)])) : NxI gs n t zs (j + 1) xs := by
  refine ⟨fun x => ?_, h.rise, by have := h.few; omega⟩
  rw [h.mem]
  constructor
  · rintro ⟨m, h1, h2, h3⟩; exact ⟨m, by omega, h2, h3⟩
  · rintro ⟨m, h1, h2, h3⟩
    refine ⟨m, ?_, h2, h3⟩
    rcases Nat.lt_or_ge m j with h | h
    · exact h
    · obtain rfl : m = j := by omega
      rw [h2] at h3
      exact absurd h3 hp
theorem NxI.put {gs : List Grp} {n : Nat} {t : DataW Unit} {zs : List Int} {j : Nat} {xs : List Int} (h : NxI gs n t zs j xs) (hp : PreD gs n t (zs ++ [(j : Int)])) : NxI gs n t zs (j + 1) (xs ++ [(j : Int)]) := by
  refine ⟨fun x => ?_, ?_, by rw [List.length_append, List.length_singleton]; have := h.few; omega⟩
  · rw [List.mem_append, h.mem, List.mem_singleton]
    constructor
    · rintro (⟨m, h1, h2, h3⟩ | rfl)
      · exact ⟨m, by omega, h2, h3⟩
      · exact ⟨j, by omega, rfl, hp⟩
    · rintro ⟨m, h1, h2, h3⟩
      rcases Nat.lt_or_ge m j with h | h
      · exact .inl ⟨m, h, h2, h3⟩
      · exact .inr (by omega)
  · rw [List.pairwise_append]
    refine ⟨h.rise, List.pairwise_singleton _ _, fun a ha b hb => ?_⟩
    obtain ⟨m, h1, h2, _⟩ := (h.mem a).1 ha
    rw [List.mem_singleton] at hb
    omega
theorem NxI.full {gs : List Grp} {n : Nat} {t : DataW Unit} {zs : List Int} {xs : List Int} (hc : chk n t gs = 0) (h : NxI gs n t zs 16 xs) (x : Int) : x ∈ xs ↔ PreD gs n t (zs ++ [x]) := by
  rw [h.mem]
  constructor
  · rintro ⟨m, _, _, h3⟩; exact h3
  · intro hp
    have := pre_small hc hp
    exact ⟨x.toNat, by omega, by omega, hp⟩
theorem NxI.none {gs : List Grp} {n : Nat} {t : DataW Unit} {zs : List Int} {j : Nat} {xs : List Int} (hno : ¬ PreD gs n t zs) (h : NxI gs n t zs j xs) (x : Int) : x ∈ xs ↔ PreD gs n t (zs ++ [x]) := by
  rw [h.mem]
  constructor
  · rintro ⟨m, _, _, h3⟩; exact h3
  · intro hp; exact absurd (pre_less hp) hno
theorem rise_eq : ∀ {a b : List Int}, a.Pairwise (· < ·) → b.Pairwise (· < ·) → (∀ x, x ∈ a ↔ x ∈ b) → a = b := by
  intro a
  induction a with
  | nil =>
    intro b _ _ h
    cases b with
    | nil => rfl
    | cons y r => exact absurd ((h y).2 (List.mem_cons_self ..)) (by simp)
  | cons x r ih =>
    intro b ha hb h
    cases b with
    | nil => exact absurd ((h x).1 (List.mem_cons_self ..)) (by simp)
    | cons y s =>
      obtain ⟨a1, a2⟩ := List.pairwise_cons.1 ha
      obtain ⟨b1, b2⟩ := List.pairwise_cons.1 hb
      have e : x = y := by
        rcases List.mem_cons.1 ((h x).1 (List.mem_cons_self ..)) with e | e
        · exact e
        · rcases List.mem_cons.1 ((h y).2 (List.mem_cons_self ..)) with e' | e'
          · exact e'.symm
          · have := a1 y e'; have := b1 x e; omega
      subst e
      rw [ih a2 b2 fun z => ?_]
      constructor
      · intro hz
        rcases List.mem_cons.1 ((h z).1 (List.mem_cons_of_mem _ hz)) with e | e
        · have := a1 z hz; omega
        · exact e
      · intro hz
        rcases List.mem_cons.1 ((h z).2 (List.mem_cons_of_mem _ hz)) with e | e
        · have := b1 z hz; omega
        · exact e
/-- One type more, wherever the net and the set lie. -/
theorem stepped_of {w0 W W2 : World} {Bn n : Nat} {t : DataW Unit} {gs : List Grp} (hc : chk n t gs = 0) {a : Addr} {c : Nat} {bs : List Bool} {zs : List Int} (hN : NetOk w0 W Bn (netF gs n t)) (hB : Below W.heap.size W W2) (hbs : Bools W2 (some a) (netF gs n t).length bs) (hR : ReadM (netF gs n t) zs bs zs.length) :
    ∀ (X : World) (x : Int), Below W2.heap.size W2 X → Calls Tryd.prog 31 #[.pointer (some ⟨Bn, 0, none⟩), .slice (some a) (netF gs n t).length c, .int .i64 x] X fun e w' => ∃ (a' : Addr) (c' : Nat) (sm : Bool), e = .returned (.tuple #[.slice (some a') (netF gs n t).length c', .bool sm]) ∧ (sm = true ↔ PreD gs n t (zs ++ [x])) ∧ Below X.heap.size X w' := fun X x hX => by
  obtain ⟨hNn, _, _, hty⟩ := netF_nets hc
  refine (step_calls w0 X Bn _ (hN.keep (hB.trans (hX.mono hB.size))) hty a c bs (hbs.below hX) x).mono ?_
  rintro e W3 ⟨a', c', bs', sm, rfl, _, _, hs, hB3⟩
  refine ⟨a', c', sm, rfl, ?_, hB3⟩
  have e1 := hR.2.1.2
  rw [List.take_length] at e1
  rw [hs, pre_lang hc, ← hNn.begins, afterM_snoc, hop_some]
  exact ⟨fun ⟨q, h⟩ => ⟨q, (stepM_congr e1 x q).1 h⟩, fun ⟨q, h⟩ => ⟨q, (stepM_congr e1 x q).2 h⟩⟩
set_option maxRecDepth 100000 in
set_option maxHeartbeats 2000000 in
theorem refnexts_calls (n : Nat) (t : DataW Unit) (v : Value) (ga : Option Addr) (gl gc : Nat) (gs : List Grp) (za : Option Addr) (zl zc : Nat) (zs : List Int) (w : World) (h : Ex w n t v) (hN : named n t) (hb : cnt n t ≤ 1152921504606846976) (hG : Groups w ga gl gs) (hZ : Ints w za zl zs) :
    Calls Tryd.prog 16 #[v, .slice ga gl gc, .slice za zl zc] w fun e w' => ∃ (a : Option Addr) (c : Nat) (xs : List Int), e = .returned (.slice a xs.length c) ∧ Ints w' a xs.length xs ∧ (∀ x : Int, x ∈ xs ↔ (chk n t gs = 0 ∧ PreD gs n t (zs ++ [x]))) ∧ xs.Pairwise (· < ·) ∧ xs.length ≤ 16 ∧ Below w.heap.size w w' := by
  obtain ⟨k, s, ka, kl, kc, rfl⟩ : ∃ k s a len cap, v = .agg #[.int .i64 k, .string s, .slice a len cap] := by
    cases n with
    | zero => exact h.elim
    | succ n => obtain ⟨k, s, a, len, cap, ts, _, rfl, _⟩ := h; exact ⟨k, s, a, len, cap, rfl⟩
  obtain ⟨w1, hw1⟩ : ∃ w1, w1 = w.alloc (.cells #[.int .i64 k, .string s, .slice ka kl kc] 24) := ⟨_, rfl⟩
  have hB1 : Below w.heap.size w w1 := by rw [hw1]; exact (Below.refl _ w).alloc (Nat.le_refl _) _
  have m0 : w1.heap[w.heap.size]? = some (.cells #[.int .i64 k, .string s, .slice ka kl kc] 24 (0, 0)) := by rw [hw1]; exact World.alloc_heap_new w _
  have hlt1 : w.heap.size < w1.heap.size := (Array.getElem?_eq_some_iff.1 m0).1
  have HK : Hid (∀ X : World, Below w1.heap.size w1 X → X.cell? ⟨w.heap.size, 0, none⟩ = some (.int .i64 k) ∧ X.cell? ⟨w.heap.size, 1, none⟩ = some (.string s) ∧ X.cell? ⟨w.heap.size, 2, none⟩ = some (.slice ka kl kc)) := fun X hX => by
    obtain ⟨a0, a1, a2, _⟩ := cells3 ((hX.block _ hlt1).trans m0)
    exact ⟨a0, a1, a2⟩
  have HW1 : Hid (w.alloc (.cells #[.int .i64 k, .string s, .slice ka kl kc] 24) = w1) := hw1.symm
  have HBW : Hid (∀ X, Below w1.heap.size w1 X → Below w.heap.size w X) := fun X hX => hB1.trans (hX.mono hB1.size)
  have HC : Hid (Calls Tryd.prog 9 #[.agg #[.int .i64 k, .string s, .slice ka kl kc], .slice ga gl gc] w1 fun e w' => e = .returned (.int .i64 (chk n t gs)) ∧ Below w1.heap.size w1 w') := refcheck_calls n t _ ga gl gc gs w1 (Ex.below hB1 _ _ _ h) hN hb (hG.below hB1)
  obtain ⟨q0, q1, q2⟩ := HK.out w1 (Below.refl _ _)
  have hzi : (zl : Int) ≤ 9223372036854775807 := by have := hZ.2.1; omega
  have HZL : Hid (zs.length = zl) := hZ.1
  obtain ⟨f, hf⟩ : ∃ f, chk n t gs = f := ⟨_, rfl⟩
  by_cases hf0 : f ≠ 0
  · have e0 : (f == 0) = false := by simpa using hf0
    have e1 : (f != 0) = true := by simp [bne, e0]
    rw [hf] at HC
    have HF : Hid (chk n t gs ≠ 0) := by rw [hf]; exact hf0
    clear h hN hb hG hB1 m0 hlt1 hw1 hZ hf
    go_enter Tryd.func16, Tryd.ntmps16
    go_wp2_with fail
    rw [HW1.out]
    refine HC.out.mono ?_
    rintro e X ⟨rfl, hX⟩
    have HEND : Hid (Below w.heap.size w X) := HBW.out X hX
    clear hX
    go_wp2
    go_ret
    exact ⟨none, 0, [], rfl, ⟨rfl, by decide, .inl rfl⟩, fun x => ⟨fun e => (by cases e), fun e => absurd e.1 HF.out⟩, List.Pairwise.nil, Nat.zero_le _, HEND.out⟩
  · have hf0 : f = 0 := Classical.not_not.1 hf0
    subst hf0
    rw [hf] at HC
    have hb0 : ((0 : Int) != 0) = false := rfl
    have HM : Hid (∀ X, Below w1.heap.size w1 X → _) := fun X hX => ran_of h hG hZ (gc := gc) (zc := zc) hf X (HBW.out X hX)
    have HH : Hid (chk n t gs = 0) := hf
    clear h hN hb hG hB1 m0 hlt1 hw1 hZ hf
    go_enter Tryd.func16, Tryd.ntmps16
    go_wp2_with fail
    rw [HW1.out]
    refine HC.out.mono ?_
    rintro e X ⟨rfl, hX⟩
    have HMX := HM.out X hX
    obtain ⟨r0, r1, r2⟩ := HK.out X hX
    have HBX : Hid (Below w.heap.size w X) := HBW.out X hX
    clear hX HM HC
    go_wp2_with fail
    refine HMX.mono ?_
    rintro e W ⟨Bn, rfl, hNet, hBW, hrun⟩
    have HNet : Hid (NetOk X W Bn (netF gs n t)) := hNet
    have HBB : Hid (Below w.heap.size w W) := HBX.out.trans (hBW.mono HBX.out.size)
    clear hNet hBW HMX
    go_wp2_with fail
    refine hrun.mono ?_
    rintro e W2 ⟨a, c, bs, i, rfl, hbs, hR, hB2⟩
    have hlen := HZL.out
    have HB2 : Hid (Below w.heap.size w W2) := HBB.out.trans (hB2.mono HBB.out.size)
    have hown0 : W2.ownsRow W2.heap.size 3 1 (.slice none 0 0) 0 (intsV []) := World.ownsRow_nil ..
    have HI0 : Hid (NxI gs n t zs 0 [] ∧ W2.ownsRow W2.heap.size 3 1 (.slice none 0 0) 0 (intsV [])) := ⟨⟨fun x => ⟨fun e => (by cases e), fun ⟨m, e, _⟩ => absurd e (Nat.not_lt_zero _)⟩, List.Pairwise.nil, Nat.zero_le _⟩, hown0⟩
    have HS : Hid (i = zl → ∀ (X : World) (x : Int), Below W2.heap.size W2 X → Calls Tryd.prog 31 #[.pointer (some ⟨Bn, 0, none⟩), .slice (some a) (netF gs n t).length c, .int .i64 x] X fun e w' => ∃ (a' : Addr) (c' : Nat) (sm : Bool), e = .returned (.tuple #[.slice (some a') (netF gs n t).length c', .bool sm]) ∧ (sm = true ↔ PreD gs n t (zs ++ [x])) ∧ Below X.heap.size X w') := fun e => by
      rw [e, ← hlen] at hR
      exact stepped_of HH.out HNet.out hB2 hbs hR
    have HNO : Hid (i ≠ zl → ¬ PreD gs n t zs) := fun e hp => by
      have hL := ran_long HH.out hR
      exact e ((long_all hL hp).trans hlen)
    have HEX : Hid (∀ (wr : World) (j : Nat) (xs : List Int) (v : Value), (j = 16 ∨ i ≠ zl) → j ≤ 16 → NxI gs n t zs j xs → wr.ownsRow W2.heap.size 3 1 v xs.length (intsV xs) → Below W2.heap.size W2 wr → ∃ (a : Option Addr) (c : Nat), v = .slice a xs.length c ∧ Ints wr a xs.length xs ∧ (∀ x : Int, x ∈ xs ↔ (chk n t gs = 0 ∧ PreD gs n t (zs ++ [x]))) ∧ xs.Pairwise (· < ·) ∧ xs.length ≤ 16 ∧ Below w.heap.size w wr) := fun wr j xs v hj hj16 hI hown hB => by
      have hf := hI.few
      obtain ⟨a, c, rfl, hints⟩ := owned_ints hown (by omega)
      have hm : ∀ x : Int, x ∈ xs ↔ PreD gs n t (zs ++ [x]) := by
        rcases hj with rfl | hj
        · exact hI.full HH.out
        · exact NxI.none (HNO.out hj) hI
      exact ⟨a, c, rfl, hints, fun x => (hm x).trans ⟨fun e => ⟨HH.out, e⟩, fun e => e.2⟩, hI.rise, by omega, HB2.out.trans (hB.mono HB2.out.size)⟩
    have hii : i ≤ zl := by have := hR.1; omega
    clear hbs hR hB2 hrun hown0 hlen
    go_wp2
    go_loopg [10, 11] 17 (fun gk u v wr => ∃ (j : Nat) (xs : List Int), j ≤ 16 ∧ 16 < j + gk ∧ v = .int .i64 (j : Int) ∧ NxI gs n t zs j xs ∧ wr.ownsRow W2.heap.size 3 1 u xs.length (intsV xs) ∧ Below W2.heap.size W2 wr)
    case atStart => exact ⟨0, [], by omega, by omega, rfl, HI0.out.1, HI0.out.2, Below.refl _ _⟩
    case round =>
      obtain ⟨j, xs, hj, hgk, rfl, hI, hown, hB⟩ := hrel
      clear HI0
      by_cases hdone : j = 16 ∨ i ≠ zl
      · obtain ⟨a', c', rfl, hE⟩ := HEX.out wr j xs _ hdone hj hI hown hB
        have HE : Hid (Ints wr a' xs.length xs ∧ (∀ x : Int, x ∈ xs ↔ (chk n t gs = 0 ∧ PreD gs n t (zs ++ [x]))) ∧ xs.Pairwise (· < ·) ∧ xs.length ≤ 16 ∧ Below w.heap.size w wr) := hE
        clear hE hI hown hB HEX HS HNO hgk
        by_cases h16 : j = 16
        · subst h16
          have hd : decide (((16 : Nat) : Int) < 16) = false := by simp
          clear hdone
          go_wp2
          go_ret
          exact ⟨a', c', xs, rfl, HE.out⟩
        · have hd : decide ((j : Int) < 16) = true := by simp; omega
          have hne : ((i : Int) == (zl : Int)) = false := by rw [beq_eq_false_iff_ne]; omega
          clear hdone h16 hii
          go_wp2
          go_ret
          exact ⟨a', c', xs, rfl, HE.out⟩
      · have hj16 : j < 16 := by omega
        have hiz : i = zl := by omega
        subst hiz
        have hd : decide ((j : Int) < 16) = true := by simp; omega
        have hne : ((i : Int) == (i : Int)) = true := by simp
        have HST := HS.out rfl wr (j : Int) hB
        obtain ⟨ua, uc, rfl⟩ := owns_shape hown
        have HI : Hid (NxI gs n t zs j xs ∧ wr.ownsRow W2.heap.size 3 1 (.slice ua xs.length uc) xs.length (intsV xs) ∧ Below W2.heap.size W2 wr) := ⟨hI, hown, hB⟩
        have hxs : xs.length ≤ 16 := by have := hI.few; omega
        clear hI hown hB HEX HS HNO hdone
        go_wp2_with fail
        refine HST.mono ?_
        rintro e W3 ⟨a', c', sm, rfl, hsm, hB3⟩
        cases sm with
        | false =>
          have HN : Hid (NxI gs n t zs (j + 1) xs ∧ W3.ownsRow W2.heap.size 3 1 (.slice ua xs.length uc) xs.length (intsV xs) ∧ Below W2.heap.size W2 W3) := ⟨HI.out.1.skip (fun hp => by cases hsm.2 hp), owns_same HI.out.2.1 fun g hg => hB3.block g (owns_lt HI.out.2.1 hg).1, HI.out.2.2.trans (hB3.mono HI.out.2.2.size)⟩
          clear HI hsm hB3 HST
          go_wp2_with fail
          go_roundg (16 - j)
          case measure => omega
          case rel => exact ⟨j + 1, xs, by omega, by omega, by first | rfl | go_num, HN.out⟩
        | true =>
          have hown2 : (W3.alloc (.cells #[.int .i64 (j : Int)] 3)).ownsRow W2.heap.size 3 1 (.slice ua xs.length uc) xs.length (intsV xs) := World.ownsRow.alloc (owns_same HI.out.2.1 fun g hg => hB3.block g (owns_lt HI.out.2.1 hg).1) _
          have hB4 : Below W2.heap.size W2 W3 := HI.out.2.2.trans (hB3.mono HI.out.2.2.size)
          have hints := Ints.one (World.alloc_heap_new W3 (.cells #[.int .i64 (j : Int)] 3))
          have hbase : W2.heap.size ≤ (W3.alloc (.cells #[.int .i64 (j : Int)] 3)).heap.size := by have := hB4.size; simp; omega
          have HB5 : Hid (Below W2.heap.size W2 (W3.alloc (.cells #[.int .i64 (j : Int)] 3))) := hB4.alloc hB4.size _
          have hs1 : xs.length + 1 ≤ 1000000 := by omega
          have HN : Hid (NxI gs n t zs (j + 1) (xs ++ [(j : Int)])) := HI.out.1.put (hsm.1 rfl)
          clear HI hsm hB3 hB4 HST
          go_wp2_with (first
            | (at_builtin; refine wpList_append_ints rfl (.tmp 45) (.tmp 47) rfl W2.heap.size _ xs.length xs rfl hown2 _ 1 1 [(j : Int)] rfl (fun e => by cases e) hints hs1 hbase ?_; intro v1 W5 hown3 hB3)
            | fail)
          go_roundg (16 - j)
          case measure => omega
          case rel => exact ⟨j + 1, xs ++ [(j : Int)], by omega, by omega, by first | rfl | go_num, HN.out, by simpa using hown3, HB5.out.trans hB3⟩
end Go.Proofs.YtajabenlkmgjeaaDoor
