/-
  PROVED HERE: what Append does to a disk.
-/
import Derived.Test.YtgbpfbpfoobhhaaDDo
import Derived.WalkSmall
namespace Go.Proofs.Ytgbpfbpfoobhhaa
open Go.RowKit

theorem But.drewN (D : Nat → Prop) (w : World) (q : Nat) : But D w (w.drewN q) := ⟨rfl, rfl, rfl, Nat.le_refl _, fun _ _ _ => rfl⟩
theorem Dk.drewN {w : World} {base b : Nat} {v : Value} {bs : List Int} {s m : Int} (h : Dk w base b v bs s m) (q : Nat) : Dk (w.drewN q) base b v bs s m := h.later rfl (fun _ _ => rfl)
theorem Done.drewN {w : World} {base b : Nat} {v : Value} {bs : List Int} {s m : Int} (h : Dk w base b v bs s m) (q : Nat) : Done w (w.drewN q) base b v bs s m := ⟨v, h.drewN q, But.drewN _ _ _, fun _ e => .inl e⟩
theorem row_drewN {k : IntKind} {w : World} {a : Option Addr} {len : Nat} {zs : List Int} (h : Row k w a len zs) (q : Nat) : Row k (w.drewN q) a len zs := h.below (below_drewN (Below.refl _ w) q)

theorem wpList_append_bytes {W : World} {ops : Array Oper} {rest : List Oper} {o : Oper} {a : Act} {Q : Exit → Act → World → Prop} (hgd : o.guard = none) (s x : Operand)
    (ho : o.op = .call { callee := .builtin .append, args := #[s, x], argTypes := #[22, 22] }) (hty : o.type = 22) (base : Nat) (v : Value) (n : Nat) (xs : List Int) (hs : a.eval s = v) (hown : W.ownsRow base 5 1 v n (xs.map (Value.int .u8))) (hbase : base ≤ W.heap.size)
    (za : Option Addr) (zl zc : Nat) (zs : List Int) (hx : a.eval x = .slice za zl zc) (hr : Row .u8 W za zl zs) (hc : za = none → zc = 0) (hsz : n + zl ≤ 140737488355328)
    (h : ∀ v' W1, W1.ownsRow base 5 1 v' (n + zl) ((xs ++ zs).map (Value.int .u8)) → W.grownBy W1 v.ownBlock → (v'.ownBlock = v.ownBlock ∨ v'.ownBlock = some W.heap.size) → wpList Try.prog ops Q rest (a.put o.dst v') W1) : wpList Try.prog ops Q (o :: rest) a W := by
  obtain ⟨v', W1, hrun, h1, h2, h3⟩ := append_any base v n xs W hown hbase za zl zc zs hr hc hsz
  exact wpList_append_run hgd s x 22 ho v _ v' W1 hs hx (by rw [hty]; exact hrun) (h v' W1 h1 h2 h3)

theorem dk_app {w W1 : World} {base b : Nat} {v v' : Value} {bs xs : List Int} {s m : Int} (h : Dk w base b v bs s m) (hx : Bytes xs) (hm : (bs.length : Int) + (xs.length : Int) ≤ m) (hown : W1.ownsRow base 5 1 v' (bs.length + xs.length) ((bs ++ xs).map (Value.int .u8))) (hg : w.grownBy W1 v.ownBlock) (hv : v'.ownBlock = v.ownBlock ∨ v'.ownBlock = some w.heap.size) :
    Done w (W1.setCell ⟨b, 0, none⟩ v') base b v (bs ++ xs) s m := by
  have hb : W1.heap[b]? = w.heap[b]? := hg.block b h.lt (fun e => h.own_ne e.symm)
  have e1 := heap_setCell_row W1 b 0 _ _ v' (by rw [hb]; exact h.blk)
  have hl : (bs ++ xs).length = bs.length + xs.length := List.length_append
  have h1 := h.s1
  have hlt := h.lt
  refine ⟨v', ⟨by rw [e1]; rfl, ?_, h.ge, h.byt.append hx, h.s0, by omega, by omega, h.m1⟩, ?_, fun k e => ?_⟩
  · rw [hl]
    refine owns_later hown (fun k e => ?_)
    have hk : k ≠ b := by
      rintro rfl
      rcases hv with hv | hv
      · exact h.own_ne (hv ▸ e)
      · rw [hv] at e
        cases e
        omega
    rw [Below.heap_setCell _ _ _ _ hk]
  · exact (But.of_grown (D := Dm b v) hg (fun k e => .inr e)).trans (But.setCell _ _ ⟨b, 0, none⟩ _ (.inl rfl)) (fun _ _ e => e)
  · rcases hv with hv | hv
    · exact .inl (hv ▸ e)
    · rw [hv] at e
      cases e
      exact .inr (Nat.le_refl _)

theorem Done.after {w w' : World} {base b : Nat} {v : Value} {bs : List Int} {s m : Int} {q : Nat} (h : Done (w.drewN q) w' base b v bs s m) : Done w w' base b v bs s m := by
  obtain ⟨v', h1, h2, h3⟩ := h
  exact ⟨v', h1, (But.drewN _ w q).trans h2 (fun _ _ e => e), h3⟩

set_option maxRecDepth 100000 in
set_option maxHeartbeats 1000000 in
theorem append_bad (base b : Nat) (v : Value) (bs : List Int) (s m : Int) (a' : Option Addr) (n cap' : Nat) (w : World) (h : Dk w base b v bs s m) (hn : m - (bs.length : Int) < (n : Int)) :
    Calls Try.prog 10 #[.pointer (some ⟨b, 0, none⟩), .slice a' n cap'] w fun e w' => e = .returned (.int .i64 12) ∧ Done w w' base b v bs s m := by
  have HM := hide_ (made_calls b true w h.cell3)
  have c0 := h.cell0
  have c2 := h.cell2
  have m1 := h.m1
  have m0 := h.m0
  obtain ⟨a, cap, rfl, hcap, hcm, _, _⟩ := h.row
  have HD := hide_ (fun q => Done.drewN h q)
  clear h
  generalize bs.length = k at *
  go_enter Try.func10, Try.ntmps10
  go_wp2_with fail
  refine HM.out.mono ?_
  rintro e W1 ⟨rfl, rfl⟩
  go_wp2_with go_quiet (fail)
  go_ret
  exact ⟨rfl, HD.out _⟩

set_option maxRecDepth 100000 in
set_option maxHeartbeats 2000000 in
theorem append_good (base b : Nat) (v : Value) (bs : List Int) (s m : Int) (a' : Option Addr) (n cap' : Nat) (xs : List Int) (w : World) (h : Dk w base b v bs s m) (hn : ¬ (m - (bs.length : Int) < (n : Int))) (hr : Row .u8 w a' n xs) (hx : Bytes xs) (hc : a' = none → cap' = 0) :
    Calls Try.prog 10 #[.pointer (some ⟨b, 0, none⟩), .slice a' n cap'] w fun e w' => e = .returned (.int .i64 0) ∧ Done w w' base b v (bs ++ xs) s m := by
  have HM := hide_ (made_calls b true w h.cell3)
  have c0 := h.cell0
  have c2 := h.cell2
  have f0 := h.frozen 0
  have m1 := h.m1
  have m0 := h.m0
  have HH := hide_ h
  have HR := hide_ hr
  have hxl := hr.1
  obtain ⟨a, cap, rfl, hcap, hcm, _, _⟩ := h.row
  have hbase : base ≤ w.heap.size := Nat.le_trans h.ge (Nat.le_of_lt h.lt)
  have HC := hide_ hc
  clear h hr hc
  subst hxl
  generalize hk : bs.length = k at *
  have HK := hide_ hk
  clear hk
  generalize hz : xs.length = z at *
  have HZ := hide_ hz
  clear hz
  go_enter Try.func10, Try.ntmps10
  go_wp2_with fail
  refine HM.out.mono ?_
  rintro e W1 ⟨rfl, rfl⟩
  go_wp2_with first | go_quiet (fail) | (at_builtin; refine wpList_append_bytes rfl _ _ rfl rfl base _ _ bs rfl (by have := (HH.out.drewN nq).own; rw [HK.out] at this; exact this) hbase _ _ _ xs rfl (row_drewN HR.out _) HC.out (by omega) ?_; intro v2 W2 q1 q2 q3; obtain ⟨a2, cap2, rfl, _, _, _, _⟩ := row_any q1; have hbk : W2.heap[b]? = W1.heap[b]? := q2.block b HH.out.lt (fun e => HH.out.own_ne e.symm); have d0 : W2.cell? ⟨b, 0, none⟩ = some (.slice a k cap) := (World.cell?_of_block (w := W1) (a := ⟨b, 0, none⟩) hbk).trans c0; have d1 : W2.frozen? ⟨b, 0, none⟩ = false := (World.frozen?_of_block (w := W1) (a := ⟨b, 0, none⟩) hbk).trans f0; have HD := hide_ ((dk_app (HH.out.drewN nq) hx (by rw [HK.out, HZ.out]; omega) (by rw [HK.out, HZ.out]; exact q1) q2 q3).after); clear q1 q2 q3 hbk)
  go_ret
  exact ⟨rfl, HD.out⟩

theorem append_calls (base b : Nat) (v : Value) (bs : List Int) (s m : Int) (a' : Option Addr) (n cap' : Nat) (xs : List Int) (w : World) (h : Dk w base b v bs s m) (hr : Row .u8 w a' n xs) (hx : Bytes xs) (hc : a' = none → cap' = 0) :
    Calls Try.prog 10 #[.pointer (some ⟨b, 0, none⟩), .slice a' n cap'] w fun e w' => e = .returned (.int .i64 (appE bs xs m)) ∧ Done w w' base b v (appL bs xs m) s m := by
  have hl := hr.1
  unfold appE appL
  rw [hl]
  by_cases hn : m - (bs.length : Int) < (n : Int)
  · rw [if_pos hn, if_pos hn]
    exact append_bad base b v bs s m a' n cap' w h hn
  · rw [if_neg hn, if_neg hn]
    exact append_good base b v bs s m a' n cap' xs w h hn hr hx hc

theorem Done.from {w X w' : World} {base b : Nat} {v : Value} {bs bs0 : List Int} {s s0 m : Int} (h : Done X w' base b v bs s m) (_h0 : Dk w base b v bs0 s0 m) (hB : Below w.heap.size w X) : Done w w' base b v bs s m := by
  obtain ⟨v', h1, h2, h3⟩ := h
  refine ⟨v', h1, (But.of_below (D := Dm b v) hB (fun _ h _ => h)).trans h2 (fun _ _ e => e), fun k e => ?_⟩
  rcases h3 k e with h | h
  · exact .inl h
  · exact .inr (Nat.le_trans hB.size h)
end Go.Proofs.Ytgbpfbpfoobhhaa
