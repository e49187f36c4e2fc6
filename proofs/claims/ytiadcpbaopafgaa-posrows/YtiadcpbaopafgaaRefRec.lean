/-
  PROVED HERE: the document's own Recover: what it returns; nothing that lay before is turned.
-/
import Derived.Test.YtiadcpbaopafgaaRec
import Derived.Test.YtiadcpbaopafgaaRefR
namespace Go.Proofs.Ytiadcpbaopafgaa
open Go.RowKit

set_option maxRecDepth 100000 in
set_option maxHeartbeats 4000000 in
theorem refrecover_calls (a : Option Addr) (len cap : Nat) (l : List Rng) (inn off : Int) (w : World) (hl : Rngs w a len l) (hz : len ≤ 140737488355328) :
    Calls Try.prog 17 #[.slice a len cap, .int .i64 inn, .int .i64 off] w fun e w' => e = .returned (.tuple #[.int .i64 (recV l inn off), .int .i64 (recE l inn off)]) ∧ Below w.heap.size w w' := by
  have c1 := refright_calls a len cap l w hl hz
  obtain ⟨RV, hRV⟩ : ∃ x, recV l inn off = x := ⟨_, rfl⟩
  obtain ⟨RE, hRE⟩ : ∃ x, recE l inn off = x := ⟨_, rfl⟩
  rw [hRV, hRE]
  cases hr : right l with
  | false =>
    have HV : Hid (RV = 0 ∧ RE = 4) := by
      constructor
      · rw [← hRV]; unfold recV; rw [if_neg (by rw [hr]; simp)]
      · rw [← hRE]; unfold recE; rw [if_neg (by rw [hr]; simp)]
    rw [hr] at c1
    clear hRV hRE
    go_enter Try.func17, Try.ntmps17
    go_wp2_with fail
    refine c1.mono ?_
    rintro e X ⟨rfl, hX⟩
    go_wp2
    go_ret2
    exact ⟨by rw [HV.out.1, HV.out.2]; rfl, hX⟩
  | true =>
    rw [hr] at c1
    have hlen : len ≤ 4 := by have := (right_len hr).1; rw [hl.1] at this; exact this
    have HMISS : Hid (¬ recIs l inn off → RV = 0 ∧ RE = 1) := fun hi => by
      constructor
      · rw [← hRV]; unfold recV; rw [if_neg (fun h => hi h.2)]
      · rw [← hRE]; unfold recE; rw [if_pos hr, if_neg hi]
    have HHIT : Hid (recIs l inn off → RV = (nth l inn.toNat).a + shiftL (l.take inn.toNat) + off ∧ RE = 0) := fun hi => by
      constructor
      · rw [← hRV]; unfold recV; rw [if_pos ⟨hr, hi⟩]
      · rw [← hRE]; unfold recE; rw [if_pos hr, if_pos hi]
    clear hRV hRE
    have hll := hl.1
    by_cases d1 : inn < 0
    · have HV : Hid (RV = 0 ∧ RE = 1) := HMISS.out (fun h => by have := h.1; omega)
      clear HMISS HHIT
      go_enter Try.func17, Try.ntmps17
      go_wp2_with fail
      refine c1.mono ?_
      rintro e X ⟨rfl, hX⟩
      go_wp2
      go_ret2
      exact ⟨by rw [HV.out.1, HV.out.2]; rfl, hX⟩
    · by_cases d2 : (len : Int) ≤ inn
      · have HV : Hid (RV = 0 ∧ RE = 1) := HMISS.out (fun h => by have := h.2.1; omega)
        clear HMISS HHIT
        go_enter Try.func17, Try.ntmps17
        go_wp2_with fail
        refine c1.mono ?_
        rintro e X ⟨rfl, hX⟩
        go_wp2
        go_ret2
        exact ⟨by rw [HV.out.1, HV.out.2]; rfl, hX⟩
      · obtain ⟨k, rfl⟩ : ∃ k : Nat, inn = (k : Int) := ⟨inn.toNat, by omega⟩
        have hlt : k < len := by omega
        by_cases d3 : off < 0
        · have HV : Hid (RV = 0 ∧ RE = 1) := HMISS.out (fun h => by have := h.2.2.1; omega)
          clear HMISS HHIT
          go_enter Try.func17, Try.ntmps17
          go_wp2_with fail
          refine c1.mono ?_
          rintro e X ⟨rfl, hX⟩
          go_wp2
          go_ret2
          exact ⟨by rw [HV.out.1, HV.out.2]; rfl, hX⟩
        · obtain ⟨b, o, x, rfl, hbl, hx, _, hc⟩ := hl.range hlt
          have hx' := rightL_all (right_len hr).2 x (List.mem_of_getElem? hx)
          have hdk := shift_take hr k
          have HRG : Hid (∀ W, Below w.heap.size w W → W.cell? ⟨b, o + k * 3, none⟩ = some (.int .i64 x.a) ∧ W.cell? ⟨b, o + k * 3 + 1, none⟩ = some (.int .i64 x.o) ∧ W.cell? ⟨b, o + k * 3 + 2, none⟩ = some (.int .i64 x.n)) := hc
          have HSH : Hid (∀ W, Below w.heap.size w W → Calls Try.prog 29 #[.slice (some ⟨b, o, none⟩) len cap, .int .i64 (k : Int)] W fun e w' => e = .returned (.int .i64 (shiftL (l.take k))) ∧ Below W.heap.size W w') := fun W hW => shift_calls _ len cap l k W (hl.below hW) hr (Nat.le_of_lt hlt)
          have hnx : nth l k = x := nth_some hx
          have hkk : ((k : Int)).toNat = k := by omega
          unfold recIs at HMISS HHIT
          rw [hkk, hnx] at HMISS HHIT
          by_cases d4 : x.n < off
          · have HV : Hid (RV = 0 ∧ RE = 1) := HMISS.out (fun h => by have := h.2.2.2; omega)
            obtain ⟨xa, xo, xn⟩ := x
            simp only at *
            clear HMISS HHIT hx hnx hc
            go_enter Try.func17, Try.ntmps17
            go_wp2_with fail
            refine c1.mono ?_
            rintro e X ⟨rfl, hX⟩
            obtain ⟨k0, k1, k2⟩ := HRG.out X hX
            go_wp2
            go_ret2
            exact ⟨by rw [HV.out.1, HV.out.2]; rfl, hX⟩
          · have HV : Hid (RV = x.a + shiftL (l.take k) + off ∧ RE = 0) := HHIT.out ⟨by omega, by omega, by omega, by omega⟩
            clear HMISS HHIT
            generalize shiftL (l.take k) = d at *
            obtain ⟨xa, xo, xn⟩ := x
            simp only at *
            have hs1 : IntKind.i64.wrap (xa + d) = xa + d := by rw [IntKind.wrap_i64]; omega
            have hs2 : IntKind.i64.wrap (xa + d + off) = xa + d + off := by rw [IntKind.wrap_i64]; omega
            clear hx hnx hc hl
            go_enter Try.func17, Try.ntmps17
            go_wp2_with fail
            refine c1.mono ?_
            rintro e X ⟨rfl, hX⟩
            obtain ⟨k0, k1, k2⟩ := HRG.out X hX
            go_wp2_with fail
            refine wp_region_held_drew (S := fun X => Below w.heap.size w X) mixed hX.drew (fun hS => ?_)
            refine takeD 0 (some 32) (v := ?_) rfl rfl (by kernel_rfl) (by kernel_rfl) (by kernel_rfl) (fun _ _ _ h => h) (Or.inl ⟨by rfl, ?_⟩) hS ?_
            rotate_left
            · intro w hSw
              try go_simp
              with_reducible rfl
            try simp only [Act.put, List.setIfInBounds_toArray, List.set_cons_zero, List.set_cons_succ]
            refine takeD 1 (some 33) (v := ?_) rfl rfl (by kernel_rfl) (by kernel_rfl) (by kernel_rfl) (fun _ _ _ h => h) (Or.inl ⟨by rfl, ?_⟩) hS ?_
            rotate_left
            · intro w hSw
              try go_simp
              with_reducible rfl
            try simp only [Act.put, List.setIfInBounds_toArray, List.set_cons_zero, List.set_cons_succ]
            refine takeD 2 (some 34) (v := ?_) rfl rfl (by kernel_rfl) (by kernel_rfl) (by kernel_rfl) (fun _ _ _ h => h) (Or.inl ⟨by rfl, ?_⟩) hS ?_
            rotate_left
            · intro w hSw
              go_simp
              with_reducible rfl
            try simp only [Act.put, List.setIfInBounds_toArray, List.set_cons_zero, List.set_cons_succ]
            refine takeD 3 (some 35) (v := ?_) rfl rfl (by kernel_rfl) (by kernel_rfl) (by kernel_rfl) (fun _ _ _ h => h) (Or.inl ⟨by rfl, ?_⟩) hS ?_
            rotate_left
            · intro w hSw
              go_simp
              with_reducible rfl
            try simp only [Act.put, List.setIfInBounds_toArray, List.set_cons_zero, List.set_cons_succ]
            refine takeD 4 (some 36) (v := ?_) rfl rfl (by kernel_rfl) (by kernel_rfl) (by kernel_rfl) (fun _ _ _ h => h) (Or.inl ⟨by rfl, ?_⟩) hS ?_
            rotate_left
            · intro w hSw
              obtain ⟨k0, k1, k2⟩ := HRG.out _ hSw
              go_simp
              with_reducible rfl
            try simp only [Act.put, List.setIfInBounds_toArray, List.set_cons_zero, List.set_cons_succ]
            refine takeD 5 (some 37) (v := ?_) rfl rfl (by kernel_rfl) (by kernel_rfl) (by kernel_rfl) (fun _ _ _ h => h) (Or.inl ⟨by rfl, ?_⟩) hS ?_
            rotate_left
            · intro w hSw
              try go_simp
              with_reducible rfl
            try simp only [Act.put, List.setIfInBounds_toArray, List.set_cons_zero, List.set_cons_succ]
            refine takeD 6 (some 38) (v := ?_) rfl rfl (by kernel_rfl) (by kernel_rfl) (by kernel_rfl) (fun _ _ _ h => h) (Or.inl ⟨by rfl, ?_⟩) hS ?_
            rotate_left
            · intro w hSw
              try go_simp
              with_reducible rfl
            try simp only [Act.put, List.setIfInBounds_toArray, List.set_cons_zero, List.set_cons_succ]
            refine takeD 9 (some 41) (v := ?_) rfl rfl (by kernel_rfl) (by kernel_rfl) (by kernel_rfl) (fun _ _ _ h => h) (Or.inl ⟨by rfl, ?_⟩) hS ?_
            rotate_left
            · intro w hSw
              try go_simp
              with_reducible rfl
            try simp only [Act.put, List.setIfInBounds_toArray, List.set_cons_zero, List.set_cons_succ]
            refine callD 7 (by kernel_rfl) rfl (fun K hK => ?_)
            rw [if_pos (by rfl)]
            go_simp
            refine (HSH.out _ hS).mono ?_
            rintro e Y ⟨rfl, bY⟩
            have hY := hS.trans (bY.mono hS.size)
            refine hK.out _ _ hY (fun _ => ?_)
            clear hK K
            try simp only [Act.put, List.setIfInBounds_toArray, List.set_cons_zero, List.set_cons_succ]
            refine takeD 8 (some 40) (v := ?_) rfl rfl (by kernel_rfl) (by kernel_rfl) (by kernel_rfl) (fun _ _ _ h => h) (Or.inl ⟨by rfl, ?_⟩) hY ?_
            rotate_left
            · intro w hSw
              go_simp
              with_reducible rfl
            try simp only [Act.put, List.setIfInBounds_toArray, List.set_cons_zero, List.set_cons_succ]
            refine takeD 10 (some 42) (v := ?_) rfl rfl (by kernel_rfl) (by kernel_rfl) (by kernel_rfl) (fun _ _ _ h => h) (Or.inl ⟨by rfl, ?_⟩) hY ?_
            rotate_left
            · intro w hSw
              go_simp
              with_reducible rfl
            try simp only [Act.put, List.setIfInBounds_toArray, List.set_cons_zero, List.set_cons_succ]
            refine takeD 11 (some 6) (v := ?_) rfl rfl (by kernel_rfl) (by kernel_rfl) (by kernel_rfl) (fun _ _ _ h => h) (Or.inl ⟨by rfl, ?_⟩) hY ?_
            rotate_left
            · intro w hSw
              try go_simp
              with_reducible rfl
            try simp only [Act.put, List.setIfInBounds_toArray, List.set_cons_zero, List.set_cons_succ]
            refine takeD 12 (some 7) (v := ?_) rfl rfl (by kernel_rfl) (by kernel_rfl) (by kernel_rfl) (fun _ _ _ h => h) (Or.inl ⟨by rfl, ?_⟩) hY ?_
            rotate_left
            · intro w hSw
              try go_simp
              with_reducible rfl
            try simp only [Act.put, List.setIfInBounds_toArray, List.set_cons_zero, List.set_cons_succ]
            refine wpAnyH_done (by kernel_rfl) ?_ _
            go_wp2
            go_ret2
            exact ⟨by rw [HV.out.1, HV.out.2]; rfl, hY⟩
end Go.Proofs.Ytiadcpbaopafgaa
