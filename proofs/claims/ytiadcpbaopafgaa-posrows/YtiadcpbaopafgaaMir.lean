/-
  PROVED HERE: (*pos.Mapping).hasMirror, Mirror, Len: what they return, and what lies there then; nothing else is turned.
-/
import Derived.Test.YtiadcpbaopafgaaMapM
namespace Go.Proofs.Ytiadcpbaopafgaa
open Go.RowKit

set_option maxHeartbeats 1000000 in
theorem len_calls (base B : Nat) (M : List Lk) (w : World) (hM : MapP w base B M) : Calls Try.prog 26 #[.pointer (some ⟨B, 0, none⟩)] w fun e w' => e = .returned (.int .i64 (M.length : Int)) ∧ w' = w := by
  have c := made_calls _ true w hM.made
  obtain ⟨a, cap, g1⟩ := hM.len_
  have g0 : w.cell? ⟨B, 0, none⟩ = some (.slice a M.length cap) := cell_of_row w B 0 _ _ _ g1
  clear g1 hM
  generalize M.length = n at *
  go_enter Try.func26, Try.ntmps26
  go_wp2_with fail
  refine c.mono ?_
  rintro e w' ⟨rfl, hww⟩
  rw [hww]
  go_wp2
  go_ret
  exact ⟨rfl, rfl⟩
/-- The mirror of the i-th map. -/
def mirAt (M : List Lk) (i : Nat) : Int := (M[i]?.map (·.m)).getD (-1)
set_option maxHeartbeats 1000000 in
theorem has_calls (base B : Nat) (M : List Lk) (i : Nat) (w : World) (hM : MapP w base B M) (hi : i < M.length) (_hn : M.length ≤ 100000) : Calls Try.prog 34 #[.pointer (some ⟨B, 0, none⟩), .int .i64 (i : Int)] w fun e w' => e = .returned (.bool (mirAt M i != -1)) ∧ w' = w := by
  obtain ⟨x, hx⟩ : ∃ x, M[i]? = some x := ⟨_, List.getElem?_eq_getElem hi⟩
  rw [show mirAt M i = x.m from by unfold mirAt; rw [hx]; rfl]
  obtain ⟨g, cap, g1, g2, g3, _⟩ := hM.at_ hx
  have g0 : w.cell? ⟨B, 0, none⟩ = some (.slice (some ⟨g, 0, none⟩) M.length cap) := cell_of_row w B 0 _ _ _ g1
  have gg : w.cell? ⟨g, 0 + i * 2 + 1, none⟩ = some (.int .i64 x.m) := by rw [Nat.zero_add]; exact g3
  generalize x.m = q at *
  clear g1 hM hx
  generalize M.length = n at *
  go_enter Try.func34, Try.ntmps34
  go_wp2
  go_ret
  exact ⟨rfl, rfl⟩
/-- The mirror of the k-th map is v. -/
def setM (M : List Lk) (k : Nat) (v : Int) : List Lk := match M[k]? with
  | none => M
  | some x => M.set k ⟨x.a, x.len, x.cap, x.l, v⟩
theorem setM_length (M : List Lk) (k : Nat) (v : Int) : (setM M k v).length = M.length := by unfold setM; split <;> simp
theorem flatK_set : ∀ (M : List Lk) (k : Nat) (x : Lk) (v : Int), M[k]? = some x → flatK (M.set k ⟨x.a, x.len, x.cap, x.l, v⟩) = (flatK M).set (k * 2 + 1) (.int .i64 v) := by
  intro M
  induction M with
  | nil => intro k x v h; simp at h
  | cons y r ih =>
    intro k x v h
    cases k with
    | zero =>
      obtain rfl : y = x := by simpa using h
      rfl
    | succ k =>
      have := ih k x v (by simpa using h)
      rw [show (k + 1) * 2 + 1 = k * 2 + 1 + 2 from by omega]
      simp only [List.set_cons_succ, flatK, this]
theorem setM_mem {M : List Lk} {k : Nat} {v : Int} {y : Lk} (h : y ∈ setM M k v) : ∃ x ∈ M, y = x ∨ y = ⟨x.a, x.len, x.cap, x.l, v⟩ := by
  unfold setM at h
  split at h
  · exact ⟨y, h, .inl rfl⟩
  · rename_i x hx
    rcases List.mem_or_eq_of_mem_set h with h | h
    · exact ⟨y, h, .inl rfl⟩
    · exact ⟨x, List.mem_of_getElem? hx, .inr h⟩
/-- A mirror is written. -/
theorem map_set {cs : Value → Array Value} {tm te : TypeId} (hte : tm ≠ te) (hR1 : 60 ≠ tm) (hR2 : 60 ≠ te) {W : World} {base B : Nat} {M : List Lk} {a : Option Addr} {n cap : Nat} (k : Nat) (v : Int) (hk : k < M.length)
    (g1 : W.heap[B]? = some (.cells (cs (.slice a n cap)) tm (0, 0))) (_g2 : base ≤ B) (g3 : W.ownsRow base te 2 (.slice a n cap) M.length (flatK M)) (g4 : ∀ y ∈ M, LkOk W base y) :
    ∃ g, a = some ⟨g, 0, none⟩ ∧ n = M.length ∧ (∃ u, W.cell? ⟨g, k * 2 + 1, none⟩ = some (.int .i64 u)) ∧ W.frozen? ⟨g, k * 2 + 1, none⟩ = false ∧
      (W.setCell ⟨g, k * 2 + 1, none⟩ (.int .i64 v)).heap[B]? = some (.cells (cs (.slice a n cap)) tm (0, 0)) ∧ (W.setCell ⟨g, k * 2 + 1, none⟩ (.int .i64 v)).ownsRow base te 2 (.slice a n cap) (setM M k v).length (flatK (setM M k v)) ∧ (∀ y ∈ setM M k v, LkOk (W.setCell ⟨g, k * 2 + 1, none⟩ (.int .i64 v)) base y) ∧ KeepM tm te base W (W.setCell ⟨g, k * 2 + 1, none⟩ (.int .i64 v)) := by
  obtain ⟨x, hx⟩ : ∃ x, M[k]? = some x := ⟨_, List.getElem?_eq_getElem hk⟩
  obtain ⟨hl, ⟨e, h0⟩ | ⟨g, cap', cur, e, hb, hg, hc1, hc2, hc3, hc4⟩⟩ := g3
  · omega
  · obtain ⟨rfl, rfl, rfl⟩ : a = some ⟨g, 0, none⟩ ∧ n = M.length ∧ cap = cap' := by simpa using e
    have hne : B ≠ g := fun e => by
      rw [← e, g1] at hg
      simp at hg
      exact hte hg.2
    have hkl : k * 2 + 1 < cur.size := by omega
    have hset : ∀ j, j ≠ g → (W.setCell ⟨g, k * 2 + 1, none⟩ (.int .i64 v)).heap[j]? = W.heap[j]? := fun j hj => Below.heap_setCell W _ _ j hj
    have hnew := heap_setCell_same W g (k * 2 + 1) cur te (.int .i64 v) hg
    have hK : KeepM tm te base W (W.setCell ⟨g, k * 2 + 1, none⟩ (.int .i64 v)) := ⟨(Below.refl base W).setCell (p := ⟨g, k * 2 + 1, none⟩) hb _, fun j c t fr hj h1 h2 => by
      rw [hset j (fun e => by subst e; rw [hg] at hj; cases hj; exact h2 rfl)]
      exact hj⟩
    refine ⟨g, rfl, rfl, ⟨x.m, ?_⟩, by simp [World.frozen?, hg], (hset B hne).trans g1, ?_, ?_, hK⟩
    · obtain ⟨_, f1⟩ := flatK_at M k x hx
      rw [← hc4, List.getElem?_take, if_pos (by omega), Array.getElem?_toList] at f1
      simp [World.cell?, hg, f1]
    · rw [setM_length]
      unfold setM
      rw [hx]
      simp only
      rw [flatK_set M k x v hx]
      refine ⟨by rw [List.length_set]; exact hl, .inr ⟨g, cap, _, rfl, hb, hnew, hc1, hc2, by simpa using hc3, ?_⟩⟩
      rw [← hc4, Array.toList_setIfInBounds, List.take_set]
    · intro y hy
      obtain ⟨z, hz, h | h⟩ := setM_mem hy
      · rw [h]
        exact (g4 z hz).keep hK hR1 hR2
      · have := (g4 z hz).keep hK hR1 hR2
        rw [h]
        exact this
theorem mirAt_set {M : List Lk} {k : Nat} (v : Int) (hk : k < M.length) : mirAt (setM M k v) k = v := by
  obtain ⟨x, hx⟩ : ∃ x, M[k]? = some x := ⟨_, List.getElem?_eq_getElem hk⟩
  unfold mirAt setM
  rw [hx]
  simp [hk]
/-- May i and j be mirrors? -/
def mirOk (M : List Lk) (i j : Int) : Prop := 0 ≤ i ∧ i < j ∧ j < M.length ∧ mirAt M i.toNat = -1 ∧ mirAt M j.toNat = -1

set_option maxRecDepth 100000 in
set_option maxHeartbeats 4000000 in
theorem mirror_calls (base B : Nat) (M : List Lk) (i j : Int) (w : World) (hM : MapP w base B M) (hn : M.length ≤ 100000) :
    Calls Try.prog 22 #[.pointer (some ⟨B, 0, none⟩), .int .i64 i, .int .i64 j] w fun e w' => (¬ mirOk M i j ∧ e = .returned (.int .i64 1) ∧ w' = w) ∨ (mirOk M i j ∧ e = .returned (.int .i64 0) ∧ MapP w' base B (setM (setM M i.toNat j) j.toNat i) ∧ KeepP base w w') := by
  have cm := made_calls _ true w hM.made
  obtain ⟨aB, cB, hBB⟩ := hM.len_
  have g0 : w.cell? ⟨B, 0, none⟩ = some (.slice aB M.length cB) := cell_of_row w B 0 _ _ _ hBB
  have ch : ∀ k, k < M.length → _ := fun k (hk : k < M.length) => has_calls base B M k w hM hk hn
  have CH : Hid (∀ k, k < M.length → Calls Try.prog 34 #[.pointer (some ⟨B, 0, none⟩), .int .i64 (k : Int)] w fun e w' => e = .returned (.bool (mirAt M k != -1)) ∧ w' = w) := ch
  clear ch
  have NO : ∀ (h : ¬ mirOk M i j), True := fun _ => trivial
  by_cases d1 : i < 0
  · have HN : Hid (¬ mirOk M i j) := fun h => by have := h.1; omega
    clear hM hBB
    generalize M.length = n at *
    go_enter Try.func22, Try.ntmps22
    go_wp2_with fail
    refine cm.mono ?_
    rintro e w' ⟨rfl, hww⟩
    rw [hww]
    go_wp2
    go_ret
    first | exact .inl ⟨HN.out, rfl, rfl⟩ | exact .inl HN.out
  · by_cases d2 : j ≤ i
    · have HN : Hid (¬ mirOk M i j) := fun h => by have := h.2.1; omega
      clear hM hBB
      generalize M.length = n at *
      go_enter Try.func22, Try.ntmps22
      go_wp2_with fail
      refine cm.mono ?_
      rintro e w' ⟨rfl, hww⟩
      rw [hww]
      go_wp2
      go_ret
      first | exact .inl ⟨HN.out, rfl, rfl⟩ | exact .inl HN.out
    · by_cases d3 : (M.length : Int) ≤ j
      · have HN : Hid (¬ mirOk M i j) := fun h => by have := h.2.2.1; omega
        clear hM hBB
        generalize M.length = n at *
        go_enter Try.func22, Try.ntmps22
        go_wp2_with fail
        refine cm.mono ?_
        rintro e w' ⟨rfl, hww⟩
        rw [hww]
        go_wp2
        go_ret
        first | exact .inl ⟨HN.out, rfl, rfl⟩ | exact .inl HN.out
      · obtain ⟨i, rfl⟩ : ∃ k : Nat, i = (k : Int) := ⟨i.toNat, by omega⟩
        obtain ⟨j, rfl⟩ : ∃ k : Nat, j = (k : Int) := ⟨j.toNat, by omega⟩
        have hij : i < j := by omega
        have hjn : j < M.length := by omega
        have e1 : ((i : Int)).toNat = i := by omega
        have e2 : ((j : Int)).toNat = j := by omega
        have hOK : mirOk M i j ↔ (mirAt M i = -1 ∧ mirAt M j = -1) := by
          unfold mirOk
          rw [e1, e2]
          constructor
          · exact fun h => h.2.2.2
          · exact fun h => ⟨by omega, by omega, by omega, h⟩
        have c1 := CH.out i (by omega)
        have c2 := CH.out j hjn
        by_cases d4 : mirAt M i = -1
        · rw [show (mirAt M i != -1) = false from by rw [d4]; rfl] at c1
          by_cases d5 : mirAt M j = -1
          · rw [show (mirAt M j != -1) = false from by rw [d5]; rfl] at c2
            have HOK : Hid (mirOk M i j) := hOK.2 ⟨d4, d5⟩
            rw [e1, e2]
            obtain ⟨v, g1, g2, g3, g4⟩ := hM
            obtain ⟨av, nv, cv, rfl⟩ : ∃ av nv cv, v = .slice av nv cv := by
              obtain ⟨_, ⟨rfl, _⟩ | ⟨g, cap', cur, rfl, _⟩⟩ := g3
              · exact ⟨_, _, _, rfl⟩
              · exact ⟨_, _, _, rfl⟩
            have hvv : av = aB ∧ nv = M.length ∧ cv = cB := by
              rw [g1] at hBB
              simp [csP] at hBB
              exact hBB
            obtain ⟨rfl, rfl, rfl⟩ := hvv
            obtain ⟨g, rfl, -, ⟨u, q1⟩, q2, q3, q4, q5, q6⟩ := map_set (cs := csP) (W := w.drew) (by decide) (by decide) (by decide) i (j : Int) (by omega) g1 g2 g3 g4
            obtain ⟨g', eg, -, ⟨u', r1⟩, r2, r3, r4, r5, r6⟩ := map_set (cs := csP) (by decide) (by decide) (by decide) (M := setM M i j) j (i : Int) (by rw [setM_length]; exact hjn) q3 g2 q4 q5
            obtain rfl : g = g' := by simpa using eg
            have HS1 : Hid ((w.drew.setCell ⟨g, i * 2 + 1, none⟩ (.int .i64 (j : Int))).cell? ⟨g, j * 2 + 1, none⟩ = some (.int .i64 u') ∧ (w.drew.setCell ⟨g, i * 2 + 1, none⟩ (.int .i64 (j : Int))).frozen? ⟨g, j * 2 + 1, none⟩ = false) := ⟨r1, r2⟩
            have HE : Hid (MapP ((w.drew.setCell ⟨g, i * 2 + 1, none⟩ (.int .i64 (j : Int))).setCell ⟨g, j * 2 + 1, none⟩ (.int .i64 (i : Int))) base B (setM (setM M i j) j i) ∧ KeepP base w ((w.drew.setCell ⟨g, i * 2 + 1, none⟩ (.int .i64 (j : Int))).setCell ⟨g, j * 2 + 1, none⟩ (.int .i64 (i : Int)))) := ⟨⟨_, r3, g2, r4, r5⟩, (KeepM.of_below (Below.refl _ w).drew (Nat.le_trans g2 (Nat.le_of_lt (Array.getElem?_eq_some_iff.1 g1).1))).trans (q6.trans r6)⟩
            have w1 : w.drew.cell? ⟨g, i * 2 + 1, none⟩ = some (.int .i64 u) := q1
            have w2 : w.drew.frozen? ⟨g, i * 2 + 1, none⟩ = false := q2
            have w3 : w.drew.cell? ⟨B, 0, none⟩ = some (.slice (some ⟨g, 0, none⟩) M.length cv) := g0
            clear g1 g3 g4 q1 q2 q3 q4 q5 q6 r1 r2 r3 r4 r5 r6 hBB hOK d4 d5
            go_enter Try.func22, Try.ntmps22
            go_wp2_with fail
            refine cm.mono ?_
            rintro e w' ⟨rfl, hww⟩
            rw [hww]
            go_wp2_with fail
            refine c1.mono ?_
            rintro e w'' ⟨rfl, hww2⟩
            rw [hww2]
            go_wp2_with fail
            refine c2.mono ?_
            rintro e w3 ⟨rfl, hww3⟩
            rw [hww3]
            clear hww hww2 hww3
            go_wp2_with fail
            have hin : i < M.length := by omega
            generalize hlen : M.length = n at *
            refine wp_region_held_drew (S := fun _ => True) mixed trivial (fun _ => ?_)
            generalize w.drew = Y0 at *
            refine takeD 0 (some 36) (v := ?_) rfl rfl (by kernel_rfl) (by kernel_rfl) (by kernel_rfl) (fun _ _ _ h => h) (Or.inl ⟨by rfl, ?_⟩) trivial ?_
            rotate_left
            · intro w hSw
              try go_simp
              with_reducible rfl
            try simp only [Act.put, List.setIfInBounds_toArray, List.set_cons_zero, List.set_cons_succ]
            refine takeD 1 (some 37) (v := ?_) rfl rfl (by kernel_rfl) (by kernel_rfl) (by kernel_rfl) (fun _ _ _ h => h) (Or.inl ⟨by rfl, ?_⟩) trivial ?_
            rotate_left
            · intro w hSw
              go_simp
              with_reducible rfl
            try simp only [Act.put, List.setIfInBounds_toArray, List.set_cons_zero, List.set_cons_succ]
            refine takeD 2 (some 38) (v := ?_) rfl rfl (by kernel_rfl) (by kernel_rfl) (by kernel_rfl) (fun _ _ _ h => h) (Or.inl ⟨by rfl, ?_⟩) trivial ?_
            rotate_left
            · intro w hSw
              go_simp
              with_reducible rfl
            try simp only [Act.put, List.setIfInBounds_toArray, List.set_cons_zero, List.set_cons_succ]
            refine takeD 4 (some 40) (v := ?_) rfl rfl (by kernel_rfl) (by kernel_rfl) (by kernel_rfl) (fun _ _ _ h => h) (Or.inl ⟨by rfl, ?_⟩) trivial ?_
            rotate_left
            · intro w hSw
              try go_simp
              with_reducible rfl
            try simp only [Act.put, List.setIfInBounds_toArray, List.set_cons_zero, List.set_cons_succ]
            refine takeD 5 (some 41) (v := ?_) rfl rfl (by kernel_rfl) (by kernel_rfl) (by kernel_rfl) (fun _ _ _ h => h) (Or.inl ⟨by rfl, ?_⟩) trivial ?_
            rotate_left
            · intro w hSw
              try go_simp
              with_reducible rfl
            try simp only [Act.put, List.setIfInBounds_toArray, List.set_cons_zero, List.set_cons_succ]
            refine takeD 6 (some 42) (v := ?_) rfl rfl (by kernel_rfl) (by kernel_rfl) (by kernel_rfl) (fun _ _ _ h => h) (Or.inl ⟨by rfl, ?_⟩) trivial ?_
            rotate_left
            · intro w hSw
              go_simp
              with_reducible rfl
            try simp only [Act.put, List.setIfInBounds_toArray, List.set_cons_zero, List.set_cons_succ]
            refine takeD 7 (some 43) (v := ?_) rfl rfl (by kernel_rfl) (by kernel_rfl) (by kernel_rfl) (fun _ _ _ h => h) (Or.inl ⟨by rfl, ?_⟩) trivial ?_
            rotate_left
            · intro w hSw
              go_simp
              with_reducible rfl
            try simp only [Act.put, List.setIfInBounds_toArray, List.set_cons_zero, List.set_cons_succ]
            refine takeD 9 (some 45) (v := ?_) rfl rfl (by kernel_rfl) (by kernel_rfl) (by kernel_rfl) (fun _ _ _ h => h) (Or.inl ⟨by rfl, ?_⟩) trivial ?_
            rotate_left
            · intro w hSw
              try go_simp
              with_reducible rfl
            try simp only [Act.put, List.setIfInBounds_toArray, List.set_cons_zero, List.set_cons_succ]
            refine takeD 10 (some 46) (v := ?_) rfl rfl (by kernel_rfl) (by kernel_rfl) (by kernel_rfl) (fun _ _ _ h => h) (Or.inl ⟨by rfl, ?_⟩) trivial ?_
            rotate_left
            · intro w hSw
              try go_simp
              with_reducible rfl
            try simp only [Act.put, List.setIfInBounds_toArray, List.set_cons_zero, List.set_cons_succ]
            refine takeD 11 (some 47) (v := ?_) rfl rfl (by kernel_rfl) (by kernel_rfl) (by kernel_rfl) (fun _ _ _ h => h) (Or.inl ⟨by rfl, ?_⟩) trivial ?_
            rotate_left
            · intro w hSw
              try go_simp
              with_reducible rfl
            try simp only [Act.put, List.setIfInBounds_toArray, List.set_cons_zero, List.set_cons_succ]
            refine wpAnyH_ready (rs := [3, 8]) (by kernel_rfl) (by simp) (AllReadyH.cons rfl (fun K hK => ?_) ( AllReadyH.cons rfl (fun K hK => ?_) (AllReadyH.nil)))
            · rw [if_pos (by rfl)]
              go_simp
              refine hK.out _ _ trivial (fun _ => ?_)
              clear hK K
              try simp only [Act.put, List.setIfInBounds_toArray, List.set_cons_zero, List.set_cons_succ]
              refine callD 8 (by kernel_rfl) rfl (fun K hK => ?_)
              rw [if_pos (by rfl)]
              go_simp
              refine hK.out _ _ trivial (fun _ => ?_)
              clear hK K
              try simp only [Act.put, List.setIfInBounds_toArray, List.set_cons_zero, List.set_cons_succ]
              refine takeD 12 (some 48) (v := ?_) rfl rfl (by kernel_rfl) (by kernel_rfl) (by kernel_rfl) (fun _ _ _ h => h) (Or.inl ⟨by rfl, ?_⟩) trivial ?_
              rotate_left
              · intro w hSw
                go_simp
                with_reducible rfl
              try simp only [Act.put, List.setIfInBounds_toArray, List.set_cons_zero, List.set_cons_succ]
              refine takeD 13 (some 49) (v := ?_) rfl rfl (by kernel_rfl) (by kernel_rfl) (by kernel_rfl) (fun _ _ _ h => h) (Or.inl ⟨by rfl, ?_⟩) trivial ?_
              rotate_left
              · intro w hSw
                go_simp
                with_reducible rfl
              try simp only [Act.put, List.setIfInBounds_toArray, List.set_cons_zero, List.set_cons_succ]
              refine callD 14 (by kernel_rfl) rfl (fun K hK => ?_)
              rw [if_pos (by rfl)]
              go_simp
              refine hK.out _ _ trivial (fun _ => ?_)
              clear hK K
              try simp only [Act.put, List.setIfInBounds_toArray]
              refine takeD 15 (some 50) (v := ?_) rfl rfl (by kernel_rfl) (by kernel_rfl) (by kernel_rfl) (fun _ _ _ h => h) (Or.inl ⟨by rfl, ?_⟩) trivial ?_
              rotate_left
              · intro w hSw
                go_simp
                with_reducible rfl
              try simp only [Act.put, List.setIfInBounds_toArray, List.set_cons_zero, List.set_cons_succ]
              refine takeD 16 (some 51) (v := ?_) rfl rfl (by kernel_rfl) (by kernel_rfl) (by kernel_rfl) (fun _ _ _ h => h) (Or.inl ⟨by rfl, ?_⟩) trivial ?_
              rotate_left
              · intro w hSw
                go_simp
                with_reducible rfl
              try simp only [Act.put, List.setIfInBounds_toArray, List.set_cons_zero, List.set_cons_succ]
              refine callD 17 (by kernel_rfl) rfl (fun K hK => ?_)
              rw [if_pos (by rfl)]
              obtain ⟨d1, d2⟩ := HS1.out
              go_simp
              refine hK.out _ _ trivial (fun _ => ?_)
              clear hK K
              try simp only [Act.put, List.setIfInBounds_toArray]
              refine wpAnyH_done (by kernel_rfl) ?_ _
              go_wp2
              go_ret
              first | exact .inr ⟨HOK.out, rfl, HE.out⟩ | exact .inr ⟨HOK.out, HE.out⟩ | exact ⟨rfl, HE.out⟩
            · rw [if_pos (by rfl)]
              go_simp
              refine hK.out _ _ trivial (fun _ => ?_)
              clear hK K
              try simp only [Act.put, List.setIfInBounds_toArray, List.set_cons_zero, List.set_cons_succ]
              refine callD 3 (by kernel_rfl) rfl (fun K hK => ?_)
              rw [if_pos (by rfl)]
              go_simp
              refine hK.out _ _ trivial (fun _ => ?_)
              clear hK K
              try simp only [Act.put, List.setIfInBounds_toArray, List.set_cons_zero, List.set_cons_succ]
              refine takeD 12 (some 48) (v := ?_) rfl rfl (by kernel_rfl) (by kernel_rfl) (by kernel_rfl) (fun _ _ _ h => h) (Or.inl ⟨by rfl, ?_⟩) trivial ?_
              rotate_left
              · intro w hSw
                go_simp
                with_reducible rfl
              try simp only [Act.put, List.setIfInBounds_toArray, List.set_cons_zero, List.set_cons_succ]
              refine takeD 13 (some 49) (v := ?_) rfl rfl (by kernel_rfl) (by kernel_rfl) (by kernel_rfl) (fun _ _ _ h => h) (Or.inl ⟨by rfl, ?_⟩) trivial ?_
              rotate_left
              · intro w hSw
                go_simp
                with_reducible rfl
              try simp only [Act.put, List.setIfInBounds_toArray, List.set_cons_zero, List.set_cons_succ]
              refine callD 14 (by kernel_rfl) rfl (fun K hK => ?_)
              rw [if_pos (by rfl)]
              go_simp
              refine hK.out _ _ trivial (fun _ => ?_)
              clear hK K
              try simp only [Act.put, List.setIfInBounds_toArray]
              refine takeD 15 (some 50) (v := ?_) rfl rfl (by kernel_rfl) (by kernel_rfl) (by kernel_rfl) (fun _ _ _ h => h) (Or.inl ⟨by rfl, ?_⟩) trivial ?_
              rotate_left
              · intro w hSw
                go_simp
                with_reducible rfl
              try simp only [Act.put, List.setIfInBounds_toArray, List.set_cons_zero, List.set_cons_succ]
              refine takeD 16 (some 51) (v := ?_) rfl rfl (by kernel_rfl) (by kernel_rfl) (by kernel_rfl) (fun _ _ _ h => h) (Or.inl ⟨by rfl, ?_⟩) trivial ?_
              rotate_left
              · intro w hSw
                go_simp
                with_reducible rfl
              try simp only [Act.put, List.setIfInBounds_toArray, List.set_cons_zero, List.set_cons_succ]
              refine callD 17 (by kernel_rfl) rfl (fun K hK => ?_)
              rw [if_pos (by rfl)]
              obtain ⟨d1, d2⟩ := HS1.out
              go_simp
              refine hK.out _ _ trivial (fun _ => ?_)
              clear hK K
              try simp only [Act.put, List.setIfInBounds_toArray]
              refine wpAnyH_done (by kernel_rfl) ?_ _
              go_wp2
              go_ret
              first | exact .inr ⟨HOK.out, rfl, HE.out⟩ | exact .inr ⟨HOK.out, HE.out⟩ | exact ⟨rfl, HE.out⟩
          · rw [show (mirAt M j != -1) = true from by simpa using d5] at c2
            have HN : Hid (¬ mirOk M i j) := fun h => d5 (hOK.1 h).2
            clear hM hBB hOK
            generalize M.length = n at *
            go_enter Try.func22, Try.ntmps22
            go_wp2_with fail
            refine cm.mono ?_
            rintro e w' ⟨rfl, hww⟩
            rw [hww]
            go_wp2_with fail
            refine c1.mono ?_
            rintro e w'' ⟨rfl, hww2⟩
            rw [hww2]
            go_wp2_with fail
            refine c2.mono ?_
            rintro e w3 ⟨rfl, hww3⟩
            rw [hww3]
            go_wp2
            go_ret
            first | exact .inl ⟨HN.out, rfl, rfl⟩ | exact .inl HN.out
        · rw [show (mirAt M i != -1) = true from by simpa using d4] at c1
          have HN : Hid (¬ mirOk M i j) := fun h => d4 (hOK.1 h).1
          clear hM hBB hOK
          generalize M.length = n at *
          go_enter Try.func22, Try.ntmps22
          go_wp2_with fail
          refine cm.mono ?_
          rintro e w' ⟨rfl, hww⟩
          rw [hww]
          go_wp2_with fail
          refine c1.mono ?_
          rintro e w'' ⟨rfl, hww2⟩
          rw [hww2]
          go_wp2
          go_ret
          first | exact .inl ⟨HN.out, rfl, rfl⟩ | exact .inl HN.out
end Go.Proofs.Ytiadcpbaopafgaa
