/-
  PROVED HERE: a slice of slices of bytes that came in: what each holds, and how long it may be.
-/
import Derived.Test.YtgbpfbpfoobhhaaDArg
namespace Go.Proofs.Ytgbpfbpfoobhhaa
open Go.ChangeShapes Go.WideShapes Go.ChangeAt Go.RowKit

/-- A slice of bytes as it lies in a slice of them. -/
def PartAt (W : World) (b o : Nat) : Prop := ∃ a len cap zs, W.cell? ⟨b, o, none⟩ = some (.slice a len cap) ∧ Row .u8 W a len zs ∧ Bytes zs ∧ (a = none → cap = 0) ∧ len ≤ 140737488351232
def Parts (W : World) (a : Option Addr) (len : Nat) : Prop := len = 0 ∨ ∃ b o, a = some ⟨b, o, none⟩ ∧ b < W.heap.size ∧ ∀ i, i < len → PartAt W b (o + i)

theorem weights_all {H : Type} {P : Program} {e : TypeId} {l : List (DataW H)} {x : DataW H} {n : Nat} (hx : x ∈ l) (hn : n ∈ x.weights P e) : n ∈ DataW.weightsAll P e l := by
  induction l with
  | nil => cases hx
  | cons d r ih =>
    unfold DataW.weightsAll
    rcases List.mem_cons.1 hx with rfl | h
    · exact List.mem_append.2 (.inl hn)
    · exact List.mem_append.2 (.inr (ih h))

theorem sized_part {H : Type} {P : Program} {ts : List TypeId} {ds : List (DataW H)} (h : (DataW.weightsEach P ts ds).all (· ≤ reachBytes) = true) {j : Nat} {t e f : TypeId} {elems spare el sp : List (DataW H)} (ht : ts[j]? = some t) (hd : ds[j]? = some (.slice elems spare)) (hu : P.underlying t = some (.slice e)) (hue : P.underlying e = some (.slice f))
    (hx : DataW.slice el sp ∈ elems) : (el.length + sp.length) * P.bytesOf f ≤ reachBytes := by
  have h1 : (el.length + sp.length) * P.bytesOf f ∈ (DataW.slice el sp).weights P e := by simp [DataW.weights, hue]
  have h2 : (el.length + sp.length) * P.bytesOf f ∈ (DataW.slice elems spare).weights P t := by
    simp only [DataW.weights, hu]
    exact List.mem_cons_of_mem _ (List.mem_append.2 (.inl (weights_all hx h1)))
  have := List.all_eq_true.1 h _ (DataW.weights_mem_each ht hd _ h2)
  simpa using this

set_option maxRecDepth 100000 in
theorem open_parts {H : Type} {enc : TypeId × Value → H} {W : World} {ts : List TypeId} {ds : List (DataW H)} (hz : (DataW.weightsEach Try.prog ts ds).all (· ≤ reachBytes) = true) {j : Nat} (ht : ts[j]? = some 23) {a : Option Addr} {len cap : Nat} {d : DataW H} {p : List MemPlace} (hd : ds[j]? = some d)
    (h : DataW.Trod enc Try.prog W 0 (fun _ => true) true 23 (.slice a len cap) d p) : Parts W a len := by
  have c22 : Try.prog.cellsOf 22 = 1 := by kernel_rfl
  obtain ⟨fuel, hf⟩ := h
  rcases DataW.trod_slice Try.underlying23 hf with ⟨e2, d2⟩ | ⟨y, l, c, elems, rest, n', hn, e2, d2, _, hlc, hcm, hel, hes, _, _⟩
  · simp [Value.cells] at e2
    obtain ⟨rfl, rfl, rfl⟩ := e2
    exact .inl rfl
  · simp [Value.cells] at e2
    obtain ⟨rfl, rfl, rfl⟩ := e2
    have hd0 : d = .slice (elems.map (·.1)) (rest.map (·.1)) := congrArg (·.1) d2
    subst hd0
    have each : ∀ i, i < len → ∃ (a' : Option Addr) (len' cap' : Nat) (zs : List Int), W.cell? (y.add i) = some (.slice a' len' cap') ∧ Row .u8 W a' len' zs ∧ Bytes zs ∧ (a' = none → cap' = 0) ∧ len' ≤ 140737488351232 := by
      intro i hi
      have hq := hes i hi
      rw [List.getElem?_eq_getElem (by omega), c22] at hq
      obtain ⟨cs', q1, q2⟩ := Option.bind_eq_some_iff.1 hq
      obtain ⟨hl1, _, hcell⟩ := World.cells?_some q1
      have m0 := hcell 0 (by omega)
      have hsh : ∃ a' len' cap', cs' = [.slice a' len' cap'] := by
        rcases DataW.trod_slice Try.underlying22 q2 with ⟨e3, _⟩ | ⟨y', l', c', _, _, _, _, e3, _⟩
        · exact ⟨none, 0, 0, e3⟩
        · exact ⟨some y', l', c', e3⟩
      obtain ⟨a', len', cap', rfl⟩ := hsh
      have ht' : DataW.Trod enc Try.prog W 0 (fun _ => true) true 22 (.slice a' len' cap') (elems[i]'(by omega)).1 (elems[i]'(by omega)).2 := ⟨n', q2⟩
      obtain ⟨zs, r1, r2, _, r4⟩ := open_arg Try.underlying22 Try.underlying5 (by kernel_rfl) ht'
      have r5 := (open_caps Try.underlying22 Try.underlying5 (by kernel_rfl) ht').2.2
      refine ⟨a', len', cap', zs, ?_, r1, bytes_of_wf r2, r5, ?_⟩
      · simpa [Addr.add] using m0
      · rcases r4 with h0 | ⟨el, sp, he, hle⟩
        · omega
        · have hm : DataW.slice el sp ∈ elems.map (·.1) := List.mem_map.2 ⟨_, List.getElem_mem _, he⟩
          have := sized_part hz ht hd Try.underlying23 Try.underlying22 hm
          rw [bytes5] at this
          have h2 : reachBytes ≤ 140737488351232 := by decide
          omega
    rcases Nat.eq_zero_or_pos len with h0 | h0
    · exact .inl h0
    · obtain ⟨b, o, sp⟩ := y
      obtain rfl : sp = none := by
        obtain ⟨_, _, _, _, q, _⟩ := each 0 h0
        have := World.cell?_spot q
        simpa [Addr.add] using this
      refine .inr ⟨b, o, rfl, ?_, fun i hi => ?_⟩
      · obtain ⟨_, _, _, _, q, _⟩ := each 0 h0
        rw [add_none] at q
        rcases Nat.lt_or_ge b W.heap.size with hlt | hge
        · exact hlt
        · simp [World.cell?, Array.getElem?_eq_none hge] at q
      · obtain ⟨a', len', cap', zs, q, r⟩ := each i hi
        rw [add_none] at q
        exact ⟨a', len', cap', zs, q, r⟩
end Go.Proofs.Ytgbpfbpfoobhhaa
