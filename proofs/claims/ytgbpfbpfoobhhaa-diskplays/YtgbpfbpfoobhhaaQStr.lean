/-
  PROVED HERE: string(b) of a slice whose bytes are known; texts of bytes are the same just where the bytes are; quad.Put of no bytes and one number.
-/
import Derived.Test.YtgbpfbpfoobhhaaQPut
import Derived.Laws.BytesArg
import Derived.Laws.Strings
import Derived.Laws.Concat
import Derived.DataShut
namespace Go.Proofs.Ytgbpfbpfoobhhaa
open Go.RowKit

/-- Each is a byte. -/
def Bytes (l : List Int) : Prop := ∀ c ∈ l, 0 ≤ c ∧ c ≤ 255

theorem Bytes.append {a b : List Int} (ha : Bytes a) (hb : Bytes b) : Bytes (a ++ b) := fun c hc => (List.mem_append.1 hc).elim (ha c) (hb c)
theorem bytes_leb (n : Nat) : Bytes (leb n) := leb_byte n
theorem bytes_lebs (l : List Int) : Bytes (lebs l) := fun c hc => by
  obtain ⟨x, _, hx⟩ := List.mem_flatMap.1 hc
  exact leb_byte _ c hx

theorem ofNat_inj {a b : Int} (ha : 0 ≤ a ∧ a ≤ 255) (hb : 0 ≤ b ∧ b ≤ 255) (h : UInt8.ofNat a.toNat = UInt8.ofNat b.toNat) : a = b := by
  have := congrArg UInt8.toNat h
  simp at this
  omega

theorem str_inj : ∀ {a b : List Int}, Bytes a → Bytes b → strOfNums a = strOfNums b → a = b := by
  intro a b ha hb h
  have h' : a.map (fun n => UInt8.ofNat n.toNat) = b.map (fun n => UInt8.ofNat n.toNat) := by
    rw [← strOfNums_data, ← strOfNums_data, h]
  clear h
  induction a generalizing b with
  | nil => cases b with
    | nil => rfl
    | cons y b => simp at h'
  | cons x a ih =>
    cases b with
    | nil => simp at h'
    | cons y b =>
      rw [List.map_cons, List.map_cons] at h'
      obtain ⟨h1, h2⟩ := List.cons.inj h'
      rw [ofNat_inj (ha x (by simp)) (hb y (by simp)) h1, ih (fun c hc => ha c (by simp [hc])) (fun c hc => hb c (by simp [hc])) h2]

/-- Go's == of two texts of bytes. -/
theorem str_beq {a b : List Int} (ha : Bytes a) (hb : Bytes b) : ((strOfNums a).toList == (strOfNums b).toList) = decide (a = b) := by
  by_cases h : a = b
  · subst h
    simp
  · have : (strOfNums a).toList ≠ (strOfNums b).toList := by
      rw [ByteArray.toList_eq, ByteArray.toList_eq, strOfNums_data, strOfNums_data]
      intro e
      exact h (str_inj ha hb (by unfold strOfNums; rw [e]))
    simp [h, this]

theorem of_wf_u64 {x : Int} (h : (Lit.int .u64 x).wf = true) : 0 ≤ x ∧ x ≤ 18446744073709551615 := (Lit.wf_int_iff .u64 x).1 h
theorem of_wf_u8 {x : Int} (h : (Lit.int .u8 x).wf = true) : 0 ≤ x ∧ x ≤ 255 := (Lit.wf_int_iff .u8 x).1 h
theorem of_wf_i64 {x : Int} (h : (Lit.int .i64 x).wf = true) : -9223372036854775808 ≤ x ∧ x ≤ 9223372036854775807 := (Lit.wf_int_iff .i64 x).1 h

theorem str_append (a b : List Int) : strOfNums a ++ strOfNums b = strOfNums (a ++ b) := by
  unfold strOfNums
  apply ByteArray.ext
  simp [ByteArray.data_append]

/-- Go's + of two texts of bytes. -/
theorem str_add (a b : List Int) (h : a.length + b.length ≤ 70368744177664) (w : World) : (Op.stringOp .add (strOfNums a) (strOfNums b)).run Try.prog w = .ok (.string (strOfNums (a ++ b))) w := by
  rw [run_string_add_sum w _ _ (by rw [strOfNums_size, strOfNums_size]; omega), str_append]

/-- string(b). -/
theorem conv_row {W : World} {a : Option Addr} {len cap : Nat} {bs : List Int} (h : Row .u8 W a len bs) : (convert 22 9 (.slice a len cap)).run Try.prog W = .ok (.string (strOfNums bs)) W := by
  obtain ⟨hl, h0 | ⟨b, o, rfl, _, hc⟩⟩ := h
  · subst h0
    obtain rfl : bs = [] := List.length_eq_zero_iff.1 hl
    cases a with
    | none => exact run_convert_bytes_nil W 22 5 Try.underlying22 Try.underlying5 _ _ 9 Try.underlying9
    | some p =>
      obtain ⟨b, o, sp⟩ := p
      rw [run_convert_bytes_string W 22 9 5 _ 0 cap Try.underlying22 Try.underlying5 Try.underlying9, run_bytesToString W _ 0 cap [] (by simpa using run_loadCells_list (P := Try.prog) W ⟨b, o, sp⟩ [] (by simp))]
      rfl
  · exact run_convert_bytes_arg W 22 5 Try.underlying22 Try.underlying5 b o len cap bs hl hc 9 Try.underlying9

/-- What a slice owns, read. -/
theorem row_of_owns {W : World} {base : Nat} {e : TypeId} {k : IntKind} {v : Value} {n : Nat} {bs : List Int} (h : W.ownsRow base e 1 v n (bs.map (Value.int k))) (hv : v ≠ .slice none 0 0) :
    ∃ g cap, v = .slice (some ⟨g, 0, none⟩) n cap ∧ base ≤ g ∧ n ≤ cap ∧ cap ≤ maxLen ∧ Row k W (some ⟨g, 0, none⟩) n bs := by
  obtain ⟨hl, ⟨h1, _⟩ | ⟨g, cap, cur, rfl, hb, hg, hc1, hc2, hc3, hc4⟩⟩ := h
  · exact absurd h1 hv
  · have hl' : bs.length = n := by simpa using hl
    refine ⟨g, cap, rfl, hb, hc1, hc2, hl', ?_⟩
    rcases Nat.eq_zero_or_pos n with h0 | h0
    · exact .inl h0
    · refine .inr ⟨g, 0, rfl, (Array.getElem?_eq_some_iff.1 hg).1, fun i hi => ?_⟩
      have : cur.toList[i]? = some (.int k (bs.getD i 0)) := by
        have h2 := congrArg (·[i]?) hc4
        simp only [Nat.mul_one] at h2
        rw [List.getElem?_take, if_pos hi] at h2
        rw [h2, List.getElem?_map, List.getElem?_eq_getElem (by omega), List.getD_eq_getElem?_getD, List.getElem?_eq_getElem (by omega)]
        rfl
      rw [Array.getElem?_toList] at this
      simp [World.cell?, hg, this]

theorem Row.mono {k : IntKind} {w w' : World} {a : Option Addr} {len B : Nat} {zs : List Int} (h : Row k w a len zs) (hB : w.heap.size ≤ B) (hb : Below B w w') : Row k w' a len zs := h.below (hb.mono hB)

theorem row_new {k : IntKind} (W : World) (t : TypeId) (x : Int) : Row k (W.alloc (.cells #[.int k x] t)) (some ⟨W.heap.size, 0, none⟩) 1 [x] :=
  ⟨rfl, .inr ⟨W.heap.size, 0, rfl, by simp, fun i hi => by
    obtain rfl : i = 0 := by omega
    exact (Boxed.new W t (.int k x)).cell⟩⟩
theorem row_nil {k : IntKind} (W : World) (a : Option Addr) : Row k W a 0 [] := ⟨rfl, .inl rfl⟩

end Go.Proofs.Ytgbpfbpfoobhhaa
