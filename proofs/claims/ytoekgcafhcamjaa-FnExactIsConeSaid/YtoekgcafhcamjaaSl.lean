/- A slice value that reads as a list of values, each of one cell; it stays so while the memory below stays. -/
import Derived.Test.YtoekgcafhcamjaaCom
import Derived.WalkKit
import Derived.ProofKit
import Derived.SliceStrings
import Derived.Below
import Derived.Lib.Hide
namespace Go.Proofs.Ytoekgcafhcamjaa
open Go Go.RowKit Go.ChangeShapes Go.WideShapes

/-- The slice v reads as xs. -/
def Sl (W : World) (v : Value) (xs : List Value) : Prop :=
  (xs = [] ∧ ∃ (a : Option Addr) (c : Nat), v = .slice a 0 c) ∨
  (xs ≠ [] ∧ ∃ b off c : Nat, v = .slice (some ⟨b, off, none⟩) xs.length c ∧ xs.length ≤ c ∧ xs.length ≤ maxLen ∧ b < W.heap.size ∧ ∀ (i : Nat) x, xs[i]? = some x → W.cell? ⟨b, off + i, none⟩ = some x)

theorem Sl.below {W W' : World} {v : Value} {xs : List Value} (h : Sl W v xs) (hb : Below W.heap.size W W') : Sl W' v xs := by
  rcases h with h | ⟨h0, b, off, c, rfl, hc, hm, hlt, hx⟩
  · exact .inl h
  · refine .inr ⟨h0, b, off, c, rfl, hc, hm, Nat.lt_of_lt_of_le hlt hb.size, fun i x hi => ?_⟩
    rw [hb.cell (p := ⟨b, off + i, none⟩) hlt]; exact hx i x hi
theorem Sl.shape {W : World} {v : Value} {xs : List Value} (h : Sl W v xs) :
    ∃ (a : Option Addr) (c : Nat), v = .slice a xs.length c ∧ xs.length ≤ maxLen ∧ (0 < xs.length → ∃ b off : Nat, a = some ⟨b, off, none⟩ ∧ xs.length ≤ c ∧ b < W.heap.size ∧ ∀ (i : Nat) x, xs[i]? = some x → W.cell? ⟨b, off + i, none⟩ = some x) := by
  rcases h with ⟨rfl, a, c, rfl⟩ | ⟨h0, b, off, c, rfl, hc, hm, hlt, hx⟩
  · exact ⟨a, c, rfl, by simp, fun h => by simp at h⟩
  · exact ⟨_, c, rfl, hm, fun _ => ⟨b, off, rfl, hc, hlt, hx⟩⟩
theorem Sl.len {W : World} {v : Value} {xs : List Value} (h : Sl W v xs) : xs.length ≤ maxLen := by
  rcases h with ⟨rfl, _⟩ | ⟨_, _, _, _, _, _, h, _⟩
  · simp
  · exact h
/-- A row that the call made itself. -/
theorem Sl.of_owns {W : World} {base : Nat} {e : TypeId} {v : Value} {n : Nat} {xs : List Value} (h : W.ownsRow base e 1 v n xs) : Sl W v xs := by
  obtain ⟨hl, h⟩ := h
  rw [Nat.mul_one] at hl
  rcases h with ⟨rfl, rfl⟩ | ⟨g, cap, cur, rfl, hg, hb, hn, hm, hs, ht⟩
  · exact .inl ⟨by simpa using hl, none, 0, rfl⟩
  · by_cases h0 : xs = []
    · subst h0
      obtain rfl : n = 0 := by simpa using hl.symm
      exact .inl ⟨rfl, _, _, rfl⟩
    · refine .inr ⟨h0, g, 0, cap, by rw [hl], by omega, by omega, ?_, fun i x hi => ?_⟩
      · by_cases hlt : g < W.heap.size
        · exact hlt
        · rw [Array.getElem?_eq_none (by omega)] at hb; cases hb
      · have hi' : i < n := by
          by_cases hh : i < n
          · exact hh
          · rw [List.getElem?_eq_none (by omega)] at hi; cases hi
        rw [cell_of_row W g (0 + i) cur e (0, 0) hb]
        rw [← ht, Nat.mul_one, List.getElem?_take, if_pos hi'] at hi
        simpa using hi

/-- Strings as values, integers as values. -/
def strVals (ss : List ByteArray) : List Value := ss.map Value.string
def intVals (zs : List Int) : List Value := zs.map (Value.int .i64)
def numVals (k : IntKind) (zs : List Int) : List Value := zs.map (Value.int k)
theorem numVals_len (k : IntKind) (zs : List Int) : (numVals k zs).length = zs.length := by simp [numVals]
theorem numVals_get {k : IntKind} (zs : List Int) (i : Nat) (h : i < zs.length) : (numVals k zs)[i]? = some (.int k zs[i]) := by simp [numVals, h]
theorem strVals_len (ss : List ByteArray) : (strVals ss).length = ss.length := by simp [strVals]
theorem intVals_len (zs : List Int) : (intVals zs).length = zs.length := by simp [intVals]
theorem strVals_get (ss : List ByteArray) (i : Nat) (h : i < ss.length) : (strVals ss)[i]? = some (.string ss[i]) := by simp [strVals, h]
theorem intVals_get (zs : List Int) (i : Nat) (h : i < zs.length) : (intVals zs)[i]? = some (.int .i64 zs[i]) := by simp [intVals, h]

theorem cell_block_lt {W : World} {a : Addr} {v : Value} (h : W.cell? a = some v) : a.block < W.heap.size := by
  by_cases hlt : a.block < W.heap.size
  · exact hlt
  · unfold World.cell? at h
    rw [Array.getElem?_eq_none (by omega)] at h
    simp at h
theorem cell_spot {W : World} {a : Addr} {v : Value} (h : W.cell? a = some v) : a.spot = none := by
  unfold World.cell? at h
  split at h
  · split at h
    · cases h
    · rename_i hs; simpa using hs
  · cases h
/-- What came in as a slice of one-cell elements. -/
theorem sl_of_cells {W : World} {a : Addr} {len cap : Nat} {xs : List Value} (hlen : xs.length = len) (hc : len ≤ cap) (hm : cap ≤ maxLen)
    (hx : ∀ (i : Nat) x, xs[i]? = some x → W.cell? (a.add i) = some x) : Sl W (.slice (some a) len cap) xs := by
  by_cases h0 : xs = []
  · subst h0
    simp only [List.length_nil] at hlen
    subst hlen
    exact .inl ⟨rfl, _, _, rfl⟩
  · obtain ⟨x, r, rfl⟩ : ∃ x r, xs = x :: r := by cases xs with | nil => exact absurd rfl h0 | cons x r => exact ⟨x, r, rfl⟩
    have hx0 := hx 0 x rfl
    have hsp := cell_spot hx0
    have hlt := cell_block_lt hx0
    obtain ⟨b, off, sp⟩ := a
    simp only [Addr.add] at hsp hlt hx
    subst hsp
    exact .inr ⟨h0, b, off, cap, by rw [hlen], by omega, by omega, hlt, fun i y hi => by
      have h1 := hx i y hi
      by_cases h0 : i = 0
      · subst h0; simpa using h1
      · simpa [h0] using h1⟩

section
variable {H : Type} {enc : TypeId × Value → H} {P : Program}
theorem strs_came {W : World} {base : Nat} {sp : Nat → Bool} {held : Bool} {t e : TypeId} {fuel : Nat} {a : Option Addr} {len cap : Nat} {x : DataW H × List MemPlace}
    (ht : P.underlying t = some (.slice e)) (he : P.underlying e = some .string) (hc : P.cellsOf e = 1)
    (h : DataW.trod enc P W base sp held fuel t [.slice a len cap] = some x) :
    ∃ ss : List ByteArray, ss.length = len ∧ Sl W (.slice a len cap) (strVals ss) ∧ ∀ s ∈ ss, s.size ≤ maxLen := by
  rcases open_strings ht he hc h with ⟨hcs, _⟩ | ⟨a', len', cap', ss, hcs, _, hl, hm, hz, _, hcell, hws⟩
  · simp only [List.cons.injEq, Value.slice.injEq, and_true] at hcs
    obtain ⟨rfl, rfl, rfl⟩ := hcs
    exact ⟨[], rfl, .inl ⟨rfl, _, _, rfl⟩, by simp⟩
  · simp only [List.cons.injEq, Value.slice.injEq, and_true] at hcs
    obtain ⟨rfl, rfl, rfl⟩ := hcs
    have hle : len ≤ ss.length := by split at hz <;> omega
    refine ⟨ss.take len, by rw [List.length_take]; omega, sl_of_cells (by rw [strVals_len, List.length_take]; omega) hl hm ?_, fun s hs => hws s (List.mem_of_mem_take hs)⟩
    intro i x hi
    have hi' : i < len := by
      by_cases hh : i < len
      · exact hh
      · rw [List.getElem?_eq_none (by rw [strVals_len, List.length_take]; omega)] at hi; cases hi
    rw [hcell i (by omega)]
    rw [strVals_get _ _ (by rw [List.length_take]; omega)] at hi
    rw [← Option.some.inj hi]
    simp [List.getD_eq_getElem?_getD, show i < ss.length from by omega]
theorem nums_came {k : IntKind} {W : World} {base : Nat} {sp : Nat → Bool} {held : Bool} {t e : TypeId} {fuel : Nat} {a : Option Addr} {len cap : Nat} {x : DataW H × List MemPlace}
    (ht : P.underlying t = some (.slice e)) (he : P.underlying e = some (.int k)) (hc : P.cellsOf e = 1)
    (h : DataW.trod enc P W base sp held fuel t [.slice a len cap] = some x) :
    ∃ zs : List Int, zs.length = len ∧ Sl W (.slice a len cap) (numVals k zs) ∧ ∀ z ∈ zs, (Lit.int k z).wf = true := by
  rcases open_ints ht he hc h with ⟨hcs, _⟩ | ⟨a', len', cap', zs, hcs, _, hl, hm, hz, _, hcell, hws⟩
  · simp only [List.cons.injEq, Value.slice.injEq, and_true] at hcs
    obtain ⟨rfl, rfl, rfl⟩ := hcs
    exact ⟨[], rfl, .inl ⟨rfl, _, _, rfl⟩, by simp⟩
  · simp only [List.cons.injEq, Value.slice.injEq, and_true] at hcs
    obtain ⟨rfl, rfl, rfl⟩ := hcs
    have hle : len ≤ zs.length := by split at hz <;> omega
    refine ⟨zs.take len, by rw [List.length_take]; omega, sl_of_cells (by rw [numVals_len, List.length_take]; omega) hl hm ?_, fun s hs => hws s (List.mem_of_mem_take hs)⟩
    intro i x hi
    have hi' : i < len := by
      by_cases hh : i < len
      · exact hh
      · rw [List.getElem?_eq_none (by rw [numVals_len, List.length_take]; omega)] at hi; cases hi
    rw [hcell i (by omega)]
    rw [numVals_get _ _ (by rw [List.length_take]; omega)] at hi
    rw [← Option.some.inj hi]
    simp [List.getD_eq_getElem?_getD, show i < zs.length from by omega]
theorem ints_came {W : World} {base : Nat} {sp : Nat → Bool} {held : Bool} {t e : TypeId} {fuel : Nat} {a : Option Addr} {len cap : Nat} {x : DataW H × List MemPlace}
    (ht : P.underlying t = some (.slice e)) (he : P.underlying e = some (.int .i64)) (hc : P.cellsOf e = 1)
    (h : DataW.trod enc P W base sp held fuel t [.slice a len cap] = some x) :
    ∃ zs : List Int, zs.length = len ∧ Sl W (.slice a len cap) (intVals zs) ∧ ∀ z ∈ zs, (Lit.int .i64 z).wf = true := nums_came ht he hc h
end

def sizes (ss : List ByteArray) : Nat := (ss.map (·.size)).sum
theorem sizes_snoc (ss : List ByteArray) (k : Nat) (h : k < ss.length) : sizes (ss.take (k + 1)) = sizes (ss.take k) + ss[k].size := by
  unfold sizes
  rw [List.take_succ_eq_append_getElem h, List.map_append, List.sum_append]; simp
theorem sizes_take_le (ss : List ByteArray) (k : Nat) : sizes (ss.take k) ≤ sizes ss := by
  unfold sizes
  conv => rhs; rw [← List.take_append_drop k ss, List.map_append, List.sum_append]
  omega
/-- What szStringS answers. -/
def szStr (ss : List ByteArray) (left : Int) : Int := if left - ss.length - sizes ss < 0 then -1 else left - ss.length - sizes ss

/-- A row that is filled from the left. -/
def filled (xs : List Value) (z : Value) (k : Nat) : List Value := xs.take k ++ List.replicate (xs.length - k) z
theorem filled_zero (xs : List Value) (z : Value) : filled xs z 0 = List.replicate xs.length z := by simp [filled]
theorem filled_all (xs : List Value) (z : Value) : filled xs z xs.length = xs := by simp [filled]
theorem filled_len (xs : List Value) (z : Value) (k : Nat) (h : k ≤ xs.length) : (filled xs z k).length = xs.length := by simp [filled]; omega
theorem filled_get (xs : List Value) (z : Value) (k : Nat) (h : k < xs.length) : (filled xs z k)[k]? = some z := by
  unfold filled
  rw [List.getElem?_append_right (by rw [List.length_take]; omega), List.length_take, Nat.min_eq_left (by omega), Nat.sub_self, List.getElem?_replicate, if_pos (by omega)]
theorem filled_step (xs : List Value) (z x : Value) (k : Nat) (hx : xs[k]? = some x) : (filled xs z k).set k x = filled xs z (k + 1) := by
  have h : k < xs.length := by
    by_cases hh : k < xs.length
    · exact hh
    · rw [List.getElem?_eq_none (by omega)] at hx; cases hx
  unfold filled
  rw [List.set_append_right _ _ (by rw [List.length_take]; omega), List.length_take, Nat.min_eq_left (by omega), Nat.sub_self]
  rw [show xs.length - k = (xs.length - (k + 1)) + 1 from by omega, List.replicate_succ, List.set_cons_zero, List.take_add_one, hx]
  simp

theorem owns_below {w w' : World} {base : Nat} {e : TypeId} {size : Nat} {v : Value} {n : Nat} {xs : List Value} (h : w.ownsRow base e size v n xs) (hb : Below w.heap.size w w') : w'.ownsRow base e size v n xs := by
  refine ⟨h.1, ?_⟩
  rcases h.2 with h0 | ⟨g, cap, cur, h1, h2, h3, h4⟩
  · exact .inl h0
  · refine .inr ⟨g, cap, cur, h1, h2, ?_, h4⟩
    have hlt : g < w.heap.size := by
      by_cases hlt : g < w.heap.size
      · exact hlt
      · rw [Array.getElem?_eq_none (by omega)] at h3; cases h3
    rw [hb.block g hlt]; exact h3
end Go.Proofs.Ytoekgcafhcamjaa
