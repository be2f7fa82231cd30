/- A slice value that reads as a list of values, each of one cell; it stays so while the memory below stays. -/
import Derived.Test.YtjijgagdaolkcaaGreatCom
import Derived.WalkKit
import Derived.ProofKit
import Derived.SliceStrings
import Derived.Below
import Derived.Lib.Hide
namespace Go.Proofs.YtjijgagdaolkcaaGreat
open Go Go.RowKit Go.ChangeShapes Go.WideShapes

/-- The slice v reads as xs. -/
def Sl (W : World) (v : Value) (xs : List Value) : Prop :=
  (xs = [] ∧ ∃ (a : Option Addr) (c : Nat), v = .slice a 0 c) ∨
  (xs ≠ [] ∧ ∃ b off c : Nat, v = .slice (some ⟨b, off, none⟩) xs.length c ∧ xs.length ≤ c ∧ xs.length ≤ maxLen ∧ b < W.heap.size ∧ ∀ (i : Nat) x, xs[i]? = some x → W.cell? ⟨b, off + i, none⟩ = some x)

theorem Sl.below {W W' : World} {v : Value} {xs : List Value} (h : Sl W v xs) (hb : Below W.heap.size W W') : Sl W' v xs := by
  rcases h with h | ⟨h0, b, off, c, rfl, hc, hm, hlt, hx⟩
  · exact .inl h
  · refine .inr ⟨h0, b, off, c, rfl, hc, hm, Nat.lt_of_lt_of_le hlt hb.size, fun i x hi => ?_⟩
    rw [hb.cell (p := ⟨b, off + i, none⟩) hlt]; exact hx i x hi
theorem Sl.shape {W : World} {v : Value} {xs : List Value} (h : Sl W v xs) :
    ∃ (a : Option Addr) (c : Nat), v = .slice a xs.length c ∧ xs.length ≤ maxLen ∧ (0 < xs.length → ∃ b off : Nat, a = some ⟨b, off, none⟩ ∧ xs.length ≤ c ∧ b < W.heap.size ∧ ∀ (i : Nat) x, xs[i]? = some x → W.cell? ⟨b, off + i, none⟩ = some x) := by
  rcases h with ⟨rfl, a, c, rfl⟩ | ⟨h0, b, off, c, rfl, hc, hm, hlt, hx⟩
  · exact ⟨a, c, rfl, by simp, fun h => by simp at h⟩
  · exact ⟨_, c, rfl, hm, fun _ => ⟨b, off, rfl, hc, hlt, hx⟩⟩
theorem Sl.len {W : World} {v : Value} {xs : List Value} (h : Sl W v xs) : xs.length ≤ maxLen := by
  rcases h with ⟨rfl, _⟩ | ⟨_, _, _, _, _, _, h, _⟩
  · simp
  · exact h
/-- A row that the call made itself. -/
theorem Sl.of_owns {W : World} {base : Nat} {e : TypeId} {v : Value} {n : Nat} {xs : List Value} (h : W.ownsRow base e 1 v n xs) : Sl W v xs := by
  obtain ⟨hl, h⟩ := h
  rw [Nat.mul_one] at hl
  rcases h with ⟨rfl, rfl⟩ | ⟨g, cap, cur, rfl, hg, hb, hn, hm, hs, ht⟩
  · exact .inl ⟨by simpa using hl, none, 0, rfl⟩
  · by_cases h0 : xs = []
    · subst h0
      obtain rfl : n = 0 := by simpa using hl.symm
      exact .inl ⟨rfl, _, _, rfl⟩
    · refine .inr ⟨h0, g, 0, cap, by rw [hl], by omega, by omega, ?_, fun i x hi => ?_⟩
      · by_cases hlt : g < W.heap.size
        · exact hlt
        · rw [Array.getElem?_eq_none (by omega)] at hb; cases hb
      · have hi' : i < n := by
          by_cases hh : i < n
          · exact hh
          · rw [List.getElem?_eq_none (by omega)] at hi; cases hi
        rw [cell_of_row W g (0 + i) cur e (0, 0) hb]
        rw [← ht, Nat.mul_one, List.getElem?_take, if_pos hi'] at hi
        simpa using hi

/-- Strings as values, integers as values. -/
def strVals (ss : List ByteArray) : List Value := ss.map Value.string
def intVals (zs : List Int) : List Value := zs.map (Value.int .i64)
def numVals (k : IntKind) (zs : List Int) : List Value := zs.map (Value.int k)
theorem numVals_len (k : IntKind) (zs : List Int) : (numVals k zs).length = zs.length := by simp [numVals]
theorem numVals_get {k : IntKind} (zs : List Int) (i : Nat) (h : i < zs.length) : (numVals k zs)[i]? = some (.int k zs[i]) := by simp [numVals, h]
theorem strVals_len (ss : List ByteArray) : (strVals ss).length = ss.length := by simp [strVals]
theorem intVals_len (zs : List Int) : (intVals zs).length = zs.length := by simp [intVals]
theorem strVals_get (ss : List ByteArray) (i : Nat) (h : i < ss.length) : (strVals ss)[i]? = some (.string ss[i]) := by simp [strVals, h]
theorem intVals_get (zs : List Int) (i : Nat) (h : i < zs.length) : (intVals zs)[i]? = some (.int .i64 zs[i]) := by simp [intVals, h]

theorem cell_block_lt {W : World} {a : Addr} {v : Value} (h : W.cell? a = some v) : a.block < W.heap.size := by
  by_cases hlt : a.block < W.heap.size
  · exact hlt
  · unfold World.cell? at h
    rw [Array.getElem?_eq_none (by omega)] at h
    simp at h
theorem cell_spot {W : World} {a : Addr} {v : Value} (h : W.cell? a = some v) : a.spot = none := by
  unfold World.cell? at h
  split at h
  · split at h
    · cases h
    · rename_i hs; simpa using hs
  · cases h
/-- What came in as a slice of one-cell elements. -/
theorem sl_of_cells {W : World} {a : Addr} {len cap : Nat} {xs : List Value} (hlen : xs.length = len) (hc : len ≤ cap) (hm : cap ≤ maxLen)
    (hx : ∀ (i : Nat) x, xs[i]? = some x → W.cell? (a.add i) = some x) : Sl W (.slice (some a) len cap) xs := by
  by_cases h0 : xs = []
  · subst h0
    simp only [List.length_nil] at hlen
    subst hlen
    exact .inl ⟨rfl, _, _, rfl⟩
  · obtain ⟨x, r, rfl⟩ : ∃ x r, xs = x :: r := by cases xs with | nil => exact absurd rfl h0 | cons x r => exact ⟨x, r, rfl⟩
    have hx0 := hx 0 x rfl
    have hsp := cell_spot hx0
    have hlt := cell_block_lt hx0
    obtain ⟨b, off, sp⟩ := a
    simp only [Addr.add] at hsp hlt hx
    subst hsp
    exact .inr ⟨h0, b, off, cap, by rw [hlen], by omega, by omega, hlt, fun i y hi => by
      have h1 := hx i y hi
      by_cases h0 : i = 0
      · subst h0; simpa using h1
      · simpa [h0] using h1⟩

section
variable {H : Type} {enc : TypeId × Value → H} {P : Program}
theorem strs_came {W : World} {base : Nat} {sp : Nat → Bool} {held : Bool} {t e : TypeId} {fuel : Nat} {a : Option Addr} {len cap : Nat} {x : DataW H × List MemPlace}
    (ht : P.underlying t = some (.slice e)) (he : P.underlying e = some .string) (hc : P.cellsOf e = 1)
    (h : DataW.trod enc P W base sp held fuel t [.slice a len cap] = some x) :
    ∃ ss : List ByteArray, ss.length = len ∧ Sl W (.slice a len cap) (strVals ss) ∧ ∀ s ∈ ss, s.size ≤ maxLen := by
  rcases open_strings ht he hc h with ⟨hcs, _⟩ | ⟨a', len', cap', ss, hcs, _, hl, hm, hz, _, hcell, hws⟩
  · simp only [List.cons.injEq, Value.slice.injEq, and_true] at hcs
    obtain ⟨rfl, rfl, rfl⟩ := hcs
    exact ⟨[], rfl, .inl ⟨rfl, _, _, rfl⟩, by simp⟩
  · simp only [List.cons.injEq, Value.slice.injEq, and_true] at hcs
    obtain ⟨rfl, rfl, rfl⟩ := hcs
    have hle : len ≤ ss.length := by split at hz <;> omega
    refine ⟨ss.take len, by rw [List.length_take]; omega, sl_of_cells (by rw [strVals_len, List.length_take]; omega) hl hm ?_, fun s hs => hws s (List.mem_of_mem_take hs)⟩
    intro i x hi
    have hi' : i < len := by
      by_cases hh : i < len
      · exact hh
      · rw [List.getElem?_eq_none (by rw [strVals_len, List.length_take]; omega)] at hi; cases hi
    rw [hcell i (by omega)]
    rw [strVals_get _ _ (by rw [List.length_take]; omega)] at hi
    rw [← Option.some.inj hi]
    simp [List.getD_eq_getElem?_getD, show i < ss.length from by omega]
theorem nums_came {k : IntKind} {W : World} {base : Nat} {sp : Nat → Bool} {held : Bool} {t e : TypeId} {fuel : Nat} {a : Option Addr} {len cap : Nat} {x : DataW H × List MemPlace}
    (ht : P.underlying t = some (.slice e)) (he : P.underlying e = some (.int k)) (hc : P.cellsOf e = 1)
    (h : DataW.trod enc P W base sp held fuel t [.slice a len cap] = some x) :
    ∃ zs : List Int, zs.length = len ∧ Sl W (.slice a len cap) (numVals k zs) ∧ ∀ z ∈ zs, (Lit.int k z).wf = true := by
  rcases open_ints ht he hc h with ⟨hcs, _⟩ | ⟨a', len', cap', zs, hcs, _, hl, hm, hz, _, hcell, hws⟩
  · simp only [List.cons.injEq, Value.slice.injEq, and_true] at hcs
    obtain ⟨rfl, rfl, rfl⟩ := hcs
    exact ⟨[], rfl, .inl ⟨rfl, _, _, rfl⟩, by simp⟩
  · simp only [List.cons.injEq, Value.slice.injEq, and_true] at hcs
    obtain ⟨rfl, rfl, rfl⟩ := hcs
    have hle : len ≤ zs.length := by split at hz <;> omega
    refine ⟨zs.take len, by rw [List.length_take]; omega, sl_of_cells (by rw [numVals_len, List.length_take]; omega) hl hm ?_, fun s hs => hws s (List.mem_of_mem_take hs)⟩
    intro i x hi
    have hi' : i < len := by
      by_cases hh : i < len
      · exact hh
      · rw [List.getElem?_eq_none (by rw [numVals_len, List.length_take]; omega)] at hi; cases hi
    rw [hcell i (by omega)]
    rw [numVals_get _ _ (by rw [List.length_take]; omega)] at hi
    rw [← Option.some.inj hi]
    simp [List.getD_eq_getElem?_getD, show i < zs.length from by omega]
theorem ints_came {W : World} {base : Nat} {sp : Nat → Bool} {held : Bool} {t e : TypeId} {fuel : Nat} {a : Option Addr} {len cap : Nat} {x : DataW H × List MemPlace}
    (ht : P.underlying t = some (.slice e)) (he : P.underlying e = some (.int .i64)) (hc : P.cellsOf e = 1)
    (h : DataW.trod enc P W base sp held fuel t [.slice a len cap] = some x) :
    ∃ zs : List Int, zs.length = len ∧ Sl W (.slice a len cap) (intVals zs) ∧ ∀ z ∈ zs, (Lit.int .i64 z).wf = true := nums_came ht he hc h
end

def sizes (ss : List ByteArray) : Nat := (ss.map (·.size)).sum
theorem sizes_snoc (ss : List ByteArray) (k : Nat) (h : k < ss.length) : sizes (ss.take (k + 1)) = sizes (ss.take k) + ss[k].size := by
  unfold sizes
  rw [List.take_succ_eq_append_getElem h, List.map_append, List.sum_append]; simp
theorem sizes_take_le (ss : List ByteArray) (k : Nat) : sizes (ss.take k) ≤ sizes ss := by
  unfold sizes
  conv => rhs; rw [← List.take_append_drop k ss, List.map_append, List.sum_append]
  omega
/-- What szStringS answers. -/
def szStr (ss : List ByteArray) (left : Int) : Int := if left - ss.length - sizes ss < 0 then -1 else left - ss.length - sizes ss

/-- A row that is filled from the left. -/
def filled (xs : List Value) (z : Value) (k : Nat) : List Value := xs.take k ++ List.replicate (xs.length - k) z
theorem filled_zero (xs : List Value) (z : Value) : filled xs z 0 = List.replicate xs.length z := by simp [filled]
theorem filled_all (xs : List Value) (z : Value) : filled xs z xs.length = xs := by simp [filled]
theorem filled_len (xs : List Value) (z : Value) (k : Nat) (h : k ≤ xs.length) : (filled xs z k).length = xs.length := by simp [filled]; omega
theorem filled_get (xs : List Value) (z : Value) (k : Nat) (h : k < xs.length) : (filled xs z k)[k]? = some z := by
  unfold filled
  rw [List.getElem?_append_right (by rw [List.length_take]; omega), List.length_take, Nat.min_eq_left (by omega), Nat.sub_self, List.getElem?_replicate, if_pos (by omega)]
theorem filled_step (xs : List Value) (z x : Value) (k : Nat) (hx : xs[k]? = some x) : (filled xs z k).set k x = filled xs z (k + 1) := by
  have h : k < xs.length := by
    by_cases hh : k < xs.length
    · exact hh
    · rw [List.getElem?_eq_none (by omega)] at hx; cases hx
  unfold filled
  rw [List.set_append_right _ _ (by rw [List.length_take]; omega), List.length_take, Nat.min_eq_left (by omega), Nat.sub_self]
  rw [show xs.length - k = (xs.length - (k + 1)) + 1 from by omega, List.replicate_succ, List.set_cons_zero, List.take_add_one, hx]
  simp

theorem owns_below {w w' : World} {base : Nat} {e : TypeId} {size : Nat} {v : Value} {n : Nat} {xs : List Value} (h : w.ownsRow base e size v n xs) (hb : Below w.heap.size w w') : w'.ownsRow base e size v n xs := by
  refine ⟨h.1, ?_⟩
  rcases h.2 with h0 | ⟨g, cap, cur, h1, h2, h3, h4⟩
  · exact .inl h0
  · refine .inr ⟨g, cap, cur, h1, h2, ?_, h4⟩
    have hlt : g < w.heap.size := by
      by_cases hlt : g < w.heap.size
      · exact hlt
      · rw [Array.getElem?_eq_none (by omega)] at h3; cases h3
    rw [hb.block g hlt]; exact h3
end Go.Proofs.YtjijgagdaolkcaaGreat
/- What a step may change: blocks from lo to hi alone; rows of values in blocks of their own. -/
namespace Go.Proofs.YtjijgagdaolkcaaGreat
open Go Go.RowKit

/-- Outside of the blocks from lo to hi (hi not among them) w' is as w was. -/
structure Kept (lo hi : Nat) (w w' : World) : Prop where
  os : w'.os = w.os
  tape : w'.tape = w.tape
  output : w'.output = w.output
  size : w.heap.size ≤ w'.heap.size
  block : ∀ k, k < w.heap.size → (k < lo ∨ hi ≤ k) → w'.heap[k]? = w.heap[k]?

theorem Kept.refl (lo hi : Nat) (w : World) : Kept lo hi w w := ⟨rfl, rfl, rfl, Nat.le_refl _, fun _ _ _ => rfl⟩
theorem Kept.trans {lo hi : Nat} {a b c : World} (h : Kept lo hi a b) (k : Kept lo hi b c) : Kept lo hi a c :=
  ⟨k.os.trans h.os, k.tape.trans h.tape, k.output.trans h.output, Nat.le_trans h.size k.size, fun i hi ho => (k.block i (Nat.lt_of_lt_of_le hi h.size) ho).trans (h.block i hi ho)⟩
theorem Kept.mono {lo hi lo' hi' : Nat} {w w' : World} (h : Kept lo hi w w') (h1 : lo' ≤ lo) (h2 : hi ≤ hi') : Kept lo' hi' w w' :=
  ⟨h.os, h.tape, h.output, h.size, fun k hk ho => h.block k hk (by omega)⟩
theorem Kept.of_below {lo hi : Nat} {w w' : World} (h : Below w.heap.size w w') : Kept lo hi w w' :=
  ⟨h.os, h.tape, h.output, h.size, fun k hk _ => h.block k hk⟩
theorem Kept.below {lo hi B : Nat} {w w' : World} (h : Kept lo hi w w') (hB : B ≤ lo) (hs : B ≤ w.heap.size) : Below B w w' :=
  ⟨h.os, h.tape, h.output, h.size, fun k hk => h.block k (by omega) (.inl (by omega))⟩
theorem Kept.setCell {lo hi : Nat} {a w : World} (h : Kept lo hi a w) {p : Addr} (h1 : lo ≤ p.block) (h2 : p.block < hi) (u : Value) : Kept lo hi a (w.setCell p u) :=
  h.trans ⟨rfl, rfl, rfl, by simp [World.setCell], fun k _ ho => Below.heap_setCell _ _ _ _ (by omega)⟩
theorem Kept.then_below {lo hi : Nat} {a b c : World} (h : Kept lo hi a b) (k : Below b.heap.size b c) : Kept lo hi a c := h.trans (Kept.of_below k)
theorem Kept.andB {lo hi : Nat} {a b c : World} (h : Kept lo hi a b) (k : Below a.heap.size b c) : Kept lo hi a c :=
  ⟨k.os.trans h.os, k.tape.trans h.tape, k.output.trans h.output, Nat.le_trans h.size k.size, fun i hi' ho => (k.block i hi').trans (h.block i hi' ho)⟩
theorem Kept.drew {lo hi : Nat} {a w : World} (h : Kept lo hi a w) (n : Nat) : Kept lo hi a (w.drewN n) := ⟨h.os, h.tape, h.output, h.size, h.block⟩

/-- v is a row of values in a block of its own between lo and hi, and reads as xs. -/
def OwnV (e : TypeId) (lo hi : Nat) (w : World) (v : Value) (xs : List Value) : Prop :=
  (xs = [] ∧ v = .slice none 0 0) ∨ ∃ (g cap : Nat) (cur : Array Value), v = .slice (some ⟨g, 0, none⟩) xs.length cap ∧ lo ≤ g ∧ g < hi ∧ w.heap[g]? = some (.cells cur e (0, 0)) ∧ xs.length ≤ cap ∧ cap ≤ maxLen ∧ cur.size = cap ∧ cur.toList.take xs.length = xs

theorem lt_of_heap {w : World} {g : Nat} {o : Obj} (h : w.heap[g]? = some o) : g < w.heap.size := by
  by_cases hh : g < w.heap.size
  · exact hh
  · rw [Array.getElem?_eq_none (by omega)] at h; cases h
theorem OwnV.of_owns {e : TypeId} {base : Nat} {w : World} {v : Value} {n : Nat} {xs : List Value} (h : w.ownsRow base e 1 v n xs) : OwnV e base w.heap.size w v xs := by
  obtain ⟨hl, h⟩ := h
  rw [Nat.mul_one] at hl
  subst hl
  rcases h with ⟨rfl, h0⟩ | ⟨g, cap, cur, rfl, hg, hb, hn, hm, hs, ht⟩
  · exact .inl ⟨by simpa using h0, rfl⟩
  · exact .inr ⟨g, cap, cur, rfl, hg, lt_of_heap hb, hb, hn, hm, by simpa using hs, by simpa using ht⟩
theorem OwnV.owns {e : TypeId} {lo hi : Nat} {w : World} {v : Value} {xs : List Value} (h : OwnV e lo hi w v xs) : w.ownsRow lo e 1 v xs.length xs := by
  rcases h with ⟨rfl, rfl⟩ | ⟨g, cap, cur, rfl, h1, h2, hb, hn, hm, hs, ht⟩
  · exact ⟨rfl, .inl ⟨rfl, rfl⟩⟩
  · exact ⟨by simp, .inr ⟨g, cap, cur, rfl, h1, hb, hn, hm, by simpa using hs, by simpa using ht⟩⟩
theorem OwnV.sl {e : TypeId} {lo hi : Nat} {w : World} {v : Value} {xs : List Value} (h : OwnV e lo hi w v xs) : Sl w v xs := Sl.of_owns h.owns
theorem OwnV.kept {e : TypeId} {lo hi a b : Nat} {w w' : World} {v : Value} {xs : List Value} (h : OwnV e lo hi w v xs) (hk : Kept a b w w') (hd : hi ≤ a ∨ b ≤ lo) : OwnV e lo hi w' v xs := by
  rcases h with h | ⟨g, cap, cur, rfl, h1, h2, hb, hr⟩
  · exact .inl h
  · exact .inr ⟨g, cap, cur, rfl, h1, h2, by rw [hk.block g (lt_of_heap hb) (by omega)]; exact hb, hr⟩
theorem OwnV.below {e : TypeId} {lo hi : Nat} {w w' : World} {v : Value} {xs : List Value} (h : OwnV e lo hi w v xs) (hb : Below w.heap.size w w') : OwnV e lo hi w' v xs :=
  h.kept (Kept.of_below (lo := hi) (hi := hi) hb) (.inl (Nat.le_refl _))
theorem OwnV.mono {e : TypeId} {lo hi lo' hi' : Nat} {w : World} {v : Value} {xs : List Value} (h : OwnV e lo hi w v xs) (h1 : lo' ≤ lo) (h2 : hi ≤ hi') : OwnV e lo' hi' w v xs := by
  rcases h with h | ⟨g, cap, cur, rfl, h3, h4, hb, hr⟩
  · exact .inl h
  · exact .inr ⟨g, cap, cur, rfl, by omega, by omega, hb, hr⟩
theorem OwnV.form {e : TypeId} {lo hi : Nat} {w : World} {v : Value} {xs : List Value} (h : OwnV e lo hi w v xs) (hn : 0 < xs.length) : ∃ g cap : Nat, v = .slice (some ⟨g, 0, none⟩) xs.length cap ∧ lo ≤ g ∧ g < hi := by
  rcases h with ⟨rfl, _⟩ | ⟨g, cap, cur, h1, h2, h3, _⟩
  · simp at hn
  · exact ⟨g, cap, h1, h2, h3⟩
theorem OwnV.nil {e : TypeId} {lo hi : Nat} {w : World} : OwnV e lo hi w (.slice none 0 0) [] := .inl ⟨rfl, rfl⟩
theorem OwnV.len {e : TypeId} {lo hi : Nat} {w : World} {v : Value} {xs : List Value} (h : OwnV e lo hi w v xs) : xs.length ≤ maxLen := h.sl.len
theorem Sl.nil {w : World} : Sl w (.slice none 0 0) [] := .inl ⟨rfl, none, 0, rfl⟩
/-- What was there when the call began still reads so behind a step that changes newer blocks alone. -/
theorem Sl.since {W W' : World} {v : Value} {xs : List Value} {B : Nat} (h : Sl W v xs) (hb : Below B W W') (hB : W.heap.size ≤ B) : Sl W' v xs := h.below (hb.mono hB)
/-- The blocks from lo to hi (hi not among them) are as they were. -/
def Mid (lo hi : Nat) (w w' : World) : Prop := ∀ j, lo ≤ j → j < hi → w'.heap[j]? = w.heap[j]?
theorem Mid.refl (lo hi : Nat) (w : World) : Mid lo hi w w := fun _ _ _ => rfl
theorem Mid.trans {lo hi : Nat} {a b c : World} (h : Mid lo hi a b) (k : Mid lo hi b c) : Mid lo hi a c := fun j h1 h2 => (k j h1 h2).trans (h j h1 h2)
theorem Mid.of_below {lo hi B : Nat} {a b : World} (h : Below B a b) (hB : hi ≤ B) : Mid lo hi a b := fun j _ h2 => h.block j (by omega)
theorem Mid.grown {lo hi : Nat} {a b : World} {r : Option Nat} (h : a.grownBy b r) (hs : hi ≤ a.heap.size) (hr : ∀ g, r = some g → g < lo ∨ hi ≤ g) : Mid lo hi a b := fun j h1 h2 => h.block j (by omega) (fun e => by have := hr j e.symm; omega)
theorem OwnV.mid {e : TypeId} {lo hi : Nat} {w w' : World} {v : Value} {xs : List Value} (h : OwnV e lo hi w v xs) (hm : Mid lo hi w w') : OwnV e lo hi w' v xs := by
  rcases h with h | ⟨g, cap, cur, rfl, h1, h2, hb, hr⟩
  · exact .inl h
  · exact .inr ⟨g, cap, cur, rfl, h1, h2, by rw [hm g h1 h2]; exact hb, hr⟩
end Go.Proofs.YtjijgagdaolkcaaGreat
/- Plain facts on lists of integers: vectors. -/
namespace Go.Proofs.YtjijgagdaolkcaaGreat

/-- Whether x lies from lo to hi. -/
def inR (x lo hi : Int) : Bool := decide (lo ≤ x ∧ x ≤ hi)
theorem inR_t {x lo hi : Int} (h : inR x lo hi = true) : lo ≤ x ∧ x ≤ hi := by simpa [inR] using h
theorem inR_mk {x lo hi : Int} (h1 : lo ≤ x) (h2 : x ≤ hi) : inR x lo hi = true := by simp [inR, h1, h2]
theorem inR_f {x lo hi : Int} (h : ¬ (lo ≤ x ∧ x ≤ hi)) : inR x lo hi = false := by simp only [inR, decide_eq_false_iff_not]; exact h
def small (v : List Int) (n : Int) : Bool := v.all fun x => inR x (-n) n
theorem small_take {v : List Int} {n : Int} {k : Nat} (h : k < v.length) (h1 : small (v.take k) n = true) (h2 : inR v[k] (-n) n = true) : small (v.take (k + 1)) n = true := by
  rw [List.take_succ_eq_append_getElem h]
  unfold small at *
  rw [List.all_append, h1, List.all_cons, h2]; rfl
theorem small_not {v : List Int} {n : Int} {k : Nat} (h : k < v.length) (h2 : inR v[k] (-n) n = false) : small v n = false := by
  unfold small
  rw [List.all_eq_false]
  exact ⟨v[k], List.getElem_mem h, by simp [h2]⟩
theorem small_get {v : List Int} {n : Int} (h : small v n = true) (k : Nat) (hk : k < v.length) : -n ≤ v[k] ∧ v[k] ≤ n := by
  unfold small at h
  rw [List.all_eq_true] at h
  exact inR_t (h _ (List.getElem_mem hk))
def isV (v : List Int) : Bool := inR v.length 1 3 && small v 1000
theorem isV_t {v : List Int} (h : isV v = true) : 1 ≤ v.length ∧ v.length ≤ 3 ∧ small v 1000 = true := by
  unfold isV at h
  rw [Bool.and_eq_true] at h
  have := inR_t h.1
  exact ⟨by omega, by omega, h.2⟩
theorem isV_mk {v : List Int} (h1 : 1 ≤ v.length) (h2 : v.length ≤ 3) : isV v = small v 1000 := by
  unfold isV
  rw [inR_mk (by omega) (by omega)]; rfl
theorem isV_len {v : List Int} (h : ¬ (1 ≤ v.length ∧ v.length ≤ 3)) : isV v = false := by
  unfold isV
  rw [inR_f (by omega)]; rfl
/-- All numbers lie from -n to n. -/
def Bd (v : List Int) (n : Int) : Prop := ∀ (k : Nat) (h : k < v.length), -n ≤ v[k] ∧ v[k] ≤ n
theorem small_bd {v : List Int} {n : Int} (h : small v n = true) : Bd v n := fun k hk => small_get h k hk

def addL (a b : List Int) : List Int := List.zipWith (fun x y => x + y) a b
def lessL (a b : List Int) : List Int := List.zipWith (fun x y => x - y) a b
def scaleL (v : List Int) (n : Int) : List Int := v.map (fun x => x * n)
def dotL (a b : List Int) : Int := (List.zipWith (fun x y => x * y) a b).sum
theorem zip_take {f : Int → Int → Int} {a b : List Int} {k : Nat} (h : k < a.length) (h' : k < b.length) :
    List.zipWith f (a.take (k + 1)) (b.take (k + 1)) = List.zipWith f (a.take k) (b.take k) ++ [f a[k] b[k]] := by
  rw [List.take_succ_eq_append_getElem h, List.take_succ_eq_append_getElem h', List.zipWith_append (by simp; omega)]; rfl
theorem zip_take_len {f : Int → Int → Int} {a b : List Int} {k : Nat} (h : k ≤ a.length) (h' : k ≤ b.length) : (List.zipWith f (a.take k) (b.take k)).length = k := by simp; omega
theorem dot_take {a b : List Int} {k : Nat} (h : k < a.length) (h' : k < b.length) : dotL (a.take (k + 1)) (b.take (k + 1)) = dotL (a.take k) (b.take k) + a[k] * b[k] := by
  unfold dotL
  rw [zip_take h h', List.sum_append]; simp
theorem map_take {f : Int → Int} {v : List Int} {k : Nat} (h : k < v.length) : (v.take (k + 1)).map f = (v.take k).map f ++ [f v[k]] := by
  rw [List.take_succ_eq_append_getElem h, List.map_append]; rfl
theorem mul_bd {x y m n : Int} (h1 : -m ≤ x) (h2 : x ≤ m) (h3 : -n ≤ y) (h4 : y ≤ n) : -(m * n) ≤ x * y ∧ x * y ≤ m * n := by
  have hm : 0 ≤ m := by omega
  have hn : 0 ≤ n := by omega
  have a1 : 0 ≤ (m - x) * (n - y) := Int.mul_nonneg (by omega) (by omega)
  have a2 : 0 ≤ (m + x) * (n + y) := Int.mul_nonneg (by omega) (by omega)
  have a3 : 0 ≤ (m - x) * (n + y) := Int.mul_nonneg (by omega) (by omega)
  have a4 : 0 ≤ (m + x) * (n - y) := Int.mul_nonneg (by omega) (by omega)
  simp only [Int.sub_mul, Int.add_mul, Int.mul_sub, Int.mul_add] at a1 a2 a3 a4
  have c1 : m * y = y * m := Int.mul_comm _ _
  have c2 : x * n = n * x := Int.mul_comm _ _
  omega
theorem dot_bd {a b : List Int} {m n : Int} (_hm : 0 ≤ m * n) (ha : Bd a m) (hb : Bd b n) : ∀ k, k ≤ a.length → k ≤ b.length → -(k * (m * n)) ≤ dotL (a.take k) (b.take k) ∧ dotL (a.take k) (b.take k) ≤ k * (m * n) := by
  intro k
  induction k with
  | zero => intro _ _; simp [dotL]
  | succ k ih =>
    intro h1 h2
    have := ih (by omega) (by omega)
    have p := mul_bd (ha k (by omega)).1 (ha k (by omega)).2 (hb k (by omega)).1 (hb k (by omega)).2
    rw [dot_take (by omega) (by omega)]
    have e : ((k + 1 : Nat) : Int) * (m * n) = k * (m * n) + m * n := by rw [Int.natCast_add, Int.add_mul]; simp
    omega

def gcdI (a b : Int) : Int := (Int.gcd a b : Int)
theorem gcdI_nonneg (a b : Int) : 0 ≤ gcdI a b := by unfold gcdI; omega
theorem gcdI_zero (a : Int) (h : 0 ≤ a) : gcdI a 0 = a := by unfold gcdI; rw [Int.gcd_zero_right]; omega
theorem gcdI_tmod (a b : Int) : gcdI b (a.tmod b) = gcdI a b := by
  unfold gcdI
  congr 1
  show Nat.gcd b.natAbs (a.tmod b).natAbs = Nat.gcd a.natAbs b.natAbs
  rw [Int.natAbs_tmod, Nat.gcd_comm a.natAbs, Nat.gcd_rec b.natAbs a.natAbs, Nat.gcd_comm]
theorem gcdI_step (a b : Int) (h : 0 ≤ a) : gcdI b (a % b) = gcdI a b := by
  rw [← gcdI_tmod a b, Int.tmod_eq_emod_of_nonneg h]
theorem gcdI_abs (a b : Int) : gcdI (a.natAbs : Int) (b.natAbs : Int) = gcdI a b := by
  unfold gcdI; simp [Int.gcd]
def allG (v : List Int) : Int := v.foldl gcdI 0
theorem allG_take {v : List Int} {k : Nat} (h : k < v.length) : allG (v.take (k + 1)) = gcdI (allG (v.take k)) v[k] := by
  unfold allG
  rw [List.take_succ_eq_append_getElem h, List.foldl_append]; rfl
theorem allG_nonneg (v : List Int) : 0 ≤ allG v := by
  have key : ∀ (v : List Int) (g : Int), 0 ≤ g → 0 ≤ v.foldl gcdI g := by
    intro v
    induction v with
    | nil => intro g h; exact h
    | cons x r ih => intro g _; exact ih _ (gcdI_nonneg _ _)
  exact key v 0 (Int.le_refl _)
def primL (v : List Int) : List Int := v.map (fun x => x.tdiv (max (allG v) 1))
def beforeL : List Int → List Int → Bool
  | a :: as, b :: bs => if a = b then beforeL as bs else decide (a < b)
  | _, _ => false
theorem before_at {a b : List Int} {k : Nat} (h : k < a.length) (h' : k < b.length) (ht : a.take k = b.take k) (hne : a[k] ≠ b[k]) : beforeL a b = decide (a[k] < b[k]) := by
  induction k generalizing a b with
  | zero =>
    cases a with
    | nil => simp at h
    | cons x r =>
      cases b with
      | nil => simp at h'
      | cons y s => simp only [List.getElem_cons_zero] at *; simp [beforeL, hne]
  | succ k ih =>
    cases a with
    | nil => simp at h
    | cons x r =>
      cases b with
      | nil => simp at h'
      | cons y s =>
        simp only [List.take_succ_cons, List.cons.injEq] at ht
        simp only [List.getElem_cons_succ] at *
        obtain ⟨rfl, ht⟩ := ht
        rw [beforeL, if_pos rfl]
        exact ih (by simpa using h) (by simpa using h') ht hne
theorem before_end {a b : List Int} (ht : a.take (min a.length b.length) = b.take (min a.length b.length)) : beforeL a b = false := by
  induction a generalizing b with
  | nil => simp [beforeL]
  | cons x r ih =>
    cases b with
    | nil => simp [beforeL]
    | cons y s =>
      simp only [List.length_cons, Nat.add_min_add_right, List.take_succ_cons, List.cons.injEq] at ht
      rw [beforeL, if_pos ht.1]
      exact ih ht.2

/-- What the functions of this chapter answer. -/
def addR (a b : List Int) : List Int × Bool := if isV a = true ∧ isV b = true ∧ a.length = b.length ∧ isV (addL a b) = true then (addL a b, true) else ([], false)
def scaleR (v : List Int) (k : Int) : List Int × Bool := if isV v = true ∧ inR k (-1000) 1000 = true ∧ isV (scaleL v k) = true then (scaleL v k, true) else ([], false)
def dotR (a b : List Int) : Int := if isV a = true ∧ isV b = true ∧ a.length = b.length then dotL a b else 0
def gcdR (v : List Int) : Int := if isV v = true then allG v else -1
def primR (v : List Int) : List Int × Bool := if isV v = true ∧ 0 < allG v then (primL v, true) else ([], false)
def beforeR (a b : List Int) : Bool := if isV a = true ∧ isV b = true ∧ a.length = b.length then beforeL a b else false
theorem addR_len (a b : List Int) : (addR a b).1.length ≤ 3 := by
  unfold addR
  split
  · rename_i h; exact (isV_t h.2.2.2).2.1
  · simp
theorem scaleR_len (v : List Int) (k : Int) : (scaleR v k).1.length ≤ 3 := by
  unfold scaleR
  split
  · rename_i h; exact (isV_t h.2.2).2.1
  · simp
theorem primR_len (v : List Int) : (primR v).1.length ≤ 3 := by
  unfold primR
  split
  · rename_i h; have := (isV_t h.1).2.1; simpa [primL] using this
  · simp
end Go.Proofs.YtjijgagdaolkcaaGreat
/- Blocks that are known whole: a struct's variable. -/
namespace Go.Proofs.YtjijgagdaolkcaaGreat
open Go Go.RowKit

/-- Block b holds these cells. -/
def Bk (w : World) (b : Nat) (cs : Array Value) (T : TypeId) : Prop := w.heap[b]? = some (.cells cs T (0, 0))
theorem Bk.new (w : World) (cs : Array Value) (T : TypeId) : Bk (w.alloc (.cells cs T)) w.heap.size cs T := heap_alloc_new w _
theorem Bk.newAt {w : World} {b : Nat} (h : w.heap.size = b) (cs : Array Value) (T : TypeId) : Bk (w.alloc (.cells cs T)) b cs T := by subst h; exact heap_alloc_new w _
theorem Bk.lt {w : World} {b : Nat} {cs : Array Value} {T : TypeId} (h : Bk w b cs T) : b < w.heap.size := lt_of_heap h
theorem Bk.below {w w' : World} {b : Nat} {cs : Array Value} {T : TypeId} (h : Bk w b cs T) (hb : Below w.heap.size w w') : Bk w' b cs T := (hb.block b h.lt).trans h
theorem Bk.since {w w' : World} {b B : Nat} {cs : Array Value} {T : TypeId} (h : Bk w b cs T) (hb : Below B w w') (hB : b < B) : Bk w' b cs T := (hb.block b hB).trans h
theorem Bk.kept {w w' : World} {b lo hi : Nat} {cs : Array Value} {T : TypeId} (h : Bk w b cs T) (hk : Kept lo hi w w') (hd : b < lo ∨ hi ≤ b) : Bk w' b cs T := (hk.block b h.lt hd).trans h
theorem Bk.alloc {w : World} {b : Nat} {cs : Array Value} {T : TypeId} (h : Bk w b cs T) (o : Obj) : Bk (w.alloc o) b cs T := h.below ((Below.refl _ _).alloc (Nat.le_refl _) o)
theorem Bk.cell {w : World} {b : Nat} {cs : Array Value} {T : TypeId} (h : Bk w b cs T) (i : Nat) {v : Value} (hv : cs[i]? = some v) : w.cell? ⟨b, i, none⟩ = some v := by rw [cell_of_row _ _ i _ _ _ h]; exact hv
theorem Bk.free {w : World} {b : Nat} {cs : Array Value} {T : TypeId} (h : Bk w b cs T) (i : Nat) : w.frozen? ⟨b, i, none⟩ = false := frozen_of_row _ _ i _ _ h
theorem Bk.two {w : World} {b : Nat} {x y : Value} {T : TypeId} (h : Bk w b #[x, y] T) : (w.cell? ⟨b, 0, none⟩ = some x ∧ w.cell? ⟨b, 1, none⟩ = some y) ∧ w.frozen? ⟨b, 0, none⟩ = false ∧ w.frozen? ⟨b, 1, none⟩ = false :=
  ⟨⟨h.cell 0 rfl, h.cell 1 rfl⟩, h.free 0, h.free 1⟩
theorem Bk.set {w : World} {b : Nat} {cs : Array Value} {T : TypeId} (h : Bk w b cs T) (i : Nat) (u : Value) (hi : i < cs.size) : Bk (w.setCell ⟨b, i, none⟩ u) b (cs.set! i u) T := by
  have h1 := h
  unfold Bk at *
  have hl := lt_of_heap h1
  simp only [World.setCell]
  rw [Array.getElem?_modify, if_pos rfl, h]
  simp [Array.set!_eq_setIfInBounds]
theorem Bk.set0 {w : World} {b : Nat} {x y : Value} {T : TypeId} (h : Bk w b #[x, y] T) (u : Value) : Bk (w.setCell ⟨b, 0, none⟩ u) b #[u, y] T := h.set 0 u (by simp)
theorem Bk.set1 {w : World} {b : Nat} {x y : Value} {T : TypeId} (h : Bk w b #[x, y] T) (u : Value) : Bk (w.setCell ⟨b, 1, none⟩ u) b #[x, u] T := h.set 1 u (by simp)
theorem Bk.other {w : World} {b : Nat} {cs : Array Value} {T : TypeId} (h : Bk w b cs T) {p : Addr} (hp : p.block ≠ b) (u : Value) : Bk (w.setCell p u) b cs T := (Below.heap_setCell _ _ _ _ (fun e => hp e.symm)).trans h
/-- Two, three blocks that were made one behind the other. -/
theorem Bk.pair (w : World) (a b : Array Value) (S T : TypeId) :
    Bk ((w.alloc (.cells a S)).alloc (.cells b T)) w.heap.size a S ∧ Bk ((w.alloc (.cells a S)).alloc (.cells b T)) (w.heap.size + 1) b T :=
  ⟨(Bk.new w a S).alloc _, Bk.newAt (by simp) b T⟩
theorem Bk.three (w : World) (a b c : Array Value) (S T U : TypeId) :
    Bk (((w.alloc (.cells a S)).alloc (.cells b T)).alloc (.cells c U)) w.heap.size a S ∧ Bk (((w.alloc (.cells a S)).alloc (.cells b T)).alloc (.cells c U)) (w.heap.size + 1) b T ∧ Bk (((w.alloc (.cells a S)).alloc (.cells b T)).alloc (.cells c U)) (w.heap.size + 1 + 1) c U :=
  ⟨(Bk.pair w a b S T).1.alloc _, (Bk.pair w a b S T).2.alloc _, Bk.newAt (by simp) c U⟩
theorem alloc_lt (w : World) (o : Obj) : w.heap.size < (w.alloc o).heap.size := by simp
theorem below2 (w : World) (o p : Obj) : Below w.heap.size w ((w.alloc o).alloc p) := ((Below.refl _ _).alloc (Nat.le_refl _) o).alloc (by simp) p
theorem below1 (w : World) (o : Obj) : Below w.heap.size w (w.alloc o) := (Below.refl _ _).alloc (Nat.le_refl _) o
theorem below3 (w : World) (o p q : Obj) : Below w.heap.size w (((w.alloc o).alloc p).alloc q) := (below2 w o p).alloc (by simp; omega) q
theorem OwnV.shape1 {e : TypeId} {lo hi : Nat} {w : World} {v : Value} {xs : List Value} (h : OwnV e lo hi w v xs) : ∃ (a : Option Addr) (c : Nat), v = .slice a xs.length c ∧ xs.length ≤ maxLen := by
  obtain ⟨a, c, e, hm, _⟩ := h.sl.shape
  exact ⟨a, c, e, hm⟩
end Go.Proofs.YtjijgagdaolkcaaGreat
/- Plain facts on polygons: rows in order, turns, the corners of a hull. -/
namespace Go.Proofs.YtjijgagdaolkcaaGreat

/-! Rows of one length in order. -/
theorem before_irrefl : ∀ a : List Int, beforeL a a = false
  | [] => rfl
  | x :: a => by rw [beforeL, if_pos rfl]; exact before_irrefl a
theorem before_trans : ∀ {a b c : List Int}, beforeL a b = true → beforeL b c = true → beforeL a c = true
  | [], _, _, h, _ => by simp [beforeL] at h
  | _ :: _, [], _, h, _ => by simp [beforeL] at h
  | _ :: _, _ :: _, [], _, h => by simp [beforeL] at h
  | x :: a, y :: b, z :: c, h1, h2 => by
    rw [beforeL] at h1 h2 ⊢
    by_cases e1 : x = y
    · rw [if_pos e1] at h1
      subst e1
      by_cases e2 : x = z
      · rw [if_pos e2] at h2 ⊢
        exact before_trans h1 h2
      · rw [if_neg e2] at h2 ⊢; exact h2
    · rw [if_neg e1] at h1
      have l1 : x < y := of_decide_eq_true h1
      by_cases e2 : y = z
      · rw [if_pos e2] at h2
        subst e2
        rw [if_neg e1]; exact h1
      · rw [if_neg e2] at h2
        have l2 : y < z := of_decide_eq_true h2
        rw [if_neg (by omega)]
        exact decide_eq_true (by omega)
theorem before_asymm {a b : List Int} (h1 : beforeL a b = true) (h2 : beforeL b a = true) : False := by
  have := before_trans h1 h2
  rw [before_irrefl] at this
  cases this
theorem before_tri : ∀ {a b : List Int}, a.length = b.length → beforeL a b = false → beforeL b a = false → a = b
  | [], [], _, _, _ => rfl
  | x :: a, y :: b, hl, h1, h2 => by
    rw [beforeL] at h1 h2
    by_cases e : x = y
    · subst e
      rw [if_pos rfl] at h1 h2
      rw [before_tri (by simpa using hl) h1 h2]
    · rw [if_neg e] at h1
      rw [if_neg (fun k => e k.symm)] at h2
      have := of_decide_eq_false h1
      have := of_decide_eq_false h2
      omega

/-- Strictly sorted lists with the same members are one. -/
theorem strict_ext {α : Type} {r : α → α → Prop} (as : ∀ a b, r a b → r b a → False) : ∀ (l m : List α), l.Pairwise r → m.Pairwise r → (∀ x, x ∈ l ↔ x ∈ m) → l = m
  | [], [], _, _, _ => rfl
  | [], y :: m, _, _, h => absurd ((h y).2 (List.mem_cons_self ..)) (by simp)
  | x :: l, [], _, _, h => absurd ((h x).1 (List.mem_cons_self ..)) (by simp)
  | x :: l, y :: m, hl, hm, h => by
    rw [List.pairwise_cons] at hl hm
    have hxy : x = y := by
      rcases List.mem_cons.1 ((h x).1 (List.mem_cons_self ..)) with e | hx
      · exact e
      · rcases List.mem_cons.1 ((h y).2 (List.mem_cons_self ..)) with e | hy
        · exact e.symm
        · exact (as _ _ (hm.1 x hx) (hl.1 y hy)).elim
    subst hxy
    congr 1
    refine strict_ext as l m hl.2 hm.2 fun p => ?_
    have hne : ∀ q, q ∈ l ∨ q ∈ m → q ≠ x := by
      rintro q (hq | hq) rfl
      · exact as _ _ (hl.1 _ hq) (hl.1 _ hq)
      · exact as _ _ (hm.1 _ hq) (hm.1 _ hq)
    constructor
    · intro hp
      rcases List.mem_cons.1 ((h p).1 (List.mem_cons_of_mem _ hp)) with e | k
      · exact absurd e (hne p (.inl hp))
      · exact k
    · intro hp
      rcases List.mem_cons.1 ((h p).2 (List.mem_cons_of_mem _ hp)) with e | k
      · exact absurd e (hne p (.inr hp))
      · exact k

/-- Where a row goes: behind those that it is not before. -/
def downL (l : List (List Int)) (p : List Int) : Nat → Nat
  | 0 => 0
  | k + 1 => if beforeL p (l.getD k []) = true then downL l p k else k + 1
def putL (l : List (List Int)) (p : List Int) : List (List Int) :=
  if 0 < downL l p l.length ∧ l.getD (downL l p l.length - 1) [] = p then l else l.take (downL l p l.length) ++ p :: l.drop (downL l p l.length)
theorem downL_le (l : List (List Int)) (p : List Int) : ∀ k, downL l p k ≤ k
  | 0 => Nat.le_refl _
  | k + 1 => by
    unfold downL
    split
    · exact Nat.le_succ_of_le (downL_le l p k)
    · exact Nat.le_refl _
theorem downL_hi (l : List (List Int)) (p : List Int) : ∀ k i, downL l p k ≤ i → i < k → beforeL p (l.getD i []) = true
  | 0, i, _, h => absurd h (Nat.not_lt_zero _)
  | k + 1, i, h1, h2 => by
    unfold downL at h1
    split at h1
    · rename_i h
      by_cases e : i = k
      · subst e; exact h
      · exact downL_hi l p k i h1 (by omega)
    · omega
theorem downL_lo (l : List (List Int)) (p : List Int) : ∀ k, 0 < downL l p k → ¬ beforeL p (l.getD (downL l p k - 1) []) = true
  | 0, h => absurd h (Nat.lt_irrefl _)
  | k + 1, h => by
    unfold downL at h ⊢
    split at h
    · rename_i hc
      rw [if_pos hc]
      exact downL_lo l p k h
    · rename_i hc
      rw [if_neg hc]
      exact hc
theorem getD_row {l : List (List Int)} {i : Nat} (h : i < l.length) : l.getD i [] = l[i] := by
  rw [List.getD_eq_getElem?_getD, List.getElem?_eq_getElem h]; rfl
/-- Strictly in order. -/
def LessL (l : List (List Int)) : Prop := l.Pairwise fun p q => beforeL p q = true
theorem putL_spec {n : Nat} {l : List (List Int)} {p : List Int} (gl : ∀ q ∈ l, q.length = n) (gp : p.length = n) (hl : LessL l) : LessL (putL l p) ∧ (∀ q, q ∈ putL l p ↔ q ∈ l ∨ q = p) := by
  have hle := downL_le l p l.length
  unfold putL
  by_cases hc : 0 < downL l p l.length ∧ l.getD (downL l p l.length - 1) [] = p
  · rw [if_pos hc]
    refine ⟨hl, fun q => ⟨.inl, fun h => h.elim id fun e => ?_⟩⟩
    have hi : downL l p l.length - 1 < l.length := by omega
    rw [getD_row hi] at hc
    rw [e, ← hc.2]; exact List.getElem_mem hi
  · rw [if_neg hc]
    obtain ⟨a, ha⟩ : ∃ a, downL l p l.length = a := ⟨_, rfl⟩
    rw [ha] at hc hle ⊢
    have hi : ∀ q ∈ l.drop a, beforeL p q = true := by
      intro q hq
      obtain ⟨i, hi, rfl⟩ := List.mem_iff_getElem.1 hq
      rw [List.length_drop] at hi
      rw [List.getElem_drop]
      have := downL_hi l p l.length (a + i) (by omega) (by omega)
      rwa [getD_row (by omega)] at this
    have lo : ∀ q ∈ l.take a, beforeL q p = true := by
      intro q hq
      obtain ⟨i, hi, rfl⟩ := List.mem_iff_getElem.1 hq
      rw [List.length_take] at hi
      rw [List.getElem_take]
      have h0 : 0 < a := by omega
      have hb := downL_lo l p l.length (by rw [ha]; exact h0)
      rw [ha, getD_row (by omega)] at hb
      have hne : ¬ l[a - 1] = p := fun e => hc ⟨h0, by rw [getD_row (by omega)]; exact e⟩
      have ga := gl l[a - 1] (List.getElem_mem _)
      have h1 : beforeL l[a - 1] p = true := by
        cases hq : beforeL l[a - 1] p with
        | true => rfl
        | false => exact absurd (before_tri (by rw [ga, gp]) hq (by simpa using hb)) hne
      by_cases e : i = a - 1
      · subst e; exact h1
      · exact before_trans ((List.pairwise_iff_getElem.1 hl) i (a - 1) (by omega) (by omega) (by omega)) h1
    constructor
    · unfold LessL at hl ⊢
      have hs : l = l.take a ++ l.drop a := (List.take_append_drop a l).symm
      rw [hs, List.pairwise_append] at hl
      rw [List.pairwise_append, List.pairwise_cons]
      refine ⟨hl.1, ⟨hi, hl.2.1⟩, fun x hx y hy => ?_⟩
      rcases List.mem_cons.1 hy with e | hy
      · rw [e]; exact lo x hx
      · exact hl.2.2 x hx y hy
    · intro q
      rw [List.mem_append, List.mem_cons]
      have hs : q ∈ l ↔ q ∈ l.take a ∨ q ∈ l.drop a := by
        conv => lhs; rw [← List.take_append_drop a l]
        exact List.mem_append
      rw [hs]
      constructor
      · rintro (h | h | h)
        · exact .inl (.inl h)
        · exact .inr h
        · exact .inl (.inr h)
      · rintro ((h | h) | h)
        · exact .inl h
        · exact .inr (.inr h)
        · exact .inr (.inl h)
theorem foldL_put {n : Nat} : ∀ (ps l : List (List Int)), (∀ q ∈ ps, q.length = n) → (∀ q ∈ l, q.length = n) → LessL l → LessL (ps.foldl putL l) ∧ (∀ q, q ∈ ps.foldl putL l ↔ q ∈ l ∨ q ∈ ps)
  | [], l, _, _, hl => ⟨hl, fun q => by simp⟩
  | p :: ps, l, gps, gl, hl => by
    obtain ⟨h1, h2⟩ := putL_spec gl (gps p (List.mem_cons_self ..)) hl
    obtain ⟨h3, h4⟩ := foldL_put ps (putL l p) (fun q hq => gps q (List.mem_cons_of_mem _ hq)) (fun q hq => by
      rcases (h2 q).1 hq with h | h
      · exact gl q h
      · rw [h]; exact gps p (List.mem_cons_self ..)) h1
    refine ⟨h3, fun q => ?_⟩
    rw [List.foldl_cons, h4, h2, List.mem_cons]
    constructor
    · rintro ((h | h) | h)
      · exact .inl h
      · exact .inr (.inl h)
      · exact .inr (.inr h)
    · rintro (h | h | h)
      · exact .inl (.inl h)
      · exact .inl (.inr h)
      · exact .inr h
theorem putL_len (l : List (List Int)) (p : List Int) : (putL l p).length ≤ l.length + 1 := by
  unfold putL
  have := downL_le l p l.length
  split
  · omega
  · simp only [List.length_append, List.length_take, List.length_cons, List.length_drop]; omega
theorem foldL_len : ∀ (ps l : List (List Int)), (ps.foldl putL l).length ≤ l.length + ps.length
  | [], l => by simp
  | p :: ps, l => by
    have h1 := foldL_len ps (putL l p)
    have h2 := putL_len l p
    rw [List.foldl_cons, List.length_cons]; omega

/-! Points of the plane, turns, the corners of a hull. -/
abbrev P2 := Int × Int
def turnP (a b c : P2) : Int := (b.1 - a.1) * (c.2 - a.2) - (b.2 - a.2) * (c.1 - a.1)
/-- The points that stay, the last one first, where x comes up. -/
def popR : List P2 → P2 → List P2
  | b :: a :: r, x => if turnP a b x ≤ 0 then popR (a :: r) x else b :: a :: r
  | l, _ => l
def stepR (way : List P2) (x : P2) : List P2 := x :: popR way x
def bendR (l : List P2) : List P2 := l.foldl stepR []
def bendL (l : List P2) : List P2 := (bendR l).tail.reverse
def cornL (l : List P2) : List P2 := bendL l ++ bendL l.reverse
theorem turn_twice (a b : P2) : turnP a b b = 0 := by unfold turnP; rw [Int.mul_comm]; omega
theorem turn_same (a b : P2) : turnP a a b = 0 := by unfold turnP; simp
theorem popR_len : ∀ (l : List P2) (x : P2), (popR l x).length ≤ l.length
  | [], _ => Nat.le_refl _
  | [_], _ => Nat.le_refl _
  | b :: a :: r, x => by
    unfold popR
    split
    · have := popR_len (a :: r) x
      simp only [List.length_cons] at this ⊢; omega
    · exact Nat.le_refl _
theorem popR_mem : ∀ (l : List P2) (x : P2), ∀ p ∈ popR l x, p ∈ l
  | [], _, p, h => by simp [popR] at h
  | [_], _, p, h => by simpa [popR] using h
  | b :: a :: r, x, p, h => by
    unfold popR at h
    split at h
    · exact List.mem_cons_of_mem _ (popR_mem (a :: r) x p h)
    · exact h
theorem popR_ne : ∀ (l : List P2) (x : P2), l ≠ [] → popR l x ≠ []
  | [], _, h => h
  | [_], _, _ => by simp [popR]
  | b :: a :: r, x, _ => by
    unfold popR
    split
    · exact popR_ne (a :: r) x (by simp)
    · simp
theorem popR_idem : ∀ (l : List P2) (x : P2), popR (popR l x) x = popR l x
  | [], _ => rfl
  | [_], _ => rfl
  | b :: a :: r, x => by
    rw [popR]
    split
    · exact popR_idem (a :: r) x
    · rename_i h
      rw [popR, if_neg h]
theorem popR_app : ∀ (l : List P2) (x : P2), ∃ k, popR l x = l.drop k
  | [], _ => ⟨0, rfl⟩
  | [_], _ => ⟨0, rfl⟩
  | b :: a :: r, x => by
    rw [popR]
    split
    · obtain ⟨k, hk⟩ := popR_app (a :: r) x
      exact ⟨k + 1, by rw [hk]; rfl⟩
    · exact ⟨0, rfl⟩
theorem step_twice {w : List P2} (x : P2) (h : w ≠ []) : stepR (stepR w x) x = stepR w x := by
  unfold stepR
  congr 1
  have h1 := popR_ne w x h
  match hp : popR w x, h1 with
  | a :: r, _ =>
    rw [popR, if_pos (by rw [turn_twice]; exact Int.le_refl _)]
    rw [← hp, popR_idem]
theorem bendR_len : ∀ (l : List P2) (acc : List P2), (l.foldl stepR acc).length ≤ acc.length + l.length
  | [], acc => by simp
  | x :: l, acc => by
    have h1 := bendR_len l (stepR acc x)
    have h2 := popR_len acc x
    rw [List.foldl_cons]
    unfold stepR at h1 ⊢
    simp only [List.length_cons] at h1 ⊢; omega
theorem bendR_mem : ∀ (l : List P2) (acc : List P2), ∀ p ∈ l.foldl stepR acc, p ∈ acc ∨ p ∈ l
  | [], acc, p, h => .inl h
  | x :: l, acc, p, h => by
    rw [List.foldl_cons] at h
    rcases bendR_mem l (stepR acc x) p h with h | h
    · unfold stepR at h
      rcases List.mem_cons.1 h with h | h
      · exact .inr (h ▸ List.mem_cons_self ..)
      · exact .inl (popR_mem acc x p h)
    · exact .inr (List.mem_cons_of_mem _ h)
theorem bendL_len (l : List P2) : (bendL l).length ≤ l.length := by
  have := bendR_len l []
  unfold bendL bendR
  simp only [List.length_reverse, List.length_tail, List.length_nil] at *; omega
theorem bendL_mem {l : List P2} {p : P2} (h : p ∈ bendL l) : p ∈ l := by
  unfold bendL at h
  rw [List.mem_reverse] at h
  rcases bendR_mem l [] p (List.mem_of_mem_tail h) with h | h
  · cases h
  · exact h
theorem cornL_mem {l : List P2} {p : P2} (h : p ∈ cornL l) : p ∈ l := by
  unfold cornL at h
  rcases List.mem_append.1 h with h | h
  · exact bendL_mem h
  · exact List.mem_reverse.1 (bendL_mem h)
theorem cornL_len (l : List P2) : (cornL l).length ≤ 2 * l.length := by
  have h1 := bendL_len l
  have h2 := bendL_len l.reverse
  unfold cornL
  rw [List.length_reverse] at h2
  rw [List.length_append]; omega

/-- Of neighbours that are the same one. -/
def packP : List P2 → List P2
  | x :: y :: l => if x = y then packP (y :: l) else x :: packP (y :: l)
  | l => l
theorem packP_head : ∀ (l : List P2) (x : P2), ∃ t, packP (x :: l) = x :: t
  | [], x => ⟨[], rfl⟩
  | y :: l, x => by
    rw [packP]
    split
    · rename_i e
      subst e
      exact packP_head l x
    · exact ⟨_, rfl⟩
theorem bend_pack_from : ∀ (l acc : List P2), acc ≠ [] → l.foldl stepR acc = (packP l).foldl stepR acc
  | [], _, _ => rfl
  | [_], _, _ => rfl
  | x :: y :: l, acc, h => by
    rw [packP]
    split
    · rename_i e
      subst e
      rw [← bend_pack_from (x :: l) acc h]
      show l.foldl stepR (stepR (stepR acc x) x) = l.foldl stepR (stepR acc x)
      rw [step_twice x h]
    · show (y :: l).foldl stepR (stepR acc x) = (packP (y :: l)).foldl stepR (stepR acc x)
      exact bend_pack_from (y :: l) _ (by simp [stepR])
theorem bend_pack (l : List P2) : bendR l = bendR (packP l) ∨ ∃ s, packP l = [s] ∧ bendR l = [s, s] := by
  match l with
  | [] => exact .inl rfl
  | [_] => exact .inl rfl
  | x :: y :: l =>
    rw [packP]
    by_cases e : x = y
    · rw [if_pos e]
      subst e
      obtain ⟨t, ht⟩ := packP_head l x
      have h1 : bendR (x :: x :: l) = (packP (x :: l)).foldl stepR [x] := bend_pack_from (x :: l) [x] (by simp)
      rw [h1, ht]
      match t with
      | [] => exact .inr ⟨x, rfl, rfl⟩
      | z :: t =>
        left
        show t.foldl stepR (stepR [x, x] z) = t.foldl stepR (stepR [x] z)
        congr 1
        unfold stepR
        rw [popR, if_pos (by rw [turn_same]; exact Int.le_refl _)]
    · rw [if_neg e]
      exact .inl (bend_pack_from (y :: l) [x] (by simp))
theorem bendL_pack {l : List P2} (h : (packP l).length ≠ 1) : bendL l = bendL (packP l) := by
  unfold bendL
  rcases bend_pack l with e | ⟨s, e, _⟩
  · rw [e]
  · rw [e] at h; simp at h
theorem bendL_one {l : List P2} (h : (packP l).length ≤ 1) : (bendL l).length ≤ 1 := by
  unfold bendL
  rcases bend_pack l with e | ⟨s, _, e⟩
  · rw [e]
    have := bendR_len (packP l) []
    unfold bendR
    simp only [List.length_reverse, List.length_tail, List.length_nil] at *; omega
  · rw [e]; simp
theorem cornL_two {l : List P2} (h : l.length ≤ 2) : (cornL l).length < 3 := by
  have := cornL_len l
  match l with
  | [] => simp [cornL, bendL, bendR]
  | [a] => simp at this; omega
  | [a, b] => simp [cornL, bendL, bendR, stepR, popR]
  | _ :: _ :: _ :: _ => simp at h
/-- The corners, if they are a polygon's. -/
def cornR (l : List P2) : List P2 × Bool := if (cornL l).length < 3 ∨ 12 < (cornL l).length then ([], false) else (cornL l, true)
theorem corn_pack {d s : List P2} (h1 : packP d = s) (h2 : packP d.reverse = s.reverse) : cornR d = if s.length < 3 then ([], false) else cornR s := by
  by_cases h : s.length ≤ 1
  · rw [if_pos (by omega)]
    have a := bendL_one (l := d) (by rw [h1]; exact h)
    have b := bendL_one (l := d.reverse) (by rw [h2, List.length_reverse]; exact h)
    unfold cornR
    rw [if_pos]
    left
    unfold cornL
    rw [List.length_append]; omega
  · have e : cornL d = cornL s := by
      unfold cornL
      rw [bendL_pack (l := d) (by rw [h1]; omega), bendL_pack (l := d.reverse) (by rw [h2, List.length_reverse]; omega), h1, h2]
    have e2 : cornR d = cornR s := by unfold cornR; rw [e]
    rw [e2]
    by_cases h3 : s.length < 3
    · rw [if_pos h3]
      have := cornL_two (l := s) (by omega)
      unfold cornR
      rw [if_pos (.inl this)]
    · rw [if_neg h3]

/-- Points in order. -/
def ltP (a b : P2) : Prop := a.1 < b.1 ∨ (a.1 = b.1 ∧ a.2 < b.2)
instance (a b : P2) : Decidable (ltP a b) := inferInstanceAs (Decidable (_ ∨ _))
theorem ltP_asymm (a b : P2) (h1 : ltP a b) (h2 : ltP b a) : False := by unfold ltP at *; omega
theorem ltP_tri {a b : P2} (h1 : ¬ ltP a b) (h2 : ¬ ltP b a) : a = b := by
  unfold ltP at *
  exact Prod.ext (by omega) (by omega)
theorem pack_mem : ∀ (l : List P2) (p : P2), p ∈ packP l ↔ p ∈ l
  | [], _ => Iff.rfl
  | [_], _ => Iff.rfl
  | x :: y :: l, p => by
    rw [packP]
    split
    · rename_i e
      subst e
      rw [pack_mem (x :: l)]
      simp
    · rw [List.mem_cons, pack_mem (y :: l), List.mem_cons (b := x)]
theorem pack_strict {r : P2 → P2 → Prop} : ∀ (l : List P2), (∀ a b, ¬ r b a → a ≠ b → r a b) → (∀ a b c, r a b → ¬ r c b → r a c) → l.Pairwise (fun a b => ¬ r b a) → (packP l).Pairwise r
  | [], _, _, _ => List.Pairwise.nil
  | [_], _, _, _ => List.pairwise_singleton ..
  | x :: y :: l, ht, hc, h => by
    rw [packP]
    rw [List.pairwise_cons] at h
    split
    · exact pack_strict (y :: l) ht hc h.2
    · rename_i e
      rw [List.pairwise_cons]
      refine ⟨fun q hq => ?_, pack_strict (y :: l) ht hc h.2⟩
      have hxy := ht x y (h.1 y (List.mem_cons_self ..)) e
      rcases List.mem_cons.1 ((pack_mem (y :: l) q).1 hq) with e | k
      · rw [e]; exact hxy
      · exact hc x y q hxy ((List.pairwise_cons.1 h.2).1 q k)
/-- Sorted points, packed, are the strictly sorted ones. -/
theorem pack_eq {d s : List P2} (hd : d.Pairwise (fun a b => ¬ ltP b a)) (hs : s.Pairwise ltP) (hm : ∀ p, p ∈ d ↔ p ∈ s) : packP d = s ∧ packP d.reverse = s.reverse := by
  constructor
  · refine strict_ext ltP_asymm _ _ (pack_strict d (fun a b h1 h2 => ?_) (fun a b c h1 h2 => ?_) hd) hs fun p => by rw [pack_mem, hm]
    · by_cases h : ltP a b
      · exact h
      · exact absurd (ltP_tri h h1) h2
    · unfold ltP at *; omega
  · refine strict_ext (r := fun a b => ltP b a) (fun a b h1 h2 => ltP_asymm _ _ h2 h1) _ _ (pack_strict (r := fun a b => ltP b a) d.reverse (fun a b h1 h2 => ?_) (fun a b c h1 h2 => ?_) (List.pairwise_reverse.2 hd)) (List.pairwise_reverse.2 hs) fun p => by rw [pack_mem, List.mem_reverse, List.mem_reverse, hm]
    · by_cases h : ltP b a
      · exact h
      · exact absurd (ltP_tri h1 h) h2
    · unfold ltP at *; omega

/-- A row of two numbers as a point; a point as a row. -/
def ptOf (v : List Int) : P2 := (v.getD 0 0, v.getD 1 0)
def rowOf (p : P2) : List Int := [p.1, p.2]
theorem row_pt {v : List Int} (h : v.length = 2) : rowOf (ptOf v) = v := by
  match v, h with
  | [a, b], _ => rfl
theorem pt_row (p : P2) : ptOf (rowOf p) = p := rfl
theorem before_pt {a b : List Int} (ha : a.length = 2) (hb : b.length = 2) : beforeL a b = true ↔ ltP (ptOf a) (ptOf b) := by
  match a, b, ha, hb with
  | [a0, a1], [b0, b1], _, _ =>
    unfold ltP ptOf
    simp only [beforeL, List.getD_cons_zero, List.getD_cons_succ]
    by_cases e : a0 = b0
    · rw [if_pos e]
      by_cases e2 : a1 = b1
      · rw [if_pos e2]; simp; omega
      · rw [if_neg e2]; simp; omega
    · rw [if_neg e]; simp; omega

/-! What the functions of this chapter answer. -/
def flatR (l : List (List Int)) : Bool := l.all fun v => decide (v.length = 2) && small v 50
theorem flatR_t {l : List (List Int)} (h : flatR l = true) : ∀ v ∈ l, v.length = 2 ∧ small v 50 = true := by
  intro v hv
  unfold flatR at h
  rw [List.all_eq_true] at h
  have := h v hv
  rw [Bool.and_eq_true] at this
  exact ⟨of_decide_eq_true this.1, this.2⟩
def sortL (l : List (List Int)) : List P2 := (l.foldl putL []).map ptOf
def hullP (l : List (List Int)) : List P2 × Bool :=
  if 200 < l.length ∨ ¬ flatR l = true then ([], false) else if (sortL l).length < 3 then ([], false) else cornR (sortL l)
def hullR (l : List (List Int)) : List (List Int) × Bool := ((hullP l).1.map rowOf, (hullP l).2)
theorem sortL_rows {l : List (List Int)} (h : flatR l = true) : (sortL l).map rowOf = l.foldl putL [] := by
  have hm := (foldL_put (n := 2) l [] (fun q hq => (flatR_t h q hq).1) (fun q hq => by cases hq) List.Pairwise.nil).2
  unfold sortL
  rw [List.map_map]
  refine (List.map_congr_left fun v hv => ?_).trans (List.map_id _)
  rcases (hm v).1 hv with k | k
  · cases k
  · exact row_pt (flatR_t h v k).1
theorem sortL_strict {l : List (List Int)} (h : flatR l = true) : (sortL l).Pairwise ltP ∧ ∀ p, p ∈ sortL l ↔ p ∈ l.map ptOf := by
  obtain ⟨h1, hm⟩ := foldL_put (n := 2) l [] (fun q hq => (flatR_t h q hq).1) (fun q hq => by cases hq) List.Pairwise.nil
  have hl : ∀ v ∈ l.foldl putL [], v.length = 2 := fun v hv => by
    rcases (hm v).1 hv with k | k
    · cases k
    · exact (flatR_t h v k).1
  refine ⟨?_, fun p => ?_⟩
  · unfold sortL
    rw [List.pairwise_map]
    exact h1.imp_of_mem fun {a b} ha hb hab => (before_pt (hl a ha) (hl b hb)).1 hab
  · unfold sortL
    simp only [List.mem_map]
    constructor
    · rintro ⟨v, hv, rfl⟩
      rcases (hm v).1 hv with k | k
      · cases k
      · exact ⟨v, k, rfl⟩
    · rintro ⟨v, hv, rfl⟩
      exact ⟨v, (hm v).2 (.inr hv), rfl⟩
/-- As the program finds the corners: of the points sorted in whatever way. -/
theorem hull_prog {l : List (List Int)} {d : List P2} (h0 : l.length ≤ 200) (h : flatR l = true) (hd : d.Pairwise (fun a b => ¬ ltP b a)) (hm : ∀ p, p ∈ d ↔ p ∈ l.map ptOf) : hullP l = cornR d := by
  obtain ⟨h1, h2⟩ := sortL_strict h
  obtain ⟨k1, k2⟩ := pack_eq hd h1 (fun p => by rw [hm, h2])
  unfold hullP
  rw [if_neg (by rintro (c | c); omega; exact c h), corn_pack k1 k2]
end Go.Proofs.YtjijgagdaolkcaaGreat
/- Plain facts on regions: a half is its normal and its bound, a region its dimension and its halves. -/
namespace Go.Proofs.YtjijgagdaolkcaaGreat

/-- A half: its normal and its bound. -/
abbrev Hf := List Int × Int
def halfOk (n : Int) (h : Hf) : Bool := inR n 1 3 && (decide ((h.1.length : Int) = n) && (small h.1 20 && (decide (0 < allG h.1) && inR h.2 (-200) 200)))
def regOk (n : Int) (hs : List Hf) : Bool := hs.all (halfOk n) && (inR n 1 3 && decide (hs.length ≤ 8))
def hasL (hs : List Hf) (x : List Int) : Bool := hs.all fun h => decide (dotL h.1 x ≤ h.2)
def hasP (n : Int) (hs : List Hf) (x : List Int) : Bool := regOk n hs && (isV x && (decide ((x.length : Int) = n) && hasL hs x))
def moveH (v : List Int) (h : Hf) : Hf := (h.1, h.2 + dotL h.1 v)
def moveL (hs : List Hf) (v : List Int) : List Hf := hs.map (moveH v)
/-- The halves of the second that are not among the first's. -/
def newL (hs ks : List Hf) : List Hf := ks.filter fun h => decide (h ∉ hs)
def meetL (hs ks : List Hf) : List Hf := hs ++ newL hs ks
def moveR (n : Int) (hs : List Hf) (v : List Int) : (Int × List Hf) × Bool :=
  if regOk n hs = true ∧ isV v = true ∧ (v.length : Int) = n ∧ regOk n (moveL hs v) = true then ((n, moveL hs v), true) else ((0, []), false)
def meetR (n : Int) (hs : List Hf) (m : Int) (ks : List Hf) : (Int × List Hf) × Bool :=
  if regOk n hs = true ∧ regOk m ks = true ∧ n = m ∧ regOk n (meetL hs ks) = true then ((n, meetL hs ks), true) else ((0, []), false)
def eqR (n : Int) (hs : List Hf) (m : Int) (ks : List Hf) : Bool := decide (n = m ∧ hs = ks)

theorem halfOk_t {n : Int} {h : Hf} (hh : halfOk n h = true) : 1 ≤ n ∧ n ≤ 3 ∧ (h.1.length : Int) = n ∧ Bd h.1 20 ∧ 0 < allG h.1 ∧ -200 ≤ h.2 ∧ h.2 ≤ 200 := by
  unfold halfOk at hh
  simp only [Bool.and_eq_true, decide_eq_true_eq] at hh
  obtain ⟨h1, h2, h3, h4, h5⟩ := hh
  have a := inR_t h1
  have b := inR_t h5
  exact ⟨a.1, a.2, h2, small_bd h3, h4, by omega, by omega⟩
theorem all_take' {α : Type} {f : α → Bool} {m : List α} {k : Nat} (h : k < m.length) (h1 : (m.take k).all f = true) (h2 : f m[k] = true) : (m.take (k + 1)).all f = true := by
  rw [List.take_succ_eq_append_getElem h, List.all_append, h1, List.all_cons, h2]; rfl
theorem all_not' {α : Type} {f : α → Bool} {m : List α} {k : Nat} (h : k < m.length) (h2 : f m[k] = false) : m.all f = false := by
  rw [List.all_eq_false]
  exact ⟨m[k], List.getElem_mem h, by simp [h2]⟩
theorem regOk_t {n : Int} {hs : List Hf} (h : regOk n hs = true) : 1 ≤ n ∧ n ≤ 3 ∧ hs.length ≤ 8 ∧ ∀ (i : Nat) (hi : i < hs.length), halfOk n hs[i] = true := by
  unfold regOk at h
  simp only [Bool.and_eq_true, decide_eq_true_eq, List.all_eq_true] at h
  have a := inR_t h.2.1
  exact ⟨a.1, a.2, h.2.2, fun i hi => h.1 _ (List.getElem_mem hi)⟩
theorem regOk_half {n : Int} {hs : List Hf} {k : Nat} (hk : k < hs.length) (h : halfOk n hs[k] = false) : regOk n hs = false := by
  unfold regOk
  rw [all_not' hk h]; rfl
theorem regOk_mk {n : Int} {hs : List Hf} (h : hs.all (halfOk n) = true) : regOk n hs = (inR n 1 3 && decide (hs.length ≤ 8)) := by
  unfold regOk
  rw [h]; rfl
theorem move_take {hs : List Hf} {v : List Int} {k : Nat} (h : k < hs.length) : moveL (hs.take (k + 1)) v = moveL (hs.take k) v ++ [moveH v hs[k]] := by
  unfold moveL
  rw [List.take_succ_eq_append_getElem h, List.map_append]; rfl
theorem move_len (hs : List Hf) (v : List Int) : (moveL hs v).length = hs.length := by simp [moveL]
theorem new_take {hs ks : List Hf} {k : Nat} (h : k < ks.length) : newL hs (ks.take (k + 1)) = newL hs (ks.take k) ++ (if ks[k] ∈ hs then [] else [ks[k]]) := by
  unfold newL
  rw [List.take_succ_eq_append_getElem h, List.filter_append]
  by_cases hm : ks[k] ∈ hs <;> simp [hm]
theorem new_len_le (hs ks : List Hf) : (newL hs ks).length ≤ ks.length := List.length_filter_le ..
/-- Among the first i. -/
def seenL (hs : List Hf) (h : Hf) : Bool := decide (h ∈ hs)
theorem seen_take {hs : List Hf} {h : Hf} {k : Nat} (hk : k < hs.length) : seenL (hs.take (k + 1)) h = (seenL (hs.take k) h || decide (hs[k] = h)) := by
  unfold seenL
  have e : h ∈ hs.take (k + 1) ↔ (h ∈ hs.take k ∨ hs[k] = h) := by
    rw [List.take_succ_eq_append_getElem hk, List.mem_append, List.mem_singleton]
    exact or_congr Iff.rfl ⟨Eq.symm, Eq.symm⟩
  rw [← Bool.decide_or]
  exact decide_eq_decide.2 e
theorem eq_by_get {α : Type} {a b : List α} (hl : a.length = b.length) (h : ∀ (k : Nat) (h1 : k < a.length) (h2 : k < b.length), a[k] = b[k]) : a = b := List.ext_getElem hl h

/-- A region's text: semicolon 59, less-than 60, comma 44. -/
def halfL (tx : List Int → List UInt8) (nu : Int → List UInt8) (h : Hf) : List UInt8 := 59 :: (tx h.1 ++ 60 :: nu h.2)
def regL (tx : List Int → List UInt8) (nu : Int → List UInt8) (n : Int) (hs : List Hf) : List UInt8 := nu n ++ hs.flatMap (halfL tx nu)
theorem reg_take {tx : List Int → List UInt8} {nu : Int → List UInt8} {n : Int} {hs : List Hf} {k : Nat} (h : k < hs.length) :
    regL tx nu n (hs.take (k + 1)) = regL tx nu n (hs.take k) ++ halfL tx nu hs[k] := by
  unfold regL
  rw [List.take_succ_eq_append_getElem h, List.flatMap_append, List.append_assoc]
  simp
end Go.Proofs.YtjijgagdaolkcaaGreat
/- Plain facts: the points of a box in order, those of a region among them, the first one with the least product, slices. -/
namespace Go.Proofs.YtjijgagdaolkcaaGreat

/-- The numbers from -e to e. -/
def axis (e : Nat) : List Int := (List.range (2 * e + 1)).map fun i : Nat => (i : Int) - (e : Int)
theorem axis_len (e : Nat) : (axis e).length = 2 * e + 1 := by simp [axis]
theorem axis_get (e i : Nat) (h : i < (axis e).length) : (axis e)[i] = (i : Int) - e := by simp [axis]
theorem flatMap_cg {α β : Type} {l : List α} {f g : α → List β} (h : ∀ x, x ∈ l → f x = g x) : l.flatMap f = l.flatMap g := by
  induction l with
  | nil => rfl
  | cons x l ih => rw [List.flatMap_cons, List.flatMap_cons, h x (List.mem_cons_self ..), ih fun y hy => h y (List.mem_cons_of_mem _ hy)]
/-- The points of a box of n dimensions, in order. -/
def boxP (R : List Int) : Nat → List (List Int)
  | 0 => [[]]
  | n + 1 => (boxP R n).flatMap fun p => R.map fun x => p ++ [x]
theorem boxP_lens (R : List Int) : ∀ (n : Nat) (p : List Int), p ∈ boxP R n → p.length = n
  | 0, p, h => by simp [boxP] at h; rw [h]; rfl
  | n + 1, p, h => by
    unfold boxP at h
    obtain ⟨q, hq, h⟩ := List.mem_flatMap.1 h
    obtain ⟨x, _, rfl⟩ := List.mem_map.1 h
    rw [List.length_append, boxP_lens R n q hq]; rfl
/-- Three numbers each. -/
def tripL (A B C : List Int) : List (List Int) := A.flatMap fun x => B.flatMap fun y => C.map fun z => [x, y, z]
def edge (n : Int) (k : Nat) : Nat := if (k : Int) < n then 6 else 0
def trip (n : Int) : List (List Int) := tripL (axis (edge n 0)) (axis (edge n 1)) (axis (edge n 2))
theorem axis_zero : axis 0 = [0] := rfl
theorem trip_one (R : List Int) : (tripL R [0] [0]).map (fun t => t.take 1) = boxP R 1 := by
  simp [tripL, boxP, List.map_flatMap]
  induction R with
  | nil => rfl
  | cons x R ih => simp [ih]
theorem trip_two (R : List Int) : (tripL R R [0]).map (fun t => t.take 2) = boxP R 2 := by
  have e : boxP R 1 = R.map fun x => [x] := by simp [boxP]
  rw [show boxP R 2 = (boxP R 1).flatMap fun p => R.map fun x => p ++ [x] from rfl, e, tripL, List.flatMap_map, List.map_flatMap]
  refine flatMap_cg fun x _ => ?_
  rw [List.map_flatMap]
  simp only [List.map_cons, List.map_nil]
  generalize hS : R = S
  clear hS
  induction S with
  | nil => rfl
  | cons y S ih => simp only [List.flatMap_cons, List.map_cons, ih]; rfl
theorem trip_three (R : List Int) : (tripL R R R).map (fun t => t.take 3) = boxP R 3 := by
  have e : boxP R 1 = R.map fun x => [x] := by simp [boxP]
  rw [show boxP R 3 = ((boxP R 1).flatMap fun p => R.map fun x => p ++ [x]).flatMap fun p => R.map fun x => p ++ [x] from rfl, e, tripL, List.flatMap_map, List.map_flatMap, List.flatMap_assoc]
  refine flatMap_cg fun x _ => ?_
  rw [List.map_flatMap, List.flatMap_map]
  refine flatMap_cg fun y _ => ?_
  rw [List.map_map]
  rfl
theorem trip_box {n : Nat} (h1 : 1 ≤ n) (h3 : n ≤ 3) : (trip n).map (fun t => t.take n) = boxP (axis 6) n := by
  have hn : n = 1 ∨ n = 2 ∨ n = 3 := by omega
  rcases hn with rfl | rfl | rfl
  · exact trip_one (axis 6)
  · exact trip_two (axis 6)
  · exact trip_three (axis 6)
theorem trip_mem {n : Int} {t : List Int} (h : t ∈ trip n) : ∃ x y z : Int, t = [x, y, z] ∧ (-6 ≤ x ∧ x ≤ 6) ∧ (-6 ≤ y ∧ y ≤ 6) ∧ (-6 ≤ z ∧ z ≤ 6) ∧ (¬ 1 < n → y = 0) ∧ (¬ 2 < n → z = 0) := by
  have ax : ∀ (k : Nat) (x : Int), x ∈ axis (edge n k) → (-6 ≤ x ∧ x ≤ 6) ∧ (¬ (k : Int) < n → x = 0) := by
    intro k x hx
    unfold axis at hx
    obtain ⟨i, hi, rfl⟩ := List.mem_map.1 hx
    rw [List.mem_range] at hi
    unfold edge at hi ⊢
    split at hi
    · rename_i hk
      rw [if_pos hk]
      exact ⟨by omega, fun e => absurd hk e⟩
    · rename_i hk
      rw [if_neg hk]
      exact ⟨by omega, fun _ => by omega⟩
  unfold trip tripL at h
  obtain ⟨x, hx, h⟩ := List.mem_flatMap.1 h
  obtain ⟨y, hy, h⟩ := List.mem_flatMap.1 h
  obtain ⟨z, hz, rfl⟩ := List.mem_map.1 h
  exact ⟨x, y, z, rfl, (ax 0 x hx).1, (ax 1 y hy).1, (ax 2 z hz).1, (ax 1 y hy).2, (ax 2 z hz).2⟩
/-- What has come when the loops stand at i, j, k. -/
def tripAt (A B C : List Int) (i j k : Nat) : List (List Int) :=
  tripL (A.take i) B C ++ (tripL (A.drop i |>.take 1) (B.take j) C ++ tripL (A.drop i |>.take 1) (B.drop j |>.take 1) (C.take k))
theorem tripL_app (A A' B C : List Int) : tripL (A ++ A') B C = tripL A B C ++ tripL A' B C := by simp [tripL]
theorem tripL_one (x : Int) (B B' C : List Int) : tripL [x] (B ++ B') C = tripL [x] B C ++ tripL [x] B' C := by simp [tripL]
theorem tripL_two (x y : Int) (C C' : List Int) : tripL [x] [y] (C ++ C') = tripL [x] [y] C ++ tripL [x] [y] C' := by simp [tripL]
theorem tripL_nil (B C : List Int) : tripL [] B C = [] := rfl
theorem tripL_nil2 (x : Int) (C : List Int) : tripL [x] [] C = [] := rfl
theorem tripL_nil3 (x y : Int) : tripL [x] [y] [] = [] := rfl
theorem drop_one {l : List Int} {i : Nat} (h : i < l.length) : (l.drop i).take 1 = [l[i]] := by rw [List.drop_eq_getElem_cons h]; rfl
theorem drop_none {l : List Int} {i : Nat} (h : l.length ≤ i) : (l.drop i).take 1 = [] := by rw [List.drop_eq_nil_of_le h]; rfl
theorem tripAt_zero (A B C : List Int) : tripAt A B C 0 0 0 = [] := by
  unfold tripAt
  simp only [List.take_zero, tripL_nil, List.nil_append, List.drop_zero]
  cases A with
  | nil => rfl
  | cons x A => cases B <;> rfl
theorem tripAt_step {A B C : List Int} {i j k : Nat} (hi : i < A.length) (hj : j < B.length) (hk : k < C.length) : tripAt A B C i j k ++ [[A[i], B[j], C[k]]] = tripAt A B C i j (k + 1) := by
  unfold tripAt
  rw [drop_one hi, drop_one hj, List.append_assoc, List.append_assoc, List.take_succ_eq_append_getElem hk, tripL_two]
  rfl
theorem tripAt_row {A B C : List Int} {i j : Nat} (hi : i < A.length) (hj : j < B.length) : tripAt A B C i j C.length = tripAt A B C i (j + 1) 0 := by
  unfold tripAt
  rw [drop_one hi, drop_one hj, List.take_length, List.take_succ_eq_append_getElem hj, tripL_one]
  congr 1
  rw [List.take_zero]
  by_cases h : j + 1 < B.length
  · rw [drop_one h, tripL_nil3, List.append_nil]
  · rw [drop_none (by omega), tripL_nil2, List.append_nil]
theorem tripAt_plane {A B C : List Int} {i : Nat} (hi : i < A.length) : tripAt A B C i B.length 0 = tripAt A B C (i + 1) 0 0 := by
  unfold tripAt
  rw [drop_one hi, List.take_length, List.take_succ_eq_append_getElem hi, tripL_app, List.append_assoc]
  congr 1
  rw [drop_none (Nat.le_refl _), tripL_nil2, List.append_nil, List.take_zero, List.take_zero]
  simp [tripL]
theorem tripAt_all (A B C : List Int) : tripAt A B C A.length 0 0 = tripL A B C := by
  unfold tripAt
  rw [List.take_length, drop_none (Nat.le_refl _), tripL_nil, tripL_nil]
  simp
theorem tripAt_pre (A B C : List Int) {i j k : Nat} (hi : i < A.length) (hj : j < B.length) : tripAt A B C i j k <+: tripL A B C := by
  have p3 : tripAt A B C i j k <+: tripAt A B C i j C.length := by
    unfold tripAt
    rw [drop_one hi, drop_one hj, List.take_length, List.prefix_append_right_inj, List.prefix_append_right_inj]
    conv => rhs; rw [← List.take_append_drop k C, tripL_two]
    exact List.prefix_append _ _
  have p2 : tripAt A B C i (j + 1) 0 <+: tripAt A B C i B.length 0 := by
    unfold tripAt
    rw [drop_one hi, List.prefix_append_right_inj, List.take_length, List.take_zero, drop_none (Nat.le_refl _), tripL_nil2, List.append_nil]
    have e : tripL [A[i]] (List.take 1 (List.drop (j + 1) B)) [] = [] := by
      by_cases h : j + 1 < B.length
      · rw [drop_one h]; rfl
      · rw [drop_none (by omega)]; rfl
    rw [e, List.append_nil]
    conv => rhs; rw [← List.take_append_drop (j + 1) B, tripL_one]
    exact List.prefix_append _ _
  have p1 : tripAt A B C (i + 1) 0 0 <+: tripL A B C := by
    have e : tripAt A B C (i + 1) 0 0 = tripL (A.take (i + 1)) B C := by
      unfold tripAt
      have e1 : tripL (List.take 1 (List.drop (i + 1) A)) [] C = [] := by
        by_cases h : i + 1 < A.length
        · rw [drop_one h]; rfl
        · rw [drop_none (by omega)]; rfl
      have e2 : ∀ D, tripL (List.take 1 (List.drop (i + 1) A)) D [] = [] := fun D => by simp [tripL]
      rw [List.take_zero, List.take_zero, e1, e2]; simp
    rw [e]
    conv => rhs; rw [← List.take_append_drop (i + 1) A, tripL_app]
    exact List.prefix_append _ _
  rw [tripAt_row hi hj] at p3
  rw [tripAt_plane hi] at p2
  exact p3.trans (p2.trans p1)

/-- The product of three numbers each. -/
def dot3 (a t : List Int) : Int := a.getD 0 0 * t.getD 0 0 + a.getD 1 0 * t.getD 1 0 + a.getD 2 0 * t.getD 2 0
def inA (hs : List Hf) (t : List Int) : Bool := hs.all fun h => decide (dot3 h.1 t ≤ h.2)
/-- The points of a region in the box. -/
def ptsL (n : Int) (hs : List Hf) : List (List Int) := (boxP (axis 6) n.toNat).filter (hasL hs)
def ptsR (n : Int) (hs : List Hf) : List (List Int) := if regOk n hs = true then ptsL n hs else []
def countR (n : Int) (hs : List Hf) : Int := if regOk n hs = true then (ptsL n hs).length else -1
theorem ptsR_f {n : Int} {hs : List Hf} (h : regOk n hs = false) : ptsR n hs = [] := by unfold ptsR; rw [h]; rfl
theorem ptsR_t {n : Int} {hs : List Hf} (h : regOk n hs = true) : ptsR n hs = ptsL n hs := if_pos h
end Go.Proofs.YtjijgagdaolkcaaGreat
