/- Small facts on endings and worlds. -/
import Derived.WalkKit
import Derived.WalkLawsBesides
import Derived.WalkSpells
import Derived.Below
import Derived.IntWalk
import Derived.Lib.Hide
import Derived.ProofKit
import Derived.SliceStrings
import Derived.Test.YtflkalgofkpdbaaDoorProg
import Derived.BigQuiet
import Derived.Deep.QuietTactic
import Derived.Deep.RegionHeld3
import Derived.Deep.AppendLies
import Derived.Laws.AppendOwnNone
import Derived.Deep.RegionWith
import Derived.Laws.CopyOwn
import Derived.LoopN
import Derived.RegionTactic
import Derived.Lib.ItoaMem
import Derived.Lib.AtoiAllCases
import Derived.Shelf.Strings.Builder1
import Derived.Shelf.Strings.Builder2
import Derived.Shelf.Strings.OnBuilder
import Derived.Shelf.LaysM
import Derived.Shelf.Strconv.Itoa3
import Derived.Shelf.LaysC
import Derived.Shelf.Strconv.AtoiAll
import Derived.Shelf.Strconv.ErrVarAll
import Derived.Shelf.Strings.Search1
import Derived.Shelf.Strings.Search2
import Derived.Shelf.Strings.Search3
import Derived.Shelf.Strings.Count
import Derived.Shelf.Strings.Shaped
import Derived.Shelf.Strings.Split
import Derived.Lib.SmallJoins
import Derived.Stop.LaidErr
import Derived.LaidLaws
import Derived.Laws.BytesString
namespace Go.Proofs.YtflkalgofkpdbaaDoor
open Go Go.RowKit

theorem int_eq {k : IntKind} {a b : Int} (h : a = b) : Value.int k a = Value.int k b := by rw [h]
theorem ret_int {k : IntKind} {a b : Int} (h : a = b) : Ending.returned (.int k a) = .returned (.int k b) := by rw [h]
theorem ret_bool {a b : Bool} (h : a = b) : Ending.returned (.bool a) = .returned (.bool b) := by rw [h]
theorem ret_str {a b : List UInt8} (h : a = b) : Ending.returned (.string ⟨a.toArray⟩) = .returned (.string ⟨b.toArray⟩) := by rw [h]
theorem below_drewN' {B : Nat} {a w : World} (h : Below B a w) (n : Nat) : Below B a (w.drewN n) := h.trans ⟨rfl, rfl, rfl, Nat.le_refl _, fun _ _ => rfl⟩
theorem bcell {W w1 : World} (hb : Below W.heap.size W w1) : (∀ b o, b < W.heap.size → w1.cell? ⟨b, o, none⟩ = W.cell? ⟨b, o, none⟩) ∧ (∀ b o, b < W.heap.size → w1.frozen? ⟨b, o, none⟩ = W.frozen? ⟨b, o, none⟩) :=
  ⟨fun b o h => hb.cell (p := ⟨b, o, none⟩) h, fun b o h => hb.frozen (p := ⟨b, o, none⟩) h⟩
theorem str_cons (c : UInt8) (l : List UInt8) : (⟨#[c]⟩ : ByteArray) ++ ⟨l.toArray⟩ = ⟨(c :: l).toArray⟩ := by
  rw [ByteArray.mk_append_mk]; simp
theorem bytes_bne {a b : ByteArray} (h : a ≠ b) : (!a.toList == b.toList) = true := by
  rw [ByteArray.toList_eq, ByteArray.toList_eq]
  simp only [Bool.not_eq_true', beq_eq_false_iff_ne]
  intro e; exact h (ByteArray.ext (Array.toList_inj.1 e))
theorem bytes_beq {a b : ByteArray} (h : a = b) : (!a.toList == b.toList) = false := by subst h; simp
theorem list_len (s : ByteArray) : s.data.toList.length = s.size := by rw [Array.length_toList]; rfl
theorem w64 {n : Int} (h1 : -9223372036854775808 ≤ n) (h2 : n ≤ 9223372036854775807) : wrap64 n = n := IntWalk.wrap64_in n ⟨h1, h2⟩
end Go.Proofs.YtflkalgofkpdbaaDoor
/- A slice value that reads as a list of values, each of one cell; it stays so while the memory below stays. -/
namespace Go.Proofs.YtflkalgofkpdbaaDoor
open Go Go.RowKit Go.ChangeShapes Go.WideShapes

/-- The slice v reads as xs. -/
def Sl (W : World) (v : Value) (xs : List Value) : Prop :=
  (xs = [] ∧ ∃ (a : Option Addr) (c : Nat), v = .slice a 0 c) ∨
  (xs ≠ [] ∧ ∃ b off c : Nat, v = .slice (some ⟨b, off, none⟩) xs.length c ∧ xs.length ≤ c ∧ xs.length ≤ maxLen ∧ b < W.heap.size ∧ ∀ (i : Nat) x, xs[i]? = some x → W.cell? ⟨b, off + i, none⟩ = some x)

theorem Sl.below {W W' : World} {v : Value} {xs : List Value} (h : Sl W v xs) (hb : Below W.heap.size W W') : Sl W' v xs := by
  rcases h with h | ⟨h0, b, off, c, rfl, hc, hm, hlt, hx⟩
  · exact .inl h
  · refine .inr ⟨h0, b, off, c, rfl, hc, hm, Nat.lt_of_lt_of_le hlt hb.size, fun i x hi => ?_⟩
    rw [hb.cell (p := ⟨b, off + i, none⟩) hlt]; exact hx i x hi
theorem Sl.shape {W : World} {v : Value} {xs : List Value} (h : Sl W v xs) :
    ∃ (a : Option Addr) (c : Nat), v = .slice a xs.length c ∧ xs.length ≤ maxLen ∧ (0 < xs.length → ∃ b off : Nat, a = some ⟨b, off, none⟩ ∧ xs.length ≤ c ∧ b < W.heap.size ∧ ∀ (i : Nat) x, xs[i]? = some x → W.cell? ⟨b, off + i, none⟩ = some x) := by
  rcases h with ⟨rfl, a, c, rfl⟩ | ⟨h0, b, off, c, rfl, hc, hm, hlt, hx⟩
  · exact ⟨a, c, rfl, by simp, fun h => by simp at h⟩
  · exact ⟨_, c, rfl, hm, fun _ => ⟨b, off, rfl, hc, hlt, hx⟩⟩
theorem Sl.len {W : World} {v : Value} {xs : List Value} (h : Sl W v xs) : xs.length ≤ maxLen := by
  rcases h with ⟨rfl, _⟩ | ⟨_, _, _, _, _, _, h, _⟩
  · simp
  · exact h
/-- A row that the call made itself. -/
theorem Sl.of_owns {W : World} {base : Nat} {e : TypeId} {v : Value} {n : Nat} {xs : List Value} (h : W.ownsRow base e 1 v n xs) : Sl W v xs := by
  obtain ⟨hl, h⟩ := h
  rw [Nat.mul_one] at hl
  rcases h with ⟨rfl, rfl⟩ | ⟨g, cap, cur, rfl, hg, hb, hn, hm, hs, ht⟩
  · exact .inl ⟨by simpa using hl, none, 0, rfl⟩
  · by_cases h0 : xs = []
    · subst h0
      obtain rfl : n = 0 := by simpa using hl.symm
      exact .inl ⟨rfl, _, _, rfl⟩
    · refine .inr ⟨h0, g, 0, cap, by rw [hl], by omega, by omega, ?_, fun i x hi => ?_⟩
      · by_cases hlt : g < W.heap.size
        · exact hlt
        · rw [Array.getElem?_eq_none (by omega)] at hb; cases hb
      · have hi' : i < n := by
          by_cases hh : i < n
          · exact hh
          · rw [List.getElem?_eq_none (by omega)] at hi; cases hi
        rw [cell_of_row W g (0 + i) cur e (0, 0) hb]
        rw [← ht, Nat.mul_one, List.getElem?_take, if_pos hi'] at hi
        simpa using hi

/-- Strings as values, integers as values. -/
def strVals (ss : List ByteArray) : List Value := ss.map Value.string
def intVals (zs : List Int) : List Value := zs.map (Value.int .i64)
def numVals (k : IntKind) (zs : List Int) : List Value := zs.map (Value.int k)
theorem numVals_len (k : IntKind) (zs : List Int) : (numVals k zs).length = zs.length := by simp [numVals]
theorem numVals_get {k : IntKind} (zs : List Int) (i : Nat) (h : i < zs.length) : (numVals k zs)[i]? = some (.int k zs[i]) := by simp [numVals, h]
theorem strVals_len (ss : List ByteArray) : (strVals ss).length = ss.length := by simp [strVals]
theorem intVals_len (zs : List Int) : (intVals zs).length = zs.length := by simp [intVals]
theorem strVals_get (ss : List ByteArray) (i : Nat) (h : i < ss.length) : (strVals ss)[i]? = some (.string ss[i]) := by simp [strVals, h]
theorem intVals_get (zs : List Int) (i : Nat) (h : i < zs.length) : (intVals zs)[i]? = some (.int .i64 zs[i]) := by simp [intVals, h]

theorem cell_block_lt {W : World} {a : Addr} {v : Value} (h : W.cell? a = some v) : a.block < W.heap.size := by
  by_cases hlt : a.block < W.heap.size
  · exact hlt
  · unfold World.cell? at h
    rw [Array.getElem?_eq_none (by omega)] at h
    simp at h
theorem cell_spot {W : World} {a : Addr} {v : Value} (h : W.cell? a = some v) : a.spot = none := by
  unfold World.cell? at h
  split at h
  · split at h
    · cases h
    · rename_i hs; simpa using hs
  · cases h
/-- What came in as a slice of one-cell elements. -/
theorem sl_of_cells {W : World} {a : Addr} {len cap : Nat} {xs : List Value} (hlen : xs.length = len) (hc : len ≤ cap) (hm : cap ≤ maxLen)
    (hx : ∀ (i : Nat) x, xs[i]? = some x → W.cell? (a.add i) = some x) : Sl W (.slice (some a) len cap) xs := by
  by_cases h0 : xs = []
  · subst h0
    simp only [List.length_nil] at hlen
    subst hlen
    exact .inl ⟨rfl, _, _, rfl⟩
  · obtain ⟨x, r, rfl⟩ : ∃ x r, xs = x :: r := by cases xs with | nil => exact absurd rfl h0 | cons x r => exact ⟨x, r, rfl⟩
    have hx0 := hx 0 x rfl
    have hsp := cell_spot hx0
    have hlt := cell_block_lt hx0
    obtain ⟨b, off, sp⟩ := a
    simp only [Addr.add] at hsp hlt hx
    subst hsp
    exact .inr ⟨h0, b, off, cap, by rw [hlen], by omega, by omega, hlt, fun i y hi => by
      have h1 := hx i y hi
      by_cases h0 : i = 0
      · subst h0; simpa using h1
      · simpa [h0] using h1⟩

section
variable {H : Type} {enc : TypeId × Value → H} {P : Program}
theorem strs_came {W : World} {base : Nat} {sp : Nat → Bool} {held : Bool} {t e : TypeId} {fuel : Nat} {a : Option Addr} {len cap : Nat} {x : DataW H × List MemPlace}
    (ht : P.underlying t = some (.slice e)) (he : P.underlying e = some .string) (hc : P.cellsOf e = 1)
    (h : DataW.trod enc P W base sp held fuel t [.slice a len cap] = some x) :
    ∃ ss : List ByteArray, ss.length = len ∧ Sl W (.slice a len cap) (strVals ss) ∧ ∀ s ∈ ss, s.size ≤ maxLen := by
  rcases open_strings ht he hc h with ⟨hcs, _⟩ | ⟨a', len', cap', ss, hcs, _, hl, hm, hz, _, hcell, hws⟩
  · simp only [List.cons.injEq, Value.slice.injEq, and_true] at hcs
    obtain ⟨rfl, rfl, rfl⟩ := hcs
    exact ⟨[], rfl, .inl ⟨rfl, _, _, rfl⟩, by simp⟩
  · simp only [List.cons.injEq, Value.slice.injEq, and_true] at hcs
    obtain ⟨rfl, rfl, rfl⟩ := hcs
    have hle : len ≤ ss.length := by split at hz <;> omega
    refine ⟨ss.take len, by rw [List.length_take]; omega, sl_of_cells (by rw [strVals_len, List.length_take]; omega) hl hm ?_, fun s hs => hws s (List.mem_of_mem_take hs)⟩
    intro i x hi
    have hi' : i < len := by
      by_cases hh : i < len
      · exact hh
      · rw [List.getElem?_eq_none (by rw [strVals_len, List.length_take]; omega)] at hi; cases hi
    rw [hcell i (by omega)]
    rw [strVals_get _ _ (by rw [List.length_take]; omega)] at hi
    rw [← Option.some.inj hi]
    simp [List.getD_eq_getElem?_getD, show i < ss.length from by omega]
theorem nums_came {k : IntKind} {W : World} {base : Nat} {sp : Nat → Bool} {held : Bool} {t e : TypeId} {fuel : Nat} {a : Option Addr} {len cap : Nat} {x : DataW H × List MemPlace}
    (ht : P.underlying t = some (.slice e)) (he : P.underlying e = some (.int k)) (hc : P.cellsOf e = 1)
    (h : DataW.trod enc P W base sp held fuel t [.slice a len cap] = some x) :
    ∃ zs : List Int, zs.length = len ∧ Sl W (.slice a len cap) (numVals k zs) ∧ ∀ z ∈ zs, (Lit.int k z).wf = true := by
  rcases open_ints ht he hc h with ⟨hcs, _⟩ | ⟨a', len', cap', zs, hcs, _, hl, hm, hz, _, hcell, hws⟩
  · simp only [List.cons.injEq, Value.slice.injEq, and_true] at hcs
    obtain ⟨rfl, rfl, rfl⟩ := hcs
    exact ⟨[], rfl, .inl ⟨rfl, _, _, rfl⟩, by simp⟩
  · simp only [List.cons.injEq, Value.slice.injEq, and_true] at hcs
    obtain ⟨rfl, rfl, rfl⟩ := hcs
    have hle : len ≤ zs.length := by split at hz <;> omega
    refine ⟨zs.take len, by rw [List.length_take]; omega, sl_of_cells (by rw [numVals_len, List.length_take]; omega) hl hm ?_, fun s hs => hws s (List.mem_of_mem_take hs)⟩
    intro i x hi
    have hi' : i < len := by
      by_cases hh : i < len
      · exact hh
      · rw [List.getElem?_eq_none (by rw [numVals_len, List.length_take]; omega)] at hi; cases hi
    rw [hcell i (by omega)]
    rw [numVals_get _ _ (by rw [List.length_take]; omega)] at hi
    rw [← Option.some.inj hi]
    simp [List.getD_eq_getElem?_getD, show i < zs.length from by omega]
theorem ints_came {W : World} {base : Nat} {sp : Nat → Bool} {held : Bool} {t e : TypeId} {fuel : Nat} {a : Option Addr} {len cap : Nat} {x : DataW H × List MemPlace}
    (ht : P.underlying t = some (.slice e)) (he : P.underlying e = some (.int .i64)) (hc : P.cellsOf e = 1)
    (h : DataW.trod enc P W base sp held fuel t [.slice a len cap] = some x) :
    ∃ zs : List Int, zs.length = len ∧ Sl W (.slice a len cap) (intVals zs) ∧ ∀ z ∈ zs, (Lit.int .i64 z).wf = true := nums_came ht he hc h
end

def sizes (ss : List ByteArray) : Nat := (ss.map (·.size)).sum
theorem sizes_snoc (ss : List ByteArray) (k : Nat) (h : k < ss.length) : sizes (ss.take (k + 1)) = sizes (ss.take k) + ss[k].size := by
  unfold sizes
  rw [List.take_succ_eq_append_getElem h, List.map_append, List.sum_append]; simp
theorem sizes_take_le (ss : List ByteArray) (k : Nat) : sizes (ss.take k) ≤ sizes ss := by
  unfold sizes
  conv => rhs; rw [← List.take_append_drop k ss, List.map_append, List.sum_append]
  omega
/-- What szStringS answers. -/
def szStr (ss : List ByteArray) (left : Int) : Int := if left - ss.length - sizes ss < 0 then -1 else left - ss.length - sizes ss

/-- A row that is filled from the left. -/
def filled (xs : List Value) (z : Value) (k : Nat) : List Value := xs.take k ++ List.replicate (xs.length - k) z
theorem filled_zero (xs : List Value) (z : Value) : filled xs z 0 = List.replicate xs.length z := by simp [filled]
theorem filled_all (xs : List Value) (z : Value) : filled xs z xs.length = xs := by simp [filled]
theorem filled_len (xs : List Value) (z : Value) (k : Nat) (h : k ≤ xs.length) : (filled xs z k).length = xs.length := by simp [filled]; omega
theorem filled_get (xs : List Value) (z : Value) (k : Nat) (h : k < xs.length) : (filled xs z k)[k]? = some z := by
  unfold filled
  rw [List.getElem?_append_right (by rw [List.length_take]; omega), List.length_take, Nat.min_eq_left (by omega), Nat.sub_self, List.getElem?_replicate, if_pos (by omega)]
theorem filled_step (xs : List Value) (z x : Value) (k : Nat) (hx : xs[k]? = some x) : (filled xs z k).set k x = filled xs z (k + 1) := by
  have h : k < xs.length := by
    by_cases hh : k < xs.length
    · exact hh
    · rw [List.getElem?_eq_none (by omega)] at hx; cases hx
  unfold filled
  rw [List.set_append_right _ _ (by rw [List.length_take]; omega), List.length_take, Nat.min_eq_left (by omega), Nat.sub_self]
  rw [show xs.length - k = (xs.length - (k + 1)) + 1 from by omega, List.replicate_succ, List.set_cons_zero, List.take_add_one, hx]
  simp

theorem owns_below {w w' : World} {base : Nat} {e : TypeId} {size : Nat} {v : Value} {n : Nat} {xs : List Value} (h : w.ownsRow base e size v n xs) (hb : Below w.heap.size w w') : w'.ownsRow base e size v n xs := by
  refine ⟨h.1, ?_⟩
  rcases h.2 with h0 | ⟨g, cap, cur, h1, h2, h3, h4⟩
  · exact .inl h0
  · refine .inr ⟨g, cap, cur, h1, h2, ?_, h4⟩
    have hlt : g < w.heap.size := by
      by_cases hlt : g < w.heap.size
      · exact hlt
      · rw [Array.getElem?_eq_none (by omega)] at h3; cases h3
    rw [hb.block g hlt]; exact h3
end Go.Proofs.YtflkalgofkpdbaaDoor
/- What a step may change: blocks from lo to hi alone; rows of values in blocks of their own. -/
namespace Go.Proofs.YtflkalgofkpdbaaDoor
open Go Go.RowKit

/-- Outside of the blocks from lo to hi (hi not among them) w' is as w was. -/
structure Kept (lo hi : Nat) (w w' : World) : Prop where
  os : w'.os = w.os
  tape : w'.tape = w.tape
  output : w'.output = w.output
  size : w.heap.size ≤ w'.heap.size
  block : ∀ k, k < w.heap.size → (k < lo ∨ hi ≤ k) → w'.heap[k]? = w.heap[k]?

theorem Kept.refl (lo hi : Nat) (w : World) : Kept lo hi w w := ⟨rfl, rfl, rfl, Nat.le_refl _, fun _ _ _ => rfl⟩
theorem Kept.trans {lo hi : Nat} {a b c : World} (h : Kept lo hi a b) (k : Kept lo hi b c) : Kept lo hi a c :=
  ⟨k.os.trans h.os, k.tape.trans h.tape, k.output.trans h.output, Nat.le_trans h.size k.size, fun i hi ho => (k.block i (Nat.lt_of_lt_of_le hi h.size) ho).trans (h.block i hi ho)⟩
theorem Kept.mono {lo hi lo' hi' : Nat} {w w' : World} (h : Kept lo hi w w') (h1 : lo' ≤ lo) (h2 : hi ≤ hi') : Kept lo' hi' w w' :=
  ⟨h.os, h.tape, h.output, h.size, fun k hk ho => h.block k hk (by omega)⟩
theorem Kept.of_below {lo hi : Nat} {w w' : World} (h : Below w.heap.size w w') : Kept lo hi w w' :=
  ⟨h.os, h.tape, h.output, h.size, fun k hk _ => h.block k hk⟩
theorem Kept.below {lo hi B : Nat} {w w' : World} (h : Kept lo hi w w') (hB : B ≤ lo) (hs : B ≤ w.heap.size) : Below B w w' :=
  ⟨h.os, h.tape, h.output, h.size, fun k hk => h.block k (by omega) (.inl (by omega))⟩
theorem Kept.setCell {lo hi : Nat} {a w : World} (h : Kept lo hi a w) {p : Addr} (h1 : lo ≤ p.block) (h2 : p.block < hi) (u : Value) : Kept lo hi a (w.setCell p u) :=
  h.trans ⟨rfl, rfl, rfl, by simp [World.setCell], fun k _ ho => Below.heap_setCell _ _ _ _ (by omega)⟩
theorem Kept.then_below {lo hi : Nat} {a b c : World} (h : Kept lo hi a b) (k : Below b.heap.size b c) : Kept lo hi a c := h.trans (Kept.of_below k)
theorem Kept.andB {lo hi : Nat} {a b c : World} (h : Kept lo hi a b) (k : Below a.heap.size b c) : Kept lo hi a c :=
  ⟨k.os.trans h.os, k.tape.trans h.tape, k.output.trans h.output, Nat.le_trans h.size k.size, fun i hi' ho => (k.block i hi').trans (h.block i hi' ho)⟩
theorem Kept.drew {lo hi : Nat} {a w : World} (h : Kept lo hi a w) (n : Nat) : Kept lo hi a (w.drewN n) := ⟨h.os, h.tape, h.output, h.size, h.block⟩

/-- v is a row of values in a block of its own between lo and hi, and reads as xs. -/
def OwnV (e : TypeId) (lo hi : Nat) (w : World) (v : Value) (xs : List Value) : Prop :=
  (xs = [] ∧ v = .slice none 0 0) ∨ ∃ (g cap : Nat) (cur : Array Value), v = .slice (some ⟨g, 0, none⟩) xs.length cap ∧ lo ≤ g ∧ g < hi ∧ w.heap[g]? = some (.cells cur e (0, 0)) ∧ xs.length ≤ cap ∧ cap ≤ maxLen ∧ cur.size = cap ∧ cur.toList.take xs.length = xs

theorem lt_of_heap {w : World} {g : Nat} {o : Obj} (h : w.heap[g]? = some o) : g < w.heap.size := by
  by_cases hh : g < w.heap.size
  · exact hh
  · rw [Array.getElem?_eq_none (by omega)] at h; cases h
theorem OwnV.of_owns {e : TypeId} {base : Nat} {w : World} {v : Value} {n : Nat} {xs : List Value} (h : w.ownsRow base e 1 v n xs) : OwnV e base w.heap.size w v xs := by
  obtain ⟨hl, h⟩ := h
  rw [Nat.mul_one] at hl
  subst hl
  rcases h with ⟨rfl, h0⟩ | ⟨g, cap, cur, rfl, hg, hb, hn, hm, hs, ht⟩
  · exact .inl ⟨by simpa using h0, rfl⟩
  · exact .inr ⟨g, cap, cur, rfl, hg, lt_of_heap hb, hb, hn, hm, by simpa using hs, by simpa using ht⟩
theorem OwnV.owns {e : TypeId} {lo hi : Nat} {w : World} {v : Value} {xs : List Value} (h : OwnV e lo hi w v xs) : w.ownsRow lo e 1 v xs.length xs := by
  rcases h with ⟨rfl, rfl⟩ | ⟨g, cap, cur, rfl, h1, h2, hb, hn, hm, hs, ht⟩
  · exact ⟨rfl, .inl ⟨rfl, rfl⟩⟩
  · exact ⟨by simp, .inr ⟨g, cap, cur, rfl, h1, hb, hn, hm, by simpa using hs, by simpa using ht⟩⟩
theorem OwnV.sl {e : TypeId} {lo hi : Nat} {w : World} {v : Value} {xs : List Value} (h : OwnV e lo hi w v xs) : Sl w v xs := Sl.of_owns h.owns
theorem OwnV.kept {e : TypeId} {lo hi a b : Nat} {w w' : World} {v : Value} {xs : List Value} (h : OwnV e lo hi w v xs) (hk : Kept a b w w') (hd : hi ≤ a ∨ b ≤ lo) : OwnV e lo hi w' v xs := by
  rcases h with h | ⟨g, cap, cur, rfl, h1, h2, hb, hr⟩
  · exact .inl h
  · exact .inr ⟨g, cap, cur, rfl, h1, h2, by rw [hk.block g (lt_of_heap hb) (by omega)]; exact hb, hr⟩
theorem OwnV.below {e : TypeId} {lo hi : Nat} {w w' : World} {v : Value} {xs : List Value} (h : OwnV e lo hi w v xs) (hb : Below w.heap.size w w') : OwnV e lo hi w' v xs :=
  h.kept (Kept.of_below (lo := hi) (hi := hi) hb) (.inl (Nat.le_refl _))
theorem OwnV.mono {e : TypeId} {lo hi lo' hi' : Nat} {w : World} {v : Value} {xs : List Value} (h : OwnV e lo hi w v xs) (h1 : lo' ≤ lo) (h2 : hi ≤ hi') : OwnV e lo' hi' w v xs := by
  rcases h with h | ⟨g, cap, cur, rfl, h3, h4, hb, hr⟩
  · exact .inl h
  · exact .inr ⟨g, cap, cur, rfl, by omega, by omega, hb, hr⟩
theorem OwnV.form {e : TypeId} {lo hi : Nat} {w : World} {v : Value} {xs : List Value} (h : OwnV e lo hi w v xs) (hn : 0 < xs.length) : ∃ g cap : Nat, v = .slice (some ⟨g, 0, none⟩) xs.length cap ∧ lo ≤ g ∧ g < hi := by
  rcases h with ⟨rfl, _⟩ | ⟨g, cap, cur, h1, h2, h3, _⟩
  · simp at hn
  · exact ⟨g, cap, h1, h2, h3⟩
theorem OwnV.nil {e : TypeId} {lo hi : Nat} {w : World} : OwnV e lo hi w (.slice none 0 0) [] := .inl ⟨rfl, rfl⟩
theorem OwnV.len {e : TypeId} {lo hi : Nat} {w : World} {v : Value} {xs : List Value} (h : OwnV e lo hi w v xs) : xs.length ≤ maxLen := h.sl.len
theorem Sl.nil {w : World} : Sl w (.slice none 0 0) [] := .inl ⟨rfl, none, 0, rfl⟩
/-- What was there when the call began still reads so behind a step that changes newer blocks alone. -/
theorem Sl.since {W W' : World} {v : Value} {xs : List Value} {B : Nat} (h : Sl W v xs) (hb : Below B W W') (hB : W.heap.size ≤ B) : Sl W' v xs := h.below (hb.mono hB)
/-- The blocks from lo to hi (hi not among them) are as they were. -/
def Mid (lo hi : Nat) (w w' : World) : Prop := ∀ j, lo ≤ j → j < hi → w'.heap[j]? = w.heap[j]?
theorem Mid.refl (lo hi : Nat) (w : World) : Mid lo hi w w := fun _ _ _ => rfl
theorem Mid.trans {lo hi : Nat} {a b c : World} (h : Mid lo hi a b) (k : Mid lo hi b c) : Mid lo hi a c := fun j h1 h2 => (k j h1 h2).trans (h j h1 h2)
theorem Mid.of_below {lo hi B : Nat} {a b : World} (h : Below B a b) (hB : hi ≤ B) : Mid lo hi a b := fun j _ h2 => h.block j (by omega)
theorem Mid.grown {lo hi : Nat} {a b : World} {r : Option Nat} (h : a.grownBy b r) (hs : hi ≤ a.heap.size) (hr : ∀ g, r = some g → g < lo ∨ hi ≤ g) : Mid lo hi a b := fun j h1 h2 => h.block j (by omega) (fun e => by have := hr j e.symm; omega)
theorem OwnV.mid {e : TypeId} {lo hi : Nat} {w w' : World} {v : Value} {xs : List Value} (h : OwnV e lo hi w v xs) (hm : Mid lo hi w w') : OwnV e lo hi w' v xs := by
  rcases h with h | ⟨g, cap, cur, rfl, h1, h2, hb, hr⟩
  · exact .inl h
  · exact .inr ⟨g, cap, cur, rfl, h1, h2, by rw [hm g h1 h2]; exact hb, hr⟩
end Go.Proofs.YtflkalgofkpdbaaDoor
/- Plain facts on lists of integers: vectors. -/
namespace Go.Proofs.YtflkalgofkpdbaaDoor

/-- Whether x lies from lo to hi. -/
def inR (x lo hi : Int) : Bool := decide (lo ≤ x ∧ x ≤ hi)
theorem inR_t {x lo hi : Int} (h : inR x lo hi = true) : lo ≤ x ∧ x ≤ hi := by simpa [inR] using h
theorem inR_mk {x lo hi : Int} (h1 : lo ≤ x) (h2 : x ≤ hi) : inR x lo hi = true := by simp [inR, h1, h2]
theorem inR_f {x lo hi : Int} (h : ¬ (lo ≤ x ∧ x ≤ hi)) : inR x lo hi = false := by simp only [inR, decide_eq_false_iff_not]; exact h
def small (v : List Int) (n : Int) : Bool := v.all fun x => inR x (-n) n
theorem small_take {v : List Int} {n : Int} {k : Nat} (h : k < v.length) (h1 : small (v.take k) n = true) (h2 : inR v[k] (-n) n = true) : small (v.take (k + 1)) n = true := by
  rw [List.take_succ_eq_append_getElem h]
  unfold small at *
  rw [List.all_append, h1, List.all_cons, h2]; rfl
theorem small_not {v : List Int} {n : Int} {k : Nat} (h : k < v.length) (h2 : inR v[k] (-n) n = false) : small v n = false := by
  unfold small
  rw [List.all_eq_false]
  exact ⟨v[k], List.getElem_mem h, by simp [h2]⟩
theorem small_get {v : List Int} {n : Int} (h : small v n = true) (k : Nat) (hk : k < v.length) : -n ≤ v[k] ∧ v[k] ≤ n := by
  unfold small at h
  rw [List.all_eq_true] at h
  exact inR_t (h _ (List.getElem_mem hk))
def isV (v : List Int) : Bool := inR v.length 1 3 && small v 1000
theorem isV_t {v : List Int} (h : isV v = true) : 1 ≤ v.length ∧ v.length ≤ 3 ∧ small v 1000 = true := by
  unfold isV at h
  rw [Bool.and_eq_true] at h
  have := inR_t h.1
  exact ⟨by omega, by omega, h.2⟩
theorem isV_mk {v : List Int} (h1 : 1 ≤ v.length) (h2 : v.length ≤ 3) : isV v = small v 1000 := by
  unfold isV
  rw [inR_mk (by omega) (by omega)]; rfl
theorem isV_len {v : List Int} (h : ¬ (1 ≤ v.length ∧ v.length ≤ 3)) : isV v = false := by
  unfold isV
  rw [inR_f (by omega)]; rfl
/-- All numbers lie from -n to n. -/
def Bd (v : List Int) (n : Int) : Prop := ∀ (k : Nat) (h : k < v.length), -n ≤ v[k] ∧ v[k] ≤ n
theorem small_bd {v : List Int} {n : Int} (h : small v n = true) : Bd v n := fun k hk => small_get h k hk

def addL (a b : List Int) : List Int := List.zipWith (fun x y => x + y) a b
def lessL (a b : List Int) : List Int := List.zipWith (fun x y => x - y) a b
def scaleL (v : List Int) (n : Int) : List Int := v.map (fun x => x * n)
def dotL (a b : List Int) : Int := (List.zipWith (fun x y => x * y) a b).sum
theorem zip_take {f : Int → Int → Int} {a b : List Int} {k : Nat} (h : k < a.length) (h' : k < b.length) :
    List.zipWith f (a.take (k + 1)) (b.take (k + 1)) = List.zipWith f (a.take k) (b.take k) ++ [f a[k] b[k]] := by
  rw [List.take_succ_eq_append_getElem h, List.take_succ_eq_append_getElem h', List.zipWith_append (by simp; omega)]; rfl
theorem zip_take_len {f : Int → Int → Int} {a b : List Int} {k : Nat} (h : k ≤ a.length) (h' : k ≤ b.length) : (List.zipWith f (a.take k) (b.take k)).length = k := by simp; omega
theorem dot_take {a b : List Int} {k : Nat} (h : k < a.length) (h' : k < b.length) : dotL (a.take (k + 1)) (b.take (k + 1)) = dotL (a.take k) (b.take k) + a[k] * b[k] := by
  unfold dotL
  rw [zip_take h h', List.sum_append]; simp
theorem map_take {f : Int → Int} {v : List Int} {k : Nat} (h : k < v.length) : (v.take (k + 1)).map f = (v.take k).map f ++ [f v[k]] := by
  rw [List.take_succ_eq_append_getElem h, List.map_append]; rfl
theorem mul_bd {x y m n : Int} (h1 : -m ≤ x) (h2 : x ≤ m) (h3 : -n ≤ y) (h4 : y ≤ n) : -(m * n) ≤ x * y ∧ x * y ≤ m * n := by
  have hm : 0 ≤ m := by omega
  have hn : 0 ≤ n := by omega
  have a1 : 0 ≤ (m - x) * (n - y) := Int.mul_nonneg (by omega) (by omega)
  have a2 : 0 ≤ (m + x) * (n + y) := Int.mul_nonneg (by omega) (by omega)
  have a3 : 0 ≤ (m - x) * (n + y) := Int.mul_nonneg (by omega) (by omega)
  have a4 : 0 ≤ (m + x) * (n - y) := Int.mul_nonneg (by omega) (by omega)
  simp only [Int.sub_mul, Int.add_mul, Int.mul_sub, Int.mul_add] at a1 a2 a3 a4
  have c1 : m * y = y * m := Int.mul_comm _ _
  have c2 : x * n = n * x := Int.mul_comm _ _
  omega
theorem dot_bd {a b : List Int} {m n : Int} (_hm : 0 ≤ m * n) (ha : Bd a m) (hb : Bd b n) : ∀ k, k ≤ a.length → k ≤ b.length → -(k * (m * n)) ≤ dotL (a.take k) (b.take k) ∧ dotL (a.take k) (b.take k) ≤ k * (m * n) := by
  intro k
  induction k with
  | zero => intro _ _; simp [dotL]
  | succ k ih =>
    intro h1 h2
    have := ih (by omega) (by omega)
    have p := mul_bd (ha k (by omega)).1 (ha k (by omega)).2 (hb k (by omega)).1 (hb k (by omega)).2
    rw [dot_take (by omega) (by omega)]
    have e : ((k + 1 : Nat) : Int) * (m * n) = k * (m * n) + m * n := by rw [Int.natCast_add, Int.add_mul]; simp
    omega

def gcdI (a b : Int) : Int := (Int.gcd a b : Int)
theorem gcdI_nonneg (a b : Int) : 0 ≤ gcdI a b := by unfold gcdI; omega
theorem gcdI_zero (a : Int) (h : 0 ≤ a) : gcdI a 0 = a := by unfold gcdI; rw [Int.gcd_zero_right]; omega
theorem gcdI_tmod (a b : Int) : gcdI b (a.tmod b) = gcdI a b := by
  unfold gcdI
  congr 1
  show Nat.gcd b.natAbs (a.tmod b).natAbs = Nat.gcd a.natAbs b.natAbs
  rw [Int.natAbs_tmod, Nat.gcd_comm a.natAbs, Nat.gcd_rec b.natAbs a.natAbs, Nat.gcd_comm]
theorem gcdI_step (a b : Int) (h : 0 ≤ a) : gcdI b (a % b) = gcdI a b := by
  rw [← gcdI_tmod a b, Int.tmod_eq_emod_of_nonneg h]
theorem gcdI_abs (a b : Int) : gcdI (a.natAbs : Int) (b.natAbs : Int) = gcdI a b := by
  unfold gcdI; simp [Int.gcd]
def allG (v : List Int) : Int := v.foldl gcdI 0
theorem allG_take {v : List Int} {k : Nat} (h : k < v.length) : allG (v.take (k + 1)) = gcdI (allG (v.take k)) v[k] := by
  unfold allG
  rw [List.take_succ_eq_append_getElem h, List.foldl_append]; rfl
theorem allG_nonneg (v : List Int) : 0 ≤ allG v := by
  have key : ∀ (v : List Int) (g : Int), 0 ≤ g → 0 ≤ v.foldl gcdI g := by
    intro v
    induction v with
    | nil => intro g h; exact h
    | cons x r ih => intro g _; exact ih _ (gcdI_nonneg _ _)
  exact key v 0 (Int.le_refl _)
def primL (v : List Int) : List Int := v.map (fun x => x.tdiv (max (allG v) 1))
def beforeL : List Int → List Int → Bool
  | a :: as, b :: bs => if a = b then beforeL as bs else decide (a < b)
  | _, _ => false
theorem before_at {a b : List Int} {k : Nat} (h : k < a.length) (h' : k < b.length) (ht : a.take k = b.take k) (hne : a[k] ≠ b[k]) : beforeL a b = decide (a[k] < b[k]) := by
  induction k generalizing a b with
  | zero =>
    cases a with
    | nil => simp at h
    | cons x r =>
      cases b with
      | nil => simp at h'
      | cons y s => simp only [List.getElem_cons_zero] at *; simp [beforeL, hne]
  | succ k ih =>
    cases a with
    | nil => simp at h
    | cons x r =>
      cases b with
      | nil => simp at h'
      | cons y s =>
        simp only [List.take_succ_cons, List.cons.injEq] at ht
        simp only [List.getElem_cons_succ] at *
        obtain ⟨rfl, ht⟩ := ht
        rw [beforeL, if_pos rfl]
        exact ih (by simpa using h) (by simpa using h') ht hne
theorem before_end {a b : List Int} (ht : a.take (min a.length b.length) = b.take (min a.length b.length)) : beforeL a b = false := by
  induction a generalizing b with
  | nil => simp [beforeL]
  | cons x r ih =>
    cases b with
    | nil => simp [beforeL]
    | cons y s =>
      simp only [List.length_cons, Nat.add_min_add_right, List.take_succ_cons, List.cons.injEq] at ht
      rw [beforeL, if_pos ht.1]
      exact ih ht.2

/-- What the functions of this chapter answer. -/
def addR (a b : List Int) : List Int × Bool := if isV a = true ∧ isV b = true ∧ a.length = b.length ∧ isV (addL a b) = true then (addL a b, true) else ([], false)
def scaleR (v : List Int) (k : Int) : List Int × Bool := if isV v = true ∧ inR k (-1000) 1000 = true ∧ isV (scaleL v k) = true then (scaleL v k, true) else ([], false)
def dotR (a b : List Int) : Int := if isV a = true ∧ isV b = true ∧ a.length = b.length then dotL a b else 0
def gcdR (v : List Int) : Int := if isV v = true then allG v else -1
def primR (v : List Int) : List Int × Bool := if isV v = true ∧ 0 < allG v then (primL v, true) else ([], false)
def beforeR (a b : List Int) : Bool := if isV a = true ∧ isV b = true ∧ a.length = b.length then beforeL a b else false
theorem addR_len (a b : List Int) : (addR a b).1.length ≤ 3 := by
  unfold addR
  split
  · rename_i h; exact (isV_t h.2.2.2).2.1
  · simp
theorem scaleR_len (v : List Int) (k : Int) : (scaleR v k).1.length ≤ 3 := by
  unfold scaleR
  split
  · rename_i h; exact (isV_t h.2.2).2.1
  · simp
theorem primR_len (v : List Int) : (primR v).1.length ≤ 3 := by
  unfold primR
  split
  · rename_i h; have := (isV_t h.1).2.1; simpa [primL] using this
  · simp
end Go.Proofs.YtflkalgofkpdbaaDoor
/- The model's vectors, the loops over one list. -/
namespace Go.Proofs.YtflkalgofkpdbaaDoor
open Go.RowKit Go.Lib

theorem owns_none {w : World} {base : Nat} {e : TypeId} (hb : base ≤ w.heap.size) : (w.alloc (.cells #[] e)).ownsRow base e 1 (.slice (some ⟨w.heap.size, 0, none⟩) 0 0) 0 [] :=
  ⟨rfl, .inr ⟨w.heap.size, 0, #[], rfl, hb, heap_alloc_new w _, Nat.le_refl _, by unfold maxLen; omega, rfl, rfl⟩⟩
theorem info_int' : (Tryd.prog.info? 3).map (fun i => (i.zero, i.size, i.bytes)) = some (some (.int .i64 0), 1, 8) := by kernel_rfl
/-- What a function that only reads leaves. -/
def Quiet (w : World) (r : Value) (e : Ending) (w' : World) : Prop := e = .returned r ∧ Below w.heap.size w w'
theorem Quiet.cast {w : World} {r r' : Value} {e : Ending} {w' : World} (h : Quiet w r e w') (hr : r = r') : Quiet w r' e w' := by subst hr; exact h

set_option maxRecDepth 100000 in
theorem s_in (x lo hi : Int) (w : World) : Calls Tryd.prog 34 #[.int .i64 x, .int .i64 lo, .int .i64 hi] w fun e w' => e = .returned (.bool (inR x lo hi)) ∧ w = w' := by
  by_cases h1 : lo ≤ x
  · by_cases h2 : x ≤ hi
    · have h := Lib.hid (inR_mk h1 h2)
      go_enter Tryd.func34, Tryd.ntmps34
      go_wp2
      go_ret
      exact ⟨ret_bool h.out.symm, rfl⟩
    · have h := Lib.hid (inR_f (x := x) (lo := lo) (hi := hi) (fun h => h2 h.2))
      go_enter Tryd.func34, Tryd.ntmps34
      go_wp2
      go_ret
      exact ⟨ret_bool h.out.symm, rfl⟩
  · have h := Lib.hid (inR_f (x := x) (lo := lo) (hi := hi) (fun h => h1 h.1))
    go_enter Tryd.func34, Tryd.ntmps34
    go_wp2
    go_ret
    exact ⟨ret_bool h.out.symm, rfl⟩

set_option maxRecDepth 100000 in
set_option maxHeartbeats 400000 in
theorem s_small (v : List Int) (n : Int) (hn0 : 0 ≤ n) (hn : n ≤ 4611686018427387904) (a : Value) (w : World) (hv : Sl w a (intVals v)) :
    Calls Tryd.prog 52 #[a, .int .i64 n] w (Quiet w (.bool (small v n))) := by
  obtain ⟨a, c, rfl, hm, hopen⟩ := hv.shape
  rw [intVals_len] at hm hopen ⊢
  unfold maxLen at hm
  have HO := Lib.hid hopen
  clear hopen hv
  go_enter Tryd.func52, Tryd.ntmps52
  go_wp2
  go_loopw [5] (fun i wr => ∃ k : Nat, k ≤ v.length ∧ i = .int .i64 k ∧ small (v.take k) n = true ∧ Below w.heap.size w wr) (fun i _ => v.length - (RowKit.intOf i).toNat)
  case atStart => exact ⟨0, Nat.zero_le _, rfl, rfl, Below.refl _ _⟩
  case round =>
    obtain ⟨k, hk, rfl, ht, hbr⟩ := hrel
    have HB := Lib.hid hbr
    have HT := Lib.hid ht
    clear ht
    by_cases hlt : k < v.length
    · obtain ⟨b, off, rfl, hc, hlt2, hx⟩ := HO.out (by omega)
      have hcell := hx k _ (intVals_get v k hlt)
      rw [← hbr.cell (p := ⟨b, off + k, none⟩) hlt2] at hcell
      clear hx hbr
      by_cases hin : inR v[k] (-n) n = true
      · have HI := Lib.hid hin
        clear hin
        go_wp2_with fail
        refine (s_in _ _ _ _).mono ?_
        rintro e w1 ⟨rfl, rfl⟩
        rw [HI.out]
        go_wp2_with fail
        exact ⟨⟨k + 1, by omega, by go_num, small_take hlt HT.out HI.out, HB.out⟩, by simp [RowKit.intOf]; omega⟩
      · have HI := Lib.hid (Bool.not_eq_true _ ▸ hin)
        clear hin
        go_wp2_with fail
        refine (s_in _ _ _ _).mono ?_
        rintro e w1 ⟨rfl, rfl⟩
        rw [HI.out]
        go_wp2_with fail
        go_ret
        exact ⟨ret_bool (small_not hlt HI.out).symm, HB.out⟩
    · obtain rfl : k = v.length := by omega
      clear hbr
      go_wp2
      go_ret
      exact ⟨ret_bool (by rw [← HT.out, List.take_length]), HB.out⟩

set_option maxRecDepth 100000 in
set_option maxHeartbeats 400000 in
theorem s_isv (v : List Int) (a : Value) (w : World) (hv : Sl w a (intVals v)) :
    Calls Tryd.prog 43 #[a] w (Quiet w (.bool (isV v))) := by
  have HV := Lib.hid hv
  obtain ⟨a, c, rfl, hm, _⟩ := hv.shape
  rw [intVals_len] at hm HV ⊢
  unfold maxLen at hm
  clear hv
  by_cases hl : 1 ≤ v.length ∧ v.length ≤ 3
  · have HE := Lib.hid (isV_mk hl.1 hl.2)
    have HI := Lib.hid (show inR (v.length : Int) 1 3 = true from inR_mk (by omega) (by omega))
    clear hl
    go_enter Tryd.func43, Tryd.ntmps43
    go_wp2_with fail
    refine (s_in _ _ _ _).mono ?_
    rintro e w1 ⟨rfl, rfl⟩
    rw [HI.out]
    go_wp2_with fail
    refine (s_small v 1000 (by omega) (by omega) _ _ HV.out).mono ?_
    rintro e w1 ⟨rfl, hb⟩
    go_wp2_with fail
    go_ret
    exact ⟨ret_bool HE.out.symm, hb⟩
  · have HE := Lib.hid (isV_len hl)
    have HI := Lib.hid (show inR (v.length : Int) 1 3 = false from inR_f (by omega))
    clear hl
    go_enter Tryd.func43, Tryd.ntmps43
    go_wp2_with fail
    refine (s_in _ _ _ _).mono ?_
    rintro e w1 ⟨rfl, rfl⟩
    rw [HI.out]
    go_wp2_with fail
    go_ret
    exact ⟨ret_bool HE.out.symm, Below.refl _ _⟩

/-- What a function that makes a list of its own leaves. -/
def Made (w : World) (xs : List Int) (e : Ending) (w' : World) : Prop := (∃ v, e = .returned v ∧ OwnV 3 w.heap.size w'.heap.size w' v (intVals xs)) ∧ Below w.heap.size w w'

/-- append(out, x) at a step of a region that draws its order. -/
theorem step_app_int {ops : Array Oper} {o : Oper} {a : Act} {w : World} {K : Act → World → Prop} {Q : Exit → Act → World → Prop} {E : Prop} (hgd : o.guard = none) (s x : Operand)
    (ho : o.op = .call { callee := .builtin .append, args := #[s, x], argTypes := #[41, 41] })
    (base : Nat) (v : Value) (n : Nat) (xs : List Int) (z : Int) (hs : a.eval s = v) (hown : w.ownsRow base 3 1 v n (intVals xs))
    (H : Nat) (hx : a.eval x = .slice (some ⟨H, 0, none⟩) 1 1) (hnew : w.heap[H]? = some (.cells #[.int .i64 z] 3 (0, 0)))
    (hn : n ≤ 1099511627776) (hbase : base ≤ w.heap.size)
    (h : ∀ v' w', w'.ownsRow base 3 1 v' (n + 1) (intVals (xs ++ [z])) → Below base w w' → K (a.put o.dst v') w') :
    if Region.wanted o (yielded ops a.tmps) = true then Oper.wp Tryd.prog o a w K Q else E := by
  obtain ⟨i0, hi, hz0, hz1, hz2⟩ := info_parts info_int'
  refine step_append_lies (Q := Q) (E := E) w hgd s x 41 ho base 3 i0 _ 1 8 Tryd.underlying41 hi hz0 hz1 hz2 rfl (by omega) v n _ hs hown ⟨H, 0, none⟩ 1 1 [.int .i64 z] hx rfl (World.news_of_block (cs := #[.int .i64 z]) hnew) (by simp [Value.oneCell']) (by omega) (by unfold maxLen; omega) (by omega) hbase w.heap.size rfl ?_
  intro g cap w' h1 h2 h3 h4
  refine h _ w' (by simpa [intVals] using h1) ((Below.refl base w).grown h2 hbase ?_)
  intro k hk
  exact (hown.lt k hk).1

/-- append(out, x) at a plain list of operations; where the new row lies. -/
theorem list_app_int2 {ops : Array Oper} {rest : List Oper} {o : Oper} {a : Act} {w : World} {Q : Exit → Act → World → Prop} (hgd : o.guard = none) (s x : Operand)
    (ho : o.op = .call { callee := .builtin .append, args := #[s, x], argTypes := #[41, 41] })
    (base : Nat) (v : Value) (n : Nat) (xs : List Int) (z : Int) (hs : a.eval s = v) (hown : w.ownsRow base 3 1 v n (intVals xs))
    (H : Nat) (hx : a.eval x = .slice (some ⟨H, 0, none⟩) 1 1) (hnew : w.heap[H]? = some (.cells #[.int .i64 z] 3 (0, 0)))
    (hn : n ≤ 1099511627776) (hbase : base ≤ w.heap.size)
    (h : ∀ g cap w', w'.ownsRow base 3 1 (.slice (some ⟨g, 0, none⟩) (n + 1) cap) (n + 1) (intVals (xs ++ [z])) → w.grownBy w' v.ownBlock → (v.ownBlock = some g ∨ g = w.heap.size) → wpList Tryd.prog ops Q rest (a.put o.dst (.slice (some ⟨g, 0, none⟩) (n + 1) cap)) w') :
    wpList Tryd.prog ops Q (o :: rest) a w := by
  obtain ⟨i0, hi, hz0, hz1, hz2⟩ := info_parts info_int'
  refine wpList_append_lies w hgd s x 41 ho base 3 i0 _ 1 8 Tryd.underlying41 hi hz0 hz1 hz2 rfl (by omega) v n _ hs hown ⟨H, 0, none⟩ 1 1 [.int .i64 z] hx rfl (World.news_of_block (cs := #[.int .i64 z]) hnew) (by simp [Value.oneCell']) (by omega) (by unfold maxLen; omega) (by omega) hbase w.heap.size rfl ?_
  intro g cap w' h1 h2 h3 h4
  exact h g cap w' (by simpa [intVals] using h1) h2 h3

/-- append(out, x) at a plain list of operations. -/
theorem list_app_int {ops : Array Oper} {rest : List Oper} {o : Oper} {a : Act} {w : World} {Q : Exit → Act → World → Prop} (hgd : o.guard = none) (s x : Operand)
    (ho : o.op = .call { callee := .builtin .append, args := #[s, x], argTypes := #[41, 41] })
    (base : Nat) (v : Value) (n : Nat) (xs : List Int) (z : Int) (hs : a.eval s = v) (hown : w.ownsRow base 3 1 v n (intVals xs))
    (H : Nat) (hx : a.eval x = .slice (some ⟨H, 0, none⟩) 1 1) (hnew : w.heap[H]? = some (.cells #[.int .i64 z] 3 (0, 0)))
    (hn : n ≤ 1099511627776) (hbase : base ≤ w.heap.size)
    (h : ∀ v' w', w'.ownsRow base 3 1 v' (n + 1) (intVals (xs ++ [z])) → Below base w w' → wpList Tryd.prog ops Q rest (a.put o.dst v') w') :
    wpList Tryd.prog ops Q (o :: rest) a w := by
  obtain ⟨i0, hi, hz0, hz1, hz2⟩ := info_parts info_int'
  refine wpList_append_lies w hgd s x 41 ho base 3 i0 _ 1 8 Tryd.underlying41 hi hz0 hz1 hz2 rfl (by omega) v n _ hs hown ⟨H, 0, none⟩ 1 1 [.int .i64 z] hx rfl (World.news_of_block (cs := #[.int .i64 z]) hnew) (by simp [Value.oneCell']) (by omega) (by unfold maxLen; omega) (by omega) hbase w.heap.size rfl ?_
  intro g cap w' h1 h2 h3 h4
  refine h _ w' (by simpa [intVals] using h1) ((Below.refl base w).grown h2 hbase ?_)
  intro k hk
  exact (hown.lt k hk).1

theorem Sl.addr {w : World} {ad : Addr} {n c : Nat} {xs : List Value} (h : Sl w (.slice (some ad) n c) xs) : xs.length = n ∧ ∀ (j : Nat) u, xs[j]? = some u → w.cell? (ad.add j) = some u := by
  obtain ⟨a, c', e, _, ho⟩ := h.shape
  simp only [Value.slice.injEq] at e
  obtain ⟨rfl, rfl, rfl⟩ := e
  refine ⟨rfl, fun j u hj => ?_⟩
  have hlt : j < xs.length := by
    by_cases hh : j < xs.length
    · exact hh
    · rw [List.getElem?_eq_none (by omega)] at hj; cases hj
  obtain ⟨b, off, e2, _, _, hx⟩ := ho (by omega)
  simp only [Option.some.injEq] at e2
  subst e2
  have h0 : (⟨b, off, none⟩ : Addr).add j = ⟨b, off + j, none⟩ := by unfold Addr.add; split <;> simp_all
  rw [h0]
  exact hx j u hj
/-- append(out, ys...) at a plain list of operations: the source a row of its own, nil or not. -/
theorem list_app_ints {ops : Array Oper} {rest : List Oper} {o : Oper} {a : Act} {w : World} {Q : Exit → Act → World → Prop} (hgd : o.guard = none) (s x : Operand)
    (ho : o.op = .call { callee := .builtin .append, args := #[s, x], argTypes := #[41, 41] })
    (base : Nat) (v : Value) (n : Nat) (xs ys : List Int) (u : Value) (lb ub : Nat) (hs : a.eval s = v) (hown : w.ownsRow base 3 1 v n (intVals xs))
    (hx : a.eval x = u) (hu : OwnV 3 lb ub w u (intVals ys))
    (hn : n + ys.length ≤ 1099511627776) (hbase : base ≤ w.heap.size)
    (h : ∀ v' w', w'.ownsRow base 3 1 v' (n + ys.length) (intVals (xs ++ ys)) → Below base w w' → wpList Tryd.prog ops Q rest (a.put o.dst v') w') :
    wpList Tryd.prog ops Q (o :: rest) a w := by
  obtain ⟨i0, hi, hz0, hz1, hz2⟩ := info_parts info_int'
  have happ : intVals (xs ++ ys) = intVals xs ++ intVals ys := by simp [intVals]
  rcases hu with ⟨h0, rfl⟩ | ⟨g, cap, cur, rfl, h1, h2, hr⟩
  · have h0 : ys = [] := by simpa [intVals] using h0
    subst h0
    exact wpList_append_own_none hgd s x 41 ho base 3 i0 1 Tryd.underlying41 hi v n _ hs hown hx (h v w (by simpa using hown) (Below.refl _ _))
  · have hu' : OwnV 3 lb ub w (.slice (some ⟨g, 0, none⟩) (intVals ys).length cap) (intVals ys) := .inr ⟨g, cap, cur, rfl, h1, h2, hr⟩
    have hsl := hu'.sl
    rw [intVals_len] at hx hsl
    obtain ⟨hl, hc⟩ := hsl.addr
    refine wpList_append_own w hgd s x 41 ho base 3 i0 _ 1 8 Tryd.underlying41 hi hz0 hz1 hz2 rfl (by omega) v n _ hs hown ⟨g, 0, none⟩ ys.length cap (intVals ys) hx (by rw [hl, Nat.mul_one]) hc (by intro q hq; obtain ⟨z, _, rfl⟩ := List.mem_map.1 hq; rfl) (by unfold maxLen; omega) (by omega) hbase ?_
    intro v' w' h1 h2 _
    refine h v' w' (by rw [happ]; exact h1) ((Below.refl base w).grown h2 hbase ?_)
    intro k hk
    exact (hown.lt k hk).1

set_option maxRecDepth 100000 in
theorem s_max (x y : Int) (w : World) : Calls Tryd.prog 95 #[.int .i64 x, .int .i64 y] w fun e w' => e = .returned (.int .i64 (max x y)) ∧ w = w' := by
  by_cases h : y < x
  · have e := Lib.hid (show max x y = x by omega)
    go_enter Tryd.func95, Tryd.ntmps95
    go_wp2
    go_ret
    exact ⟨ret_int e.out.symm, rfl⟩
  · have e := Lib.hid (show max x y = y by omega)
    go_enter Tryd.func95, Tryd.ntmps95
    go_wp2
    go_ret
    exact ⟨ret_int e.out.symm, rfl⟩
set_option maxRecDepth 100000 in
theorem s_abs (x : Int) (h1 : -9223372036854775807 ≤ x) (h2 : x ≤ 9223372036854775807) (w : World) : Calls Tryd.prog 79 #[.int .i64 x] w fun e w' => e = .returned (.int .i64 (x.natAbs : Int)) ∧ w = w' := by
  have e := Lib.hid (show max x (-x) = (x.natAbs : Int) by omega)
  go_enter Tryd.func79, Tryd.ntmps79
  go_wp2_with fail
  refine (s_max _ _ _).mono ?_
  rintro e w1 ⟨rfl, rfl⟩
  go_wp2_with fail
  go_ret
  exact ⟨ret_int e.out, rfl⟩

set_option maxRecDepth 100000 in
set_option maxHeartbeats 400000 in
theorem s_gcd (x y : Int) (h1 : -4611686018427387904 ≤ x) (h2 : x ≤ 4611686018427387904) (h3 : -4611686018427387904 ≤ y) (h4 : y ≤ 4611686018427387904) (w : World) :
    Calls Tryd.prog 68 #[.int .i64 x, .int .i64 y] w (Quiet w (.int .i64 (gcdI x y))) := by
  go_enter Tryd.func68, Tryd.ntmps68
  go_wp2_with fail
  refine (s_abs _ (by omega) (by omega) _).mono ?_
  rintro e w1 ⟨rfl, rfl⟩
  go_wp2_with fail
  refine (s_abs _ (by omega) (by omega) _).mono ?_
  rintro e w1 ⟨rfl, rfl⟩
  go_wp2_with fail
  go_loopw [0, 1] (fun p q wr => ∃ a b : Nat, a ≤ 4611686018427387904 ∧ b ≤ 4611686018427387904 ∧ p = .int .i64 a ∧ q = .int .i64 b ∧ gcdI a b = gcdI x y ∧ Below w.heap.size w wr) (fun _ q _ => (RowKit.intOf q).toNat)
  case atStart => exact ⟨x.natAbs, y.natAbs, by omega, by omega, rfl, rfl, gcdI_abs x y, Below.refl _ _⟩
  case round =>
    obtain ⟨a, b, ha, hb, rfl, rfl, hg, hbr⟩ := hrel
    have HG := Lib.hid hg
    have HB := Lib.hid hbr
    clear hg hbr
    by_cases hz : b = 0
    · subst hz
      go_wp2
      go_ret
      exact ⟨ret_int (by rw [← HG.out]; exact (gcdI_zero _ (by omega)).symm), HB.out⟩
    · have hnz : ((b : Int) != 0) = true := by rw [bne_iff_ne]; omega
      have hpos : (0 : Int) < (b : Int) := by omega
      have HM := Lib.hid (Nat.mod_lt a (show 0 < b by omega))
      have HS := Lib.hid (gcdI_step (a : Int) (b : Int) (by omega))
      go_wp2
      refine ⟨⟨b, a % b, by omega, by have := HM.out; omega, rfl, by simp, by rw [Int.natCast_emod, HS.out, HG.out], HB.out⟩, by have := HM.out; simp [RowKit.intOf]; omega⟩
end Go.Proofs.YtflkalgofkpdbaaDoor
/- The model's vectors: the exported functions. -/
namespace Go.Proofs.YtflkalgofkpdbaaDoor
open Go.RowKit Go.Lib

theorem Sl.get {w : World} {a : Option Addr} {n c : Nat} {v : List Int} (h : Sl w (.slice a n c) (intVals v)) (_k : Nat) (_hk : _k < v.length) : ∃ b off : Nat, a = some ⟨b, off, none⟩ ∧ b < w.heap.size ∧ w.cell? ⟨b, off + _k, none⟩ = some (.int .i64 v[_k]) := by
  obtain ⟨a', c', e, hm, ho⟩ := h.shape
  rw [intVals_len] at ho
  obtain ⟨b, off, e2, _, h2, h3⟩ := ho (by omega)
  simp only [Value.slice.injEq] at e
  exact ⟨b, off, by rw [e.1, e2], h2, h3 _ _ (intVals_get v _k _hk)⟩
theorem allG_bd {v : List Int} {n : Int} (hn : 0 ≤ n) (h : Bd v n) : ∀ k, k ≤ v.length → allG (v.take k) ≤ n := by
  intro k
  induction k with
  | zero => intro _; simpa [allG] using hn
  | succ k ih =>
    intro hk
    rw [allG_take (by omega)]
    have h1 := ih (by omega)
    have h0 := allG_nonneg (v.take k)
    have hb := h k (by omega)
    unfold gcdI
    by_cases hz : v[k] = 0
    · rw [hz, Int.gcd_zero_right]; omega
    · have : Int.gcd (allG (v.take k)) v[k] ≤ v[k].natAbs := Nat.gcd_le_right _ (by omega)
      omega

set_option maxRecDepth 100000 in
set_option maxHeartbeats 400000 in
theorem s_all (v : List Int) (n : Int) (hn0 : 0 ≤ n) (hn : n ≤ 4611686018427387904) (hv' : Bd v n) (a : Value) (w : World) (hv : Sl w a (intVals v)) :
    Calls Tryd.prog 53 #[a] w (Quiet w (.int .i64 (allG v))) := by
  obtain ⟨a, c, rfl, hm, hopen⟩ := hv.shape
  rw [intVals_len] at hm hopen ⊢
  unfold maxLen at hm
  have HO := Lib.hid hopen
  have HV := Lib.hid hv'
  clear hopen hv hv'
  go_enter Tryd.func53, Tryd.ntmps53
  go_wp2
  go_loopw [3, 4] (fun g i wr => ∃ k : Nat, k ≤ v.length ∧ i = .int .i64 k ∧ g = .int .i64 (allG (v.take k)) ∧ Below w.heap.size w wr) (fun _ i _ => v.length - (RowKit.intOf i).toNat)
  case atStart => exact ⟨0, Nat.zero_le _, rfl, rfl, Below.refl _ _⟩
  case round =>
    obtain ⟨k, hk, rfl, rfl, hbr⟩ := hrel
    have HB := Lib.hid hbr
    by_cases hlt : k < v.length
    · obtain ⟨b, off, rfl, hc, hlt2, hx⟩ := HO.out (by omega)
      have hcell := hx k _ (intVals_get v k hlt)
      rw [← hbr.cell (p := ⟨b, off + k, none⟩) hlt2] at hcell
      clear hx hbr
      have g1 := (HV.out k hlt).1
      have g2 := (HV.out k hlt).2
      have g3 := allG_nonneg (v.take k)
      have g4 := allG_bd hn0 HV.out k hk
      have GT := Lib.hid (allG_take hlt)
      go_wp2_with fail
      refine (s_gcd _ _ (by omega) (by omega) (by omega) (by omega) _).mono ?_
      rintro e w1 ⟨rfl, hb1⟩
      have HB1 := Lib.hid (HB.out.trans (hb1.mono HB.out.size))
      clear hb1
      go_wp2_with fail
      exact ⟨⟨k + 1, by omega, by go_num, by rw [GT.out], HB1.out⟩, by simp [RowKit.intOf]; omega⟩
    · obtain rfl : k = v.length := by omega
      clear hbr
      go_wp2
      go_ret
      exact ⟨ret_int (by rw [List.take_length]), HB.out⟩

/-- What a function that answers a list and whether it is there leaves. -/
def Got (w : World) (r : List Int × Bool) (e : Ending) (w' : World) : Prop := (∃ v, e = .returned (.tuple #[v, .bool r.2]) ∧ OwnV 3 w.heap.size w'.heap.size w' v (intVals r.1)) ∧ Below w.heap.size w w'
theorem own_empty {w w0 : World} (hb : w0.heap.size ≤ w.heap.size) : OwnV 3 w0.heap.size (w.alloc (.cells #[] 3)).heap.size (w.alloc (.cells #[] 3)) (.slice (some ⟨w.heap.size, 0, none⟩) 0 0) (intVals []) :=
  OwnV.of_owns (owns_none hb)
theorem bool_f {b : Bool} (h : ¬ b = true) : b = false := by simpa using h

end Go.Proofs.YtflkalgofkpdbaaDoor
/- The program's vectors: arrays of three numbers, copies, the common divisor. -/
namespace Go.Proofs.YtflkalgofkpdbaaDoor
open Go.RowKit Go.Lib

set_option maxRecDepth 100000 in
theorem i_size (x : Int) (w : World) : Calls Tryd.prog 59 #[.int .i64 x] w fun e w' => e = .returned (.bool (inR x (-1000) 1000)) ∧ w = w' := by
  by_cases h1 : -1000 ≤ x
  · by_cases h2 : x ≤ 1000
    · have h := Lib.hid (inR_mk h1 h2)
      go_enter Tryd.func59, Tryd.ntmps59
      go_wp2
      go_ret
      exact ⟨ret_bool h.out.symm, rfl⟩
    · have h := Lib.hid (inR_f (x := x) (lo := -1000) (hi := 1000) (fun h => h2 h.2))
      go_enter Tryd.func59, Tryd.ntmps59
      go_wp2
      go_ret
      exact ⟨ret_bool h.out.symm, rfl⟩
  · have h := Lib.hid (inR_f (x := x) (lo := -1000) (hi := 1000) (fun h => h1 h.1))
    go_enter Tryd.func59, Tryd.ntmps59
    go_wp2
    go_ret
    exact ⟨ret_bool h.out.symm, rfl⟩

set_option maxRecDepth 100000 in
set_option maxHeartbeats 400000 in
theorem i_isv (v : List Int) (a : Value) (w : World) (hv : Sl w a (intVals v)) :
    Calls Tryd.prog 39 #[a] w (Quiet w (.bool (isV v))) := by
  obtain ⟨a, c, rfl, hm, hopen⟩ := hv.shape
  rw [intVals_len] at hm hopen ⊢
  unfold maxLen at hm
  have HO := Lib.hid hopen
  clear hopen hv
  by_cases hl : 1 ≤ v.length ∧ v.length ≤ 3
  · have HE := Lib.hid (isV_mk hl.1 hl.2)
    have l1 := hl.1
    have l2 := hl.2
    clear hl
    go_enter Tryd.func39, Tryd.ntmps39
    go_wp2
    go_loopw [15] (fun i wr => ∃ k : Nat, k ≤ v.length ∧ i = .int .i64 k ∧ small (v.take k) 1000 = true ∧ Below w.heap.size w wr) (fun i _ => v.length - (RowKit.intOf i).toNat)
    case atStart => exact ⟨0, Nat.zero_le _, rfl, rfl, Below.refl _ _⟩
    case round =>
      obtain ⟨k, hk, rfl, ht, hbr⟩ := hrel
      have HB := Lib.hid hbr
      have HT := Lib.hid ht
      clear ht
      by_cases hlt : k < v.length
      · obtain ⟨b, off, rfl, hc, hlt2, hx⟩ := HO.out (by omega)
        have hcell := hx k _ (intVals_get v k hlt)
        rw [← hbr.cell (p := ⟨b, off + k, none⟩) hlt2] at hcell
        clear hx hbr
        by_cases hin : inR v[k] (-1000) 1000 = true
        · have HI := Lib.hid hin
          clear hin
          go_wp2_with fail
          refine (i_size _ _).mono ?_
          rintro e w1 ⟨rfl, rfl⟩
          rw [HI.out]
          go_wp2_with fail
          exact ⟨⟨k + 1, by omega, by go_num, small_take hlt HT.out HI.out, HB.out⟩, by simp [RowKit.intOf]; omega⟩
        · have HI := Lib.hid (Bool.not_eq_true _ ▸ hin)
          clear hin
          go_wp2_with fail
          refine (i_size _ _).mono ?_
          rintro e w1 ⟨rfl, rfl⟩
          rw [HI.out]
          go_wp2_with fail
          go_ret
          exact ⟨ret_bool (by rw [HE.out]; exact (small_not hlt HI.out).symm), HB.out⟩
      · obtain rfl : k = v.length := by omega
        clear hbr
        go_wp2
        go_ret
        exact ⟨ret_bool (by rw [HE.out, ← HT.out, List.take_length]), HB.out⟩
  · have HE := Lib.hid (isV_len hl)
    by_cases l1 : v.length < 1
    · clear hl
      go_enter Tryd.func39, Tryd.ntmps39
      go_wp2
      go_ret
      exact ⟨ret_bool HE.out.symm, Below.refl _ _⟩
    · have l2 : 3 < v.length := by omega
      clear hl
      go_enter Tryd.func39, Tryd.ntmps39
      go_wp2
      go_ret
      exact ⟨ret_bool HE.out.symm, Below.refl _ _⟩

def alikeB (u v : List Int) : Bool := isV u && (isV v && decide (u.length = v.length))
theorem alikeB_t {u v : List Int} (h : alikeB u v = true) : isV u = true ∧ isV v = true ∧ u.length = v.length := by
  unfold alikeB at h
  rw [Bool.and_eq_true, Bool.and_eq_true, decide_eq_true_eq] at h
  exact h
theorem alikeB_f {u v : List Int} (h : ¬ alikeB u v = true) : ¬ (isV u = true ∧ isV v = true ∧ u.length = v.length) := by
  intro hh
  apply h
  unfold alikeB
  rw [hh.1, hh.2.1, decide_eq_true hh.2.2]; rfl

set_option maxRecDepth 100000 in
set_option maxHeartbeats 400000 in
/-- slices.Clone of what is not nil. -/
theorem i_clone (v : List Int) (a : Option Addr) (n c : Nat) (w : World) (hn : 0 < v.length) (hm : v.length ≤ 1048576) (hv : Sl w (.slice a n c) (intVals v)) :
    Calls Tryd.prog 78 #[.slice a n c] w (Made w v) := by
  obtain ⟨a', c', e, _, hopen⟩ := hv.shape
  simp only [Value.slice.injEq] at e
  obtain ⟨rfl, rfl, rfl⟩ := e
  rw [intVals_len] at hopen ⊢
  obtain ⟨b, off, rfl, hc, hlt, hx⟩ := hopen hn
  obtain ⟨i0, hi, hz0, hz1, hz2⟩ := info_parts info_int'
  have q22 : ∀ (w : World) (a : Option Addr) (n c n' c' : Nat), (binOp .eql 41 (.slice a n c) (.slice none n' c')).run Tryd.prog w = .ok (.bool a.isNone) w := fun w a n c n' c' => Lib.run_eql_slice_nil w _ _ a n c n' c' Tryd.underlying41
  have HX := Lib.hid hx
  clear hx hv
  have H1 := Lib.hid (intVals_len v)
  go_enter Tryd.func78, Tryd.ntmps78
  go_wp2_with (at_builtin; refine wpList_append_own _ rfl _ _ 41 rfl w.heap.size 3 i0 (.int .i64 0) 1 8 Tryd.underlying41 hi hz0 hz1 hz2 rfl (by decide) _ _ _ rfl (owns_none (Nat.le_refl _)) ⟨b, off, none⟩ v.length c (intVals v) rfl ?qc1 ?qc2 ?qc3 ?qc4 ?qc5 ?qc6 ?_)
  case qc1 => rw [H1.out, Nat.mul_one]
  case qc2 =>
    intro j u hj
    have h := HX.out j u hj
    have h0 : (⟨b, off, none⟩ : Addr).add j = ⟨b, off + j, none⟩ := by unfold Addr.add; split <;> simp_all
    rw [h0]
    exact Lib.cell?_alloc_some _ h
  case qc3 => intro u hu; obtain ⟨x, _, rfl⟩ := List.mem_map.1 hu; rfl
  case qc4 => unfold maxLen; omega
  case qc5 => omega
  case qc6 => simp
  intro v' w1 hown hgrow hnil
  have HW := Lib.hid hown
  have HB := Lib.hid (((Below.refl w.heap.size w).alloc (Nat.le_refl _) _).grown hgrow (by simp) (by intro k hk; simp [Value.ownBlock] at hk; omega))
  clear hown hgrow hnil
  go_wp2
  go_ret
  refine ⟨⟨v', rfl, OwnV.of_owns (n := v.length) ?_⟩, HB.out⟩
  exact HW.out

/-- Three places, those beyond the list's length 0. -/
theorem heap_alloc_new' (w : World) (o : Obj) {n : Nat} (h : w.heap.size = n) : (w.alloc o).heap[n]? = some o := by subst h; exact heap_alloc_new w o
theorem pad3 (v : List Int) (h1 : 1 ≤ v.length) (h2 : v.length ≤ 3) : ∃ x y z : Int, splice [Value.int .i64 0, .int .i64 0, .int .i64 0] 0 (intVals v) = [.int .i64 x, .int .i64 y, .int .i64 z] ∧ v = [x, y, z].take v.length ∧ (v.length < 3 → z = 0) ∧ (v.length < 2 → y = 0) ∧ ∀ M : Int, 0 ≤ M → Bd v M → -M ≤ x ∧ x ≤ M ∧ -M ≤ y ∧ y ≤ M ∧ -M ≤ z ∧ z ≤ M := by
  match v, h1, h2 with
  | [x], _, _ => exact ⟨x, 0, 0, rfl, rfl, by simp, by simp, fun M hM hb => by have h0 := hb 0 (by simp); simp only [List.getElem_cons_zero] at h0; omega⟩
  | [x, y], _, _ => exact ⟨x, y, 0, rfl, rfl, by simp, by simp, fun M hM hb => by have h0 := hb 0 (by simp); have h1 := hb 1 (by simp); simp only [List.getElem_cons_zero, List.getElem_cons_succ] at h0 h1; omega⟩
  | [x, y, z], _, _ => exact ⟨x, y, z, rfl, rfl, by simp, by simp, fun M hM hb => by have h0 := hb 0 (by simp); have h1 := hb 1 (by simp); have h2 := hb 2 (by simp); simp only [List.getElem_cons_zero, List.getElem_cons_succ] at h0 h1 h2; omega⟩

def Arr (w : World) (x y z : Int) (e : Ending) (w' : World) : Prop := e = .returned (.agg #[.int .i64 x, .int .i64 y, .int .i64 z]) ∧ Below w.heap.size w w'

set_option maxRecDepth 100000 in
set_option maxHeartbeats 400000 in
theorem i_num (v : List Int) (x y z : Int) (hs : splice [Value.int .i64 0, .int .i64 0, .int .i64 0] 0 (intVals v) = [.int .i64 x, .int .i64 y, .int .i64 z]) (h1 : 1 ≤ v.length) (h2 : v.length ≤ 3) (a : Value) (w : World) (hv : Sl w a (intVals v)) :
    Calls Tryd.prog 57 #[a] w (Arr w x y z) := by
  obtain ⟨a, c, rfl, hm, hopen⟩ := hv.shape
  rw [intVals_len] at hm hopen ⊢
  obtain ⟨b, off, rfl, hc, hlt, hx⟩ := hopen (by omega)
  have hsz : (Tryd.prog.info? 3).map (·.size) = some 1 := by kernel_rfl
  have HX := Lib.hid hx
  have HS := Lib.hid hs
  have H1 := Lib.hid (intVals_len v)
  clear hx hv hs hopen
  go_enter Tryd.func57, Tryd.ntmps57
  go_wp2_with (refine wpList_copy_splice rfl (.tmp 4) (.tmp 5) 41 41 rfl 3 Tryd.underlying41 hsz (some ⟨w.heap.size + 1, 0, none⟩) (some ⟨b, off, none⟩) 3 3 v.length c rfl rfl (w.heap.size + 1) 0 [.int .i64 0, .int .i64 0, .int .i64 0] 74 ?hg (intVals v) ?hn ?hpos ?hfit ?h1 (w.heap.size + 1) ((w.alloc (.cells #[.int .i64 0, .int .i64 0, .int .i64 0] 74)).alloc (.cells #[.int .i64 0, .int .i64 0, .int .i64 0] 74)) ?hb ?hBg ?_)
  case hg => exact heap_alloc_new' _ _ (by simp)
  case hn => rw [H1.out]; exact (Nat.min_eq_left h2).symm
  case hpos =>
    intro _
    exact fun j u hj => HX.out j u hj
  case hfit => rw [H1.out]; simpa using h2
  case h1 => intro u hu; obtain ⟨x, _, rfl⟩ := List.mem_map.1 hu; rfl
  case hb => exact Below.refl _ _
  case hBg => exact Nat.le_refl _
  intro w1 hh hb1
  have hh := hh.out
  rw [HS.out] at hh
  have k0 : w1.cell? ⟨w.heap.size + 1, 0, none⟩ = some (.int .i64 x) := by rw [cell_of_row _ _ _ _ _ _ hh]; rfl
  have k1 : w1.cell? ⟨w.heap.size + 1, 1, none⟩ = some (.int .i64 y) := by rw [cell_of_row _ _ _ _ _ _ hh]; rfl
  have k2 : w1.cell? ⟨w.heap.size + 1, 2, none⟩ = some (.int .i64 z) := by rw [cell_of_row _ _ _ _ _ _ hh]; rfl
  have hr : w1.heap[w.heap.size]? = some (.cells #[.int .i64 0, .int .i64 0, .int .i64 0] 74) := by
    rw [hb1.block _ (Nat.lt_succ_self _), Below.heap_alloc _ _ _ (by simp)]
    exact heap_alloc_new w _
  have j0 : w1.cell? ⟨w.heap.size, 0, none⟩ = some (.int .i64 0) := by rw [cell_of_row _ _ _ _ _ _ hr]; rfl
  have j1 : w1.cell? ⟨w.heap.size, 1, none⟩ = some (.int .i64 0) := by rw [cell_of_row _ _ _ _ _ _ hr]; rfl
  have j2 : w1.cell? ⟨w.heap.size, 2, none⟩ = some (.int .i64 0) := by rw [cell_of_row _ _ _ _ _ _ hr]; rfl
  have f0 : w1.frozen? ⟨w.heap.size, 0, none⟩ = false := frozen_of_row _ _ 0 _ _ hr
  have f1 : w1.frozen? ⟨w.heap.size, 1, none⟩ = false := frozen_of_row _ _ 1 _ _ hr
  have f2 : w1.frozen? ⟨w.heap.size, 2, none⟩ = false := frozen_of_row _ _ 2 _ _ hr
  have HB1 := Lib.hid ((((Below.refl w.heap.size w).alloc (Nat.le_refl _) _).alloc (by simp) _).trans (hb1.mono (Nat.le_succ _)))
  clear hh hb1 hr
  go_wp2
  refine bodyPost_ret (v := .agg #[.int .i64 x, .int .i64 y, .int .i64 z]) ?_ rfl ⟨rfl, ((HB1.out.setCell (Nat.le_refl _) _).setCell (Nat.le_refl _) _).setCell (Nat.le_refl _) _⟩
  simp [results, Tryd.results57, go_sem, j0, j1, j2]
end Go.Proofs.YtflkalgofkpdbaaDoor
/- The model's vectors: the exported functions, out of the loops' contracts. -/
namespace Go.Proofs.YtflkalgofkpdbaaDoor
open Go.RowKit Go.Lib

end Go.Proofs.YtflkalgofkpdbaaDoor
/- The program's vectors: the functions out of arrays. -/
namespace Go.Proofs.YtflkalgofkpdbaaDoor
open Go.RowKit Go.Lib

def vecR (l : List Int) : List Int × Bool := if isV l = true then (l, true) else ([], false)
theorem sl_arr (w : World) (x y z : Int) (n : Nat) (hn : n ≤ 3) (T : TypeId) :
    Sl (w.alloc (.cells #[.int .i64 x, .int .i64 y, .int .i64 z] T)) (.slice (some ⟨w.heap.size, 0, none⟩) n 3) (intVals ([x, y, z].take n)) := by
  refine sl_of_cells (by rw [intVals_len, List.length_take]; simp; omega) hn (by unfold maxLen; omega) ?_
  intro i u hi
  have hlt : i < n := by
    by_cases hh : i < n
    · exact hh
    · rw [List.getElem?_eq_none (by rw [intVals_len, List.length_take]; omega)] at hi; cases hi
  have h0 : (⟨w.heap.size, 0, none⟩ : Addr).add i = ⟨w.heap.size, i, none⟩ := by unfold Addr.add; split <;> simp_all
  rw [h0, cell_of_row _ _ i _ _ _ (heap_alloc_new w _), ← hi]
  simp only [intVals, List.getElem?_map, List.getElem?_take_of_lt hlt]
  match i, (by omega : i < 3) with
  | 0, _ => rfl
  | 1, _ => rfl
  | 2, _ => rfl

set_option maxRecDepth 100000 in
set_option maxHeartbeats 400000 in
theorem i_vecof (x y z : Int) (n : Nat) (h1 : 1 ≤ n) (h2 : n ≤ 3) (w : World) :
    Calls Tryd.prog 66 #[.agg #[.int .i64 x, .int .i64 y, .int .i64 z], .int .i64 n] w (Got w (vecR ([x, y, z].take n))) := by
  have HS := Lib.hid (sl_arr w x y z n h2 74)
  have HL := Lib.hid (show ([x, y, z].take n).length = n by rw [List.length_take]; simp; omega)
  generalize hL : [x, y, z].take n = L at HS HL
  have i1 : (0 : Int) ≤ (n : Int) := by omega
  have i2 : (n : Int) ≤ 3 := by omega
  clear hL
  by_cases h : isV L = true
  · have E1 := Lib.hid h
    have ER := Lib.hid (show vecR L = (L, true) from if_pos h)
    clear h
    go_enter Tryd.func66, Tryd.ntmps66
    go_wp2_with fail
    refine (i_isv L _ _ HS.out).mono ?_
    rintro e w1 ⟨rfl, hb1⟩
    rw [E1.out]
    have HB1 := Lib.hid (((Below.refl w.heap.size w).alloc (Nat.le_refl _) _).trans (hb1.mono (by simp)))
    have HS1 := Lib.hid (HS.out.below hb1)
    clear hb1
    go_wp2_with fail
    refine (i_clone L _ _ _ _ (by have := HL.out; omega) (by have := HL.out; omega) HS1.out).mono ?_
    rintro e w2 ⟨⟨v, rfl, ho⟩, hb2⟩
    have HO := Lib.hid (ho.mono HB1.out.size (Nat.le_refl _))
    have HB2 := Lib.hid (HB1.out.trans (hb2.mono HB1.out.size))
    clear hb2 ho
    go_wp2_with fail
    go_ret2
    rw [ER.out]
    exact ⟨⟨_, rfl, HO.out⟩, HB2.out⟩
  · have E1 := Lib.hid (bool_f h)
    have ER := Lib.hid (show vecR L = ([], false) from if_neg h)
    clear h
    go_enter Tryd.func66, Tryd.ntmps66
    go_wp2_with fail
    refine (i_isv L _ _ HS.out).mono ?_
    rintro e w1 ⟨rfl, hb1⟩
    rw [E1.out]
    have HB1 := Lib.hid (((Below.refl w.heap.size w).alloc (Nat.le_refl _) _).trans (hb1.mono (by simp)))
    clear hb1
    go_wp2_with fail
    go_ret2
    rw [ER.out]
    exact ⟨⟨_, rfl, OwnV.nil⟩, HB1.out⟩

theorem tmod_bd {a b M : Int} (hb : ¬ b = 0) (h : -M ≤ b) (h' : b ≤ M) : -M ≤ a.tmod b ∧ a.tmod b ≤ M ∧ (a.tmod b).natAbs < b.natAbs := by
  have h2 : (a.tmod b).natAbs < b.natAbs := by rw [Int.natAbs_tmod]; exact Nat.mod_lt _ (by omega)
  generalize a.tmod b = t at *
  omega
theorem take_add {x y z x' y' z' : Int} (n : Nat) : addL ([x, y, z].take n) ([x', y', z'].take n) = [x + x', y + y', z + z'].take n := by
  unfold addL
  match n with
  | 0 => rfl
  | 1 => rfl
  | 2 => rfl
  | n + 3 => simp
theorem addR_vec {u v : List Int} (h : isV u = true ∧ isV v = true ∧ u.length = v.length) : addR u v = vecR (addL u v) := by
  unfold addR vecR
  by_cases h4 : isV (addL u v) = true
  · rw [if_pos ⟨h.1, h.2.1, h.2.2, h4⟩, if_pos h4]
  · rw [if_neg (fun h => h4 h.2.2.2), if_neg h4]
theorem take_scale {x y z k : Int} (n : Nat) : scaleL ([x, y, z].take n) k = [x * k, y * k, z * k].take n := by
  unfold scaleL
  match n with
  | 0 => rfl
  | 1 => rfl
  | 2 => rfl
  | n + 3 => simp
theorem scaleR_vec {u : List Int} {k : Int} (h : isV u = true ∧ inR k (-1000) 1000 = true) : scaleR u k = vecR (scaleL u k) := by
  unfold scaleR vecR
  by_cases h4 : isV (scaleL u k) = true
  · rw [if_pos ⟨h.1, h.2, h4⟩, if_pos h4]
  · rw [if_neg (fun h => h4 h.2.2), if_neg h4]
end Go.Proofs.YtflkalgofkpdbaaDoor
/- Plain facts on decimal numerals. -/
namespace Go.Proofs.YtflkalgofkpdbaaDoor
open Go.Lib

/-- The digits of u without a leading zero: none for 0. -/
def digs (u : Nat) : List UInt8 := if u = 0 then [] else decDigits u

theorem digs_zero : digs 0 = [] := by simp [digs]
theorem digs_pos {u : Nat} (h : u ≠ 0) : digs u = decDigits u := by simp [digs, h]
theorem digs_step {u : Nat} (h : u ≠ 0) : digs (u / 10) ++ [UInt8.ofNat (48 + u % 10)] = digs u := by
  rw [digs_pos h]
  by_cases h10 : u < 10
  · have h0 : u / 10 = 0 := by omega
    rw [h0, digs_zero, decDigits_one h10, Nat.mod_eq_of_lt h10]; rfl
  · rw [digs_pos (by omega)]
    conv => rhs; rw [decDigits, dif_neg h10]

theorem nDigits_le_of_lt (k : Nat) : ∀ u, u < 10 ^ (k + 1) → nDigits u ≤ k + 1 := by
  induction k with
  | zero => intro u h; rw [nDigits_small (by simpa using h)]; omega
  | succ k ih =>
    intro u h
    by_cases h10 : u < 10
    · rw [nDigits_small h10]; omega
    · rw [nDigits_big h10]; have := ih (u / 10) (by rw [Nat.pow_succ] at h; omega); omega
theorem digs_len {u : Nat} (h : u ≤ 9223372036854775808) : (digs u).length ≤ 19 := by
  by_cases h0 : u = 0
  · subst h0; simp [digs_zero]
  · rw [digs_pos h0, decDigits_length]; exact nDigits_le_of_lt 18 u (by omega)
end Go.Proofs.YtflkalgofkpdbaaDoor
/- Plain facts: when is a text the decimal numeral of an integer with at most so many digits. -/
namespace Go.Proofs.YtflkalgofkpdbaaDoor
open Go.Lib

/-- A decimal digit's byte. -/
def isDig (c : UInt8) : Prop := 48 ≤ c.toNat ∧ c.toNat ≤ 57
instance (c : UInt8) : Decidable (isDig c) := by unfold isDig; infer_instance
/-- What digits spell. -/
def val (l : List UInt8) : Nat := l.foldl (fun a c => a * 10 + (c.toNat - 48)) 0
theorem val_nil : val [] = 0 := rfl
theorem val_snoc (l : List UInt8) (c : UInt8) : val (l ++ [c]) = val l * 10 + (c.toNat - 48) := by simp [val]
theorem dig_ofNat {d : Nat} (h : d < 10) : (UInt8.ofNat (48 + d)).toNat = 48 + d := by
  rw [UInt8.toNat_ofNat']; omega

theorem dec_facts (u : Nat) : val (decDigits u) = u ∧ (∀ c ∈ decDigits u, isDig c) := by
  induction u using Nat.strongRecOn with
  | _ u ih =>
    by_cases h : u < 10
    · rw [decDigits_one h]
      refine ⟨?_, ?_⟩
      · simp only [val, List.foldl_cons, List.foldl_nil, dig_ofNat h]; omega
      · intro c hc
        rw [List.mem_singleton] at hc; subst hc
        unfold isDig; rw [dig_ofNat h]; omega
    · rw [decDigits, dif_neg h]
      obtain ⟨h1, h2⟩ := ih (u / 10) (by omega)
      have hm : u % 10 < 10 := by omega
      refine ⟨?_, ?_⟩
      · rw [val_snoc, h1, dig_ofNat hm]; omega
      · intro c hc
        rw [List.mem_append, List.mem_singleton] at hc
        rcases hc with hc | hc
        · exact h2 c hc
        · subst hc; unfold isDig; rw [dig_ofNat hm]; omega
theorem val_dec (u : Nat) : val (decDigits u) = u := (dec_facts u).1
theorem dig_dec (u : Nat) : ∀ c ∈ decDigits u, isDig c := (dec_facts u).2
theorem dec_ne_nil (u : Nat) : decDigits u ≠ [] := by
  intro h
  have := decDigits_length u
  rw [h] at this
  have := nDigits_pos u
  simp at *
  omega

theorem val_lt : ∀ (k : Nat) (l : List UInt8), l.length = k → (∀ c ∈ l, isDig c) → val l < 10 ^ k := by
  intro k
  induction k with
  | zero => intro l h _; rw [List.length_eq_zero_iff] at h; subst h; simp [val]
  | succ k ih =>
    intro l h hd
    obtain ⟨t, c, rfl⟩ : ∃ t c, l = t ++ [c] := by
      have hne : l ≠ [] := by intro e; subst e; simp at h
      exact ⟨l.dropLast, l.getLast hne, (List.dropLast_concat_getLast hne).symm⟩
    have h1 := ih t (by simpa using h) (fun c hc => hd c (by simp [hc]))
    have h2 := hd c (by simp)
    unfold isDig at h2
    rw [val_snoc, Nat.pow_succ]
    omega

/-- l is T behind its sign. -/
def Parts (l T : List UInt8) (neg : Bool) : Prop := (neg = true ∧ l = 45 :: T) ∨ (neg = false ∧ l = T ∧ ∀ c r, T = c :: r → c ≠ 45)
def sg (neg : Bool) (v : Nat) : Int := if neg then -(v : Int) else v

theorem parts_itoa {l T : List UInt8} {neg : Bool} (h : Parts l T neg) (n : Int) (hl : l = itoa n) : T = decDigits n.natAbs ∧ n = sg neg n.natAbs := by
  unfold itoa at hl
  rcases h with ⟨rfl, rfl⟩ | ⟨rfl, rfl, hh⟩
  · by_cases hn : n < 0
    · rw [if_pos hn] at hl
      simp only [List.cons.injEq, true_and] at hl
      exact ⟨hl, by simp [sg]; omega⟩
    · rw [if_neg hn] at hl
      have := dig_dec n.toNat 45 (by rw [← hl]; simp)
      unfold isDig at this
      exact absurd this.1 (by decide)
  · by_cases hn : n < 0
    · rw [if_pos hn] at hl
      exact absurd rfl (hh _ _ hl)
    · rw [if_neg hn] at hl
      have e : n.toNat = n.natAbs := by omega
      exact ⟨by rw [← e]; exact hl, by simp [sg]; omega⟩

/-- What is read: the integer of at most 'most' digits whose numeral l is. -/
def Rd (most : Nat) (l : List UInt8) (n : Int) : Prop := l = itoa n ∧ n.natAbs < 10 ^ most

theorem rd_parts {l T : List UInt8} {neg : Bool} {most : Nat} (hp : Parts l T neg) {n : Int} (h : Rd most l n) (hm : 1 ≤ most) :
    (∀ c ∈ T, isDig c) ∧ 1 ≤ T.length ∧ T.length ≤ most ∧ n = sg neg (val T) := by
  obtain ⟨h1, h2⟩ := parts_itoa hp n h.1
  rw [h1]
  refine ⟨dig_dec _, ?_, ?_, ?_⟩
  · rw [decDigits_length]; exact nDigits_pos _
  · rw [decDigits_length]
    obtain ⟨k, rfl⟩ : ∃ k, most = k + 1 := ⟨most - 1, by omega⟩
    exact nDigits_le_of_lt k _ h.2
  · rw [val_dec]; exact h2
theorem rd_none_len {l T : List UInt8} {neg : Bool} {most : Nat} (hp : Parts l T neg) (hm : 1 ≤ most) (h : T.length = 0 ∨ most < T.length) : ∀ n, ¬ Rd most l n :=
  fun _ hn => by have := rd_parts hp hn hm; omega
theorem rd_none_dig {l T : List UInt8} {neg : Bool} {most : Nat} (hp : Parts l T neg) (hm : 1 ≤ most) {c : UInt8} (hc : c ∈ T) (h : ¬ isDig c) : ∀ n, ¬ Rd most l n :=
  fun _ hn => h ((rd_parts hp hn hm).1 c hc)
theorem rd_none_ne {l T : List UInt8} {neg : Bool} {most : Nat} (hp : Parts l T neg) (hm : 1 ≤ most) (h : ¬ l = itoa (sg neg (val T))) : ∀ n, ¬ Rd most l n :=
  fun n hn => h (by rw [← (rd_parts hp hn hm).2.2.2]; exact hn.1)
theorem rd_some {l T : List UInt8} {neg : Bool} {most : Nat} (_hp : Parts l T neg) (hd : ∀ c ∈ T, isDig c) (hl : T.length ≤ most) (h : l = itoa (sg neg (val T))) : Rd most l (sg neg (val T)) := by
  refine ⟨h, ?_⟩
  have h1 := val_lt _ T rfl hd
  have h2 : 10 ^ T.length ≤ 10 ^ most := Nat.pow_le_pow_right (by omega) hl
  have e : (sg neg (val T)).natAbs = val T := by unfold sg; split <;> omega
  omega
theorem rd_unique {most : Nat} {l : List UInt8} {n m : Int} (h : Rd most l n) (h' : l = itoa m) : n = m := by
  have e : itoa n = itoa m := h.1.symm.trans h'
  have key : ∀ n : Int, Parts (itoa n) (decDigits n.natAbs) (decide (n < 0)) := by
    intro n
    by_cases hn : n < 0
    · exact .inl ⟨by simpa using hn, by unfold itoa; rw [if_pos hn]⟩
    · refine .inr ⟨by simpa using hn, ?_, ?_⟩
      · unfold itoa; rw [if_neg hn, show n.toNat = n.natAbs from by omega]
      · intro c r hcr hc
        have := dig_dec n.natAbs c (by rw [hcr]; simp)
        subst hc; unfold isDig at this; exact absurd this.1 (by decide)
  have a := parts_itoa (key n) n rfl
  have b := parts_itoa (key n) m e
  have hv : n.natAbs = m.natAbs := by have := congrArg val b.1; rwa [val_dec, val_dec] at this
  rw [a.2, b.2, hv]

/-! ### Atoi -/
theorem pu10 : ∀ (l : List UInt8) (acc : Nat), (∀ c ∈ l, isDig c) → l.foldl (fun a c => a * 10 + (c.toNat - 48)) acc < 10 ^ 18 →
    parseUint10 acc l = .ok (l.foldl (fun a c => a * 10 + (c.toNat - 48)) acc)
  | [], acc, _, _ => rfl
  | c :: r, acc, hd, hlt => by
    have hc := hd c (by simp)
    have mono : ∀ (r : List UInt8) (a : Nat), a ≤ r.foldl (fun a c => a * 10 + (c.toNat - 48)) a := by
      intro r
      induction r with
      | nil => intro a; exact Nat.le_refl _
      | cons d r ih =>
        intro a
        refine Nat.le_trans ?_ (ih _)
        show a ≤ a * 10 + (d.toNat - 48)
        omega
    simp only [List.foldl_cons] at hlt ⊢
    have := mono r (acc * 10 + (c.toNat - 48))
    unfold isDig at hc
    simp only [parseUint10]
    rw [if_pos hc, if_neg (by omega), if_neg (by omega)]
    exact pu10 r _ (fun d hd' => hd d (by simp [hd'])) hlt

theorem atoiAll_itoa (n : Int) (h : n.natAbs < 10 ^ 12) : atoiAll (itoa n) = .ok n := by
  have pm : ∀ u : Nat, u < 10 ^ 12 → parseMag (decDigits u) = .ok u := by
    intro u hu
    unfold parseMag
    rw [if_neg (dec_ne_nil u)]
    have h1 := val_dec u
    unfold val at h1
    have := pu10 (decDigits u) 0 (dig_dec u) (by rw [h1]; omega)
    rw [this, h1]
  unfold itoa
  by_cases hn : n < 0
  · rw [if_pos hn]
    unfold atoiAll
    simp only [show (45 : UInt8).toNat = 45 from rfl, or_true, if_true, pm _ h]
    rw [if_neg (by omega), if_neg (by omega)]
    congr 1; omega
  · rw [if_neg hn]
    have hu : n.toNat < 10 ^ 12 := by omega
    have hp := pm _ hu
    cases hdd : decDigits n.toNat with
    | nil => exact absurd hdd (dec_ne_nil _)
    | cons c r =>
      have hc := dig_dec n.toNat c (by rw [hdd]; simp)
      unfold isDig at hc
      rw [hdd] at hp
      rw [atoiAll_plain c r (by omega) (by omega), hp]
      unfold signless
      simp only []
      rw [if_neg (by omega)]
      congr 1; omega
end Go.Proofs.YtflkalgofkpdbaaDoor
/- Contracts of library functions, laid at this translation by the kit's command, in plain words. -/
namespace Go.Proofs
open Go.Shelf
def Tryd.lays156_ren : Go.Shelf.Ren := ⟨fun | 156 => 40 | 165 => 60 | 166 => 61 | 169 => 62 | 240 => 71 | 241 => 72 | 276 => 84 | 277 => 85 | n => n, fun | 31 => 45 | 9 => 9 | 3 => 3 | 4 => 4 | 0 => 0 | 20 => 20 | 72 => 78 | 76 => 82 | 70 => 76 | 37 => 60 | 75 => 81 | 127 => 91 | 164 => 102 | 5 => 5 | 80 => 84 | n => n, fun | n => n⟩
theorem Tryd.lays156 : Go.Proofs.Lays.n156 Tryd.prog Tryd.lays156_ren := {
  mixed := by kernel_rfl
  f156 := Tryd.func40.trans (congrArg some (by kernel_rfl))
  f165 := Tryd.func60.trans (congrArg some (by kernel_rfl))
  f166 := Tryd.func61.trans (congrArg some (by kernel_rfl))
  f169 := Tryd.func62.trans (congrArg some (by kernel_rfl))
  f240 := Tryd.func71.trans (congrArg some (by kernel_rfl))
  f241 := Tryd.func72.trans (congrArg some (by kernel_rfl))
  f276 := Tryd.func84.trans (congrArg some (by kernel_rfl))
  f277 := Tryd.func85.trans (congrArg some (by kernel_rfl))
  t0 := Tryd.underlying0
  a0 := Tryd.isAgg0
  z0 := Tryd.sizeOf0
  v0 := Tryd.zeroValue0
  t3 := Tryd.underlying3
  a3 := Tryd.isAgg3
  z3 := Tryd.sizeOf3
  v3 := Tryd.zeroValue3
  t4 := Tryd.underlying4
  a4 := Tryd.isAgg4
  z4 := Tryd.sizeOf4
  v4 := Tryd.zeroValue4
  t9 := Tryd.underlying9
  a9 := Tryd.isAgg9
  z9 := Tryd.sizeOf9
  v9 := Tryd.zeroValue9
  t20 := Tryd.underlying20
  a20 := Tryd.isAgg20
  z20 := Tryd.sizeOf20
  v20 := Tryd.zeroValue20
  t31 := Tryd.underlying45
  a31 := Tryd.isAgg45
  z31 := Tryd.sizeOf45
  v31 := Tryd.zeroValue45
  t37 := Tryd.underlying60
  a37 := Tryd.isAgg60
  z37 := Tryd.sizeOf60
  v37 := Tryd.zeroValue60
  t70 := Tryd.underlying76
  a70 := Tryd.isAgg76
  z70 := Tryd.sizeOf76
  v70 := Tryd.zeroValue76
  t72 := Tryd.underlying78
  a72 := Tryd.isAgg78
  z72 := Tryd.sizeOf78
  v72 := Tryd.zeroValue78
  t75 := Tryd.underlying81
  a75 := Tryd.isAgg81
  z75 := Tryd.sizeOf81
  v75 := Tryd.zeroValue81
  t76 := Tryd.underlying82
  a76 := Tryd.isAgg82
  z76 := Tryd.sizeOf82
  v76 := Tryd.zeroValue82
  t127 := Tryd.underlying91
  a127 := Tryd.isAgg91
  z127 := Tryd.sizeOf91
  v127 := Tryd.zeroValue91
  t164 := Tryd.underlying102
  a164 := Tryd.isAgg102
  z164 := Tryd.sizeOf102
  v164 := Tryd.zeroValue102 }
theorem Tryd.Builder_Extra_156 : Builder.Extra Tryd.prog Tryd.lays156_ren := {
  sizeBuilder := by kernel_rfl
  liesBuilder := by kernel_rfl
  t5 := Tryd.underlying5
  a5 := Tryd.isAgg5
  z5 := Tryd.sizeOf5
  v5 := Tryd.zeroValue5
  infoByte := by kernel_rfl
  cellsByte := by kernel_rfl
  sizeByte := by kernel_rfl
  neB5 := by decide }
open Go.RowKit in
theorem Tryd.strings_Join_none (a : Option Addr) (c : Nat) (sep : ByteArray) (w : World) :
    Calls Tryd.prog 40 #[.slice a 0 c, .string sep] w fun e w' => e = .returned (.string ⟨#[]⟩) ∧ w' = w := Any.strings_Join_none Tryd.lays156 Tryd.Builder_Extra_156 a c sep w
open Go.RowKit in
theorem Tryd.strings_Join (bk o c : Nat) (xs : List ByteArray) (sep : ByteArray) (w : World) (hcells : ∀ (j : Nat) x, xs[j]? = some x → w.cell? ⟨bk, o + j, none⟩ = some (.string x)) (hbk : bk < w.heap.size) (hN : xs.length ≤ 140737488355328) (hcap : xs.length ≤ c) (hlen : (Lib.join (xs.map (·.data.toList)) sep.data.toList).length ≤ 140737488355328) :
    Calls Tryd.prog 40 #[.slice (some ⟨bk, o, none⟩) xs.length c, .string sep] w fun e w' => e = .returned (.string ⟨(Lib.join (xs.map (·.data.toList)) sep.data.toList).toArray⟩) ∧ Below w.heap.size w w' := Any.strings_Join Tryd.lays156 Tryd.Builder_Extra_156 bk o c xs sep w hcells hbk hN hcap hlen
def Tryd.laysM171_ren : Go.Shelf.Ren := ⟨fun | 171 => 38 | 243 => 58 | 246 => 70 | 283 => 80 | 284 => 81 | 285 => 82 | 286 => 83 | 129 => 97 | 317 => 96 | 318 => 98 | 319 => 99 | 320 => 100 | 337 => 109 | 338 => 110 | n => n, fun | 3 => 3 | 9 => 9 | 2 => 2 | 4 => 4 | 171 => 96 | 0 => 0 | 53 => 97 | 37 => 60 | 5 => 5 | 173 => 100 | 212 => 116 | 51 => 117 | 20 => 20 | 213 => 118 | 46 => 119 | 232 => 138 | 233 => 139 | n => n, fun | 17 => 0 | 18 => 6 | 19 => 7 | n => n⟩
theorem Tryd.laysM171 : Go.Proofs.LaysM.n171 Tryd.prog Tryd.laysM171_ren := {
  mixed := by kernel_rfl
  f129 := Tryd.func97.trans (congrArg some (by kernel_rfl))
  f171 := Tryd.func38.trans (congrArg some (by kernel_rfl))
  f243 := Tryd.func58.trans (congrArg some (by kernel_rfl))
  f246 := Tryd.func70.trans (congrArg some (by kernel_rfl))
  f283 := Tryd.func80.trans (congrArg some (by kernel_rfl))
  f284 := Tryd.func81.trans (congrArg some (by kernel_rfl))
  f285 := Tryd.func82.trans (congrArg some (by kernel_rfl))
  f286 := Tryd.func83.trans (congrArg some (by kernel_rfl))
  f317 := Tryd.func96.trans (congrArg some (by kernel_rfl))
  f318 := Tryd.func98.trans (congrArg some (by kernel_rfl))
  f319 := Tryd.func99.trans (congrArg some (by kernel_rfl))
  f320 := Tryd.func100.trans (congrArg some (by kernel_rfl))
  f337 := Tryd.func109.trans (congrArg some (by kernel_rfl))
  f338 := Tryd.func110.trans (congrArg some (by kernel_rfl))
  t0 := Tryd.underlying0
  a0 := Tryd.isAgg0
  z0 := Tryd.sizeOf0
  v0 := Tryd.zeroValue0
  t2 := Tryd.underlying2
  a2 := Tryd.isAgg2
  z2 := Tryd.sizeOf2
  v2 := Tryd.zeroValue2
  t3 := Tryd.underlying3
  a3 := Tryd.isAgg3
  z3 := Tryd.sizeOf3
  v3 := Tryd.zeroValue3
  t4 := Tryd.underlying4
  a4 := Tryd.isAgg4
  z4 := Tryd.sizeOf4
  v4 := Tryd.zeroValue4
  t5 := Tryd.underlying5
  a5 := Tryd.isAgg5
  z5 := Tryd.sizeOf5
  v5 := Tryd.zeroValue5
  t9 := Tryd.underlying9
  a9 := Tryd.isAgg9
  z9 := Tryd.sizeOf9
  v9 := Tryd.zeroValue9
  t20 := Tryd.underlying20
  a20 := Tryd.isAgg20
  z20 := Tryd.sizeOf20
  v20 := Tryd.zeroValue20
  t37 := Tryd.underlying60
  a37 := Tryd.isAgg60
  z37 := Tryd.sizeOf60
  v37 := Tryd.zeroValue60
  t46 := Tryd.underlying119
  a46 := Tryd.isAgg119
  z46 := Tryd.sizeOf119
  v46 := Tryd.zeroValue119
  t51 := Tryd.underlying117
  a51 := Tryd.isAgg117
  z51 := Tryd.sizeOf117
  v51 := Tryd.zeroValue117
  t53 := Tryd.underlying97
  a53 := Tryd.isAgg97
  z53 := Tryd.sizeOf97
  v53 := Tryd.zeroValue97
  t171 := Tryd.underlying96
  a171 := Tryd.isAgg96
  z171 := Tryd.sizeOf96
  v171 := Tryd.zeroValue96
  t173 := Tryd.underlying100
  a173 := Tryd.isAgg100
  z173 := Tryd.sizeOf100
  v173 := Tryd.zeroValue100
  t212 := Tryd.underlying116
  a212 := Tryd.isAgg116
  z212 := Tryd.sizeOf116
  v212 := Tryd.zeroValue116
  t213 := Tryd.underlying118
  a213 := Tryd.isAgg118
  z213 := Tryd.sizeOf118
  t232 := Tryd.underlying138
  a232 := Tryd.isAgg138
  z232 := Tryd.sizeOf138
  v232 := Tryd.zeroValue138
  t233 := Tryd.underlying139
  a233 := Tryd.isAgg139
  z233 := Tryd.sizeOf139
  v233 := Tryd.zeroValue139
  g17 := by kernel_rfl
  g18 := by kernel_rfl
  g19 := by kernel_rfl
  i0 := by kernel_rfl
  i2 := by kernel_rfl
  i3 := by kernel_rfl
  i4 := by kernel_rfl
  i5 := by kernel_rfl
  i9 := by kernel_rfl
  i20 := by kernel_rfl
  i37 := by kernel_rfl
  i46 := by kernel_rfl
  i51 := by kernel_rfl
  i53 := by kernel_rfl
  i171 := by kernel_rfl
  i173 := by kernel_rfl
  i212 := by kernel_rfl
  i232 := by kernel_rfl
  i233 := by kernel_rfl
  m17 := by kernel_rfl
  m18 := by kernel_rfl
  m19 := by kernel_rfl }
open Go.RowKit Go.Sort Go.Lib in
theorem Tryd.strconv_Itoa (n : Int) (h0 : -9223372036854775808 ≤ n) (h1 : n ≤ 9223372036854775807) (w : World) (htab : Lib.TabIs Tryd.prog w "internal/strconv.uint64pow10" .u64 Lib.pow10Tab) :
    Calls Tryd.prog 38 #[.int .i64 n] w fun e w' => e = .returned (.string ⟨(Lib.itoa n).toArray⟩) ∧ ∃ k os, w' = grow (w.drewN k) os := Any.strconv_Itoa Tryd.laysM171 n h0 h1 w htab
def Tryd.laysC172_ren : Go.Shelf.Ren := ⟨fun | 172 => 65 | 244 => 76 | 245 => 77 | 247 => 90 | 279 => 91 | 280 => 92 | 281 => 93 | 282 => 94 | 287 => 106 | 316 => 107 | 171 => 38 | 205 => 108 | 321 => 113 | 322 => 114 | 243 => 58 | 246 => 70 | 283 => 80 | 284 => 81 | 285 => 82 | 286 => 83 | 129 => 97 | 317 => 96 | 318 => 98 | 319 => 99 | 320 => 100 | 337 => 109 | 338 => 110 | n => n, fun | 9 => 9 | 3 => 3 | 75 => 81 | 76 => 82 | 4 => 4 | 5 => 5 | 167 => 109 | 37 => 60 | 0 => 0 | 85 => 110 | 2 => 2 | 168 => 112 | 53 => 97 | 175 => 121 | 46 => 119 | 210 => 125 | 127 => 91 | 145 => 137 | 143 => 135 | 21 => 21 | 171 => 96 | 173 => 100 | 212 => 116 | 51 => 117 | 20 => 20 | 213 => 118 | 232 => 138 | 233 => 139 | 80 => 84 | n => n, fun | 15 => 2 | 16 => 3 | 17 => 0 | 18 => 6 | 19 => 7 | n => n⟩
theorem Tryd.laysC172 : Go.Proofs.LaysC.n172 Tryd.prog Tryd.laysC172_ren := {
  mixed := by kernel_rfl
  f129 := Tryd.func97.trans (congrArg some (by kernel_rfl))
  f171 := Tryd.func38.trans (congrArg some (by kernel_rfl))
  f172 := Tryd.func65.trans (congrArg some (by kernel_rfl))
  f205 := Tryd.func108.trans (congrArg some (by kernel_rfl))
  f243 := Tryd.func58.trans (congrArg some (by kernel_rfl))
  f244 := Tryd.func76.trans (congrArg some (by kernel_rfl))
  f245 := Tryd.func77.trans (congrArg some (by kernel_rfl))
  f246 := Tryd.func70.trans (congrArg some (by kernel_rfl))
  f247 := Tryd.func90.trans (congrArg some (by kernel_rfl))
  f279 := Tryd.func91.trans (congrArg some (by kernel_rfl))
  f280 := Tryd.func92.trans (congrArg some (by kernel_rfl))
  f281 := Tryd.func93.trans (congrArg some (by kernel_rfl))
  f282 := Tryd.func94.trans (congrArg some (by kernel_rfl))
  f283 := Tryd.func80.trans (congrArg some (by kernel_rfl))
  f284 := Tryd.func81.trans (congrArg some (by kernel_rfl))
  f285 := Tryd.func82.trans (congrArg some (by kernel_rfl))
  f286 := Tryd.func83.trans (congrArg some (by kernel_rfl))
  f287 := Tryd.func106.trans (congrArg some (by kernel_rfl))
  f316 := Tryd.func107.trans (congrArg some (by kernel_rfl))
  f317 := Tryd.func96.trans (congrArg some (by kernel_rfl))
  f318 := Tryd.func98.trans (congrArg some (by kernel_rfl))
  f319 := Tryd.func99.trans (congrArg some (by kernel_rfl))
  f320 := Tryd.func100.trans (congrArg some (by kernel_rfl))
  f321 := Tryd.func113.trans (congrArg some (by kernel_rfl))
  f322 := Tryd.func114.trans (congrArg some (by kernel_rfl))
  f337 := Tryd.func109.trans (congrArg some (by kernel_rfl))
  f338 := Tryd.func110.trans (congrArg some (by kernel_rfl))
  t0 := Tryd.underlying0
  a0 := Tryd.isAgg0
  z0 := Tryd.sizeOf0
  v0 := Tryd.zeroValue0
  t2 := Tryd.underlying2
  a2 := Tryd.isAgg2
  z2 := Tryd.sizeOf2
  v2 := Tryd.zeroValue2
  t3 := Tryd.underlying3
  a3 := Tryd.isAgg3
  z3 := Tryd.sizeOf3
  v3 := Tryd.zeroValue3
  t4 := Tryd.underlying4
  a4 := Tryd.isAgg4
  z4 := Tryd.sizeOf4
  v4 := Tryd.zeroValue4
  t5 := Tryd.underlying5
  a5 := Tryd.isAgg5
  z5 := Tryd.sizeOf5
  v5 := Tryd.zeroValue5
  t9 := Tryd.underlying9
  a9 := Tryd.isAgg9
  z9 := Tryd.sizeOf9
  v9 := Tryd.zeroValue9
  t20 := Tryd.underlying20
  a20 := Tryd.isAgg20
  z20 := Tryd.sizeOf20
  v20 := Tryd.zeroValue20
  t21 := Tryd.underlying21
  a21 := Tryd.isAgg21
  z21 := Tryd.sizeOf21
  v21 := Tryd.zeroValue21
  t37 := Tryd.underlying60
  a37 := Tryd.isAgg60
  z37 := Tryd.sizeOf60
  v37 := Tryd.zeroValue60
  t46 := Tryd.underlying119
  a46 := Tryd.isAgg119
  z46 := Tryd.sizeOf119
  v46 := Tryd.zeroValue119
  t51 := Tryd.underlying117
  a51 := Tryd.isAgg117
  z51 := Tryd.sizeOf117
  v51 := Tryd.zeroValue117
  t53 := Tryd.underlying97
  a53 := Tryd.isAgg97
  z53 := Tryd.sizeOf97
  v53 := Tryd.zeroValue97
  t75 := Tryd.underlying81
  a75 := Tryd.isAgg81
  z75 := Tryd.sizeOf81
  v75 := Tryd.zeroValue81
  t76 := Tryd.underlying82
  a76 := Tryd.isAgg82
  z76 := Tryd.sizeOf82
  v76 := Tryd.zeroValue82
  t85 := Tryd.underlying110
  a85 := Tryd.isAgg110
  z85 := Tryd.sizeOf110
  v85 := Tryd.zeroValue110
  t127 := Tryd.underlying91
  a127 := Tryd.isAgg91
  z127 := Tryd.sizeOf91
  v127 := Tryd.zeroValue91
  t143 := Tryd.underlying135
  a143 := Tryd.isAgg135
  z143 := Tryd.sizeOf135
  v143 := Tryd.zeroValue135
  t145 := Tryd.underlying137
  a145 := Tryd.isAgg137
  z145 := Tryd.sizeOf137
  v145 := Tryd.zeroValue137
  t167 := Tryd.underlying109
  a167 := Tryd.isAgg109
  z167 := Tryd.sizeOf109
  v167 := Tryd.zeroValue109
  t168 := Tryd.underlying112
  a168 := Tryd.isAgg112
  z168 := Tryd.sizeOf112
  v168 := Tryd.zeroValue112
  t171 := Tryd.underlying96
  a171 := Tryd.isAgg96
  z171 := Tryd.sizeOf96
  v171 := Tryd.zeroValue96
  t173 := Tryd.underlying100
  a173 := Tryd.isAgg100
  z173 := Tryd.sizeOf100
  v173 := Tryd.zeroValue100
  t175 := Tryd.underlying121
  a175 := Tryd.isAgg121
  z175 := Tryd.sizeOf121
  v175 := Tryd.zeroValue121
  t210 := Tryd.underlying125
  a210 := Tryd.isAgg125
  z210 := Tryd.sizeOf125
  v210 := Tryd.zeroValue125
  t212 := Tryd.underlying116
  a212 := Tryd.isAgg116
  z212 := Tryd.sizeOf116
  v212 := Tryd.zeroValue116
  t213 := Tryd.underlying118
  a213 := Tryd.isAgg118
  z213 := Tryd.sizeOf118
  t232 := Tryd.underlying138
  a232 := Tryd.isAgg138
  z232 := Tryd.sizeOf138
  v232 := Tryd.zeroValue138
  t233 := Tryd.underlying139
  a233 := Tryd.isAgg139
  z233 := Tryd.sizeOf139
  v233 := Tryd.zeroValue139
  g15 := by kernel_rfl
  g16 := by kernel_rfl
  g17 := by kernel_rfl
  g18 := by kernel_rfl
  g19 := by kernel_rfl
  t80 := Tryd.underlying84
  a80 := Tryd.isAgg84
  z80 := Tryd.sizeOf84
  v80 := Tryd.zeroValue84
  i0 := by kernel_rfl
  i2 := by kernel_rfl
  i3 := by kernel_rfl
  i4 := by kernel_rfl
  i5 := by kernel_rfl
  i9 := by kernel_rfl
  i20 := by kernel_rfl
  i21 := by kernel_rfl
  i37 := by kernel_rfl
  i46 := by kernel_rfl
  i51 := by kernel_rfl
  i53 := by kernel_rfl
  i75 := by kernel_rfl
  i76 := by kernel_rfl
  i80 := by kernel_rfl
  i85 := by kernel_rfl
  i127 := by kernel_rfl
  i143 := by kernel_rfl
  i145 := by kernel_rfl
  i167 := by kernel_rfl
  i168 := by kernel_rfl
  i171 := by kernel_rfl
  i173 := by kernel_rfl
  i175 := by kernel_rfl
  i210 := by kernel_rfl
  i212 := by kernel_rfl
  i232 := by kernel_rfl
  i233 := by kernel_rfl
  m15 := by kernel_rfl
  m16 := by kernel_rfl
  m17 := by kernel_rfl
  m18 := by kernel_rfl
  m19 := by kernel_rfl
  c0 := by kernel_rfl
  c2 := by kernel_rfl
  c3 := by kernel_rfl
  c4 := by kernel_rfl
  c5 := by kernel_rfl
  c9 := by kernel_rfl
  c20 := by kernel_rfl
  c21 := by kernel_rfl
  c37 := by kernel_rfl
  c46 := by kernel_rfl
  c51 := by kernel_rfl
  c53 := by kernel_rfl
  c75 := by kernel_rfl
  c76 := by kernel_rfl
  c80 := by kernel_rfl
  c85 := by kernel_rfl
  c127 := by kernel_rfl
  c143 := by kernel_rfl
  c145 := by kernel_rfl
  c167 := by kernel_rfl
  c168 := by kernel_rfl
  c171 := by kernel_rfl
  c173 := by kernel_rfl
  c175 := by kernel_rfl
  c210 := by kernel_rfl
  c212 := by kernel_rfl
  c213 := by kernel_rfl
  c232 := by kernel_rfl
  c233 := by kernel_rfl }
def Tryd.lays146_ren : Go.Shelf.Ren := ⟨fun | 146 => 44 | 221 => 64 | 268 => 73 | 138 => 74 | 143 => 75 | 195 => 86 | 197 => 87 | 218 => 88 | 219 => 89 | 260 => 101 | 217 => 102 | 225 => 103 | 224 => 104 | 267 => 105 | 266 => 111 | 314 => 112 | n => n, fun | 9 => 9 | 31 => 45 | 3 => 3 | 4 => 4 | 0 => 0 | 105 => 106 | 21 => 21 | 5 => 5 | 46 => 119 | 119 => 128 | 139 => 131 | 138 => 130 | 146 => 132 | 51 => 117 | n => n, fun | 1 => 1 | 3 => 4 | 4 => 5 | n => n⟩
theorem Tryd.lays146 : Go.Proofs.Lays.n146 Tryd.prog Tryd.lays146_ren := {
  mixed := by kernel_rfl
  f138 := Tryd.func74.trans (congrArg some (by kernel_rfl))
  f143 := Tryd.func75.trans (congrArg some (by kernel_rfl))
  f146 := Tryd.func44.trans (congrArg some (by kernel_rfl))
  f195 := Tryd.func86.trans (congrArg some (by kernel_rfl))
  f197 := Tryd.func87.trans (congrArg some (by kernel_rfl))
  f217 := Tryd.func102.trans (congrArg some (by kernel_rfl))
  f218 := Tryd.func88.trans (congrArg some (by kernel_rfl))
  f219 := Tryd.func89.trans (congrArg some (by kernel_rfl))
  f221 := Tryd.func64.trans (congrArg some (by kernel_rfl))
  f224 := Tryd.func104.trans (congrArg some (by kernel_rfl))
  f225 := Tryd.func103.trans (congrArg some (by kernel_rfl))
  f260 := Tryd.func101.trans (congrArg some (by kernel_rfl))
  f266 := Tryd.func111.trans (congrArg some (by kernel_rfl))
  f267 := Tryd.func105.trans (congrArg some (by kernel_rfl))
  f268 := Tryd.func73.trans (congrArg some (by kernel_rfl))
  f314 := Tryd.func112.trans (congrArg some (by kernel_rfl))
  t0 := Tryd.underlying0
  a0 := Tryd.isAgg0
  z0 := Tryd.sizeOf0
  v0 := Tryd.zeroValue0
  t3 := Tryd.underlying3
  a3 := Tryd.isAgg3
  z3 := Tryd.sizeOf3
  v3 := Tryd.zeroValue3
  t4 := Tryd.underlying4
  a4 := Tryd.isAgg4
  z4 := Tryd.sizeOf4
  v4 := Tryd.zeroValue4
  t5 := Tryd.underlying5
  a5 := Tryd.isAgg5
  z5 := Tryd.sizeOf5
  v5 := Tryd.zeroValue5
  t9 := Tryd.underlying9
  a9 := Tryd.isAgg9
  z9 := Tryd.sizeOf9
  v9 := Tryd.zeroValue9
  t21 := Tryd.underlying21
  a21 := Tryd.isAgg21
  z21 := Tryd.sizeOf21
  v21 := Tryd.zeroValue21
  t31 := Tryd.underlying45
  a31 := Tryd.isAgg45
  z31 := Tryd.sizeOf45
  v31 := Tryd.zeroValue45
  t46 := Tryd.underlying119
  a46 := Tryd.isAgg119
  z46 := Tryd.sizeOf119
  v46 := Tryd.zeroValue119
  t51 := Tryd.underlying117
  a51 := Tryd.isAgg117
  z51 := Tryd.sizeOf117
  v51 := Tryd.zeroValue117
  t105 := Tryd.underlying106
  a105 := Tryd.isAgg106
  z105 := Tryd.sizeOf106
  v105 := Tryd.zeroValue106
  t119 := Tryd.underlying128
  a119 := Tryd.isAgg128
  z119 := Tryd.sizeOf128
  t138 := Tryd.underlying130
  a138 := Tryd.isAgg130
  z138 := Tryd.sizeOf130
  v138 := Tryd.zeroValue130
  t139 := Tryd.underlying131
  a139 := Tryd.isAgg131
  z139 := Tryd.sizeOf131
  v139 := Tryd.zeroValue131
  t146 := Tryd.underlying132
  a146 := Tryd.isAgg132
  z146 := Tryd.sizeOf132
  v146 := Tryd.zeroValue132
  g1 := by kernel_rfl
  g3 := by kernel_rfl
  g4 := by kernel_rfl }
open Go.RowKit Go.Lib in
theorem Tryd.strings_Split (s sep : ByteArray) (m : Int) (w : World) (hs : s.size < 4294967281) (hm : w.cell? ⟨1, 0, none⟩ = some (.int .i64 m)) (h1 : 1 ≤ sep.size) :
    Calls Tryd.prog 44 #[.string s, .string sep] w fun e w' =>
      e = .returned (.slice (some ⟨w.heap.size, 0, none⟩) (Lib.countB s sep + 1) (Lib.countB s sep + 1)) ∧ w' = w.alloc (.cells ((Lib.splitB sep 0 (Lib.countB s sep) s).map Value.string).toArray 9) := Any.strings_Split Tryd.lays146 (by kernel_rfl) s sep m w hs hm h1
def Tryd.laysM146_ren : Go.Shelf.Ren := ⟨fun | 146 => 44 | 221 => 64 | 268 => 73 | 138 => 74 | 143 => 75 | 195 => 86 | 197 => 87 | 218 => 88 | 219 => 89 | 260 => 101 | 217 => 102 | 225 => 103 | 224 => 104 | 267 => 105 | 266 => 111 | 314 => 112 | n => n, fun | 9 => 9 | 31 => 45 | 3 => 3 | 4 => 4 | 0 => 0 | 105 => 106 | 21 => 21 | 5 => 5 | 46 => 119 | 119 => 128 | 139 => 131 | 138 => 130 | 146 => 132 | 51 => 117 | n => n, fun | 1 => 1 | 3 => 4 | 4 => 5 | n => n⟩
theorem Tryd.laysM146 : Go.Proofs.LaysM.n146 Tryd.prog Tryd.laysM146_ren := {
  mixed := by kernel_rfl
  f138 := Tryd.func74.trans (congrArg some (by kernel_rfl))
  f143 := Tryd.func75.trans (congrArg some (by kernel_rfl))
  f146 := Tryd.func44.trans (congrArg some (by kernel_rfl))
  f195 := Tryd.func86.trans (congrArg some (by kernel_rfl))
  f197 := Tryd.func87.trans (congrArg some (by kernel_rfl))
  f217 := Tryd.func102.trans (congrArg some (by kernel_rfl))
  f218 := Tryd.func88.trans (congrArg some (by kernel_rfl))
  f219 := Tryd.func89.trans (congrArg some (by kernel_rfl))
  f221 := Tryd.func64.trans (congrArg some (by kernel_rfl))
  f224 := Tryd.func104.trans (congrArg some (by kernel_rfl))
  f225 := Tryd.func103.trans (congrArg some (by kernel_rfl))
  f260 := Tryd.func101.trans (congrArg some (by kernel_rfl))
  f266 := Tryd.func111.trans (congrArg some (by kernel_rfl))
  f267 := Tryd.func105.trans (congrArg some (by kernel_rfl))
  f268 := Tryd.func73.trans (congrArg some (by kernel_rfl))
  f314 := Tryd.func112.trans (congrArg some (by kernel_rfl))
  t0 := Tryd.underlying0
  a0 := Tryd.isAgg0
  z0 := Tryd.sizeOf0
  v0 := Tryd.zeroValue0
  t3 := Tryd.underlying3
  a3 := Tryd.isAgg3
  z3 := Tryd.sizeOf3
  v3 := Tryd.zeroValue3
  t4 := Tryd.underlying4
  a4 := Tryd.isAgg4
  z4 := Tryd.sizeOf4
  v4 := Tryd.zeroValue4
  t5 := Tryd.underlying5
  a5 := Tryd.isAgg5
  z5 := Tryd.sizeOf5
  v5 := Tryd.zeroValue5
  t9 := Tryd.underlying9
  a9 := Tryd.isAgg9
  z9 := Tryd.sizeOf9
  v9 := Tryd.zeroValue9
  t21 := Tryd.underlying21
  a21 := Tryd.isAgg21
  z21 := Tryd.sizeOf21
  v21 := Tryd.zeroValue21
  t31 := Tryd.underlying45
  a31 := Tryd.isAgg45
  z31 := Tryd.sizeOf45
  v31 := Tryd.zeroValue45
  t46 := Tryd.underlying119
  a46 := Tryd.isAgg119
  z46 := Tryd.sizeOf119
  v46 := Tryd.zeroValue119
  t51 := Tryd.underlying117
  a51 := Tryd.isAgg117
  z51 := Tryd.sizeOf117
  v51 := Tryd.zeroValue117
  t105 := Tryd.underlying106
  a105 := Tryd.isAgg106
  z105 := Tryd.sizeOf106
  v105 := Tryd.zeroValue106
  t119 := Tryd.underlying128
  a119 := Tryd.isAgg128
  z119 := Tryd.sizeOf128
  t138 := Tryd.underlying130
  a138 := Tryd.isAgg130
  z138 := Tryd.sizeOf130
  v138 := Tryd.zeroValue130
  t139 := Tryd.underlying131
  a139 := Tryd.isAgg131
  z139 := Tryd.sizeOf131
  v139 := Tryd.zeroValue131
  t146 := Tryd.underlying132
  a146 := Tryd.isAgg132
  z146 := Tryd.sizeOf132
  v146 := Tryd.zeroValue132
  g1 := by kernel_rfl
  g3 := by kernel_rfl
  g4 := by kernel_rfl
  i0 := by kernel_rfl
  i3 := by kernel_rfl
  i4 := by kernel_rfl
  i5 := by kernel_rfl
  i9 := by kernel_rfl
  i21 := by kernel_rfl
  i31 := by kernel_rfl
  i46 := by kernel_rfl
  i51 := by kernel_rfl
  i105 := by kernel_rfl
  i138 := by kernel_rfl
  i139 := by kernel_rfl
  i146 := by kernel_rfl
  m1 := by kernel_rfl
  s1_3 := fun w h => Go.Proofs.cell_of_shapedOpen_int (zero := #[.int .i64 0]) (t := 3) h (of_decide_eq_true (by kernel_rfl)) (by kernel_rfl) rfl (by kernel_rfl) (by kernel_rfl) Tryd.underlying3
  m3 := by kernel_rfl
  m4 := by kernel_rfl }
end Go.Proofs
/- The program's readInt: the integer of a range whose numeral the text is; else a panic. -/
namespace Go.Proofs.YtflkalgofkpdbaaDoor
open Go.RowKit Go.Lib

/-- The library's table of powers. -/
def HasPow (w : World) : Prop := Lib.TabIs Tryd.prog w "internal/strconv.uint64pow10" .u64 Lib.pow10Tab
/-- What the program's package variables hold: the table of powers, the two errors. -/
structure Vars (w : World) : Prop where
  pow : Lib.TabIs Tryd.prog w "internal/strconv.uint64pow10" .u64 Lib.pow10Tab
  syn : ∃ (tp : TypeId) (p : Value), w.var? Tryd.prog "strconv.ErrSyntax" = some #[.iface tp p]
  ran : ∃ (tp : TypeId) (p : Value), w.var? Tryd.prog "strconv.ErrRange" = some #[.iface tp p]
theorem gPow : Tryd.prog.globalNamed "internal/strconv.uint64pow10" = some 0 := by kernel_rfl
theorem gSyn : Tryd.prog.globalNamed "strconv.ErrSyntax" = some 2 := by kernel_rfl
theorem gRan : Tryd.prog.globalNamed "strconv.ErrRange" = some 3 := by kernel_rfl
theorem var_lt {P : Program} {w : World} {n : String} {cs : Array Value} {g : Nat} (hg : P.globalNamed n = some g) (h : w.var? P n = some cs) : g < w.heap.size := by
  unfold World.var? at h
  simp only [hg, Option.bind_some] at h
  by_cases hlt : g < w.heap.size
  · exact hlt
  · rw [Array.getElem?_eq_none (by omega)] at h
    simp at h
theorem HasPow.below {w w' : World} (h : HasPow w) (hb : Below w.heap.size w w') : HasPow w' := var?_below hb gPow (var_lt gPow h) h
theorem Vars.below {w w' : World} (h : Vars w) (hb : Below w.heap.size w w') : Vars w' := by
  obtain ⟨h1, ⟨t2, p2, h2⟩, ⟨t3, p3, h3⟩⟩ := h
  exact ⟨var?_below hb gPow (var_lt gPow h1) h1, ⟨t2, p2, var?_below hb gSyn (var_lt gSyn h2) h2⟩, ⟨t3, p3, var?_below hb gRan (var_lt gRan h3) h3⟩⟩

theorem below_grow' (B : Nat) (w : World) (hB : B ≤ w.heap.size) (k : Nat) (os : Array Obj) : Below B w (Sort.grow (w.drewN k) os) :=
  ⟨rfl, rfl, rfl, by show w.heap.size ≤ (w.heap ++ os).size; rw [Array.size_append]; omega, fun j hj => by
    show (w.heap ++ os)[j]? = w.heap[j]?
    rw [Array.getElem?_append_left (by omega)]⟩

/-- impl.FormatInt. -/
theorem ifi (n : Int) (h0 : -9223372036854775808 ≤ n) (h1 : n ≤ 9223372036854775807) (w : World) (hv : HasPow w) :
    Calls Tryd.prog 20 #[.int .i64 n] w fun e w' => e = .returned (.string ⟨(itoa n).toArray⟩) ∧ Below w.heap.size w w' := by
  have htab : Lib.TabIs Tryd.prog w "internal/strconv.uint64pow10" .u64 Lib.pow10Tab := hv
  go_enter Tryd.func20, Tryd.ntmps20
  go_wp2_with (go_at_call 38; refine (Tryd.strconv_Itoa n h0 h1 _ htab).mono ?_; rintro e w' ⟨rfl, k, os, rfl⟩)
  go_ret
  exact ⟨rfl, below_grow' _ _ (Nat.le_refl _) _ _⟩

theorem atoi_ok (s : ByteArray) (hs : s.size ≤ 1048576) (v : Int) (h : Lib.atoiAll s.data.toList = .ok v) (w : World) :
    Calls Tryd.prog 65 #[.string s] w fun e w' => e = .returned (.tuple #[.int .i64 v, .nilIface]) ∧ Below w.heap.size w w' :=
  (Any.strconv_Atoi_ok Tryd.laysC172 s (by omega) v h w).mono fun e w' ⟨he, hw⟩ => ⟨he, by
    rcases hw with rfl | ⟨t, rfl⟩
    · exact Below.refl _ _
    · exact Go.Joins.below_bytesWorld _ _ _ _ (Nat.le_refl _)⟩
theorem atoi_bad (s : ByteArray) (hs : s.size ≤ 1048576) (h : ∀ v, Lib.atoiAll s.data.toList ≠ .ok v) (w : World) (hv : Vars w) :
    Calls Tryd.prog 65 #[.string s] w fun e w' => ∃ (z : Int) (N : Addr), e = .returned (.tuple #[.int .i64 z, .iface 112 (.pointer (some N))]) ∧ Below w.heap.size w w' := by
  cases hc : Lib.atoiAll s.data.toList with
  | ok v => exact absurd hc (h v)
  | _ =>
    first
    | (obtain ⟨tp, p, hvar⟩ := hv.syn
       exact (Any.strconv_Atoi_syntax_var Tryd.laysC172 s (by omega) hc tp p w hvar).mono fun e w' ⟨N, he, _, _, hb⟩ => ⟨0, ⟨N, 0, none⟩, he, hb⟩)
    | (obtain ⟨tp, p, hvar⟩ := hv.ran
       exact (Any.strconv_Atoi_range_var Tryd.laysC172 s (by omega) hc tp p w hvar).mono fun e w' ⟨N, he, _, _, hb⟩ => ⟨_, ⟨N, 0, none⟩, he, hb⟩)

/-- A panic of a text. -/
def Fell (W : World) (e : Ending) (w' : World) : Prop := (∃ pv, e = .panicked [{ v := .iface 9 pv, recovered := false }]) ∧ Below W.heap.size W w'

set_option maxRecDepth 100000 in
set_option maxHeartbeats 400000 in
theorem ri_bad (s : ByteArray) (hs : s.size ≤ 1048576) (least most : Int) (h : ∀ v, Lib.atoiAll s.data.toList ≠ .ok v) (w : World) (hv : Vars w) :
    Calls Tryd.prog 46 #[.string s, .int .i64 least, .int .i64 most] w (Fell w) := by
  have H := Lib.hid h
  clear h
  go_enter Tryd.func46, Tryd.ntmps46
  go_wp2_with fail
  refine (atoi_bad s hs H.out _ hv).mono ?_
  rintro e w1 ⟨z, N, rfl, hb⟩
  go_wp2_with fail
  exact ⟨rfl, ⟨_, rfl⟩, hb⟩

set_option maxRecDepth 100000 in
set_option maxHeartbeats 400000 in
theorem ri_ne (s : ByteArray) (hs : s.size ≤ 1048576) (least most : Int) (v : Int) (h : Lib.atoiAll s.data.toList = .ok v) (hne : ¬ s.data.toList = itoa v) (w : World) (hv : Vars w) :
    Calls Tryd.prog 46 #[.string s, .int .i64 least, .int .i64 most] w (Fell w) := by
  have hb64 := Lib.atoiAll_bounds h
  have hq : (!itoa v == s.toList) = true := by rw [ByteArray.toList_eq]; simpa using fun e => hne e.symm
  have H := Lib.hid h
  clear h hne
  go_enter Tryd.func46, Tryd.ntmps46
  go_wp2_with fail
  refine (atoi_ok s hs v H.out _).mono ?_
  rintro e w1 ⟨rfl, hb⟩
  go_wp2_with fail
  refine (ifi v hb64.1 hb64.2 _ (hv.below hb).pow).mono ?_
  rintro e w2 ⟨rfl, hb2⟩
  go_wp2_with fail
  exact ⟨rfl, ⟨_, rfl⟩, hb.trans (hb2.mono hb.size)⟩

set_option maxRecDepth 100000 in
set_option maxHeartbeats 400000 in
theorem ri_low (s : ByteArray) (hs : s.size ≤ 1048576) (least most : Int) (v : Int) (h : Lib.atoiAll s.data.toList = .ok v) (heq : s.data.toList = itoa v) (hl : v < least) (w : World) (hv : Vars w) :
    Calls Tryd.prog 46 #[.string s, .int .i64 least, .int .i64 most] w (Fell w) := by
  have hb64 := Lib.atoiAll_bounds h
  have hq : (!itoa v == s.toList) = false := by rw [ByteArray.toList_eq, ← heq]; simp
  have H := Lib.hid h
  clear h heq
  go_enter Tryd.func46, Tryd.ntmps46
  go_wp2_with fail
  refine (atoi_ok s hs v H.out _).mono ?_
  rintro e w1 ⟨rfl, hb⟩
  go_wp2_with fail
  refine (ifi v hb64.1 hb64.2 _ (hv.below hb).pow).mono ?_
  rintro e w2 ⟨rfl, hb2⟩
  go_wp2_with fail
  exact ⟨rfl, ⟨_, rfl⟩, hb.trans (hb2.mono hb.size)⟩

set_option maxRecDepth 100000 in
set_option maxHeartbeats 400000 in
theorem ri_high (s : ByteArray) (hs : s.size ≤ 1048576) (least most : Int) (v : Int) (h : Lib.atoiAll s.data.toList = .ok v) (heq : s.data.toList = itoa v) (hl : least ≤ v) (hg : most < v) (w : World) (hv : Vars w) :
    Calls Tryd.prog 46 #[.string s, .int .i64 least, .int .i64 most] w (Fell w) := by
  have hb64 := Lib.atoiAll_bounds h
  have hq : (!itoa v == s.toList) = false := by rw [ByteArray.toList_eq, ← heq]; simp
  have H := Lib.hid h
  clear h heq
  go_enter Tryd.func46, Tryd.ntmps46
  go_wp2_with fail
  refine (atoi_ok s hs v H.out _).mono ?_
  rintro e w1 ⟨rfl, hb⟩
  go_wp2_with fail
  refine (ifi v hb64.1 hb64.2 _ (hv.below hb).pow).mono ?_
  rintro e w2 ⟨rfl, hb2⟩
  go_wp2_with fail
  exact ⟨rfl, ⟨_, rfl⟩, hb.trans (hb2.mono hb.size)⟩

set_option maxRecDepth 100000 in
set_option maxHeartbeats 400000 in
theorem ri_ret (s : ByteArray) (hs : s.size ≤ 1048576) (least most : Int) (v : Int) (h : Lib.atoiAll s.data.toList = .ok v) (heq : s.data.toList = itoa v) (hl : least ≤ v) (hg : v ≤ most) (w : World) (hv : Vars w) :
    Calls Tryd.prog 46 #[.string s, .int .i64 least, .int .i64 most] w fun e w' => e = .returned (.int .i64 v) ∧ Below w.heap.size w w' := by
  have hb64 := Lib.atoiAll_bounds h
  have hq : (!itoa v == s.toList) = false := by rw [ByteArray.toList_eq, ← heq]; simp
  have H := Lib.hid h
  clear h heq
  go_enter Tryd.func46, Tryd.ntmps46
  go_wp2_with fail
  refine (atoi_ok s hs v H.out _).mono ?_
  rintro e w1 ⟨rfl, hb⟩
  go_wp2_with fail
  refine (ifi v hb64.1 hb64.2 _ (hv.below hb).pow).mono ?_
  rintro e w2 ⟨rfl, hb2⟩
  go_wp2_with fail
  go_ret
  exact ⟨rfl, hb.trans (hb2.mono hb.size)⟩

/-- The closures that are deferred: the named results are laid where the frame panics. -/
theorem hmf {P : Program} : ∀ (fn : Fn) (first cap : Array Value) (w : World), (Instr.makeFunc fn first cap).run P w = .ok (.func fn first cap) w := fun _ _ _ _ => rfl
end Go.Proofs.YtflkalgofkpdbaaDoor
/- Small facts over any program: a string of one byte that the call makes. -/
namespace Go.Proofs.YtflkalgofkpdbaaDoor
open Go Go.RowKit

theorem run_one_byte {P : Program} (src dst e t : TypeId) (hs : P.underlying src = some (.slice e)) (he : P.underlying e = some (.int .u8)) (hd : P.underlying dst = some .string)
    (z : Int) (w : World) :
    (convert src dst (.slice (some ⟨w.heap.size, 0, none⟩) 1 1)).run P (w.alloc (.cells #[.int .u8 z] t)) = .ok (.string ⟨#[UInt8.ofNat z.toNat]⟩) (w.alloc (.cells #[.int .u8 z] t)) := by
  rw [run_convert_bytes_string _ src dst e _ _ _ hs he hd]
  rw [run_bytesToString _ _ 1 1 [z]]
  · rfl
  · refine run_loadCells_list _ _ [Value.int .u8 z] ?_
    intro j v hj
    match j, hj with
    | 0, hj =>
      simp only [List.getElem?_cons_zero, Option.some.injEq] at hj
      subst hj
      simp [Addr.add]
end Go.Proofs.YtflkalgofkpdbaaDoor
/- The model's FormatInt: the loop over the digits. -/
namespace Go.Proofs.YtflkalgofkpdbaaDoor
open Go.RowKit Go.Lib

theorem fi_done {n : Nat} (hn : n ≠ 0) {l : List UInt8} (h : digs 0 ++ l = digs n) : l = itoa (n : Int) := by
  rw [itoa_nonneg, ← digs_pos hn, ← h, digs_zero]; rfl
theorem fi_step {n u : Nat} {l : List UInt8} (hb : n ≤ 9223372036854775808) (h0 : u ≠ 0) (h : digs u ++ l = digs n) :
    digs (u / 10) ++ ((48 + UInt8.ofNat (u % 10)) :: l) = digs n ∧ ((48 + UInt8.ofNat (u % 10)) :: l).length ≤ 20 := by
  have e : digs (u / 10) ++ ((48 + UInt8.ofNat (u % 10)) :: l) = digs n := by
    rw [← h, ← digs_step h0, List.append_assoc, List.singleton_append]
    congr 2
    rw [UInt8.ofNat_add]; rfl
  refine ⟨e, ?_⟩
  have := congrArg List.length e
  rw [List.length_append] at this
  have := digs_len hb
  omega
theorem byte_eq (u : Nat) : UInt8.ofNat (48 + (u : Int) % 10).toNat = UInt8.ofNat (48 + u % 10) := by
  rw [show (48 + (u : Int) % 10).toNat = 48 + u % 10 from by omega]

set_option maxRecDepth 100000 in
set_option maxHeartbeats 400000 in
theorem fi_pos (n : Nat) (hn : n ≠ 0) (hb : n ≤ 9223372036854775807) (w : World) :
    Calls Tryd.prog 16 #[.int .i64 n] w fun e w' => e = .returned (.string ⟨(itoa n).toArray⟩) ∧ Below w.heap.size w w' := by
  have hz : ((n : Int) == 0) = false := by simpa using hn
  have hneg : decide ((n : Int) < 0) = false := by simp
  have hcv := run_one_byte (P := Tryd.prog) 60 9 5 5 Tryd.underlying60 Tryd.underlying5 Tryd.underlying9
  go_enter Tryd.func16, Tryd.ntmps16
  go_wp2
  go_loopw [0, 4] (fun m o wr => ∃ (u : Nat) (l : List UInt8), u ≤ n ∧ m = .int .i64 u ∧ o = .string ⟨l.toArray⟩ ∧ digs u ++ l = digs n ∧ l.length ≤ 20 ∧ Below w.heap.size w wr) (fun m _ _ => (intOf m).toNat)
  case atStart => exact ⟨n, [], Nat.le_refl _, rfl, rfl, by simp, by simp, Below.refl _ _⟩
  case round =>
    obtain ⟨u, l, hu, rfl, rfl, hd, hl, hbl⟩ := hrel
    have Hd := Lib.hid hd
    clear hd
    by_cases h0 : u = 0
    · subst h0
      go_wp2
      go_ret
      exact ⟨ret_str (fi_done hn Hd.out), hbl⟩
    · have hne : ((u : Int) != 0) = true := by simpa using h0
      go_wp2
      have hst := fi_step (l := l) (by omega) h0 Hd.out
      exact ⟨⟨u / 10, _, by omega, by go_num, congrArg Value.string (str_cons _ _), hst.1, hst.2, hbl.alloc hbl.size _⟩, by simp [intOf]; omega⟩

theorem fi_done_neg {n : Nat} (hn : n ≠ 0) {l : List UInt8} (h : digs 0 ++ l = digs n) : 45 :: l = itoa (-(n : Int)) := by
  rw [itoa_neg _ (by omega), ← digs_pos hn, ← h, digs_zero]; rfl
theorem tmod_neg (u : Nat) : (-(u : Int)).tmod 10 = -((u % 10 : Nat) : Int) := by
  rw [Int.neg_tmod]; rfl
theorem tdiv_neg (u : Nat) : (-(u : Int)).tdiv 10 = -((u / 10 : Nat) : Int) := by
  rw [Int.neg_tdiv]; rfl

set_option maxRecDepth 100000 in
set_option maxHeartbeats 400000 in
theorem fi_neg (n : Nat) (hn : n ≠ 0) (hb : n ≤ 9223372036854775808) (w : World) :
    Calls Tryd.prog 16 #[.int .i64 (-(n : Int))] w fun e w' => e = .returned (.string ⟨(itoa (-(n : Int))).toArray⟩) ∧ Below w.heap.size w w' := by
  have hz : (-(n : Int) == 0) = false := by rw [beq_eq_false_iff_ne]; omega
  have hneg : decide (-(n : Int) < 0) = true := by simp; omega
  have hcv := run_one_byte (P := Tryd.prog) 60 9 5 5 Tryd.underlying60 Tryd.underlying5 Tryd.underlying9
  go_enter Tryd.func16, Tryd.ntmps16
  go_wp2
  go_loopw [0, 4] (fun m o wr => ∃ (u : Nat) (l : List UInt8), u ≤ n ∧ m = .int .i64 (-(u : Int)) ∧ o = .string ⟨l.toArray⟩ ∧ digs u ++ l = digs n ∧ l.length ≤ 20 ∧ Below w.heap.size w wr) (fun m _ _ => (intOf m).natAbs)
  case atStart => exact ⟨n, [], Nat.le_refl _, rfl, rfl, by simp, by simp, Below.refl _ _⟩
  case round =>
    obtain ⟨u, l, hu, rfl, rfl, hd, hl, hbl⟩ := hrel
    have Hd := Lib.hid hd
    clear hd
    by_cases h0 : u = 0
    · subst h0
      go_wp2
      go_ret
      exact ⟨ret_str (fi_done_neg hn Hd.out), hbl⟩
    · have hne : (-(u : Int) != 0) = true := by rw [bne_iff_ne]; omega
      have hm := tmod_neg u
      have hq := tdiv_neg u
      by_cases hd : u % 10 = 0
      · have hlt : decide (-((u % 10 : Nat) : Int) < 0) = false := by simp; omega
        go_wp2
        have hst := fi_step (l := l) hb h0 Hd.out
        rw [hd] at hst
        exact ⟨⟨u / 10, _, by omega, by go_num, congrArg Value.string (str_cons _ _), hst.1, hst.2, hbl.alloc hbl.size _⟩, by simp [intOf]; omega⟩
      · have hlt : decide (-((u % 10 : Nat) : Int) < 0) = true := by simp; omega
        go_wp2
        have hst := fi_step (l := l) hb h0 Hd.out
        exact ⟨⟨u / 10, _, by omega, by go_num, congrArg Value.string (str_cons _ _), hst.1, hst.2, hbl.alloc hbl.size _⟩, by simp [intOf]; omega⟩

set_option maxHeartbeats 400000 in
theorem fi_zero (w : World) :
    Calls Tryd.prog 16 #[.int .i64 0] w fun e w' => e = .returned (.string ⟨(itoa 0).toArray⟩) ∧ Below w.heap.size w w' := by
  go_enter Tryd.func16, Tryd.ntmps16
  go_wp2
  go_ret
  exact ⟨ret_str (by rw [show (0 : Int) = ((0 : Nat) : Int) from rfl, itoa_nonneg, decDigits_one (by omega)]; rfl), Below.refl _ _⟩

/-- spec.FormatInt: the decimal numeral. -/
theorem fi_any (n : Int) (h0 : -9223372036854775808 ≤ n) (h1 : n ≤ 9223372036854775807) (w : World) :
    Calls Tryd.prog 16 #[.int .i64 n] w fun e w' => e = .returned (.string ⟨(itoa n).toArray⟩) ∧ Below w.heap.size w w' := by
  by_cases hz : n = 0
  · subst hz; exact fi_zero w
  · by_cases hn : n < 0
    · obtain ⟨u, rfl⟩ : ∃ u : Nat, n = -(u : Int) := ⟨n.natAbs, by omega⟩
      exact fi_neg u (by omega) (by omega) w
    · obtain ⟨u, rfl⟩ : ∃ u : Nat, n = (u : Int) := ⟨n.toNat, by omega⟩
      exact fi_pos u (by omega) (by omega) w
end Go.Proofs.YtflkalgofkpdbaaDoor
