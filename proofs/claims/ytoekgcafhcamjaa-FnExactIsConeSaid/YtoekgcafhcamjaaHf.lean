/- Slices of halves: how they read. A half takes two cells: the slice of its normal, then its bound. -/
import Derived.Test.YtoekgcafhcamjaaRw
import Derived.Test.YtoekgcafhcamjaaRegM
import Derived.Deep.SlicePairs
import Derived.Lib.SmallJoins
namespace Go.Proofs.Ytoekgcafhcamjaa
open Go Go.RowKit Go.ChangeShapes Go.WideShapes Go.Deep Go.Joins

/-- The slice v reads as the halves hs. -/
def Hs (W : World) (v : Value) (hs : List Hf) : Prop :=
  ∃ (a : Option Addr) (c : Nat), v = .slice a hs.length c ∧ hs.length ≤ maxLen ∧
    ∀ (i : Nat) h, hs[i]? = some h → ∃ (b off : Nat) (u : Value), a = some ⟨b, off, none⟩ ∧ hs.length ≤ c ∧ b < W.heap.size ∧
      W.cell? ⟨b, off + i * 2, none⟩ = some u ∧ W.cell? ⟨b, off + (i * 2 + 1), none⟩ = some (.int .i64 h.2) ∧ Sl W u (intVals h.1)
theorem Hs.below {W W' : World} {v : Value} {hs : List Hf} (h : Hs W v hs) (hb : Below W.heap.size W W') : Hs W' v hs := by
  obtain ⟨a, c, rfl, hm, hx⟩ := h
  refine ⟨a, c, rfl, hm, fun i x hi => ?_⟩
  obtain ⟨b, off, u, h1, h2, h3, h4, h5, h6⟩ := hx i x hi
  exact ⟨b, off, u, h1, h2, Nat.lt_of_lt_of_le h3 hb.size, (hb.cell (p := ⟨b, off + i * 2, none⟩) h3).trans h4, (hb.cell (p := ⟨b, off + (i * 2 + 1), none⟩) h3).trans h5, h6.below hb⟩
theorem Hs.shape {W : World} {v : Value} {hs : List Hf} (h : Hs W v hs) : ∃ (a : Option Addr) (c : Nat), v = .slice a hs.length c ∧ hs.length ≤ maxLen := by
  obtain ⟨a, c, h1, h2, _⟩ := h
  exact ⟨a, c, h1, h2⟩
/-- Half i. -/
theorem Hs.half {W : World} {v : Value} {hs : List Hf} (h : Hs W v hs) (i : Nat) (hi : i < hs.length) {a : Option Addr} {n c : Nat} (hv : v = .slice a n c) :
    ∃ (b off : Nat) (u : Value), a = some ⟨b, off, none⟩ ∧ hs.length ≤ c ∧ b < W.heap.size ∧ W.cell? ⟨b, off + i * 2, none⟩ = some u ∧ W.cell? ⟨b, off + i * 2 + 1, none⟩ = some (.int .i64 hs[i].2) ∧ Sl W u (intVals hs[i].1) := by
  obtain ⟨a', c', e, _, hx⟩ := h
  rw [hv] at e
  simp only [Value.slice.injEq] at e
  obtain ⟨rfl, rfl, rfl⟩ := e
  exact hx i _ (List.getElem?_eq_getElem hi)

/-- Every number of the halves is one of the machine. -/
def HWf (hs : List Hf) : Prop := ∀ h ∈ hs, (Lit.int .i64 h.2).wf = true ∧ ∀ z ∈ h.1, (Lit.int .i64 z).wf = true
instance : Inhabited (Int × List Int) := ⟨(0, [])⟩
section
variable {H : Type} {enc : TypeId × Value → H} {P : Program}
/-- What came in as a slice of halves. -/
theorem halves_came {W : World} {base : Nat} {sp : Nat → Bool} {held : Bool} {t e q : TypeId} {f0 f1 : Field} {fuel : Nat} {a : Option Addr} {len cap : Nat} {x : DataW H × List MemPlace}
    (ht : P.underlying t = some (.slice e)) (he : P.underlying e = some (.struct #[f0, f1])) (ce : P.cellsOf e = 2) (o0 : f0.offset = 0) (o1 : f1.offset = 1) (c0 : P.cellsOf f0.type = 1) (c1 : P.cellsOf f1.type = 1)
    (h0 : P.underlying f0.type = some (.slice q)) (hq : P.underlying q = some (.int .i64)) (cq : P.cellsOf q = 1) (h1 : P.underlying f1.type = some (.int .i64))
    (h : DataW.trod enc P W base sp held fuel t [.slice a len cap] = some x) :
    ∃ hs : List Hf, hs.length = len ∧ Hs W (.slice a len cap) hs ∧ HWf hs := by
  rcases open_slice_pairs ht he ce o0 o1 c0 c1 h with ⟨hcs, _⟩ | ⟨a', len', cap', m, n, V0, V1, D0, D1, P0, P1, hcs, hb, hl, hm, hmm, _, hx⟩
  · simp only [List.cons.injEq, Value.slice.injEq, and_true] at hcs
    obtain ⟨rfl, rfl, rfl⟩ := hcs
    exact ⟨[], rfl, ⟨none, 0, rfl, by simp, fun i u hu => by simp at hu⟩, fun h hh => by simp at hh⟩
  · simp only [List.cons.injEq, Value.slice.injEq, and_true] at hcs
    obtain ⟨rfl, rfl, rfl⟩ := hcs
    have hle : len ≤ m := by rw [hmm]; split <;> omega
    have each : ∀ i, i < len → ∃ z : Hf, W.cell? (a'.add (i * 2)) = some (V0 i) ∧ W.cell? (a'.add (i * 2 + 1)) = some (.int .i64 z.2) ∧ Sl W (V0 i) (intVals z.1) ∧ (Lit.int .i64 z.2).wf = true ∧ ∀ y ∈ z.1, (Lit.int .i64 y).wf = true := by
      intro i hi
      obtain ⟨g0, g1, g2, g3⟩ := hx i (by omega)
      obtain ⟨zs, s1, s2⟩ := sl_of_trod h0 hq cq g2
      obtain ⟨y, e1, _, hw⟩ := DataW.trod_int h1 g3
      simp only [List.cons.injEq, and_true] at e1
      exact ⟨(zs, y), g0, by rw [g1, e1], s1, hw, s2⟩
    obtain ⟨Z, hZ⟩ := choose_lt each
    refine ⟨(List.range len).map Z, by simp, ⟨some a', cap, by simp, by simp; omega, ?_⟩, ?_⟩
    · intro i z hz
      have hi := lt_of_get hz
      simp only [List.length_map, List.length_range] at hi
      rw [List.getElem?_map, List.getElem?_range hi] at hz
      simp only [Option.map_some, Option.some.injEq] at hz
      subst hz
      obtain ⟨g0, g1, g2, _⟩ := hZ i hi
      have hsp := cell_spot (hZ 0 (by omega)).1
      obtain ⟨b, off, sp'⟩ := a'
      have hs0 : sp' = none := by simpa [Addr.add] using hsp
      subst hs0
      have hlt : b < W.heap.size := by simpa [Addr.add] using cell_block_lt g1
      simp only [Addr.add] at g0 g1
      refine ⟨b, off, V0 i, rfl, by simp; omega, hlt, ?_, by simpa using g1, g2⟩
      by_cases hi0 : i = 0
      · subst hi0; simpa using g0
      · rw [if_neg (by omega)] at g0; exact g0
    · intro z hz
      obtain ⟨i, hi, rfl⟩ := List.mem_map.1 hz
      exact (hZ i (by simpa using hi)).2.2.2
end
end Go.Proofs.Ytoekgcafhcamjaa
