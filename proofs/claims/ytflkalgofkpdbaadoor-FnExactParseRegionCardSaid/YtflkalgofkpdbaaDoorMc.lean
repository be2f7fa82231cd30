/- Plain facts on regions: a half is its normal and its bound, a region its dimension and its halves. -/
import Derived.Test.YtflkalgofkpdbaaDoorMa
import Derived.Test.YtflkalgofkpdbaaDoorMb
import Derived.Deep.SlicePairs
import Derived.Lib.SmallJoins
import Derived.Test.YtflkalgofkpdbaaDoorProg
import Derived.WalkLawsBesides
import Derived.WalkSpells
import Derived.BigQuiet
import Derived.Deep.QuietTactic
import Derived.Deep.RegionWith
import Derived.Deep.RegionHeld3
import Derived.Shelf.Abstract
namespace Go.Proofs.YtflkalgofkpdbaaDoor

/-- A half: its normal and its bound. -/
abbrev Hf := List Int × Int
def halfOk (n : Int) (h : Hf) : Bool := inR n 1 3 && (decide ((h.1.length : Int) = n) && (small h.1 20 && (decide (0 < allG h.1) && inR h.2 (-200) 200)))
def regOk (n : Int) (hs : List Hf) : Bool := hs.all (halfOk n) && (inR n 1 3 && decide (hs.length ≤ 8))
def hasL (hs : List Hf) (x : List Int) : Bool := hs.all fun h => decide (dotL h.1 x ≤ h.2)
def hasP (n : Int) (hs : List Hf) (x : List Int) : Bool := regOk n hs && (isV x && (decide ((x.length : Int) = n) && hasL hs x))
def moveH (v : List Int) (h : Hf) : Hf := (h.1, h.2 + dotL h.1 v)
def moveL (hs : List Hf) (v : List Int) : List Hf := hs.map (moveH v)
/-- The halves of the second that are not among the first's. -/
def newL (hs ks : List Hf) : List Hf := ks.filter fun h => decide (h ∉ hs)
def meetL (hs ks : List Hf) : List Hf := hs ++ newL hs ks
def moveR (n : Int) (hs : List Hf) (v : List Int) : (Int × List Hf) × Bool :=
  if regOk n hs = true ∧ isV v = true ∧ (v.length : Int) = n ∧ regOk n (moveL hs v) = true then ((n, moveL hs v), true) else ((0, []), false)
def meetR (n : Int) (hs : List Hf) (m : Int) (ks : List Hf) : (Int × List Hf) × Bool :=
  if regOk n hs = true ∧ regOk m ks = true ∧ n = m ∧ regOk n (meetL hs ks) = true then ((n, meetL hs ks), true) else ((0, []), false)
def eqR (n : Int) (hs : List Hf) (m : Int) (ks : List Hf) : Bool := decide (n = m ∧ hs = ks)

theorem halfOk_t {n : Int} {h : Hf} (hh : halfOk n h = true) : 1 ≤ n ∧ n ≤ 3 ∧ (h.1.length : Int) = n ∧ Bd h.1 20 ∧ 0 < allG h.1 ∧ -200 ≤ h.2 ∧ h.2 ≤ 200 := by
  unfold halfOk at hh
  simp only [Bool.and_eq_true, decide_eq_true_eq] at hh
  obtain ⟨h1, h2, h3, h4, h5⟩ := hh
  have a := inR_t h1
  have b := inR_t h5
  exact ⟨a.1, a.2, h2, small_bd h3, h4, by omega, by omega⟩
theorem all_take' {α : Type} {f : α → Bool} {m : List α} {k : Nat} (h : k < m.length) (h1 : (m.take k).all f = true) (h2 : f m[k] = true) : (m.take (k + 1)).all f = true := by
  rw [List.take_succ_eq_append_getElem h, List.all_append, h1, List.all_cons, h2]; rfl
theorem all_not' {α : Type} {f : α → Bool} {m : List α} {k : Nat} (h : k < m.length) (h2 : f m[k] = false) : m.all f = false := by
  rw [List.all_eq_false]
  exact ⟨m[k], List.getElem_mem h, by simp [h2]⟩
theorem regOk_t {n : Int} {hs : List Hf} (h : regOk n hs = true) : 1 ≤ n ∧ n ≤ 3 ∧ hs.length ≤ 8 ∧ ∀ (i : Nat) (hi : i < hs.length), halfOk n hs[i] = true := by
  unfold regOk at h
  simp only [Bool.and_eq_true, decide_eq_true_eq, List.all_eq_true] at h
  have a := inR_t h.2.1
  exact ⟨a.1, a.2, h.2.2, fun i hi => h.1 _ (List.getElem_mem hi)⟩
theorem regOk_half {n : Int} {hs : List Hf} {k : Nat} (hk : k < hs.length) (h : halfOk n hs[k] = false) : regOk n hs = false := by
  unfold regOk
  rw [all_not' hk h]; rfl
theorem regOk_mk {n : Int} {hs : List Hf} (h : hs.all (halfOk n) = true) : regOk n hs = (inR n 1 3 && decide (hs.length ≤ 8)) := by
  unfold regOk
  rw [h]; rfl
theorem move_take {hs : List Hf} {v : List Int} {k : Nat} (h : k < hs.length) : moveL (hs.take (k + 1)) v = moveL (hs.take k) v ++ [moveH v hs[k]] := by
  unfold moveL
  rw [List.take_succ_eq_append_getElem h, List.map_append]; rfl
theorem move_len (hs : List Hf) (v : List Int) : (moveL hs v).length = hs.length := by simp [moveL]
theorem new_take {hs ks : List Hf} {k : Nat} (h : k < ks.length) : newL hs (ks.take (k + 1)) = newL hs (ks.take k) ++ (if ks[k] ∈ hs then [] else [ks[k]]) := by
  unfold newL
  rw [List.take_succ_eq_append_getElem h, List.filter_append]
  by_cases hm : ks[k] ∈ hs <;> simp [hm]
theorem new_len_le (hs ks : List Hf) : (newL hs ks).length ≤ ks.length := List.length_filter_le ..
/-- Among the first i. -/
def seenL (hs : List Hf) (h : Hf) : Bool := decide (h ∈ hs)
theorem seen_take {hs : List Hf} {h : Hf} {k : Nat} (hk : k < hs.length) : seenL (hs.take (k + 1)) h = (seenL (hs.take k) h || decide (hs[k] = h)) := by
  unfold seenL
  have e : h ∈ hs.take (k + 1) ↔ (h ∈ hs.take k ∨ hs[k] = h) := by
    rw [List.take_succ_eq_append_getElem hk, List.mem_append, List.mem_singleton]
    exact or_congr Iff.rfl ⟨Eq.symm, Eq.symm⟩
  rw [← Bool.decide_or]
  exact decide_eq_decide.2 e
theorem eq_by_get {α : Type} {a b : List α} (hl : a.length = b.length) (h : ∀ (k : Nat) (h1 : k < a.length) (h2 : k < b.length), a[k] = b[k]) : a = b := List.ext_getElem hl h

/-- A region's text: semicolon 59, less-than 60, comma 44. -/
def halfL (tx : List Int → List UInt8) (nu : Int → List UInt8) (h : Hf) : List UInt8 := 59 :: (tx h.1 ++ 60 :: nu h.2)
def regL (tx : List Int → List UInt8) (nu : Int → List UInt8) (n : Int) (hs : List Hf) : List UInt8 := nu n ++ hs.flatMap (halfL tx nu)
theorem reg_take {tx : List Int → List UInt8} {nu : Int → List UInt8} {n : Int} {hs : List Hf} {k : Nat} (h : k < hs.length) :
    regL tx nu n (hs.take (k + 1)) = regL tx nu n (hs.take k) ++ halfL tx nu hs[k] := by
  unfold regL
  rw [List.take_succ_eq_append_getElem h, List.flatMap_append, List.append_assoc]
  simp
end Go.Proofs.YtflkalgofkpdbaaDoor
/- Slices of halves: how they read. A half takes two cells: the slice of its normal, then its bound. -/
namespace Go.Proofs.YtflkalgofkpdbaaDoor
open Go Go.RowKit Go.ChangeShapes Go.WideShapes Go.Deep Go.Joins

/-- The slice v reads as the halves hs. -/
def Hs (W : World) (v : Value) (hs : List Hf) : Prop :=
  ∃ (a : Option Addr) (c : Nat), v = .slice a hs.length c ∧ hs.length ≤ maxLen ∧
    ∀ (i : Nat) h, hs[i]? = some h → ∃ (b off : Nat) (u : Value), a = some ⟨b, off, none⟩ ∧ hs.length ≤ c ∧ b < W.heap.size ∧
      W.cell? ⟨b, off + i * 2, none⟩ = some u ∧ W.cell? ⟨b, off + (i * 2 + 1), none⟩ = some (.int .i64 h.2) ∧ Sl W u (intVals h.1)
theorem Hs.below {W W' : World} {v : Value} {hs : List Hf} (h : Hs W v hs) (hb : Below W.heap.size W W') : Hs W' v hs := by
  obtain ⟨a, c, rfl, hm, hx⟩ := h
  refine ⟨a, c, rfl, hm, fun i x hi => ?_⟩
  obtain ⟨b, off, u, h1, h2, h3, h4, h5, h6⟩ := hx i x hi
  exact ⟨b, off, u, h1, h2, Nat.lt_of_lt_of_le h3 hb.size, (hb.cell (p := ⟨b, off + i * 2, none⟩) h3).trans h4, (hb.cell (p := ⟨b, off + (i * 2 + 1), none⟩) h3).trans h5, h6.below hb⟩
theorem Hs.shape {W : World} {v : Value} {hs : List Hf} (h : Hs W v hs) : ∃ (a : Option Addr) (c : Nat), v = .slice a hs.length c ∧ hs.length ≤ maxLen := by
  obtain ⟨a, c, h1, h2, _⟩ := h
  exact ⟨a, c, h1, h2⟩
/-- Half i. -/
theorem Hs.half {W : World} {v : Value} {hs : List Hf} (h : Hs W v hs) (i : Nat) (hi : i < hs.length) {a : Option Addr} {n c : Nat} (hv : v = .slice a n c) :
    ∃ (b off : Nat) (u : Value), a = some ⟨b, off, none⟩ ∧ hs.length ≤ c ∧ b < W.heap.size ∧ W.cell? ⟨b, off + i * 2, none⟩ = some u ∧ W.cell? ⟨b, off + i * 2 + 1, none⟩ = some (.int .i64 hs[i].2) ∧ Sl W u (intVals hs[i].1) := by
  obtain ⟨a', c', e, _, hx⟩ := h
  rw [hv] at e
  simp only [Value.slice.injEq] at e
  obtain ⟨rfl, rfl, rfl⟩ := e
  exact hx i _ (List.getElem?_eq_getElem hi)

/-- Every number of the halves is one of the machine. -/
def HWf (hs : List Hf) : Prop := ∀ h ∈ hs, (Lit.int .i64 h.2).wf = true ∧ ∀ z ∈ h.1, (Lit.int .i64 z).wf = true
instance : Inhabited (Int × List Int) := ⟨(0, [])⟩
section
variable {H : Type} {enc : TypeId × Value → H} {P : Program}
/-- What came in as a slice of halves. -/
theorem halves_came {W : World} {base : Nat} {sp : Nat → Bool} {held : Bool} {t e q : TypeId} {f0 f1 : Field} {fuel : Nat} {a : Option Addr} {len cap : Nat} {x : DataW H × List MemPlace}
    (ht : P.underlying t = some (.slice e)) (he : P.underlying e = some (.struct #[f0, f1])) (ce : P.cellsOf e = 2) (o0 : f0.offset = 0) (o1 : f1.offset = 1) (c0 : P.cellsOf f0.type = 1) (c1 : P.cellsOf f1.type = 1)
    (h0 : P.underlying f0.type = some (.slice q)) (hq : P.underlying q = some (.int .i64)) (cq : P.cellsOf q = 1) (h1 : P.underlying f1.type = some (.int .i64))
    (h : DataW.trod enc P W base sp held fuel t [.slice a len cap] = some x) :
    ∃ hs : List Hf, hs.length = len ∧ Hs W (.slice a len cap) hs ∧ HWf hs := by
  rcases open_slice_pairs ht he ce o0 o1 c0 c1 h with ⟨hcs, _⟩ | ⟨a', len', cap', m, n, V0, V1, D0, D1, P0, P1, hcs, hb, hl, hm, hmm, _, hx⟩
  · simp only [List.cons.injEq, Value.slice.injEq, and_true] at hcs
    obtain ⟨rfl, rfl, rfl⟩ := hcs
    exact ⟨[], rfl, ⟨none, 0, rfl, by simp, fun i u hu => by simp at hu⟩, fun h hh => by simp at hh⟩
  · simp only [List.cons.injEq, Value.slice.injEq, and_true] at hcs
    obtain ⟨rfl, rfl, rfl⟩ := hcs
    have hle : len ≤ m := by rw [hmm]; split <;> omega
    have each : ∀ i, i < len → ∃ z : Hf, W.cell? (a'.add (i * 2)) = some (V0 i) ∧ W.cell? (a'.add (i * 2 + 1)) = some (.int .i64 z.2) ∧ Sl W (V0 i) (intVals z.1) ∧ (Lit.int .i64 z.2).wf = true ∧ ∀ y ∈ z.1, (Lit.int .i64 y).wf = true := by
      intro i hi
      obtain ⟨g0, g1, g2, g3⟩ := hx i (by omega)
      obtain ⟨zs, s1, s2⟩ := sl_of_trod h0 hq cq g2
      obtain ⟨y, e1, _, hw⟩ := DataW.trod_int h1 g3
      simp only [List.cons.injEq, and_true] at e1
      exact ⟨(zs, y), g0, by rw [g1, e1], s1, hw, s2⟩
    obtain ⟨Z, hZ⟩ := choose_lt each
    refine ⟨(List.range len).map Z, by simp, ⟨some a', cap, by simp, by simp; omega, ?_⟩, ?_⟩
    · intro i z hz
      have hi := lt_of_get hz
      simp only [List.length_map, List.length_range] at hi
      rw [List.getElem?_map, List.getElem?_range hi] at hz
      simp only [Option.map_some, Option.some.injEq] at hz
      subst hz
      obtain ⟨g0, g1, g2, _⟩ := hZ i hi
      have hsp := cell_spot (hZ 0 (by omega)).1
      obtain ⟨b, off, sp'⟩ := a'
      have hs0 : sp' = none := by simpa [Addr.add] using hsp
      subst hs0
      have hlt : b < W.heap.size := by simpa [Addr.add] using cell_block_lt g1
      simp only [Addr.add] at g0 g1
      refine ⟨b, off, V0 i, rfl, by simp; omega, hlt, ?_, by simpa using g1, g2⟩
      by_cases hi0 : i = 0
      · subst hi0; simpa using g0
      · rw [if_neg (by omega)] at g0; exact g0
    · intro z hz
      obtain ⟨i, hi, rfl⟩ := List.mem_map.1 hz
      exact (hZ i (by simpa using hi)).2.2.2
end
end Go.Proofs.YtflkalgofkpdbaaDoor
/- Halves that the call made itself: a block of two cells for each, every normal in a block of its own. -/
namespace Go.Proofs.YtflkalgofkpdbaaDoor
open Go Go.RowKit Go.Deep

/-- The cells of a row of halves: us are the slices of the normals. -/
def flat : List Value → List Hf → List Value
  | u :: us, h :: hs => u :: .int .i64 h.2 :: flat us hs
  | _, _ => []
theorem flat_len : ∀ (us : List Value) (hs : List Hf), us.length = hs.length → (flat us hs).length = hs.length * 2
  | [], [], _ => rfl
  | u :: us, h :: hs, e => by
    have := flat_len us hs (by simpa using e)
    simp only [flat, List.length_cons, this]; omega
theorem flat_get0 : ∀ (us : List Value) (hs : List Hf) (i : Nat), us.length = hs.length → (flat us hs)[i * 2]? = us[i]?
  | [], [], i, _ => by simp [flat]
  | u :: us, h :: hs, 0, _ => by simp [flat]
  | u :: us, h :: hs, i + 1, e => by
    have := flat_get0 us hs i (by simpa using e)
    rw [show (i + 1) * 2 = i * 2 + 1 + 1 from by omega]
    simpa only [flat, List.getElem?_cons_succ] using this
theorem flat_get1 : ∀ (us : List Value) (hs : List Hf) (i : Nat), us.length = hs.length → (flat us hs)[i * 2 + 1]? = hs[i]?.map fun h => .int .i64 h.2
  | [], [], i, _ => by simp [flat]
  | u :: us, h :: hs, 0, _ => by simp [flat]
  | u :: us, h :: hs, i + 1, e => by
    have := flat_get1 us hs i (by simpa using e)
    rw [show (i + 1) * 2 + 1 = i * 2 + 1 + 1 + 1 from by omega]
    simpa only [flat, List.getElem?_cons_succ] using this
/-- A normal's slice is put in place i. -/
theorem flat_set0 : ∀ (us : List Value) (hs : List Hf) (i : Nat) (u : Value), us.length = hs.length → (flat us hs).set (i * 2) u = flat (us.set i u) hs
  | [], [], i, _, _ => by simp [flat]
  | x :: us, h :: hs, 0, u, _ => by simp [flat]
  | x :: us, h :: hs, i + 1, u, e => by
    have := flat_set0 us hs i u (by simpa using e)
    rw [show (i + 1) * 2 = i * 2 + 1 + 1 from by omega]
    simp only [flat, List.set_cons_succ, this]
/-- A bound is put in place i: its half keeps its normal. -/
theorem flat_set1 : ∀ (us : List Value) (hs : List Hf) (i : Nat) (h' : Hf), us.length = hs.length → (flat us hs).set (i * 2 + 1) (.int .i64 h'.2) = flat us (hs.set i h')
  | [], [], i, _, _ => by simp [flat]
  | x :: us, h :: hs, 0, h', _ => by simp [flat]
  | x :: us, h :: hs, i + 1, h', e => by
    have := flat_set1 us hs i h' (by simpa using e)
    rw [show (i + 1) * 2 + 1 = i * 2 + 1 + 1 + 1 from by omega]
    simp only [flat, List.set_cons_succ, this]

/-- The halves hs lie at v, in blocks of their own between lo and hi, no two in one. T: the type of a half; e: of a number. -/
def OwH (T e : TypeId) (lo hi : Nat) (w : World) (v : Value) (hs : List Hf) : Prop :=
  ∃ us : List Value, us.length = hs.length ∧ w.ownsRow lo T 2 v hs.length (flat us hs) ∧ (∀ b, v.ownBlock = some b → b < hi) ∧
    (∀ (i : Nat) u h, us[i]? = some u → hs[i]? = some h → OwnV e lo hi w u (intVals h.1)) ∧
    (∀ (i j : Nat) u u' b, i ≠ j → us[i]? = some u → us[j]? = some u' → u.ownBlock = some b → u'.ownBlock ≠ some b) ∧ (∀ (i : Nat) u b, us[i]? = some u → u.ownBlock = some b → v.ownBlock ≠ some b)
theorem OwH.nil {T e : TypeId} {lo hi : Nat} {w : World} : OwH T e lo hi w (.slice none 0 0) [] :=
  ⟨[], rfl, ⟨rfl, .inl ⟨rfl, rfl⟩⟩, fun b hb => by simp [Value.ownBlock] at hb, fun i u h hu => by simp at hu, fun i j u u' b _ hu => by simp at hu, fun i u b hu => by simp at hu⟩
theorem OwH.mono {T e : TypeId} {lo hi lo' hi' : Nat} {w : World} {v : Value} {hs : List Hf} (h : OwH T e lo hi w v hs) (h1 : lo' ≤ lo) (h2 : hi ≤ hi') : OwH T e lo' hi' w v hs := by
  obtain ⟨us, k1, k2, k3, k4, k5, k6⟩ := h
  exact ⟨us, k1, Go.Joins.ownsRow_le k2 h1, fun b hb => Nat.lt_of_lt_of_le (k3 b hb) h2, fun i u x hu hx => (k4 i u x hu hx).mono h1 h2, k5, k6⟩
theorem owns2_below {T : TypeId} {lo n : Nat} {w w' : World} {v : Value} {xs : List Value} (h : w.ownsRow lo T 2 v n xs) (hb : Below w.heap.size w w') : w'.ownsRow lo T 2 v n xs := by
  obtain ⟨h1, h2⟩ := h
  refine ⟨h1, ?_⟩
  rcases h2 with h2 | ⟨g, cap, cur, e, hg, hh, hr⟩
  · exact .inl h2
  · exact .inr ⟨g, cap, cur, e, hg, by rw [hb.block g (lt_of_heap hh)]; exact hh, hr⟩
theorem OwH.below {T e : TypeId} {lo hi : Nat} {w w' : World} {v : Value} {hs : List Hf} (h : OwH T e lo hi w v hs) (hb : Below w.heap.size w w') : OwH T e lo hi w' v hs := by
  obtain ⟨us, k1, k2, k3, k4, k5, k6⟩ := h
  exact ⟨us, k1, owns2_below k2 hb, k3, fun i u x hu hx => (k4 i u x hu hx).below hb, k5, k6⟩
theorem OwH.hs {T e : TypeId} {lo hi : Nat} {w : World} {v : Value} {hs : List Hf} (h : OwH T e lo hi w v hs) : Hs w v hs := by
  obtain ⟨us, k1, k2, k3, k4, _, _⟩ := h
  have k2' := k2
  obtain ⟨h1, h2⟩ := k2
  rcases h2 with ⟨rfl, h0⟩ | ⟨g, cap, cur, rfl, hg, hh, hn, hm, hs', ht⟩
  · have : hs = [] := List.eq_nil_of_length_eq_zero h0
    subst this
    exact ⟨none, 0, rfl, by simp, fun i x hx => by simp at hx⟩
  · refine ⟨_, cap, rfl, by omega, fun i x hx => ?_⟩
    have hi := lt_of_get hx
    have hu : us[i]? = some us[i] := List.getElem?_eq_getElem (by omega)
    refine ⟨g, 0, us[i], rfl, hn, lt_of_heap hh, ?_, ?_, (k4 i _ x hu hx).sl⟩
    · rw [Nat.zero_add, k2'.cellAt (i * 2) (by omega), flat_get0 us hs i k1, hu]
    · rw [Nat.zero_add, k2'.cellAt (i * 2 + 1) (by omega), flat_get1 us hs i k1, hx]; rfl
theorem OwH.kept {T e : TypeId} {lo hi a b : Nat} {w w' : World} {v : Value} {hs : List Hf} (h : OwH T e lo hi w v hs) (hk : Kept a b w w') (hd : hi ≤ a ∨ b ≤ lo) : OwH T e lo hi w' v hs := by
  obtain ⟨us, k1, ⟨h1, h2⟩, k3, k4, k5, k6⟩ := h
  refine ⟨us, k1, ⟨h1, ?_⟩, k3, fun i u x hu hx => (k4 i u x hu hx).kept hk hd, k5, k6⟩
  rcases h2 with h2 | ⟨g, cap, cur, rfl, hg, hh, hr⟩
  · exact .inl h2
  · have := k3 g rfl
    exact .inr ⟨g, cap, cur, rfl, hg, by rw [hk.block g (lt_of_heap hh) (by omega)]; exact hh, hr⟩
/-- Half i: its two cells, its normal; a step that changes this normal alone changes the whole in this place alone. -/
theorem OwH.at {T e : TypeId} {lo hi : Nat} {w : World} {v : Value} {hs : List Hf} (h : OwH T e lo hi w v hs) (j : Nat) (hj : j < hs.length) {a : Option Addr} {n c : Nat} (hv : v = .slice a n c) :
    ∃ (b : Nat) (u : Value), a = some ⟨b, 0, none⟩ ∧ lo ≤ b ∧ b < hi ∧ b < w.heap.size ∧ w.cell? ⟨b, j * 2, none⟩ = some u ∧ w.cell? ⟨b, j * 2 + 1, none⟩ = some (.int .i64 hs[j].2) ∧
      w.frozen? ⟨b, j * 2, none⟩ = false ∧ w.frozen? ⟨b, j * 2 + 1, none⟩ = false ∧ OwnV e lo hi w u (intVals hs[j].1) ∧ u.ownBlock ≠ some b := by
  obtain ⟨us, k1, k2, k3, k4, k5, k6⟩ := h
  have hu : us[j]? = some us[j] := List.getElem?_eq_getElem (by omega)
  obtain ⟨g, cap, e1⟩ := Go.Joins.ownsRow_form k2 (by omega)
  subst e1
  simp only [Value.slice.injEq] at hv
  obtain ⟨rfl, rfl, rfl⟩ := hv
  have hlt := k2.lt g rfl
  refine ⟨g, us[j], rfl, hlt.1, k3 g rfl, hlt.2, ?_, ?_, k2.frozenAt _, k2.frozenAt _, k4 j _ _ hu (List.getElem?_eq_getElem hj), fun hb => k6 j _ g hu hb rfl⟩
  · rw [k2.cellAt (j * 2) (by omega), flat_get0 us hs j k1, hu]
  · rw [k2.cellAt (j * 2 + 1) (by omega), flat_get1 us hs j k1, List.getElem?_eq_getElem hj]; rfl
/-- A bound is stored. -/
theorem OwH.bound {T e : TypeId} {lo hi : Nat} {w : World} {b n c : Nat} {hs : List Hf} (h : OwH T e lo hi w (.slice (some ⟨b, 0, none⟩) n c) hs) (j : Nat) (hj : j < hs.length) (z : Int) :
    OwH T e lo hi (w.setCell ⟨b, j * 2 + 1, none⟩ (.int .i64 z)) (.slice (some ⟨b, 0, none⟩) n c) (hs.set j (hs[j].1, z)) := by
  obtain ⟨us, k1, k2, k3, k4, k5, k6⟩ := h
  obtain ⟨g, cap, e1⟩ := Go.Joins.ownsRow_form k2 (by omega)
  simp only [Value.slice.injEq, Option.some.injEq, Addr.mk.injEq] at e1
  obtain ⟨⟨rfl, _, _⟩, rfl, rfl⟩ := e1
  have hkept : Kept b (b + 1) w (w.setCell ⟨b, j * 2 + 1, none⟩ (.int .i64 z)) := (Kept.refl b (b + 1) w).setCell (p := ⟨b, j * 2 + 1, none⟩) (Nat.le_refl _) (Nat.lt_succ_self _) _
  have hst := (k2.stored (j * 2 + 1) (.int .i64 z)).1
  rw [flat_set1 us hs j (hs[j].1, z) k1] at hst
  refine ⟨us, by rw [List.length_set, k1], by rw [List.length_set]; exact hst, k3, ?_, k5, k6⟩
  intro i u x hu hx
  have hfar : ∀ y : Hf, hs[i]? = some y → OwnV e lo hi (w.setCell ⟨b, j * 2 + 1, none⟩ (.int .i64 z)) u (intVals y.1) := fun y hy => (k4 i u y hu hy).far hkept (fun hb => k6 i u b hu hb rfl)
  rw [get_set _ _ _ _ hj] at hx
  split at hx
  · rename_i hij
    subst hij
    obtain rfl := Option.some.inj hx
    exact hfar hs[i] (List.getElem?_eq_getElem hj)
  · exact hfar x hx
theorem flat_congr : ∀ (us : List Value) (hs ks : List Hf), hs.map (·.2) = ks.map (·.2) → flat us hs = flat us ks
  | [], _, _, _ => by simp [flat]
  | _ :: _, [], [], _ => rfl
  | _ :: _, [], _ :: _, e => by simp at e
  | _ :: _, _ :: _, [], e => by simp at e
  | u :: us, h :: hs, k :: ks, e => by
    simp only [List.map_cons, List.cons.injEq] at e
    simp only [flat, e.1, flat_congr us hs ks e.2]
/-- Another normal is put in place j: one that lies in a block of its own. -/
theorem OwH.put {T e : TypeId} {lo hi : Nat} {w : World} {hs : List Hf} {b n c : Nat} (h : OwH T e lo hi w (.slice (some ⟨b, 0, none⟩) n c) hs) (j : Nat) (hj : j < hs.length) {u : Value} {ys : List Int}
    (hu : OwnV e lo hi w u (intVals ys)) (hne : ∀ x, u.ownBlock = some x → x ≠ b ∧ ∀ (i : Nat) r, w.cell? ⟨b, i, none⟩ = some r → r.ownBlock ≠ some x) :
    OwH T e lo hi (w.setCell ⟨b, j * 2, none⟩ u) (.slice (some ⟨b, 0, none⟩) n c) (hs.set j (ys, hs[j].2)) := by
  obtain ⟨us, k1, k2, k3, k4, k5, k6⟩ := h
  obtain ⟨g, cap, e1⟩ := Go.Joins.ownsRow_form k2 (by omega)
  simp only [Value.slice.injEq, Option.some.injEq, Addr.mk.injEq] at e1
  obtain ⟨⟨rfl, _, _⟩, rfl, rfl⟩ := e1
  have hju : j < us.length := by omega
  have hkept : Kept b (b + 1) w (w.setCell ⟨b, j * 2, none⟩ u) := (Kept.refl b (b + 1) w).setCell (p := ⟨b, j * 2, none⟩) (Nat.le_refl _) (Nat.lt_succ_self _) _
  have hcell : ∀ i r, us[i]? = some r → w.cell? ⟨b, i * 2, none⟩ = some r := fun i r hr => by
    have := lt_of_get hr
    rw [k2.cellAt (i * 2) (by omega), flat_get0 us hs i k1]; exact hr
  have hst := (k2.stored (j * 2) u).1
  rw [flat_set0 us hs j u k1, flat_congr (us.set j u) hs (hs.set j (ys, hs[j].2)) (by rw [List.map_set]; exact (List.ext_getElem (by simp) fun i h1 h2 => by
    rw [List.getElem_set]; split
    · rename_i hij; subst hij; simp
    · rfl))] at hst
  refine ⟨us.set j u, by rw [List.length_set, List.length_set, k1], by rw [List.length_set]; exact hst, k3, ?_, ?_, ?_⟩
  · intro i x y hx hy
    rw [get_set _ _ _ _ hju] at hx
    rw [get_set _ _ _ _ hj] at hy
    split at hx
    · rename_i hij
      rw [if_pos hij] at hy
      obtain rfl := Option.some.inj hx
      obtain rfl := Option.some.inj hy
      exact hu.far hkept (fun hub => (hne b hub).1 rfl)
    · rename_i hij
      rw [if_neg hij] at hy
      exact (k4 i x y hx hy).far hkept (fun hub => k6 i x b hx hub rfl)
  · intro i k x y q hik hx hy hxq
    rw [get_set _ _ _ _ hju] at hx hy
    split at hx
    · rename_i hij
      rw [if_neg (by omega)] at hy
      obtain rfl := Option.some.inj hx
      exact (hne q hxq).2 (k * 2) y (hcell k y hy)
    · split at hy
      · obtain rfl := Option.some.inj hy
        intro hyq
        exact (hne q hyq).2 (i * 2) x (hcell i x hx) hxq
      · exact k5 i k x y q hik hx hy hxq
  · intro i x q hx hxq
    rw [get_set _ _ _ _ hju] at hx
    split at hx
    · obtain rfl := Option.some.inj hx
      intro hb
      have : b = q := by simpa [Value.ownBlock] using hb
      exact (hne q hxq).1 this.symm
    · exact k6 i x q hx hxq

/-- How many numbers there are in the normals; with a bound for each half. -/
def totN (hs : List Hf) : Nat := (hs.map fun h => h.1.length).sum
def totH (hs : List Hf) : Nat := (hs.map fun h => h.1.length + 1).sum
theorem totN_take {hs : List Hf} {k : Nat} (h : k < hs.length) : totN (hs.take (k + 1)) = totN (hs.take k) + hs[k].1.length := by
  unfold totN
  rw [List.take_succ_eq_append_getElem h, List.map_append, List.sum_append]; simp
theorem totH_take {hs : List Hf} {k : Nat} (h : k < hs.length) : totH (hs.take (k + 1)) = totH (hs.take k) + hs[k].1.length + 1 := by
  unfold totH
  rw [List.take_succ_eq_append_getElem h, List.map_append, List.sum_append]; simp; omega
theorem totN_take_le (hs : List Hf) (k : Nat) : totN (hs.take k) ≤ totN hs := by
  unfold totN
  conv => rhs; rw [← List.take_append_drop k hs, List.map_append, List.sum_append]
  omega
theorem totH_eq (hs : List Hf) : totH hs = totN hs + hs.length := by
  induction hs with
  | nil => rfl
  | cons h hs ih => simp only [totH, totN, List.map_cons, List.sum_cons, List.length_cons] at ih ⊢; omega
/-- What the size of the halves answers: one for each half and one for each number of a normal. -/
def szHs (hs : List Hf) (left : Int) : Int := if left < hs.length + totN hs then -1 else left - hs.length - totN hs
/-- Halves of marks from k on: the numbers of a normal, then its bound. -/
def hmarks : Nat → List Hf → List Hf
  | _, [] => []
  | k, h :: hs => ((List.range h.1.length).map (fun i => ((k + i : Nat) : Int)), ((k + h.1.length : Nat) : Int)) :: hmarks (k + h.1.length + 1) hs
theorem hmarks_len : ∀ (k : Nat) (hs : List Hf), (hmarks k hs).length = hs.length
  | _, [] => rfl
  | k, h :: hs => by simp [hmarks, hmarks_len]
theorem hmarks_get : ∀ (k : Nat) (hs : List Hf) (j : Nat) (h : j < hs.length), (hmarks k hs)[j]? = some ((List.range hs[j].1.length).map (fun i => ((k + totH (hs.take j) + i : Nat) : Int)), ((k + totH (hs.take j) + hs[j].1.length : Nat) : Int))
  | k, [], j, h => by simp at h
  | k, r :: rs, 0, _ => by simp [hmarks, totH]
  | k, r :: rs, j + 1, h => by
    have ih := hmarks_get (k + r.1.length + 1) rs j (by simpa using h)
    simp only [hmarks, List.getElem?_cons_succ, List.getElem_cons_succ]
    rw [ih]
    simp only [List.take_succ_cons, totH, List.map_cons, List.sum_cons, Nat.add_assoc]
end Go.Proofs.YtflkalgofkpdbaaDoor
/- A copy of a slice of integers. -/
namespace Go.Proofs.YtflkalgofkpdbaaDoor
open Go.RowKit Go.Lib

theorem info_int : (Tryd.prog.info? 3).map (fun i => (i.zero, i.size, i.bytes)) = some (some (.int .i64 0), 1, 8) := by kernel_rfl

set_option maxRecDepth 100000 in
set_option maxHeartbeats 400000 in
theorem to_int (zs : List Int) (v : Value) (w : World) (hv : Sl w v (intVals zs)) (hl : zs.length ≤ 1048576) :
    Calls Tryd.prog 54 #[v] w fun e w' => (∃ v', e = .returned v' ∧ w'.ownsRow w.heap.size 3 1 v' zs.length (intVals zs)) ∧ Below w.heap.size w w' := by
  obtain ⟨a, c, rfl, hm, hopen⟩ := hv.shape
  rw [intVals_len] at hm hopen ⊢
  unfold maxLen at hm
  obtain ⟨i0, hi, hz0, hz1, hz2⟩ := info_parts info_int
  have HO := Lib.hid hopen
  clear hopen hv
  go_enter Tryd.func54, Tryd.ntmps54
  go_wp2_with (at_make; refine wpList_make_full _ rfl _ _ 41 rfl w.heap.size 3 i0 _ 1 Tryd.underlying41 hi hz0 hz1 .i64 .i64 _ _ zs.length rfl rfl rfl rfl (by rw [hz2]; omega) (by unfold maxLen; omega) (Nat.le_refl _) ?_; intro w1 hown hgrow)
  have hbel : Below w.heap.size w w1 := (Below.refl _ _).grown hgrow (Nat.le_refl _) (fun _ h => by cases h)
  rw [show (Value.int .i64 0).cells = #[Value.int .i64 0] from rfl, toList_madeCells_one, Nat.mul_one, show zs.length = (intVals zs).length from (intVals_len zs).symm, ← filled_zero (intVals zs)] at hown
  rw [intVals_len] at hown
  have HW := Lib.hid hown
  have HB := Lib.hid hbel
  have hsz1 : w.heap.size < w1.heap.size := (hown.lt _ rfl).2
  clear hown hgrow hbel hi hz0 hz1 hz2
  go_loopw [4] (fun i wr => ∃ k : Nat, k ≤ zs.length ∧ i = .int .i64 k ∧ wr.ownsRow w.heap.size 3 1 (.slice (some ⟨w.heap.size, 0, none⟩) zs.length zs.length) zs.length (filled (intVals zs) (.int .i64 0) k) ∧ Below w.heap.size w wr) (fun i _ => zs.length - (RowKit.intOf i).toNat)
  case atStart => exact ⟨0, Nat.zero_le _, rfl, HW.out, HB.out⟩
  case round =>
    obtain ⟨k, hk, rfl, how, hbr⟩ := hrel
    by_cases hlt : k < zs.length
    · obtain ⟨b, off, rfl, hc, hlt2, hx⟩ := HO.out (by omega)
      have hcell := hx k _ (intVals_get zs k hlt)
      rw [← hbr.cell (p := ⟨b, off + k, none⟩) hlt2] at hcell
      have hmine := how.cellAt k (by omega)
      rw [filled_get _ _ _ (by rw [intVals_len]; exact hlt)] at hmine
      have hfree := how.frozenAt k
      have HS := Lib.hid (how.stored k (.int .i64 zs[k]))
      have HR := Lib.hid hbr
      clear hx how hbr
      go_wp2
      have h2 := HS.out.1
      rw [filled_step _ _ _ _ (intVals_get zs k hlt)] at h2
      exact ⟨⟨k + 1, by omega, by go_num, h2, HR.out.setCell (Nat.le_refl _) _⟩, by simp [RowKit.intOf]; omega⟩
    · obtain rfl : k = zs.length := by omega
      have HA := Lib.hid how
      have HR := Lib.hid hbr
      clear how hbr
      go_wp2
      go_ret
      have h := HA.out
      have hfa := filled_all (intVals zs) (.int .i64 0)
      rw [intVals_len] at hfa
      rw [hfa] at h
      exact ⟨⟨_, rfl, h⟩, HR.out⟩
end Go.Proofs.YtflkalgofkpdbaaDoor
/- A copy of a slice of slices of integers; its measure. -/
namespace Go.Proofs.YtflkalgofkpdbaaDoor
open Go.RowKit Go.Lib

theorem info_row : (Tryd.prog.info? 41).map (fun i => (i.zero, i.size, i.bytes)) = some (some (.slice none 0 0), 1, 24) := by kernel_rfl

/-- How far the copy has come. -/
def RowsTo (B n k : Nat) (zss : List (List Int)) (wr : World) : Prop :=
  ∃ vs : List Value, vs.length = n ∧ wr.ownsRow B 41 1 (.slice (some ⟨B, 0, none⟩) n n) n vs ∧
    (∀ (i : Nat) u zs, i < k → vs[i]? = some u → zss[i]? = some zs → OwnV 3 (B + 1) wr.heap.size wr u (intVals zs)) ∧
    (∀ (i j : Nat) u u' b, i < k → j < k → i ≠ j → vs[i]? = some u → vs[j]? = some u' → u.ownBlock = some b → u'.ownBlock ≠ some b)
theorem RowsTo.step {B n k : Nat} {zss : List (List Int)} {wr w1 : World} {u : Value} {zs : List Int} (h : RowsTo B n k zss wr) (hb : Below wr.heap.size wr w1) (hk : k < n) (hB : B < wr.heap.size)
    (hz : zss[k]? = some zs) (hu : OwnV 3 wr.heap.size w1.heap.size w1 u (intVals zs)) : RowsTo B n (k + 1) zss (w1.setCell ⟨B, k, none⟩ u) := by
  obtain ⟨vs, h1, h2, h3, h4⟩ := h
  have h2' := (owns_below h2 hb)
  have h5 := (h2'.stored k u).1
  have hkept : Kept B (B + 1) w1 (w1.setCell ⟨B, k, none⟩ u) := (Kept.refl B (B + 1) w1).setCell (p := ⟨B, k, none⟩) (Nat.le_refl _) (Nat.lt_succ_self _) u
  have hsz : (w1.setCell ⟨B, k, none⟩ u).heap.size = w1.heap.size := by simp [World.setCell]
  have get : ∀ i, (vs.set k u)[i]? = if i = k then some u else vs[i]? := by
    intro i
    rw [List.getElem?_set]
    by_cases hi : k = i
    · subst hi; simp [h1, hk]
    · rw [if_neg hi, if_neg (fun e => hi e.symm)]
  have place : ∀ (i : Nat) x b, i < k → vs[i]? = some x → x.ownBlock = some b → b < wr.heap.size := by
    intro i x b hi hx hb
    by_cases hzi : i < zss.length
    · exact ((h3 i x _ hi hx (List.getElem?_eq_getElem hzi)).place hb).2.1
    · have : k < zss.length := by
        by_cases hh : k < zss.length
        · exact hh
        · rw [List.getElem?_eq_none (by omega)] at hz; cases hz
      omega
  refine ⟨vs.set k u, by rw [List.length_set, h1], h5, ?_, ?_⟩
  · intro i x ys hi hx hy
    rw [get] at hx
    rw [hsz]
    split at hx
    · rename_i e
      subst e
      obtain rfl : u = x := by simpa using hx
      rw [hz] at hy
      obtain rfl : zs = ys := by simpa using hy
      exact (hu.mono (by omega) (Nat.le_refl _)).kept hkept (.inr (Nat.le_refl _))
    · have := h3 i x ys (by omega) hx hy
      exact ((this.below hb).mono (Nat.le_refl _) hb.size).kept hkept (.inr (Nat.le_refl _))
  · intro i j x y b hi hj hne hx hy hxb
    rw [get] at hx hy
    split at hx
    · split at hy
      · omega
      · rename_i e _
        obtain rfl : u = x := by simpa using hx
        have p1 := (hu.place hxb).1
        intro hyb
        have := place j y b (by omega) hy hyb
        omega
    · split at hy
      · obtain rfl : u = y := by simpa using hy
        intro hyb
        have p1 := (hu.place hyb).1
        have := place i x b (by omega) hx hxb
        omega
      · exact h4 i j x y b (by omega) (by omega) hne hx hy hxb

/-- What szIntS answers. -/
def szI (left n : Int) : Int := if left < n then -1 else left - n
set_option maxRecDepth 100000 in
set_option maxHeartbeats 800000 in
theorem sz_int (zs : List Int) (v : Value) (left : Int) (w : World) (hv : Sl w v (intVals zs)) (h1 : -1 ≤ left) (h2 : left ≤ 1048576) :
    Calls Tryd.prog 51 #[v, .int .i64 left] w fun e w' => e = .returned (.int .i64 (szI left zs.length)) ∧ w = w' := by
  obtain ⟨a, c, rfl, hm, _⟩ := hv.shape
  rw [intVals_len] at hm ⊢
  unfold maxLen at hm
  clear hv
  by_cases h : left < zs.length
  · have e := Lib.hid (show szI left zs.length = -1 from if_pos h)
    have h3 : left - zs.length < 0 := by omega
    go_enter Tryd.func51, Tryd.ntmps51
    go_wp2
    go_ret
    exact ⟨ret_int e.out.symm, rfl⟩
  · have e := Lib.hid (show szI left zs.length = left - zs.length from if_neg h)
    have h3 : ¬ left - zs.length < 0 := by omega
    go_enter Tryd.func51, Tryd.ntmps51
    go_wp2
    go_ret
    exact ⟨ret_int e.out.symm, rfl⟩

theorem szR_small {zss : List (List Int)} {left : Int} (h : left < zss.length + tot zss) : szR zss left = -1 := if_pos h
theorem szR_fits {zss : List (List Int)} {left : Int} (h : ¬ left < zss.length + tot zss) : szR zss left = left - zss.length - tot zss := if_neg h
end Go.Proofs.YtflkalgofkpdbaaDoor
/- append(out, row) where out is a slice of slices that the call made. -/
namespace Go.Proofs.YtflkalgofkpdbaaDoor
open Go.RowKit Go.Lib

theorem OwnV.grown {e : TypeId} {lo hi : Nat} {w w' : World} {r : Option Nat} {v : Value} {xs : List Value} (h : OwnV e lo hi w v xs) (hg : w.grownBy w' r) (hne : ∀ b, v.ownBlock = some b → some b ≠ r) : OwnV e lo hi w' v xs := by
  rcases h with h | ⟨b, cap, cur, rfl, h1, h2, hb, hr⟩
  · exact .inl h
  · exact .inr ⟨b, cap, cur, rfl, h1, h2, by rw [hg.block b (lt_of_heap hb) (hne b rfl)]; exact hb, hr⟩
theorem owr_empty {T e : TypeId} {w : World} {base : Nat} (hb : base ≤ w.heap.size) : OwR T e base (w.alloc (.cells #[] T)).heap.size (w.alloc (.cells #[] T)) (.slice (some ⟨w.heap.size, 0, none⟩) 0 0) [] :=
  ⟨[], rfl, OwnV.of_owns (owns_none hb), fun i u zs hu => by simp at hu, fun i j u u' b _ hu => by simp at hu, fun i u b hu => by simp at hu⟩
theorem own_one {e : TypeId} {lo hi : Nat} {w : World} {v : Value} {xs : List Value} (h : OwnV e lo hi w v xs) : v.oneCell' = true := by
  rcases h with ⟨_, rfl⟩ | ⟨b, cap, cur, rfl, _⟩ <;> rfl
/-- A row is put behind the others. -/
theorem OwR.snoc {T e : TypeId} {base m : Nat} {w w' : World} {v v' u : Value} {zss : List (List Int)} {ys : List Int} (_hown : OwR T e base m w v zss) (hu : OwnV e m w.heap.size w u (intVals ys)) (hbm : base ≤ m) (hm : m ≤ w.heap.size)
    {vs : List Value} (hvs : vs.length = zss.length ∧ OwnV T base m w v vs ∧ (∀ (i : Nat) u zs, vs[i]? = some u → zss[i]? = some zs → OwnV e base m w u (intVals zs)) ∧
    (∀ (i j : Nat) u u' b, i ≠ j → vs[i]? = some u → vs[j]? = some u' → u.ownBlock = some b → u'.ownBlock ≠ some b) ∧ (∀ (i : Nat) u b, vs[i]? = some u → u.ownBlock = some b → v.ownBlock ≠ some b))
    (hr : w'.ownsRow base T 1 v' (vs.length + 1) (vs ++ [u])) (hg : w.grownBy w' v.ownBlock) (hat : ∀ b, v'.ownBlock = some b → v.ownBlock = some b ∨ w.heap.size ≤ b) : OwR T e base w'.heap.size w' v' (zss ++ [ys]) := by
  obtain ⟨h1, h2, h3, h4, h5⟩ := hvs
  have get : ∀ (i : Nat) x, (vs ++ [u])[i]? = some x → (vs[i]? = some x ∧ i < vs.length) ∨ (i = vs.length ∧ x = u) := by
    intro i x hx
    by_cases hi : i < vs.length
    · rw [List.getElem?_append_left hi] at hx; exact .inl ⟨hx, hi⟩
    · rw [List.getElem?_append_right (by omega)] at hx
      have : i - vs.length < 1 := by have := lt_of_get hx; simpa using this
      have hz : i - vs.length = 0 := by omega
      rw [hz] at hx
      exact .inr ⟨by omega, by simpa using hx.symm⟩
  have place : ∀ (i : Nat) x b, vs[i]? = some x → x.ownBlock = some b → b < m := fun i x b hx hb => by
    have hi := lt_of_get hx
    exact ((h3 i x _ hx (List.getElem?_eq_getElem (by omega))).place hb).2.1
  have huv : ∀ b, u.ownBlock = some b → some b ≠ v.ownBlock := fun b hb e => by
    have p1 := (hu.place hb).1
    have p2 := (h2.place e.symm).2.1
    omega
  refine ⟨vs ++ [u], by rw [List.length_append, List.length_append, h1]; rfl, OwnV.of_owns hr, ?_, ?_, ?_⟩
  · intro i x zs hx hz
    rcases get i x hx with ⟨hx', hi⟩ | ⟨rfl, rfl⟩
    · rw [List.getElem?_append_left (by omega)] at hz
      exact ((h3 i x zs hx' hz).grown hg (fun b hb e => h5 i x b hx' hb e.symm)).mono (Nat.le_refl _) (Nat.le_trans hm hg.size)
    · rw [h1, List.getElem?_append_right (Nat.le_refl _), Nat.sub_self] at hz
      obtain rfl : ys = zs := by simpa using hz
      exact (hu.grown hg huv).mono hbm hg.size
  · intro i j x y b hij hx hy hxb
    rcases get i x hx with ⟨hx', _⟩ | ⟨rfl, rfl⟩
    · rcases get j y hy with ⟨hy', _⟩ | ⟨rfl, rfl⟩
      · exact h4 i j x y b hij hx' hy' hxb
      · intro hyb
        have p1 := (hu.place hyb).1
        have p2 := place i x b hx' hxb
        omega
    · rcases get j y hy with ⟨hy', _⟩ | ⟨rfl, rfl⟩
      · intro hyb
        have p1 := (hu.place hxb).1
        have p2 := place j y b hy' hyb
        omega
      · exact absurd rfl hij
  · intro i x b hx hxb hvb
    rcases get i x hx with ⟨hx', _⟩ | ⟨rfl, rfl⟩
    · rcases hat b hvb with h | h
      · exact h5 i x b hx' hxb h
      · have := place i x b hx' hxb; omega
    · rcases hat b hvb with h | h
      · exact huv b hxb h.symm
      · have := (hu.place hxb).2.2; omega
theorem OwR.mid {T e : TypeId} {lo hi : Nat} {w w' : World} {v : Value} {zss : List (List Int)} (h : OwR T e lo hi w v zss) (hm : Mid lo hi w w') : OwR T e lo hi w' v zss := by
  obtain ⟨vs, h1, h2, h3, h4, h5⟩ := h
  exact ⟨vs, h1, h2.mid hm, fun i u zs hu hz => (h3 i u zs hu hz).mid hm, h4, h5⟩
/-- What a function that makes a slice of slices of its own leaves. -/
def MadeR (w : World) (zss : List (List Int)) (e : Ending) (w' : World) : Prop := (∃ v, e = .returned v ∧ OwR 41 3 w.heap.size w'.heap.size w' v zss) ∧ Below w.heap.size w w'
/-- What a function that answers a slice of slices and whether it is there leaves. -/
def GotR (w : World) (r : List (List Int) × Bool) (e : Ending) (w' : World) : Prop := (∃ v, e = .returned (.tuple #[v, .bool r.2]) ∧ OwR 41 3 w.heap.size w'.heap.size w' v r.1) ∧ Below w.heap.size w w'
end Go.Proofs.YtflkalgofkpdbaaDoor
/- append(halves, half) where halves is a slice of halves that the call made; stores of a half; halves and regions as values. -/
namespace Go.Proofs.YtflkalgofkpdbaaDoor
open Go.RowKit Go.Lib

theorem flat_snoc : ∀ (us : List Value) (hs : List Hf) (u : Value) (h : Hf), us.length = hs.length → flat (us ++ [u]) (hs ++ [h]) = flat us hs ++ [u, .int .i64 h.2]
  | [], [], _, _, _ => rfl
  | x :: us, k :: hs, u, h, e => by
    simp only [List.cons_append, flat, flat_snoc us hs u h (by simpa using e)]
theorem info_half : (Tryd.prog.info? 43).map (fun i => (i.zero, i.size, i.bytes)) = some (some (.agg #[.slice none 0 0, .int .i64 0]), 2, 32) := by kernel_rfl

/-- Halves that are all zero, as a block that was just made holds them. -/
def zerosH (n : Nat) : List Hf := List.replicate n ([], 0)
theorem flat_zeros : ∀ (n : Nat), (flat (List.replicate n (.slice none 0 0)) (zerosH n)) = (List.replicate n [Value.slice none 0 0, .int .i64 0]).flatten
  | 0 => rfl
  | n + 1 => by
    have := flat_zeros n
    simp only [zerosH, List.replicate_succ, flat, List.flatten_cons, List.cons_append, List.nil_append] at this ⊢
    rw [this]
theorem made_zeros (n : Nat) : (madeCells #[.slice none 0 0, .int .i64 0] (n * 2)).toList = flat (List.replicate n (.slice none 0 0)) (zerosH n) := by
  have hl : (List.replicate n (Value.slice none 0 0)).length = (zerosH n).length := by simp [zerosH]
  refine List.ext_getElem? fun i => ?_
  by_cases hi : i < n * 2
  · have e1 : (madeCells #[.slice none 0 0, .int .i64 0] (n * 2)).toList[i]? = some ((#[Value.slice none 0 0, .int .i64 0] : Array Value)[i % 2]!) := by
      unfold madeCells
      rw [Array.getElem?_toList, Array.getElem?_map]
      simp [hi]
    rw [e1]
    by_cases hm : i % 2 = 0
    · rw [hm]
      have e2 : i = (i / 2) * 2 := by omega
      rw [e2, flat_get0 _ _ _ hl, List.getElem?_replicate, if_pos (by omega)]; rfl
    · have hm1 : i % 2 = 1 := by omega
      rw [hm1]
      have e2 : i = (i / 2) * 2 + 1 := by omega
      rw [e2, flat_get1 _ _ _ hl]
      simp only [zerosH]
      rw [List.getElem?_replicate, if_pos (by omega)]; rfl
  · rw [List.getElem?_eq_none (by rw [Array.length_toList, size_madeCells]; omega), List.getElem?_eq_none (by rw [flat_len _ _ hl]; simp [zerosH]; omega)]
theorem OwH.zeros {T e : TypeId} {base lo hi : Nat} {w : World} {b n : Nat} (h : w.ownsRow base T 2 (.slice (some ⟨b, 0, none⟩) n n) n (madeCells #[.slice none 0 0, .int .i64 0] (n * 2)).toList) (hlo : lo ≤ base) (hhi : b < hi) : OwH T e lo hi w (.slice (some ⟨b, 0, none⟩) n n) (zerosH n) := by
  rw [made_zeros] at h
  have hz : (zerosH n).length = n := by simp [zerosH]
  have key : ∀ (i : Nat) (u : Value), (List.replicate n (Value.slice none 0 0))[i]? = some u → u = .slice none 0 0 := fun i u hu => by
    rw [List.getElem?_replicate] at hu
    split at hu
    · exact (Option.some.inj hu).symm
    · cases hu
  refine ⟨List.replicate n (.slice none 0 0), by simp [zerosH], ?_, fun x hx => (show b = x by simpa [Value.ownBlock] using hx) ▸ hhi, ?_, ?_, ?_⟩
  · rw [hz]; exact Go.Joins.ownsRow_le h hlo
  · intro i u x hu hx
    have : x = ([], 0) := by
      unfold zerosH at hx
      rw [List.getElem?_replicate] at hx
      split at hx
      · exact (Option.some.inj hx).symm
      · cases hx
    rw [key i u hu, this]
    exact OwnV.nil
  · intro i j u u' b _ hu _ hub
    rw [key i u hu] at hub
    cases hub
  · intro i u b hu hub
    rw [key i u hu] at hub
    cases hub

/-- A half whose normal was made just now is stored at place j. -/
theorem OwH.store {T e : TypeId} {lo hi m : Nat} {w w1 : World} {hs : List Hf} {b n c : Nat} (hc : c = hs.length) (h : OwH T e lo m w (.slice (some ⟨b, 0, none⟩) n c) hs) (hb : Below w.heap.size w w1) (hm : m ≤ w.heap.size) (hlo : lo ≤ w.heap.size) (hhi : w1.heap.size ≤ hi)
    (j : Nat) (hj : j < hs.length) {u : Value} {ys : List Int} (z : Int) (hu : OwnV e w.heap.size w1.heap.size w1 u (intVals ys)) :
    OwH T e lo hi ((w1.setCell ⟨b, j * 2, none⟩ u).setCell ⟨b, j * 2 + 1, none⟩ (.int .i64 z)) (.slice (some ⟨b, 0, none⟩) n c) (hs.set j (ys, z)) := by
  have h1 : OwH T e lo hi w1 (.slice (some ⟨b, 0, none⟩) n c) hs := (h.below hb).mono (Nat.le_refl _) (by have := hb.size; omega)
  have hput := h1.put j hj (hu.mono hlo hhi) (fun x hx => by
    have hxp := (hu.place hx).1
    obtain ⟨us, k1, k2, k3, k4, k5, k6⟩ := h
    obtain ⟨g, cap, e1⟩ := Go.Joins.ownsRow_form k2 (by omega)
    simp only [Value.slice.injEq, Option.some.injEq, Addr.mk.injEq] at e1
    obtain ⟨⟨rfl, _, _⟩, rfl, rfl⟩ := e1
    have hbm := k3 b rfl
    refine ⟨by omega, fun i r hr hrx => ?_⟩
    rw [hb.cell (p := ⟨b, i, none⟩) (by show b < w.heap.size; omega)] at hr
    by_cases hi : i < hs.length * 2
    · rw [k2.cellAt i hi] at hr
      by_cases h0 : i % 2 = 0
      · rw [show i = (i / 2) * 2 by omega, flat_get0 us hs _ k1] at hr
        have := (k4 _ _ _ hr (List.getElem?_eq_getElem (by omega))).place hrx
        omega
      · rw [show i = (i / 2) * 2 + 1 by omega, flat_get1 us hs _ k1, List.getElem?_eq_getElem (by omega)] at hr
        simp only [Option.map_some, Option.some.injEq] at hr
        subst hr
        cases hrx
    · rcases k2.2 with ⟨k7, _⟩ | ⟨g, cap, cur, e2, k7, k8, k9, k10, k11, k12⟩
      · cases k7
      · simp only [Value.slice.injEq, Option.some.injEq, Addr.mk.injEq] at e2
        obtain ⟨⟨rfl, _, _⟩, _, rfl⟩ := e2
        rw [cell_of_row _ _ _ _ _ _ k8, Array.getElem?_eq_none (by omega)] at hr
        cases hr)
  have hb2 := hput.bound j (by rw [List.length_set]; exact hj) z
  rw [List.set_set, List.getElem_set_self] at hb2
  exact hb2

/-- A half is put behind the others. -/
theorem OwH.snoc {T e : TypeId} {base m : Nat} {w w' : World} {v v' u : Value} {hs : List Hf} {h : Hf} (_hown : OwH T e base m w v hs) (hu : OwnV e m w.heap.size w u (intVals h.1)) (hbm : base ≤ m) (hm : m ≤ w.heap.size)
    {us : List Value} (hus : us.length = hs.length ∧ w.ownsRow base T 2 v hs.length (flat us hs) ∧ (∀ (i : Nat) u h, us[i]? = some u → hs[i]? = some h → OwnV e base m w u (intVals h.1)) ∧
      (∀ (i j : Nat) u u' b, i ≠ j → us[i]? = some u → us[j]? = some u' → u.ownBlock = some b → u'.ownBlock ≠ some b) ∧ (∀ (i : Nat) u b, us[i]? = some u → u.ownBlock = some b → v.ownBlock ≠ some b))
    (hvm : ∀ b, v.ownBlock = some b → b < m)
    (hr : w'.ownsRow base T 2 v' (hs.length + 1) (flat us hs ++ [u, .int .i64 h.2])) (hg : w.grownBy w' v.ownBlock) (hat : ∀ b, v'.ownBlock = some b → v.ownBlock = some b ∨ w.heap.size ≤ b) : OwH T e base w'.heap.size w' v' (hs ++ [h]) := by
  obtain ⟨h1, h2, h3, h4, h5⟩ := hus
  have get : ∀ (i : Nat) x, (us ++ [u])[i]? = some x → (us[i]? = some x ∧ i < us.length) ∨ (i = us.length ∧ x = u) := by
    intro i x hx
    by_cases hi : i < us.length
    · rw [List.getElem?_append_left hi] at hx; exact .inl ⟨hx, hi⟩
    · rw [List.getElem?_append_right (by omega)] at hx
      have : i - us.length < 1 := by have := lt_of_get hx; simpa using this
      have hz : i - us.length = 0 := by omega
      rw [hz] at hx
      exact .inr ⟨by omega, by simpa using hx.symm⟩
  have place : ∀ (i : Nat) x b, us[i]? = some x → x.ownBlock = some b → b < m := fun i x b hx hb => by
    have hi := lt_of_get hx
    exact ((h3 i x _ hx (List.getElem?_eq_getElem (by omega))).place hb).2.1
  have huv : ∀ b, u.ownBlock = some b → some b ≠ v.ownBlock := fun b hb e => by
    have p1 := (hu.place hb).1
    have p2 := hvm b e.symm
    omega
  refine ⟨us ++ [u], by rw [List.length_append, List.length_append, h1]; rfl, ?_, ?_, ?_, ?_, ?_⟩
  · rw [flat_snoc us hs u h h1, List.length_append]; exact hr
  · intro b hb; exact (hr.lt b hb).2
  · intro i x zs hx hz
    rcases get i x hx with ⟨hx', hi⟩ | ⟨rfl, rfl⟩
    · rw [List.getElem?_append_left (by omega)] at hz
      exact ((h3 i x zs hx' hz).grown hg (fun b hb e => h5 i x b hx' hb e.symm)).mono (Nat.le_refl _) (Nat.le_trans hm hg.size)
    · rw [h1, List.getElem?_append_right (Nat.le_refl _), Nat.sub_self] at hz
      obtain rfl : h = zs := by simpa using hz
      exact (hu.grown hg huv).mono hbm hg.size
  · intro i j x y b hij hx hy hxb
    rcases get i x hx with ⟨hx', _⟩ | ⟨rfl, rfl⟩
    · rcases get j y hy with ⟨hy', _⟩ | ⟨rfl, rfl⟩
      · exact h4 i j x y b hij hx' hy' hxb
      · intro hyb
        have p1 := (hu.place hyb).1
        have p2 := place i x b hx' hxb
        omega
    · rcases get j y hy with ⟨hy', _⟩ | ⟨rfl, rfl⟩
      · intro hyb
        have p1 := (hu.place hxb).1
        have p2 := place j y b hy' hyb
        omega
      · exact absurd rfl hij
  · intro i x b hx hxb hvb
    rcases get i x hx with ⟨hx', _⟩ | ⟨rfl, rfl⟩
    · rcases hat b hvb with h | h
      · exact h5 i x b hx' hxb h
      · have := place i x b hx' hxb; omega
    · rcases hat b hvb with h | h
      · exact huv b hxb h.symm
      · have := (hu.place hxb).2.2; omega
/-- append(halves, half) at a plain list of operations. -/
theorem list_app_half {ops : Array Oper} {rest : List Oper} {o : Oper} {a : Act} {w : World} {Q : Exit → Act → World → Prop} (hgd : o.guard = none) (s x : Operand)
    (ho : o.op = .call { callee := .builtin .append, args := #[s, x], argTypes := #[27, 27] })
    (base m : Nat) (v u : Value) (hs : List Hf) (h : Hf) (hv : a.eval s = v) (hown : OwH 43 3 base m w v hs) (hu : OwnV 3 m w.heap.size w u (intVals h.1))
    (H : Nat) (hx : a.eval x = .slice (some ⟨H, 0, none⟩) 1 1) (hnew : w.heap[H]? = some (.cells #[u, .int .i64 h.2] 43 (0, 0)))
    (hn : hs.length ≤ 1099511627776) (hbm : base ≤ m) (hm : m ≤ w.heap.size)
    (k : ∀ g cap w', OwH 43 3 base w'.heap.size w' (.slice (some ⟨g, 0, none⟩) (hs.length + 1) cap) (hs ++ [h]) → Below base w w' → (v.ownBlock = some g ∨ w.heap.size ≤ g) → w.grownBy w' v.ownBlock → wpList Tryd.prog ops Q rest (a.put o.dst (.slice (some ⟨g, 0, none⟩) (hs.length + 1) cap)) w') :
    wpList Tryd.prog ops Q (o :: rest) a w := by
  obtain ⟨i0, hi, hz0, hz1, hz2⟩ := info_parts info_half
  have hown' := hown
  obtain ⟨us, h1, h2, h3, h4, h5, h6⟩ := hown
  refine wpList_append_lies w hgd s x 27 ho base 43 i0 _ 2 32 Tryd.underlying27 hi hz0 hz1 hz2 rfl (by omega) v hs.length (flat us hs) hv h2 ⟨H, 0, none⟩ 1 1 [u, .int .i64 h.2] hx rfl (World.news_of_block (cs := #[u, .int .i64 h.2]) hnew) (fun q hq => by
      simp only [List.mem_cons, List.not_mem_nil, or_false] at hq
      rcases hq with rfl | rfl
      · exact own_one hu
      · rfl) (by omega) (by unfold maxLen; omega) (by omega) (by omega) w.heap.size rfl ?_
  intro g cap w' k1 k2 k3 k4
  refine k g cap w' ?_ ((Below.refl base w).grown k2 (by omega) ?_) (k3.elim (fun h => .inl h) (fun h => .inr (by omega))) k2
  · refine hown'.snoc hu hbm hm ⟨h1, h2, h4, h5, h6⟩ h3 k1 k2 ?_
    intro b hb
    have hgb : g = b := by simpa [Value.ownBlock] using hb
    subst hgb
    rcases k3 with h | h
    · exact .inl h
    · exact .inr (by omega)
  · intro q hq
    exact (h2.lt q hq).1

/-- A half, a region as values that read so. -/
def Hv (w : World) (v : Value) (h : Hf) : Prop := ∃ u, v = .agg #[u, .int .i64 h.2] ∧ Sl w u (intVals h.1)
theorem Hv.below {w w' : World} {v : Value} {h : Hf} (k : Hv w v h) (hb : Below w.heap.size w w') : Hv w' v h := by
  obtain ⟨u, e, k⟩ := k
  exact ⟨u, e, k.below hb⟩
abbrev Rgn := Int × List Hf
def Rg (w : World) (v : Value) (r : Rgn) : Prop := ∃ u, v = .agg #[.int .i64 r.1, u] ∧ Hs w u r.2
theorem Rg.below {w w' : World} {v : Value} {r : Rgn} (k : Rg w v r) (hb : Below w.heap.size w w') : Rg w' v r := by
  obtain ⟨u, e, k⟩ := k
  exact ⟨u, e, k.below hb⟩
/-- A half, a region that the call made itself. -/
def OwHv (lo hi : Nat) (w : World) (v : Value) (h : Hf) : Prop := ∃ u, v = .agg #[u, .int .i64 h.2] ∧ OwnV 3 lo hi w u (intVals h.1)
def OwG (lo hi : Nat) (w : World) (v : Value) (r : Rgn) : Prop := ∃ u, v = .agg #[.int .i64 r.1, u] ∧ OwH 43 3 lo hi w u r.2
theorem OwHv.hv {lo hi : Nat} {w : World} {v : Value} {h : Hf} (k : OwHv lo hi w v h) : Hv w v h := by
  obtain ⟨u, e, k⟩ := k
  exact ⟨u, e, k.sl⟩
theorem OwHv.below {lo hi : Nat} {w w' : World} {v : Value} {h : Hf} (k : OwHv lo hi w v h) (hb : Below w.heap.size w w') : OwHv lo hi w' v h := by
  obtain ⟨u, e, k⟩ := k
  exact ⟨u, e, k.below hb⟩
theorem OwHv.kept {lo hi a b : Nat} {w w' : World} {v : Value} {h : Hf} (k : OwHv lo hi w v h) (hk : Kept a b w w') (hd : hi ≤ a ∨ b ≤ lo) : OwHv lo hi w' v h := by
  obtain ⟨u, e, k⟩ := k
  exact ⟨u, e, k.kept hk hd⟩
theorem OwHv.mono {lo hi lo' hi' : Nat} {w : World} {v : Value} {h : Hf} (k : OwHv lo hi w v h) (h1 : lo' ≤ lo) (h2 : hi ≤ hi') : OwHv lo' hi' w v h := by
  obtain ⟨u, e, k⟩ := k
  exact ⟨u, e, k.mono h1 h2⟩
theorem OwG.rg {lo hi : Nat} {w : World} {v : Value} {r : Rgn} (k : OwG lo hi w v r) : Rg w v r := by
  obtain ⟨u, e, k⟩ := k
  exact ⟨u, e, k.hs⟩
theorem OwG.below {lo hi : Nat} {w w' : World} {v : Value} {r : Rgn} (k : OwG lo hi w v r) (hb : Below w.heap.size w w') : OwG lo hi w' v r := by
  obtain ⟨u, e, k⟩ := k
  exact ⟨u, e, k.below hb⟩
theorem OwG.kept {lo hi a b : Nat} {w w' : World} {v : Value} {r : Rgn} (k : OwG lo hi w v r) (hk : Kept a b w w') (hd : hi ≤ a ∨ b ≤ lo) : OwG lo hi w' v r := by
  obtain ⟨u, e, k⟩ := k
  exact ⟨u, e, k.kept hk hd⟩
theorem OwG.mono {lo hi lo' hi' : Nat} {w : World} {v : Value} {r : Rgn} (k : OwG lo hi w v r) (h1 : lo' ≤ lo) (h2 : hi ≤ hi') : OwG lo' hi' w v r := by
  obtain ⟨u, e, k⟩ := k
  exact ⟨u, e, k.mono h1 h2⟩
theorem OwG.zero {lo hi : Nat} {w : World} : OwG lo hi w (.agg #[.int .i64 0, .slice none 0 0]) (0, []) := ⟨_, rfl, OwH.nil⟩
/-- What a function that makes a region of its own leaves; one that answers a region and whether it is there. -/
def MadeG (w : World) (r : Rgn) (e : Ending) (w' : World) : Prop := (∃ v, e = .returned v ∧ OwG w.heap.size w'.heap.size w' v r) ∧ Below w.heap.size w w'
def GotG (w : World) (r : Rgn × Bool) (e : Ending) (w' : World) : Prop := (∃ v, e = .returned (.tuple #[v, .bool r.2]) ∧ OwG w.heap.size w'.heap.size w' v r.1) ∧ Below w.heap.size w w'
def MadeHv (w : World) (h : Hf) (e : Ending) (w' : World) : Prop := (∃ v, e = .returned v ∧ OwHv w.heap.size w'.heap.size w' v h) ∧ Below w.heap.size w w'
end Go.Proofs.YtflkalgofkpdbaaDoor
/- Blocks that are known whole: a struct's variable. -/
namespace Go.Proofs.YtflkalgofkpdbaaDoor
open Go Go.RowKit

/-- Block b holds these cells. -/
def Bk (w : World) (b : Nat) (cs : Array Value) (T : TypeId) : Prop := w.heap[b]? = some (.cells cs T (0, 0))
theorem Bk.new (w : World) (cs : Array Value) (T : TypeId) : Bk (w.alloc (.cells cs T)) w.heap.size cs T := heap_alloc_new w _
theorem Bk.newAt {w : World} {b : Nat} (h : w.heap.size = b) (cs : Array Value) (T : TypeId) : Bk (w.alloc (.cells cs T)) b cs T := by subst h; exact heap_alloc_new w _
theorem Bk.lt {w : World} {b : Nat} {cs : Array Value} {T : TypeId} (h : Bk w b cs T) : b < w.heap.size := lt_of_heap h
theorem Bk.below {w w' : World} {b : Nat} {cs : Array Value} {T : TypeId} (h : Bk w b cs T) (hb : Below w.heap.size w w') : Bk w' b cs T := (hb.block b h.lt).trans h
theorem Bk.since {w w' : World} {b B : Nat} {cs : Array Value} {T : TypeId} (h : Bk w b cs T) (hb : Below B w w') (hB : b < B) : Bk w' b cs T := (hb.block b hB).trans h
theorem Bk.kept {w w' : World} {b lo hi : Nat} {cs : Array Value} {T : TypeId} (h : Bk w b cs T) (hk : Kept lo hi w w') (hd : b < lo ∨ hi ≤ b) : Bk w' b cs T := (hk.block b h.lt hd).trans h
theorem Bk.alloc {w : World} {b : Nat} {cs : Array Value} {T : TypeId} (h : Bk w b cs T) (o : Obj) : Bk (w.alloc o) b cs T := h.below ((Below.refl _ _).alloc (Nat.le_refl _) o)
theorem Bk.cell {w : World} {b : Nat} {cs : Array Value} {T : TypeId} (h : Bk w b cs T) (i : Nat) {v : Value} (hv : cs[i]? = some v) : w.cell? ⟨b, i, none⟩ = some v := by rw [cell_of_row _ _ i _ _ _ h]; exact hv
theorem Bk.free {w : World} {b : Nat} {cs : Array Value} {T : TypeId} (h : Bk w b cs T) (i : Nat) : w.frozen? ⟨b, i, none⟩ = false := frozen_of_row _ _ i _ _ h
theorem Bk.two {w : World} {b : Nat} {x y : Value} {T : TypeId} (h : Bk w b #[x, y] T) : (w.cell? ⟨b, 0, none⟩ = some x ∧ w.cell? ⟨b, 1, none⟩ = some y) ∧ w.frozen? ⟨b, 0, none⟩ = false ∧ w.frozen? ⟨b, 1, none⟩ = false :=
  ⟨⟨h.cell 0 rfl, h.cell 1 rfl⟩, h.free 0, h.free 1⟩
theorem Bk.set {w : World} {b : Nat} {cs : Array Value} {T : TypeId} (h : Bk w b cs T) (i : Nat) (u : Value) (hi : i < cs.size) : Bk (w.setCell ⟨b, i, none⟩ u) b (cs.set! i u) T := by
  have h1 := h
  unfold Bk at *
  have hl := lt_of_heap h1
  simp only [World.setCell]
  rw [Array.getElem?_modify, if_pos rfl, h]
  simp [Array.set!_eq_setIfInBounds]
theorem Bk.set0 {w : World} {b : Nat} {x y : Value} {T : TypeId} (h : Bk w b #[x, y] T) (u : Value) : Bk (w.setCell ⟨b, 0, none⟩ u) b #[u, y] T := h.set 0 u (by simp)
theorem Bk.set1 {w : World} {b : Nat} {x y : Value} {T : TypeId} (h : Bk w b #[x, y] T) (u : Value) : Bk (w.setCell ⟨b, 1, none⟩ u) b #[x, u] T := h.set 1 u (by simp)
theorem Bk.other {w : World} {b : Nat} {cs : Array Value} {T : TypeId} (h : Bk w b cs T) {p : Addr} (hp : p.block ≠ b) (u : Value) : Bk (w.setCell p u) b cs T := (Below.heap_setCell _ _ _ _ (fun e => hp e.symm)).trans h
/-- Two, three blocks that were made one behind the other. -/
theorem Bk.pair (w : World) (a b : Array Value) (S T : TypeId) :
    Bk ((w.alloc (.cells a S)).alloc (.cells b T)) w.heap.size a S ∧ Bk ((w.alloc (.cells a S)).alloc (.cells b T)) (w.heap.size + 1) b T :=
  ⟨(Bk.new w a S).alloc _, Bk.newAt (by simp) b T⟩
theorem Bk.three (w : World) (a b c : Array Value) (S T U : TypeId) :
    Bk (((w.alloc (.cells a S)).alloc (.cells b T)).alloc (.cells c U)) w.heap.size a S ∧ Bk (((w.alloc (.cells a S)).alloc (.cells b T)).alloc (.cells c U)) (w.heap.size + 1) b T ∧ Bk (((w.alloc (.cells a S)).alloc (.cells b T)).alloc (.cells c U)) (w.heap.size + 1 + 1) c U :=
  ⟨(Bk.pair w a b S T).1.alloc _, (Bk.pair w a b S T).2.alloc _, Bk.newAt (by simp) c U⟩
theorem alloc_lt (w : World) (o : Obj) : w.heap.size < (w.alloc o).heap.size := by simp
theorem below2 (w : World) (o p : Obj) : Below w.heap.size w ((w.alloc o).alloc p) := ((Below.refl _ _).alloc (Nat.le_refl _) o).alloc (by simp) p
theorem below1 (w : World) (o : Obj) : Below w.heap.size w (w.alloc o) := (Below.refl _ _).alloc (Nat.le_refl _) o
theorem below3 (w : World) (o p q : Obj) : Below w.heap.size w (((w.alloc o).alloc p).alloc q) := (below2 w o p).alloc (by simp; omega) q
theorem OwnV.shape1 {e : TypeId} {lo hi : Nat} {w : World} {v : Value} {xs : List Value} (h : OwnV e lo hi w v xs) : ∃ (a : Option Addr) (c : Nat), v = .slice a xs.length c ∧ xs.length ≤ maxLen := by
  obtain ⟨a, c, e, hm, _⟩ := h.sl.shape
  exact ⟨a, c, e, hm⟩
end Go.Proofs.YtflkalgofkpdbaaDoor
/- Copies of halves and regions. -/
namespace Go.Proofs.YtflkalgofkpdbaaDoor
open Go.RowKit Go.Lib

set_option maxRecDepth 100000 in
set_option maxHeartbeats 400000 in
theorem to_half (h : Hf) (v : Value) (w : World) (hv : Hv w v h) (hl : h.1.length ≤ 1048576) :
    Calls Tryd.prog 36 #[v] w (MadeHv w h) := by
  obtain ⟨u, rfl, hs⟩ := hv
  have HS := Lib.hid hs
  have K := Lib.hid (Bk.three w #[u, .int .i64 h.2] #[.slice none 0 0, .int .i64 0] #[.slice none 0 0, .int .i64 0] 57 43 43)
  have B0 := Lib.hid (below3 w (.cells #[u, .int .i64 h.2] 57) (.cells #[.slice none 0 0, .int .i64 0] 43) (.cells #[.slice none 0 0, .int .i64 0] 43))
  clear hs
  go_enter Tryd.func36, Tryd.ntmps36
  go_wp2_with fail
  refine (to_int h.1 u _ (HS.out.below B0.out) hl).mono ?_
  rintro e w1 ⟨⟨r, rfl, ho⟩, hb⟩
  have ho := OwnV.of_owns ho
  have HO := Lib.hid ho
  obtain ⟨⟨_, a1⟩, _⟩ := (K.out.1.below hb).two
  obtain ⟨⟨b0, b1⟩, f0, f1⟩ := (K.out.2.1.below hb).two
  obtain ⟨⟨c0, c1⟩, g0, g1⟩ := (K.out.2.2.below hb).two
  have B1 := Lib.hid (B0.out.trans (hb.mono B0.out.size))
  obtain ⟨ra, rc, rfl, _⟩ := ho.shape1
  clear hb ho
  go_wp2
  refine bodyPost_ret (v := .agg #[.slice ra (intVals h.1).length rc, .int .i64 h.2]) ?_ rfl ⟨⟨_, rfl, _, rfl, ?_⟩, (((B1.out.setCell (by simp; omega) _).setCell (by simp; omega) _).setCell (by simp) _).setCell (by simp) _⟩
  · simp [results, Tryd.results36, go_sem, b0, b1]
  · exact ((HO.out.kept ((((Kept.refl w.heap.size (w.heap.size + 3) w1).setCell (by simp; omega) (by simp) _).setCell (by simp; omega) (by simp) _).setCell (by simp) (by simp) _ |>.setCell (by simp) (by simp) _) (.inr (by simp))).mono (by simp; omega) (by simp [World.setCell]))

def filledH (hs : List Hf) (k : Nat) : List Hf := hs.take k ++ zerosH (hs.length - k)
theorem filledH_len (hs : List Hf) (k : Nat) (h : k ≤ hs.length) : (filledH hs k).length = hs.length := by simp [filledH, zerosH]; omega
theorem filledH_all (hs : List Hf) : filledH hs hs.length = hs := by simp [filledH, zerosH]
theorem filledH_zero (hs : List Hf) : filledH hs 0 = zerosH hs.length := by simp [filledH]
theorem filledH_step (hs : List Hf) (k : Nat) (h : k < hs.length) : (filledH hs k).set k hs[k] = filledH hs (k + 1) := by
  unfold filledH zerosH
  rw [List.set_append_right _ _ (by rw [List.length_take]; omega), List.length_take, Nat.min_eq_left (by omega), Nat.sub_self]
  rw [show hs.length - k = (hs.length - (k + 1)) + 1 from by omega, List.replicate_succ, List.set_cons_zero, List.take_succ_eq_append_getElem h, List.append_assoc]
  rfl

set_option maxRecDepth 100000 in
set_option maxHeartbeats 800000 in
theorem to_halfs (hs : List Hf) (v : Value) (w : World) (hv : Hs w v hs) (hl : hs.length ≤ 1048576) (hr : ∀ (i : Nat) h, hs[i]? = some h → h.1.length ≤ 1048576) :
    Calls Tryd.prog 18 #[v] w fun e w' => (∃ v', e = .returned v' ∧ OwH 43 3 w.heap.size w'.heap.size w' v' hs) ∧ Below w.heap.size w w' := by
  have HV := Lib.hid hv
  have HR := Lib.hid hr
  obtain ⟨a, c, rfl, hm⟩ := hv.shape
  unfold maxLen at hm
  obtain ⟨i0, hi, hz0, hz1, hz2⟩ := info_parts info_half
  clear hv hr
  go_enter Tryd.func18, Tryd.ntmps18
  go_wp2_with (at_make; refine wpList_make_full _ rfl _ _ 27 rfl w.heap.size 43 i0 _ 2 Tryd.underlying27 hi hz0 hz1 .i64 .i64 _ _ hs.length rfl rfl rfl rfl (by rw [hz2]; omega) (by unfold maxLen; omega) (Nat.le_refl _) ?_; intro w1 hown hgrow)
  have hbel : Below w.heap.size w w1 := (Below.refl _ _).grown hgrow (Nat.le_refl _) (fun _ h => by cases h)
  have hsz1 : w.heap.size < w1.heap.size := (hown.lt _ rfl).2
  rw [show (Value.agg #[.slice none 0 0, .int .i64 0]).cells = #[Value.slice none 0 0, .int .i64 0] from rfl] at hown
  have HW := Lib.hid (show OwH 43 3 w.heap.size w1.heap.size w1 (.slice (some ⟨w.heap.size, 0, none⟩) hs.length hs.length) (filledH hs 0) by rw [filledH_zero]; exact OwH.zeros hown (Nat.le_refl _) hsz1)
  have HB := Lib.hid hbel
  clear hown hgrow hbel hi hz0 hz1 hz2
  go_loopw [4] (fun i wr => ∃ k : Nat, k ≤ hs.length ∧ i = .int .i64 k ∧ OwH 43 3 w.heap.size wr.heap.size wr (.slice (some ⟨w.heap.size, 0, none⟩) hs.length hs.length) (filledH hs k) ∧ w.heap.size < wr.heap.size ∧ Below w.heap.size w wr) (fun i _ => hs.length - (intOf i).toNat)
  case atStart => exact ⟨0, Nat.zero_le _, rfl, HW.out, hsz1, HB.out⟩
  case round =>
    obtain ⟨k, hk, rfl, hrt, hszr, hbr⟩ := hrel
    by_cases hlt : k < hs.length
    · obtain ⟨b, off, u, rfl, hcc, hb2, hcell, hcell1, hsl⟩ := HV.out.half k hlt rfl
      rw [← hbr.cell (p := ⟨b, off + k * 2, none⟩) hb2] at hcell
      rw [← hbr.cell (p := ⟨b, off + k * 2 + 1, none⟩) hb2] at hcell1
      have HS := Lib.hid (hsl.below hbr)
      have HL := Lib.hid (HR.out k _ (List.getElem?_eq_getElem hlt))
      have HT := Lib.hid hrt
      have HBr := Lib.hid hbr
      clear hrt hbr hsl
      go_wp2_with fail
      refine (to_half hs[k] _ _ ⟨u, rfl, HS.out⟩ HL.out).mono ?_
      rintro e w1 ⟨⟨r, rfl, x, rfl, ho⟩, hb1⟩
      have hfl := Lib.hid (filledH_len hs k hk)
      have hstep := HT.out.store hfl.out.symm hb1 (Nat.le_refl _) (Nat.le_of_lt hszr) (Nat.le_refl _) k (by rw [hfl.out]; exact hlt) hs[k].2 ho
      rw [show (hs[k].1, hs[k].2) = hs[k] from rfl, filledH_step hs k hlt] at hstep
      obtain ⟨b', u', e1, _, _, _, m0, m1, fr0, fr1, _, _⟩ := (HT.out.below hb1).at k (by rw [hfl.out]; exact hlt) rfl
      simp only [Option.some.injEq, Addr.mk.injEq, and_true] at e1
      subst e1
      obtain ⟨ra, rc, rfl, _⟩ := ho.shape1
      have HT1 := Lib.hid hstep
      have HB1 := Lib.hid (HBr.out.trans (hb1.mono HBr.out.size))
      have hsz2 : w.heap.size < w1.heap.size := Nat.lt_of_lt_of_le hszr hb1.size
      clear ho hb1 hstep
      go_wp2
      exact ⟨⟨k + 1, by omega, by go_num, by simpa [World.setCell] using HT1.out, by simpa [World.setCell] using hsz2, (HB1.out.setCell (Nat.le_refl _) _).setCell (Nat.le_refl _) _⟩, by simp [intOf]; omega⟩
    · obtain rfl : k = hs.length := by omega
      have HT := Lib.hid hrt
      have HBr := Lib.hid hbr
      clear hrt hbr
      go_wp2
      go_ret
      have h2 := HT.out
      rw [filledH_all] at h2
      exact ⟨⟨_, rfl, h2⟩, HBr.out⟩

set_option maxRecDepth 100000 in
set_option maxHeartbeats 400000 in
theorem to_region (r : Rgn) (v : Value) (w : World) (hv : Rg w v r) (hl : r.2.length ≤ 1048576) (hr : ∀ (i : Nat) h, r.2[i]? = some h → h.1.length ≤ 1048576) :
    Calls Tryd.prog 7 #[v] w (MadeG w r) := by
  obtain ⟨u, rfl, hs⟩ := hv
  have HS := Lib.hid hs
  have K := Lib.hid (Bk.three w #[.int .i64 r.1, u] #[.int .i64 0, .slice none 0 0] #[.int .i64 r.1, .slice none 0 0] 24 29 29)
  have B0 := Lib.hid (below3 w (.cells #[.int .i64 r.1, u] 24) (.cells #[.int .i64 0, .slice none 0 0] 29) (.cells #[.int .i64 r.1, .slice none 0 0] 29))
  have HR := Lib.hid hr
  clear hs hr
  go_enter Tryd.func7, Tryd.ntmps7
  go_wp2_with fail
  refine (to_halfs r.2 u _ (HS.out.below B0.out) hl HR.out).mono ?_
  rintro e w1 ⟨⟨x, rfl, ho⟩, hb⟩
  have HO := Lib.hid ho
  obtain ⟨⟨b0, b1⟩, f0, f1⟩ := (K.out.2.1.below hb).two
  obtain ⟨⟨c0, c1⟩, g0, g1⟩ := (K.out.2.2.below hb).two
  have B1 := Lib.hid (B0.out.trans (hb.mono B0.out.size))
  obtain ⟨ra, rc, rfl, _⟩ := ho.hs.shape
  clear hb ho
  go_wp2
  refine bodyPost_ret (v := .agg #[.int .i64 r.1, .slice ra r.2.length rc]) ?_ rfl ⟨⟨_, rfl, _, rfl, ?_⟩, ((B1.out.setCell (by simp; omega) _).setCell (by simp) _).setCell (by simp) _⟩
  · simp [results, Tryd.results7, go_sem, b0, b1]
  · exact ((HO.out.kept (((Kept.refl w.heap.size (w.heap.size + 3) w1).setCell (by simp; omega) (by simp) _).setCell (by simp) (by simp) _ |>.setCell (by simp) (by simp) _) (.inr (by simp))).mono (by simp; omega) (by simp [World.setCell]))
end Go.Proofs.YtflkalgofkpdbaaDoor
/- Equality of two slices of integers. -/
namespace Go.Proofs.YtflkalgofkpdbaaDoor
open Go.RowKit Go.Lib

set_option maxRecDepth 100000 in
set_option maxHeartbeats 400000 in
/-- eqIntS at two slices that read alike. -/
theorem eq_int (zs : List Int) (v u : Value) (w : World) (hv : Sl w v (intVals zs)) (hu : Sl w u (intVals zs)) :
    Calls Tryd.prog 63 #[v, u] w fun e w' => e = .returned (.bool true) ∧ Below w.heap.size w w' := by
  obtain ⟨a, c, rfl, hm, hopen⟩ := hv.shape
  obtain ⟨a', c', rfl, hm', hopen'⟩ := hu.shape
  rw [intVals_len] at hm hopen hm' hopen'
  rw [intVals_len]
  unfold maxLen at hm hm'
  have HO := Lib.hid hopen
  have HO' := Lib.hid hopen'
  clear hopen hopen' hv hu
  go_enter Tryd.func63, Tryd.ntmps63
  go_wp2
  go_loopw [5] (fun i wr => ∃ k : Nat, k ≤ zs.length ∧ i = .int .i64 k ∧ Below w.heap.size w wr) (fun i _ => zs.length - (RowKit.intOf i).toNat)
  case atStart => exact ⟨0, Nat.zero_le _, rfl, Below.refl _ _⟩
  case round =>
    obtain ⟨k, hk, rfl, hbr⟩ := hrel
    have HB := Lib.hid hbr
    by_cases hlt : k < zs.length
    · obtain ⟨b, off, rfl, hc, hlt2, hx⟩ := HO.out (by omega)
      obtain ⟨b', off', rfl, hc', hlt2', hx'⟩ := HO'.out (by omega)
      have hcell := hx k _ (intVals_get zs k hlt)
      have hcell' := hx' k _ (intVals_get zs k hlt)
      rw [← hbr.cell (p := ⟨b, off + k, none⟩) hlt2] at hcell
      rw [← hbr.cell (p := ⟨b', off' + k, none⟩) hlt2'] at hcell'
      clear hx hx' hbr
      have i1 : (0 : Int) ≤ (k : Int) := by omega
      have i2 : (k : Int) < (zs.length : Int) := by omega
      go_wp2
      go_quiet (fail)
      go_wp2
      exact ⟨⟨k + 1, by omega, by go_num, below_drewN' HB.out _⟩, by simp [RowKit.intOf]; omega⟩
    · obtain rfl : k = zs.length := by omega
      go_wp2
      go_ret
      exact ⟨rfl, HB.out⟩

end Go.Proofs.YtflkalgofkpdbaaDoor
/- Equality of two slices of slices of integers that read alike. -/
namespace Go.Proofs.YtflkalgofkpdbaaDoor
open Go.RowKit Go.Lib

theorem keepF {w W : World} {p q : Addr} {x y : Value} (h1 : W.cell? p = some x) (h2 : W.cell? q = some y) (h3 : Below w.heap.size w W) : W.drew.cell? p = some x ∧ W.drew.cell? q = some y ∧ Below w.heap.size w W.drew := ⟨h1, h2, h3.drew⟩
theorem keepE {w W w1 : World} {p q : Addr} {x y : Value} (hp : p.block < w.heap.size) (hq : q.block < w.heap.size) (h1 : W.cell? p = some x) (h2 : W.cell? q = some y) (h3 : Below w.heap.size w W) (hb : Below W.heap.size W w1) : w1.cell? p = some x ∧ w1.cell? q = some y ∧ Below w.heap.size w w1 :=
  ⟨(hb.cell (Nat.lt_of_lt_of_le hp h3.size)).trans h1, (hb.cell (Nat.lt_of_lt_of_le hq h3.size)).trans h2, h3.trans (hb.mono h3.size)⟩

end Go.Proofs.YtflkalgofkpdbaaDoor
/- Equality of halves and regions that read alike. -/
namespace Go.Proofs.YtflkalgofkpdbaaDoor
open Go.RowKit Go.Lib

set_option maxRecDepth 100000 in
set_option maxHeartbeats 400000 in
theorem eq_half (h : Hf) (v u : Value) (w : World) (hv : Hv w v h) (hu : Hv w u h) :
    Calls Tryd.prog 41 #[v, u] w (Quiet w (.bool true)) := by
  obtain ⟨x, rfl, hx⟩ := hv
  obtain ⟨y, rfl, hy⟩ := hu
  have HX := Lib.hid hx
  have HY := Lib.hid hy
  have B0 := Lib.hid (below2 w (.cells #[x, .int .i64 h.2] 43) (.cells #[y, .int .i64 h.2] 43))
  have K := Lib.hid (Bk.pair w #[x, .int .i64 h.2] #[y, .int .i64 h.2] 43 43)
  clear hx hy
  go_enter Tryd.func41, Tryd.ntmps41
  go_wp2_with fail
  refine (eq_int h.1 x y _ (HX.out.below B0.out) (HY.out.below B0.out)).mono ?_
  rintro e w1 ⟨rfl, hb⟩
  have B1 := Lib.hid (B0.out.trans (hb.mono B0.out.size))
  obtain ⟨⟨_, a1⟩, _⟩ := (K.out.1.below hb).two
  obtain ⟨⟨_, b1⟩, _⟩ := (K.out.2.below hb).two
  clear hb
  go_wp2_with fail
  go_ret
  exact ⟨rfl, B1.out⟩

theorem keepF4 {w W : World} {p q r s : Addr} {x y z t : Value} (h1 : W.cell? p = some x) (h2 : W.cell? q = some y) (h4 : W.cell? r = some z) (h5 : W.cell? s = some t) (h3 : Below w.heap.size w W) : W.drew.cell? p = some x ∧ W.drew.cell? q = some y ∧ W.drew.cell? r = some z ∧ W.drew.cell? s = some t ∧ Below w.heap.size w W.drew := ⟨h1, h2, h4, h5, h3.drew⟩
theorem keepE4 {w W w1 : World} {p q r s : Addr} {x y z t : Value} (hp : p.block < w.heap.size) (hq : q.block < w.heap.size) (hr : r.block < w.heap.size) (hs : s.block < w.heap.size) (h1 : W.cell? p = some x) (h2 : W.cell? q = some y) (h4 : W.cell? r = some z) (h5 : W.cell? s = some t) (h3 : Below w.heap.size w W) (hb : Below W.heap.size W w1) :
    w1.cell? p = some x ∧ w1.cell? q = some y ∧ w1.cell? r = some z ∧ w1.cell? s = some t ∧ Below w.heap.size w w1 :=
  ⟨(hb.cell (Nat.lt_of_lt_of_le hp h3.size)).trans h1, (hb.cell (Nat.lt_of_lt_of_le hq h3.size)).trans h2, (hb.cell (Nat.lt_of_lt_of_le hr h3.size)).trans h4, (hb.cell (Nat.lt_of_lt_of_le hs h3.size)).trans h5, h3.trans (hb.mono h3.size)⟩

set_option maxRecDepth 100000 in
set_option maxHeartbeats 800000 in
theorem eq_halfs (hs : List Hf) (v u : Value) (w : World) (hv : Hs w v hs) (hu : Hs w u hs) :
    Calls Tryd.prog 23 #[v, u] w (Quiet w (.bool true)) := by
  have HV := Lib.hid hv
  have HU := Lib.hid hu
  obtain ⟨a, c, rfl, hm⟩ := hv.shape
  obtain ⟨a', c', rfl, _⟩ := hu.shape
  unfold maxLen at hm
  clear hv hu
  go_enter Tryd.func23, Tryd.ntmps23
  go_wp2
  go_loopw [5] (fun i wr => ∃ k : Nat, k ≤ hs.length ∧ i = .int .i64 k ∧ Below w.heap.size w wr) (fun i _ => hs.length - (RowKit.intOf i).toNat)
  case atStart => exact ⟨0, Nat.zero_le _, rfl, Below.refl _ _⟩
  case round =>
    obtain ⟨k, hk, rfl, hbr⟩ := hrel
    have HB := Lib.hid hbr
    by_cases hlt : k < hs.length
    · obtain ⟨b, off, x, rfl, _, hb2, hcell, hcell1, hsx⟩ := HV.out.half k hlt rfl
      obtain ⟨b', off', y, rfl, _, hb2', hcell', hcell1', hsy⟩ := HU.out.half k hlt rfl
      rw [← hbr.cell (p := ⟨b, off + k * 2, none⟩) hb2] at hcell
      rw [← hbr.cell (p := ⟨b', off' + k * 2, none⟩) hb2'] at hcell'
      rw [← hbr.cell (p := ⟨b, off + k * 2 + 1, none⟩) hb2] at hcell1
      rw [← hbr.cell (p := ⟨b', off' + k * 2 + 1, none⟩) hb2'] at hcell1'
      have HX := Lib.hid hsx
      have HY := Lib.hid hsy
      have i1 : (0 : Int) ≤ (k : Int) := by omega
      have i2 : (k : Int) < (hs.length : Int) := by omega
      clear hsx hsy
      go_wp2
      go_region_held3 (fun w' => w'.cell? ⟨b, off + k * 2, none⟩ = some x ∧ w'.cell? ⟨b, off + k * 2 + 1, none⟩ = some (.int .i64 hs[k].2) ∧ w'.cell? ⟨b', off' + k * 2, none⟩ = some y ∧ w'.cell? ⟨b', off' + k * 2 + 1, none⟩ = some (.int .i64 hs[k].2) ∧ Below w.heap.size w w')
        (first
          | with_reducible exact keepF4 hcell hcell1 hcell' hcell1' hbr
          | (go_split_ands; with_reducible exact keepE4 hb2 hb2 hb2' hb2' (by assumption) (by assumption) (by assumption) (by assumption) (by assumption) (by assumption))
          | go_keep)
        (first | (go_at_call 41; refine (eq_half hs[k] _ _ _ ⟨x, rfl, HX.out.below HB.out.drew⟩ ⟨y, rfl, HY.out.below HB.out.drew⟩).mono ?_; rintro e w1 ⟨rfl, hb1⟩))
      rename_i hH
      have HB1 := Lib.hid hH.2.2.2.2
      clear hH hbr
      go_wp2
      exact ⟨⟨k + 1, by omega, by go_num, HB1.out⟩, by simp [RowKit.intOf]; omega⟩
    · obtain rfl : k = hs.length := by omega
      clear hbr
      go_wp2
      go_ret
      exact ⟨rfl, HB.out⟩

set_option maxRecDepth 100000 in
set_option maxHeartbeats 400000 in
theorem eq_region (r : Rgn) (v u : Value) (w : World) (hv : Rg w v r) (hu : Rg w u r) :
    Calls Tryd.prog 9 #[v, u] w (Quiet w (.bool true)) := by
  obtain ⟨x, rfl, hx⟩ := hv
  obtain ⟨y, rfl, hy⟩ := hu
  have HX := Lib.hid hx
  have HY := Lib.hid hy
  have B0 := Lib.hid (below2 w (.cells #[.int .i64 r.1, x] 29) (.cells #[.int .i64 r.1, y] 29))
  clear hx hy
  go_enter Tryd.func9, Tryd.ntmps9
  go_wp2_with fail
  refine (eq_halfs r.2 x y _ (HX.out.below B0.out) (HY.out.below B0.out)).mono ?_
  rintro e w1 ⟨rfl, hb⟩
  have B1 := Lib.hid (B0.out.trans (hb.mono B0.out.size))
  clear hb
  go_wp2_with fail
  go_ret
  exact ⟨rfl, B1.out⟩
end Go.Proofs.YtflkalgofkpdbaaDoor
/- The model's halves and regions: what is one, which points it has. -/
namespace Go.Proofs.YtflkalgofkpdbaaDoor
open Go.RowKit Go.Lib

theorem halfOk_f1 {n : Int} {h : Hf} (c : inR n 1 3 = false) : halfOk n h = false := by unfold halfOk; rw [c]; rfl
theorem halfOk_f2 {n : Int} {h : Hf} (c : ¬ (h.1.length : Int) = n) : halfOk n h = false := by unfold halfOk; rw [decide_eq_false c]; simp
theorem halfOk_f3 {n : Int} {h : Hf} (c : small h.1 20 = false) : halfOk n h = false := by unfold halfOk; rw [c]; simp
theorem halfOk_f4 {n : Int} {h : Hf} (c : ¬ 0 < allG h.1) : halfOk n h = false := by unfold halfOk; rw [decide_eq_false c]; simp
theorem halfOk_e {n : Int} {h : Hf} (c1 : inR n 1 3 = true) (c2 : (h.1.length : Int) = n) (c3 : small h.1 20 = true) (c4 : 0 < allG h.1) : halfOk n h = inR h.2 (-200) 200 := by
  unfold halfOk; rw [c1, c3, decide_eq_true c2, decide_eq_true c4]; rfl

set_option maxRecDepth 100000 in
set_option maxHeartbeats 800000 in
theorem s_ishalf (n : Int) (h : Hf) (v : Value) (w : World) (hv : Hv w v h) :
    Calls Tryd.prog 33 #[.int .i64 n, v] w (Quiet w (.bool (halfOk n h))) := by
  obtain ⟨u, rfl, hs⟩ := hv
  have HS := Lib.hid hs
  obtain ⟨a, c, rfl, hm, _⟩ := hs.shape
  rw [intVals_len] at hm HS ⊢
  unfold maxLen at hm
  have K := Lib.hid (Bk.new w #[.slice a h.1.length c, .int .i64 h.2] 43)
  have B0 := Lib.hid (below1 w (.cells #[.slice a h.1.length c, .int .i64 h.2] 43))
  clear hs
  by_cases c1 : inR n 1 3 = true
  · have C1 := Lib.hid c1
    by_cases c2 : (h.1.length : Int) = n
    · subst c2
      by_cases c3 : small h.1 20 = true
      · have C3 := Lib.hid c3
        have BD := Lib.hid (small_bd c3)
        by_cases c4 : 0 < allG h.1
        · have E := Lib.hid (halfOk_e (h := h) c1 rfl c3 c4)
          clear c1 c3
          go_enter Tryd.func33, Tryd.ntmps33
          go_wp2_with fail
          refine (s_in _ _ _ _).mono ?_
          rintro e w1 ⟨rfl, rfl⟩
          rw [C1.out]
          go_wp2_with fail
          refine (s_small h.1 20 (by omega) (by omega) _ _ (HS.out.below B0.out)).mono ?_
          rintro e w1 ⟨rfl, hb⟩
          rw [C3.out]
          have K1 := Lib.hid (K.out.below hb)
          have B1 := Lib.hid (B0.out.trans (hb.mono B0.out.size))
          clear hb
          obtain ⟨⟨l0, _⟩, -⟩ := K1.out.two
          go_wp2_with fail
          refine (s_all h.1 20 (by omega) (by omega) BD.out _ _ (HS.out.below B1.out)).mono ?_
          rintro e w2 ⟨rfl, hb⟩
          have K2 := Lib.hid (K1.out.below hb)
          have B2 := Lib.hid (B1.out.trans (hb.mono B1.out.size))
          clear hb l0
          obtain ⟨⟨_, l1⟩, -⟩ := K2.out.two
          go_wp2_with fail
          refine (s_in _ _ _ _).mono ?_
          rintro e w3 ⟨rfl, rfl⟩
          go_wp2_with fail
          go_ret
          exact ⟨ret_bool E.out.symm, B2.out⟩
        · have E := Lib.hid (halfOk_f4 (n := h.1.length) (h := h) c4)
          clear c1 c3
          go_enter Tryd.func33, Tryd.ntmps33
          go_wp2_with fail
          refine (s_in _ _ _ _).mono ?_
          rintro e w1 ⟨rfl, rfl⟩
          rw [C1.out]
          go_wp2_with fail
          refine (s_small h.1 20 (by omega) (by omega) _ _ (HS.out.below B0.out)).mono ?_
          rintro e w1 ⟨rfl, hb⟩
          rw [C3.out]
          have K1 := Lib.hid (K.out.below hb)
          have B1 := Lib.hid (B0.out.trans (hb.mono B0.out.size))
          clear hb
          obtain ⟨⟨l0, _⟩, -⟩ := K1.out.two
          go_wp2_with fail
          refine (s_all h.1 20 (by omega) (by omega) BD.out _ _ (HS.out.below B1.out)).mono ?_
          rintro e w2 ⟨rfl, hb⟩
          have B2 := Lib.hid (B1.out.trans (hb.mono B1.out.size))
          clear hb l0
          go_wp2_with fail
          go_ret
          exact ⟨ret_bool E.out.symm, B2.out⟩
      · have C3 := Lib.hid (bool_f c3)
        have E := Lib.hid (halfOk_f3 (n := h.1.length) (h := h) (bool_f c3))
        clear c1 c3
        go_enter Tryd.func33, Tryd.ntmps33
        go_wp2_with fail
        refine (s_in _ _ _ _).mono ?_
        rintro e w1 ⟨rfl, rfl⟩
        rw [C1.out]
        go_wp2_with fail
        refine (s_small h.1 20 (by omega) (by omega) _ _ (HS.out.below B0.out)).mono ?_
        rintro e w1 ⟨rfl, hb⟩
        rw [C3.out]
        have B1 := Lib.hid (B0.out.trans (hb.mono B0.out.size))
        clear hb
        go_wp2_with fail
        go_ret
        exact ⟨ret_bool E.out.symm, B1.out⟩
    · have E := Lib.hid (halfOk_f2 (h := h) c2)
      have hne : ((h.1.length : Int) == n) = false := by rw [beq_eq_false_iff_ne]; exact c2
      clear c1 c2
      go_enter Tryd.func33, Tryd.ntmps33
      go_wp2_with fail
      refine (s_in _ _ _ _).mono ?_
      rintro e w1 ⟨rfl, rfl⟩
      rw [C1.out]
      go_wp2_with fail
      go_ret
      exact ⟨ret_bool E.out.symm, B0.out⟩
  · have C1 := Lib.hid (bool_f c1)
    have E := Lib.hid (halfOk_f1 (h := h) (bool_f c1))
    clear c1
    go_enter Tryd.func33, Tryd.ntmps33
    go_wp2_with fail
    refine (s_in _ _ _ _).mono ?_
    rintro e w1 ⟨rfl, rfl⟩
    rw [C1.out]
    go_wp2_with fail
    go_ret
    exact ⟨ret_bool E.out.symm, B0.out⟩

theorem regOk_in {n : Int} {hs : List Hf} (h : inR n 1 3 = false) : regOk n hs = false := by unfold regOk; rw [h]; simp
theorem regOk_long {n : Int} {hs : List Hf} (h : ¬ hs.length ≤ 8) : regOk n hs = false := by unfold regOk; rw [decide_eq_false h]; simp
theorem regOk_e {n : Int} {hs : List Hf} (h1 : hs.all (halfOk n) = true) (h2 : inR n 1 3 = true) (h3 : hs.length ≤ 8) : regOk n hs = true := by unfold regOk; rw [h1, h2, decide_eq_true h3]; rfl

theorem regOk_i {n : Int} {hs : List Hf} (h1 : hs.all (halfOk n) = true) (h2 : inR n 1 3 = true) : regOk n hs = decide ((hs.length : Int) ≤ 8) := by
  unfold regOk
  rw [h1, h2]
  simp only [Bool.true_and]
  exact decide_eq_decide.2 (by omega)
set_option maxRecDepth 100000 in
set_option maxHeartbeats 800000 in
theorem s_isreg (r : Rgn) (v : Value) (w : World) (hv : Rg w v r) :
    Calls Tryd.prog 15 #[v] w (Quiet w (.bool (regOk r.1 r.2))) := by
  obtain ⟨n, hs'⟩ := r
  obtain ⟨u, rfl, hss⟩ := hv
  simp only at hss ⊢
  have HV := Lib.hid hss
  obtain ⟨a, c, rfl, hm⟩ := hss.shape
  unfold maxLen at hm
  have K := Lib.hid (Bk.new w #[.int .i64 n, .slice a hs'.length c] 29)
  have B0 := Lib.hid (below1 w (.cells #[.int .i64 n, .slice a hs'.length c] 29))
  clear hss
  go_enter Tryd.func15, Tryd.ntmps15
  go_wp2
  go_loopw [3] (fun i wr => ∃ k : Nat, k ≤ hs'.length ∧ i = .int .i64 k ∧ (hs'.take k).all (halfOk n) = true ∧ Below (w.alloc (.cells #[.int .i64 n, .slice a hs'.length c] 29)).heap.size (w.alloc (.cells #[.int .i64 n, .slice a hs'.length c] 29)) wr) (fun i _ => hs'.length - (RowKit.intOf i).toNat)
  case atStart => exact ⟨0, Nat.zero_le _, rfl, rfl, Below.refl _ _⟩
  case round =>
    obtain ⟨k, hk, rfl, ht, hbr⟩ := hrel
    have HB := Lib.hid hbr
    have HT := Lib.hid ht
    have HA := Lib.hid (B0.out.trans (hbr.mono B0.out.size))
    obtain ⟨⟨l0, l1⟩, -⟩ := (K.out.below hbr).two
    clear ht
    by_cases hlt : k < hs'.length
    · obtain ⟨b, off, x, rfl, _, hb2, hcell, hcell1, hsx⟩ := HV.out.half k hlt rfl
      rw [← HA.out.cell (p := ⟨b, off + k * 2, none⟩) hb2] at hcell
      rw [← HA.out.cell (p := ⟨b, off + k * 2 + 1, none⟩) hb2] at hcell1
      have HX := Lib.hid hsx
      have i1 : (0 : Int) ≤ (k : Int) := by omega
      have i2 : (k : Int) < (hs'.length : Int) := by omega
      have hb3 : b < (w.alloc (.cells #[.int .i64 n, .slice (some ⟨b, off, none⟩) hs'.length c] 29)).heap.size := by simp; omega
      have hb4 : w.heap.size < (w.alloc (.cells #[.int .i64 n, .slice (some ⟨b, off, none⟩) hs'.length c] 29)).heap.size := alloc_lt _ _
      clear hsx
      obtain ⟨q, hq⟩ : ∃ q : Bool, halfOk n hs'[k] = q := ⟨_, rfl⟩
      have HQ := Lib.hid hq
      clear hq
      go_wp2_with fail
      go_region_held3 (fun w' => w'.cell? ⟨w.heap.size, 0, none⟩ = some (.int .i64 n) ∧ w'.cell? ⟨w.heap.size, 1, none⟩ = some (.slice (some ⟨b, off, none⟩) hs'.length c) ∧ w'.cell? ⟨b, off + k * 2, none⟩ = some x ∧ w'.cell? ⟨b, off + k * 2 + 1, none⟩ = some (.int .i64 hs'[k].2) ∧ Below (w.alloc (.cells #[.int .i64 n, .slice (some ⟨b, off, none⟩) hs'.length c] 29)).heap.size (w.alloc (.cells #[.int .i64 n, .slice (some ⟨b, off, none⟩) hs'.length c] 29)) w')
        (first
          | with_reducible exact keepF4 l0 l1 hcell hcell1 hbr
          | (go_split_ands; with_reducible exact keepE4 hb4 hb4 hb3 hb3 (by assumption) (by assumption) (by assumption) (by assumption) (by assumption) (by assumption))
          | go_keep)
        (first | (go_at_call 33; refine (s_ishalf n hs'[k] _ _ ⟨x, rfl, HX.out.below HA.out.drew⟩).mono ?_; rintro e w1 ⟨rfl, hb1⟩; rw [HQ.out]))
      rename_i hH
      have HB1 := Lib.hid hH.2.2.2.2
      clear hH hbr l0 l1 hcell hcell1
      have HA1 := Lib.hid (B0.out.trans (HB1.out.mono B0.out.size))
      cases q with
      | true =>
        go_wp2
        exact ⟨⟨k + 1, by omega, by go_num, all_take' hlt HT.out HQ.out, HB1.out⟩, by simp [RowKit.intOf]; omega⟩
      | false =>
        go_wp2
        go_ret
        exact ⟨ret_bool (regOk_half hlt HQ.out).symm, HA1.out⟩
    · obtain rfl : k = hs'.length := by omega
      have HAll := Lib.hid (show hs'.all (halfOk n) = true by have h := HT.out; rw [List.take_length] at h; exact h)
      by_cases c1 : inR n 1 3 = true
      · have C1 := Lib.hid c1
        have E := Lib.hid (regOk_i HAll.out c1)
        clear c1 hbr
        go_wp2_with fail
        refine (s_in _ _ _ _).mono ?_
        rintro e w1 ⟨rfl, rfl⟩
        rw [C1.out]
        go_wp2_with fail
        go_ret
        exact ⟨ret_bool E.out.symm, HA.out⟩
      · have C1 := Lib.hid (bool_f c1)
        have E := Lib.hid (regOk_in (hs := hs') (bool_f c1))
        clear c1 hbr
        go_wp2_with fail
        refine (s_in _ _ _ _).mono ?_
        rintro e w1 ⟨rfl, rfl⟩
        rw [C1.out]
        go_wp2_with fail
        go_ret
        exact ⟨ret_bool E.out.symm, HA.out⟩
end Go.Proofs.YtflkalgofkpdbaaDoor
/- The program's halves and regions: what is one. -/
namespace Go.Proofs.YtflkalgofkpdbaaDoor
open Go.RowKit Go.Lib

theorem inR_hi {x lo hi : Int} (h : ¬ x < lo) : inR x lo hi = decide (x ≤ hi) := by
  unfold inR
  exact decide_eq_decide.2 (by omega)

set_option maxRecDepth 100000 in
theorem i_nonormal (x : Int) (w : World) : Calls Tryd.prog 56 #[.int .i64 x] w fun e w' => e = .returned (.bool (!inR x (-20) 20)) ∧ w = w' := by
  by_cases h1 : x < -20
  · have h := Lib.hid (inR_f (x := x) (lo := -20) (hi := 20) (fun h => by omega))
    go_enter Tryd.func56, Tryd.ntmps56
    go_wp2
    go_ret
    exact ⟨ret_bool (by rw [h.out]; rfl), rfl⟩
  · by_cases h2 : 20 < x
    · have h := Lib.hid (inR_f (x := x) (lo := -20) (hi := 20) (fun h => by omega))
      go_enter Tryd.func56, Tryd.ntmps56
      go_wp2
      go_ret
      exact ⟨ret_bool (by rw [h.out]; rfl), rfl⟩
    · have h := Lib.hid (inR_mk (x := x) (lo := -20) (hi := 20) (by omega) (by omega))
      go_enter Tryd.func56, Tryd.ntmps56
      go_wp2
      go_ret
      exact ⟨ret_bool (by rw [h.out]; rfl), rfl⟩

/-- Where the first number lies that is no entry, or -1. -/
def IdxN (v : List Int) (w : World) (e : Ending) (w' : World) : Prop :=
  ((small v 20 = true ∧ e = .returned (.int .i64 (-1))) ∨ (small v 20 = false ∧ ∃ k : Nat, e = .returned (.int .i64 k))) ∧ Below w.heap.size w w'

set_option maxRecDepth 100000 in
set_option maxHeartbeats 400000 in
theorem i_indexn (v : List Int) (a : Value) (w : World) (hv : Sl w a (intVals v)) :
    Calls Tryd.prog 69 #[a, .func (.func 56) #[] #[]] w (IdxN v w) := by
  obtain ⟨a, c, rfl, hm, hopen⟩ := hv.shape
  rw [intVals_len] at hm hopen ⊢
  unfold maxLen at hm
  have HO := Lib.hid hopen
  clear hopen hv
  go_enter Tryd.func69, Tryd.ntmps69
  go_wp2
  go_loopw [5, 8] (fun _ i wr => ∃ k : Nat, k ≤ v.length ∧ i = .int .i64 k ∧ small (v.take k) 20 = true ∧ Below w.heap.size w wr) (fun _ i _ => v.length - (RowKit.intOf i).toNat)
  case atStart => exact ⟨0, Nat.zero_le _, rfl, rfl, Below.refl _ _⟩
  case round =>
    obtain ⟨k, hk, rfl, ht, hbr⟩ := hrel
    have HB := Lib.hid hbr
    have HT := Lib.hid ht
    clear ht
    by_cases hlt : k < v.length
    · obtain ⟨b, off, rfl, hc, hlt2, hx⟩ := HO.out (by omega)
      have hcell := hx k _ (intVals_get v k hlt)
      rw [← hbr.cell (p := ⟨b, off + k, none⟩) hlt2] at hcell
      clear hx hbr
      by_cases hin : inR v[k] (-20) 20 = true
      · have HI := Lib.hid hin
        clear hin
        go_wp2_with fail
        refine (i_nonormal _ _).mono ?_
        rintro e w1 ⟨rfl, rfl⟩
        rw [HI.out]
        go_wp2_with fail
        exact ⟨⟨k + 1, by omega, by go_num, small_take hlt HT.out HI.out, HB.out⟩, by simp [RowKit.intOf]; omega⟩
      · have HI := Lib.hid (Bool.not_eq_true _ ▸ hin)
        clear hin
        go_wp2_with fail
        refine (i_nonormal _ _).mono ?_
        rintro e w1 ⟨rfl, rfl⟩
        rw [HI.out]
        go_wp2_with fail
        go_ret
        exact ⟨.inr ⟨small_not hlt HI.out, k, rfl⟩, HB.out⟩
    · obtain rfl : k = v.length := by omega
      clear hbr
      go_wp2
      go_ret
      refine ⟨.inl ⟨?_, rfl⟩, HB.out⟩
      have h := HT.out
      rw [List.take_length] at h
      exact h

set_option maxRecDepth 100000 in
theorem i_containsn (v : List Int) (a : Value) (w : World) (hv : Sl w a (intVals v)) :
    Calls Tryd.prog 55 #[a, .func (.func 56) #[] #[]] w (Quiet w (.bool (!small v 20))) := by
  have HV := Lib.hid hv
  clear hv
  go_enter Tryd.func55, Tryd.ntmps55
  go_wp2_with fail
  refine (i_indexn v a _ HV.out).mono ?_
  rintro e w1 ⟨⟨hs, rfl⟩ | ⟨hs, k, rfl⟩, hb⟩
  · have HS := Lib.hid hs
    clear hs
    go_wp2_with fail
    go_ret
    exact ⟨ret_bool (by rw [HS.out]; rfl), hb⟩
  · have HS := Lib.hid hs
    clear hs
    have h0 : (0 : Int) ≤ (k : Int) := by omega
    go_wp2_with fail
    go_ret
    exact ⟨ret_bool (by rw [HS.out]; rfl), hb⟩


set_option maxRecDepth 100000 in
set_option maxHeartbeats 800000 in
theorem i_ishalf (n : Int) (h : Hf) (v : Value) (w : World) (hv : Hv w v h) :
    Calls Tryd.prog 37 #[.int .i64 n, v] w (Quiet w (.bool (halfOk n h))) := by
  obtain ⟨u, rfl, hs⟩ := hv
  have HS := Lib.hid hs
  obtain ⟨a, c, rfl, hm, _⟩ := hs.shape
  rw [intVals_len] at hm HS ⊢
  unfold maxLen at hm
  have K := Lib.hid (Bk.new w #[.slice a h.1.length c, .int .i64 h.2] 43)
  have B0 := Lib.hid (below1 w (.cells #[.slice a h.1.length c, .int .i64 h.2] 43))
  clear hs
  by_cases l1 : n < 1
  · have E := Lib.hid (halfOk_f1 (n := n) (h := h) (inR_f (by omega)))
    go_enter Tryd.func37, Tryd.ntmps37
    go_wp2_with fail
    go_ret
    exact ⟨ret_bool E.out.symm, B0.out⟩
  by_cases l3 : 3 < n
  · have E := Lib.hid (halfOk_f1 (n := n) (h := h) (inR_f (by omega)))
    go_enter Tryd.func37, Tryd.ntmps37
    go_wp2_with fail
    go_ret
    exact ⟨ret_bool E.out.symm, B0.out⟩
  by_cases c2 : (h.1.length : Int) = n
  case neg =>
    have E := Lib.hid (halfOk_f2 (h := h) c2)
    have hne : ((h.1.length : Int) == n) = false := by rw [beq_eq_false_iff_ne]; exact c2
    have hne2 : ((h.1.length : Int) != n) = true := by rw [bne_iff_ne]; exact c2
    clear c2
    go_enter Tryd.func37, Tryd.ntmps37
    go_wp2_with fail
    go_ret
    exact ⟨ret_bool E.out.symm, B0.out⟩
  subst c2
  have C1 := Lib.hid (show inR (h.1.length : Int) 1 3 = true from inR_mk (by omega) (by omega))
  by_cases c3 : small h.1 20 = true
  case neg =>
    have C3 := Lib.hid (bool_f c3)
    have E := Lib.hid (halfOk_f3 (n := h.1.length) (h := h) (bool_f c3))
    clear c3
    go_enter Tryd.func37, Tryd.ntmps37
    go_wp2_with fail
    refine (i_containsn h.1 _ _ (HS.out.below B0.out)).mono ?_
    rintro e w1 ⟨rfl, hb⟩
    rw [C3.out]
    have B1 := Lib.hid (B0.out.trans (hb.mono B0.out.size))
    clear hb
    go_wp2_with fail
    go_ret
    exact ⟨ret_bool E.out.symm, B1.out⟩
  have C3 := Lib.hid c3
  obtain ⟨x, y, z, p1, p2, p4, p5, p3⟩ := pad3 h.1 (by omega) (by omega)
  have P1 := Lib.hid p1
  by_cases hz : x = 0 ∧ y = 0 ∧ z = 0
  · have E := Lib.hid (halfOk_f4 (n := h.1.length) (h := h) (by rw [p2, allG_zero _ hz]; omega))
    obtain ⟨rfl, rfl, rfl⟩ := hz
    have hq := eq_arr_t (x := 0) (y := 0) (z := 0) (x' := 0) (y' := 0) (z' := 0) ⟨rfl, rfl, rfl⟩
    clear c3 p1 p2 p4 p5 p3
    go_enter Tryd.func37, Tryd.ntmps37
    go_wp2_with fail
    refine (i_containsn h.1 _ _ (HS.out.below B0.out)).mono ?_
    rintro e w1 ⟨rfl, hb⟩
    rw [C3.out]
    have K1 := Lib.hid (K.out.below hb)
    have B1 := Lib.hid (B0.out.trans (hb.mono B0.out.size))
    clear hb
    obtain ⟨⟨l0, -⟩, -⟩ := K1.out.two
    go_wp2_with fail
    refine (i_num h.1 _ _ _ P1.out (by omega) (by omega) _ _ (HS.out.below B1.out)).mono ?_
    rintro e w2 ⟨rfl, hb⟩
    have B2 := Lib.hid (B1.out.trans (hb.mono B1.out.size))
    clear hb l0
    go_wp2_with fail
    go_ret
    exact ⟨ret_bool E.out.symm, B2.out⟩
  · have hq := eq_arr_f (x := x) (y := y) (z := z) (x' := 0) (y' := 0) (z' := 0) hz
    have E := Lib.hid (halfOk_e (n := h.1.length) (h := h) C1.out rfl c3 (allG_pos (fun hh => hz (pad_zero p2 p4 p5 (by omega) hh))))
    clear c3 p1 p2 p4 p5 p3
    by_cases e1 : h.2 < -200
    · have E2 := Lib.hid (E.out.trans (inR_f (by omega)))
      go_enter Tryd.func37, Tryd.ntmps37
      go_wp2_with fail
      refine (i_containsn h.1 _ _ (HS.out.below B0.out)).mono ?_
      rintro e w1 ⟨rfl, hb⟩
      rw [C3.out]
      have K1 := Lib.hid (K.out.below hb)
      have B1 := Lib.hid (B0.out.trans (hb.mono B0.out.size))
      clear hb
      obtain ⟨⟨l0, -⟩, -⟩ := K1.out.two
      go_wp2_with fail
      refine (i_num h.1 _ _ _ P1.out (by omega) (by omega) _ _ (HS.out.below B1.out)).mono ?_
      rintro e w2 ⟨rfl, hb⟩
      have B2 := Lib.hid (B1.out.trans (hb.mono B1.out.size))
      obtain ⟨⟨-, l1⟩, -⟩ := (K1.out.below hb).two
      clear hb l0
      go_wp2_with fail
      go_ret
      exact ⟨ret_bool E2.out.symm, B2.out⟩
    · have E2 := Lib.hid (E.out.trans (inR_hi (by omega)))
      go_enter Tryd.func37, Tryd.ntmps37
      go_wp2_with fail
      refine (i_containsn h.1 _ _ (HS.out.below B0.out)).mono ?_
      rintro e w1 ⟨rfl, hb⟩
      rw [C3.out]
      have K1 := Lib.hid (K.out.below hb)
      have B1 := Lib.hid (B0.out.trans (hb.mono B0.out.size))
      clear hb
      obtain ⟨⟨l0, -⟩, -⟩ := K1.out.two
      go_wp2_with fail
      refine (i_num h.1 _ _ _ P1.out (by omega) (by omega) _ _ (HS.out.below B1.out)).mono ?_
      rintro e w2 ⟨rfl, hb⟩
      have B2 := Lib.hid (B1.out.trans (hb.mono B1.out.size))
      obtain ⟨⟨-, l1⟩, -⟩ := (K1.out.below hb).two
      clear hb l0
      go_wp2_with fail
      go_ret
      exact ⟨ret_bool E2.out.symm, B2.out⟩

set_option maxRecDepth 100000 in
set_option maxHeartbeats 800000 in
theorem i_isreg (r : Rgn) (v : Value) (w : World) (hv : Rg w v r) :
    Calls Tryd.prog 19 #[v] w (Quiet w (.bool (regOk r.1 r.2))) := by
  obtain ⟨n, hs'⟩ := r
  obtain ⟨u, rfl, hss⟩ := hv
  simp only at hss ⊢
  have HV := Lib.hid hss
  obtain ⟨a, c, rfl, hm⟩ := hss.shape
  unfold maxLen at hm
  have K := Lib.hid (Bk.new w #[.int .i64 n, .slice a hs'.length c] 29)
  have B0 := Lib.hid (below1 w (.cells #[.int .i64 n, .slice a hs'.length c] 29))
  clear hss
  by_cases l1 : n < 1
  · have E := Lib.hid (regOk_in (n := n) (hs := hs') (inR_f (by omega)))
    go_enter Tryd.func19, Tryd.ntmps19
    go_wp2_with fail
    go_ret
    exact ⟨ret_bool E.out.symm, B0.out⟩
  by_cases l3 : 3 < n
  · have E := Lib.hid (regOk_in (n := n) (hs := hs') (inR_f (by omega)))
    go_enter Tryd.func19, Tryd.ntmps19
    go_wp2_with fail
    go_ret
    exact ⟨ret_bool E.out.symm, B0.out⟩
  by_cases l8 : 8 < hs'.length
  · have E := Lib.hid (regOk_long (n := n) (hs := hs') (by omega))
    go_enter Tryd.func19, Tryd.ntmps19
    go_wp2_with fail
    go_ret
    exact ⟨ret_bool E.out.symm, B0.out⟩
  have C1 := Lib.hid (show inR n 1 3 = true from inR_mk (by omega) (by omega))
  go_enter Tryd.func19, Tryd.ntmps19
  go_wp2
  go_loopw [22] (fun i wr => ∃ k : Nat, k ≤ hs'.length ∧ i = .int .i64 k ∧ (hs'.take k).all (halfOk n) = true ∧ Below (w.alloc (.cells #[.int .i64 n, .slice a hs'.length c] 29)).heap.size (w.alloc (.cells #[.int .i64 n, .slice a hs'.length c] 29)) wr) (fun i _ => hs'.length - (RowKit.intOf i).toNat)
  case atStart => exact ⟨0, Nat.zero_le _, rfl, rfl, Below.refl _ _⟩
  case round =>
    obtain ⟨k, hk, rfl, ht, hbr⟩ := hrel
    have HB := Lib.hid hbr
    have HT := Lib.hid ht
    have HA := Lib.hid (B0.out.trans (hbr.mono B0.out.size))
    obtain ⟨⟨l0, -⟩, -⟩ := (K.out.below hbr).two
    clear ht
    by_cases hlt : k < hs'.length
    · obtain ⟨b, off, x, rfl, _, hb2, hcell, hcell1, hsx⟩ := HV.out.half k hlt rfl
      rw [← HA.out.cell (p := ⟨b, off + k * 2, none⟩) hb2] at hcell
      rw [← HA.out.cell (p := ⟨b, off + k * 2 + 1, none⟩) hb2] at hcell1
      have HX := Lib.hid hsx
      obtain ⟨xa, xc, rfl, _, _⟩ := hsx.shape
      have hsz := (K.out.below hbr).lt
      have hnb := below1 wr (.cells #[.slice xa (intVals hs'[k].1).length xc, .int .i64 hs'[k].2] 43)
      have HN := Lib.hid (HB.out.trans (hnb.mono HB.out.size))
      have HAN := Lib.hid (HA.out.trans (hnb.mono HA.out.size))
      clear hsx hbr hnb
      obtain ⟨q, hq⟩ : ∃ q : Bool, halfOk n hs'[k] = q := ⟨_, rfl⟩
      have HQ := Lib.hid hq
      clear hq
      go_wp2_with fail
      refine (i_ishalf n hs'[k] _ _ ⟨_, rfl, HX.out.below HAN.out⟩).mono ?_
      rintro e w1 ⟨rfl, hb1⟩
      rw [HQ.out]
      have HB1 := Lib.hid (HN.out.trans (hb1.mono HN.out.size))
      have HA1 := Lib.hid (B0.out.trans (HB1.out.mono B0.out.size))
      clear hb1 l0 hcell hcell1
      cases q with
      | true =>
        go_wp2
        exact ⟨⟨k + 1, by omega, by go_num, all_take' hlt HT.out HQ.out, HB1.out⟩, by simp [RowKit.intOf]; omega⟩
      | false =>
        go_wp2
        go_ret
        exact ⟨ret_bool (regOk_half hlt HQ.out).symm, HA1.out⟩
    · obtain rfl : k = hs'.length := by omega
      have E := Lib.hid (regOk_e (by have h := HT.out; rw [List.take_length] at h; exact h) C1.out (by omega))
      clear hbr
      go_wp2
      go_ret
      exact ⟨ret_bool E.out.symm, HA.out⟩
end Go.Proofs.YtflkalgofkpdbaaDoor
/- Plain facts on the text of a region. -/
namespace Go.Proofs.YtflkalgofkpdbaaDoor
open Go.RowKit Go.Lib

/-- The text of a region. -/
def regTx (n : Int) (hs : List Hf) : List UInt8 := regL textL itoa n hs
def regT (n : Int) (hs : List Hf) : List UInt8 := if regOk n hs = true then regTx n hs else []
theorem textL_len (v : List Int) (h : W64 v) : (textL v).length ≤ 22 * v.length := by
  have h1 := join_len [44] (numerals v)
  have h2 := numerals_sizes v h
  rw [numerals_len] at h1
  unfold textL
  simp only [List.length_cons, List.length_nil] at h1
  omega
/-- What is known of a half whose text is made. -/
def TxOk (h : Hf) : Prop := h.1.length ≤ 3 ∧ W64 h.1 ∧ -9223372036854775808 ≤ h.2 ∧ h.2 ≤ 9223372036854775807
theorem halfOk_tx {n : Int} {h : Hf} (k : halfOk n h = true) : TxOk h := by
  have h1 := halfOk_t k
  exact ⟨by omega, h1.2.2.2.1.w64 (by omega), by omega, by omega⟩
theorem halfL_len {h : Hf} (k : TxOk h) : (halfL textL itoa h).length ≤ 100 := by
  have h1 := textL_len h.1 k.2.1
  have h2 := itoa_length_le h.2 k.2.2.1 k.2.2.2
  have h3 := k.1
  unfold halfL
  simp only [List.length_cons, List.length_append]
  omega
theorem regTx_len : ∀ (n : Int) (hs : List Hf), (∀ h ∈ hs, TxOk h) → -9223372036854775808 ≤ n → n ≤ 9223372036854775807 → (regTx n hs).length ≤ 21 + 100 * hs.length
  | n, [], _, h0, h1 => by
    have := itoa_length_le n h0 h1
    simp only [regTx, regL, List.flatMap_nil, List.append_nil, List.length_nil]; omega
  | n, h :: hs, e, h0, h1 => by
    have ih := regTx_len n hs (fun k hk => e k (List.mem_cons_of_mem _ hk)) h0 h1
    have hh := halfL_len (e h (List.mem_cons_self ..))
    simp only [regTx, regL, List.flatMap_cons, List.length_append, List.length_cons] at ih ⊢
    omega
theorem regTx_take {n : Int} {hs : List Hf} {k : Nat} (h : k < hs.length) : regTx n (hs.take (k + 1)) = regTx n (hs.take k) ++ 59 :: (textL hs[k].1 ++ 60 :: itoa hs[k].2) := reg_take h
theorem regT_len (n : Int) (hs : List Hf) : (regT n hs).length ≤ 900 := by
  unfold regT
  split
  · rename_i h
    have h1 := regOk_t h
    have := regTx_len n hs (fun k hk => by
      obtain ⟨i, hi, rfl⟩ := List.mem_iff_getElem.1 hk
      exact halfOk_tx (h1.2.2.2 i hi)) (by omega) (by omega)
    omega
  · simp
/-- The parts of a region's text. -/
def halfB (h : Hf) : ByteArray := ⟨(textL h.1 ++ 60 :: itoa h.2).toArray⟩
def regB (n : Int) (hs : List Hf) : List ByteArray := numeral n :: hs.map halfB
theorem regB_len (n : Int) (hs : List Hf) : (regB n hs).length = hs.length + 1 := by simp [regB]
theorem regB_take {n : Int} {hs : List Hf} {k : Nat} (h : k < hs.length) : regB n (hs.take (k + 1)) = regB n (hs.take k) ++ [halfB hs[k]] := by
  unfold regB
  rw [List.take_succ_eq_append_getElem h, List.map_append]; rfl
theorem regB_tk {n : Int} {hs : List Hf} (k : Nat) : (regB n hs).take (k + 1) = regB n (hs.take k) := by
  simp [regB, List.map_take]
theorem regB_jn (n : Int) (hs : List Hf) : ∀ k, k ≤ hs.length → jn [59] (regB n (hs.take k)) = regTx n (hs.take k)
  | 0, _ => by simp [regB, jn_one, regTx, regL, numeral]
  | k + 1, hk => by
    have ih := regB_jn n hs k (by omega)
    rw [regTx_take (by omega), ← ih, ← regB_tk, ← regB_tk, jn_step [59] (regB n hs) (k + 1) (by rw [regB_len]; omega) (by omega)]
    have e : (regB n hs)[k + 1]'(by rw [regB_len]; omega) = halfB hs[k] := by simp [regB]
    rw [e]
    simp [halfB]
theorem regB_join (n : Int) (hs : List Hf) : jn [59] (regB n hs) = regTx n hs := by
  have h := regB_jn n hs hs.length (Nat.le_refl _)
  rwa [List.take_length] at h
theorem halfB_size {h : Hf} (k : TxOk h) : (halfB h).size ≤ 100 := by
  have h1 := halfL_len k
  unfold halfL at h1
  simp only [List.length_cons] at h1
  show (textL h.1 ++ 60 :: itoa h.2).toArray.size ≤ 100
  simp only [List.size_toArray]
  omega
theorem regB_sizes : ∀ (n : Int) (hs : List Hf), (∀ h ∈ hs, TxOk h) → -9223372036854775808 ≤ n → n ≤ 9223372036854775807 → sizes (regB n hs) ≤ 21 + 100 * hs.length
  | n, [], _, h0, h1 => by
    have := numeral_size n h0 h1
    simp only [regB, sizes, List.map_cons, List.map_nil, List.sum_cons, List.sum_nil, List.length_nil]; omega
  | n, h :: hs, e, h0, h1 => by
    have ih := regB_sizes n hs (fun k hk => e k (List.mem_cons_of_mem _ hk)) h0 h1
    have hh := halfB_size (e h (List.mem_cons_self ..))
    simp only [regB, sizes, List.map_cons, List.sum_cons, List.length_cons] at ih ⊢
    omega
end Go.Proofs.YtflkalgofkpdbaaDoor
/- A region out of its text, plain. -/
namespace Go.Proofs.YtflkalgofkpdbaaDoor
open Go.RowKit Go.Lib

/-- A half out of its text: two sides, a vector and a bound. -/
def parsH2 : List ByteArray → Hf × Bool
  | [a, b] => if (parsV a.data.toList).2 = true ∧ (rdS b).2 = true then (((parsV a.data.toList).1, (rdS b).1), true) else (([], 0), false)
  | _ => (([], 0), false)
def parsH (x : ByteArray) : Hf × Bool := parsH2 (parts 60 x.data.toList)
def hsL (ps : List ByteArray) : List Hf := ps.map fun x => (parsH x).1
def hsOk (ps : List ByteArray) : Bool := ps.all fun x => (parsH x).2
/-- What ParseRegion answers at the parts of the text. -/
def parsRL : List ByteArray → Rgn × Bool
  | p :: qs => if (rdS p).2 = true ∧ hsOk qs = true ∧ regOk (rdS p).1 (hsL qs) = true then (((rdS p).1, hsL qs), true) else ((0, []), false)
  | [] => ((0, []), false)
def parsR (l : List UInt8) : Rgn × Bool := parsRL (parts 59 l)

theorem hsL_len (ps : List ByteArray) : (hsL ps).length = ps.length := by simp [hsL]
theorem hsL_take {ps : List ByteArray} {k : Nat} (h : k < ps.length) : hsL (ps.take (k + 1)) = hsL (ps.take k) ++ [(parsH ps[k]).1] := by
  unfold hsL
  rw [List.take_succ_eq_append_getElem h, List.map_append]; rfl
theorem hsOk_take {ps : List ByteArray} {k : Nat} (h : k < ps.length) (h1 : hsOk (ps.take k) = true) (h2 : (parsH ps[k]).2 = true) : hsOk (ps.take (k + 1)) = true := by
  rw [List.take_succ_eq_append_getElem h]
  unfold hsOk at *
  rw [List.all_append, h1, List.all_cons, h2]; rfl
theorem hsOk_not {ps : List ByteArray} {k : Nat} (h : k < ps.length) (h2 : (parsH ps[k]).2 = false) : hsOk ps = false := by
  unfold hsOk
  rw [List.all_eq_false]
  exact ⟨ps[k], List.getElem_mem h, by simp [h2]⟩
theorem parsRL_f1 {p : ByteArray} {qs : List ByteArray} (h : (rdS p).2 = false) : parsRL (p :: qs) = ((0, []), false) := if_neg (fun k => by rw [k.1] at h; cases h)
theorem parsRL_f2 {p : ByteArray} {qs : List ByteArray} (h : hsOk qs = false) : parsRL (p :: qs) = ((0, []), false) := if_neg (fun k => by rw [k.2.1] at h; cases h)
theorem parsRL_f3 {p : ByteArray} {qs : List ByteArray} (h : ¬ regOk (rdS p).1 (hsL qs) = true) : parsRL (p :: qs) = ((0, []), false) := if_neg (fun k => h k.2.2)
theorem parsRL_t {p : ByteArray} {qs : List ByteArray} (h1 : (rdS p).2 = true) (h2 : hsOk qs = true) (h3 : regOk (rdS p).1 (hsL qs) = true) : parsRL (p :: qs) = (((rdS p).1, hsL qs), true) := if_pos ⟨h1, h2, h3⟩
theorem parsH2_not {xs : List ByteArray} (h : xs.length ≠ 2) : parsH2 xs = (([], 0), false) := by
  match xs, h with
  | [], _ => rfl
  | [_], _ => rfl
  | [_, _], h => exact absurd rfl h
  | _ :: _ :: _ :: _, _ => rfl
theorem parsH2_f1 {a b : ByteArray} (h : (parsV a.data.toList).2 = false) : parsH2 [a, b] = (([], 0), false) := if_neg (fun k => by rw [k.1] at h; cases h)
theorem parsH2_f2 {a b : ByteArray} (h : (rdS b).2 = false) : parsH2 [a, b] = (([], 0), false) := if_neg (fun k => by rw [k.2] at h; cases h)
theorem parsH2_t {a b : ByteArray} (h1 : (parsV a.data.toList).2 = true) (h2 : (rdS b).2 = true) : parsH2 [a, b] = (((parsV a.data.toList).1, (rdS b).1), true) := if_pos ⟨h1, h2⟩
theorem two_of {xs : List ByteArray} (h : xs.length = 2) : ∃ a b, xs = [a, b] := by
  match xs, h with
  | [a, b], _ => exact ⟨a, b, rfl⟩
/-- The text of a half that was read is what was read. -/
theorem parsH_text {x : ByteArray} (h : (parsH x).2 = true) : halfB (parsH x).1 = x := by
  have hj := jn_parts 60 x.data.toList
  unfold parsH at h ⊢
  by_cases h2 : (parts 60 x.data.toList).length = 2
  · obtain ⟨a, b, e⟩ := two_of h2
    rw [e] at h hj ⊢
    by_cases ha : (parsV a.data.toList).2 = true
    · by_cases hb : (rdS b).2 = true
      · rw [parsH2_t ha hb]
        unfold halfB
        simp only
        rw [parsV_text ha, show itoa (rdS b).1 = b.data.toList from rdI_text hb]
        have e2 : jn [60] [a, b] = a.data.toList ++ 60 :: b.data.toList := by simp [jn, join_cons, joinTail]
        rw [← e2, hj, bytes_back]
      · rw [parsH2_f2 (by simpa using hb)] at h; cases h
    · rw [parsH2_f1 (by simpa using ha)] at h; cases h
  · rw [parsH2_not h2] at h; cases h
theorem hsL_text : ∀ {qs : List ByteArray}, hsOk qs = true → (hsL qs).map halfB = qs
  | [], _ => rfl
  | q :: qs, h => by
    unfold hsOk at h
    rw [List.all_cons, Bool.and_eq_true] at h
    have ih := hsL_text (qs := qs) h.2
    have e : (hsL (q :: qs)).map halfB = halfB (parsH q).1 :: (hsL qs).map halfB := rfl
    rw [e, ih, parsH_text h.1]
/-- The text of a region that was read is what was read. -/
theorem parsR_text {l : List UInt8} {p : ByteArray} {qs : List ByteArray} (e : parts 59 l = p :: qs) (h1 : (rdS p).2 = true) (h2 : hsOk qs = true) : regTx (rdS p).1 (hsL qs) = l := by
  rw [← regB_join]
  unfold regB
  rw [rdS_text h1, hsL_text h2, ← e, jn_parts]
theorem parsR_back {s p : ByteArray} {qs : List ByteArray} (e : parts 59 s.data.toList = p :: qs) (h1 : (rdS p).2 = true) (h2 : hsOk qs = true) (h3 : regOk (rdS p).1 (hsL qs) = true) : (⟨(regT (rdS p).1 (hsL qs)).toArray⟩ : ByteArray) = s := by
  unfold regT
  rw [if_pos h3, parsR_text e h1 h2, bytes_back]
theorem regOk_tot32 {n : Int} {hs : List Hf} (h : regOk n hs = true) : totH hs ≤ 32 := by
  have h1 := regOk_t h
  have key : ∀ ks : List Hf, (∀ k ∈ ks, k.1.length ≤ 3) → totH ks ≤ 4 * ks.length := by
    intro ks
    induction ks with
    | nil => intro _; simp [totH]
    | cons k ks ih =>
      intro hk
      have := ih (fun x hx => hk x (List.mem_cons_of_mem _ hx))
      have h0 := hk k (List.mem_cons_self ..)
      unfold totH at this ⊢
      simp only [List.map_cons, List.sum_cons, List.length_cons]
      omega
  have := key hs (fun k hk => by
    obtain ⟨i, hi, rfl⟩ := List.mem_iff_getElem.1 hk
    have := halfOk_t (h1.2.2.2 i hi)
    omega)
  have := h1.2.2.1
  omega
theorem parsRL_tot (ps : List ByteArray) : totH (parsRL ps).1.2 ≤ 32 := by
  match ps with
  | [] => exact Nat.zero_le _
  | p :: qs =>
    by_cases h : (rdS p).2 = true ∧ hsOk qs = true ∧ regOk (rdS p).1 (hsL qs) = true
    · rw [parsRL_t h.1 h.2.1 h.2.2]; exact regOk_tot32 h.2.2
    · rw [show parsRL (p :: qs) = ((0, []), false) from if_neg h]; exact Nat.zero_le _
theorem parsR_tot (l : List UInt8) : totH (parsR l).1.2 ≤ 32 := parsRL_tot _
/-- The number that the program reads for the dimension; where it reads none, no region is read. -/
theorem pn_reg {l : List UInt8} {n : Int} (h : Rd 6 l n) : rdI l = (n, true) := rdI_yes ⟨h.1, by have := h.2; have : (10 : Nat) ^ 6 ≤ 10 ^ 12 := Nat.pow_le_pow_right (by omega) (by omega); omega⟩
theorem pn_none {p : ByteArray} {qs : List ByteArray} (h : ∀ n, ¬ (Rd 6 p.data.toList n ∧ 0 ≤ n)) : parsRL (p :: qs) = ((0, []), false) := by
  refine if_neg fun k => ?_
  have h1 := (regOk_t k.2.2)
  have h2 : itoa (rdS p).1 = p.data.toList := rdI_text k.1
  have h3 : (3 : Nat) < 10 ^ 6 := by decide
  have h4 : (rdS p).1.natAbs < 10 ^ 6 := by omega
  have h5 : 0 ≤ (rdS p).1 := by omega
  exact h (rdS p).1 ⟨⟨h2.symm, h4⟩, h5⟩
end Go.Proofs.YtflkalgofkpdbaaDoor
