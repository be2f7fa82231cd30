/- Slices of halves: how they read. A half takes two cells: the slice of its normal, then its bound. -/
import Derived.Test.YtjijgagdaolkcaaMac
import Derived.Test.YtjijgagdaolkcaaMab
import Derived.Deep.SlicePairs
import Derived.Lib.SmallJoins
namespace Go.Proofs.Ytjijgagdaolkcaa
open Go Go.RowKit Go.ChangeShapes Go.WideShapes Go.Deep Go.Joins

/-- The slice v reads as the halves hs. -/
def Hs (W : World) (v : Value) (hs : List Hf) : Prop :=
  ∃ (a : Option Addr) (c : Nat), v = .slice a hs.length c ∧ hs.length ≤ maxLen ∧
    ∀ (i : Nat) h, hs[i]? = some h → ∃ (b off : Nat) (u : Value), a = some ⟨b, off, none⟩ ∧ hs.length ≤ c ∧ b < W.heap.size ∧
      W.cell? ⟨b, off + i * 2, none⟩ = some u ∧ W.cell? ⟨b, off + (i * 2 + 1), none⟩ = some (.int .i64 h.2) ∧ Sl W u (intVals h.1)
theorem Hs.below {W W' : World} {v : Value} {hs : List Hf} (h : Hs W v hs) (hb : Below W.heap.size W W') : Hs W' v hs := by
  obtain ⟨a, c, rfl, hm, hx⟩ := h
  refine ⟨a, c, rfl, hm, fun i x hi => ?_⟩
  obtain ⟨b, off, u, h1, h2, h3, h4, h5, h6⟩ := hx i x hi
  exact ⟨b, off, u, h1, h2, Nat.lt_of_lt_of_le h3 hb.size, (hb.cell (p := ⟨b, off + i * 2, none⟩) h3).trans h4, (hb.cell (p := ⟨b, off + (i * 2 + 1), none⟩) h3).trans h5, h6.below hb⟩
theorem Hs.shape {W : World} {v : Value} {hs : List Hf} (h : Hs W v hs) : ∃ (a : Option Addr) (c : Nat), v = .slice a hs.length c ∧ hs.length ≤ maxLen := by
  obtain ⟨a, c, h1, h2, _⟩ := h
  exact ⟨a, c, h1, h2⟩
/-- Half i. -/
theorem Hs.half {W : World} {v : Value} {hs : List Hf} (h : Hs W v hs) (i : Nat) (hi : i < hs.length) {a : Option Addr} {n c : Nat} (hv : v = .slice a n c) :
    ∃ (b off : Nat) (u : Value), a = some ⟨b, off, none⟩ ∧ hs.length ≤ c ∧ b < W.heap.size ∧ W.cell? ⟨b, off + i * 2, none⟩ = some u ∧ W.cell? ⟨b, off + i * 2 + 1, none⟩ = some (.int .i64 hs[i].2) ∧ Sl W u (intVals hs[i].1) := by
  obtain ⟨a', c', e, _, hx⟩ := h
  rw [hv] at e
  simp only [Value.slice.injEq] at e
  obtain ⟨rfl, rfl, rfl⟩ := e
  exact hx i _ (List.getElem?_eq_getElem hi)

/-- Every number of the halves is one of the machine. -/
def HWf (hs : List Hf) : Prop := ∀ h ∈ hs, (Lit.int .i64 h.2).wf = true ∧ ∀ z ∈ h.1, (Lit.int .i64 z).wf = true
instance : Inhabited (Int × List Int) := ⟨(0, [])⟩
section
variable {H : Type} {enc : TypeId × Value → H} {P : Program}
/-- What came in as a slice of halves. -/
theorem halves_came {W : World} {base : Nat} {sp : Nat → Bool} {held : Bool} {t e q : TypeId} {f0 f1 : Field} {fuel : Nat} {a : Option Addr} {len cap : Nat} {x : DataW H × List MemPlace}
    (ht : P.underlying t = some (.slice e)) (he : P.underlying e = some (.struct #[f0, f1])) (ce : P.cellsOf e = 2) (o0 : f0.offset = 0) (o1 : f1.offset = 1) (c0 : P.cellsOf f0.type = 1) (c1 : P.cellsOf f1.type = 1)
    (h0 : P.underlying f0.type = some (.slice q)) (hq : P.underlying q = some (.int .i64)) (cq : P.cellsOf q = 1) (h1 : P.underlying f1.type = some (.int .i64))
    (h : DataW.trod enc P W base sp held fuel t [.slice a len cap] = some x) :
    ∃ hs : List Hf, hs.length = len ∧ Hs W (.slice a len cap) hs ∧ HWf hs := by
  rcases open_slice_pairs ht he ce o0 o1 c0 c1 h with ⟨hcs, _⟩ | ⟨a', len', cap', m, n, V0, V1, D0, D1, P0, P1, hcs, hb, hl, hm, hmm, _, hx⟩
  · simp only [List.cons.injEq, Value.slice.injEq, and_true] at hcs
    obtain ⟨rfl, rfl, rfl⟩ := hcs
    exact ⟨[], rfl, ⟨none, 0, rfl, by simp, fun i u hu => by simp at hu⟩, fun h hh => by simp at hh⟩
  · simp only [List.cons.injEq, Value.slice.injEq, and_true] at hcs
    obtain ⟨rfl, rfl, rfl⟩ := hcs
    have hle : len ≤ m := by rw [hmm]; split <;> omega
    have each : ∀ i, i < len → ∃ z : Hf, W.cell? (a'.add (i * 2)) = some (V0 i) ∧ W.cell? (a'.add (i * 2 + 1)) = some (.int .i64 z.2) ∧ Sl W (V0 i) (intVals z.1) ∧ (Lit.int .i64 z.2).wf = true ∧ ∀ y ∈ z.1, (Lit.int .i64 y).wf = true := by
      intro i hi
      obtain ⟨g0, g1, g2, g3⟩ := hx i (by omega)
      obtain ⟨zs, s1, s2⟩ := sl_of_trod h0 hq cq g2
      obtain ⟨y, e1, _, hw⟩ := DataW.trod_int h1 g3
      simp only [List.cons.injEq, and_true] at e1
      exact ⟨(zs, y), g0, by rw [g1, e1], s1, hw, s2⟩
    obtain ⟨Z, hZ⟩ := choose_lt each
    refine ⟨(List.range len).map Z, by simp, ⟨some a', cap, by simp, by simp; omega, ?_⟩, ?_⟩
    · intro i z hz
      have hi := lt_of_get hz
      simp only [List.length_map, List.length_range] at hi
      rw [List.getElem?_map, List.getElem?_range hi] at hz
      simp only [Option.map_some, Option.some.injEq] at hz
      subst hz
      obtain ⟨g0, g1, g2, _⟩ := hZ i hi
      have hsp := cell_spot (hZ 0 (by omega)).1
      obtain ⟨b, off, sp'⟩ := a'
      have hs0 : sp' = none := by simpa [Addr.add] using hsp
      subst hs0
      have hlt : b < W.heap.size := by simpa [Addr.add] using cell_block_lt g1
      simp only [Addr.add] at g0 g1
      refine ⟨b, off, V0 i, rfl, by simp; omega, hlt, ?_, by simpa using g1, g2⟩
      by_cases hi0 : i = 0
      · subst hi0; simpa using g0
      · rw [if_neg (by omega)] at g0; exact g0
    · intro z hz
      obtain ⟨i, hi, rfl⟩ := List.mem_map.1 hz
      exact (hZ i (by simpa using hi)).2.2.2
end
end Go.Proofs.Ytjijgagdaolkcaa
/- Halves that the call made itself: a block of two cells for each, every normal in a block of its own. -/
namespace Go.Proofs.Ytjijgagdaolkcaa
open Go Go.RowKit Go.Deep

/-- The cells of a row of halves: us are the slices of the normals. -/
def flat : List Value → List Hf → List Value
  | u :: us, h :: hs => u :: .int .i64 h.2 :: flat us hs
  | _, _ => []
theorem flat_len : ∀ (us : List Value) (hs : List Hf), us.length = hs.length → (flat us hs).length = hs.length * 2
  | [], [], _ => rfl
  | u :: us, h :: hs, e => by
    have := flat_len us hs (by simpa using e)
    simp only [flat, List.length_cons, this]; omega
theorem flat_get0 : ∀ (us : List Value) (hs : List Hf) (i : Nat), us.length = hs.length → (flat us hs)[i * 2]? = us[i]?
  | [], [], i, _ => by simp [flat]
  | u :: us, h :: hs, 0, _ => by simp [flat]
  | u :: us, h :: hs, i + 1, e => by
    have := flat_get0 us hs i (by simpa using e)
    rw [show (i + 1) * 2 = i * 2 + 1 + 1 from by omega]
    simpa only [flat, List.getElem?_cons_succ] using this
theorem flat_get1 : ∀ (us : List Value) (hs : List Hf) (i : Nat), us.length = hs.length → (flat us hs)[i * 2 + 1]? = hs[i]?.map fun h => .int .i64 h.2
  | [], [], i, _ => by simp [flat]
  | u :: us, h :: hs, 0, _ => by simp [flat]
  | u :: us, h :: hs, i + 1, e => by
    have := flat_get1 us hs i (by simpa using e)
    rw [show (i + 1) * 2 + 1 = i * 2 + 1 + 1 + 1 from by omega]
    simpa only [flat, List.getElem?_cons_succ] using this
/-- A normal's slice is put in place i. -/
theorem flat_set0 : ∀ (us : List Value) (hs : List Hf) (i : Nat) (u : Value), us.length = hs.length → (flat us hs).set (i * 2) u = flat (us.set i u) hs
  | [], [], i, _, _ => by simp [flat]
  | x :: us, h :: hs, 0, u, _ => by simp [flat]
  | x :: us, h :: hs, i + 1, u, e => by
    have := flat_set0 us hs i u (by simpa using e)
    rw [show (i + 1) * 2 = i * 2 + 1 + 1 from by omega]
    simp only [flat, List.set_cons_succ, this]
/-- A bound is put in place i: its half keeps its normal. -/
theorem flat_set1 : ∀ (us : List Value) (hs : List Hf) (i : Nat) (h' : Hf), us.length = hs.length → (flat us hs).set (i * 2 + 1) (.int .i64 h'.2) = flat us (hs.set i h')
  | [], [], i, _, _ => by simp [flat]
  | x :: us, h :: hs, 0, h', _ => by simp [flat]
  | x :: us, h :: hs, i + 1, h', e => by
    have := flat_set1 us hs i h' (by simpa using e)
    rw [show (i + 1) * 2 + 1 = i * 2 + 1 + 1 + 1 from by omega]
    simp only [flat, List.set_cons_succ, this]

/-- The halves hs lie at v, in blocks of their own between lo and hi, no two in one. T: the type of a half; e: of a number. -/
def OwH (T e : TypeId) (lo hi : Nat) (w : World) (v : Value) (hs : List Hf) : Prop :=
  ∃ us : List Value, us.length = hs.length ∧ w.ownsRow lo T 2 v hs.length (flat us hs) ∧ (∀ b, v.ownBlock = some b → b < hi) ∧
    (∀ (i : Nat) u h, us[i]? = some u → hs[i]? = some h → OwnV e lo hi w u (intVals h.1)) ∧
    (∀ (i j : Nat) u u' b, i ≠ j → us[i]? = some u → us[j]? = some u' → u.ownBlock = some b → u'.ownBlock ≠ some b) ∧ (∀ (i : Nat) u b, us[i]? = some u → u.ownBlock = some b → v.ownBlock ≠ some b)
theorem OwH.nil {T e : TypeId} {lo hi : Nat} {w : World} : OwH T e lo hi w (.slice none 0 0) [] :=
  ⟨[], rfl, ⟨rfl, .inl ⟨rfl, rfl⟩⟩, fun b hb => by simp [Value.ownBlock] at hb, fun i u h hu => by simp at hu, fun i j u u' b _ hu => by simp at hu, fun i u b hu => by simp at hu⟩
theorem OwH.mono {T e : TypeId} {lo hi lo' hi' : Nat} {w : World} {v : Value} {hs : List Hf} (h : OwH T e lo hi w v hs) (h1 : lo' ≤ lo) (h2 : hi ≤ hi') : OwH T e lo' hi' w v hs := by
  obtain ⟨us, k1, k2, k3, k4, k5, k6⟩ := h
  exact ⟨us, k1, Go.Joins.ownsRow_le k2 h1, fun b hb => Nat.lt_of_lt_of_le (k3 b hb) h2, fun i u x hu hx => (k4 i u x hu hx).mono h1 h2, k5, k6⟩
theorem owns2_below {T : TypeId} {lo n : Nat} {w w' : World} {v : Value} {xs : List Value} (h : w.ownsRow lo T 2 v n xs) (hb : Below w.heap.size w w') : w'.ownsRow lo T 2 v n xs := by
  obtain ⟨h1, h2⟩ := h
  refine ⟨h1, ?_⟩
  rcases h2 with h2 | ⟨g, cap, cur, e, hg, hh, hr⟩
  · exact .inl h2
  · exact .inr ⟨g, cap, cur, e, hg, by rw [hb.block g (lt_of_heap hh)]; exact hh, hr⟩
theorem OwH.below {T e : TypeId} {lo hi : Nat} {w w' : World} {v : Value} {hs : List Hf} (h : OwH T e lo hi w v hs) (hb : Below w.heap.size w w') : OwH T e lo hi w' v hs := by
  obtain ⟨us, k1, k2, k3, k4, k5, k6⟩ := h
  exact ⟨us, k1, owns2_below k2 hb, k3, fun i u x hu hx => (k4 i u x hu hx).below hb, k5, k6⟩
theorem OwH.hs {T e : TypeId} {lo hi : Nat} {w : World} {v : Value} {hs : List Hf} (h : OwH T e lo hi w v hs) : Hs w v hs := by
  obtain ⟨us, k1, k2, k3, k4, _, _⟩ := h
  have k2' := k2
  obtain ⟨h1, h2⟩ := k2
  rcases h2 with ⟨rfl, h0⟩ | ⟨g, cap, cur, rfl, hg, hh, hn, hm, hs', ht⟩
  · have : hs = [] := List.eq_nil_of_length_eq_zero h0
    subst this
    exact ⟨none, 0, rfl, by simp, fun i x hx => by simp at hx⟩
  · refine ⟨_, cap, rfl, by omega, fun i x hx => ?_⟩
    have hi := lt_of_get hx
    have hu : us[i]? = some us[i] := List.getElem?_eq_getElem (by omega)
    refine ⟨g, 0, us[i], rfl, hn, lt_of_heap hh, ?_, ?_, (k4 i _ x hu hx).sl⟩
    · rw [Nat.zero_add, k2'.cellAt (i * 2) (by omega), flat_get0 us hs i k1, hu]
    · rw [Nat.zero_add, k2'.cellAt (i * 2 + 1) (by omega), flat_get1 us hs i k1, hx]; rfl
theorem OwH.kept {T e : TypeId} {lo hi a b : Nat} {w w' : World} {v : Value} {hs : List Hf} (h : OwH T e lo hi w v hs) (hk : Kept a b w w') (hd : hi ≤ a ∨ b ≤ lo) : OwH T e lo hi w' v hs := by
  obtain ⟨us, k1, ⟨h1, h2⟩, k3, k4, k5, k6⟩ := h
  refine ⟨us, k1, ⟨h1, ?_⟩, k3, fun i u x hu hx => (k4 i u x hu hx).kept hk hd, k5, k6⟩
  rcases h2 with h2 | ⟨g, cap, cur, rfl, hg, hh, hr⟩
  · exact .inl h2
  · have := k3 g rfl
    exact .inr ⟨g, cap, cur, rfl, hg, by rw [hk.block g (lt_of_heap hh) (by omega)]; exact hh, hr⟩
/-- Half i: its two cells, its normal; a step that changes this normal alone changes the whole in this place alone. -/
theorem OwH.at {T e : TypeId} {lo hi : Nat} {w : World} {v : Value} {hs : List Hf} (h : OwH T e lo hi w v hs) (j : Nat) (hj : j < hs.length) {a : Option Addr} {n c : Nat} (hv : v = .slice a n c) :
    ∃ (b : Nat) (u : Value), a = some ⟨b, 0, none⟩ ∧ lo ≤ b ∧ b < hi ∧ b < w.heap.size ∧ w.cell? ⟨b, j * 2, none⟩ = some u ∧ w.cell? ⟨b, j * 2 + 1, none⟩ = some (.int .i64 hs[j].2) ∧
      w.frozen? ⟨b, j * 2, none⟩ = false ∧ w.frozen? ⟨b, j * 2 + 1, none⟩ = false ∧ OwnV e lo hi w u (intVals hs[j].1) ∧ u.ownBlock ≠ some b := by
  obtain ⟨us, k1, k2, k3, k4, k5, k6⟩ := h
  have hu : us[j]? = some us[j] := List.getElem?_eq_getElem (by omega)
  obtain ⟨g, cap, e1⟩ := Go.Joins.ownsRow_form k2 (by omega)
  subst e1
  simp only [Value.slice.injEq] at hv
  obtain ⟨rfl, rfl, rfl⟩ := hv
  have hlt := k2.lt g rfl
  refine ⟨g, us[j], rfl, hlt.1, k3 g rfl, hlt.2, ?_, ?_, k2.frozenAt _, k2.frozenAt _, k4 j _ _ hu (List.getElem?_eq_getElem hj), fun hb => k6 j _ g hu hb rfl⟩
  · rw [k2.cellAt (j * 2) (by omega), flat_get0 us hs j k1, hu]
  · rw [k2.cellAt (j * 2 + 1) (by omega), flat_get1 us hs j k1, List.getElem?_eq_getElem hj]; rfl
/-- A bound is stored. -/
theorem OwH.bound {T e : TypeId} {lo hi : Nat} {w : World} {b n c : Nat} {hs : List Hf} (h : OwH T e lo hi w (.slice (some ⟨b, 0, none⟩) n c) hs) (j : Nat) (hj : j < hs.length) (z : Int) :
    OwH T e lo hi (w.setCell ⟨b, j * 2 + 1, none⟩ (.int .i64 z)) (.slice (some ⟨b, 0, none⟩) n c) (hs.set j (hs[j].1, z)) := by
  obtain ⟨us, k1, k2, k3, k4, k5, k6⟩ := h
  obtain ⟨g, cap, e1⟩ := Go.Joins.ownsRow_form k2 (by omega)
  simp only [Value.slice.injEq, Option.some.injEq, Addr.mk.injEq] at e1
  obtain ⟨⟨rfl, _, _⟩, rfl, rfl⟩ := e1
  have hkept : Kept b (b + 1) w (w.setCell ⟨b, j * 2 + 1, none⟩ (.int .i64 z)) := (Kept.refl b (b + 1) w).setCell (p := ⟨b, j * 2 + 1, none⟩) (Nat.le_refl _) (Nat.lt_succ_self _) _
  have hst := (k2.stored (j * 2 + 1) (.int .i64 z)).1
  rw [flat_set1 us hs j (hs[j].1, z) k1] at hst
  refine ⟨us, by rw [List.length_set, k1], by rw [List.length_set]; exact hst, k3, ?_, k5, k6⟩
  intro i u x hu hx
  have hfar : ∀ y : Hf, hs[i]? = some y → OwnV e lo hi (w.setCell ⟨b, j * 2 + 1, none⟩ (.int .i64 z)) u (intVals y.1) := fun y hy => (k4 i u y hu hy).far hkept (fun hb => k6 i u b hu hb rfl)
  rw [get_set _ _ _ _ hj] at hx
  split at hx
  · rename_i hij
    subst hij
    obtain rfl := Option.some.inj hx
    exact hfar hs[i] (List.getElem?_eq_getElem hj)
  · exact hfar x hx
theorem flat_congr : ∀ (us : List Value) (hs ks : List Hf), hs.map (·.2) = ks.map (·.2) → flat us hs = flat us ks
  | [], _, _, _ => by simp [flat]
  | _ :: _, [], [], _ => rfl
  | _ :: _, [], _ :: _, e => by simp at e
  | _ :: _, _ :: _, [], e => by simp at e
  | u :: us, h :: hs, k :: ks, e => by
    simp only [List.map_cons, List.cons.injEq] at e
    simp only [flat, e.1, flat_congr us hs ks e.2]
/-- Another normal is put in place j: one that lies in a block of its own. -/
theorem OwH.put {T e : TypeId} {lo hi : Nat} {w : World} {hs : List Hf} {b n c : Nat} (h : OwH T e lo hi w (.slice (some ⟨b, 0, none⟩) n c) hs) (j : Nat) (hj : j < hs.length) {u : Value} {ys : List Int}
    (hu : OwnV e lo hi w u (intVals ys)) (hne : ∀ x, u.ownBlock = some x → x ≠ b ∧ ∀ (i : Nat) r, w.cell? ⟨b, i, none⟩ = some r → r.ownBlock ≠ some x) :
    OwH T e lo hi (w.setCell ⟨b, j * 2, none⟩ u) (.slice (some ⟨b, 0, none⟩) n c) (hs.set j (ys, hs[j].2)) := by
  obtain ⟨us, k1, k2, k3, k4, k5, k6⟩ := h
  obtain ⟨g, cap, e1⟩ := Go.Joins.ownsRow_form k2 (by omega)
  simp only [Value.slice.injEq, Option.some.injEq, Addr.mk.injEq] at e1
  obtain ⟨⟨rfl, _, _⟩, rfl, rfl⟩ := e1
  have hju : j < us.length := by omega
  have hkept : Kept b (b + 1) w (w.setCell ⟨b, j * 2, none⟩ u) := (Kept.refl b (b + 1) w).setCell (p := ⟨b, j * 2, none⟩) (Nat.le_refl _) (Nat.lt_succ_self _) _
  have hcell : ∀ i r, us[i]? = some r → w.cell? ⟨b, i * 2, none⟩ = some r := fun i r hr => by
    have := lt_of_get hr
    rw [k2.cellAt (i * 2) (by omega), flat_get0 us hs i k1]; exact hr
  have hst := (k2.stored (j * 2) u).1
  rw [flat_set0 us hs j u k1, flat_congr (us.set j u) hs (hs.set j (ys, hs[j].2)) (by rw [List.map_set]; exact (List.ext_getElem (by simp) fun i h1 h2 => by
    rw [List.getElem_set]; split
    · rename_i hij; subst hij; simp
    · rfl))] at hst
  refine ⟨us.set j u, by rw [List.length_set, List.length_set, k1], by rw [List.length_set]; exact hst, k3, ?_, ?_, ?_⟩
  · intro i x y hx hy
    rw [get_set _ _ _ _ hju] at hx
    rw [get_set _ _ _ _ hj] at hy
    split at hx
    · rename_i hij
      rw [if_pos hij] at hy
      obtain rfl := Option.some.inj hx
      obtain rfl := Option.some.inj hy
      exact hu.far hkept (fun hub => (hne b hub).1 rfl)
    · rename_i hij
      rw [if_neg hij] at hy
      exact (k4 i x y hx hy).far hkept (fun hub => k6 i x b hx hub rfl)
  · intro i k x y q hik hx hy hxq
    rw [get_set _ _ _ _ hju] at hx hy
    split at hx
    · rename_i hij
      rw [if_neg (by omega)] at hy
      obtain rfl := Option.some.inj hx
      exact (hne q hxq).2 (k * 2) y (hcell k y hy)
    · split at hy
      · obtain rfl := Option.some.inj hy
        intro hyq
        exact (hne q hyq).2 (i * 2) x (hcell i x hx) hxq
      · exact k5 i k x y q hik hx hy hxq
  · intro i x q hx hxq
    rw [get_set _ _ _ _ hju] at hx
    split at hx
    · obtain rfl := Option.some.inj hx
      intro hb
      have : b = q := by simpa [Value.ownBlock] using hb
      exact (hne q hxq).1 this.symm
    · exact k6 i x q hx hxq

/-- How many numbers there are in the normals; with a bound for each half. -/
def totN (hs : List Hf) : Nat := (hs.map fun h => h.1.length).sum
def totH (hs : List Hf) : Nat := (hs.map fun h => h.1.length + 1).sum
theorem totN_take {hs : List Hf} {k : Nat} (h : k < hs.length) : totN (hs.take (k + 1)) = totN (hs.take k) + hs[k].1.length := by
  unfold totN
  rw [List.take_succ_eq_append_getElem h, List.map_append, List.sum_append]; simp
theorem totH_take {hs : List Hf} {k : Nat} (h : k < hs.length) : totH (hs.take (k + 1)) = totH (hs.take k) + hs[k].1.length + 1 := by
  unfold totH
  rw [List.take_succ_eq_append_getElem h, List.map_append, List.sum_append]; simp; omega
theorem totN_take_le (hs : List Hf) (k : Nat) : totN (hs.take k) ≤ totN hs := by
  unfold totN
  conv => rhs; rw [← List.take_append_drop k hs, List.map_append, List.sum_append]
  omega
theorem totH_eq (hs : List Hf) : totH hs = totN hs + hs.length := by
  induction hs with
  | nil => rfl
  | cons h hs ih => simp only [totH, totN, List.map_cons, List.sum_cons, List.length_cons] at ih ⊢; omega
/-- What the size of the halves answers: one for each half and one for each number of a normal. -/
def szHs (hs : List Hf) (left : Int) : Int := if left < hs.length + totN hs then -1 else left - hs.length - totN hs
/-- Halves of marks from k on: the numbers of a normal, then its bound. -/
def hmarks : Nat → List Hf → List Hf
  | _, [] => []
  | k, h :: hs => ((List.range h.1.length).map (fun i => ((k + i : Nat) : Int)), ((k + h.1.length : Nat) : Int)) :: hmarks (k + h.1.length + 1) hs
theorem hmarks_len : ∀ (k : Nat) (hs : List Hf), (hmarks k hs).length = hs.length
  | _, [] => rfl
  | k, h :: hs => by simp [hmarks, hmarks_len]
theorem hmarks_get : ∀ (k : Nat) (hs : List Hf) (j : Nat) (h : j < hs.length), (hmarks k hs)[j]? = some ((List.range hs[j].1.length).map (fun i => ((k + totH (hs.take j) + i : Nat) : Int)), ((k + totH (hs.take j) + hs[j].1.length : Nat) : Int))
  | k, [], j, h => by simp at h
  | k, r :: rs, 0, _ => by simp [hmarks, totH]
  | k, r :: rs, j + 1, h => by
    have ih := hmarks_get (k + r.1.length + 1) rs j (by simpa using h)
    simp only [hmarks, List.getElem?_cons_succ, List.getElem_cons_succ]
    rw [ih]
    simp only [List.take_succ_cons, totH, List.map_cons, List.sum_cons, Nat.add_assoc]
end Go.Proofs.Ytjijgagdaolkcaa
