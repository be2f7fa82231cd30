/- Slices of slices of integers: how they read, and rows that the call made itself, each in a block of its own. -/
import Derived.Test.YtoekgcafhcamjaaFrm
import Derived.Deep.Slices
namespace Go.Proofs.Ytoekgcafhcamjaa
open Go Go.RowKit Go.ChangeShapes Go.WideShapes Go.Deep

/-- The slice v reads as the lists zss. -/
def Rw (W : World) (v : Value) (zss : List (List Int)) : Prop :=
  ∃ vs : List Value, vs.length = zss.length ∧ Sl W v vs ∧ ∀ (i : Nat) u zs, vs[i]? = some u → zss[i]? = some zs → Sl W u (intVals zs)
theorem Rw.below {W W' : World} {v : Value} {zss : List (List Int)} (h : Rw W v zss) (hb : Below W.heap.size W W') : Rw W' v zss := by
  obtain ⟨vs, h1, h2, h3⟩ := h
  exact ⟨vs, h1, h2.below hb, fun i u zs hu hz => (h3 i u zs hu hz).below hb⟩
theorem Rw.shape {W : World} {v : Value} {zss : List (List Int)} (h : Rw W v zss) :
    ∃ (a : Option Addr) (c : Nat), v = .slice a zss.length c ∧ zss.length ≤ maxLen ∧ ∀ (i : Nat) zs, zss[i]? = some zs → ∃ b off : Nat, ∃ u, a = some ⟨b, off, none⟩ ∧ zss.length ≤ c ∧ b < W.heap.size ∧ W.cell? ⟨b, off + i, none⟩ = some u ∧ Sl W u (intVals zs) := by
  obtain ⟨vs, h1, h2, h3⟩ := h
  obtain ⟨a, c, rfl, hm, ho⟩ := h2.shape
  refine ⟨a, c, by rw [h1], by omega, fun i zs hz => ?_⟩
  have hi : i < zss.length := by
    by_cases hh : i < zss.length
    · exact hh
    · rw [List.getElem?_eq_none (by omega)] at hz; cases hz
  obtain ⟨b, off, e, hc, hb, hx⟩ := ho (by omega)
  have hu : vs[i]? = some vs[i] := List.getElem?_eq_getElem (by omega)
  exact ⟨b, off, vs[i], e, by omega, hb, hx i _ hu, h3 i _ zs hu hz⟩
theorem Rw.len {W : World} {v : Value} {zss : List (List Int)} (h : Rw W v zss) : zss.length ≤ maxLen := by
  obtain ⟨vs, h1, h2, _⟩ := h
  rw [← h1]; exact h2.len
/-- Row i. -/
theorem Rw.row {W : World} {v : Value} {zss : List (List Int)} (h : Rw W v zss) (i : Nat) (hi : i < zss.length) {a : Option Addr} {n c : Nat} (hv : v = .slice a n c) :
    ∃ b off : Nat, ∃ u, a = some ⟨b, off, none⟩ ∧ b < W.heap.size ∧ W.cell? ⟨b, off + i, none⟩ = some u ∧ Sl W u (intVals zss[i]) := by
  obtain ⟨a', c', e, _, ho⟩ := h.shape
  rw [hv] at e
  simp only [Value.slice.injEq] at e
  obtain ⟨rfl, rfl, rfl⟩ := e
  obtain ⟨b, off, u, e2, _, hb, hc, hs⟩ := ho i _ (List.getElem?_eq_getElem hi)
  exact ⟨b, off, u, e2, hb, hc, hs⟩

/-- The slice v and its rows lie in blocks of their own between lo and hi, no two in one; it reads as zss. T: the type of a row. -/
def OwR (T e : TypeId) (lo hi : Nat) (w : World) (v : Value) (zss : List (List Int)) : Prop :=
  ∃ vs : List Value, vs.length = zss.length ∧ OwnV T lo hi w v vs ∧ (∀ (i : Nat) u zs, vs[i]? = some u → zss[i]? = some zs → OwnV e lo hi w u (intVals zs)) ∧
    (∀ (i j : Nat) u u' b, i ≠ j → vs[i]? = some u → vs[j]? = some u' → u.ownBlock = some b → u'.ownBlock ≠ some b) ∧ (∀ (i : Nat) u b, vs[i]? = some u → u.ownBlock = some b → v.ownBlock ≠ some b)
theorem OwR.rw {T e : TypeId} {lo hi : Nat} {w : World} {v : Value} {zss : List (List Int)} (h : OwR T e lo hi w v zss) : Rw w v zss := by
  obtain ⟨vs, h1, h2, h3, _⟩ := h
  exact ⟨vs, h1, h2.sl, fun i u zs hu hz => (h3 i u zs hu hz).sl⟩
theorem OwR.kept {T e : TypeId} {lo hi a b : Nat} {w w' : World} {v : Value} {zss : List (List Int)} (h : OwR T e lo hi w v zss) (hk : Kept a b w w') (hd : hi ≤ a ∨ b ≤ lo) : OwR T e lo hi w' v zss := by
  obtain ⟨vs, h1, h2, h3, h4, h5⟩ := h
  exact ⟨vs, h1, h2.kept hk hd, fun i u zs hu hz => (h3 i u zs hu hz).kept hk hd, h4, h5⟩
theorem OwR.below {T e : TypeId} {lo hi : Nat} {w w' : World} {v : Value} {zss : List (List Int)} (h : OwR T e lo hi w v zss) (hb : Below w.heap.size w w') : OwR T e lo hi w' v zss :=
  h.kept (Kept.of_below (lo := hi) (hi := hi) hb) (.inl (Nat.le_refl _))
theorem OwR.mono {T e : TypeId} {lo hi lo' hi' : Nat} {w : World} {v : Value} {zss : List (List Int)} (h : OwR T e lo hi w v zss) (h1 : lo' ≤ lo) (h2 : hi ≤ hi') : OwR T e lo' hi' w v zss := by
  obtain ⟨vs, k1, k2, k3, k4, k5⟩ := h
  exact ⟨vs, k1, k2.mono h1 h2, fun i u zs hu hz => (k3 i u zs hu hz).mono h1 h2, k4, k5⟩
theorem OwR.nil {T e : TypeId} {lo hi : Nat} {w : World} : OwR T e lo hi w (.slice none 0 0) [] :=
  ⟨[], rfl, OwnV.nil, fun i u zs hu => by simp at hu, fun i j u u' b _ hu => by simp at hu, fun i u b hu => by simp at hu⟩
theorem OwR.len {T e : TypeId} {lo hi : Nat} {w : World} {v : Value} {zss : List (List Int)} (h : OwR T e lo hi w v zss) : zss.length ≤ maxLen := h.rw.len
/-- A step that changes one block alone leaves every row that lies elsewhere. -/
theorem OwnV.far {e : TypeId} {lo hi g : Nat} {w w' : World} {v : Value} {xs : List Value} (h : OwnV e lo hi w v xs) (hk : Kept g (g + 1) w w') (hne : v.ownBlock ≠ some g) : OwnV e lo hi w' v xs := by
  rcases h with h | ⟨b, cap, cur, rfl, h1, h2, hb, hr⟩
  · exact .inl h
  · have hbg : b ≠ g := fun e => hne (by simp [Value.ownBlock, e])
    exact .inr ⟨b, cap, cur, rfl, h1, h2, by rw [hk.block b (lt_of_heap hb) (by omega)]; exact hb, hr⟩
theorem OwnV.place {e : TypeId} {lo hi : Nat} {w : World} {v : Value} {xs : List Value} (h : OwnV e lo hi w v xs) {b : Nat} (hb : v.ownBlock = some b) : lo ≤ b ∧ b < hi ∧ b < w.heap.size := by
  rcases h with ⟨_, rfl⟩ | ⟨g, cap, cur, rfl, h1, h2, hg, _⟩
  · cases hb
  · simp only [Value.ownBlock, Option.some.injEq] at hb
    subst hb
    exact ⟨h1, h2, lt_of_heap hg⟩

theorem lt_of_get {α : Type} {l : List α} {i : Nat} {x : α} (h : l[i]? = some x) : i < l.length := by
  by_cases hh : i < l.length
  · exact hh
  · rw [List.getElem?_eq_none (by omega)] at h; cases h
theorem get_set {α : Type} (l : List α) (k i : Nat) (x : α) (hk : k < l.length) : (l.set k x)[i]? = if i = k then some x else l[i]? := by
  rw [List.getElem?_set]
  by_cases hi : k = i
  · subst hi; simp [hk]
  · rw [if_neg hi, if_neg (fun e => hi e.symm)]
theorem kept_far {w w' : World} {u : Value} (hk : ∀ g, (∀ x, u.ownBlock = some x → x = g) → Kept g (g + 1) w w') {e : TypeId} {lo hi : Nat} {v : Value} {xs : List Value} (h : OwnV e lo hi w v xs) (hne : ∀ b, u.ownBlock = some b → v.ownBlock ≠ some b) : OwnV e lo hi w' v xs := by
  cases hub : u.ownBlock with
  | none => exact h.far (hk (lo + hi + w.heap.size) (fun b hb => by rw [hub] at hb; cases hb)) (fun hv => by have := (h.place hv); omega)
  | some b => exact h.far (hk b (fun b' hb' => by rw [hub] at hb'; exact (Option.some.inj hb').symm)) (hne b hub)
/-- Row j: its cell, its numbers; a step that changes this row alone changes the whole in this place alone. -/
theorem OwR.at {T e : TypeId} {lo hi : Nat} {w : World} {v : Value} {zss : List (List Int)} (h : OwR T e lo hi w v zss) (j : Nat) (hj : j < zss.length) {a : Option Addr} {n c : Nat} (hv : v = .slice a n c) :
    ∃ (b : Nat) (u : Value), a = some ⟨b, 0, none⟩ ∧ lo ≤ b ∧ b < hi ∧ b < w.heap.size ∧ w.cell? ⟨b, j, none⟩ = some u ∧ w.frozen? ⟨b, j, none⟩ = false ∧ OwnV e lo hi w u (intVals zss[j]) ∧ u.ownBlock ≠ some b ∧
      ∀ w' ys, OwnV e lo hi w' u (intVals ys) → (∀ g, (∀ x, u.ownBlock = some x → x = g) → Kept g (g + 1) w w') → OwR T e lo hi w' v (zss.set j ys) := by
  obtain ⟨vs, h1, h2, h3, h4, h5⟩ := h
  have hjv : j < vs.length := by omega
  have hu : vs[j]? = some vs[j] := List.getElem?_eq_getElem hjv
  obtain ⟨b, cap, e1, hb1, hb2⟩ := h2.form (by omega)
  rw [hv] at e1
  simp only [Value.slice.injEq] at e1
  obtain ⟨rfl, rfl, rfl⟩ := e1
  have hvb : v.ownBlock = some b := by rw [hv]; rfl
  have hlt := (h2.place hvb).2.2
  have ho := h2.owns
  rw [hv] at ho
  refine ⟨b, vs[j], rfl, hb1, hb2, hlt, ?_, ho.frozenAt j, h3 j _ _ hu (List.getElem?_eq_getElem hj), ?_, ?_⟩
  · rw [ho.cellAt j (by omega)]; exact hu
  · intro hub; exact h5 j _ b hu hub hvb
  · intro w' ys hys hk
    refine ⟨vs, by rw [List.length_set, h1], kept_far hk h2 (fun b hb => h5 j _ b hu hb), ?_, h4, h5⟩
    intro i x zs hx hz
    rw [get_set _ _ _ _ hj] at hz
    split at hz
    · rename_i hij
      subst hij
      rw [hu] at hx
      obtain rfl := Option.some.inj hx
      obtain rfl := Option.some.inj hz
      exact hys
    · rename_i hij
      exact kept_far hk (h3 i x zs hx hz) (fun b hb => h4 j i _ x b (fun e => hij e.symm) hu hx hb)
/-- Another row is put in place j: one that lies in a block of its own. -/
theorem OwR.put {T e : TypeId} {lo hi : Nat} {w : World} {zss : List (List Int)} {b n c : Nat} (h : OwR T e lo hi w (.slice (some ⟨b, 0, none⟩) n c) zss) (j : Nat) (hj : j < zss.length) {u : Value} {ys : List Int}
    (hu : OwnV e lo hi w u (intVals ys)) (hne : ∀ x, u.ownBlock = some x → x ≠ b ∧ ∀ (i : Nat) r, w.cell? ⟨b, i, none⟩ = some r → r.ownBlock ≠ some x) :
    OwR T e lo hi (w.setCell ⟨b, j, none⟩ u) (.slice (some ⟨b, 0, none⟩) n c) (zss.set j ys) := by
  obtain ⟨vs, h1, h2, h3, h4, h5⟩ := h
  have hjv : j < vs.length := by omega
  obtain ⟨b', cap, e1, hb1, hb2⟩ := h2.form (by omega)
  simp only [Value.slice.injEq, Option.some.injEq, Addr.mk.injEq] at e1
  obtain ⟨⟨rfl, _, _⟩, rfl, rfl⟩ := e1
  have ho := h2.owns
  have hst := (ho.stored j u).1
  have hkept : Kept b (b + 1) w (w.setCell ⟨b, j, none⟩ u) := (Kept.refl b (b + 1) w).setCell (p := ⟨b, j, none⟩) (Nat.le_refl _) (Nat.lt_succ_self _) u
  have hcell : ∀ i r, vs[i]? = some r → w.cell? ⟨b, i, none⟩ = some r := fun i r hr => by rw [ho.cellAt i (by have := lt_of_get hr; omega)]; exact hr
  have hown2 : OwnV T lo hi (w.setCell ⟨b, j, none⟩ u) (.slice (some ⟨b, 0, none⟩) vs.length c) (vs.set j u) := by
    have h6 := OwnV.of_owns hst
    rcases h6 with ⟨h7, _⟩ | ⟨g, cap, cur, e2, h8, _, h9⟩
    · have h8 := congrArg List.length h7
      rw [List.length_set, List.length_nil] at h8
      omega
    · simp only [Value.slice.injEq, Option.some.injEq, Addr.mk.injEq] at e2
      obtain ⟨⟨rfl, _, _⟩, e3, rfl⟩ := e2
      exact .inr ⟨b, c, cur, by rw [List.length_set], hb1, hb2, h9⟩
  refine ⟨vs.set j u, by rw [List.length_set, List.length_set, h1], hown2, ?_, ?_, ?_⟩
  · intro i x zs hx hz
    rw [get_set _ _ _ _ hjv] at hx
    rw [get_set _ _ _ _ hj] at hz
    split at hx
    · rename_i hij
      rw [if_pos hij] at hz
      obtain rfl := Option.some.inj hx
      obtain rfl := Option.some.inj hz
      exact hu.far hkept (fun hub => (hne b hub).1 rfl)
    · rename_i hij
      rw [if_neg hij] at hz
      exact (h3 i x zs hx hz).far hkept (fun hub => h5 i x b hx hub rfl)
  · intro i k x y q hik hx hy hxq
    rw [get_set _ _ _ _ hjv] at hx hy
    split at hx
    · rename_i hij
      rw [if_neg (by omega)] at hy
      obtain rfl := Option.some.inj hx
      exact (hne q hxq).2 k y (hcell k y hy)
    · split at hy
      · obtain rfl := Option.some.inj hy
        intro hyq
        exact (hne q hyq).2 i x (hcell i x hx) hxq
      · exact h4 i k x y q hik hx hy hxq
  · intro i x q hx hxq
    rw [get_set _ _ _ _ hjv] at hx
    split at hx
    · obtain rfl := Option.some.inj hx
      intro hb
      have : b = q := by simpa [Value.ownBlock] using hb
      exact (hne q hxq).1 this.symm
    · exact h5 i x q hx hxq

/-- How many integers there are. -/
def tot (zss : List (List Int)) : Nat := (zss.map List.length).sum
theorem tot_take {zss : List (List Int)} {k : Nat} (h : k < zss.length) : tot (zss.take (k + 1)) = tot (zss.take k) + zss[k].length := by
  unfold tot
  rw [List.take_succ_eq_append_getElem h, List.map_append, List.sum_append]; simp
theorem tot_take_le (zss : List (List Int)) (k : Nat) : tot (zss.take k) ≤ tot zss := by
  unfold tot
  conv => rhs; rw [← List.take_append_drop k zss, List.map_append, List.sum_append]
  omega
theorem row_le_tot {zss : List (List Int)} {k : Nat} (h : k < zss.length) : zss[k].length ≤ tot zss := by
  have h1 := tot_take h
  have h2 := tot_take_le zss (k + 1)
  omega
/-- What szIntSS answers. -/
def szR (zss : List (List Int)) (left : Int) : Int := if left < zss.length + tot zss then -1 else left - zss.length - tot zss

section
variable {H : Type} {enc : TypeId × Value → H} {P : Program}
/-- What came in as a slice of integers. -/
theorem sl_of_trod {k : IntKind} {W : World} {base : Nat} {sp : Nat → Bool} {held : Bool} {t e : TypeId} {fuel : Nat} {v : Value} {x : DataW H × List MemPlace}
    (ht : P.underlying t = some (.slice e)) (he : P.underlying e = some (.int k)) (hc : P.cellsOf e = 1)
    (h : DataW.trod enc P W base sp held fuel t [v] = some x) :
    ∃ zs : List Int, Sl W v (numVals k zs) ∧ ∀ z ∈ zs, (Lit.int k z).wf = true := by
  rcases open_ints ht he hc h with ⟨hcs, _⟩ | ⟨a', len', cap', zs, hcs, _⟩
  · simp only [List.cons.injEq, and_true] at hcs
    subst hcs
    obtain ⟨zs, _, h2, h3⟩ := nums_came ht he hc h
    exact ⟨zs, h2, h3⟩
  · simp only [List.cons.injEq, and_true] at hcs
    subst hcs
    obtain ⟨zs, _, h2, h3⟩ := nums_came ht he hc h
    exact ⟨zs, h2, h3⟩
/-- What came in as a slice of slices of integers. -/
theorem rows_came {W : World} {base : Nat} {sp : Nat → Bool} {held : Bool} {t e q : TypeId} {fuel : Nat} {a : Option Addr} {len cap : Nat} {x : DataW H × List MemPlace}
    (ht : P.underlying t = some (.slice e)) (he : P.underlying e = some (.slice q)) (hq : P.underlying q = some (.int .i64)) (ce : P.cellsOf e = 1) (cq : P.cellsOf q = 1)
    (h : DataW.trod enc P W base sp held fuel t [.slice a len cap] = some x) :
    ∃ zss : List (List Int), zss.length = len ∧ Rw W (.slice a len cap) zss ∧ ∀ zs ∈ zss, ∀ z ∈ zs, (Lit.int .i64 z).wf = true := by
  rcases open_slice1 ht ce h with ⟨hcs, _⟩ | ⟨a', len', cap', m, n, V, D, Pl, hcs, hb, hl, hm, hmm, _, hx⟩
  · simp only [List.cons.injEq, Value.slice.injEq, and_true] at hcs
    obtain ⟨rfl, rfl, rfl⟩ := hcs
    exact ⟨[], rfl, ⟨[], rfl, .inl ⟨rfl, _, _, rfl⟩, fun i u zs hu => by simp at hu⟩, by simp⟩
  · simp only [List.cons.injEq, Value.slice.injEq, and_true] at hcs
    obtain ⟨rfl, rfl, rfl⟩ := hcs
    have hle : len ≤ m := by rw [hmm]; split <;> omega
    have each : ∀ i, i < len → ∃ zs : List Int, Sl W (V i) (numVals .i64 zs) ∧ ∀ z ∈ zs, (Lit.int .i64 z).wf = true := fun i hi => sl_of_trod he hq cq (hx i (by omega)).2
    obtain ⟨Z, hZ⟩ := choose_lt each
    refine ⟨(List.range len).map Z, by simp, ⟨(List.range len).map V, by simp, sl_of_cells (by simp) hl hm ?_, ?_⟩, ?_⟩
    · intro i u hu
      rw [List.getElem?_map] at hu
      by_cases hi : i < len
      · rw [List.getElem?_range hi] at hu
        simp only [Option.map_some, Option.some.injEq] at hu
        rw [← hu]; exact (hx i (by omega)).1
      · rw [List.getElem?_eq_none (by simpa using hi)] at hu; cases hu
    · intro i u zs hu hz
      rw [List.getElem?_map] at hu hz
      by_cases hi : i < len
      · rw [List.getElem?_range hi] at hu hz
        simp only [Option.map_some, Option.some.injEq] at hu hz
        subst hu; subst hz
        exact (hZ i hi).1
      · rw [List.getElem?_eq_none (by simpa using hi)] at hu; cases hu
    · intro zs hz
      obtain ⟨i, hi, rfl⟩ := List.mem_map.1 hz
      exact (hZ i (by simpa using hi)).2
end

/-- Rows of marks from k on. -/
def rmarks : Nat → List (List Int) → List (List Int)
  | _, [] => []
  | k, r :: rs => (List.range r.length).map (fun i => ((k + i : Nat) : Int)) :: rmarks (k + r.length) rs
theorem rmarks_len : ∀ (k : Nat) (zss : List (List Int)), (rmarks k zss).length = zss.length
  | _, [] => rfl
  | k, r :: rs => by simp [rmarks, rmarks_len]
theorem rmarks_get : ∀ (k : Nat) (zss : List (List Int)) (j : Nat) (h : j < zss.length), (rmarks k zss)[j]? = some ((List.range zss[j].length).map fun i => ((k + tot (zss.take j) + i : Nat) : Int))
  | k, [], j, h => by simp at h
  | k, r :: rs, 0, _ => by simp [rmarks, tot]
  | k, r :: rs, j + 1, h => by
    have ih := rmarks_get (k + r.length) rs j (by simpa using h)
    simp only [rmarks, List.getElem?_cons_succ, List.getElem_cons_succ]
    rw [ih]
    simp only [List.take_succ_cons, tot, List.map_cons, List.sum_cons, Nat.add_assoc]
theorem rmarks_tot : ∀ (k : Nat) (zss : List (List Int)), tot (rmarks k zss) = tot zss
  | _, [] => rfl
  | k, r :: rs => by
    have := rmarks_tot (k + r.length) rs
    simp only [tot, rmarks, List.map_cons, List.sum_cons, List.length_map, List.length_range] at this ⊢
    omega
end Go.Proofs.Ytoekgcafhcamjaa
