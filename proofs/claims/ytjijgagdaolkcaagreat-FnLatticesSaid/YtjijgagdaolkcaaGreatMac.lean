/- Slices of slices of integers: how they read, and rows that the call made itself, each in a block of its own. -/
import Derived.Test.YtjijgagdaolkcaaGreatMab
import Derived.Deep.Slices
namespace Go.Proofs.YtjijgagdaolkcaaGreat
open Go Go.RowKit Go.ChangeShapes Go.WideShapes Go.Deep

/-- The slice v reads as the lists zss. -/
def Rw (W : World) (v : Value) (zss : List (List Int)) : Prop :=
  ∃ vs : List Value, vs.length = zss.length ∧ Sl W v vs ∧ ∀ (i : Nat) u zs, vs[i]? = some u → zss[i]? = some zs → Sl W u (intVals zs)
theorem Rw.below {W W' : World} {v : Value} {zss : List (List Int)} (h : Rw W v zss) (hb : Below W.heap.size W W') : Rw W' v zss := by
  obtain ⟨vs, h1, h2, h3⟩ := h
  exact ⟨vs, h1, h2.below hb, fun i u zs hu hz => (h3 i u zs hu hz).below hb⟩
theorem Rw.shape {W : World} {v : Value} {zss : List (List Int)} (h : Rw W v zss) :
    ∃ (a : Option Addr) (c : Nat), v = .slice a zss.length c ∧ zss.length ≤ maxLen ∧ ∀ (i : Nat) zs, zss[i]? = some zs → ∃ b off : Nat, ∃ u, a = some ⟨b, off, none⟩ ∧ zss.length ≤ c ∧ b < W.heap.size ∧ W.cell? ⟨b, off + i, none⟩ = some u ∧ Sl W u (intVals zs) := by
  obtain ⟨vs, h1, h2, h3⟩ := h
  obtain ⟨a, c, rfl, hm, ho⟩ := h2.shape
  refine ⟨a, c, by rw [h1], by omega, fun i zs hz => ?_⟩
  have hi : i < zss.length := by
    by_cases hh : i < zss.length
    · exact hh
    · rw [List.getElem?_eq_none (by omega)] at hz; cases hz
  obtain ⟨b, off, e, hc, hb, hx⟩ := ho (by omega)
  have hu : vs[i]? = some vs[i] := List.getElem?_eq_getElem (by omega)
  exact ⟨b, off, vs[i], e, by omega, hb, hx i _ hu, h3 i _ zs hu hz⟩
theorem Rw.len {W : World} {v : Value} {zss : List (List Int)} (h : Rw W v zss) : zss.length ≤ maxLen := by
  obtain ⟨vs, h1, h2, _⟩ := h
  rw [← h1]; exact h2.len
/-- Row i. -/
theorem Rw.row {W : World} {v : Value} {zss : List (List Int)} (h : Rw W v zss) (i : Nat) (hi : i < zss.length) {a : Option Addr} {n c : Nat} (hv : v = .slice a n c) :
    ∃ b off : Nat, ∃ u, a = some ⟨b, off, none⟩ ∧ b < W.heap.size ∧ W.cell? ⟨b, off + i, none⟩ = some u ∧ Sl W u (intVals zss[i]) := by
  obtain ⟨a', c', e, _, ho⟩ := h.shape
  rw [hv] at e
  simp only [Value.slice.injEq] at e
  obtain ⟨rfl, rfl, rfl⟩ := e
  obtain ⟨b, off, u, e2, _, hb, hc, hs⟩ := ho i _ (List.getElem?_eq_getElem hi)
  exact ⟨b, off, u, e2, hb, hc, hs⟩

/-- The slice v and its rows lie in blocks of their own between lo and hi, no two in one; it reads as zss. T: the type of a row. -/
def OwR (T e : TypeId) (lo hi : Nat) (w : World) (v : Value) (zss : List (List Int)) : Prop :=
  ∃ vs : List Value, vs.length = zss.length ∧ OwnV T lo hi w v vs ∧ (∀ (i : Nat) u zs, vs[i]? = some u → zss[i]? = some zs → OwnV e lo hi w u (intVals zs)) ∧
    (∀ (i j : Nat) u u' b, i ≠ j → vs[i]? = some u → vs[j]? = some u' → u.ownBlock = some b → u'.ownBlock ≠ some b) ∧ (∀ (i : Nat) u b, vs[i]? = some u → u.ownBlock = some b → v.ownBlock ≠ some b)
theorem OwR.rw {T e : TypeId} {lo hi : Nat} {w : World} {v : Value} {zss : List (List Int)} (h : OwR T e lo hi w v zss) : Rw w v zss := by
  obtain ⟨vs, h1, h2, h3, _⟩ := h
  exact ⟨vs, h1, h2.sl, fun i u zs hu hz => (h3 i u zs hu hz).sl⟩
theorem OwR.kept {T e : TypeId} {lo hi a b : Nat} {w w' : World} {v : Value} {zss : List (List Int)} (h : OwR T e lo hi w v zss) (hk : Kept a b w w') (hd : hi ≤ a ∨ b ≤ lo) : OwR T e lo hi w' v zss := by
  obtain ⟨vs, h1, h2, h3, h4, h5⟩ := h
  exact ⟨vs, h1, h2.kept hk hd, fun i u zs hu hz => (h3 i u zs hu hz).kept hk hd, h4, h5⟩
theorem OwR.below {T e : TypeId} {lo hi : Nat} {w w' : World} {v : Value} {zss : List (List Int)} (h : OwR T e lo hi w v zss) (hb : Below w.heap.size w w') : OwR T e lo hi w' v zss :=
  h.kept (Kept.of_below (lo := hi) (hi := hi) hb) (.inl (Nat.le_refl _))
theorem OwR.mono {T e : TypeId} {lo hi lo' hi' : Nat} {w : World} {v : Value} {zss : List (List Int)} (h : OwR T e lo hi w v zss) (h1 : lo' ≤ lo) (h2 : hi ≤ hi') : OwR T e lo' hi' w v zss := by
  obtain ⟨vs, k1, k2, k3, k4, k5⟩ := h
  exact ⟨vs, k1, k2.mono h1 h2, fun i u zs hu hz => (k3 i u zs hu hz).mono h1 h2, k4, k5⟩
theorem OwR.nil {T e : TypeId} {lo hi : Nat} {w : World} : OwR T e lo hi w (.slice none 0 0) [] :=
  ⟨[], rfl, OwnV.nil, fun i u zs hu => by simp at hu, fun i j u u' b _ hu => by simp at hu, fun i u b hu => by simp at hu⟩
theorem OwR.len {T e : TypeId} {lo hi : Nat} {w : World} {v : Value} {zss : List (List Int)} (h : OwR T e lo hi w v zss) : zss.length ≤ maxLen := h.rw.len
/-- A step that changes one block alone leaves every row that lies elsewhere. -/
theorem OwnV.far {e : TypeId} {lo hi g : Nat} {w w' : World} {v : Value} {xs : List Value} (h : OwnV e lo hi w v xs) (hk : Kept g (g + 1) w w') (hne : v.ownBlock ≠ some g) : OwnV e lo hi w' v xs := by
  rcases h with h | ⟨b, cap, cur, rfl, h1, h2, hb, hr⟩
  · exact .inl h
  · have hbg : b ≠ g := fun e => hne (by simp [Value.ownBlock, e])
    exact .inr ⟨b, cap, cur, rfl, h1, h2, by rw [hk.block b (lt_of_heap hb) (by omega)]; exact hb, hr⟩
theorem OwnV.place {e : TypeId} {lo hi : Nat} {w : World} {v : Value} {xs : List Value} (h : OwnV e lo hi w v xs) {b : Nat} (hb : v.ownBlock = some b) : lo ≤ b ∧ b < hi ∧ b < w.heap.size := by
  rcases h with ⟨_, rfl⟩ | ⟨g, cap, cur, rfl, h1, h2, hg, _⟩
  · cases hb
  · simp only [Value.ownBlock, Option.some.injEq] at hb
    subst hb
    exact ⟨h1, h2, lt_of_heap hg⟩

theorem lt_of_get {α : Type} {l : List α} {i : Nat} {x : α} (h : l[i]? = some x) : i < l.length := by
  by_cases hh : i < l.length
  · exact hh
  · rw [List.getElem?_eq_none (by omega)] at h; cases h
theorem get_set {α : Type} (l : List α) (k i : Nat) (x : α) (hk : k < l.length) : (l.set k x)[i]? = if i = k then some x else l[i]? := by
  rw [List.getElem?_set]
  by_cases hi : k = i
  · subst hi; simp [hk]
  · rw [if_neg hi, if_neg (fun e => hi e.symm)]
theorem kept_far {w w' : World} {u : Value} (hk : ∀ g, (∀ x, u.ownBlock = some x → x = g) → Kept g (g + 1) w w') {e : TypeId} {lo hi : Nat} {v : Value} {xs : List Value} (h : OwnV e lo hi w v xs) (hne : ∀ b, u.ownBlock = some b → v.ownBlock ≠ some b) : OwnV e lo hi w' v xs := by
  cases hub : u.ownBlock with
  | none => exact h.far (hk (lo + hi + w.heap.size) (fun b hb => by rw [hub] at hb; cases hb)) (fun hv => by have := (h.place hv); omega)
  | some b => exact h.far (hk b (fun b' hb' => by rw [hub] at hb'; exact (Option.some.inj hb').symm)) (hne b hub)
/-- Row j: its cell, its numbers; a step that changes this row alone changes the whole in this place alone. -/
theorem OwR.at {T e : TypeId} {lo hi : Nat} {w : World} {v : Value} {zss : List (List Int)} (h : OwR T e lo hi w v zss) (j : Nat) (hj : j < zss.length) {a : Option Addr} {n c : Nat} (hv : v = .slice a n c) :
    ∃ (b : Nat) (u : Value), a = some ⟨b, 0, none⟩ ∧ lo ≤ b ∧ b < hi ∧ b < w.heap.size ∧ w.cell? ⟨b, j, none⟩ = some u ∧ w.frozen? ⟨b, j, none⟩ = false ∧ OwnV e lo hi w u (intVals zss[j]) ∧ u.ownBlock ≠ some b ∧
      ∀ w' ys, OwnV e lo hi w' u (intVals ys) → (∀ g, (∀ x, u.ownBlock = some x → x = g) → Kept g (g + 1) w w') → OwR T e lo hi w' v (zss.set j ys) := by
  obtain ⟨vs, h1, h2, h3, h4, h5⟩ := h
  have hjv : j < vs.length := by omega
  have hu : vs[j]? = some vs[j] := List.getElem?_eq_getElem hjv
  obtain ⟨b, cap, e1, hb1, hb2⟩ := h2.form (by omega)
  rw [hv] at e1
  simp only [Value.slice.injEq] at e1
  obtain ⟨rfl, rfl, rfl⟩ := e1
  have hvb : v.ownBlock = some b := by rw [hv]; rfl
  have hlt := (h2.place hvb).2.2
  have ho := h2.owns
  rw [hv] at ho
  refine ⟨b, vs[j], rfl, hb1, hb2, hlt, ?_, ho.frozenAt j, h3 j _ _ hu (List.getElem?_eq_getElem hj), ?_, ?_⟩
  · rw [ho.cellAt j (by omega)]; exact hu
  · intro hub; exact h5 j _ b hu hub hvb
  · intro w' ys hys hk
    refine ⟨vs, by rw [List.length_set, h1], kept_far hk h2 (fun b hb => h5 j _ b hu hb), ?_, h4, h5⟩
    intro i x zs hx hz
    rw [get_set _ _ _ _ hj] at hz
    split at hz
    · rename_i hij
      subst hij
      rw [hu] at hx
      obtain rfl := Option.some.inj hx
      obtain rfl := Option.some.inj hz
      exact hys
    · rename_i hij
      exact kept_far hk (h3 i x zs hx hz) (fun b hb => h4 j i _ x b (fun e => hij e.symm) hu hx hb)
/-- Another row is put in place j: one that lies in a block of its own. -/
theorem OwR.put {T e : TypeId} {lo hi : Nat} {w : World} {zss : List (List Int)} {b n c : Nat} (h : OwR T e lo hi w (.slice (some ⟨b, 0, none⟩) n c) zss) (j : Nat) (hj : j < zss.length) {u : Value} {ys : List Int}
    (hu : OwnV e lo hi w u (intVals ys)) (hne : ∀ x, u.ownBlock = some x → x ≠ b ∧ ∀ (i : Nat) r, w.cell? ⟨b, i, none⟩ = some r → r.ownBlock ≠ some x) :
    OwR T e lo hi (w.setCell ⟨b, j, none⟩ u) (.slice (some ⟨b, 0, none⟩) n c) (zss.set j ys) := by
  obtain ⟨vs, h1, h2, h3, h4, h5⟩ := h
  have hjv : j < vs.length := by omega
  obtain ⟨b', cap, e1, hb1, hb2⟩ := h2.form (by omega)
  simp only [Value.slice.injEq, Option.some.injEq, Addr.mk.injEq] at e1
  obtain ⟨⟨rfl, _, _⟩, rfl, rfl⟩ := e1
  have ho := h2.owns
  have hst := (ho.stored j u).1
  have hkept : Kept b (b + 1) w (w.setCell ⟨b, j, none⟩ u) := (Kept.refl b (b + 1) w).setCell (p := ⟨b, j, none⟩) (Nat.le_refl _) (Nat.lt_succ_self _) u
  have hcell : ∀ i r, vs[i]? = some r → w.cell? ⟨b, i, none⟩ = some r := fun i r hr => by rw [ho.cellAt i (by have := lt_of_get hr; omega)]; exact hr
  have hown2 : OwnV T lo hi (w.setCell ⟨b, j, none⟩ u) (.slice (some ⟨b, 0, none⟩) vs.length c) (vs.set j u) := by
    have h6 := OwnV.of_owns hst
    rcases h6 with ⟨h7, _⟩ | ⟨g, cap, cur, e2, h8, _, h9⟩
    · have h8 := congrArg List.length h7
      rw [List.length_set, List.length_nil] at h8
      omega
    · simp only [Value.slice.injEq, Option.some.injEq, Addr.mk.injEq] at e2
      obtain ⟨⟨rfl, _, _⟩, e3, rfl⟩ := e2
      exact .inr ⟨b, c, cur, by rw [List.length_set], hb1, hb2, h9⟩
  refine ⟨vs.set j u, by rw [List.length_set, List.length_set, h1], hown2, ?_, ?_, ?_⟩
  · intro i x zs hx hz
    rw [get_set _ _ _ _ hjv] at hx
    rw [get_set _ _ _ _ hj] at hz
    split at hx
    · rename_i hij
      rw [if_pos hij] at hz
      obtain rfl := Option.some.inj hx
      obtain rfl := Option.some.inj hz
      exact hu.far hkept (fun hub => (hne b hub).1 rfl)
    · rename_i hij
      rw [if_neg hij] at hz
      exact (h3 i x zs hx hz).far hkept (fun hub => h5 i x b hx hub rfl)
  · intro i k x y q hik hx hy hxq
    rw [get_set _ _ _ _ hjv] at hx hy
    split at hx
    · rename_i hij
      rw [if_neg (by omega)] at hy
      obtain rfl := Option.some.inj hx
      exact (hne q hxq).2 k y (hcell k y hy)
    · split at hy
      · obtain rfl := Option.some.inj hy
        intro hyq
        exact (hne q hyq).2 i x (hcell i x hx) hxq
      · exact h4 i k x y q hik hx hy hxq
  · intro i x q hx hxq
    rw [get_set _ _ _ _ hjv] at hx
    split at hx
    · obtain rfl := Option.some.inj hx
      intro hb
      have : b = q := by simpa [Value.ownBlock] using hb
      exact (hne q hxq).1 this.symm
    · exact h5 i x q hx hxq

/-- How many integers there are. -/
def tot (zss : List (List Int)) : Nat := (zss.map List.length).sum
theorem tot_take {zss : List (List Int)} {k : Nat} (h : k < zss.length) : tot (zss.take (k + 1)) = tot (zss.take k) + zss[k].length := by
  unfold tot
  rw [List.take_succ_eq_append_getElem h, List.map_append, List.sum_append]; simp
theorem tot_take_le (zss : List (List Int)) (k : Nat) : tot (zss.take k) ≤ tot zss := by
  unfold tot
  conv => rhs; rw [← List.take_append_drop k zss, List.map_append, List.sum_append]
  omega
theorem row_le_tot {zss : List (List Int)} {k : Nat} (h : k < zss.length) : zss[k].length ≤ tot zss := by
  have h1 := tot_take h
  have h2 := tot_take_le zss (k + 1)
  omega
/-- What szIntSS answers. -/
def szR (zss : List (List Int)) (left : Int) : Int := if left < zss.length + tot zss then -1 else left - zss.length - tot zss

section
variable {H : Type} {enc : TypeId × Value → H} {P : Program}
/-- What came in as a slice of integers. -/
theorem sl_of_trod {k : IntKind} {W : World} {base : Nat} {sp : Nat → Bool} {held : Bool} {t e : TypeId} {fuel : Nat} {v : Value} {x : DataW H × List MemPlace}
    (ht : P.underlying t = some (.slice e)) (he : P.underlying e = some (.int k)) (hc : P.cellsOf e = 1)
    (h : DataW.trod enc P W base sp held fuel t [v] = some x) :
    ∃ zs : List Int, Sl W v (numVals k zs) ∧ ∀ z ∈ zs, (Lit.int k z).wf = true := by
  rcases open_ints ht he hc h with ⟨hcs, _⟩ | ⟨a', len', cap', zs, hcs, _⟩
  · simp only [List.cons.injEq, and_true] at hcs
    subst hcs
    obtain ⟨zs, _, h2, h3⟩ := nums_came ht he hc h
    exact ⟨zs, h2, h3⟩
  · simp only [List.cons.injEq, and_true] at hcs
    subst hcs
    obtain ⟨zs, _, h2, h3⟩ := nums_came ht he hc h
    exact ⟨zs, h2, h3⟩
/-- What came in as a slice of slices of integers. -/
theorem rows_came {W : World} {base : Nat} {sp : Nat → Bool} {held : Bool} {t e q : TypeId} {fuel : Nat} {a : Option Addr} {len cap : Nat} {x : DataW H × List MemPlace}
    (ht : P.underlying t = some (.slice e)) (he : P.underlying e = some (.slice q)) (hq : P.underlying q = some (.int .i64)) (ce : P.cellsOf e = 1) (cq : P.cellsOf q = 1)
    (h : DataW.trod enc P W base sp held fuel t [.slice a len cap] = some x) :
    ∃ zss : List (List Int), zss.length = len ∧ Rw W (.slice a len cap) zss ∧ ∀ zs ∈ zss, ∀ z ∈ zs, (Lit.int .i64 z).wf = true := by
  rcases open_slice1 ht ce h with ⟨hcs, _⟩ | ⟨a', len', cap', m, n, V, D, Pl, hcs, hb, hl, hm, hmm, _, hx⟩
  · simp only [List.cons.injEq, Value.slice.injEq, and_true] at hcs
    obtain ⟨rfl, rfl, rfl⟩ := hcs
    exact ⟨[], rfl, ⟨[], rfl, .inl ⟨rfl, _, _, rfl⟩, fun i u zs hu => by simp at hu⟩, by simp⟩
  · simp only [List.cons.injEq, Value.slice.injEq, and_true] at hcs
    obtain ⟨rfl, rfl, rfl⟩ := hcs
    have hle : len ≤ m := by rw [hmm]; split <;> omega
    have each : ∀ i, i < len → ∃ zs : List Int, Sl W (V i) (numVals .i64 zs) ∧ ∀ z ∈ zs, (Lit.int .i64 z).wf = true := fun i hi => sl_of_trod he hq cq (hx i (by omega)).2
    obtain ⟨Z, hZ⟩ := choose_lt each
    refine ⟨(List.range len).map Z, by simp, ⟨(List.range len).map V, by simp, sl_of_cells (by simp) hl hm ?_, ?_⟩, ?_⟩
    · intro i u hu
      rw [List.getElem?_map] at hu
      by_cases hi : i < len
      · rw [List.getElem?_range hi] at hu
        simp only [Option.map_some, Option.some.injEq] at hu
        rw [← hu]; exact (hx i (by omega)).1
      · rw [List.getElem?_eq_none (by simpa using hi)] at hu; cases hu
    · intro i u zs hu hz
      rw [List.getElem?_map] at hu hz
      by_cases hi : i < len
      · rw [List.getElem?_range hi] at hu hz
        simp only [Option.map_some, Option.some.injEq] at hu hz
        subst hu; subst hz
        exact (hZ i hi).1
      · rw [List.getElem?_eq_none (by simpa using hi)] at hu; cases hu
    · intro zs hz
      obtain ⟨i, hi, rfl⟩ := List.mem_map.1 hz
      exact (hZ i (by simpa using hi)).2
end

/-- Rows of marks from k on. -/
def rmarks : Nat → List (List Int) → List (List Int)
  | _, [] => []
  | k, r :: rs => (List.range r.length).map (fun i => ((k + i : Nat) : Int)) :: rmarks (k + r.length) rs
theorem rmarks_len : ∀ (k : Nat) (zss : List (List Int)), (rmarks k zss).length = zss.length
  | _, [] => rfl
  | k, r :: rs => by simp [rmarks, rmarks_len]
theorem rmarks_get : ∀ (k : Nat) (zss : List (List Int)) (j : Nat) (h : j < zss.length), (rmarks k zss)[j]? = some ((List.range zss[j].length).map fun i => ((k + tot (zss.take j) + i : Nat) : Int))
  | k, [], j, h => by simp at h
  | k, r :: rs, 0, _ => by simp [rmarks, tot]
  | k, r :: rs, j + 1, h => by
    have ih := rmarks_get (k + r.length) rs j (by simpa using h)
    simp only [rmarks, List.getElem?_cons_succ, List.getElem_cons_succ]
    rw [ih]
    simp only [List.take_succ_cons, tot, List.map_cons, List.sum_cons, Nat.add_assoc]
theorem rmarks_tot : ∀ (k : Nat) (zss : List (List Int)), tot (rmarks k zss) = tot zss
  | _, [] => rfl
  | k, r :: rs => by
    have := rmarks_tot (k + r.length) rs
    simp only [tot, rmarks, List.map_cons, List.sum_cons, List.length_map, List.length_range] at this ⊢
    omega
end Go.Proofs.YtjijgagdaolkcaaGreat
/- Plain facts on matrices. -/
namespace Go.Proofs.YtjijgagdaolkcaaGreat

def rowOk (n : Nat) (r : List Int) : Bool := decide (r.length = n) && small r 100
def isM (m : List (List Int)) : Bool := m.all (rowOk m.length) && inR m.length 1 3
theorem rowOk_t {n : Nat} {r : List Int} (h : rowOk n r = true) : r.length = n ∧ small r 100 = true := by
  unfold rowOk at h
  rw [Bool.and_eq_true, decide_eq_true_eq] at h
  exact h
theorem rows_take {n : Nat} {m : List (List Int)} {k : Nat} (h : k < m.length) (h1 : (m.take k).all (rowOk n) = true) (h2 : rowOk n m[k] = true) : (m.take (k + 1)).all (rowOk n) = true := by
  rw [List.take_succ_eq_append_getElem h, List.all_append, h1, List.all_cons, h2]; rfl
theorem rows_not {n : Nat} {m : List (List Int)} {k : Nat} (h : k < m.length) (h2 : rowOk n m[k] = false) : m.all (rowOk n) = false := by
  rw [List.all_eq_false]
  exact ⟨m[k], List.getElem_mem h, by simp [h2]⟩
theorem isM_t {m : List (List Int)} (h : isM m = true) : 1 ≤ m.length ∧ m.length ≤ 3 ∧ ∀ (i : Nat) (hi : i < m.length), m[i].length = m.length ∧ Bd m[i] 100 := by
  unfold isM at h
  rw [Bool.and_eq_true, List.all_eq_true] at h
  have h2 := inR_t h.2
  exact ⟨by omega, by omega, fun i hi => by
    have h3 := rowOk_t (h.1 _ (List.getElem_mem hi))
    exact ⟨h3.1, small_bd h3.2⟩⟩
/-- n rows of n numbers from -b to b. -/
def Sq (n : Nat) (b : Int) (m : List (List Int)) : Prop := m.length = n ∧ ∀ (i : Nat) (hi : i < m.length), m[i].length = n ∧ Bd m[i] b
theorem isM_sq {m : List (List Int)} (h : isM m = true) : Sq m.length 100 m := ⟨rfl, (isM_t h).2.2⟩
/-- The determinant. -/
def detL : List (List Int) → Int
  | [[a]] => a
  | [[a, b], [c, d]] => a * d - b * c
  | [[a, b, c], [d, e, f], [g, h, i]] => a * (e * i - f * h) + b * (f * g - d * i) + c * (d * h - e * g)
  | _ => 0
def detR (m : List (List Int)) : Int := if isM m = true then detL m else 0
theorem list1 {α : Type} {l : List α} (h : l.length = 1) : ∃ a, l = [a] := by
  match l, h with
  | [a], _ => exact ⟨a, rfl⟩
theorem list2 {α : Type} {l : List α} (h : l.length = 2) : ∃ a b, l = [a, b] := by
  match l, h with
  | [a, b], _ => exact ⟨a, b, rfl⟩
theorem list3 {α : Type} {l : List α} (h : l.length = 3) : ∃ a b c, l = [a, b, c] := by
  match l, h with
  | [a, b, c], _ => exact ⟨a, b, c, rfl⟩
theorem sq1 {b : Int} {m : List (List Int)} (h : Sq 1 b m) : ∃ x, m = [[x]] ∧ -b ≤ x ∧ x ≤ b := by
  obtain ⟨h1, h2⟩ := h
  obtain ⟨r, rfl⟩ := list1 h1
  obtain ⟨h3, h4⟩ := h2 0 (by simp)
  simp only [List.getElem_cons_zero] at h3 h4
  obtain ⟨x, rfl⟩ := list1 h3
  have := h4 0 (by simp)
  exact ⟨x, rfl, by simpa using this.1, by simpa using this.2⟩
theorem sq2 {b : Int} {m : List (List Int)} (h : Sq 2 b m) : ∃ x y z u, m = [[x, y], [z, u]] ∧ (-b ≤ x ∧ x ≤ b) ∧ (-b ≤ y ∧ y ≤ b) ∧ (-b ≤ z ∧ z ≤ b) ∧ (-b ≤ u ∧ u ≤ b) := by
  obtain ⟨h1, h2⟩ := h
  obtain ⟨r, s, rfl⟩ := list2 h1
  obtain ⟨h3, h4⟩ := h2 0 (by simp)
  obtain ⟨h5, h6⟩ := h2 1 (by simp)
  simp only [List.getElem_cons_zero, List.getElem_cons_succ] at h3 h4 h5 h6
  obtain ⟨x, y, rfl⟩ := list2 h3
  obtain ⟨z, u, rfl⟩ := list2 h5
  have a0 := h4 0 (by simp)
  have a1 := h4 1 (by simp)
  have b0 := h6 0 (by simp)
  have b1 := h6 1 (by simp)
  simp only [List.getElem_cons_zero, List.getElem_cons_succ] at a0 a1 b0 b1
  exact ⟨x, y, z, u, rfl, a0, a1, b0, b1⟩
theorem sq3 {b : Int} {m : List (List Int)} (h : Sq 3 b m) : ∃ x y z x' y' z' x'' y'' z'', m = [[x, y, z], [x', y', z'], [x'', y'', z'']] ∧ (-b ≤ x ∧ x ≤ b) ∧ (-b ≤ y ∧ y ≤ b) ∧ (-b ≤ z ∧ z ≤ b) ∧
    (-b ≤ x' ∧ x' ≤ b) ∧ (-b ≤ y' ∧ y' ≤ b) ∧ (-b ≤ z' ∧ z' ≤ b) ∧ (-b ≤ x'' ∧ x'' ≤ b) ∧ (-b ≤ y'' ∧ y'' ≤ b) ∧ (-b ≤ z'' ∧ z'' ≤ b) := by
  obtain ⟨h1, h2⟩ := h
  obtain ⟨r, s, t, rfl⟩ := list3 h1
  obtain ⟨h3, h4⟩ := h2 0 (by simp)
  obtain ⟨h5, h6⟩ := h2 1 (by simp)
  obtain ⟨h7, h8⟩ := h2 2 (by simp)
  simp only [List.getElem_cons_zero, List.getElem_cons_succ] at h3 h4 h5 h6 h7 h8
  obtain ⟨x, y, z, rfl⟩ := list3 h3
  obtain ⟨x', y', z', rfl⟩ := list3 h5
  obtain ⟨x'', y'', z'', rfl⟩ := list3 h7
  have a0 := h4 0 (by simp)
  have a1 := h4 1 (by simp)
  have a2 := h4 2 (by simp)
  have b0 := h6 0 (by simp)
  have b1 := h6 1 (by simp)
  have b2 := h6 2 (by simp)
  have c0 := h8 0 (by simp)
  have c1 := h8 1 (by simp)
  have c2 := h8 2 (by simp)
  simp only [List.getElem_cons_zero, List.getElem_cons_succ] at a0 a1 a2 b0 b1 b2 c0 c1 c2
  exact ⟨x, y, z, x', y', z', x'', y'', z'', rfl, a0, a1, a2, b0, b1, b2, c0, c1, c2⟩

def uniR (m : List (List Int)) : Bool := decide ((detR m).natAbs = 1)
def applyL (m : List (List Int)) (v : List Int) : List Int := m.map fun r => dotL r v
def applyR (m : List (List Int)) (v : List Int) : List Int × Bool := if isM m = true ∧ isV v = true ∧ v.length = m.length ∧ isV (applyL m v) = true then (applyL m v, true) else ([], false)
theorem applyL_take {m : List (List Int)} {v : List Int} {k : Nat} (h : k < m.length) : applyL (m.take (k + 1)) v = applyL (m.take k) v ++ [dotL m[k] v] := by
  unfold applyL
  rw [List.take_succ_eq_append_getElem h, List.map_append]; rfl
theorem applyR_len (m : List (List Int)) (v : List Int) : (applyR m v).1.length ≤ 3 := by
  unfold applyR
  split
  · rename_i h; exact (isV_t h.2.2.2).2.1
  · simp
theorem sum3_bd {x y z : Int} (hx : -2000000000000000 ≤ x ∧ x ≤ 2000000000000000) (hy : -2000000000000000 ≤ y ∧ y ≤ 2000000000000000) (hz : -2000000000000000 ≤ z ∧ z ≤ 2000000000000000) : -6000000000000000 ≤ x + y + z ∧ x + y + z ≤ 6000000000000000 := by omega
theorem det_bd {n : Nat} {m : List (List Int)} (h1 : 1 ≤ n) (h3 : n ≤ 3) (h : Sq n 100000 m) : -6000000000000000 ≤ detL m ∧ detL m ≤ 6000000000000000 := by
  by_cases e1 : n = 1
  · subst e1; obtain ⟨x, rfl, h1, h2⟩ := sq1 h; simp only [detL]; omega
  · by_cases e2 : n = 2
    · subst e2
      obtain ⟨x, y, z, u, rfl, hx, hy, hz, hu⟩ := sq2 h
      have p1 := mul_bd hx.1 hx.2 hu.1 hu.2
      have p2 := mul_bd hy.1 hy.2 hz.1 hz.2
      simp only [detL]; omega
    · obtain rfl : n = 3 := by omega
      obtain ⟨x0, x1, x2, y0, y1, y2, z0, z1, z2, rfl, a0, a1, a2, b0, b1, b2, c0, c1, c2⟩ := sq3 h
      have key : ∀ (p q r s t : Int), (-100000 ≤ p ∧ p ≤ 100000) → (-100000 ≤ q ∧ q ≤ 100000) → (-100000 ≤ r ∧ r ≤ 100000) → (-100000 ≤ s ∧ s ≤ 100000) → (-100000 ≤ t ∧ t ≤ 100000) → -2000000000000000 ≤ p * (q * r - s * t) ∧ p * (q * r - s * t) ≤ 2000000000000000 := by
        intro p q r s t hp hq hr hs ht
        have e1 := mul_bd hq.1 hq.2 hr.1 hr.2
        have e2 := mul_bd hs.1 hs.2 ht.1 ht.2
        have e3 := mul_bd (y := q * r - s * t) (n := 20000000000) hp.1 hp.2 (by omega) (by omega)
        omega
      exact sum3_bd (key _ _ _ _ _ a0 b1 c2 b2 c1) (key _ _ _ _ _ a1 b2 c0 b0 c2) (key _ _ _ _ _ a2 b0 c1 b1 c0)
theorem Sq.mono {n : Nat} {b c : Int} {m : List (List Int)} (h : Sq n b m) (hbc : b ≤ c) : Sq n c m :=
  ⟨h.1, fun i hi => ⟨(h.2 i hi).1, fun k hk => by have := (h.2 i hi).2 k hk; omega⟩⟩

/-- Column c. -/
def colL (m : List (List Int)) (c : Nat) : List Int := m.map fun r => r.getD c 0
def turnL (m : List (List Int)) : List (List Int) := (List.range m.length).map (colL m)
def timesL (a b : List (List Int)) : List (List Int) := a.map fun r => applyL (turnL b) r
def timesR (a b : List (List Int)) : List (List Int) × Bool := if isM a = true ∧ isM b = true ∧ a.length = b.length ∧ isM (timesL a b) = true then (timesL a b, true) else ([], false)
theorem colL_take {m : List (List Int)} {c k : Nat} (h : k < m.length) (hc : c < m[k].length) : colL (m.take (k + 1)) c = colL (m.take k) c ++ [m[k][c]] := by
  unfold colL
  rw [List.take_succ_eq_append_getElem h, List.map_append]
  simp [List.getD_eq_getElem?_getD, hc]
theorem turnL_take (m : List (List Int)) {k : Nat} (h : k < m.length) : (turnL m).take (k + 1) = (turnL m).take k ++ [colL m k] := by
  have hl : k < (turnL m).length := by simp [turnL, h]
  rw [List.take_succ_eq_append_getElem hl]
  simp [turnL]
theorem turnL_len (m : List (List Int)) : (turnL m).length = m.length := by simp [turnL]
theorem timesL_take {a b : List (List Int)} {k : Nat} (h : k < a.length) : timesL (a.take (k + 1)) b = timesL (a.take k) b ++ [applyL (turnL b) a[k]] := by
  unfold timesL
  rw [List.take_succ_eq_append_getElem h, List.map_append]; rfl
theorem turnL_sq {n : Nat} {b : Int} {m : List (List Int)} (hb : 0 ≤ b) (h : Sq n b m) : Sq n b (turnL m) := by
  refine ⟨by rw [turnL_len, h.1], fun i hi => ?_⟩
  have hi' : i < m.length := by simpa [turnL] using hi
  have e : (turnL m)[i] = colL m i := by simp [turnL]
  rw [e]
  refine ⟨by simp [colL, h.1], fun k hk => ?_⟩
  have hk' : k < m.length := by simpa [colL] using hk
  have h2 := h.2 k hk'
  have e2 : (colL m i)[k] = m[k].getD i 0 := by simp [colL]
  rw [e2]
  have h3 : i < m[k].length := by have := h.1; omega
  have h4 := h2.2 i h3
  simp only [List.getD_eq_getElem?_getD, List.getElem?_eq_getElem h3, Option.getD_some]
  exact h4
theorem timesR_len (a b : List (List Int)) : tot (timesR a b).1 ≤ 9 := by
  unfold timesR
  split
  · rename_i h
    have hs := isM_sq h.2.2.2
    have ht := isM_t h.2.2.2
    have key : ∀ (l : List (List Int)) (n : Nat), (∀ r ∈ l, r.length = n) → tot l = l.length * n := by
      intro l n
      induction l with
      | nil => intro _; simp [tot]
      | cons r rs ih =>
        intro hh
        have := ih (fun x hx => hh x (by simp [hx]))
        simp only [tot, List.map_cons, List.sum_cons, List.length_cons] at this ⊢
        rw [this, hh r (by simp), Nat.succ_mul]; omega
    have hr : ∀ r ∈ timesL a b, r.length = (timesL a b).length := fun r hr => by
      obtain ⟨i, hi, rfl⟩ := List.getElem_of_mem hr
      exact (ht.2.2 i hi).1
    rw [key _ _ hr]
    exact Nat.mul_le_mul ht.2.1 ht.2.1
  · simp [tot]
end Go.Proofs.YtjijgagdaolkcaaGreat
/- The Hermite form, plain: Euclid on two rows at a column, and how great the numbers grow. -/
namespace Go.Proofs.YtjijgagdaolkcaaGreat

def colA (c : Nat) (u : List Int) : Int := u.getD c 0
theorem colA_get {c : Nat} {u : List Int} (h : c < u.length) : colA c u = u[c] := by simp [colA, List.getD_eq_getElem?_getD, h]
theorem colA_out {c : Nat} {u : List Int} (h : u.length ≤ c) : colA c u = 0 := by simp [colA, List.getD_eq_getElem?_getD, h]
def nextR (c : Nat) (u v : List Int) : List Int := lessL u (scaleL v ((colA c u).tdiv (colA c v)))
theorem lessL_len {u v : List Int} (h : u.length = v.length) : (lessL u v).length = u.length := by simp [lessL, h]
theorem nextR_len {c : Nat} {u v : List Int} (h : u.length = v.length) : (nextR c u v).length = u.length := by unfold nextR; exact lessL_len (by simp [scaleL, h])
theorem nextR_col {c : Nat} {u v : List Int} (h : u.length = v.length) : colA c (nextR c u v) = (colA c u).tmod (colA c v) := by
  by_cases hc : c < u.length
  · have e1 : colA c (nextR c u v) = u[c] - v[c] * ((colA c u).tdiv (colA c v)) := by
      rw [colA_get (by rw [nextR_len h]; exact hc)]
      simp only [nextR, lessL, scaleL, List.getElem_zipWith, List.getElem_map]
    have e2 : colA c u = u[c] := colA_get hc
    have e3 : colA c v = v[c] := colA_get (by omega)
    rw [e1, ← e2, ← e3]
    have h1 := Int.tmod_add_mul_tdiv (colA c u) (colA c v)
    omega
  · rw [colA_out (by rw [nextR_len h]; omega), colA_out (u := u) (by omega)]
    simp
/-- Euclid's steps on two rows till the second has 0 in column c. -/
def eucl (c : Nat) (u v : List Int) : List Int × List Int :=
  if _h : u.length = v.length ∧ colA c v ≠ 0 then eucl c v (nextR c u v) else (u, v)
termination_by (colA c v).natAbs
decreasing_by
  rw [nextR_col _h.1, Int.natAbs_tmod]
  exact Nat.mod_lt _ (by omega)
theorem eucl_step {c : Nat} {u v : List Int} (h1 : u.length = v.length) (h2 : colA c v ≠ 0) : eucl c u v = eucl c v (nextR c u v) := by
  rw [eucl, dif_pos ⟨h1, h2⟩]
theorem eucl_end {c : Nat} {u v : List Int} (h2 : colA c v = 0) : eucl c u v = (u, v) := by
  rw [eucl, dif_neg (fun h => h.2 h2)]
/-- The numbers of the two rows stay small: what the steps keep. -/
def Eu (c : Nat) (n : Nat) (K A : Int) (u v : List Int) : Prop :=
  u.length = n ∧ v.length = n ∧ (∃ X Y : Int, 0 ≤ X ∧ 0 ≤ Y ∧ Bd u X ∧ Bd v Y ∧ X * (colA c v).natAbs + Y * (colA c u).natAbs ≤ K ∧ X ≤ K ∧ Y ≤ K) ∧ ((colA c u).natAbs : Int) ≤ A ∧ ((colA c v).natAbs : Int) ≤ A
theorem Eu.first {c n : Nat} {K A Aa Ab X Y : Int} {u v : List Int} (h1 : u.length = n) (h2 : v.length = n) (hX : 0 ≤ X) (hY : 0 ≤ Y) (hu : Bd u X) (hv : Bd v Y) (ha : ((colA c u).natAbs : Int) ≤ Aa) (hb : ((colA c v).natAbs : Int) ≤ Ab)
    (hK : X * Ab + Y * Aa ≤ K) (hXK : X ≤ K) (hYK : Y ≤ K) (hAa : Aa ≤ A) (hAb : Ab ≤ A) : Eu c n K A u v := by
  refine ⟨h1, h2, ⟨X, Y, hX, hY, hu, hv, ?_, hXK, hYK⟩, by omega, by omega⟩
  have e1 := Int.mul_le_mul_of_nonneg_left hb hX
  have e2 := Int.mul_le_mul_of_nonneg_left ha hY
  omega
theorem col_bd {c : Nat} {u : List Int} {b : Int} (hb : 0 ≤ b) (h : Bd u b) : ((colA c u).natAbs : Int) ≤ b := by
  by_cases hc : c < u.length
  · rw [colA_get hc]; have := h c hc; omega
  · rw [colA_out (by omega)]; simpa using hb
theorem le_of_mul {X x K : Int} (hx : 1 ≤ x) (hX : 0 ≤ X) (h : X * x ≤ K) : X ≤ K := by
  have := Int.mul_le_mul_of_nonneg_left hx hX
  omega
theorem Eu.step {c n : Nat} {K A : Int} {u v : List Int} (h : Eu c n K A u v) (hne : colA c v ≠ 0) :
    Eu c n K A v (nextR c u v) ∧ Bd (scaleL v ((colA c u).tdiv (colA c v))) K ∧ Bd u K ∧ Bd v K := by
  obtain ⟨h1, h2, ⟨X, Y, hX, hY, hu, hv, hK, hXK, hYK⟩, ha, hb⟩ := h
  have hcol := nextR_col (c := c) (h1.trans h2.symm)
  have hlen := nextR_len (c := c) (h1.trans h2.symm)
  have q1 : ((colA c u).tdiv (colA c v)).natAbs = (colA c u).natAbs / (colA c v).natAbs := Int.natAbs_tdiv _ _
  have q2 : ((colA c u).tmod (colA c v)).natAbs = (colA c u).natAbs % (colA c v).natAbs := Int.natAbs_tmod _ _
  have q3 := Nat.mod_add_div (colA c u).natAbs (colA c v).natAbs
  have q4 := Nat.mod_lt (colA c u).natAbs (show 0 < (colA c v).natAbs by omega)
  have q5 := Nat.mod_le (colA c u).natAbs (colA c v).natAbs
  rw [← q1, ← q2] at q3
  rw [← q2] at q4 q5
  rw [← hcol] at q3 q4 q5
  have hs : scaleL v ((colA c u).tdiv (colA c v)) = scaleL v ((colA c u).tdiv (colA c v)) := rfl
  generalize hq : (colA c u).tdiv (colA c v) = q at *
  have hb1 : (1 : Int) ≤ ((colA c v).natAbs : Int) := by omega
  have hQ : (0 : Int) ≤ (q.natAbs : Int) := by omega
  have hQY : 0 ≤ (q.natAbs : Int) * Y := Int.mul_nonneg hQ hY
  have hsc : Bd (scaleL v q) ((q.natAbs : Int) * Y) := by
    intro k hk
    have hk' : k < v.length := by simpa [scaleL] using hk
    have h3 := hv k hk'
    have h4 := mul_bd (x := q) (y := v[k]) (m := (q.natAbs : Int)) (n := Y) (by omega) (by omega) h3.1 h3.2
    have e : (scaleL v q)[k] = v[k] * q := by simp [scaleL]
    rw [e, Int.mul_comm v[k] q]
    exact h4
  have hnx : Bd (nextR c u v) (X + (q.natAbs : Int) * Y) := by
    intro k hk
    have hk1 : k < u.length := by omega
    have hk2 : k < v.length := by omega
    have h3 := hu k hk1
    have h4 := hsc k (by simpa [scaleL] using hk2)
    have e : (nextR c u v)[k] = u[k] - (scaleL v q)[k]'(by simpa [scaleL] using hk2) := by simp [nextR, lessL, hq]
    rw [e]
    omega
  -- the sum is kept
  have q3' : ((colA c (nextR c u v)).natAbs : Int) + ((colA c v).natAbs : Int) * (q.natAbs : Int) = ((colA c u).natAbs : Int) := by exact_mod_cast q3
  have hsum : Y * ((colA c (nextR c u v)).natAbs : Int) + (X + (q.natAbs : Int) * Y) * ((colA c v).natAbs : Int) ≤ K := by
    rw [← q3', Int.mul_add] at hK
    rw [Int.add_mul]
    have e : Y * (((colA c v).natAbs : Int) * (q.natAbs : Int)) = (q.natAbs : Int) * Y * ((colA c v).natAbs : Int) := by
      rw [Int.mul_comm (((colA c v).natAbs : Int)), ← Int.mul_assoc, Int.mul_comm Y]
    omega
  have hYc : 0 ≤ Y * ((colA c (nextR c u v)).natAbs : Int) := Int.mul_nonneg hY (by omega)
  have hK2 : X + (q.natAbs : Int) * Y ≤ K := le_of_mul hb1 (by omega) (by omega)
  have mono : ∀ {l : List Int} {b d : Int}, Bd l b → b ≤ d → Bd l d := fun hl hbd k hk => by have := hl k hk; omega
  exact ⟨⟨h2, by omega, ⟨Y, X + (q.natAbs : Int) * Y, hY, by omega, hv, hnx, hsum, hYK, hK2⟩, hb, by omega⟩, mono hsc (by omega), mono hu hXK, mono hv hYK⟩

theorem bd_up {l : List Int} {b d : Int} (h : Bd l b) (hbd : b ≤ d) : Bd l d := fun k hk => by have := h k hk; omega
/-- Euclid to its end: the bounds, the lengths, 0 in the second row's column. -/
theorem eucl_bd {c n : Nat} {K A : Int} : ∀ (k : Nat) {u v : List Int}, (colA c v).natAbs ≤ k → Eu c n K A u v →
    ((eucl c u v).1.length = n ∧ (eucl c u v).2.length = n ∧ Bd (eucl c u v).1 K ∧ Bd (eucl c u v).2 K ∧ colA c (eucl c u v).2 = 0 ∧ ((colA c (eucl c u v).1).natAbs : Int) ≤ A) := by
  intro k
  induction k with
  | zero =>
    intro u v hk h
    rw [eucl_end (by omega)]
    obtain ⟨h1, h2, ⟨X, Y, _, _, hu, hv, _, hX, hY⟩, ha, _⟩ := h
    exact ⟨h1, h2, bd_up hu hX, bd_up hv hY, show colA c v = 0 by omega, ha⟩
  | succ k ih =>
    intro u v hk h
    by_cases h0 : colA c v = 0
    · rw [eucl_end h0]
      obtain ⟨h1, h2, ⟨X, Y, _, _, hu, hv, _, hX, hY⟩, ha, _⟩ := h
      exact ⟨h1, h2, bd_up hu hX, bd_up hv hY, h0, ha⟩
    · have hl : u.length = v.length := h.1.trans h.2.1.symm
      rw [eucl_step hl h0]
      refine ih ?_ (h.step h0).1
      rw [nextR_col hl, Int.natAbs_tmod]
      have := Nat.mod_lt (colA c u).natAbs (show 0 < (colA c v).natAbs by omega)
      omega

/-- What the steps leave of a number that turns its sign with each step. -/
theorem eucl_keeps {c : Nat} (f : List Int → List Int → Int) {n : Nat} (hf : ∀ u v q, u.length = n → v.length = n → f v (lessL u (scaleL v q)) = - f u v) :
    ∀ (k : Nat) {u v : List Int}, (colA c v).natAbs ≤ k → u.length = n → v.length = n → (f (eucl c u v).1 (eucl c u v).2).natAbs = (f u v).natAbs := by
  intro k
  induction k with
  | zero => intro u v hk _ _; rw [eucl_end (by omega)]
  | succ k ih =>
    intro u v hk h1 h2
    by_cases h0 : colA c v = 0
    · rw [eucl_end h0]
    · have hl : u.length = v.length := h1.trans h2.symm
      rw [eucl_step hl h0, ih ?_ h2 (by rw [nextR_len hl, h1])]
      · unfold nextR; rw [hf u v _ h1 h2, Int.natAbs_neg]
      · rw [nextR_col hl, Int.natAbs_tmod]
        have := Nat.mod_lt (colA c u).natAbs (show 0 < (colA c v).natAbs by omega)
        omega
theorem det2_step (u v : List Int) (q : Int) (h1 : u.length = 2) (h2 : v.length = 2) : detL [v, lessL u (scaleL v q)] = - detL [u, v] := by
  obtain ⟨a, b, rfl⟩ := list2 h1
  obtain ⟨x, y, rfl⟩ := list2 h2
  simp only [lessL, scaleL, List.map_cons, List.map_nil, List.zipWith_cons_cons, List.zipWith_nil_left, detL]
  grind
theorem det3_01 (z u v : List Int) (q : Int) (h0 : z.length = 3) (h1 : u.length = 3) (h2 : v.length = 3) : detL [v, lessL u (scaleL v q), z] = - detL [u, v, z] := by
  obtain ⟨a, b, c, rfl⟩ := list3 h1
  obtain ⟨x, y, w, rfl⟩ := list3 h2
  obtain ⟨d, e, f, rfl⟩ := list3 h0
  simp only [lessL, scaleL, List.map_cons, List.map_nil, List.zipWith_cons_cons, List.zipWith_nil_left, detL]
  grind
theorem det3_02 (z u v : List Int) (q : Int) (h0 : z.length = 3) (h1 : u.length = 3) (h2 : v.length = 3) : detL [v, z, lessL u (scaleL v q)] = - detL [u, z, v] := by
  obtain ⟨a, b, c, rfl⟩ := list3 h1
  obtain ⟨x, y, w, rfl⟩ := list3 h2
  obtain ⟨d, e, f, rfl⟩ := list3 h0
  simp only [lessL, scaleL, List.map_cons, List.map_nil, List.zipWith_cons_cons, List.zipWith_nil_left, detL]
  grind
theorem det3_12 (z u v : List Int) (q : Int) (h0 : z.length = 3) (h1 : u.length = 3) (h2 : v.length = 3) : detL [z, v, lessL u (scaleL v q)] = - detL [z, u, v] := by
  obtain ⟨a, b, c, rfl⟩ := list3 h1
  obtain ⟨x, y, w, rfl⟩ := list3 h2
  obtain ⟨d, e, f, rfl⟩ := list3 h0
  simp only [lessL, scaleL, List.map_cons, List.map_nil, List.zipWith_cons_cons, List.zipWith_nil_left, detL]
  grind

theorem nextR_at {c d : Nat} {u v : List Int} (h : u.length = v.length) : colA d (nextR c u v) = colA d u - colA d v * ((colA c u).tdiv (colA c v)) := by
  by_cases hd : d < u.length
  · rw [colA_get (by rw [nextR_len h]; exact hd), colA_get hd, colA_get (by omega)]
    simp only [nextR, lessL, scaleL, List.getElem_zipWith, List.getElem_map]
  · rw [colA_out (by rw [nextR_len h]; omega), colA_out (by omega), colA_out (u := v) (by omega)]; omega
/-- A column that is 0 in both rows stays so. -/
theorem eucl_zero {c d : Nat} : ∀ (k : Nat) {u v : List Int}, (colA c v).natAbs ≤ k → u.length = v.length → colA d u = 0 → colA d v = 0 → colA d (eucl c u v).1 = 0 ∧ colA d (eucl c u v).2 = 0 := by
  intro k
  induction k with
  | zero => intro u v hk _ h1 h2; rw [eucl_end (by omega)]; exact ⟨h1, h2⟩
  | succ k ih =>
    intro u v hk hl h1 h2
    by_cases h0 : colA c v = 0
    · rw [eucl_end h0]; exact ⟨h1, h2⟩
    · rw [eucl_step hl h0]
      refine ih ?_ (by rw [nextR_len hl, hl]) h2 (by rw [nextR_at hl, h1, h2]; simp)
      rw [nextR_col hl, Int.natAbs_tmod]
      have := Nat.mod_lt (colA c u).natAbs (show 0 < (colA c v).natAbs by omega)
      omega
theorem det2_up {u v : List Int} (h1 : u.length = 2) (h2 : v.length = 2) (z : colA 0 v = 0) : detL [u, v] = colA 0 u * colA 1 v := by
  obtain ⟨a, b, rfl⟩ := list2 h1
  obtain ⟨x, y, rfl⟩ := list2 h2
  simp [colA] at z
  subst z
  simp [detL, colA]
theorem det3_up {u v w : List Int} (h1 : u.length = 3) (h2 : v.length = 3) (h3 : w.length = 3) (z1 : colA 0 v = 0) (z2 : colA 0 w = 0) (z3 : colA 1 w = 0) : detL [u, v, w] = colA 0 u * colA 1 v * colA 2 w := by
  obtain ⟨a, b, c, rfl⟩ := list3 h1
  obtain ⟨x, y, t, rfl⟩ := list3 h2
  obtain ⟨d, e, f, rfl⟩ := list3 h3
  simp [colA] at z1 z2 z3
  subst z1 z2 z3
  simp [detL, colA, Int.mul_assoc]
/-- Two rows: Euclid's end. -/
theorem herm2 {a b : List Int} (hm : Sq 2 100 [a, b]) (hd : detL [a, b] ≠ 0) :
    Eu 0 2 20000 100 a b ∧ colA 0 (eucl 0 a b).1 ≠ 0 ∧ colA 1 (eucl 0 a b).2 ≠ 0 := by
  have ha := hm.2 0 (by simp)
  have hb := hm.2 1 (by simp)
  simp only [List.getElem_cons_zero, List.getElem_cons_succ] at ha hb
  have E1 : Eu 0 2 20000 100 a b := Eu.first ha.1 hb.1 (by omega) (by omega) ha.2 hb.2 (col_bd (by omega) ha.2) (col_bd (by omega) hb.2) (by omega) (by omega) (by omega) (Int.le_refl _) (Int.le_refl _)
  have B1 := eucl_bd _ (Nat.le_refl _) E1
  have K1 := eucl_keeps (c := 0) (fun u v => detL [u, v]) (n := 2) (fun u v q h1 h2 => det2_step u v q h1 h2) _ (Nat.le_refl _) ha.1 hb.1
  try simp only at K1
  rw [det2_up B1.1 B1.2.1 B1.2.2.2.2.1] at K1
  have hne : colA 0 (eucl 0 a b).1 * colA 1 (eucl 0 a b).2 ≠ 0 := by omega
  exact ⟨E1, fun h => hne (by rw [h]; simp), fun h => hne (by rw [h]; simp)⟩
/-- Three rows: Euclid's three rounds. -/
theorem herm3 {a b z : List Int} (hm : Sq 3 100 [a, b, z]) (hd : detL [a, b, z] ≠ 0) :
    Eu 0 3 20000 100 a b ∧ Eu 0 3 2010000 100 (eucl 0 a b).1 z ∧ Eu 1 3 80400000000 2010000 (eucl 0 a b).2 (eucl 0 (eucl 0 a b).1 z).2 ∧
    colA 0 (eucl 0 (eucl 0 a b).1 z).1 ≠ 0 ∧ colA 1 (eucl 1 (eucl 0 a b).2 (eucl 0 (eucl 0 a b).1 z).2).1 ≠ 0 ∧ colA 2 (eucl 1 (eucl 0 a b).2 (eucl 0 (eucl 0 a b).1 z).2).2 ≠ 0 ∧
    colA 0 (eucl 1 (eucl 0 a b).2 (eucl 0 (eucl 0 a b).1 z).2).1 = 0 ∧ colA 0 (eucl 1 (eucl 0 a b).2 (eucl 0 (eucl 0 a b).1 z).2).2 = 0 := by
  have ha := hm.2 0 (by simp)
  have hb := hm.2 1 (by simp)
  have hz := hm.2 2 (by simp)
  simp only [List.getElem_cons_zero, List.getElem_cons_succ] at ha hb hz
  have E1 : Eu 0 3 20000 100 a b := Eu.first ha.1 hb.1 (by omega) (by omega) ha.2 hb.2 (col_bd (by omega) ha.2) (col_bd (by omega) hb.2) (by omega) (by omega) (by omega) (Int.le_refl _) (Int.le_refl _)
  have B1 := eucl_bd _ (Nat.le_refl _) E1
  have K1 := eucl_keeps (c := 0) (fun u v => detL [u, v, z]) (n := 3) (fun u v q h1 h2 => det3_01 z u v q hz.1 h1 h2) _ (Nat.le_refl _) ha.1 hb.1
  try simp only at K1
  generalize eucl 0 a b = e1 at *
  have E2 : Eu 0 3 2010000 100 e1.1 z := Eu.first B1.1 hz.1 (by omega) (by omega) B1.2.2.1 hz.2 B1.2.2.2.2.2 (col_bd (by omega) hz.2) (by omega) (by omega) (by omega) (Int.le_refl _) (Int.le_refl _)
  have B2 := eucl_bd _ (Nat.le_refl _) E2
  have K2 := eucl_keeps (c := 0) (fun u v => detL [u, e1.2, v]) (n := 3) (fun u v q h1 h2 => det3_02 e1.2 u v q B1.2.1 h1 h2) _ (Nat.le_refl _) B1.1 hz.1
  try simp only at K2
  generalize eucl 0 e1.1 z = e2 at *
  have E3 : Eu 1 3 80400000000 2010000 e1.2 e2.2 := Eu.first B1.2.1 B2.2.1 (by omega) (by omega) B1.2.2.2.1 B2.2.2.2.1 (col_bd (by omega) B1.2.2.2.1) (col_bd (by omega) B2.2.2.2.1) (by omega) (by omega) (by omega) (by omega) (Int.le_refl _)
  have B3 := eucl_bd _ (Nat.le_refl _) E3
  have Z3 := eucl_zero (c := 1) (d := 0) _ (Nat.le_refl _) (B1.2.1.trans B2.2.1.symm) B1.2.2.2.2.1 B2.2.2.2.2.1
  have K3 := eucl_keeps (c := 1) (fun u v => detL [e2.1, u, v]) (n := 3) (fun u v q h1 h2 => det3_12 e2.1 u v q B2.1 h1 h2) _ (Nat.le_refl _) B1.2.1 B2.2.1
  try simp only at K3
  generalize eucl 1 e1.2 e2.2 = e3 at *
  rw [det3_up B2.1 B3.1 B3.2.1 Z3.1 Z3.2 B3.2.2.2.2.1] at K3
  have hne : colA 0 e2.1 * colA 1 e3.1 * colA 2 e3.2 ≠ 0 := by omega
  exact ⟨E1, E2, E3, fun h => hne (by rw [h]; simp), fun h => hne (by rw [h]; simp), fun h => hne (by rw [h]; simp), Z3.1, Z3.2⟩

/-! The whole form, as the model reckons it. -/
def pairH (c r : Nat) (z : List (List Int)) : List (List Int) := (z.set c (eucl c (z.getD c []) (z.getD r [])).1).set r (eucl c (z.getD c []) (z.getD r [])).2
def pairsH (c : Nat) (z : List (List Int)) : Nat → List (List Int)
  | 0 => z
  | j + 1 => pairH c (c + 1 + j) (pairsH c z j)
def negH (c : Nat) (z : List (List Int)) : List (List Int) := if colA c (z.getD c []) < 0 then z.set c (scaleL (z.getD c []) (-1)) else z
def redH (c r : Nat) (z : List (List Int)) : List (List Int) := z.set r (lessL (z.getD r []) (scaleL (z.getD c []) (colA c (z.getD r []) / colA c (z.getD c []))))
def redsH (c : Nat) (z : List (List Int)) : Nat → List (List Int)
  | 0 => z
  | r + 1 => redH c r (redsH c z r)
def hermS (m : List (List Int)) : Nat → List (List Int)
  | 0 => m
  | c + 1 => redsH c (negH c (pairsH c (hermS m c) (m.length - 1 - c))) c
def hermL (m : List (List Int)) : List (List Int) := hermS m m.length
def hermR (m : List (List Int)) : List (List Int) × Bool := if detR m ≠ 0 ∧ isM (hermL m) = true then (hermL m, true) else ([], false)
end Go.Proofs.YtjijgagdaolkcaaGreat
/- The Hermite form: what holds at each pair of rows. -/
namespace Go.Proofs.YtjijgagdaolkcaaGreat

theorem neg_getD {c i : Nat} {z : List (List Int)} (h : i ≠ c) : (negH c z).getD i [] = z.getD i [] := by
  unfold negH
  split
  · simp only [List.getD_eq_getElem?_getD]
    rw [List.getElem?_set_ne (fun e => h e.symm)]
  · rfl
theorem herm_pair {m : List (List Int)} (h3 : m.length ≤ 3) (hsq : Sq m.length 100 m) (hd : detL m ≠ 0) {c j : Nat} (hj : c + 1 + j < m.length) :
    ∃ A : Int, Eu c m.length 80400000000 A ((pairsH c (hermS m c) j).getD c []) ((pairsH c (hermS m c) j).getD (c + 1 + j) []) := by
  have up : ∀ {c n : Nat} {K A : Int} {u v : List Int}, K ≤ 80400000000 → Eu c n K A u v → Eu c n 80400000000 A u v := by
    intro c n K A u v hK h
    obtain ⟨h1, h2, ⟨X, Y, hX, hY, hu, hv, hs, hXK, hYK⟩, ha, hb⟩ := h
    exact ⟨h1, h2, ⟨X, Y, hX, hY, hu, hv, by omega, by omega, by omega⟩, ha, hb⟩
  by_cases e2 : m.length = 2
  · obtain ⟨a, b, rfl⟩ := list2 e2
    obtain ⟨rfl, rfl⟩ : c = 0 ∧ j = 0 := by omega
    exact ⟨100, up (by omega) (herm2 hsq hd).1⟩
  · obtain ⟨a, b, z, rfl⟩ := list3 (show m.length = 3 by omega)
    have H := herm3 hsq hd
    simp only [List.length_cons, List.length_nil] at hj
    by_cases hc : c = 0
    · subst hc
      by_cases hj0 : j = 0
      · subst hj0
        exact ⟨100, up (by omega) H.1⟩
      · obtain rfl : j = 1 := by omega
        exact ⟨100, up (by omega) H.2.1⟩
    · obtain ⟨rfl, rfl⟩ : c = 1 ∧ j = 0 := by omega
      refine ⟨2010000, ?_⟩
      have e1 : (pairsH 1 (hermS [a, b, z] 1) 0).getD 1 [] = (eucl 0 a b).2 := by
        show (negH 0 _).getD 1 [] = _
        rw [neg_getD (by omega)]
        rfl
      have e2 : (pairsH 1 (hermS [a, b, z] 1) 0).getD (1 + 1 + 0) [] = (eucl 0 (eucl 0 a b).1 z).2 := by
        show (negH 0 _).getD 2 [] = _
        rw [neg_getD (by omega)]
        rfl
      rw [e1, e2]
      exact H.2.2.1
end Go.Proofs.YtjijgagdaolkcaaGreat
/- The Hermite form: what holds when a pivot is made positive and when the rows above it are reduced. -/
namespace Go.Proofs.YtjijgagdaolkcaaGreat

def negr (c : Nat) (u : List Int) : List Int := if colA c u < 0 then scaleL u (-1) else u
theorem colA_scale (c : Nat) (u : List Int) (q : Int) : colA c (scaleL u q) = colA c u * q := by
  by_cases hc : c < u.length
  · rw [colA_get (by simpa [scaleL] using hc), colA_get hc]; simp [scaleL]
  · rw [colA_out (by simp [scaleL]; omega), colA_out (by omega)]; simp
theorem negr_len (c : Nat) (u : List Int) : (negr c u).length = u.length := by unfold negr; split <;> simp [scaleL]
theorem negr_bd {c : Nat} {u : List Int} {b : Int} (h : Bd u b) : Bd (negr c u) b := by
  unfold negr
  split
  · intro k hk
    have hk' : k < u.length := by simpa [scaleL] using hk
    have h2 := h k hk'
    have e : (scaleL u (-1))[k] = u[k] * -1 := by simp [scaleL]
    rw [e]; omega
  · exact h
theorem negr_pos {c : Nat} {u : List Int} (h : colA c u ≠ 0) : 0 < colA c (negr c u) := by
  unfold negr
  split
  · rw [colA_scale]; omega
  · omega
theorem negr_zero {c d : Nat} {u : List Int} (h : colA d u = 0) : colA d (negr c u) = 0 := by
  unfold negr
  split
  · rw [colA_scale, h]; simp
  · exact h
theorem negH_eq (c : Nat) (z : List (List Int)) (hc : c < z.length) : negH c z = z.set c (negr c (z.getD c [])) := by
  unfold negH negr
  split
  · rfl
  · rw [List.getD_eq_getElem?_getD, List.getElem?_eq_getElem hc]
    exact (List.set_getElem_self hc).symm
theorem floor_bd {x d X : Int} (hd : 0 < d) (h1 : -X ≤ x) (h2 : x ≤ X) : -X ≤ x / d ∧ x / d ≤ X := by
  have hX : 0 ≤ X := by omega
  constructor
  · refine (Int.le_ediv_iff_mul_le hd).2 ?_
    have := Int.mul_le_mul_of_nonneg_left (show 1 ≤ d by omega) hX
    have e : -X * d = -(X * d) := by rw [Int.neg_mul]
    omega
  · have h3 := Int.mul_ediv_add_emod x d
    have h4 := Int.emod_nonneg x (show d ≠ 0 by omega)
    by_cases hq : x / d ≤ 0
    · omega
    · have h5 := Int.mul_le_mul_of_nonneg_right (show 1 ≤ d by omega) (show 0 ≤ x / d by omega)
      omega
theorem colA_le {c : Nat} {u : List Int} {b : Int} (hb : 0 ≤ b) (h : Bd u b) : -b ≤ colA c u ∧ colA c u ≤ b := by
  have := col_bd (c := c) hb h
  omega
theorem scale_bd {u : List Int} {b q Q : Int} (_hb : 0 ≤ b) (_hQ : 0 ≤ Q) (h : Bd u b) (h1 : -Q ≤ q) (h2 : q ≤ Q) : Bd (scaleL u q) (b * Q) := by
  intro k hk
  have hk' : k < u.length := by simpa [scaleL] using hk
  have h3 := h k hk'
  have e : (scaleL u q)[k] = u[k] * q := by simp [scaleL]
  rw [e]
  exact mul_bd h3.1 h3.2 h1 h2
/-- A row that is 0 but in its last place: its multiple by a floor. -/
theorem last_bd {u : List Int} {x B X : Int} (hl : u.length = 3) (h0 : colA 0 u = 0) (h1 : colA 1 u = 0) (hp : 0 < colA 2 u) (hB : colA 2 u ≤ B) (hx1 : -X ≤ x) (hx2 : x ≤ X) : Bd (scaleL u (x / colA 2 u)) (X + B) := by
  obtain ⟨a, b, d, rfl⟩ := list3 hl
  simp [colA] at h0 h1 hp hB
  subst h0 h1
  have e : colA 2 [0, 0, d] = d := by simp [colA]
  rw [e]
  have h3 := Int.mul_ediv_add_emod x d
  have h4 := Int.emod_nonneg x (show d ≠ 0 by omega)
  have h5 := Int.emod_lt_of_pos x hp
  generalize hq : x / d = q at *
  intro k hk
  match k, (by simpa [scaleL] using hk : k < 3) with
  | 0, _ => simp [scaleL]; omega
  | 1, _ => simp [scaleL]; omega
  | 2, _ => simp [scaleL]; omega
theorem less_bd {u v : List Int} {a b : Int} (h1 : Bd u a) (h2 : Bd v b) : Bd (lessL u v) (a + b) := by
  intro k hk
  have hk2 : k < u.length ∧ k < v.length := by
    have : k < min u.length v.length := by simpa [lessL] using hk
    omega
  have h3 := h1 k hk2.1
  have h4 := h2 k hk2.2
  have e : (lessL u v)[k] = u[k]'hk2.1 - v[k]'hk2.2 := by simp [lessL]
  rw [e]; omega

/-- What a reduction meets: the row r and the pivot's row. -/
def RedOk (n c r : Nat) (z : List (List Int)) : Prop :=
  ∃ a p, z[r]? = some a ∧ z[c]? = some p ∧ a.length = n ∧ p.length = n ∧ 0 < colA c p ∧ Bd a 400000000000000000 ∧ Bd p 400000000000000000 ∧ Bd (scaleL p (colA c a / colA c p)) 400000000000000000
/-- What making a pivot positive meets. -/
def NegOk (n c : Nat) (z : List (List Int)) : Prop := ∃ u, z[c]? = some u ∧ u.length = n ∧ colA c u ≠ 0 ∧ Bd u 400000000000000000

theorem herm_all {m : List (List Int)} (h1 : 1 ≤ m.length) (h3 : m.length ≤ 3) (hsq : Sq m.length 100 m) (hd : detL m ≠ 0) {c : Nat} (hc : c < m.length) :
    NegOk m.length c (pairsH c (hermS m c) (m.length - 1 - c)) ∧ ∀ r, r < c → RedOk m.length c r (redsH c (negH c (pairsH c (hermS m c) (m.length - 1 - c))) r) := by
  by_cases e1 : m.length = 1
  · obtain ⟨a, rfl⟩ := list1 e1
    have hs := hsq.2 0 (by simp)
    simp only [List.getElem_cons_zero] at hs
    obtain ⟨x, rfl⟩ := list1 hs.1
    simp only [List.length_cons, List.length_nil] at hc
    obtain rfl : c = 0 := by omega
    refine ⟨⟨[x], rfl, rfl, ?_, bd_up hs.2 (by omega)⟩, fun r hr => by omega⟩
    simpa [colA, detL] using hd
  · by_cases e2 : m.length = 2
    · obtain ⟨a, b, rfl⟩ := list2 e2
      obtain ⟨E1, P0, P1⟩ := herm2 hsq hd
      obtain ⟨L1, L2, B1, B2, Z2, _⟩ := eucl_bd _ (Nat.le_refl _) E1
      simp only [List.length_cons, List.length_nil] at hc
      have z0 : pairsH 0 (hermS [a, b] 0) 1 = [(eucl 0 a b).1, (eucl 0 a b).2] := rfl
      have z1 : hermS [a, b] 1 = [negr 0 (eucl 0 a b).1, (eucl 0 a b).2] := by
        show negH 0 (pairsH 0 (hermS [a, b] 0) 1) = _
        rw [z0, negH_eq _ _ (by simp)]; rfl
      by_cases hc0 : c = 0
      · subst hc0
        exact ⟨⟨_, rfl, L1, P0, bd_up B1 (by omega)⟩, fun r hr => by omega⟩
      · obtain rfl : c = 1 := by omega
        show NegOk 2 1 (hermS [a, b] 1) ∧ ∀ r, r < 1 → RedOk 2 1 r (redsH 1 (negH 1 (hermS [a, b] 1)) r)
        rw [z1]
        generalize eucl 0 a b = E at *
        refine ⟨⟨_, rfl, L2, P1, bd_up B2 (by omega)⟩, fun r hr => ?_⟩
        obtain rfl : r = 0 := by omega
        rw [negH_eq _ _ (by simp)]
        have c0 := colA_le (c := 1) (by omega) (negr_bd (c := 0) B1)
        have q0 := floor_bd (negr_pos P1) c0.1 c0.2
        exact ⟨negr 0 E.1, negr 1 E.2, rfl, rfl, by rw [negr_len, L1], by rw [negr_len, L2], negr_pos P1, bd_up (negr_bd B1) (by omega), bd_up (negr_bd B2) (by omega), bd_up (scale_bd (by omega) (by omega) (negr_bd B2) q0.1 q0.2) (by omega)⟩
    · obtain ⟨a, b, z, rfl⟩ := list3 (show m.length = 3 by omega)
      obtain ⟨E1, E2, E3, P0, P1, P2, Z10, Z20⟩ := herm3 hsq hd
      obtain ⟨L1, L2, B1, B2, Z2, _⟩ := eucl_bd _ (Nat.le_refl _) E1
      obtain ⟨M1, M2, C1, C2, Y2, _⟩ := eucl_bd _ (Nat.le_refl _) E2
      obtain ⟨N1, N2, D1, D2, X2, _⟩ := eucl_bd _ (Nat.le_refl _) E3
      simp only [List.length_cons, List.length_nil] at hc
      have z0 : pairsH 0 (hermS [a, b, z] 0) 2 = [(eucl 0 (eucl 0 a b).1 z).1, (eucl 0 a b).2, (eucl 0 (eucl 0 a b).1 z).2] := rfl
      have z1 : hermS [a, b, z] 1 = [negr 0 (eucl 0 (eucl 0 a b).1 z).1, (eucl 0 a b).2, (eucl 0 (eucl 0 a b).1 z).2] := by
        show negH 0 (pairsH 0 (hermS [a, b, z] 0) 2) = _
        rw [z0, negH_eq _ _ (by simp)]; rfl
      by_cases hc0 : c = 0
      · subst hc0
        exact ⟨⟨_, rfl, M1, P0, bd_up C1 (by omega)⟩, fun r hr => by omega⟩
      · have z1p : pairsH 1 (hermS [a, b, z] 1) 1 = [negr 0 (eucl 0 (eucl 0 a b).1 z).1, (eucl 1 (eucl 0 a b).2 (eucl 0 (eucl 0 a b).1 z).2).1, (eucl 1 (eucl 0 a b).2 (eucl 0 (eucl 0 a b).1 z).2).2] := by rw [z1]; rfl
        generalize eucl 0 a b = F1 at *
        generalize eucl 0 F1.1 z = F2 at *
        generalize eucl 1 F1.2 F2.2 = F3 at *
        have c0 := colA_le (c := 1) (by omega) (negr_bd (c := 0) C1)
        have q0 := floor_bd (negr_pos P1) c0.1 c0.2
        by_cases hc1 : c = 1
        · subst hc1
          show NegOk 3 1 (pairsH 1 (hermS [a, b, z] 1) 1) ∧ ∀ r, r < 1 → RedOk 3 1 r (redsH 1 (negH 1 (pairsH 1 (hermS [a, b, z] 1) 1)) r)
          rw [z1p]
          refine ⟨⟨_, rfl, N1, P1, bd_up D1 (by omega)⟩, fun r hr => ?_⟩
          obtain rfl : r = 0 := by omega
          rw [negH_eq _ _ (by simp)]
          exact ⟨negr 0 F2.1, negr 1 F3.1, rfl, rfl, by rw [negr_len, M1], by rw [negr_len, N1], negr_pos P1, bd_up (negr_bd C1) (by omega), bd_up (negr_bd D1) (by omega), bd_up (scale_bd (by omega) (by omega) (negr_bd D1) q0.1 q0.2) (by omega)⟩
        · obtain rfl : c = 2 := by omega
          have z2 : hermS [a, b, z] 2 = [lessL (negr 0 F2.1) (scaleL (negr 1 F3.1) (colA 1 (negr 0 F2.1) / colA 1 (negr 1 F3.1))), negr 1 F3.1, F3.2] := by
            show redsH 1 (negH 1 (pairsH 1 (hermS [a, b, z] 1) 1)) 1 = _
            rw [z1p, negH_eq _ _ (by simp)]; rfl
          show NegOk 3 2 (hermS [a, b, z] 2) ∧ ∀ r, r < 2 → RedOk 3 2 r (redsH 2 (negH 2 (hermS [a, b, z] 2)) r)
          rw [z2]
          have hR := less_bd (negr_bd (c := 0) C1) (scale_bd (by omega) (by omega) (negr_bd (c := 1) D1) q0.1 q0.2)
          have hRl : (lessL (negr 0 F2.1) (scaleL (negr 1 F3.1) (colA 1 (negr 0 F2.1) / colA 1 (negr 1 F3.1)))).length = 3 := by rw [lessL_len (by simp [scaleL, negr_len, M1, N1]), negr_len, M1]
          generalize lessL (negr 0 F2.1) (scaleL (negr 1 F3.1) (colA 1 (negr 0 F2.1) / colA 1 (negr 1 F3.1))) = R0 at *
          refine ⟨⟨_, rfl, N2, P2, bd_up D2 (by omega)⟩, fun r hr => ?_⟩
          rw [negH_eq _ _ (by simp)]
          have cR := colA_le (c := 2) (by omega) hR
          have cP := colA_le (c := 2) (by omega) (negr_bd (c := 1) D1)
          have cQ := colA_le (c := 2) (by omega) (negr_bd (c := 2) D2)
          have hQ3 : (negr 2 F3.2).length = 3 := by rw [negr_len, N2]
          by_cases hr0 : r = 0
          · subst hr0
            exact ⟨R0, negr 2 F3.2, rfl, rfl, hRl, hQ3, negr_pos P2, bd_up hR (by omega), bd_up (negr_bd D2) (by omega), bd_up (last_bd hQ3 (negr_zero Z20) (negr_zero X2) (negr_pos P2) cQ.2 cR.1 cR.2) (by omega)⟩
          · obtain rfl : r = 1 := by omega
            exact ⟨negr 1 F3.1, negr 2 F3.2, rfl, rfl, by rw [negr_len, N1], hQ3, negr_pos P2, bd_up (negr_bd D1) (by omega), bd_up (negr_bd D2) (by omega), bd_up (last_bd hQ3 (negr_zero Z20) (negr_zero X2) (negr_pos P2) cQ.2 cP.1 cP.2) (by omega)⟩
end Go.Proofs.YtjijgagdaolkcaaGreat
/- out[p] = out[q]; out[q] = x: two rows of one slice change their places, the second anew. -/
namespace Go.Proofs.YtjijgagdaolkcaaGreat
open Go Go.RowKit

theorem OwR.swap {T e : TypeId} {lo hi : Nat} {w : World} {zss : List (List Int)} {b n c : Nat} (h : OwR T e lo hi w (.slice (some ⟨b, 0, none⟩) n c) zss) (p q : Nat) (hp : p < zss.length) (hq : q < zss.length) (hpq : p ≠ q) {vq : Value} (hvq : w.cell? ⟨b, q, none⟩ = some vq)
    {x : Value} {ys : List Int} (hx : OwnV e lo hi w x (intVals ys)) (hne : ∀ y, x.ownBlock = some y → y ≠ b ∧ ∀ (i : Nat) r, i < zss.length → w.cell? ⟨b, i, none⟩ = some r → r.ownBlock ≠ some y) :
    OwR T e lo hi ((w.setCell ⟨b, p, none⟩ vq).setCell ⟨b, q, none⟩ x) (.slice (some ⟨b, 0, none⟩) n c) ((zss.set p zss[q]).set q ys) := by
  obtain ⟨vs, h1, h2, h3, h4, h5⟩ := h
  have hpv : p < vs.length := by omega
  have hqv : q < vs.length := by omega
  obtain ⟨b', cap, e1, hb1, hb2⟩ := h2.form (by omega)
  simp only [Value.slice.injEq, Option.some.injEq, Addr.mk.injEq] at e1
  obtain ⟨⟨rfl, _, _⟩, rfl, rfl⟩ := e1
  have ho := h2.owns
  have hcell : ∀ i r, vs[i]? = some r → w.cell? ⟨b, i, none⟩ = some r := fun i r hr => by rw [ho.cellAt i (by have := lt_of_get hr; omega)]; exact hr
  have hvq' : vs[q]? = some vq := by rw [ho.cellAt q (by omega)] at hvq; exact hvq
  have hst1 := (ho.stored p vq).1
  have hst := (hst1.stored q x).1
  have hkept : Kept b (b + 1) w ((w.setCell ⟨b, p, none⟩ vq).setCell ⟨b, q, none⟩ x) := ((Kept.refl b (b + 1) w).setCell (p := ⟨b, p, none⟩) (Nat.le_refl _) (Nat.lt_succ_self _) vq).setCell (p := ⟨b, q, none⟩) (Nat.le_refl _) (Nat.lt_succ_self _) x
  have hown2 : OwnV T lo hi ((w.setCell ⟨b, p, none⟩ vq).setCell ⟨b, q, none⟩ x) (.slice (some ⟨b, 0, none⟩) vs.length c) ((vs.set p vq).set q x) := by
    have h6 := OwnV.of_owns hst
    rcases h6 with ⟨h7, _⟩ | ⟨g, cap, cur, e2, h8, _, h9⟩
    · have h8 := congrArg List.length h7
      rw [List.length_set, List.length_set, List.length_nil] at h8
      omega
    · simp only [Value.slice.injEq, Option.some.injEq, Addr.mk.injEq] at e2
      obtain ⟨⟨rfl, _, _⟩, e3, rfl⟩ := e2
      exact .inr ⟨b, c, cur, by rw [List.length_set, List.length_set], hb1, hb2, h9⟩
  have get : ∀ (i : Nat) r, ((vs.set p vq).set q x)[i]? = some r → (i = q ∧ r = x) ∨ (i ≠ q ∧ vs[if i = p then q else i]? = some r) := by
    intro i r hr
    rw [get_set _ _ _ _ (by rw [List.length_set]; exact hqv), get_set _ _ _ _ hpv] at hr
    by_cases hiq : i = q
    · rw [if_pos hiq] at hr; exact .inl ⟨hiq, (Option.some.inj hr).symm⟩
    · rw [if_neg hiq] at hr
      refine .inr ⟨hiq, ?_⟩
      by_cases hip : i = p
      · rw [if_pos hip] at hr ⊢; rw [hvq']; exact hr
      · rw [if_neg hip] at hr ⊢; exact hr
  refine ⟨(vs.set p vq).set q x, by simp only [List.length_set]; exact h1, hown2, ?_, ?_, ?_⟩
  · intro i r zs hr hz
    rw [get_set _ _ _ _ (by rw [List.length_set]; exact hq), get_set _ _ _ _ hp] at hz
    rcases get i r hr with ⟨rfl, rfl⟩ | ⟨hiq, hs⟩
    · rw [if_pos rfl] at hz
      obtain rfl := Option.some.inj hz
      exact hx.far hkept (fun hub => (hne b hub).1 rfl)
    · rw [if_neg hiq] at hz
      by_cases hip : i = p
      · rw [if_pos hip] at hz hs
        obtain rfl := Option.some.inj hz
        exact (h3 q r _ hs (List.getElem?_eq_getElem hq)).far hkept (fun hub => h5 q r b hs hub rfl)
      · rw [if_neg hip] at hz hs
        exact (h3 i r zs hs hz).far hkept (fun hub => h5 i r b hs hub rfl)
  · intro i k r s y hik hr hs hry
    rcases get i r hr with ⟨rfl, rfl⟩ | ⟨hiq, hr'⟩
    · rcases get k s hs with ⟨rfl, _⟩ | ⟨hkq, hs'⟩
      · exact absurd rfl hik
      · exact (hne y hry).2 _ s (by have := lt_of_get hs'; omega) (hcell _ s hs')
    · rcases get k s hs with ⟨rfl, rfl⟩ | ⟨hkq, hs'⟩
      · intro hsy
        exact (hne y hsy).2 _ r (by have := lt_of_get hr'; omega) (hcell _ r hr') hry
      · refine h4 _ _ r s y ?_ hr' hs' hry
        by_cases hip : i = p
        · rw [if_pos hip, if_neg (by omega)]; omega
        · rw [if_neg hip]
          by_cases hkp : k = p
          · rw [if_pos hkp]; omega
          · rw [if_neg hkp]; exact hik
  · intro i r y hr hry
    rcases get i r hr with ⟨rfl, rfl⟩ | ⟨hiq, hr'⟩
    · intro hb
      have : b = y := by simpa [Value.ownBlock] using hb
      exact (hne y hry).1 this.symm
    · exact h5 _ r y hr' hry
/-- A row of a slice of slices lies in a block that was there. -/
theorem OwR.row_lt {T e : TypeId} {lo hi : Nat} {w : World} {zss : List (List Int)} {b n c : Nat} (h : OwR T e lo hi w (.slice (some ⟨b, 0, none⟩) n c) zss) (i : Nat) (r : Value) (hi' : i < zss.length) (hr : w.cell? ⟨b, i, none⟩ = some r) {y : Nat} (hy : r.ownBlock = some y) : y < hi := by
  obtain ⟨b', u, e1, _, _, _, hc, _, hu, _, _⟩ := h.at i hi' rfl
  simp only [Option.some.injEq, Addr.mk.injEq, and_true] at e1
  subst e1
  rw [hc] at hr
  obtain rfl := Option.some.inj hr
  exact (hu.place hy).2.1
/-- The same with a second row that was made since. -/
theorem OwR.swap_new {T e : TypeId} {lo B : Nat} {w w2 : World} {zss : List (List Int)} {b n c : Nat} (h : OwR T e lo w.heap.size w (.slice (some ⟨b, 0, none⟩) n c) zss) (hb : Below w.heap.size w w2) (hlo : lo ≤ w.heap.size) (p q : Nat) (hp : p < zss.length) (hq : q < zss.length) (hpq : p ≠ q) {vq : Value} (hvq : w2.cell? ⟨b, q, none⟩ = some vq)
    {x : Value} {ys : List Int} (hx : OwnV e B w2.heap.size w2 x (intVals ys)) (hB : w.heap.size ≤ B) :
    OwR T e lo ((w2.setCell ⟨b, p, none⟩ vq).setCell ⟨b, q, none⟩ x).heap.size ((w2.setCell ⟨b, p, none⟩ vq).setCell ⟨b, q, none⟩ x) (.slice (some ⟨b, 0, none⟩) n c) ((zss.set p zss[q]).set q ys) := by
  have hsz : ((w2.setCell ⟨b, p, none⟩ vq).setCell ⟨b, q, none⟩ x).heap.size = w2.heap.size := by simp [World.setCell]
  rw [hsz]
  obtain ⟨b', u', e1, _, hbl, hbs, _⟩ := h.at p hp rfl
  simp only [Option.some.injEq, Addr.mk.injEq, and_true] at e1
  subst e1
  refine ((h.below hb).mono (Nat.le_refl lo) hb.size).swap p q hp hq hpq hvq (hx.mono (Nat.le_trans hlo hB) (Nat.le_refl _)) ?_
  intro y hy
  have hyl := (hx.place hy).1
  refine ⟨by omega, fun i r hi hr hry => ?_⟩
  rw [hb.cell (p := ⟨b, i, none⟩) hbs] at hr
  have := h.row_lt i r hi hr hry
  omega
/-- A row that was made since is put into place j. -/
theorem OwR.set_new {T e : TypeId} {lo B : Nat} {w w2 : World} {zss : List (List Int)} {b n c : Nat} (h : OwR T e lo w.heap.size w (.slice (some ⟨b, 0, none⟩) n c) zss) (hb : Below w.heap.size w w2) (hlo : lo ≤ w.heap.size) (j : Nat) (hj : j < zss.length) {x : Value} {ys : List Int} (hx : OwnV e B w2.heap.size w2 x (intVals ys)) (hB : w.heap.size ≤ B) :
    OwR T e lo (w2.setCell ⟨b, j, none⟩ x).heap.size (w2.setCell ⟨b, j, none⟩ x) (.slice (some ⟨b, 0, none⟩) n c) (zss.set j ys) := by
  have hsz : (w2.setCell ⟨b, j, none⟩ x).heap.size = w2.heap.size := by simp [World.setCell]
  rw [hsz]
  have h2 := (h.below hb).mono (Nat.le_refl lo) hb.size
  obtain ⟨b', u', e1, _, hbl, hbs, hcj, _⟩ := h.at j hj rfl
  simp only [Option.some.injEq, Addr.mk.injEq, and_true] at e1
  subst e1
  have hx2 := hx.mono (Nat.le_trans hlo hB) (Nat.le_refl w2.heap.size)
  obtain ⟨vs, k1, k2, k3, k4, k5⟩ := h2
  have hjv : j < vs.length := by omega
  obtain ⟨b', cap, e1, hb1, hb2⟩ := k2.form (by omega)
  simp only [Value.slice.injEq, Option.some.injEq, Addr.mk.injEq] at e1
  obtain ⟨⟨rfl, _, _⟩, rfl, rfl⟩ := e1
  have ho := k2.owns
  have hst := (ho.stored j x).1
  have hkept : Kept b (b + 1) w2 (w2.setCell ⟨b, j, none⟩ x) := (Kept.refl b (b + 1) w2).setCell (p := ⟨b, j, none⟩) (Nat.le_refl _) (Nat.lt_succ_self _) x
  have hcell : ∀ i r, vs[i]? = some r → w2.cell? ⟨b, i, none⟩ = some r := fun i r hr => by rw [ho.cellAt i (by have := lt_of_get hr; omega)]; exact hr
  have hfar : ∀ y, x.ownBlock = some y → y ≠ b ∧ ∀ (i : Nat) r, vs[i]? = some r → r.ownBlock ≠ some y := fun y hy => by
    have hyl := (hx.place hy).1
    refine ⟨by omega, fun i r hi hry => ?_⟩
    have hr := hcell i r hi
    rw [hb.cell (p := ⟨b, i, none⟩) hbs] at hr
    have := h.row_lt i r (by have := lt_of_get hi; omega) hr hry
    omega
  have hown2 : OwnV T lo w2.heap.size (w2.setCell ⟨b, j, none⟩ x) (.slice (some ⟨b, 0, none⟩) vs.length c) (vs.set j x) := by
    have h6 := OwnV.of_owns hst
    rcases h6 with ⟨h7, _⟩ | ⟨g, cap, cur, e2, h8, _, h9⟩
    · have h8 := congrArg List.length h7
      rw [List.length_set, List.length_nil] at h8
      omega
    · simp only [Value.slice.injEq, Option.some.injEq, Addr.mk.injEq] at e2
      obtain ⟨⟨rfl, _, _⟩, e3, rfl⟩ := e2
      exact .inr ⟨b, c, cur, by rw [List.length_set], hb1, hb2, h9⟩
  refine ⟨vs.set j x, by rw [List.length_set, List.length_set, k1], hown2, ?_, ?_, ?_⟩
  · intro i y zs hy hz
    rw [get_set _ _ _ _ hjv] at hy
    rw [get_set _ _ _ _ hj] at hz
    split at hy
    · rename_i hij
      rw [if_pos hij] at hz
      obtain rfl := Option.some.inj hy
      obtain rfl := Option.some.inj hz
      exact hx2.far hkept (fun hub => (hfar b hub).1 rfl)
    · rename_i hij
      rw [if_neg hij] at hz
      exact (k3 i y zs hy hz).far hkept (fun hub => k5 i y b hy hub rfl)
  · intro i k s t q hik hs ht hsq
    rw [get_set _ _ _ _ hjv] at hs ht
    split at hs
    · rename_i hij
      rw [if_neg (by omega)] at ht
      obtain rfl := Option.some.inj hs
      exact (hfar q hsq).2 k t ht
    · split at ht
      · obtain rfl := Option.some.inj ht
        intro htq
        exact (hfar q htq).2 i s hs hsq
      · exact k4 i k s t q hik hs ht hsq
  · intro i s q hs hsq
    rw [get_set _ _ _ _ hjv] at hs
    split at hs
    · obtain rfl := Option.some.inj hs
      intro hbq
      have : b = q := by simpa [Value.ownBlock] using hbq
      exact (hfar q hsq).1 this.symm
    · exact k5 i s q hs hsq
end Go.Proofs.YtjijgagdaolkcaaGreat
