/- Slices of slices of integers: how they read, and rows that the call made itself, each in a block of its own. -/
import Derived.Test.YtjijgagdaolkcaaMab
import Derived.Deep.Slices
namespace Go.Proofs.Ytjijgagdaolkcaa
open Go Go.RowKit Go.ChangeShapes Go.WideShapes Go.Deep

/-- The slice v reads as the lists zss. -/
def Rw (W : World) (v : Value) (zss : List (List Int)) : Prop :=
  ∃ vs : List Value, vs.length = zss.length ∧ Sl W v vs ∧ ∀ (i : Nat) u zs, vs[i]? = some u → zss[i]? = some zs → Sl W u (intVals zs)
theorem Rw.below {W W' : World} {v : Value} {zss : List (List Int)} (h : Rw W v zss) (hb : Below W.heap.size W W') : Rw W' v zss := by
  obtain ⟨vs, h1, h2, h3⟩ := h
  exact ⟨vs, h1, h2.below hb, fun i u zs hu hz => (h3 i u zs hu hz).below hb⟩
theorem Rw.shape {W : World} {v : Value} {zss : List (List Int)} (h : Rw W v zss) :
    ∃ (a : Option Addr) (c : Nat), v = .slice a zss.length c ∧ zss.length ≤ maxLen ∧ ∀ (i : Nat) zs, zss[i]? = some zs → ∃ b off : Nat, ∃ u, a = some ⟨b, off, none⟩ ∧ zss.length ≤ c ∧ b < W.heap.size ∧ W.cell? ⟨b, off + i, none⟩ = some u ∧ Sl W u (intVals zs) := by
  obtain ⟨vs, h1, h2, h3⟩ := h
  obtain ⟨a, c, rfl, hm, ho⟩ := h2.shape
  refine ⟨a, c, by rw [h1], by omega, fun i zs hz => ?_⟩
  have hi : i < zss.length := by
    by_cases hh : i < zss.length
    · exact hh
    · rw [List.getElem?_eq_none (by omega)] at hz; cases hz
  obtain ⟨b, off, e, hc, hb, hx⟩ := ho (by omega)
  have hu : vs[i]? = some vs[i] := List.getElem?_eq_getElem (by omega)
  exact ⟨b, off, vs[i], e, by omega, hb, hx i _ hu, h3 i _ zs hu hz⟩
theorem Rw.len {W : World} {v : Value} {zss : List (List Int)} (h : Rw W v zss) : zss.length ≤ maxLen := by
  obtain ⟨vs, h1, h2, _⟩ := h
  rw [← h1]; exact h2.len
/-- Row i. -/
theorem Rw.row {W : World} {v : Value} {zss : List (List Int)} (h : Rw W v zss) (i : Nat) (hi : i < zss.length) {a : Option Addr} {n c : Nat} (hv : v = .slice a n c) :
    ∃ b off : Nat, ∃ u, a = some ⟨b, off, none⟩ ∧ b < W.heap.size ∧ W.cell? ⟨b, off + i, none⟩ = some u ∧ Sl W u (intVals zss[i]) := by
  obtain ⟨a', c', e, _, ho⟩ := h.shape
  rw [hv] at e
  simp only [Value.slice.injEq] at e
  obtain ⟨rfl, rfl, rfl⟩ := e
  obtain ⟨b, off, u, e2, _, hb, hc, hs⟩ := ho i _ (List.getElem?_eq_getElem hi)
  exact ⟨b, off, u, e2, hb, hc, hs⟩

/-- The slice v and its rows lie in blocks of their own between lo and hi, no two in one; it reads as zss. T: the type of a row. -/
def OwR (T e : TypeId) (lo hi : Nat) (w : World) (v : Value) (zss : List (List Int)) : Prop :=
  ∃ vs : List Value, vs.length = zss.length ∧ OwnV T lo hi w v vs ∧ (∀ (i : Nat) u zs, vs[i]? = some u → zss[i]? = some zs → OwnV e lo hi w u (intVals zs)) ∧
    (∀ (i j : Nat) u u' b, i ≠ j → vs[i]? = some u → vs[j]? = some u' → u.ownBlock = some b → u'.ownBlock ≠ some b) ∧ (∀ (i : Nat) u b, vs[i]? = some u → u.ownBlock = some b → v.ownBlock ≠ some b)
theorem OwR.rw {T e : TypeId} {lo hi : Nat} {w : World} {v : Value} {zss : List (List Int)} (h : OwR T e lo hi w v zss) : Rw w v zss := by
  obtain ⟨vs, h1, h2, h3, _⟩ := h
  exact ⟨vs, h1, h2.sl, fun i u zs hu hz => (h3 i u zs hu hz).sl⟩
theorem OwR.kept {T e : TypeId} {lo hi a b : Nat} {w w' : World} {v : Value} {zss : List (List Int)} (h : OwR T e lo hi w v zss) (hk : Kept a b w w') (hd : hi ≤ a ∨ b ≤ lo) : OwR T e lo hi w' v zss := by
  obtain ⟨vs, h1, h2, h3, h4, h5⟩ := h
  exact ⟨vs, h1, h2.kept hk hd, fun i u zs hu hz => (h3 i u zs hu hz).kept hk hd, h4, h5⟩
theorem OwR.below {T e : TypeId} {lo hi : Nat} {w w' : World} {v : Value} {zss : List (List Int)} (h : OwR T e lo hi w v zss) (hb : Below w.heap.size w w') : OwR T e lo hi w' v zss :=
  h.kept (Kept.of_below (lo := hi) (hi := hi) hb) (.inl (Nat.le_refl _))
theorem OwR.mono {T e : TypeId} {lo hi lo' hi' : Nat} {w : World} {v : Value} {zss : List (List Int)} (h : OwR T e lo hi w v zss) (h1 : lo' ≤ lo) (h2 : hi ≤ hi') : OwR T e lo' hi' w v zss := by
  obtain ⟨vs, k1, k2, k3, k4, k5⟩ := h
  exact ⟨vs, k1, k2.mono h1 h2, fun i u zs hu hz => (k3 i u zs hu hz).mono h1 h2, k4, k5⟩
theorem OwR.nil {T e : TypeId} {lo hi : Nat} {w : World} : OwR T e lo hi w (.slice none 0 0) [] :=
  ⟨[], rfl, OwnV.nil, fun i u zs hu => by simp at hu, fun i j u u' b _ hu => by simp at hu, fun i u b hu => by simp at hu⟩
theorem OwR.len {T e : TypeId} {lo hi : Nat} {w : World} {v : Value} {zss : List (List Int)} (h : OwR T e lo hi w v zss) : zss.length ≤ maxLen := h.rw.len
/-- A step that changes one block alone leaves every row that lies elsewhere. -/
theorem OwnV.far {e : TypeId} {lo hi g : Nat} {w w' : World} {v : Value} {xs : List Value} (h : OwnV e lo hi w v xs) (hk : Kept g (g + 1) w w') (hne : v.ownBlock ≠ some g) : OwnV e lo hi w' v xs := by
  rcases h with h | ⟨b, cap, cur, rfl, h1, h2, hb, hr⟩
  · exact .inl h
  · have hbg : b ≠ g := fun e => hne (by simp [Value.ownBlock, e])
    exact .inr ⟨b, cap, cur, rfl, h1, h2, by rw [hk.block b (lt_of_heap hb) (by omega)]; exact hb, hr⟩
theorem OwnV.place {e : TypeId} {lo hi : Nat} {w : World} {v : Value} {xs : List Value} (h : OwnV e lo hi w v xs) {b : Nat} (hb : v.ownBlock = some b) : lo ≤ b ∧ b < hi ∧ b < w.heap.size := by
  rcases h with ⟨_, rfl⟩ | ⟨g, cap, cur, rfl, h1, h2, hg, _⟩
  · cases hb
  · simp only [Value.ownBlock, Option.some.injEq] at hb
    subst hb
    exact ⟨h1, h2, lt_of_heap hg⟩

theorem lt_of_get {α : Type} {l : List α} {i : Nat} {x : α} (h : l[i]? = some x) : i < l.length := by
  by_cases hh : i < l.length
  · exact hh
  · rw [List.getElem?_eq_none (by omega)] at h; cases h
theorem get_set {α : Type} (l : List α) (k i : Nat) (x : α) (hk : k < l.length) : (l.set k x)[i]? = if i = k then some x else l[i]? := by
  rw [List.getElem?_set]
  by_cases hi : k = i
  · subst hi; simp [hk]
  · rw [if_neg hi, if_neg (fun e => hi e.symm)]
theorem kept_far {w w' : World} {u : Value} (hk : ∀ g, (∀ x, u.ownBlock = some x → x = g) → Kept g (g + 1) w w') {e : TypeId} {lo hi : Nat} {v : Value} {xs : List Value} (h : OwnV e lo hi w v xs) (hne : ∀ b, u.ownBlock = some b → v.ownBlock ≠ some b) : OwnV e lo hi w' v xs := by
  cases hub : u.ownBlock with
  | none => exact h.far (hk (lo + hi + w.heap.size) (fun b hb => by rw [hub] at hb; cases hb)) (fun hv => by have := (h.place hv); omega)
  | some b => exact h.far (hk b (fun b' hb' => by rw [hub] at hb'; exact (Option.some.inj hb').symm)) (hne b hub)
/-- Row j: its cell, its numbers; a step that changes this row alone changes the whole in this place alone. -/
theorem OwR.at {T e : TypeId} {lo hi : Nat} {w : World} {v : Value} {zss : List (List Int)} (h : OwR T e lo hi w v zss) (j : Nat) (hj : j < zss.length) {a : Option Addr} {n c : Nat} (hv : v = .slice a n c) :
    ∃ (b : Nat) (u : Value), a = some ⟨b, 0, none⟩ ∧ lo ≤ b ∧ b < hi ∧ b < w.heap.size ∧ w.cell? ⟨b, j, none⟩ = some u ∧ w.frozen? ⟨b, j, none⟩ = false ∧ OwnV e lo hi w u (intVals zss[j]) ∧ u.ownBlock ≠ some b ∧
      ∀ w' ys, OwnV e lo hi w' u (intVals ys) → (∀ g, (∀ x, u.ownBlock = some x → x = g) → Kept g (g + 1) w w') → OwR T e lo hi w' v (zss.set j ys) := by
  obtain ⟨vs, h1, h2, h3, h4, h5⟩ := h
  have hjv : j < vs.length := by omega
  have hu : vs[j]? = some vs[j] := List.getElem?_eq_getElem hjv
  obtain ⟨b, cap, e1, hb1, hb2⟩ := h2.form (by omega)
  rw [hv] at e1
  simp only [Value.slice.injEq] at e1
  obtain ⟨rfl, rfl, rfl⟩ := e1
  have hvb : v.ownBlock = some b := by rw [hv]; rfl
  have hlt := (h2.place hvb).2.2
  have ho := h2.owns
  rw [hv] at ho
  refine ⟨b, vs[j], rfl, hb1, hb2, hlt, ?_, ho.frozenAt j, h3 j _ _ hu (List.getElem?_eq_getElem hj), ?_, ?_⟩
  · rw [ho.cellAt j (by omega)]; exact hu
  · intro hub; exact h5 j _ b hu hub hvb
  · intro w' ys hys hk
    refine ⟨vs, by rw [List.length_set, h1], kept_far hk h2 (fun b hb => h5 j _ b hu hb), ?_, h4, h5⟩
    intro i x zs hx hz
    rw [get_set _ _ _ _ hj] at hz
    split at hz
    · rename_i hij
      subst hij
      rw [hu] at hx
      obtain rfl := Option.some.inj hx
      obtain rfl := Option.some.inj hz
      exact hys
    · rename_i hij
      exact kept_far hk (h3 i x zs hx hz) (fun b hb => h4 j i _ x b (fun e => hij e.symm) hu hx hb)
/-- Another row is put in place j: one that lies in a block of its own. -/
theorem OwR.put {T e : TypeId} {lo hi : Nat} {w : World} {zss : List (List Int)} {b n c : Nat} (h : OwR T e lo hi w (.slice (some ⟨b, 0, none⟩) n c) zss) (j : Nat) (hj : j < zss.length) {u : Value} {ys : List Int}
    (hu : OwnV e lo hi w u (intVals ys)) (hne : ∀ x, u.ownBlock = some x → x ≠ b ∧ ∀ (i : Nat) r, w.cell? ⟨b, i, none⟩ = some r → r.ownBlock ≠ some x) :
    OwR T e lo hi (w.setCell ⟨b, j, none⟩ u) (.slice (some ⟨b, 0, none⟩) n c) (zss.set j ys) := by
  obtain ⟨vs, h1, h2, h3, h4, h5⟩ := h
  have hjv : j < vs.length := by omega
  obtain ⟨b', cap, e1, hb1, hb2⟩ := h2.form (by omega)
  simp only [Value.slice.injEq, Option.some.injEq, Addr.mk.injEq] at e1
  obtain ⟨⟨rfl, _, _⟩, rfl, rfl⟩ := e1
  have ho := h2.owns
  have hst := (ho.stored j u).1
  have hkept : Kept b (b + 1) w (w.setCell ⟨b, j, none⟩ u) := (Kept.refl b (b + 1) w).setCell (p := ⟨b, j, none⟩) (Nat.le_refl _) (Nat.lt_succ_self _) u
  have hcell : ∀ i r, vs[i]? = some r → w.cell? ⟨b, i, none⟩ = some r := fun i r hr => by rw [ho.cellAt i (by have := lt_of_get hr; omega)]; exact hr
  have hown2 : OwnV T lo hi (w.setCell ⟨b, j, none⟩ u) (.slice (some ⟨b, 0, none⟩) vs.length c) (vs.set j u) := by
    have h6 := OwnV.of_owns hst
    rcases h6 with ⟨h7, _⟩ | ⟨g, cap, cur, e2, h8, _, h9⟩
    · have h8 := congrArg List.length h7
      rw [List.length_set, List.length_nil] at h8
      omega
    · simp only [Value.slice.injEq, Option.some.injEq, Addr.mk.injEq] at e2
      obtain ⟨⟨rfl, _, _⟩, e3, rfl⟩ := e2
      exact .inr ⟨b, c, cur, by rw [List.length_set], hb1, hb2, h9⟩
  refine ⟨vs.set j u, by rw [List.length_set, List.length_set, h1], hown2, ?_, ?_, ?_⟩
  · intro i x zs hx hz
    rw [get_set _ _ _ _ hjv] at hx
    rw [get_set _ _ _ _ hj] at hz
    split at hx
    · rename_i hij
      rw [if_pos hij] at hz
      obtain rfl := Option.some.inj hx
      obtain rfl := Option.some.inj hz
      exact hu.far hkept (fun hub => (hne b hub).1 rfl)
    · rename_i hij
      rw [if_neg hij] at hz
      exact (h3 i x zs hx hz).far hkept (fun hub => h5 i x b hx hub rfl)
  · intro i k x y q hik hx hy hxq
    rw [get_set _ _ _ _ hjv] at hx hy
    split at hx
    · rename_i hij
      rw [if_neg (by omega)] at hy
      obtain rfl := Option.some.inj hx
      exact (hne q hxq).2 k y (hcell k y hy)
    · split at hy
      · obtain rfl := Option.some.inj hy
        intro hyq
        exact (hne q hyq).2 i x (hcell i x hx) hxq
      · exact h4 i k x y q hik hx hy hxq
  · intro i x q hx hxq
    rw [get_set _ _ _ _ hjv] at hx
    split at hx
    · obtain rfl := Option.some.inj hx
      intro hb
      have : b = q := by simpa [Value.ownBlock] using hb
      exact (hne q hxq).1 this.symm
    · exact h5 i x q hx hxq

/-- How many integers there are. -/
def tot (zss : List (List Int)) : Nat := (zss.map List.length).sum
theorem tot_take {zss : List (List Int)} {k : Nat} (h : k < zss.length) : tot (zss.take (k + 1)) = tot (zss.take k) + zss[k].length := by
  unfold tot
  rw [List.take_succ_eq_append_getElem h, List.map_append, List.sum_append]; simp
theorem tot_take_le (zss : List (List Int)) (k : Nat) : tot (zss.take k) ≤ tot zss := by
  unfold tot
  conv => rhs; rw [← List.take_append_drop k zss, List.map_append, List.sum_append]
  omega
theorem row_le_tot {zss : List (List Int)} {k : Nat} (h : k < zss.length) : zss[k].length ≤ tot zss := by
  have h1 := tot_take h
  have h2 := tot_take_le zss (k + 1)
  omega
/-- What szIntSS answers. -/
def szR (zss : List (List Int)) (left : Int) : Int := if left < zss.length + tot zss then -1 else left - zss.length - tot zss

section
variable {H : Type} {enc : TypeId × Value → H} {P : Program}
/-- What came in as a slice of integers. -/
theorem sl_of_trod {k : IntKind} {W : World} {base : Nat} {sp : Nat → Bool} {held : Bool} {t e : TypeId} {fuel : Nat} {v : Value} {x : DataW H × List MemPlace}
    (ht : P.underlying t = some (.slice e)) (he : P.underlying e = some (.int k)) (hc : P.cellsOf e = 1)
    (h : DataW.trod enc P W base sp held fuel t [v] = some x) :
    ∃ zs : List Int, Sl W v (numVals k zs) ∧ ∀ z ∈ zs, (Lit.int k z).wf = true := by
  rcases open_ints ht he hc h with ⟨hcs, _⟩ | ⟨a', len', cap', zs, hcs, _⟩
  · simp only [List.cons.injEq, and_true] at hcs
    subst hcs
    obtain ⟨zs, _, h2, h3⟩ := nums_came ht he hc h
    exact ⟨zs, h2, h3⟩
  · simp only [List.cons.injEq, and_true] at hcs
    subst hcs
    obtain ⟨zs, _, h2, h3⟩ := nums_came ht he hc h
    exact ⟨zs, h2, h3⟩
/-- What came in as a slice of slices of integers. -/
theorem rows_came {W : World} {base : Nat} {sp : Nat → Bool} {held : Bool} {t e q : TypeId} {fuel : Nat} {a : Option Addr} {len cap : Nat} {x : DataW H × List MemPlace}
    (ht : P.underlying t = some (.slice e)) (he : P.underlying e = some (.slice q)) (hq : P.underlying q = some (.int .i64)) (ce : P.cellsOf e = 1) (cq : P.cellsOf q = 1)
    (h : DataW.trod enc P W base sp held fuel t [.slice a len cap] = some x) :
    ∃ zss : List (List Int), zss.length = len ∧ Rw W (.slice a len cap) zss ∧ ∀ zs ∈ zss, ∀ z ∈ zs, (Lit.int .i64 z).wf = true := by
  rcases open_slice1 ht ce h with ⟨hcs, _⟩ | ⟨a', len', cap', m, n, V, D, Pl, hcs, hb, hl, hm, hmm, _, hx⟩
  · simp only [List.cons.injEq, Value.slice.injEq, and_true] at hcs
    obtain ⟨rfl, rfl, rfl⟩ := hcs
    exact ⟨[], rfl, ⟨[], rfl, .inl ⟨rfl, _, _, rfl⟩, fun i u zs hu => by simp at hu⟩, by simp⟩
  · simp only [List.cons.injEq, Value.slice.injEq, and_true] at hcs
    obtain ⟨rfl, rfl, rfl⟩ := hcs
    have hle : len ≤ m := by rw [hmm]; split <;> omega
    have each : ∀ i, i < len → ∃ zs : List Int, Sl W (V i) (numVals .i64 zs) ∧ ∀ z ∈ zs, (Lit.int .i64 z).wf = true := fun i hi => sl_of_trod he hq cq (hx i (by omega)).2
    obtain ⟨Z, hZ⟩ := choose_lt each
    refine ⟨(List.range len).map Z, by simp, ⟨(List.range len).map V, by simp, sl_of_cells (by simp) hl hm ?_, ?_⟩, ?_⟩
    · intro i u hu
      rw [List.getElem?_map] at hu
      by_cases hi : i < len
      · rw [List.getElem?_range hi] at hu
        simp only [Option.map_some, Option.some.injEq] at hu
        rw [← hu]; exact (hx i (by omega)).1
      · rw [List.getElem?_eq_none (by simpa using hi)] at hu; cases hu
    · intro i u zs hu hz
      rw [List.getElem?_map] at hu hz
      by_cases hi : i < len
      · rw [List.getElem?_range hi] at hu hz
        simp only [Option.map_some, Option.some.injEq] at hu hz
        subst hu; subst hz
        exact (hZ i hi).1
      · rw [List.getElem?_eq_none (by simpa using hi)] at hu; cases hu
    · intro zs hz
      obtain ⟨i, hi, rfl⟩ := List.mem_map.1 hz
      exact (hZ i (by simpa using hi)).2
end

/-- Rows of marks from k on. -/
def rmarks : Nat → List (List Int) → List (List Int)
  | _, [] => []
  | k, r :: rs => (List.range r.length).map (fun i => ((k + i : Nat) : Int)) :: rmarks (k + r.length) rs
theorem rmarks_len : ∀ (k : Nat) (zss : List (List Int)), (rmarks k zss).length = zss.length
  | _, [] => rfl
  | k, r :: rs => by simp [rmarks, rmarks_len]
theorem rmarks_get : ∀ (k : Nat) (zss : List (List Int)) (j : Nat) (h : j < zss.length), (rmarks k zss)[j]? = some ((List.range zss[j].length).map fun i => ((k + tot (zss.take j) + i : Nat) : Int))
  | k, [], j, h => by simp at h
  | k, r :: rs, 0, _ => by simp [rmarks, tot]
  | k, r :: rs, j + 1, h => by
    have ih := rmarks_get (k + r.length) rs j (by simpa using h)
    simp only [rmarks, List.getElem?_cons_succ, List.getElem_cons_succ]
    rw [ih]
    simp only [List.take_succ_cons, tot, List.map_cons, List.sum_cons, Nat.add_assoc]
theorem rmarks_tot : ∀ (k : Nat) (zss : List (List Int)), tot (rmarks k zss) = tot zss
  | _, [] => rfl
  | k, r :: rs => by
    have := rmarks_tot (k + r.length) rs
    simp only [tot, rmarks, List.map_cons, List.sum_cons, List.length_map, List.length_range] at this ⊢
    omega
end Go.Proofs.Ytjijgagdaolkcaa
/- Plain facts on cones of the plane: the next vector, the rays, turns. -/
namespace Go.Proofs.Ytjijgagdaolkcaa
open Go Go.RowKit Go.Lib

/-- The determinant of two points. -/
def crP (p q : P2) : Int := p.1 * q.2 - p.2 * q.1
/-- Within the bounds of rays; without a common divisor. -/
def Cn30 (p : P2) : Prop := (-30 ≤ p.1 ∧ p.1 ≤ 30) ∧ -30 ≤ p.2 ∧ p.2 ≤ 30
def PrP (p : P2) : Prop := Int.gcd p.1 p.2 = 1
theorem bez_nat : ∀ (n a b : Nat), b ≤ n → Nat.gcd a b = 1 → ∃ x y : Int, (a : Int) * x + (b : Int) * y = 1
  | 0, a, b, hn, h => by
    obtain rfl : b = 0 := by omega
    rw [Nat.gcd_zero_right] at h
    exact ⟨1, 0, by rw [h]; simp⟩
  | n + 1, a, b, hn, h => by
    by_cases hb : b = 0
    · subst hb
      rw [Nat.gcd_zero_right] at h
      exact ⟨1, 0, by rw [h]; simp⟩
    · have hm := Nat.mod_lt a (Nat.pos_of_ne_zero hb)
      obtain ⟨x, y, e⟩ := bez_nat n b (a % b) (by omega) (by rw [Nat.gcd_comm, ← Nat.gcd_rec, Nat.gcd_comm]; exact h)
      refine ⟨y, x - (a / b : Nat) * y, ?_⟩
      have e2 : (a : Int) = (b : Int) * (a / b : Nat) + (a % b : Nat) := by
        rw [← Int.natCast_mul, ← Int.natCast_add, Nat.div_add_mod]
      generalize ((a / b : Nat) : Int) = q at *
      generalize ((a % b : Nat) : Int) = r at *
      rw [e2]
      grind
theorem bez_int {a b : Int} (h : Int.gcd a b = 1) : ∃ x y : Int, a * x + b * y = 1 := by
  obtain ⟨x, y, e⟩ := bez_nat b.natAbs a.natAbs b.natAbs (Nat.le_refl _) h
  rcases Int.natAbs_eq a with ha | ha <;> rcases Int.natAbs_eq b with hb | hb
  · exact ⟨x, y, by rw [ha, hb]; exact e⟩
  · exact ⟨x, -y, by rw [ha, hb]; grind⟩
  · exact ⟨-x, y, by rw [ha, hb]; grind⟩
  · exact ⟨-x, -y, by rw [ha, hb]; grind⟩
theorem mul_le30 {a b m : Int} (hb : -30 ≤ b ∧ b ≤ 30) (ha : 0 ≤ a ∧ a ≤ m) : -(30 * m) ≤ b * a ∧ b * a ≤ 30 * m := by
  have h1 : 0 ≤ (30 - b) * a := Int.mul_nonneg (by omega) ha.1
  have h2 : 0 ≤ (30 + b) * a := Int.mul_nonneg (by omega) ha.1
  rw [Int.sub_mul] at h1
  rw [Int.add_mul] at h2
  omega
/-- A primitive vector has one with determinant 1 behind it, within the same bounds. -/
theorem bez {u : P2} (hu : Cn30 u) (hp : PrP u) : ∃ w : P2, Cn30 w ∧ crP u w = 1 := by
  obtain ⟨a, b⟩ := u
  unfold PrP at hp
  unfold Cn30 at hu
  simp only at hp hu
  by_cases h0 : a = 0
  · subst h0
    refine ⟨(-b, 0), by unfold Cn30; simp only; omega, ?_⟩
    have hb : b.natAbs = 1 := by simpa [Int.gcd] using hp
    unfold crP
    rcases (by omega : b = 1 ∨ b = -1) with rfl | rfl <;> rfl
  · obtain ⟨x0, y0, e⟩ := bez_int hp
    -- w = (-y0, x0): a * x0 - b * (-y0)
    obtain ⟨x, hx⟩ : ∃ x, (-y0) % a = x := ⟨_, rfl⟩
    obtain ⟨q, hq⟩ : ∃ q, (-y0) / a = q := ⟨_, rfl⟩
    have e1 : -y0 = a * q + x := by rw [← hx, ← hq]; have := Int.mul_ediv_add_emod (-y0) a; omega
    have hx0 : 0 ≤ x := by rw [← hx]; exact Int.emod_nonneg _ h0
    have hx1 : x < a.natAbs := by rw [← hx]; exact Int.emod_lt (-y0) h0
    obtain ⟨y, hy⟩ : ∃ y, x0 - b * q = y := ⟨_, rfl⟩
    have e2 : a * y = 1 + b * x := by
      rw [← hy]
      have : y0 = -(a * q + x) := by omega
      rw [this] at e
      grind
    refine ⟨(x, y), ?_, by unfold crP; simp only; omega⟩
    have hbx := mul_le30 hu.2 ⟨hx0, (by omega : x ≤ a.natAbs - 1)⟩
    have hy1 : y ≤ 30 := by
      apply Classical.byContradiction
      intro hc
      rcases (by omega : 0 < a ∨ a < 0) with ha | ha
      · have h1 : 0 ≤ a * (y - 31) := Int.mul_nonneg (by omega) (by omega)
        rw [Int.mul_sub] at h1
        omega
      · have h1 : 0 ≤ (-a) * (y - 31) := Int.mul_nonneg (by omega) (by omega)
        rw [Int.mul_sub, Int.neg_mul, Int.neg_mul] at h1
        omega
    have hy2 : -30 ≤ y := by
      apply Classical.byContradiction
      intro hc
      rcases (by omega : 0 < a ∨ a < 0) with ha | ha
      · have h1 : 0 ≤ a * (-31 - y) := Int.mul_nonneg (by omega) (by omega)
        rw [Int.mul_sub] at h1
        omega
      · have h1 : 0 ≤ (-a) * (-31 - y) := Int.mul_nonneg (by omega) (by omega)
        rw [Int.mul_sub, Int.neg_mul, Int.neg_mul] at h1
        omega
    unfold Cn30
    simp only
    omega

theorem basis {u w : P2} (z : P2) (h : crP u w = 1) : z.1 = crP z w * u.1 + crP u z * w.1 ∧ z.2 = crP z w * u.2 + crP u z * w.2 := by
  unfold crP at *
  constructor <;> grind
/-- w is the next vector of the cone of u and v. -/
def IsNx (u v w : P2) : Prop := crP u w = 1 ∧ 0 ≤ crP w v ∧ crP w v < crP u v
theorem nx_mul {t d r s : Int} (h : s = t * d + r) (h1 : 0 ≤ r) (h2 : r < d) (h3 : 0 ≤ s) (h4 : s < d) : t = 0 := by
  rcases (by omega : t = 0 ∨ 1 ≤ t ∨ t ≤ -1) with k | k | k
  · exact k
  · have := Int.mul_nonneg (by omega : 0 ≤ t - 1) (by omega : 0 ≤ d)
    rw [Int.sub_mul] at this
    omega
  · have := Int.mul_nonneg (by omega : 0 ≤ -1 - t) (by omega : 0 ≤ d)
    rw [Int.sub_mul] at this
    omega
theorem nx_unique {u v w w' : P2} (h : IsNx u v w) (h' : IsNx u v w') : w = w' := by
  obtain ⟨h1, h2, h3⟩ := h
  obtain ⟨k1, k2, k3⟩ := h'
  obtain ⟨e1, e2⟩ := basis w' h1
  rw [k1] at e1 e2
  have e3 : crP w' v = crP w' w * crP u v + crP w v := by
    have f : ∀ t : Int, w'.1 = t * u.1 + 1 * w.1 → w'.2 = t * u.2 + 1 * w.2 → crP w' v = t * crP u v + crP w v := by
      intro t g1 g2
      unfold crP
      rw [g1, g2]
      grind
    exact f _ e1 e2
  have t0 := nx_mul e3 h2 h3 k2 k3
  rw [t0] at e1 e2
  exact Prod.ext (by omega) (by omega)
/-- A vector with determinant 1 behind u, moved by multiples of u. -/
theorem nx_of {u v w : P2} (h : crP u w = 1) (hd : 0 < crP u v) : IsNx u v (w.1 - u.1 * (crP w v / crP u v), w.2 - u.2 * (crP w v / crP u v)) := by
  have e : crP w v % crP u v = crP w v - crP u v * (crP w v / crP u v) := by have := Int.mul_ediv_add_emod (crP w v) (crP u v); omega
  have g1 := Int.emod_nonneg (crP w v) (by omega : crP u v ≠ 0)
  have g2 := Int.emod_lt_of_pos (crP w v) hd
  generalize crP w v / crP u v = q at *
  have k1 : crP u (w.1 - u.1 * q, w.2 - u.2 * q) = 1 := by rw [← h]; unfold crP; simp only; grind
  have k2 : crP (w.1 - u.1 * q, w.2 - u.2 * q) v = crP w v - crP u v * q := by unfold crP; simp only; grind
  exact ⟨k1, by rw [k2]; omega, by rw [k2]; omega⟩
theorem nx_ex {u v : P2} (hu : Cn30 u) (hp : PrP u) (hd : 0 < crP u v) : ∃ w, IsNx u v w := by
  obtain ⟨w, -, h⟩ := bez hu hp
  exact ⟨_, nx_of h hd⟩
open Classical in
/-- The next vector. -/
noncomputable def nxP (u v : P2) : P2 := if h : ∃ w, IsNx u v w then Classical.choose h else (0, 0)
theorem nxP_is {u v : P2} (hu : Cn30 u) (hp : PrP u) (hd : 0 < crP u v) : IsNx u v (nxP u v) := by
  have h := nx_ex hu hp hd
  unfold nxP
  rw [dif_pos h]
  exact Classical.choose_spec h
theorem nxP_eq {u v w : P2} (h : IsNx u v w) : nxP u v = w := by
  have hex : ∃ w, IsNx u v w := ⟨w, h⟩
  unfold nxP
  rw [dif_pos hex]
  exact nx_unique (Classical.choose_spec hex) h
/-- d times the next vector is v and as many u as the next one's determinant says. -/
theorem nx_mulw {u v w : P2} (h : IsNx u v w) : crP u v * w.1 = v.1 + crP w v * u.1 ∧ crP u v * w.2 = v.2 + crP w v * u.2 := by
  obtain ⟨e1, e2⟩ := basis v h.1
  have e : crP v w = -crP w v := by unfold crP; grind
  rw [e] at e1 e2
  have n1 := Int.neg_mul (crP w v) u.1
  have n2 := Int.neg_mul (crP w v) u.2
  omega
theorem bd_div {d x y k a : Int} (e : d * x = y + k * a) (hy : -30 ≤ y ∧ y ≤ 30) (ha : -30 ≤ a ∧ a ≤ 30) (hk : 0 ≤ k) (hd : k < d) : -30 ≤ x ∧ x ≤ 30 := by
  have h1 := mul_le30 ha ⟨hk, (by omega : k ≤ d - 1)⟩
  have e2 : a * k = k * a := Int.mul_comm _ _
  constructor
  · apply Classical.byContradiction
    intro hc
    have := Int.mul_nonneg (by omega : 0 ≤ d) (by omega : 0 ≤ -31 - x)
    rw [Int.mul_sub] at this
    omega
  · apply Classical.byContradiction
    intro hc
    have := Int.mul_nonneg (by omega : 0 ≤ d) (by omega : 0 ≤ x - 31)
    rw [Int.mul_sub] at this
    omega
theorem nx_bd {u v w : P2} (hu : Cn30 u) (hv : Cn30 v) (h : IsNx u v w) : Cn30 w := by
  obtain ⟨e1, e2⟩ := nx_mulw h
  exact ⟨bd_div e1 hv.1 hu.1 h.2.1 h.2.2, bd_div e2 hv.2 hu.2 h.2.1 h.2.2⟩
theorem dvd_one {g : Nat} (h : (g : Int) ∣ 1) : g = 1 := by
  have := Int.natAbs_dvd_natAbs.2 h
  simpa using this
theorem prim_of {u w : P2} (h : crP u w = 1) : PrP w := by
  unfold PrP
  have h1 : ((Int.gcd w.1 w.2 : Nat) : Int) ∣ w.1 := Int.gcd_dvd_left ..
  have h2 : ((Int.gcd w.1 w.2 : Nat) : Int) ∣ w.2 := Int.gcd_dvd_right ..
  refine dvd_one ?_
  rw [← h]
  exact Int.dvd_sub (Int.dvd_trans h2 (Int.dvd_mul_left _ _)) (Int.dvd_trans h1 (Int.dvd_mul_left _ _))
theorem prim_div {v : P2} {d x y : Int} (hv : PrP v) (hd : 0 < d) (h1 : d * x = v.1) (h2 : d * y = v.2) : d = 1 := by
  have k1 : d ∣ v.1 := ⟨x, h1.symm⟩
  have k2 : d ∣ v.2 := ⟨y, h2.symm⟩
  have k3 := Int.dvd_coe_gcd k1 k2
  unfold PrP at hv
  rw [hv] at k3
  have := Int.natAbs_dvd_natAbs.2 k3
  simp at this
  omega
theorem nx_end {u v w : P2} (hv : PrP v) (h : IsNx u v w) (h0 : crP w v = 0) : w = v := by
  obtain ⟨e1, e2⟩ := nx_mulw h
  rw [h0] at e1 e2
  simp only [Int.zero_mul, Int.add_zero] at e1 e2
  have hd : crP u v = 1 := prim_div hv (by have := h.2.1; have := h.2.2; omega) e1 e2
  rw [hd] at e1 e2
  exact Prod.ext (by omega) (by omega)

/-- Two vectors between which the rays are gone through. -/
def Two (u v : P2) : Prop := Cn30 u ∧ Cn30 v ∧ PrP u ∧ PrP v ∧ (0 < crP u v ∨ u = v)
theorem cr_self (u : P2) : crP u u = 0 := by unfold crP; rw [Int.mul_comm]; omega
theorem Two.next {u v : P2} (h : Two u v) (hd : 0 < crP u v) : IsNx u v (nxP u v) ∧ Two (nxP u v) v := by
  obtain ⟨h1, h2, h3, h4, h5⟩ := h
  have k := nxP_is h1 h3 hd
  refine ⟨k, nx_bd h1 h2 k, h2, prim_of k.1, h4, ?_⟩
  rcases (by have := k.2.1; omega : 0 < crP (nxP u v) v ∨ crP (nxP u v) v = 0) with h | h
  · exact .inl h
  · exact .inr (nx_end h4 k h)
theorem Two.ne {u v : P2} (h : Two u v) : (u = v) ↔ ¬ 0 < crP u v := by
  constructor
  · intro e; rw [e, cr_self]; omega
  · intro e; rcases h.2.2.2.2 with k | k
    · exact absurd k e
    · exact k
/-- The rays from u to v. -/
noncomputable def raysF : Nat → P2 → P2 → List P2
  | 0, _, v => [v]
  | n + 1, u, v => if 0 < crP u v then u :: raysF n (nxP u v) v else [v]
noncomputable def raysL (u v : P2) : List P2 := raysF (crP u v).toNat u v
theorem raysF_more {v : P2} : ∀ (n m : Nat) (u : P2), Two u v → (crP u v).toNat ≤ n → (crP u v).toNat ≤ m → raysF n u v = raysF m u v
  | 0, 0, _, _, _, _ => rfl
  | 0, m + 1, u, h, h1, h2 => by rw [raysF, raysF, if_neg (by omega)]
  | n + 1, 0, u, h, h1, h2 => by rw [raysF, raysF, if_neg (by omega)]
  | n + 1, m + 1, u, h, h1, h2 => by
    rw [raysF, raysF]
    by_cases hd : 0 < crP u v
    · rw [if_pos hd, if_pos hd]
      obtain ⟨k1, k2⟩ := h.next hd
      rw [raysF_more n m _ k2 (by have := k1.2.1; have := k1.2.2; omega) (by have := k1.2.1; have := k1.2.2; omega)]
    · rw [if_neg hd, if_neg hd]
theorem raysL_step {u v : P2} (h : Two u v) (hd : 0 < crP u v) : raysL u v = u :: raysL (nxP u v) v := by
  obtain ⟨k1, k2⟩ := h.next hd
  unfold raysL
  rw [show (crP u v).toNat = ((crP u v).toNat - 1) + 1 by omega, raysF, if_pos hd]
  rw [raysF_more ((crP u v).toNat - 1) (crP (nxP u v) v).toNat _ k2 (by have := k1.2.1; have := k1.2.2; omega) (Nat.le_refl _)]
theorem raysL_end {u v : P2} (hd : ¬ 0 < crP u v) : raysL u v = [v] := by
  unfold raysL
  rw [show (crP u v).toNat = 0 by omega]; rfl
theorem raysF_len {v : P2} : ∀ (n : Nat) (u : P2), (raysF n u v).length ≤ n + 1
  | 0, _ => by simp [raysF]
  | n + 1, u => by
    rw [raysF]
    split
    · have := raysF_len n (nxP u v) (v := v); simp; omega
    · simp
theorem mul_bdc {x y : Int} (h1 : -30 ≤ x) (h2 : x ≤ 30) (h3 : -30 ≤ y) (h4 : y ≤ 30) : -900 ≤ x * y ∧ x * y ≤ 900 := by
  have a1 : 0 ≤ (30 - x) * (30 - y) := Int.mul_nonneg (by omega) (by omega)
  have a2 : 0 ≤ (30 + x) * (30 + y) := Int.mul_nonneg (by omega) (by omega)
  have a3 : 0 ≤ (30 - x) * (30 + y) := Int.mul_nonneg (by omega) (by omega)
  have a4 : 0 ≤ (30 + x) * (30 - y) := Int.mul_nonneg (by omega) (by omega)
  simp only [Int.sub_mul, Int.add_mul, Int.mul_sub, Int.mul_add] at a1 a2 a3 a4
  omega
theorem cr_bd {u v : P2} (hu : Cn30 u) (hv : Cn30 v) : -1800 ≤ crP u v ∧ crP u v ≤ 1800 := by
  have h1 := mul_bdc hu.1.1 hu.1.2 hv.2.1 hv.2.2
  have h2 := mul_bdc hu.2.1 hu.2.2 hv.1.1 hv.1.2
  unfold crP
  omega
theorem raysL_len {u v : P2} (h : Two u v) : (raysL u v).length ≤ 1801 := by
  have h1 := raysF_len (crP u v).toNat u (v := v)
  have h2 := cr_bd h.1 h.2.1
  unfold raysL
  omega
theorem raysF_pos {v : P2} : ∀ (n : Nat) (u : P2), 0 < (raysF n u v).length
  | 0, _ => by simp [raysF]
  | n + 1, u => by
    rw [raysF]
    split <;> simp
/-- What holds of a list of rays: each one and the next one have the determinant 1, all are within bounds, and the determinants with v go down. -/
def Chain (v : P2) : List P2 → Prop
  | [] => True
  | [x] => x = v
  | x :: y :: r => crP x y = 1 ∧ crP y v < crP x v ∧ 0 ≤ crP y v ∧ Cn30 x ∧ Chain v (y :: r)
theorem raysF_chain {v : P2} : ∀ (n : Nat) (u : P2), Two u v → (crP u v).toNat ≤ n → Chain v (raysF n u v) ∧ ∃ r, raysF n u v = u :: r
  | 0, u, h, hn => by
    have : u = v := h.ne.2 (by omega)
    subst this
    exact ⟨rfl, [], rfl⟩
  | n + 1, u, h, hn => by
    rw [raysF]
    by_cases hd : 0 < crP u v
    · rw [if_pos hd]
      obtain ⟨k1, k2⟩ := h.next hd
      obtain ⟨c1, r, e⟩ := raysF_chain n (nxP u v) k2 (by have := k1.2.1; have := k1.2.2; omega)
      rw [e] at c1 ⊢
      exact ⟨⟨k1.1, k1.2.2, k1.2.1, h.1, c1⟩, _, rfl⟩
    · rw [if_neg hd]
      have : u = v := h.ne.2 hd
      subst this
      exact ⟨rfl, [], rfl⟩
theorem raysL_chain {u v : P2} (h : Two u v) : Chain v (raysL u v) ∧ ∃ r, raysL u v = u :: r := raysF_chain _ u h (Nat.le_refl _)
/-- A list that goes down so is the list of rays. -/
theorem chain_rays {v : P2} (hv : Cn30 v) (pv : PrP v) : ∀ (l : List P2) (u : P2), PrP u → Chain v (u :: l) → Two u v ∧ u :: l = raysL u v
  | [], u, pu, h => by
    have h : u = v := h
    subst h
    exact ⟨⟨hv, hv, pv, pv, .inr rfl⟩, by rw [raysL_end (by rw [cr_self]; omega)]⟩
  | w :: l, u, pu, h => by
    obtain ⟨h1, h2, h3, h4, h5⟩ := h
    obtain ⟨k1, k2⟩ := chain_rays hv pv l w (prim_of h1) h5
    have hT : Two u v := ⟨h4, hv, pu, pv, .inl (by omega)⟩
    have hn : nxP u v = w := nxP_eq ⟨h1, h3, h2⟩
    exact ⟨hT, by rw [raysL_step hT (by omega), hn, k2]⟩
/-- The turns. -/
def turnsP : List P2 → List Int
  | x :: y :: z :: r => crP x z :: turnsP (y :: z :: r)
  | _ => []
theorem turnsP_len : ∀ l : List P2, (turnsP l).length = l.length - 2
  | [] => rfl
  | [_] => rfl
  | [_, _] => rfl
  | x :: y :: z :: r => by
    have := turnsP_len (y :: z :: r)
    rw [turnsP, List.length_cons, this]
    simp
/-- The sum of both neighbors is as many times the vector as the turn says. -/
theorem turn_sum {x y z : P2} (h1 : crP x y = 1) (h2 : crP y z = 1) : x.1 + z.1 = crP x z * y.1 ∧ x.2 + z.2 = crP x z * y.2 := by
  obtain ⟨e1, e2⟩ := basis z h1
  have e : crP z y = -1 := by rw [← h2]; unfold crP; grind
  rw [e] at e1 e2
  constructor <;> omega
theorem turn_two {x y z v : P2} (h1 : crP x y = 1) (h2 : crP y z = 1) (h3 : crP y v < crP x v) (h4 : 0 ≤ crP z v) (h5 : crP z v < crP y v) : 2 ≤ crP x z := by
  obtain ⟨e1, e2⟩ := turn_sum h1 h2
  have e3 : crP x v + crP z v = crP x z * crP y v := by
    have f : ∀ t : Int, x.1 + z.1 = t * y.1 → x.2 + z.2 = t * y.2 → crP x v + crP z v = t * crP y v := by
      intro t g1 g2
      unfold crP
      rw [show x.1 * v.2 - x.2 * v.1 + (z.1 * v.2 - z.2 * v.1) = (x.1 + z.1) * v.2 - (x.2 + z.2) * v.1 by grind, g1, g2]
      grind
    exact f _ e1 e2
  apply Classical.byContradiction
  intro hc
  have := Int.mul_nonneg (by omega : 0 ≤ 1 - crP x z) (by omega : 0 ≤ crP y v)
  rw [Int.sub_mul] at this
  omega

/-- One turn more. -/
def stepC (s : P2 × P2) (b : Int) : P2 × P2 := (s.2, (b * s.2.1 - s.1.1, b * s.2.2 - s.1.2))
def runC (l : List Int) : P2 × P2 := l.foldl stepC ((1, 0), (0, 1))
def Gro (s : P2 × P2) : Prop := 0 ≤ s.1.2 ∧ s.1.2 < s.2.2 ∧ s.2.1 ≤ s.1.1 ∧ s.2.1 ≤ 0
theorem gro_step {s : P2 × P2} {b : Int} (h : Gro s) (hb : 2 ≤ b) : Gro (stepC s b) ∧ s.2.2 ≤ (stepC s b).2.2 ∧ (stepC s b).2.1 ≤ s.2.1 := by
  obtain ⟨⟨a, c⟩, x, y⟩ := s
  obtain ⟨h1, h2, h3, h4⟩ := h
  simp only at h1 h2 h3 h4
  have m1 := Int.mul_nonneg (by omega : 0 ≤ b - 2) (by omega : 0 ≤ y)
  have m2 := Int.mul_nonneg (by omega : 0 ≤ b - 2) (by omega : 0 ≤ -x)
  rw [Int.sub_mul] at m1
  rw [Int.sub_mul, Int.mul_neg, Int.mul_neg] at m2
  unfold Gro stepC
  simp only
  omega
theorem run_big : ∀ (l : List Int) (s : P2 × P2), Gro s → (∀ x ∈ l, (2 : Int) ≤ x) → ¬ Cn30 s.2 → ¬ Cn30 (l.foldl stepC s).2
  | [], _, _, _, h => h
  | b :: l, s, g, hl, h => by
    obtain ⟨k1, k2, k3⟩ := gro_step g (hl b (List.mem_cons_self ..))
    refine run_big l (stepC s b) k1 (fun x hx => hl x (List.mem_cons_of_mem _ hx)) ?_
    intro hc
    apply h
    obtain ⟨g1, g2, g3, g4⟩ := g
    unfold Cn30 at *
    omega
def pB : Nat → Int
  | 0 => 1
  | n + 1 => 31 * pB n
theorem pB_le : ∀ k, k < 11 → 1 ≤ pB k ∧ pB k ≤ 819628286980801 := by decide
def BdT (n : Int) (s : P2 × P2) : Prop := ((-n ≤ s.1.1 ∧ s.1.1 ≤ n) ∧ -n ≤ s.1.2 ∧ s.1.2 ≤ n) ∧ (-n ≤ s.2.1 ∧ s.2.1 ≤ n) ∧ -n ≤ s.2.2 ∧ s.2.2 ≤ n
theorem mul30 {b x n : Int} (hb : 0 ≤ b ∧ b ≤ 30) (hx : -n ≤ x ∧ x ≤ n) : -(30 * n) ≤ b * x ∧ b * x ≤ 30 * n := by
  have a1 := Int.mul_nonneg (by omega : 0 ≤ 30 - b) (by omega : 0 ≤ n + x)
  have a2 := Int.mul_nonneg (by omega : 0 ≤ 30 - b) (by omega : 0 ≤ n - x)
  have a3 := Int.mul_nonneg hb.1 (by omega : 0 ≤ n + x)
  have a4 := Int.mul_nonneg hb.1 (by omega : 0 ≤ n - x)
  simp only [Int.sub_mul, Int.mul_sub, Int.mul_add] at a1 a2 a3 a4
  omega
theorem bdT_step {n : Int} {s : P2 × P2} {b : Int} (h : BdT n s) (hb : 2 ≤ b ∧ b ≤ 30) : BdT (31 * n) (stepC s b) := by
  obtain ⟨⟨a, c⟩, x, y⟩ := s
  unfold BdT at h
  simp only at h
  obtain ⟨⟨h1, h2⟩, h3, h4⟩ := h
  have m1 := mul30 ⟨by omega, hb.2⟩ h3
  have m2 := mul30 ⟨by omega, hb.2⟩ h4
  unfold BdT stepC
  simp only
  omega
theorem runC_take {l : List Int} {k : Nat} (h : k < l.length) : runC (l.take (k + 1)) = stepC (runC (l.take k)) l[k] := by
  unfold runC
  rw [List.take_succ_eq_append_getElem h, List.foldl_append]; rfl
theorem run_bd {l : List Int} (h : ∀ x ∈ l, (2 : Int) ≤ x ∧ x ≤ 30) : ∀ k, k ≤ l.length → BdT (pB k) (runC (l.take k))
  | 0, _ => by rw [List.take_zero]; unfold BdT runC pB; simp
  | k + 1, hk => by
    rw [runC_take (by omega)]
    exact bdT_step (run_bd h k (by omega)) (h _ (List.getElem_mem _))
theorem run_gro {l : List Int} (h : ∀ x ∈ l, (2 : Int) ≤ x) : ∀ k, k ≤ l.length → Gro (runC (l.take k))
  | 0, _ => by rw [List.take_zero]; unfold Gro runC; simp
  | k + 1, hk => by
    rw [runC_take (by omega)]
    exact (gro_step (run_gro h k (by omega)) (h _ (List.getElem_mem _))).1
/-- What is too great stays so. -/
theorem run_late {l : List Int} (h : ∀ x ∈ l, (2 : Int) ≤ x) {k : Nat} (hk : k ≤ l.length) (hb : ¬ Cn30 (runC (l.take k)).2) : ¬ Cn30 (runC l).2 := by
  have e : runC l = (l.drop k).foldl stepC (runC (l.take k)) := by
    unfold runC
    rw [← List.foldl_append, List.take_append_drop]
  rw [e]
  exact run_big _ _ (run_gro h k hk) (fun x hx => h x (List.mem_of_mem_drop hx)) hb

/-- The vectors that turns lay out. -/
def layC : P2 → P2 → List Int → List P2
  | a, b, [] => [a, b]
  | a, b, t :: r => a :: layC b (t * b.1 - a.1, t * b.2 - a.2) r
theorem lay_head (a b : P2) : ∀ l : List Int, ∃ r, layC a b l = a :: b :: r
  | [] => ⟨[], rfl⟩
  | t :: r => by
    obtain ⟨q, e⟩ := lay_head b (t * b.1 - a.1, t * b.2 - a.2) r
    exact ⟨_, by rw [layC, e]⟩
theorem lay_turns : ∀ (l : List Int) (a b : P2), crP a b = 1 → turnsP (layC a b l) = l
  | [], _, _, _ => rfl
  | t :: r, a, b, h => by
    have h2 : crP b (t * b.1 - a.1, t * b.2 - a.2) = 1 := by rw [← h]; unfold crP; simp only; grind
    have ih := lay_turns r b (t * b.1 - a.1, t * b.2 - a.2) h2
    obtain ⟨q, e⟩ := lay_head b (t * b.1 - a.1, t * b.2 - a.2) r
    rw [layC, e, turnsP, ← e, ih]
    congr 1
    have : crP a (t * b.1 - a.1, t * b.2 - a.2) = t * crP a b := by unfold crP; simp only; grind
    rw [this, h, Int.mul_one]
theorem lay_chain {v : P2} : ∀ (l : List Int) (a b : P2), crP a b = 1 → Gro (a, b) → Cn30 a → (∀ x ∈ l, (2 : Int) ≤ x) → (l.foldl stepC (a, b)).2 = v → Cn30 v → Chain v (layC a b l)
  | [], a, b, h, _, ca, _, e, _ => by
    have e : b = v := e
    subst e
    exact ⟨h, by rw [cr_self, h]; omega, by rw [cr_self]; omega, ca, rfl⟩
  | t :: r, a, b, h, g, ca, hl, e, cv => by
    have ht := hl t (List.mem_cons_self ..)
    have h2 : crP b (t * b.1 - a.1, t * b.2 - a.2) = 1 := by rw [← h]; unfold crP; simp only; grind
    have cb : Cn30 b := Classical.byContradiction fun hc => by
      have := run_big (t :: r) (a, b) g hl hc
      rw [e] at this
      exact this cv
    have ih := lay_chain r b (t * b.1 - a.1, t * b.2 - a.2) h2 (gro_step g ht).1 cb (fun x hx => hl x (List.mem_cons_of_mem _ hx)) e cv
    obtain ⟨q, e2⟩ := lay_head b (t * b.1 - a.1, t * b.2 - a.2) r
    rw [layC]
    rw [e2] at ih ⊢
    obtain ⟨k1, k2, k3, k4, k5⟩ := ih
    have e3 : crP a v = t * crP b v - crP (t * b.1 - a.1, t * b.2 - a.2) v := by unfold crP; simp only; grind
    have := Int.mul_nonneg (by omega : 0 ≤ t - 2) (by omega : 0 ≤ crP b v)
    rw [Int.sub_mul] at this
    exact ⟨h, by omega, by omega, ca, k1, k2, k3, k4, k5⟩

/-- What the functions of this chapter answer. -/
abbrev Cn := List Int × List Int
def rayR (v : List Int) : Bool := decide (v.length = 2) && (small v 30 && decide (allG v = 1))
def coneR (c : Cn) : Bool := rayR c.1 && (rayR c.2 && decide (0 < crP (ptOf c.1) (ptOf c.2)))
def cindexR (c : Cn) : Int := if coneR c = true then crP (ptOf c.1) (ptOf c.2) else 0
def inconeR (c : Cn) (x : List Int) : Bool := coneR c && ((isV x && decide (x.length = 2)) && (decide (0 ≤ crP (ptOf c.1) (ptOf x)) && decide (0 ≤ crP (ptOf x) (ptOf c.2))))
noncomputable def splitR (c : Cn) : List (List Int) := if coneR c = true then (raysL (ptOf c.1) (ptOf c.2)).map rowOf else []
noncomputable def cturnsR (c : Cn) : List Int := if coneR c = true then turnsP (raysL (ptOf c.1) (ptOf c.2)) else []
def okT (l : List Int) : Bool := inR l.length 1 10 && l.all fun x => inR x 2 30
def coneTR (l : List Int) : Cn × Bool := if okT l = true ∧ coneR ([1, 0], rowOf (runC l).2) = true then (([1, 0], rowOf (runC l).2), true) else (([], []), false)
theorem gcd_two (a b : Int) : allG [a, b] = gcdI a b := by
  show gcdI (gcdI 0 a) b = gcdI a b
  unfold gcdI
  simp [Int.gcd]
theorem rayR_t {v : List Int} (h : rayR v = true) : v.length = 2 ∧ small v 30 = true ∧ Cn30 (ptOf v) ∧ PrP (ptOf v) ∧ rowOf (ptOf v) = v := by
  unfold rayR at h
  rw [Bool.and_eq_true, Bool.and_eq_true] at h
  obtain ⟨h1, h2, h3⟩ := h
  have h1 := of_decide_eq_true h1
  have h3 := of_decide_eq_true h3
  match v, h1 with
  | [a, b], _ =>
    refine ⟨rfl, h2, ⟨small_get h2 0 (by simp), small_get h2 1 (by simp)⟩, ?_, rfl⟩
    rw [gcd_two] at h3
    unfold gcdI at h3
    show Int.gcd a b = 1
    omega
theorem rayR_mk (p : P2) (h1 : Cn30 p) (h2 : PrP p) : rayR (rowOf p) = true := by
  have e : small (rowOf p) 30 = true := by
    unfold small rowOf
    simp only [List.all_cons, List.all_nil, Bool.and_true, inR_mk h1.1.1 h1.1.2, inR_mk h1.2.1 h1.2.2]
  have e2 : allG (rowOf p) = 1 := by
    unfold rowOf
    rw [gcd_two]
    unfold gcdI
    unfold PrP at h2
    rw [h2]; rfl
  unfold rayR
  rw [e, e2]; rfl
theorem coneR_t {c : Cn} (h : coneR c = true) : rayR c.1 = true ∧ rayR c.2 = true ∧ 0 < crP (ptOf c.1) (ptOf c.2) ∧ Two (ptOf c.1) (ptOf c.2) := by
  unfold coneR at h
  rw [Bool.and_eq_true, Bool.and_eq_true] at h
  obtain ⟨h1, h2, h3⟩ := h
  have h3 := of_decide_eq_true h3
  have k1 := rayR_t h1
  have k2 := rayR_t h2
  exact ⟨h1, h2, h3, k1.2.2.1, k2.2.2.1, k1.2.2.2.1, k2.2.2.2.1, .inl h3⟩
theorem okT_t {l : List Int} (h : okT l = true) : 1 ≤ l.length ∧ l.length ≤ 10 ∧ ∀ x ∈ l, (2 : Int) ≤ x ∧ x ≤ 30 := by
  unfold okT at h
  rw [Bool.and_eq_true, List.all_eq_true] at h
  have := inR_t h.1
  exact ⟨by omega, by omega, fun x hx => inR_t (h.2 x hx)⟩
theorem run_cr : ∀ (l : List Int) (s : P2 × P2), crP s.1 s.2 = 1 → crP (l.foldl stepC s).1 (l.foldl stepC s).2 = 1
  | [], _, h => h
  | b :: l, s, h => by
    refine run_cr l (stepC s b) ?_
    rw [← h]
    unfold stepC crP
    simp only
    grind
theorem run_prim (l : List Int) : PrP (runC l).2 := prim_of (run_cr l ((1, 0), (0, 1)) (by decide))
theorem one_prim : PrP (1, 0) := by unfold PrP; decide
/-- A cone of turns has just these turns. -/
theorem coneT_turns {l : List Int} (h : okT l = true) (hc : coneR ([1, 0], rowOf (runC l).2) = true) : cturnsR ([1, 0], rowOf (runC l).2) = l := by
  have hl := (okT_t h).2.2
  obtain ⟨-, h2, h3, h4⟩ := coneR_t hc
  have e : ptOf (rowOf (runC l).2) = (runC l).2 := rfl
  rw [e] at h3 h4
  unfold cturnsR
  rw [if_pos hc, e]
  have hch := lay_chain (v := (runC l).2) l (1, 0) (0, 1) (by decide) (by unfold Gro; simp) (by unfold Cn30; simp) (fun x hx => (hl x hx).1) rfl h4.2.1
  obtain ⟨q, e2⟩ := lay_head (1, 0) (0, 1) l
  rw [e2] at hch
  obtain ⟨-, k⟩ := chain_rays h4.2.1 h4.2.2.2.1 _ _ one_prim hch
  show turnsP (raysL (1, 0) (runC l).2) = l
  rw [← k, ← e2]
  exact lay_turns l (1, 0) (0, 1) (by decide)
theorem splitR_len (c : Cn) : (splitR c).length ≤ 1801 := by
  unfold splitR
  split
  · rename_i h; rw [List.length_map]; exact raysL_len (coneR_t h).2.2.2
  · simp
theorem tot_rows (l : List P2) : tot (l.map rowOf) = 2 * l.length := by
  induction l with
  | nil => rfl
  | cons x r ih =>
    have : tot (rowOf x :: r.map rowOf) = 2 + tot (r.map rowOf) := by simp [tot, rowOf]
    rw [List.map_cons, this, ih, List.length_cons]; omega
theorem splitR_tot (c : Cn) : tot (splitR c) ≤ 1048576 := by
  unfold splitR
  split
  · rename_i h; have := raysL_len (coneR_t h).2.2.2; rw [tot_rows]; omega
  · simp [tot]
theorem cturnsR_len (c : Cn) : (cturnsR c).length ≤ 1048576 := by
  unfold cturnsR
  split
  · rename_i h; have := raysL_len (coneR_t h).2.2.2; rw [turnsP_len]; omega
  · simp
theorem coneTR_len (l : List Int) : (coneTR l).1.1.length + (coneTR l).1.2.length ≤ 1048576 := by
  unfold coneTR
  split
  · simp [rowOf]
  · simp
end Go.Proofs.Ytjijgagdaolkcaa
/- Plain facts on matrices. -/
namespace Go.Proofs.Ytjijgagdaolkcaa

def rowOk (n : Nat) (r : List Int) : Bool := decide (r.length = n) && small r 100
def isM (m : List (List Int)) : Bool := m.all (rowOk m.length) && inR m.length 1 3
theorem rowOk_t {n : Nat} {r : List Int} (h : rowOk n r = true) : r.length = n ∧ small r 100 = true := by
  unfold rowOk at h
  rw [Bool.and_eq_true, decide_eq_true_eq] at h
  exact h
theorem rows_take {n : Nat} {m : List (List Int)} {k : Nat} (h : k < m.length) (h1 : (m.take k).all (rowOk n) = true) (h2 : rowOk n m[k] = true) : (m.take (k + 1)).all (rowOk n) = true := by
  rw [List.take_succ_eq_append_getElem h, List.all_append, h1, List.all_cons, h2]; rfl
theorem rows_not {n : Nat} {m : List (List Int)} {k : Nat} (h : k < m.length) (h2 : rowOk n m[k] = false) : m.all (rowOk n) = false := by
  rw [List.all_eq_false]
  exact ⟨m[k], List.getElem_mem h, by simp [h2]⟩
theorem isM_t {m : List (List Int)} (h : isM m = true) : 1 ≤ m.length ∧ m.length ≤ 3 ∧ ∀ (i : Nat) (hi : i < m.length), m[i].length = m.length ∧ Bd m[i] 100 := by
  unfold isM at h
  rw [Bool.and_eq_true, List.all_eq_true] at h
  have h2 := inR_t h.2
  exact ⟨by omega, by omega, fun i hi => by
    have h3 := rowOk_t (h.1 _ (List.getElem_mem hi))
    exact ⟨h3.1, small_bd h3.2⟩⟩
/-- n rows of n numbers from -b to b. -/
def Sq (n : Nat) (b : Int) (m : List (List Int)) : Prop := m.length = n ∧ ∀ (i : Nat) (hi : i < m.length), m[i].length = n ∧ Bd m[i] b
theorem isM_sq {m : List (List Int)} (h : isM m = true) : Sq m.length 100 m := ⟨rfl, (isM_t h).2.2⟩
/-- The determinant. -/
def detL : List (List Int) → Int
  | [[a]] => a
  | [[a, b], [c, d]] => a * d - b * c
  | [[a, b, c], [d, e, f], [g, h, i]] => a * (e * i - f * h) + b * (f * g - d * i) + c * (d * h - e * g)
  | _ => 0
def detR (m : List (List Int)) : Int := if isM m = true then detL m else 0
theorem list1 {α : Type} {l : List α} (h : l.length = 1) : ∃ a, l = [a] := by
  match l, h with
  | [a], _ => exact ⟨a, rfl⟩
theorem list2 {α : Type} {l : List α} (h : l.length = 2) : ∃ a b, l = [a, b] := by
  match l, h with
  | [a, b], _ => exact ⟨a, b, rfl⟩
theorem list3 {α : Type} {l : List α} (h : l.length = 3) : ∃ a b c, l = [a, b, c] := by
  match l, h with
  | [a, b, c], _ => exact ⟨a, b, c, rfl⟩
theorem sq1 {b : Int} {m : List (List Int)} (h : Sq 1 b m) : ∃ x, m = [[x]] ∧ -b ≤ x ∧ x ≤ b := by
  obtain ⟨h1, h2⟩ := h
  obtain ⟨r, rfl⟩ := list1 h1
  obtain ⟨h3, h4⟩ := h2 0 (by simp)
  simp only [List.getElem_cons_zero] at h3 h4
  obtain ⟨x, rfl⟩ := list1 h3
  have := h4 0 (by simp)
  exact ⟨x, rfl, by simpa using this.1, by simpa using this.2⟩
theorem sq2 {b : Int} {m : List (List Int)} (h : Sq 2 b m) : ∃ x y z u, m = [[x, y], [z, u]] ∧ (-b ≤ x ∧ x ≤ b) ∧ (-b ≤ y ∧ y ≤ b) ∧ (-b ≤ z ∧ z ≤ b) ∧ (-b ≤ u ∧ u ≤ b) := by
  obtain ⟨h1, h2⟩ := h
  obtain ⟨r, s, rfl⟩ := list2 h1
  obtain ⟨h3, h4⟩ := h2 0 (by simp)
  obtain ⟨h5, h6⟩ := h2 1 (by simp)
  simp only [List.getElem_cons_zero, List.getElem_cons_succ] at h3 h4 h5 h6
  obtain ⟨x, y, rfl⟩ := list2 h3
  obtain ⟨z, u, rfl⟩ := list2 h5
  have a0 := h4 0 (by simp)
  have a1 := h4 1 (by simp)
  have b0 := h6 0 (by simp)
  have b1 := h6 1 (by simp)
  simp only [List.getElem_cons_zero, List.getElem_cons_succ] at a0 a1 b0 b1
  exact ⟨x, y, z, u, rfl, a0, a1, b0, b1⟩
theorem sq3 {b : Int} {m : List (List Int)} (h : Sq 3 b m) : ∃ x y z x' y' z' x'' y'' z'', m = [[x, y, z], [x', y', z'], [x'', y'', z'']] ∧ (-b ≤ x ∧ x ≤ b) ∧ (-b ≤ y ∧ y ≤ b) ∧ (-b ≤ z ∧ z ≤ b) ∧
    (-b ≤ x' ∧ x' ≤ b) ∧ (-b ≤ y' ∧ y' ≤ b) ∧ (-b ≤ z' ∧ z' ≤ b) ∧ (-b ≤ x'' ∧ x'' ≤ b) ∧ (-b ≤ y'' ∧ y'' ≤ b) ∧ (-b ≤ z'' ∧ z'' ≤ b) := by
  obtain ⟨h1, h2⟩ := h
  obtain ⟨r, s, t, rfl⟩ := list3 h1
  obtain ⟨h3, h4⟩ := h2 0 (by simp)
  obtain ⟨h5, h6⟩ := h2 1 (by simp)
  obtain ⟨h7, h8⟩ := h2 2 (by simp)
  simp only [List.getElem_cons_zero, List.getElem_cons_succ] at h3 h4 h5 h6 h7 h8
  obtain ⟨x, y, z, rfl⟩ := list3 h3
  obtain ⟨x', y', z', rfl⟩ := list3 h5
  obtain ⟨x'', y'', z'', rfl⟩ := list3 h7
  have a0 := h4 0 (by simp)
  have a1 := h4 1 (by simp)
  have a2 := h4 2 (by simp)
  have b0 := h6 0 (by simp)
  have b1 := h6 1 (by simp)
  have b2 := h6 2 (by simp)
  have c0 := h8 0 (by simp)
  have c1 := h8 1 (by simp)
  have c2 := h8 2 (by simp)
  simp only [List.getElem_cons_zero, List.getElem_cons_succ] at a0 a1 a2 b0 b1 b2 c0 c1 c2
  exact ⟨x, y, z, x', y', z', x'', y'', z'', rfl, a0, a1, a2, b0, b1, b2, c0, c1, c2⟩

def uniR (m : List (List Int)) : Bool := decide ((detR m).natAbs = 1)
def applyL (m : List (List Int)) (v : List Int) : List Int := m.map fun r => dotL r v
def applyR (m : List (List Int)) (v : List Int) : List Int × Bool := if isM m = true ∧ isV v = true ∧ v.length = m.length ∧ isV (applyL m v) = true then (applyL m v, true) else ([], false)
theorem applyL_take {m : List (List Int)} {v : List Int} {k : Nat} (h : k < m.length) : applyL (m.take (k + 1)) v = applyL (m.take k) v ++ [dotL m[k] v] := by
  unfold applyL
  rw [List.take_succ_eq_append_getElem h, List.map_append]; rfl
theorem applyR_len (m : List (List Int)) (v : List Int) : (applyR m v).1.length ≤ 3 := by
  unfold applyR
  split
  · rename_i h; exact (isV_t h.2.2.2).2.1
  · simp
theorem sum3_bd {x y z : Int} (hx : -2000000000000000 ≤ x ∧ x ≤ 2000000000000000) (hy : -2000000000000000 ≤ y ∧ y ≤ 2000000000000000) (hz : -2000000000000000 ≤ z ∧ z ≤ 2000000000000000) : -6000000000000000 ≤ x + y + z ∧ x + y + z ≤ 6000000000000000 := by omega
theorem det_bd {n : Nat} {m : List (List Int)} (h1 : 1 ≤ n) (h3 : n ≤ 3) (h : Sq n 100000 m) : -6000000000000000 ≤ detL m ∧ detL m ≤ 6000000000000000 := by
  by_cases e1 : n = 1
  · subst e1; obtain ⟨x, rfl, h1, h2⟩ := sq1 h; simp only [detL]; omega
  · by_cases e2 : n = 2
    · subst e2
      obtain ⟨x, y, z, u, rfl, hx, hy, hz, hu⟩ := sq2 h
      have p1 := mul_bd hx.1 hx.2 hu.1 hu.2
      have p2 := mul_bd hy.1 hy.2 hz.1 hz.2
      simp only [detL]; omega
    · obtain rfl : n = 3 := by omega
      obtain ⟨x0, x1, x2, y0, y1, y2, z0, z1, z2, rfl, a0, a1, a2, b0, b1, b2, c0, c1, c2⟩ := sq3 h
      have key : ∀ (p q r s t : Int), (-100000 ≤ p ∧ p ≤ 100000) → (-100000 ≤ q ∧ q ≤ 100000) → (-100000 ≤ r ∧ r ≤ 100000) → (-100000 ≤ s ∧ s ≤ 100000) → (-100000 ≤ t ∧ t ≤ 100000) → -2000000000000000 ≤ p * (q * r - s * t) ∧ p * (q * r - s * t) ≤ 2000000000000000 := by
        intro p q r s t hp hq hr hs ht
        have e1 := mul_bd hq.1 hq.2 hr.1 hr.2
        have e2 := mul_bd hs.1 hs.2 ht.1 ht.2
        have e3 := mul_bd (y := q * r - s * t) (n := 20000000000) hp.1 hp.2 (by omega) (by omega)
        omega
      exact sum3_bd (key _ _ _ _ _ a0 b1 c2 b2 c1) (key _ _ _ _ _ a1 b2 c0 b0 c2) (key _ _ _ _ _ a2 b0 c1 b1 c0)
theorem Sq.mono {n : Nat} {b c : Int} {m : List (List Int)} (h : Sq n b m) (hbc : b ≤ c) : Sq n c m :=
  ⟨h.1, fun i hi => ⟨(h.2 i hi).1, fun k hk => by have := (h.2 i hi).2 k hk; omega⟩⟩

/-- Column c. -/
def colL (m : List (List Int)) (c : Nat) : List Int := m.map fun r => r.getD c 0
def turnL (m : List (List Int)) : List (List Int) := (List.range m.length).map (colL m)
def timesL (a b : List (List Int)) : List (List Int) := a.map fun r => applyL (turnL b) r
def timesR (a b : List (List Int)) : List (List Int) × Bool := if isM a = true ∧ isM b = true ∧ a.length = b.length ∧ isM (timesL a b) = true then (timesL a b, true) else ([], false)
theorem colL_take {m : List (List Int)} {c k : Nat} (h : k < m.length) (hc : c < m[k].length) : colL (m.take (k + 1)) c = colL (m.take k) c ++ [m[k][c]] := by
  unfold colL
  rw [List.take_succ_eq_append_getElem h, List.map_append]
  simp [List.getD_eq_getElem?_getD, hc]
theorem turnL_take (m : List (List Int)) {k : Nat} (h : k < m.length) : (turnL m).take (k + 1) = (turnL m).take k ++ [colL m k] := by
  have hl : k < (turnL m).length := by simp [turnL, h]
  rw [List.take_succ_eq_append_getElem hl]
  simp [turnL]
theorem turnL_len (m : List (List Int)) : (turnL m).length = m.length := by simp [turnL]
theorem timesL_take {a b : List (List Int)} {k : Nat} (h : k < a.length) : timesL (a.take (k + 1)) b = timesL (a.take k) b ++ [applyL (turnL b) a[k]] := by
  unfold timesL
  rw [List.take_succ_eq_append_getElem h, List.map_append]; rfl
theorem turnL_sq {n : Nat} {b : Int} {m : List (List Int)} (hb : 0 ≤ b) (h : Sq n b m) : Sq n b (turnL m) := by
  refine ⟨by rw [turnL_len, h.1], fun i hi => ?_⟩
  have hi' : i < m.length := by simpa [turnL] using hi
  have e : (turnL m)[i] = colL m i := by simp [turnL]
  rw [e]
  refine ⟨by simp [colL, h.1], fun k hk => ?_⟩
  have hk' : k < m.length := by simpa [colL] using hk
  have h2 := h.2 k hk'
  have e2 : (colL m i)[k] = m[k].getD i 0 := by simp [colL]
  rw [e2]
  have h3 : i < m[k].length := by have := h.1; omega
  have h4 := h2.2 i h3
  simp only [List.getD_eq_getElem?_getD, List.getElem?_eq_getElem h3, Option.getD_some]
  exact h4
theorem timesR_len (a b : List (List Int)) : tot (timesR a b).1 ≤ 9 := by
  unfold timesR
  split
  · rename_i h
    have hs := isM_sq h.2.2.2
    have ht := isM_t h.2.2.2
    have key : ∀ (l : List (List Int)) (n : Nat), (∀ r ∈ l, r.length = n) → tot l = l.length * n := by
      intro l n
      induction l with
      | nil => intro _; simp [tot]
      | cons r rs ih =>
        intro hh
        have := ih (fun x hx => hh x (by simp [hx]))
        simp only [tot, List.map_cons, List.sum_cons, List.length_cons] at this ⊢
        rw [this, hh r (by simp), Nat.succ_mul]; omega
    have hr : ∀ r ∈ timesL a b, r.length = (timesL a b).length := fun r hr => by
      obtain ⟨i, hi, rfl⟩ := List.getElem_of_mem hr
      exact (ht.2.2 i hi).1
    rw [key _ _ hr]
    exact Nat.mul_le_mul ht.2.1 ht.2.1
  · simp [tot]
end Go.Proofs.Ytjijgagdaolkcaa
/- Plain facts on the program's search for the next vector: the first sum of v and multiples of u that the determinant divides. -/
namespace Go.Proofs.Ytjijgagdaolkcaa
open Go Go.RowKit Go.Lib

theorem seek_hit {u v : P2} (hT : Two u v) (hd : 0 < crP u v) : (v.1 + crP (nxP u v) v * u.1).tmod (crP u v) = 0 ∧ (v.2 + crP (nxP u v) v * u.2).tmod (crP u v) = 0 := by
  obtain ⟨h, -⟩ := hT.next hd
  obtain ⟨e1, e2⟩ := nx_mulw h
  rw [← e1, ← e2]
  exact ⟨Int.mul_tmod_right _ _, Int.mul_tmod_right _ _⟩
theorem seek_end {u v : P2} {k d : Int} (ed : crP u v = d) (hd : 0 < d) (h0 : 0 ≤ k) (hk : k < d) (hx : (v.1 + k * u.1).tmod d = 0) (hy : (v.2 + k * u.2).tmod d = 0) : nxP u v = ((v.1 + k * u.1).tdiv d, (v.2 + k * u.2).tdiv d) := by
  have e1 := Int.tmod_add_mul_tdiv (v.1 + k * u.1) d
  have e2 := Int.tmod_add_mul_tdiv (v.2 + k * u.2) d
  rw [hx] at e1
  rw [hy] at e2
  generalize (v.1 + k * u.1).tdiv d = q1 at *
  generalize (v.2 + k * u.2).tdiv d = q2 at *
  have f1 : d * q1 = v.1 + k * u.1 := by omega
  have f2 : d * q2 = v.2 + k * u.2 := by omega
  have hne : d ≠ 0 := by omega
  have g1 : crP u (q1, q2) = 1 := by
    refine Int.eq_of_mul_eq_mul_left hne ?_
    rw [Int.mul_one]
    show d * (u.1 * q2 - u.2 * q1) = d
    rw [Int.mul_sub, Int.mul_left_comm, Int.mul_left_comm d u.2, f1, f2]
    unfold crP at ed
    grind
  have g2 : crP (q1, q2) v = k := by
    refine Int.eq_of_mul_eq_mul_left hne ?_
    show d * (q1 * v.2 - q2 * v.1) = d * k
    rw [Int.mul_sub, ← Int.mul_assoc, ← Int.mul_assoc, f1, f2]
    unfold crP at ed
    grind
  exact nxP_eq ⟨g1, by rw [g2]; exact h0, by rw [g2, ed]; exact hk⟩
theorem seek_bd {v a k : Int} (hv : -30 ≤ v ∧ v ≤ 30) (ha : -30 ≤ a ∧ a ≤ 30) (h0 : 0 ≤ k) (hk : k ≤ 1800) : -60000 ≤ v + k * a ∧ v + k * a ≤ 60000 := by
  have := mul_le30 ha ⟨h0, hk⟩
  rw [Int.mul_comm a k] at this
  omega
/-- How far the search has come, told by the sum alone. -/
theorem seek_cr (u v : P2) (k : Int) : crP (v.1 + k * u.1, v.2 + k * u.2) v = k * crP u v := by unfold crP; simp only; grind
theorem seek_step (v a k : Int) : v + k * a + 1 * a = v + (k + 1) * a := by rw [Int.add_mul]; omega
end Go.Proofs.Ytjijgagdaolkcaa
/- Plain facts on vertices: choices of halves, where they meet, the points in order. -/
namespace Go.Proofs.Ytjijgagdaolkcaa

/-- All choices of so many elements, each in their order. -/
def chooseL {α : Type} : Nat → List α → List (List α)
  | 0, _ => [[]]
  | _ + 1, [] => []
  | n + 1, x :: l => (chooseL n l).map (fun r => x :: r) ++ chooseL (n + 1) l
theorem choose_drop {α : Type} {n : Nat} {l : List α} {k : Nat} (h : k < l.length) : chooseL (n + 1) (l.drop k) = (chooseL n (l.drop (k + 1))).map (fun r => l[k] :: r) ++ chooseL (n + 1) (l.drop (k + 1)) := by
  rw [List.drop_eq_getElem_cons h, chooseL]
theorem choose_end {α : Type} {n : Nat} {l : List α} : chooseL (n + 1) (l.drop l.length) = [] := by rw [List.drop_length, chooseL]
theorem choose_sub {α : Type} : ∀ (n : Nat) (l : List α) (c : List α), c ∈ chooseL n l → c.length = n ∧ ∀ x ∈ c, x ∈ l
  | 0, l, c, h => by
    simp only [chooseL, List.mem_singleton] at h
    subst h
    exact ⟨rfl, fun x hx => by cases hx⟩
  | n + 1, [], c, h => by simp [chooseL] at h
  | n + 1, x :: l, c, h => by
    rw [chooseL, List.mem_append] at h
    rcases h with h | h
    · obtain ⟨r, hr, rfl⟩ := List.mem_map.1 h
      obtain ⟨h1, h2⟩ := choose_sub n l r hr
      refine ⟨by simp [h1], fun y hy => ?_⟩
      rcases List.mem_cons.1 hy with e | hy
      · rw [e]; exact List.mem_cons_self ..
      · exact List.mem_cons_of_mem _ (h2 y hy)
    · obtain ⟨h1, h2⟩ := choose_sub (n + 1) l c h
      exact ⟨h1, fun y hy => List.mem_cons_of_mem _ (h2 y hy)⟩
theorem choose_len {α : Type} : ∀ (n : Nat) (l : List α), (chooseL n l).length ≤ 2 ^ l.length
  | 0, l => by
    simp only [chooseL, List.length_singleton]
    exact Nat.one_le_two_pow
  | n + 1, [] => by simp [chooseL]
  | n + 1, x :: l => by
    have h1 := choose_len n l
    have h2 := choose_len (n + 1) l
    simp only [chooseL, List.length_append, List.length_map, List.length_cons, Nat.pow_succ]
    omega

/-- The normals; the normals with the bounds in column c. -/
def normL (ch : List Hf) : List (List Int) := ch.map (·.1)
def colM (ch : List Hf) (c : Nat) : List (List Int) := ch.map fun h => h.1.set c h.2
def denQ (ch : List Hf) : Int := detL (normL ch)
def numQ (ch : List Hf) : List Int := (List.range ch.length).map fun c => detL (colM ch c)
def turnQ (num : List Int) (d : Int) : List Int := if d < 0 then scaleL num (-1) else num
def redQ (num : List Int) (d : Int) : Hf := ((turnQ num d).map (fun x => x.tdiv (gcdI (allG (turnQ num d)) (d.natAbs : Int))), (d.natAbs : Int).tdiv (gcdI (allG (turnQ num d)) (d.natAbs : Int)))
def solveQ (ch : List Hf) : Hf × Bool := if denQ ch = 0 then (([], 0), false) else (redQ (numQ ch) (denQ ch), true)
def keepQ (n : Int) (hs : List Hf) (r : Hf × Bool) : Option Hf := if r.2 = true ∧ hasQ n hs r.1 = true then some r.1 else none
def ptsQ (n : Int) (hs : List Hf) (chs : List (List Hf)) : List Hf := chs.filterMap fun ch => keepQ n hs (solveQ ch)
def vertQ (n : Int) (hs : List Hf) : List Hf := if regOk n hs = true then (ptsQ n hs (chooseL n.toNat hs)).foldl putQ [] else []

theorem gcdI_comm (a b : Int) : gcdI a b = gcdI b a := by unfold gcdI; rw [Int.gcd_comm]
theorem gcdI_assoc (a b c : Int) : gcdI (gcdI a b) c = gcdI a (gcdI b c) := by
  unfold gcdI
  congr 1
  show Nat.gcd (Nat.gcd a.natAbs b.natAbs) c.natAbs = Nat.gcd a.natAbs (Nat.gcd b.natAbs c.natAbs)
  exact Nat.gcd_assoc _ _ _
theorem fold_gcd : ∀ (l : List Int) (a b : Int), l.foldl gcdI (gcdI a b) = gcdI (l.foldl gcdI a) b
  | [], _, _ => rfl
  | x :: l, a, b => by
    rw [List.foldl_cons, List.foldl_cons, ← fold_gcd l, gcdI_assoc, gcdI_comm b x, ← gcdI_assoc]
theorem fold_from {l : List Int} {d : Int} (h : l ≠ []) : l.foldl gcdI d = gcdI (allG l) d := by
  match l, h with
  | x :: l, _ =>
    unfold allG
    rw [List.foldl_cons, List.foldl_cons, ← fold_gcd]
    congr 1
    rw [gcdI_assoc, gcdI_comm x d, gcdI_comm]
    unfold gcdI
    simp [Int.gcd]
theorem allG_neg (l : List Int) : allG (scaleL l (-1)) = allG l := by
  have key : ∀ (l : List Int) (g : Int), (scaleL l (-1)).foldl gcdI g = l.foldl gcdI g := by
    intro l
    induction l with
    | nil => intro g; rfl
    | cons x l ih =>
      intro g
      show ((x * -1) :: scaleL l (-1)).foldl gcdI g = _
      rw [List.foldl_cons, List.foldl_cons, ih]
      congr 1
      unfold gcdI
      rw [Int.mul_neg_one, Int.gcd_neg]
  exact key l 0
theorem allG_turn (num : List Int) (d : Int) : allG (turnQ num d) = allG num := by
  unfold turnQ
  split
  · exact allG_neg num
  · rfl
theorem gcdI_abs2 (a d : Int) : gcdI a (d.natAbs : Int) = gcdI a d := by unfold gcdI; simp [Int.gcd]
/-- As the program reduces: by one divisor that bears the sign. -/
theorem red_prog {num : List Int} {d g : Int} (h : num ≠ []) (hg : num.foldl gcdI d = g) : redQ num d = (num.map (fun x => x.tdiv (if d < 0 then -g else g)), d.tdiv (if d < 0 then -g else g)) := by
  have e : gcdI (allG (turnQ num d)) (d.natAbs : Int) = g := by rw [allG_turn, gcdI_abs2, ← fold_from h, hg]
  unfold redQ
  rw [e]
  unfold turnQ
  by_cases hd : d < 0
  · rw [if_pos hd, if_pos hd]
    refine Prod.ext ?_ ?_
    · simp only [scaleL, List.map_map]
      refine List.map_congr_left fun x _ => ?_
      simp only [Function.comp_apply]
      rw [Int.mul_neg_one, Int.neg_tdiv, Int.tdiv_neg]
    · simp only
      rw [show ((d.natAbs : Nat) : Int) = -d by omega, Int.neg_tdiv, Int.tdiv_neg]
  · rw [if_neg hd, if_neg hd]
    refine Prod.ext rfl ?_
    simp only
    rw [show ((d.natAbs : Nat) : Int) = d by omega]
theorem gcdI_ldvd (a b : Int) : gcdI a b ∣ a := Int.gcd_dvd_left ..
theorem gcdI_rdvd (a b : Int) : gcdI a b ∣ b := Int.gcd_dvd_right ..
theorem fold_ldvd : ∀ (l : List Int) (g : Int), l.foldl gcdI g ∣ g ∧ ∀ x ∈ l, l.foldl gcdI g ∣ x
  | [], g => ⟨Int.dvd_refl _, fun x h => by cases h⟩
  | x :: l, g => by
    obtain ⟨h1, h2⟩ := fold_ldvd l (gcdI g x)
    rw [List.foldl_cons]
    refine ⟨Int.dvd_trans h1 (gcdI_ldvd g x), fun y hy => ?_⟩
    rcases List.mem_cons.1 hy with e | hy
    · rw [e]; exact Int.dvd_trans h1 (gcdI_rdvd g x)
    · exact h2 y hy
theorem red_red {num : List Int} {d : Int} (hd : d ≠ 0) : RedQ (redQ num d) ∧ 0 < (redQ num d).2 := by
  obtain ⟨v, hv⟩ : ∃ v, turnQ num d = v := ⟨_, rfl⟩
  obtain ⟨e, he⟩ : ∃ e : Int, (d.natAbs : Int) = e := ⟨_, rfl⟩
  obtain ⟨g, hg⟩ : ∃ g, gcdI (allG v) e = g := ⟨_, rfl⟩
  have e0 : 0 < e := by omega
  have hr : redQ num d = (v.map (fun x => x.tdiv g), e.tdiv g) := by unfold redQ; rw [hv, he, hg]
  have gd : g ∣ e := by rw [← hg]; exact gcdI_rdvd _ _
  have gx : ∀ x ∈ v, g ∣ x := fun x hx => Int.dvd_trans (by rw [← hg]; exact gcdI_ldvd _ _) ((fold_ldvd v 0).2 x hx)
  have g0 : 0 < g := by
    have h1 := gcdI_nonneg (allG v) e
    have h2 : g ≠ 0 := fun h => by rw [h] at gd; have := Int.zero_dvd.1 gd; omega
    omega
  rw [hr]
  unfold RedQ
  simp only
  obtain ⟨q, hq⟩ : ∃ q, gcdI (allG (v.map (fun x => x.tdiv g))) (e.tdiv g) = q := ⟨_, rfl⟩
  have q0 : 0 ≤ q := by rw [← hq]; exact gcdI_nonneg _ _
  have he2 : e.tdiv g * g = e := Int.tdiv_mul_cancel gd
  have hpos : 0 < e.tdiv g := by
    by_cases h : e.tdiv g ≤ 0
    · have := Int.mul_nonneg (show 0 ≤ -(e.tdiv g) by omega) (Int.le_of_lt g0)
      rw [Int.neg_mul] at this
      omega
    · omega
  refine ⟨?_, hpos⟩
  rw [hq]
  have qe : q * g ∣ 1 * e := by
    rw [Int.one_mul]
    have : q ∣ e.tdiv g := by rw [← hq]; exact gcdI_rdvd _ _
    have h2 := Int.mul_dvd_mul_right g this
    rwa [he2] at h2
  have qx : ∀ x ∈ v, q * g ∣ x * 1 := fun x hx => by
    rw [Int.mul_one]
    have h1 : q ∣ x.tdiv g := Int.dvd_trans (by rw [← hq]; exact gcdI_ldvd _ _) ((fold_ldvd (v.map (fun x => x.tdiv g)) 0).2 _ (List.mem_map.2 ⟨x, hx, rfl⟩))
    have h2 := Int.mul_dvd_mul_right g h1
    rwa [Int.tdiv_mul_cancel (gx x hx)] at h2
  have hall := gcdI_dvd (fold_dvd v 0 (by rw [Int.zero_mul]; exact Int.dvd_zero _) qx) (show q * g ∣ e * 1 by rw [Int.mul_one]; rwa [Int.one_mul] at qe)
  rw [show v.foldl gcdI 0 = allG v from rfl, hg, Int.mul_one] at hall
  have h1 : q ∣ 1 := Int.dvd_of_mul_dvd_mul_right (by omega) (show q * g ∣ 1 * g by rw [Int.one_mul]; exact hall)
  have h2 := Int.le_of_dvd (by omega) h1
  by_cases hz : q = 0
  · rw [hz] at h1; simp at h1
  · omega
theorem keep_good {n : Int} {hs : List Hf} {ch : List Hf} {p : Hf} (h : keepQ n hs (solveQ ch) = some p) : Good n.toNat p := by
  unfold keepQ at h
  split at h
  · rename_i hc
    obtain rfl := Option.some.inj h
    unfold solveQ at hc ⊢
    split
    · rename_i hd
      rw [if_pos hd] at hc
      exact absurd hc.1 (by simp)
    · rename_i hd
      rw [if_neg hd] at hc
      have ha : askQ n hs (redQ (numQ ch) (denQ ch)) = true := by
        have := hc.2
        unfold hasQ at this
        rw [Bool.and_eq_true] at this
        exact this.1
      obtain ⟨_, h2, h3⟩ := askQ_t ha
      exact ⟨h2, by simp only at h3 ⊢; omega, (red_red hd).1⟩
  · cases h
theorem pts_good {n : Int} {hs : List Hf} {chs : List (List Hf)} : ∀ q ∈ ptsQ n hs chs, Good n.toNat q := by
  intro q hq
  obtain ⟨ch, _, h⟩ := List.mem_filterMap.1 hq
  exact keep_good h
theorem pts_len (n : Int) (hs : List Hf) (chs : List (List Hf)) : (ptsQ n hs chs).length ≤ chs.length := List.length_filterMap_le ..
theorem pts_snoc {n : Int} {hs : List Hf} {chs : List (List Hf)} {k : Nat} (h : k < chs.length) : ptsQ n hs (chs.take (k + 1)) = ptsQ n hs (chs.take k) ++ (keepQ n hs (solveQ chs[k])).toList := by
  unfold ptsQ
  rw [List.take_succ_eq_append_getElem h, List.filterMap_append]
  congr 1
end Go.Proofs.Ytjijgagdaolkcaa
