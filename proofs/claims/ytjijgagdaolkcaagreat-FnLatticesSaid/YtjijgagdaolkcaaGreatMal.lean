/- append(out, row) where out is a slice of slices that the call made. -/
import Derived.Test.YtjijgagdaolkcaaGreatRowTo
import Derived.Test.YtjijgagdaolkcaaGreatMah
import Derived.Test.YtjijgagdaolkcaaGreatMab
namespace Go.Proofs.YtjijgagdaolkcaaGreat
open Go.RowKit Go.Lib

theorem OwnV.grown {e : TypeId} {lo hi : Nat} {w w' : World} {r : Option Nat} {v : Value} {xs : List Value} (h : OwnV e lo hi w v xs) (hg : w.grownBy w' r) (hne : ∀ b, v.ownBlock = some b → some b ≠ r) : OwnV e lo hi w' v xs := by
  rcases h with h | ⟨b, cap, cur, rfl, h1, h2, hb, hr⟩
  · exact .inl h
  · exact .inr ⟨b, cap, cur, rfl, h1, h2, by rw [hg.block b (lt_of_heap hb) (hne b rfl)]; exact hb, hr⟩
theorem owr_empty {T e : TypeId} {w : World} {base : Nat} (hb : base ≤ w.heap.size) : OwR T e base (w.alloc (.cells #[] T)).heap.size (w.alloc (.cells #[] T)) (.slice (some ⟨w.heap.size, 0, none⟩) 0 0) [] :=
  ⟨[], rfl, OwnV.of_owns (owns_none hb), fun i u zs hu => by simp at hu, fun i j u u' b _ hu => by simp at hu, fun i u b hu => by simp at hu⟩
theorem own_one {e : TypeId} {lo hi : Nat} {w : World} {v : Value} {xs : List Value} (h : OwnV e lo hi w v xs) : v.oneCell' = true := by
  rcases h with ⟨_, rfl⟩ | ⟨b, cap, cur, rfl, _⟩ <;> rfl
/-- A row is put behind the others. -/
theorem OwR.snoc {T e : TypeId} {base m : Nat} {w w' : World} {v v' u : Value} {zss : List (List Int)} {ys : List Int} (_hown : OwR T e base m w v zss) (hu : OwnV e m w.heap.size w u (intVals ys)) (hbm : base ≤ m) (hm : m ≤ w.heap.size)
    {vs : List Value} (hvs : vs.length = zss.length ∧ OwnV T base m w v vs ∧ (∀ (i : Nat) u zs, vs[i]? = some u → zss[i]? = some zs → OwnV e base m w u (intVals zs)) ∧
    (∀ (i j : Nat) u u' b, i ≠ j → vs[i]? = some u → vs[j]? = some u' → u.ownBlock = some b → u'.ownBlock ≠ some b) ∧ (∀ (i : Nat) u b, vs[i]? = some u → u.ownBlock = some b → v.ownBlock ≠ some b))
    (hr : w'.ownsRow base T 1 v' (vs.length + 1) (vs ++ [u])) (hg : w.grownBy w' v.ownBlock) (hat : ∀ b, v'.ownBlock = some b → v.ownBlock = some b ∨ w.heap.size ≤ b) : OwR T e base w'.heap.size w' v' (zss ++ [ys]) := by
  obtain ⟨h1, h2, h3, h4, h5⟩ := hvs
  have get : ∀ (i : Nat) x, (vs ++ [u])[i]? = some x → (vs[i]? = some x ∧ i < vs.length) ∨ (i = vs.length ∧ x = u) := by
    intro i x hx
    by_cases hi : i < vs.length
    · rw [List.getElem?_append_left hi] at hx; exact .inl ⟨hx, hi⟩
    · rw [List.getElem?_append_right (by omega)] at hx
      have : i - vs.length < 1 := by have := lt_of_get hx; simpa using this
      have hz : i - vs.length = 0 := by omega
      rw [hz] at hx
      exact .inr ⟨by omega, by simpa using hx.symm⟩
  have place : ∀ (i : Nat) x b, vs[i]? = some x → x.ownBlock = some b → b < m := fun i x b hx hb => by
    have hi := lt_of_get hx
    exact ((h3 i x _ hx (List.getElem?_eq_getElem (by omega))).place hb).2.1
  have huv : ∀ b, u.ownBlock = some b → some b ≠ v.ownBlock := fun b hb e => by
    have p1 := (hu.place hb).1
    have p2 := (h2.place e.symm).2.1
    omega
  refine ⟨vs ++ [u], by rw [List.length_append, List.length_append, h1]; rfl, OwnV.of_owns hr, ?_, ?_, ?_⟩
  · intro i x zs hx hz
    rcases get i x hx with ⟨hx', hi⟩ | ⟨rfl, rfl⟩
    · rw [List.getElem?_append_left (by omega)] at hz
      exact ((h3 i x zs hx' hz).grown hg (fun b hb e => h5 i x b hx' hb e.symm)).mono (Nat.le_refl _) (Nat.le_trans hm hg.size)
    · rw [h1, List.getElem?_append_right (Nat.le_refl _), Nat.sub_self] at hz
      obtain rfl : ys = zs := by simpa using hz
      exact (hu.grown hg huv).mono hbm hg.size
  · intro i j x y b hij hx hy hxb
    rcases get i x hx with ⟨hx', _⟩ | ⟨rfl, rfl⟩
    · rcases get j y hy with ⟨hy', _⟩ | ⟨rfl, rfl⟩
      · exact h4 i j x y b hij hx' hy' hxb
      · intro hyb
        have p1 := (hu.place hyb).1
        have p2 := place i x b hx' hxb
        omega
    · rcases get j y hy with ⟨hy', _⟩ | ⟨rfl, rfl⟩
      · intro hyb
        have p1 := (hu.place hxb).1
        have p2 := place j y b hy' hyb
        omega
      · exact absurd rfl hij
  · intro i x b hx hxb hvb
    rcases get i x hx with ⟨hx', _⟩ | ⟨rfl, rfl⟩
    · rcases hat b hvb with h | h
      · exact h5 i x b hx' hxb h
      · have := place i x b hx' hxb; omega
    · rcases hat b hvb with h | h
      · exact huv b hxb h.symm
      · have := (hu.place hxb).2.2; omega
theorem OwR.mid {T e : TypeId} {lo hi : Nat} {w w' : World} {v : Value} {zss : List (List Int)} (h : OwR T e lo hi w v zss) (hm : Mid lo hi w w') : OwR T e lo hi w' v zss := by
  obtain ⟨vs, h1, h2, h3, h4, h5⟩ := h
  exact ⟨vs, h1, h2.mid hm, fun i u zs hu hz => (h3 i u zs hu hz).mid hm, h4, h5⟩
/-- append(out, row) at a plain list of operations, with the place of the new row. -/
theorem list_app_row2 {ops : Array Oper} {rest : List Oper} {o : Oper} {a : Act} {w : World} {Q : Exit → Act → World → Prop} (hgd : o.guard = none) (s x : Operand)
    (ho : o.op = .call { callee := .builtin .append, args := #[s, x], argTypes := #[24, 24] })
    (base m : Nat) (v u : Value) (zss : List (List Int)) (ys : List Int) (hs : a.eval s = v) (hown : OwR 27 3 base m w v zss) (hu : OwnV 3 m w.heap.size w u (intVals ys))
    (H : Nat) (hx : a.eval x = .slice (some ⟨H, 0, none⟩) 1 1) (hnew : w.heap[H]? = some (.cells #[u] 27 (0, 0)))
    (hn : zss.length ≤ 1099511627776) (hbm : base ≤ m) (hm : m ≤ w.heap.size)
    (h : ∀ g cap w', OwR 27 3 base w'.heap.size w' (.slice (some ⟨g, 0, none⟩) (zss.length + 1) cap) (zss ++ [ys]) → Below base w w' → (v.ownBlock = some g ∨ w.heap.size ≤ g) → w.grownBy w' v.ownBlock → wpList Tryz.prog ops Q rest (a.put o.dst (.slice (some ⟨g, 0, none⟩) (zss.length + 1) cap)) w') :
    wpList Tryz.prog ops Q (o :: rest) a w := by
  obtain ⟨i0, hi, hz0, hz1, hz2⟩ := info_parts info_row
  have hown' := hown
  obtain ⟨vs, h1, h2, h3, h4, h5⟩ := hown
  refine wpList_append_lies w hgd s x 24 ho base 27 i0 _ 1 24 Tryz.underlying24 hi hz0 hz1 hz2 rfl (by omega) v vs.length vs hs h2.owns ⟨H, 0, none⟩ 1 1 [u] hx rfl (World.news_of_block (cs := #[u]) hnew) (fun q hq => by rw [List.mem_singleton.1 hq]; exact own_one hu) (by omega) (by unfold maxLen; omega) (by omega) (by omega) w.heap.size rfl ?_
  intro g cap w' k1 k2 k3 k4
  rw [h1] at k1 ⊢
  refine h g cap w' ?_ ((Below.refl base w).grown k2 (by omega) ?_) (k3.elim (fun h => .inl h) (fun h => .inr (by omega))) k2
  · refine hown'.snoc hu hbm hm ⟨h1, h2, h3, h4, h5⟩ (by rw [h1]; exact k1) k2 ?_
    intro b hb
    have hgb : g = b := by simpa [Value.ownBlock] using hb
    subst hgb
    rcases k3 with h | h
    · exact .inl h
    · exact .inr (by omega)
  · intro k hk
    exact ((h2.place hk).1)

/-- append(out, row) at a plain list of operations. -/
theorem list_app_row {ops : Array Oper} {rest : List Oper} {o : Oper} {a : Act} {w : World} {Q : Exit → Act → World → Prop} (hgd : o.guard = none) (s x : Operand)
    (ho : o.op = .call { callee := .builtin .append, args := #[s, x], argTypes := #[24, 24] })
    (base m : Nat) (v u : Value) (zss : List (List Int)) (ys : List Int) (hs : a.eval s = v) (hown : OwR 27 3 base m w v zss) (hu : OwnV 3 m w.heap.size w u (intVals ys))
    (H : Nat) (hx : a.eval x = .slice (some ⟨H, 0, none⟩) 1 1) (hnew : w.heap[H]? = some (.cells #[u] 27 (0, 0)))
    (hn : zss.length ≤ 1099511627776) (hbm : base ≤ m) (hm : m ≤ w.heap.size)
    (h : ∀ g cap w', OwR 27 3 base w'.heap.size w' (.slice (some ⟨g, 0, none⟩) (zss.length + 1) cap) (zss ++ [ys]) → Below base w w' → wpList Tryz.prog ops Q rest (a.put o.dst (.slice (some ⟨g, 0, none⟩) (zss.length + 1) cap)) w') :
    wpList Tryz.prog ops Q (o :: rest) a w :=
  list_app_row2 hgd s x ho base m v u zss ys hs hown hu H hx hnew hn hbm hm fun g cap w' h1 h2 _ _ => h g cap w' h1 h2

/-- What a function that makes a slice of slices of its own leaves. -/
def MadeR (w : World) (zss : List (List Int)) (e : Ending) (w' : World) : Prop := (∃ v, e = .returned v ∧ OwR 27 3 w.heap.size w'.heap.size w' v zss) ∧ Below w.heap.size w w'
/-- What a function that answers a slice of slices and whether it is there leaves. -/
def GotR (w : World) (r : List (List Int) × Bool) (e : Ending) (w' : World) : Prop := (∃ v, e = .returned (.tuple #[v, .bool r.2]) ∧ OwR 27 3 w.heap.size w'.heap.size w' v r.1) ∧ Below w.heap.size w w'
end Go.Proofs.YtjijgagdaolkcaaGreat
/- The model's l5All: the points of a box in order. -/
namespace Go.Proofs.YtjijgagdaolkcaaGreat
open Go Go.RowKit Go.Lib

/-- The L numbers from a on. -/
def rngI (a : Int) (L : Nat) : List Int := (List.range L).map fun i : Nat => a + (i : Int)
theorem rngI_len (a : Int) (L : Nat) : (rngI a L).length = L := by simp [rngI]
theorem rngI_get (a : Int) (L i : Nat) (h : i < (rngI a L).length) : (rngI a L)[i] = a + i := by simp [rngI]
theorem axis_rng (e : Nat) : axis e = rngI (-(e : Int)) (2 * e + 1) := by
  unfold axis rngI
  refine List.map_congr_left fun i _ => ?_
  omega
/-- The points that come when the loops stand at i, j. -/
def nextL (R : List Int) (out : List (List Int)) (i j : Nat) : List (List Int) :=
  ((out.take i).flatMap fun p => R.map fun x => p ++ [x]) ++ (R.take j).map fun x => out.getD i [] ++ [x]
theorem nextL_zero (R : List Int) (out : List (List Int)) : nextL R out 0 0 = [] := by simp [nextL]
theorem nextL_step {R : List Int} {out : List (List Int)} {i j : Nat} (hi : i < out.length) (hj : j < R.length) : nextL R out i j ++ [out[i] ++ [R[j]]] = nextL R out i (j + 1) := by
  unfold nextL
  rw [List.append_assoc, List.take_succ_eq_append_getElem hj, List.map_append]
  congr 2
  rw [List.getD_eq_getElem?_getD, List.getElem?_eq_getElem hi]; rfl
theorem nextL_row {R : List Int} {out : List (List Int)} {i : Nat} (hi : i < out.length) : nextL R out i R.length = nextL R out (i + 1) 0 := by
  unfold nextL
  rw [List.take_length, List.take_succ_eq_append_getElem hi, List.flatMap_append, List.getD_eq_getElem?_getD, List.getElem?_eq_getElem hi]
  simp
theorem nextL_all (R : List Int) (out : List (List Int)) : nextL R out out.length 0 = out.flatMap fun p => R.map fun x => p ++ [x] := by simp [nextL]
theorem rowsF_len (R : List Int) (l : List (List Int)) : (l.flatMap fun p => R.map fun x => p ++ [x]).length = l.length * R.length := by
  induction l with
  | nil => simp
  | cons p l ih => rw [List.flatMap_cons, List.length_append, ih, List.length_map, List.length_cons, Nat.succ_mul, Nat.add_comm]
theorem nextL_len {R : List Int} {out : List (List Int)} {i j : Nat} (hi : i ≤ out.length) (hj : j ≤ R.length) : (nextL R out i j).length = i * R.length + j := by
  unfold nextL
  rw [List.length_append, rowsF_len, List.length_take, List.length_map, List.length_take, Nat.min_eq_left hi, Nat.min_eq_left hj]
theorem boxP_len (R : List Int) : ∀ n : Nat, (boxP R n).length = R.length ^ n
  | 0 => rfl
  | n + 1 => by rw [boxP, rowsF_len, boxP_len R n, Nat.pow_succ]
theorem boxP_le {R : List Int} (hR : R.length ≤ 1000) {n : Nat} (hn : n ≤ 2) : (boxP R n).length ≤ 1000000 := by
  rw [boxP_len]
  rcases (by omega : n = 0 ∨ n = 1 ∨ n = 2) with rfl | rfl | rfl
  · simp
  · simp; omega
  · exact Nat.le_trans (Nat.pow_le_pow_left hR 2) (by decide)
theorem nextL_le {R : List Int} {out : List (List Int)} {i j : Nat} (hi : i ≤ out.length) (hj : j ≤ R.length) (hR : R.length ≤ 1000) (ho : out.length ≤ 1000000) : (nextL R out i j).length ≤ 1099511627776 := by
  rw [nextL_len hi hj]
  have : i * R.length ≤ 1000000 * 1000 := Nat.mul_le_mul (by omega) hR
  omega
/-- The list of one empty row. -/
theorem owr_one {T e : TypeId} {w : World} {base : Nat} (hb : base ≤ w.heap.size) :
    OwR T e base ((w.alloc (.cells #[] e)).alloc (.cells #[.slice (some ⟨w.heap.size, 0, none⟩) 0 0] T)).heap.size ((w.alloc (.cells #[] e)).alloc (.cells #[.slice (some ⟨w.heap.size, 0, none⟩) 0 0] T)) (.slice (some ⟨w.heap.size + 1, 0, none⟩) 1 1) [[]] := by
  have h1 : ((w.alloc (.cells #[] e)).alloc (.cells #[.slice (some ⟨w.heap.size, 0, none⟩) 0 0] T)).heap[w.heap.size]? = some (.cells #[] e (0, 0)) :=
    (Below.heap_alloc _ _ _ (by simp)).trans (heap_alloc_new w _)
  have h2 : ((w.alloc (.cells #[] e)).alloc (.cells #[.slice (some ⟨w.heap.size, 0, none⟩) 0 0] T)).heap[w.heap.size + 1]? = some (.cells #[.slice (some ⟨w.heap.size, 0, none⟩) 0 0] T (0, 0)) := by
    have := heap_alloc_new (w.alloc (.cells #[] e)) (.cells #[.slice (some ⟨w.heap.size, 0, none⟩) 0 0] T)
    rwa [World.size_alloc] at this
  refine ⟨[.slice (some ⟨w.heap.size, 0, none⟩) 0 0], rfl, .inr ⟨w.heap.size + 1, 1, _, rfl, by omega, by simp, h2, Nat.le_refl _, by unfold maxLen; omega, rfl, rfl⟩, ?_, ?_, ?_⟩
  · intro i u zs hu hz
    have hi : i = 0 := by have := lt_of_get hu; simp at this; omega
    subst hi
    simp only [List.getElem?_cons_zero, Option.some.injEq] at hu hz
    subst hu; subst hz
    exact .inr ⟨w.heap.size, 0, #[], rfl, by omega, by simp; omega, h1, Nat.le_refl _, by unfold maxLen; omega, rfl, rfl⟩
  · intro i j u u' b hij hu hu'
    have := lt_of_get hu
    have := lt_of_get hu'
    simp at *; omega
  · intro i u b hu hub
    have hi : i = 0 := by have := lt_of_get hu; simp at this; omega
    subst hi
    simp only [List.getElem?_cons_zero, Option.some.injEq] at hu
    subst hu
    simp only [Value.ownBlock, Option.some.injEq] at hub
    intro e
    simp only [Value.ownBlock, Option.some.injEq] at e
    omega

end Go.Proofs.YtjijgagdaolkcaaGreat
