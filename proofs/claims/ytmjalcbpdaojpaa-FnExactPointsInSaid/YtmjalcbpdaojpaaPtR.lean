/- Rows that the caller of an iterator collects: which blocks are theirs; append at an operation. -/
import Derived.Test.YtmjalcbpdaojpaaPtN
import Derived.Test.YtmjalcbpdaojpaaRowApp
import Derived.Test.YtmjalcbpdaojpaaOrdIn
namespace Go.Proofs.Ytmjalcbpdaojpaa
open Go Go.RowKit Go.Lib

/-- The rows vs of v, each in a block of its own. -/
def OwRB (T e : TypeId) (lo hi : Nat) (w : World) (v : Value) (vs : List Value) (zss : List (List Int)) : Prop :=
  vs.length = zss.length ∧ OwnV T lo hi w v vs ∧ (∀ (i : Nat) u zs, vs[i]? = some u → zss[i]? = some zs → OwnV e lo hi w u (intVals zs)) ∧
    (∀ (i j : Nat) u u' b, i ≠ j → vs[i]? = some u → vs[j]? = some u' → u.ownBlock = some b → u'.ownBlock ≠ some b) ∧ (∀ (i : Nat) u b, vs[i]? = some u → u.ownBlock = some b → v.ownBlock ≠ some b)
theorem OwRB.owr {T e : TypeId} {lo hi : Nat} {w : World} {v : Value} {vs : List Value} {zss : List (List Int)} (h : OwRB T e lo hi w v vs zss) : OwR T e lo hi w v zss := ⟨vs, h⟩
/-- The blocks of v and of its rows. -/
def rowBs (v : Value) (vs : List Value) : Bs := fun b => v.ownBlock = some b ∨ ∃ (i : Nat) (u : Value), vs[i]? = some u ∧ u.ownBlock = some b
theorem OwnV.same {e : TypeId} {lo hi lo' hi' : Nat} {w w' : World} {v : Value} {xs : List Value} (h : OwnV e lo hi w v xs) (hs : ∀ b, v.ownBlock = some b → w'.heap[b]? = w.heap[b]?) (h1 : lo' ≤ lo) (h2 : hi ≤ hi') : OwnV e lo' hi' w' v xs := by
  rcases h with h | ⟨g, cap, cur, rfl, k1, k2, hb, hr⟩
  · exact .inl h
  · exact .inr ⟨g, cap, cur, rfl, by omega, by omega, (hs g rfl).trans hb, hr⟩
theorem OwRB.same {T e : TypeId} {lo hi lo' hi' : Nat} {w w' : World} {v : Value} {vs : List Value} {zss : List (List Int)} (h : OwRB T e lo hi w v vs zss) (hs : ∀ b, rowBs v vs b → w'.heap[b]? = w.heap[b]?) (h1 : lo' ≤ lo) (h2 : hi ≤ hi') : OwRB T e lo' hi' w' v vs zss := by
  obtain ⟨k1, k2, k3, k4, k5⟩ := h
  exact ⟨k1, k2.same (fun b hb => hs b (.inl hb)) h1 h2, fun i u zs hu hz => (k3 i u zs hu hz).same (fun b hb => hs b (.inr ⟨i, u, hu, hb⟩)) h1 h2, k4, k5⟩
theorem OwRB.place {T e : TypeId} {lo hi : Nat} {w : World} {v : Value} {vs : List Value} {zss : List (List Int)} (h : OwRB T e lo hi w v vs zss) {b : Nat} (hb : rowBs v vs b) : lo ≤ b ∧ b < w.heap.size := by
  obtain ⟨k1, k2, k3, _⟩ := h
  rcases hb with hb | ⟨i, u, hu, hb⟩
  · have := k2.place hb; omega
  · have hi := lt_of_get hu
    have := (k3 i u _ hu (List.getElem?_eq_getElem (by omega))).place hb; omega
theorem OwRB.snoc {T e : TypeId} {base m : Nat} {w w' : World} {v v' u : Value} {zss : List (List Int)} {ys : List Int} (hu : OwnV e m w.heap.size w u (intVals ys)) (hbm : base ≤ m) (hm : m ≤ w.heap.size)
    {vs : List Value} (hvs : OwRB T e base m w v vs zss)
    (hr : w'.ownsRow base T 1 v' (vs.length + 1) (vs ++ [u])) (hg : w.grownBy w' v.ownBlock) (hat : ∀ b, v'.ownBlock = some b → v.ownBlock = some b ∨ w.heap.size ≤ b) : OwRB T e base w'.heap.size w' v' (vs ++ [u]) (zss ++ [ys]) := by
  obtain ⟨h1, h2, h3, h4, h5⟩ := hvs
  have get : ∀ (i : Nat) x, (vs ++ [u])[i]? = some x → (vs[i]? = some x ∧ i < vs.length) ∨ (i = vs.length ∧ x = u) := by
    intro i x hx
    by_cases hi : i < vs.length
    · rw [List.getElem?_append_left hi] at hx; exact .inl ⟨hx, hi⟩
    · rw [List.getElem?_append_right (by omega)] at hx
      have : i - vs.length < 1 := by have := lt_of_get hx; simpa using this
      have hz : i - vs.length = 0 := by omega
      rw [hz] at hx
      exact .inr ⟨by omega, by simpa using hx.symm⟩
  have place : ∀ (i : Nat) x b, vs[i]? = some x → x.ownBlock = some b → b < m := fun i x b hx hb => by
    have hi := lt_of_get hx
    exact ((h3 i x _ hx (List.getElem?_eq_getElem (by omega))).place hb).2.1
  have huv : ∀ b, u.ownBlock = some b → some b ≠ v.ownBlock := fun b hb e => by
    have p1 := (hu.place hb).1
    have p2 := (h2.place e.symm).2.1
    omega
  refine ⟨by rw [List.length_append, List.length_append, h1]; rfl, OwnV.of_owns hr, ?_, ?_, ?_⟩
  · intro i x zs hx hz
    rcases get i x hx with ⟨hx', hi⟩ | ⟨rfl, rfl⟩
    · rw [List.getElem?_append_left (by omega)] at hz
      exact ((h3 i x zs hx' hz).grown hg (fun b hb e => h5 i x b hx' hb e.symm)).mono (Nat.le_refl _) (Nat.le_trans hm hg.size)
    · rw [h1, List.getElem?_append_right (Nat.le_refl _), Nat.sub_self] at hz
      obtain rfl : ys = zs := by simpa using hz
      exact (hu.grown hg huv).mono hbm hg.size
  · intro i j x y b hij hx hy hxb
    rcases get i x hx with ⟨hx', _⟩ | ⟨rfl, rfl⟩
    · rcases get j y hy with ⟨hy', _⟩ | ⟨rfl, rfl⟩
      · exact h4 i j x y b hij hx' hy' hxb
      · intro hyb
        have p1 := (hu.place hyb).1
        have p2 := place i x b hx' hxb
        omega
    · rcases get j y hy with ⟨hy', _⟩ | ⟨rfl, rfl⟩
      · intro hyb
        have p1 := (hu.place hxb).1
        have p2 := place j y b hy' hyb
        omega
      · exact absurd rfl hij
  · intro i x b hx hxb hvb
    rcases get i x hx with ⟨hx', _⟩ | ⟨rfl, rfl⟩
    · rcases hat b hvb with h | h
      · exact h5 i x b hx' hxb h
      · have := place i x b hx' hxb; omega
    · rcases hat b hvb with h | h
      · exact huv b hxb h.symm
      · have := (hu.place hxb).2.2; omega

/-- append(out, row) at an operation. -/
theorem wp_app_rowB {o : Oper} {a : Act} {w : World} {K : Act → World → Prop} {Q : Exit → Act → World → Prop} (s x : Operand)
    (ho : o.op = .call { callee := .builtin .append, args := #[s, x], argTypes := #[28, 28] })
    (base m : Nat) (v u : Value) (vs : List Value) (zss : List (List Int)) (ys : List Int) (hs : a.eval s = v) (hown : OwRB 30 3 base m w v vs zss) (hu : OwnV 3 m w.heap.size w u (intVals ys))
    (H : Nat) (hx : a.eval x = .slice (some ⟨H, 0, none⟩) 1 1) (hnew : w.heap[H]? = some (.cells #[u] 30 (0, 0)))
    (hn : zss.length ≤ 1099511627776) (hbm : base ≤ m) (hm : m ≤ w.heap.size)
    (h : ∀ g cap w', OwRB 30 3 base w'.heap.size w' (.slice (some ⟨g, 0, none⟩) (zss.length + 1) cap) (vs ++ [u]) (zss ++ [ys]) → (v.ownBlock = some g ∨ w.heap.size ≤ g) → w.grownBy w' v.ownBlock → K (a.put o.dst (.slice (some ⟨g, 0, none⟩) (zss.length + 1) cap)) w') :
    o.wp Try.prog a w K Q := by
  obtain ⟨i0, hi, hz0, hz1, hz2⟩ := info_parts info_row
  have hown' := hown
  obtain ⟨h1, h2, h3, h4, h5⟩ := hown
  refine wp_append_lies w s x 28 ho base 30 i0 _ 1 24 Try.underlying28 hi hz0 hz1 hz2 rfl (by omega) v vs.length vs hs h2.owns ⟨H, 0, none⟩ 1 1 [u] hx rfl (World.news_of_block (cs := #[u]) hnew) (fun q hq => by rw [List.mem_singleton.1 hq]; exact own_one hu) (by omega) (by unfold maxLen; omega) (by omega) (by omega) w.heap.size rfl ?_
  intro g cap w' k1 k2 k3 k4
  rw [h1] at k1 ⊢
  refine h g cap w' ?_ (k3.elim (fun h => .inl h) (fun h => .inr (by omega))) k2
  refine OwRB.snoc hu hbm hm hown' (by rw [h1]; exact k1) k2 ?_
  intro b hb
  have hgb : g = b := by simpa [Value.ownBlock] using hb
  subst hgb
  rcases k3 with h | h
  · exact .inl h
  · exact .inr (by omega)
/-- The first m of three numbers in a block. -/
theorem sl_nums {w : World} {B : Nat} {x y z : Int} {T : TypeId} (m : Nat) (h1 : 1 ≤ m) (h3 : m ≤ 3) (hb : Bk w B #[.int .i64 x, .int .i64 y, .int .i64 z] T) : Sl w (.slice (some ⟨B, 0, none⟩) m 3) (intVals ([x, y, z].take m)) := by
  have hl : ([x, y, z].take m).length = m := by rw [List.length_take]; simp; omega
  refine .inr ⟨fun e => by have := congrArg List.length e; rw [intVals_len, hl] at this; simp at this; omega, B, 0, 3, by rw [intVals_len, hl], by rw [intVals_len, hl]; exact h3, by rw [intVals_len]; unfold maxLen; omega, hb.lt, fun i u hu => ?_⟩
  have hi := lt_of_get hu
  rw [intVals_len] at hi
  rw [intVals_get _ i hi] at hu
  obtain rfl := Option.some.inj hu
  rw [Nat.zero_add]
  rcases (by omega : i = 0 ∨ i = 1 ∨ i = 2) with rfl | rfl | rfl
  · exact hb.cell 0 (by simp)
  · exact hb.cell 1 (by simp)
  · exact hb.cell 2 (by simp)

/-- What holds at the body's start: the box of the point is there. -/
def MidX (J : List (List Int) → Bs → World → Prop) (act : List Int → Nat → Act) (x : List Int) (a' : Act) (pre : List (List Int)) (T' : Bs) (W' : World) : Prop :=
  ∃ (T : Bs) (X : Nat), T' = (fun k => T k ∨ k = X) ∧ ¬ T X ∧ J pre T W' ∧ Bk W' X #[.int .i64 (x.getD 0 0), .int .i64 (x.getD 1 0), .int .i64 (x.getD 2 0)] 68 ∧ a' = act x X
theorem midx_sep {J : List (List Int) → Bs → World → Prop} (h : Sep J) (act : List Int → Nat → Act) (x : List Int) (a' : Act) : Sep (MidX J act x a') := by
  refine ⟨fun s T w hj k hk => ?_, fun s T w w' hj hb hk => ?_⟩
  · obtain ⟨T0, X, rfl, h1, h2, h3, _⟩ := hj
    rcases hk with hk | rfl
    · exact h.lt _ _ _ h2 k hk
    · exact h3.lt
  · obtain ⟨T0, X, rfl, h1, h2, h3, h4⟩ := hj
    exact ⟨T0, X, rfl, h1, h.keep _ _ _ _ h2 hb (fun k e => hk k (.inl e)), (hk X (.inr rfl)).trans h3, h4⟩

/-- What PointsIn's loop keeps: the list's box, the rows. -/
def PtsI (B C m : Nat) (pre : List (List Int)) (T : Bs) (W : World) : Prop :=
  ∃ v vs, T = (fun b => b = C ∨ rowBs v vs b) ∧ Bk W C #[v] 28 ∧ OwRB 30 3 B W.heap.size W v vs (pre.map fun t => t.take m) ∧ ¬ rowBs v vs C
theorem ptsI_sep (B C m : Nat) : Sep (PtsI B C m) := by
  refine ⟨fun s T w hj k hk => ?_, fun s T w w' hj hb hk => ?_⟩
  · obtain ⟨v, vs, rfl, h1, h2, _⟩ := hj
    rcases hk with rfl | hk
    · exact h1.lt
    · exact (h2.place hk).2
  · obtain ⟨v, vs, rfl, h1, h2, h3⟩ := hj
    exact ⟨v, vs, rfl, (hk C (.inl rfl)).trans h1, h2.same (fun b hb => hk b (.inr hb)) (Nat.le_refl _) hb.size, h3⟩
end Go.Proofs.Ytmjalcbpdaojpaa
