/- append at an operation of a region: a half behind halves, numbers behind numbers. -/
import Derived.Test.YtmogncpkdkdodaaMao
import Derived.Test.YtmogncpkdkdodaaMah
import Derived.Test.YtmogncpkdkdodaaOrd
import Derived.Deep.RegionHeld3
import Derived.Test.YtmogncpkdkdodaaMan
import Derived.Test.YtmogncpkdkdodaaMar
namespace Go.Proofs.Ytmogncpkdkdodaa
open Go.RowKit Go.Lib

theorem Kept.cellAt {lo hi : Nat} {w w' : World} (h : Kept lo hi w w') {p : Addr} (hp : p.block < w.heap.size) (ho : p.block < lo ∨ hi ≤ p.block) : w'.cell? p = w.cell? p := World.cell?_of_block (h.block p.block hp ho)
theorem Bk.grown {w w' : World} {b : Nat} {cs : Array Value} {T : TypeId} {r : Option Nat} (h : Bk w b cs T) (hg : w.grownBy w' r) (hne : some b ≠ r) : Bk w' b cs T := (hg.block b h.lt hne).trans h
/-- A block of another type is none of the halves' own. -/
theorem OwH.ne {T e R : TypeId} {lo hi B : Nat} {w : World} {v : Value} {hs : List Hf} {cs : Array Value} (h : OwH T e lo hi w v hs) (hB : Bk w B cs R) (h1 : R ≠ T) : some B ≠ v.ownBlock := by
  obtain ⟨us, k1, k2, _⟩ := h
  intro e1
  rcases k2.2 with ⟨rfl, _⟩ | ⟨g, cap, cur, rfl, hg, hh, _⟩
  · cases e1
  · obtain rfl : B = g := by simpa [Value.ownBlock] using e1
    rw [hB] at hh
    simp only [Option.some.injEq, Obj.cells.injEq] at hh
    exact h1 hh.2.1
theorem OwnV.other {e R : TypeId} {lo hi : Nat} {w : World} {v : Value} {xs : List Value} {cs : Array Value} (h : OwnV e lo hi w v xs) {p : Addr} (hB : Bk w p.block cs R) (h1 : R ≠ e) (u : Value) : OwnV e lo hi (w.setCell p u) v xs := by
  rcases h with h | ⟨g, cap, cur, rfl, h2, h3, hb, hr⟩
  · exact .inl h
  · refine .inr ⟨g, cap, cur, rfl, h2, h3, ?_, hr⟩
    rw [Below.heap_setCell _ _ _ _ (fun e1 => by
      subst e1
      rw [hB] at hb
      simp only [Option.some.injEq, Obj.cells.injEq] at hb
      exact h1 hb.2.1)]
    exact hb
/-- A store into a block of another type. -/
theorem OwH.other {T e R : TypeId} {lo hi : Nat} {w : World} {v : Value} {hs : List Hf} {cs : Array Value} (h : OwH T e lo hi w v hs) {p : Addr} (hB : Bk w p.block cs R) (h1 : R ≠ T) (h2 : R ≠ e) (u : Value) : OwH T e lo hi (w.setCell p u) v hs := by
  have hne := h.ne hB h1
  obtain ⟨us, k1, k2, k3, k4, k5, k6⟩ := h
  refine ⟨us, k1, ⟨k2.1, ?_⟩, k3, fun i x y hx hy => (k4 i x y hx hy).other hB h2 u, k5, k6⟩
  rcases k2.2 with h0 | ⟨g, cap, cur, rfl, hg, hh, hr⟩
  · exact .inl h0
  · exact .inr ⟨g, cap, cur, rfl, hg, by rw [Below.heap_setCell _ _ _ _ (fun e1 => hne (by rw [← e1]; rfl))]; exact hh, hr⟩
/-- append(halves, half) at an operation. -/
theorem wp_app_half2 {o : Oper} {a : Act} {w : World} {K : Act → World → Prop} {Q : Exit → Act → World → Prop} (s x : Operand)
    (ho : o.op = .call { callee := .builtin .append, args := #[s, x], argTypes := #[24, 24] })
    (base m : Nat) (v u : Value) (hs : List Hf) (h : Hf) (hv : a.eval s = v) (hown : OwH 48 3 base m w v hs) (hu : OwnV 3 m w.heap.size w u (intVals h.1))
    (H : Nat) (hx : a.eval x = .slice (some ⟨H, 0, none⟩) 1 1) (hnew : w.heap[H]? = some (.cells #[u, .int .i64 h.2] 48 (0, 0)))
    (hn : hs.length ≤ 1099511627776) (hbm : base ≤ m) (hm : m ≤ w.heap.size)
    (k : ∀ g cap w', OwH 48 3 base w'.heap.size w' (.slice (some ⟨g, 0, none⟩) (hs.length + 1) cap) (hs ++ [h]) → Kept base m w w' → w.grownBy w' v.ownBlock → K (a.put o.dst (.slice (some ⟨g, 0, none⟩) (hs.length + 1) cap)) w') :
    o.wp Try.prog a w K Q := by
  obtain ⟨i0, hi, hz0, hz1, hz2⟩ := info_parts info_half
  have hown' := hown
  obtain ⟨us, h1, h2, h3, h4, h5, h6⟩ := hown
  refine wp_append_lies w s x 24 ho base 48 i0 _ 2 32 Try.underlying24 hi hz0 hz1 hz2 rfl (by omega) v hs.length (flat us hs) hv h2 ⟨H, 0, none⟩ 1 1 [u, .int .i64 h.2] hx rfl (World.news_of_block (cs := #[u, .int .i64 h.2]) hnew) (fun q hq => by
      simp only [List.mem_cons, List.not_mem_nil, or_false] at hq
      rcases hq with rfl | rfl
      · exact own_one hu
      · rfl) (by omega) (by unfold maxLen; omega) (by omega) (by omega) w.heap.size rfl ?_
  intro g cap w' k1 k2 k3 k4
  refine k g cap w' ?_ ⟨k2.os, k2.tape, k2.output, k2.size, fun j hj ho => k2.block j hj fun e => ?_⟩ k2
  · refine hown'.snoc hu hbm hm ⟨h1, h2, h4, h5, h6⟩ h3 k1 k2 ?_
    intro b hb
    have hgb : g = b := by simpa [Value.ownBlock] using hb
    subst hgb
    rcases k3 with h | h
    · exact .inl h
    · exact .inr (by omega)
  · have := (h2.lt j e.symm).1
    have := h3 j e.symm
    omega

theorem wp_app_half {o : Oper} {a : Act} {w : World} {K : Act → World → Prop} {Q : Exit → Act → World → Prop} (s x : Operand)
    (ho : o.op = .call { callee := .builtin .append, args := #[s, x], argTypes := #[24, 24] })
    (base m : Nat) (v u : Value) (hs : List Hf) (h : Hf) (hv : a.eval s = v) (hown : OwH 48 3 base m w v hs) (hu : OwnV 3 m w.heap.size w u (intVals h.1))
    (H : Nat) (hx : a.eval x = .slice (some ⟨H, 0, none⟩) 1 1) (hnew : w.heap[H]? = some (.cells #[u, .int .i64 h.2] 48 (0, 0)))
    (hn : hs.length ≤ 1099511627776) (hbm : base ≤ m) (hm : m ≤ w.heap.size)
    (k : ∀ g cap w', OwH 48 3 base w'.heap.size w' (.slice (some ⟨g, 0, none⟩) (hs.length + 1) cap) (hs ++ [h]) → Kept base m w w' → K (a.put o.dst (.slice (some ⟨g, 0, none⟩) (hs.length + 1) cap)) w') :
    o.wp Try.prog a w K Q := wp_app_half2 s x ho base m v u hs h hv hown hu H hx hnew hn hbm hm fun g cap w' h1 h2 _ => k g cap w' h1 h2

/-- append(out, ys...) at an operation: the source any slice that reads as a list with a number at least. -/
theorem wp_app_ints {o : Oper} {a : Act} {w : World} {K : Act → World → Prop} {Q : Exit → Act → World → Prop} (s x : Operand)
    (ho : o.op = .call { callee := .builtin .append, args := #[s, x], argTypes := #[30, 30] })
    (base : Nat) (v : Value) (xs ys : List Int) (u : Value) (hs : a.eval s = v) (hown : w.ownsRow base 3 1 v xs.length (intVals xs))
    (hx : a.eval x = u) (hu : Sl w u (intVals ys)) (h0 : 0 < ys.length)
    (hn : xs.length + ys.length ≤ 1099511627776) (hbase : base ≤ w.heap.size)
    (h : ∀ v' w', w'.ownsRow base 3 1 v' (xs ++ ys).length (intVals (xs ++ ys)) → Below base w w' → K (a.put o.dst v') w') : o.wp Try.prog a w K Q := by
  obtain ⟨i0, hi, hz0, hz1, hz2⟩ := info_parts info_int'
  have happ : intVals (xs ++ ys) = intVals xs ++ intVals ys := by simp [intVals]
  obtain ⟨ad, c, rfl, _, hopen⟩ := hu.shape
  rw [intVals_len] at hopen hx hu
  obtain ⟨b, off, rfl, hc, hlt, hcell⟩ := hopen h0
  obtain ⟨hl, hc2⟩ := hu.addr
  refine wp_append_own w s x 30 ho base 3 i0 _ 1 8 Try.underlying30 hi hz0 hz1 hz2 rfl (by omega) v xs.length _ hs hown ⟨b, off, none⟩ ys.length c (intVals ys) hx (by rw [hl, Nat.mul_one]) hc2 (by intro q hq; obtain ⟨z, _, rfl⟩ := List.mem_map.1 hq; rfl) (by unfold maxLen; omega) (by omega) hbase ?_
  intro v' w' h1 h2 _
  refine h v' w' (by rw [happ, List.length_append]; exact h1) ((Below.refl base w).grown h2 hbase ?_)
  intro k hk
  exact (hown.lt k hk).1
end Go.Proofs.Ytmogncpkdkdodaa
/- The model's PointsIn and CountIn. -/
namespace Go.Proofs.Ytmogncpkdkdodaa
open Go Go.RowKit Go.Lib

theorem box_small {e n : Nat} : ∀ {p : List Int}, p ∈ boxP (axis e) n → ∀ x ∈ p, -(e : Int) ≤ x ∧ x ≤ e := by
  induction n with
  | zero => intro p h; simp [boxP] at h; subst h; intro x hx; simp at hx
  | succ n ih =>
    intro p h
    unfold boxP at h
    obtain ⟨q, hq, h⟩ := List.mem_flatMap.1 h
    obtain ⟨y, hy, rfl⟩ := List.mem_map.1 h
    intro x hx
    rcases List.mem_append.1 hx with hx | hx
    · exact ih hq x hx
    · obtain rfl := List.mem_singleton.1 hx
      unfold axis at hy
      obtain ⟨i, hi, rfl⟩ := List.mem_map.1 hy
      rw [List.mem_range] at hi
      omega
theorem box_isV {n : Nat} (h1 : 1 ≤ n) (h3 : n ≤ 3) {p : List Int} (h : p ∈ boxP (axis 6) n) : isV p = true ∧ p.length = n := by
  have hl := boxP_lens _ _ _ h
  refine ⟨?_, hl⟩
  rw [isV_mk (by omega) (by omega)]
  unfold small
  rw [List.all_eq_true]
  intro x hx
  have := box_small h x hx
  exact inR_mk (by omega) (by omega)
theorem box_pt {m : Nat} {hs : List Hf} (hr : regOk m hs = true) {p : List Int} (h : p ∈ boxP (axis 6) m) : ptR ((m : Int), hs) p = true := by
  have h1 : 1 ≤ m := by have := (regOk_t hr).1; omega
  have h3 : m ≤ 3 := by have := (regOk_t hr).2.1; omega
  obtain ⟨k1, k2⟩ := box_isV h1 h3 h
  exact ptR_mk hr k1 (by simp only; omega)
theorem filter_take {p : List Int → Bool} {l : List (List Int)} {k : Nat} (h : k < l.length) : (l.take (k + 1)).filter p = (l.take k).filter p ++ (if p l[k] = true then [l[k]] else []) := by
  rw [List.take_succ_eq_append_getElem h, List.filter_append]
  congr 1
  by_cases hp : p l[k] = true
  · simp [hp]
  · simp [hp]

/-- The slice v and its rows lie in blocks between lo and hi; rows may share a block. -/
def ShR (lo hi : Nat) (w : World) (v : Value) (zss : List (List Int)) : Prop :=
  ∃ vs : List Value, vs.length = zss.length ∧ OwnV 30 lo hi w v vs ∧ ∀ (i : Nat) u zs, vs[i]? = some u → zss[i]? = some zs → OwnV 3 lo hi w u (intVals zs)
theorem ShR.rw {lo hi : Nat} {w : World} {v : Value} {zss : List (List Int)} (h : ShR lo hi w v zss) : Rw w v zss := by
  obtain ⟨vs, h1, h2, h3⟩ := h
  exact ⟨vs, h1, h2.sl, fun i u zs hu hz => (h3 i u zs hu hz).sl⟩
theorem ShR.kept {lo hi a b : Nat} {w w' : World} {v : Value} {zss : List (List Int)} (h : ShR lo hi w v zss) (hk : Kept a b w w') (hd : hi ≤ a ∨ b ≤ lo) : ShR lo hi w' v zss := by
  obtain ⟨vs, h1, h2, h3⟩ := h
  exact ⟨vs, h1, h2.kept hk hd, fun i u zs hu hz => (h3 i u zs hu hz).kept hk hd⟩
theorem ShR.below {lo hi : Nat} {w w' : World} {v : Value} {zss : List (List Int)} (h : ShR lo hi w v zss) (hb : Below w.heap.size w w') : ShR lo hi w' v zss :=
  h.kept (Kept.of_below (lo := hi) (hi := hi) hb) (.inl (Nat.le_refl _))
theorem ShR.mono {lo hi lo' hi' : Nat} {w : World} {v : Value} {zss : List (List Int)} (h : ShR lo hi w v zss) (h1 : lo' ≤ lo) (h2 : hi ≤ hi') : ShR lo' hi' w v zss := by
  obtain ⟨vs, k1, k2, k3⟩ := h
  exact ⟨vs, k1, k2.mono h1 h2, fun i u zs hu hz => (k3 i u zs hu hz).mono h1 h2⟩
/-- Row j: its cell, its numbers. -/
theorem ShR.at {lo hi : Nat} {w : World} {v : Value} {zss : List (List Int)} (h : ShR lo hi w v zss) (j : Nat) (hj : j < zss.length) {a : Option Addr} {n c : Nat} (hv : v = .slice a n c) :
    ∃ (b : Nat) (u : Value), a = some ⟨b, 0, none⟩ ∧ lo ≤ b ∧ b < hi ∧ b < w.heap.size ∧ w.cell? ⟨b, j, none⟩ = some u ∧ OwnV 3 lo hi w u (intVals zss[j]) := by
  obtain ⟨vs, h1, h2, h3⟩ := h
  have hjv : j < vs.length := by omega
  have hu : vs[j]? = some vs[j] := List.getElem?_eq_getElem hjv
  obtain ⟨b, cap, e1, hb1, hb2⟩ := h2.form (by omega)
  rw [hv] at e1
  simp only [Value.slice.injEq] at e1
  obtain ⟨rfl, rfl, rfl⟩ := e1
  have ho := h2.owns
  have hlt := (h2.place (b := b) (by rw [hv]; rfl)).2.2
  rw [hv] at ho
  refine ⟨b, vs[j], rfl, hb1, hb2, hlt, ?_, h3 j _ _ hu (List.getElem?_eq_getElem hj)⟩
  rw [ho.cellAt j (by omega)]; exact hu
/-- What a function leaves whose rows may be shared. -/
def CameR (w : World) (zss : List (List Int)) (e : Ending) (w' : World) : Prop := (∃ v, e = .returned v ∧ ShR w.heap.size w'.heap.size w' v zss) ∧ Below w.heap.size w w'
/-- The rows that have been collected: they lie in blocks from lo to hi, their list elsewhere. -/
def Spine (base lo hi : Nat) (W : World) (v : Value) (zss : List (List Int)) : Prop :=
  ∃ us : List Value, us.length = zss.length ∧ OwnV 30 base W.heap.size W v us ∧ (∀ b, v.ownBlock = some b → b < lo ∨ hi ≤ b) ∧ ∀ (i : Nat) u zs, us[i]? = some u → zss[i]? = some zs → OwnV 3 lo hi W u (intVals zs)
theorem Spine.rw {base lo hi : Nat} {W : World} {v : Value} {zss : List (List Int)} (h : Spine base lo hi W v zss) : Rw W v zss := by
  obtain ⟨us, h1, h2, _, h3⟩ := h
  exact ⟨us, h1, h2.sl, fun i u zs hu hz => (h3 i u zs hu hz).sl⟩
theorem Spine.shr {base lo hi : Nat} {W : World} {v : Value} {zss : List (List Int)} (h : Spine base lo hi W v zss) {B : Nat} (h1 : B ≤ base) (h2 : B ≤ lo) (h3 : hi ≤ W.heap.size) : ShR B W.heap.size W v zss := by
  obtain ⟨us, k1, k2, _, k3⟩ := h
  exact ⟨us, k1, k2.mono h1 (Nat.le_refl _), fun i u zs hu hz => (k3 i u zs hu hz).mono h2 h3⟩
theorem Spine.below {base lo hi : Nat} {W W' : World} {v : Value} {zss : List (List Int)} (h : Spine base lo hi W v zss) (hb : Below W.heap.size W W') : Spine base lo hi W' v zss := by
  obtain ⟨us, h1, h2, h4, h3⟩ := h
  exact ⟨us, h1, (h2.below hb).mono (Nat.le_refl _) hb.size, h4, fun i u zs hu hz => (h3 i u zs hu hz).below hb⟩
/-- append(out, row) where the row is not the list's own. -/
theorem list_app_spine {ops : Array Oper} {rest : List Oper} {o : Oper} {a : Act} {w : World} {Q : Exit → Act → World → Prop} (hgd : o.guard = none) (s x : Operand)
    (ho : o.op = .call { callee := .builtin .append, args := #[s, x], argTypes := #[28, 28] })
    (base lo hi : Nat) (v u : Value) (zss : List (List Int)) (ys : List Int) (hs : a.eval s = v) (hown : Spine base lo hi w v zss) (hu : OwnV 3 lo hi w u (intVals ys))
    (H : Nat) (hx : a.eval x = .slice (some ⟨H, 0, none⟩) 1 1) (hnew : w.heap[H]? = some (.cells #[u] 30 (0, 0)))
    (hn : zss.length ≤ 1099511627776) (hbase : base ≤ w.heap.size) (hhi : hi ≤ w.heap.size)
    (h : ∀ g cap w', Spine base lo hi w' (.slice (some ⟨g, 0, none⟩) (zss.length + 1) cap) (zss ++ [ys]) → w.grownBy w' v.ownBlock → wpList Try.prog ops Q rest (a.put o.dst (.slice (some ⟨g, 0, none⟩) (zss.length + 1) cap)) w') :
    wpList Try.prog ops Q (o :: rest) a w := by
  obtain ⟨i0, hi', hz0, hz1, hz2⟩ := info_parts info_row
  obtain ⟨us, h1, h2, h4, h3⟩ := hown
  refine wpList_append_lies w hgd s x 28 ho base 30 i0 _ 1 24 Try.underlying28 hi' hz0 hz1 hz2 rfl (by omega) v us.length us hs h2.owns ⟨H, 0, none⟩ 1 1 [u] hx rfl (World.news_of_block (cs := #[u]) hnew) (fun q hq => by rw [List.mem_singleton.1 hq]; exact own_one hu) (by omega) (by unfold maxLen; omega) (by omega) hbase w.heap.size rfl ?_
  intro g cap w' k1 k2 k3 k4
  rw [h1] at k1 ⊢
  refine h g cap w' ⟨us ++ [u], by simp [h1], OwnV.of_owns (by simpa [h1] using k1), ?_, ?_⟩ k2
  · intro b hb
    have hgb : g = b := by simpa [Value.ownBlock] using hb
    subst hgb
    rcases k3 with h | h
    · exact h4 _ h
    · exact .inr (by omega)
  · intro i z zs hz hzs
    have hne : ∀ b, z.ownBlock = some b → (lo ≤ b ∧ b < hi) → some b ≠ v.ownBlock := fun b _ hb e => by have := h4 b e.symm; omega
    by_cases hi : i < us.length
    · rw [List.getElem?_append_left hi] at hz
      rw [List.getElem?_append_left (by omega)] at hzs
      have h5 := h3 i z zs hz hzs
      exact h5.grown k2 (fun b hb => hne b hb ⟨(h5.place hb).1, (h5.place hb).2.1⟩)
    · rw [List.getElem?_append_right (by omega)] at hz hzs
      have h0 : i - us.length = 0 := by have := lt_of_get hz; simp at this; omega
      rw [h0] at hz
      rw [← h1, h0] at hzs
      simp only [List.getElem?_cons_zero, Option.some.injEq] at hz hzs
      subst hz; subst hzs
      exact hu.grown k2 (fun b hb => hne b hb ⟨(hu.place hb).1, (hu.place hb).2.1⟩)


/-- What PointsIn's loop keeps: the region's box, all points, those that are in. -/
def PtLoop (w w1 w2 : World) (n : Int) (u A o : Value) (all zss : List (List Int)) (wr : World) : Prop :=
  Bk wr w.heap.size #[.int .i64 n, u] 26 ∧ OwR 30 3 w1.heap.size w2.heap.size wr A all ∧ Spine (w.heap.size + 1) w1.heap.size w2.heap.size wr o zss ∧ Below w.heap.size w wr ∧ w2.heap.size ≤ wr.heap.size

theorem PtLoop.below {w w1 w2 : World} {n : Int} {u A o : Value} {all zss : List (List Int)} {wr wr' : World} (h : PtLoop w w1 w2 n u A o all zss wr) (hb : Below wr.heap.size wr wr') : PtLoop w w1 w2 n u A o all zss wr' :=
  ⟨h.1.below hb, h.2.1.below hb, h.2.2.1.below hb, h.2.2.2.1.trans (hb.mono h.2.2.2.1.size), Nat.le_trans h.2.2.2.2 hb.size⟩
theorem PtLoop.grown {w w1 w2 : World} {n : Int} {u A o o' : Value} {all zss zss' : List (List Int)} {wr wr' : World} (h : PtLoop w w1 w2 n u A o all zss wr) (hg : wr.grownBy wr' o.ownBlock) (hs : Spine (w.heap.size + 1) w1.heap.size w2.heap.size wr' o' zss') : PtLoop w w1 w2 n u A o' all zss' wr' := by
  obtain ⟨h1, h2, h3, h4, h5⟩ := h
  obtain ⟨us, k1, k2, k3, k4⟩ := h3
  have hlo : ∀ b, o.ownBlock = some b → w.heap.size + 1 ≤ b := fun b hb => (k2.place hb).1
  refine ⟨h1.grown hg (fun e => by have := hlo _ e.symm; omega), ?_, hs, h4.grown hg h4.size (fun b hb => by have := hlo b hb; omega), Nat.le_trans h5 hg.size⟩
  exact h2.mid (Mid.grown hg h5 (fun g hg => k3 g hg))

set_option maxRecDepth 100000 in
set_option maxHeartbeats 3200000 in
theorem s_pointsin (r : Rgn) (v : Value) (w : World) (hv : Rg w v r) :
    Calls Try.prog 20 #[v] w (CameR w (ptsR r.1 r.2)) := by
  obtain ⟨n, hs'⟩ := r
  have HR := Lib.hid hv
  obtain ⟨u, rfl, hss⟩ := hv
  simp only at hss ⊢
  have K := Lib.hid ((Bk.new w #[.int .i64 n, u] 26).alloc (.cells #[] 30))
  have B0 := Lib.hid (below2 w (.cells #[.int .i64 n, u] 26) (.cells #[] 30))
  obtain ⟨⟨l0, l1⟩, -⟩ := K.out.two
  clear hss
  by_cases hr : regOk n hs' = true
  case neg =>
    have C1 := Lib.hid (bool_f hr)
    have E := Lib.hid (ptsR_f (bool_f hr))
    clear hr
    go_enter Try.func20, Try.ntmps20
    go_wp2_with fail
    refine (s_isreg (n, hs') _ _ (HR.out.below B0.out)).mono ?_
    rintro e w1 ⟨rfl, hb⟩
    rw [C1.out]
    have B1 := Lib.hid (B0.out.trans (hb.mono B0.out.size))
    have HO := Lib.hid ((OwnV.of_owns (owns_none (w := w.alloc (.cells #[.int .i64 n, u] 26)) (base := w.heap.size) (e := 30) (by simp))).below hb)
    have hz := hb.size
    clear hb
    go_wp2_with fail
    go_ret
    exact ⟨⟨_, rfl, by rw [E.out]; exact ⟨[], rfl, by simpa using HO.out.mono (Nat.le_refl _) hz, fun i u zs hu => by simp at hu⟩⟩, B1.out⟩
  obtain ⟨m, rfl⟩ : ∃ m : Nat, n = m := ⟨n.toNat, by have := (regOk_t hr).1; omega⟩
  have hm1 : 1 ≤ m := by have := (regOk_t hr).1; omega
  have hm3 : m ≤ 3 := by have := (regOk_t hr).2.1; omega
  have C1 := Lib.hid hr
  have E := Lib.hid (show ptsR m hs' = (boxP (axis 6) m).filter (hasL hs') by rw [ptsR_t hr]; rfl)
  have hN := boxP_len (axis 6) m
  have HN := Lib.hid (show (boxP (axis 6) m).length ≤ 2197 by
    rw [hN, axis_len]
    exact Nat.le_trans (Nat.pow_le_pow_right (by omega) hm3) (by decide))
  clear hr hN
  go_enter Try.func20, Try.ntmps20
  go_wp2_with fail
  refine (s_isreg (m, hs') _ _ (HR.out.below B0.out)).mono ?_
  rintro e w1 ⟨rfl, hb⟩
  rw [C1.out]
  have B1 := Lib.hid (B0.out.trans (hb.mono B0.out.size))
  have K1 := Lib.hid (K.out.below hb)
  have HO := Lib.hid ((OwnV.of_owns (owns_none (w := w.alloc (.cells #[.int .i64 m, u] 26)) (base := w.heap.size + 1) (e := 30) (by simp))).below hb)
  have hs1 : w.heap.size + 2 ≤ w1.heap.size := by have := hb.size; simpa using this
  obtain ⟨⟨k0, k1⟩, -⟩ := K1.out.two
  clear hb l0 l1
  go_wp2_with fail
  refine (s_all5 m 13 (-6) 6 hm3 (by omega) (by omega) (by omega) _).mono ?_
  rintro e w2 ⟨⟨A, rfl, ha⟩, hb⟩
  rw [show rngI (-6) 13 = axis 6 from (axis_rng 6).symm] at ha
  obtain ⟨all, hall⟩ : ∃ all, boxP (axis 6) m = all := ⟨_, rfl⟩
  have HAll := Lib.hid hall
  rw [hall] at ha
  rw [hall] at E HN
  obtain ⟨aa, ac, rfl, _, _⟩ := ha.rw.shape
  have HL := Lib.hid (show PtLoop w w1 w2 m u (.slice aa all.length ac) (.slice (some ⟨w.heap.size + 1, 0, none⟩) 0 0) all [] w2 from
    ⟨K1.out.below hb, ha, ⟨[], rfl, by simpa using (HO.out.below hb).mono (Nat.le_refl _) (by have := hb.size; simp; omega), fun b hb => by simp [Value.ownBlock] at hb; omega, fun i u zs hu => by simp at hu⟩, B1.out.trans (hb.mono B1.out.size), Nat.le_refl _⟩)
  clear ha hb hall k0 k1
  go_wp2
  go_loopw [3, 5] (fun o i wr => ∃ k : Nat, k ≤ all.length ∧ i = .int .i64 k ∧ PtLoop w w1 w2 m u (.slice aa all.length ac) o all ((all.take k).filter (hasL hs')) wr) (fun _ i _ => all.length - (RowKit.intOf i).toNat)
  case atStart => exact ⟨0, Nat.zero_le _, rfl, by simpa using HL.out⟩
  case round =>
    obtain ⟨k, hk, rfl, hl⟩ := hrel
    have HI := Lib.hid hl
    by_cases hlt : k < all.length
    case neg =>
      obtain rfl : k = all.length := by omega
      clear hl
      go_wp2
      go_ret
      exact ⟨⟨_, rfl, by have h := HI.out.2.2.1.shr (B := w.heap.size) (Nat.le_succ _) (by omega) HI.out.2.2.2.2; rw [List.take_length] at h; rw [E.out]; exact h⟩, HI.out.2.2.2.1⟩
    obtain ⟨b1, r, rfl, hb1, hb2, hlt1, hcell, _, hor, _, _⟩ := hl.2.1.at k hlt rfl
    have HOr := Lib.hid hor
    obtain ⟨ra, rc, rfl, _⟩ := hor.shape1
    rw [intVals_len] at HOr hcell
    obtain ⟨⟨m0, m1⟩, -⟩ := hl.1.two
    have hkl := hl.1.lt
    have HP := Lib.hid (box_pt (m := m) (hs := hs') C1.out (p := all[k]) (by rw [HAll.out]; exact List.getElem_mem hlt))
    have HF := Lib.hid (filter_take (p := hasL hs') hlt)
    have hfl : ((all.take k).filter (hasL hs')).length ≤ 1099511627776 := by
      have h1 := List.length_filter_le (hasL hs') (all.take k)
      have h2 := List.length_take_le k all
      have := HN.out; omega
    clear hl hor
    rename World => w3
    have i1 : (0 : Int) ≤ (k : Int) := by omega
    obtain ⟨q, hq⟩ : ∃ q, hasL hs' all[k] = q := ⟨_, rfl⟩
    have HQ := Lib.hid hq
    clear hq
    go_wp2_with fail
    go_region_held3 (fun w' => w'.cell? ⟨w.heap.size, 0, none⟩ = some (.int .i64 m) ∧ w'.cell? ⟨w.heap.size, 1, none⟩ = some u ∧ w'.cell? ⟨b1, k, none⟩ = some (.slice ra all[k].length rc) ∧ Below w3.heap.size w3 w')
      (first
        | with_reducible exact keepF3 m0 m1 hcell (Below.refl _ _)
        | (go_split_ands; with_reducible exact keepE3 hkl hkl hlt1 (by assumption) (by assumption) (by assumption) (by assumption) (by assumption))
        | go_keep)
      (first | (go_at_call 69; refine (s_has (m, hs') all[k] _ _ _ HP.out ((HR.out.below HI.out.2.2.2.1).below (Below.refl _ _).drew) (HOr.out.sl.below (Below.refl _ _).drew)).mono ?_; rintro e w4 ⟨rfl, hb4⟩; rw [HQ.out]))
    rename_i hH
    have HI4 := Lib.hid (HI.out.below hH.2.2.2)
    have hcell4 := hH.2.2.1
    have hN2 : all.length ≤ 2197 := HN.out
    have HO4 := Lib.hid (HOr.out.below hH.2.2.2)
    have hs4 := hH.2.2.2.size
    clear hH m0 m1 hcell
    have n4 : w2.heap.size ≤ w4.heap.size := HI4.out.2.2.2.2
    have n5 : w.heap.size + 1 ≤ w4.heap.size := by have := HI4.out.2.2.2.1.size; omega
    cases q with
    | false =>
      have HE := Lib.hid (show (all.take (k + 1)).filter (hasL hs') = (all.take k).filter (hasL hs') by rw [HF.out, HQ.out]; simp)
      go_wp2
      exact ⟨⟨k + 1, by omega, by go_num, by rw [HE.out]; exact HI4.out⟩, by simp [RowKit.intOf]; omega⟩
    | true =>
      have HE := Lib.hid (show (all.take (k + 1)).filter (hasL hs') = (all.take k).filter (hasL hs') ++ [all[k]] by rw [HF.out, HQ.out]; simp)
      go_wp2_with (at_builtin; refine list_app_spine rfl _ _ rfl (w.heap.size + 1) w1.heap.size w2.heap.size u3 (.slice ra all[k].length rc) ((all.take k).filter (hasL hs')) all[k] rfl ((HI4.out.below (below1 w4 _)).2.2.1) (HO4.out.below (below1 w4 _)) w4.heap.size rfl (heap_alloc_new w4 _) hfl (by rw [World.size_alloc]; omega) (by rw [World.size_alloc]; omega) ?_; intro g7 c7 w7 hsp7 hgr7; have HI7 := Lib.hid ((HI4.out.below (below1 w4 _)).grown hgr7 hsp7); clear hsp7 hgr7)
      exact ⟨⟨k + 1, by omega, by go_num, by rw [HE.out]; exact HI7.out⟩, by simp [RowKit.intOf]; omega⟩

theorem tot_le3 : ∀ zss : List (List Int), (∀ z ∈ zss, z.length ≤ 3) → tot zss ≤ 3 * zss.length
  | [], _ => Nat.le_refl _
  | z :: zss, h => by
    have h1 := h z (List.mem_cons_self ..)
    have h2 := tot_le3 zss fun y hy => h y (List.mem_cons_of_mem _ hy)
    simp only [tot, List.map_cons, List.sum_cons, List.length_cons] at h2 ⊢
    omega
theorem ptsL_len {m : Nat} (hm3 : m ≤ 3) (hs : List Hf) : (ptsL m hs).length ≤ 2197 := by
  unfold ptsL
  refine Nat.le_trans (List.length_filter_le ..) ?_
  rw [show ((m : Int)).toNat = m by omega, boxP_len, axis_len]
  exact Nat.le_trans (Nat.pow_le_pow_right (by omega) hm3) (by decide)
theorem ptsR_tot (n : Int) (hs : List Hf) : tot (ptsR n hs) ≤ 6591 := by
  by_cases hr : regOk n hs = true
  · obtain ⟨m, rfl⟩ : ∃ m : Nat, n = m := ⟨n.toNat, by have := (regOk_t hr).1; omega⟩
    have hm3 : m ≤ 3 := by have := (regOk_t hr).2.1; omega
    rw [ptsR_t hr]
    have h1 := tot_le3 (ptsL m hs) fun z hz => by
      have := boxP_lens _ _ _ (List.mem_filter.1 hz).1
      omega
    have h2 := ptsL_len hm3 hs
    omega
  · rw [ptsR_f (bool_f hr)]; decide

theorem rw_shape {W : World} {v : Value} {zss : List (List Int)} (h : Rw W v zss) : ∃ (a : Option Addr) (c : Nat), v = .slice a zss.length c := by
  obtain ⟨a, c, e, _⟩ := h.shape
  exact ⟨a, c, e⟩

set_option maxRecDepth 100000 in
theorem s_countin (r : Rgn) (v : Value) (w : World) (hv : Rg w v r) :
    Calls Try.prog 22 #[v] w (Quiet w (.int .i64 (countR r.1 r.2))) := by
  obtain ⟨n, hs'⟩ := r
  have HR := Lib.hid hv
  obtain ⟨u, rfl, hss⟩ := hv
  simp only at hss ⊢
  have K := Lib.hid (Bk.new w #[.int .i64 n, u] 26)
  have B0 := Lib.hid (below1 w (.cells #[.int .i64 n, u] 26))
  obtain ⟨⟨l0, l1⟩, -⟩ := K.out.two
  clear hss
  by_cases hr : regOk n hs' = true
  case neg =>
    have C1 := Lib.hid (bool_f hr)
    have E := Lib.hid (show countR n hs' = -1 from by unfold countR; rw [bool_f hr]; rfl)
    clear hr
    go_enter Try.func22, Try.ntmps22
    go_wp2_with fail
    refine (s_isreg (n, hs') _ _ (HR.out.below B0.out)).mono ?_
    rintro e w1 ⟨rfl, hb⟩
    rw [C1.out]
    have B1 := Lib.hid (B0.out.trans (hb.mono B0.out.size))
    clear hb
    go_wp2_with fail
    go_ret
    exact ⟨ret_int E.out.symm, B1.out⟩
  have C1 := Lib.hid hr
  have E := Lib.hid (show countR n hs' = (ptsR n hs').length from by unfold countR; rw [if_pos hr, ptsR_t hr])
  clear hr
  go_enter Try.func22, Try.ntmps22
  go_wp2_with fail
  refine (s_isreg (n, hs') _ _ (HR.out.below B0.out)).mono ?_
  rintro e w1 ⟨rfl, hb⟩
  rw [C1.out]
  have B1 := Lib.hid (B0.out.trans (hb.mono B0.out.size))
  obtain ⟨⟨k0, k1⟩, -⟩ := (K.out.below hb).two
  clear hb l0 l1
  go_wp2_with fail
  refine (s_pointsin (n, hs') _ _ (HR.out.below B1.out)).mono ?_
  rintro e w2 ⟨⟨A, rfl, ha⟩, hb⟩
  obtain ⟨aa, ac, rfl⟩ := rw_shape ha.rw
  have B2 := Lib.hid (B1.out.trans (hb.mono B1.out.size))
  clear ha hb k0 k1
  go_wp2_with fail
  go_ret
  exact ⟨ret_int E.out.symm, B2.out⟩
end Go.Proofs.Ytmogncpkdkdodaa
/- The model's l5Best, LeastIn, MostIn. -/
namespace Go.Proofs.Ytmogncpkdkdodaa
open Go Go.RowKit Go.Lib

theorem take_ne {L : List (List Int)} {k : Nat} (h1 : 1 ≤ k) (h2 : k ≤ L.length) : L.take k ≠ [] := fun e => by
  have h := congrArg List.length e
  rw [List.length_take, Nat.min_eq_left h2, List.length_nil] at h
  omega
theorem pts_dot {m : Nat} {hs : List Hf} {x p : List Int} (hp : ptR ((m : Int), hs) x = true) (h : p ∈ ptsL m hs) : x.length = p.length ∧ x.length ≤ 3 ∧ Bd x 1000 ∧ Bd p 1000 ∧ -60000 ≤ dotL x p ∧ dotL x p ≤ 60000 := by
  obtain ⟨hr, hv, hl⟩ := ptR_t hp
  simp only at hr hl
  have h1 : 1 ≤ m := by have := (regOk_t hr).1; omega
  have h3 : m ≤ 3 := by have := (regOk_t hr).2.1; omega
  have hb := (List.mem_filter.1 h).1
  rw [show ((m : Int)).toNat = m by omega] at hb
  obtain ⟨k1, k2⟩ := box_isV h1 h3 hb
  have b1 := small_bd (isV_t hv).2.2
  have b2 := small_bd (isV_t k1).2.2
  have b6 : Bd p 6 := fun i hi => by have := box_small hb p[i] (List.getElem_mem hi); omega
  have hd := dot_bd (m := 1000) (n := 6) (by omega) b1 b6 x.length (Nat.le_refl _) (by omega)
  rw [List.take_length, show x.length = p.length by omega, List.take_length] at hd
  have h5 : ((p.length : Nat) : Int) * (1000 * 6) ≤ 3 * (1000 * 6) := by omega
  exact ⟨by omega, by omega, b1, b2, by omega, by omega⟩

/-- What l5Best's loop keeps: the best one so far. -/
def BestI (w w1 : World) (A B : Value) (L : List (List Int)) (f : List Int → Int) (k : Nat) (wr : World) : Prop :=
  ShR w.heap.size w1.heap.size wr A L ∧ OwnV 3 w.heap.size w1.heap.size wr B (intVals (firstD f [] (L.take k))) ∧ Below w.heap.size w wr ∧ w1.heap.size ≤ wr.heap.size
theorem BestI.below {w w1 : World} {A B : Value} {L : List (List Int)} {f : List Int → Int} {k : Nat} {wr wr' : World} (h : BestI w w1 A B L f k wr) (hb : Below wr.heap.size wr wr') : BestI w w1 A B L f k wr' :=
  ⟨h.1.below hb, h.2.1.below hb, h.2.2.1.trans (hb.mono h.2.2.1.size), Nat.le_trans h.2.2.2 hb.size⟩

set_option maxRecDepth 100000 in
set_option maxHeartbeats 3200000 in
theorem s_best (s : Int) (hs1 : s = 1 ∨ s = -1) (r : Rgn) (x : List Int) (v a : Value) (w : World) (hv : Rg w v r) (ha : Sl w a (intVals x)) :
    Calls Try.prog 57 #[v, a, .int .i64 s] w (Got w (leastR s r.1 r.2 x)) := by
  obtain ⟨n, hs'⟩ := r
  have HR := Lib.hid hv
  have HA := Lib.hid ha
  obtain ⟨u, rfl, hss⟩ := hv
  simp only at hss ⊢
  obtain ⟨aa, ac, rfl, hm, _⟩ := ha.shape
  rw [intVals_len] at hm HA ⊢
  unfold maxLen at hm
  have K := Lib.hid (Bk.new w #[.int .i64 n, u] 26)
  have B0 := Lib.hid (below1 w (.cells #[.int .i64 n, u] 26))
  obtain ⟨⟨l0, l1⟩, -⟩ := K.out.two
  clear hss ha
  have HPt := Lib.hid (fun (w : World) hv => s_pointsin (n, hs') (.agg #[.int .i64 n, u]) w hv)
  by_cases c0 : ptsR n hs' = []
  case pos =>
    have E := Lib.hid (show leastR s n hs' x = ([], false) by
      by_cases hr : regOk n hs' = true
      · exact leastR_n (by rw [← ptsR_t hr]; exact c0)
      · exact leastR_f (ptR_f1 (bool_f hr)))
    have C0 := Lib.hid c0
    clear c0
    go_enter Try.func57, Try.ntmps57
    go_wp2_with fail
    refine (HPt.out _ (HR.out.below B0.out)).mono ?_
    rintro e w1 ⟨⟨A, rfl, hA⟩, hb⟩
    rw [show ptsR (n, hs').1 (n, hs').2 = [] from C0.out] at hA
    obtain ⟨pa, pc, rfl⟩ := rw_shape hA.rw
    have B1 := Lib.hid (B0.out.trans (hb.mono B0.out.size))
    clear hA hb l0 l1
    go_wp2_with fail
    go_ret2
    rw [E.out]
    exact ⟨⟨_, rfl, own_empty B1.out.size⟩, B1.out.alloc B1.out.size _⟩
  have hne : 0 < (ptsR n hs').length := by
    cases h : ptsR n hs' with
    | nil => exact absurd h c0
    | cons y l => simp
  have hr : regOk n hs' = true := by
    by_cases hr : regOk n hs' = true
    · exact hr
    · exact absurd (ptsR_f (bool_f hr)) c0
  have HLe := Lib.hid (ptsR_t hr)
  have HRo := Lib.hid hr
  have C0 := Lib.hid c0
  clear c0
  by_cases c1 : isV x = true
  case neg =>
    have C1 := Lib.hid (bool_f c1)
    have E := Lib.hid (leastR_f (s := s) (ptR_f2 (r := (n, hs')) (bool_f c1)))
    clear c1 hr
    obtain ⟨L, hL⟩ : ∃ L, ptsR n hs' = L := ⟨_, rfl⟩
    rw [hL] at hne
    have HL := Lib.hid hL
    clear hL
    have hne2 : ((L.length : Int) == 0) = false := by rw [beq_eq_false_iff_ne]; omega
    go_enter Try.func57, Try.ntmps57
    go_wp2_with fail
    refine (HPt.out _ (HR.out.below B0.out)).mono ?_
    rintro e w1 ⟨⟨A, rfl, hA⟩, hb⟩
    rw [show ptsR (n, hs').1 (n, hs').2 = L from HL.out] at hA
    obtain ⟨pa, pc, rfl⟩ := rw_shape hA.rw
    have B1 := Lib.hid (B0.out.trans (hb.mono B0.out.size))
    clear hA hb l0 l1
    go_wp2_with fail
    refine (s_isv x _ _ (HA.out.below B1.out)).mono ?_
    rintro e w2 ⟨rfl, hb⟩
    rw [C1.out]
    have B2 := Lib.hid (B1.out.trans (hb.mono B1.out.size))
    clear hb
    go_wp2_with fail
    go_ret2
    rw [E.out]
    exact ⟨⟨_, rfl, own_empty B2.out.size⟩, B2.out.alloc B2.out.size _⟩
  have C1 := Lib.hid c1
  by_cases c2 : (x.length : Int) = n
  case neg =>
    have hxn : ((x.length : Int) == n) = false := by rw [beq_eq_false_iff_ne]; exact c2
    have E := Lib.hid (leastR_f (s := s) (ptR_f3 (r := (n, hs')) c2))
    clear c1 c2 hr
    obtain ⟨L, hL⟩ : ∃ L, ptsR n hs' = L := ⟨_, rfl⟩
    rw [hL] at hne
    have HL := Lib.hid hL
    clear hL
    have hne2 : ((L.length : Int) == 0) = false := by rw [beq_eq_false_iff_ne]; omega
    go_enter Try.func57, Try.ntmps57
    go_wp2_with fail
    refine (HPt.out _ (HR.out.below B0.out)).mono ?_
    rintro e w1 ⟨⟨A, rfl, hA⟩, hb⟩
    rw [show ptsR (n, hs').1 (n, hs').2 = L from HL.out] at hA
    obtain ⟨pa, pc, rfl⟩ := rw_shape hA.rw
    have B1 := Lib.hid (B0.out.trans (hb.mono B0.out.size))
    have K1 := Lib.hid (K.out.below hb)
    clear hA hb l0 l1
    go_wp2_with fail
    refine (s_isv x _ _ (HA.out.below B1.out)).mono ?_
    rintro e w2 ⟨rfl, hb⟩
    rw [C1.out]
    have B2 := Lib.hid (B1.out.trans (hb.mono B1.out.size))
    obtain ⟨⟨k0, k1⟩, -⟩ := (K1.out.below hb).two
    clear hb
    go_wp2_with fail
    go_ret2
    rw [E.out]
    exact ⟨⟨_, rfl, own_empty B2.out.size⟩, B2.out.alloc B2.out.size _⟩
  subst c2
  have hp : ptR ((x.length : Int), hs') x = true := ptR_mk hr c1 rfl
  obtain ⟨L, hL⟩ : ∃ L, ptsR x.length hs' = L := ⟨_, rfl⟩
  have hL2 : ptsL x.length hs' = L := by rw [← ptsR_t hr]; exact hL
  rw [hL] at hne
  have E := Lib.hid (show leastR s x.length hs' x = (firstD (fun p => s * dotL x p) [] L, true) by rw [← hL2]; exact leastR_t hp (fun e => by rw [e] at hL2; rw [← hL2] at hne; simp at hne))
  have HL := Lib.hid hL
  have HD := Lib.hid (fun p (h : p ∈ L) => pts_dot hp (p := p) (by rw [hL2]; exact h))
  have hlen : L.length ≤ 2197 := by rw [← hL2]; exact ptsL_len (by have := (regOk_t hr).2.1; omega) hs'
  clear hL hL2 hp c1 hr
  have hne2 : ((L.length : Int) == 0) = false := by rw [beq_eq_false_iff_ne]; omega
  go_enter Try.func57, Try.ntmps57
  go_wp2_with fail
  refine (HPt.out _ (HR.out.below B0.out)).mono ?_
  rintro e w1 ⟨⟨A, rfl, hA⟩, hb⟩
  rw [show ptsR ((x.length : Int), hs').1 ((x.length : Int), hs').2 = L from HL.out] at hA
  obtain ⟨pa, pc, rfl⟩ := rw_shape hA.rw
  have B1 := Lib.hid (B0.out.trans (hb.mono B0.out.size))
  have K1 := Lib.hid (K.out.below hb)
  have HSh := Lib.hid (hA.mono (lo' := w.heap.size) B0.out.size (Nat.le_refl _))
  clear hA hb l0 l1
  go_wp2_with fail
  refine (s_isv x _ _ (HA.out.below B1.out)).mono ?_
  rintro e w2 ⟨rfl, hb⟩
  rw [C1.out]
  have B2 := Lib.hid (B1.out.trans (hb.mono B1.out.size))
  have HS2 := Lib.hid (HSh.out.below hb)
  have HZ := Lib.hid hb.size
  obtain ⟨⟨k0, k1⟩, -⟩ := (K1.out.below hb).two
  clear hb
  obtain ⟨pb, r0, rfl, _, _, _, hcell, hor⟩ := HS2.out.at 0 hne rfl
  have HI0 := Lib.hid (show BestI w w1 (.slice (some ⟨pb, 0, none⟩) L.length pc) r0 L (fun p => s * dotL x p) 1 w2 from ⟨HS2.out, by
    rw [show firstD (fun p => s * dotL x p) [] (L.take 1) = L[0] by
      cases L with
      | nil => simp at hne
      | cons y l => rfl]
    exact hor, B2.out, HZ.out⟩)
  clear hor
  go_wp2
  go_loopw [9, 10] (fun b i wr => ∃ k : Nat, 1 ≤ k ∧ k ≤ L.length ∧ i = .int .i64 k ∧ BestI w w1 (.slice (some ⟨pb, 0, none⟩) L.length pc) b L (fun p => s * dotL x p) k wr) (fun _ i _ => L.length - (RowKit.intOf i).toNat)
  case atStart => exact ⟨1, Nat.le_refl _, hne, rfl, HI0.out⟩
  case round =>
    obtain ⟨k, hk1, hk, rfl, hi⟩ := hrel
    have HI := Lib.hid hi
    by_cases hlt : k < L.length
    case neg =>
      obtain rfl : k = L.length := by omega
      clear hi
      go_wp2
      go_ret2
      rw [E.out]
      have h := HI.out.2.1
      rw [List.take_length] at h
      exact ⟨⟨_, rfl, h.mono (Nat.le_refl _) HI.out.2.2.2⟩, HI.out.2.2.1⟩
    obtain ⟨b1, r, e1, _, _, hlt1, hcell, hor⟩ := hi.1.at k hlt rfl
    simp only [Option.some.injEq, Addr.mk.injEq, and_true] at e1
    subst e1
    obtain ⟨ra, rc, rfl, _⟩ := hor.shape1
    rw [intVals_len] at hcell hor
    have HO := Lib.hid hor
    obtain ⟨d1, d2, d3, d4, d5, d6⟩ := HD.out L[k] (List.getElem_mem hlt)
    have hbm := firstD_mem (fun p => s * dotL x p) [] (l := L.take k) (take_ne hk1 hk)
    obtain ⟨best, hbest⟩ : ∃ q, firstD (fun p => s * dotL x p) [] (L.take k) = q := ⟨_, rfl⟩
    rw [hbest] at hbm
    obtain ⟨e1, e2, e3, e4, e5, e6⟩ := HD.out best (List.mem_of_mem_take hbm)
    have HBo := Lib.hid (show OwnV 3 w.heap.size w1.heap.size wr u9 (intVals best) by rw [← hbest]; exact hi.2.1)
    have HSn := Lib.hid (show firstD (fun p => s * dotL x p) [] (L.take (k + 1)) = if s * dotL x L[k] < s * dotL x best then L[k] else best by
      rw [List.take_succ_eq_append_getElem hlt, firstD_snoc _ _ _ (take_ne hk1 hk), hbest])
    have CD1 := Lib.hid (fun (W : World) (a b : Value) (ha : Sl W a (intVals x)) (hb : Sl W b (intVals L[k])) => s_dot x L[k] d1 (by omega) 1000 1000 (by omega) (by omega) d3 d4 a b W ha hb)
    have CD2 := Lib.hid (fun (W : World) (a b : Value) (ha : Sl W a (intVals x)) (hb : Sl W b (intVals best)) => s_dot x best e1 (by omega) 1000 1000 (by omega) (by omega) e3 e4 a b W ha hb)
    have hcell2 := hcell
    clear hi hor hbest d1 d2 d3 d4 e1 e2 e3 e4 hbm
    generalize dotL x L[k] = p at *
    generalize dotL x best = q at *
    have t1 : -60000 ≤ s * p ∧ s * p ≤ 60000 := by rcases hs1 with rfl | rfl <;> omega
    have t2 : -60000 ≤ s * q ∧ s * q ≤ 60000 := by rcases hs1 with rfl | rfl <;> omega
    obtain ⟨t3, t4⟩ := t1
    obtain ⟨t5, t6⟩ := t2
    have i1 : (0 : Int) ≤ (k : Int) := by omega
    rename World => w3
    go_wp2_with fail
    refine (CD1.out _ _ _ (HA.out.below HI.out.2.2.1) HO.out.sl).mono ?_
    rintro e w4 ⟨rfl, hb4⟩
    have HI4 := Lib.hid (HI.out.below hb4)
    have hcell4 := (hb4.cell (p := ⟨pb, k, none⟩) hlt1).trans hcell
    have HB4 := Lib.hid (HBo.out.below hb4)
    have hs4 := Lib.hid hb4.size
    have HO4 := Lib.hid (HO.out.below hb4)
    clear hb4
    go_wp2_with fail
    refine (CD2.out _ _ _ (HA.out.below HI4.out.2.2.1) HB4.out.sl).mono ?_
    rintro e w5 ⟨rfl, hb5⟩
    have HI5 := Lib.hid (HI4.out.below hb5)
    have hcell5 := (hb5.cell (p := ⟨pb, k, none⟩) (Nat.lt_of_lt_of_le hlt1 hs4.out)).trans hcell4
    have HO5 := Lib.hid (HO4.out.below hb5)
    have HB5 := Lib.hid (HB4.out.below hb5)
    clear hb5 hcell hcell2 hcell4
    by_cases hpq : s * p < s * q
    · have HE := Lib.hid (HSn.out.trans (if_pos hpq))
      go_wp2
      exact ⟨⟨k + 1, by omega, by omega, by go_num, HI5.out.1, by rw [HE.out]; exact HO5.out, HI5.out.2.2⟩, by simp [RowKit.intOf]; omega⟩
    · have HE := Lib.hid (HSn.out.trans (if_neg hpq))
      go_wp2
      exact ⟨⟨k + 1, by omega, by omega, by go_num, HI5.out.1, by rw [HE.out]; exact HB5.out, HI5.out.2.2⟩, by simp [RowKit.intOf]; omega⟩

set_option maxRecDepth 100000 in
theorem s_leastin (r : Rgn) (x : List Int) (v a : Value) (w : World) (hv : Rg w v r) (ha : Sl w a (intVals x)) :
    Calls Try.prog 13 #[v, a] w (Got w (leastR 1 r.1 r.2 x)) := by
  obtain ⟨n, hs'⟩ := r
  have HR := Lib.hid hv
  have HA := Lib.hid ha
  obtain ⟨u, rfl, hss⟩ := hv
  simp only at hss ⊢
  obtain ⟨aa, ac, rfl, _, _⟩ := ha.shape
  have K := Lib.hid (Bk.new w #[.int .i64 n, u] 26)
  have B0 := Lib.hid (below1 w (.cells #[.int .i64 n, u] 26))
  obtain ⟨⟨l0, l1⟩, -⟩ := K.out.two
  clear hss ha
  go_enter Try.func13, Try.ntmps13
  go_wp2_with fail
  refine (s_best (1) (by decide) (n, hs') x _ _ _ (HR.out.below B0.out) (HA.out.below B0.out)).mono ?_
  rintro e w2 ⟨⟨y, rfl, ho⟩, hb⟩
  have B2 := Lib.hid (B0.out.trans (hb.mono B0.out.size))
  have HZ := Lib.hid (ho.mono (lo' := w.heap.size) B0.out.size (Nat.le_refl _))
  clear ho hb l0 l1
  go_wp2_with fail
  go_ret2
  exact ⟨⟨_, rfl, HZ.out⟩, B2.out⟩

set_option maxRecDepth 100000 in
theorem s_mostin (r : Rgn) (x : List Int) (v a : Value) (w : World) (hv : Rg w v r) (ha : Sl w a (intVals x)) :
    Calls Try.prog 15 #[v, a] w (Got w (leastR (-1) r.1 r.2 x)) := by
  obtain ⟨n, hs'⟩ := r
  have HR := Lib.hid hv
  have HA := Lib.hid ha
  obtain ⟨u, rfl, hss⟩ := hv
  simp only at hss ⊢
  obtain ⟨aa, ac, rfl, _, _⟩ := ha.shape
  have K := Lib.hid (Bk.new w #[.int .i64 n, u] 26)
  have B0 := Lib.hid (below1 w (.cells #[.int .i64 n, u] 26))
  obtain ⟨⟨l0, l1⟩, -⟩ := K.out.two
  clear hss ha
  go_enter Try.func15, Try.ntmps15
  go_wp2_with fail
  refine (s_best ((-1)) (by decide) (n, hs') x _ _ _ (HR.out.below B0.out) (HA.out.below B0.out)).mono ?_
  rintro e w2 ⟨⟨y, rfl, ho⟩, hb⟩
  have B2 := Lib.hid (B0.out.trans (hb.mono B0.out.size))
  have HZ := Lib.hid (ho.mono (lo' := w.heap.size) B0.out.size (Nat.le_refl _))
  clear ho hb l0 l1
  go_wp2_with fail
  go_ret2
  exact ⟨⟨_, rfl, HZ.out⟩, B2.out⟩
end Go.Proofs.Ytmogncpkdkdodaa
