/- Rows that the caller of an iterator collects: which blocks are theirs; append at an operation. -/
import Derived.Test.YtmogncpkdkdodaaMbj
import Derived.Test.YtmogncpkdkdodaaMan
import Derived.Test.YtmogncpkdkdodaaOrdIn
import Derived.Test.YtmogncpkdkdodaaMar
import Derived.Test.YtmogncpkdkdodaaMax
namespace Go.Proofs.Ytmogncpkdkdodaa
open Go Go.RowKit Go.Lib

/-- The rows vs of v, each in a block of its own. -/
def OwRB (T e : TypeId) (lo hi : Nat) (w : World) (v : Value) (vs : List Value) (zss : List (List Int)) : Prop :=
  vs.length = zss.length ∧ OwnV T lo hi w v vs ∧ (∀ (i : Nat) u zs, vs[i]? = some u → zss[i]? = some zs → OwnV e lo hi w u (intVals zs)) ∧
    (∀ (i j : Nat) u u' b, i ≠ j → vs[i]? = some u → vs[j]? = some u' → u.ownBlock = some b → u'.ownBlock ≠ some b) ∧ (∀ (i : Nat) u b, vs[i]? = some u → u.ownBlock = some b → v.ownBlock ≠ some b)
theorem OwRB.owr {T e : TypeId} {lo hi : Nat} {w : World} {v : Value} {vs : List Value} {zss : List (List Int)} (h : OwRB T e lo hi w v vs zss) : OwR T e lo hi w v zss := ⟨vs, h⟩
/-- The blocks of v and of its rows. -/
def rowBs (v : Value) (vs : List Value) : Bs := fun b => v.ownBlock = some b ∨ ∃ (i : Nat) (u : Value), vs[i]? = some u ∧ u.ownBlock = some b
theorem OwnV.same {e : TypeId} {lo hi lo' hi' : Nat} {w w' : World} {v : Value} {xs : List Value} (h : OwnV e lo hi w v xs) (hs : ∀ b, v.ownBlock = some b → w'.heap[b]? = w.heap[b]?) (h1 : lo' ≤ lo) (h2 : hi ≤ hi') : OwnV e lo' hi' w' v xs := by
  rcases h with h | ⟨g, cap, cur, rfl, k1, k2, hb, hr⟩
  · exact .inl h
  · exact .inr ⟨g, cap, cur, rfl, by omega, by omega, (hs g rfl).trans hb, hr⟩
theorem OwRB.same {T e : TypeId} {lo hi lo' hi' : Nat} {w w' : World} {v : Value} {vs : List Value} {zss : List (List Int)} (h : OwRB T e lo hi w v vs zss) (hs : ∀ b, rowBs v vs b → w'.heap[b]? = w.heap[b]?) (h1 : lo' ≤ lo) (h2 : hi ≤ hi') : OwRB T e lo' hi' w' v vs zss := by
  obtain ⟨k1, k2, k3, k4, k5⟩ := h
  exact ⟨k1, k2.same (fun b hb => hs b (.inl hb)) h1 h2, fun i u zs hu hz => (k3 i u zs hu hz).same (fun b hb => hs b (.inr ⟨i, u, hu, hb⟩)) h1 h2, k4, k5⟩
theorem OwRB.place {T e : TypeId} {lo hi : Nat} {w : World} {v : Value} {vs : List Value} {zss : List (List Int)} (h : OwRB T e lo hi w v vs zss) {b : Nat} (hb : rowBs v vs b) : lo ≤ b ∧ b < w.heap.size := by
  obtain ⟨k1, k2, k3, _⟩ := h
  rcases hb with hb | ⟨i, u, hu, hb⟩
  · have := k2.place hb; omega
  · have hi := lt_of_get hu
    have := (k3 i u _ hu (List.getElem?_eq_getElem (by omega))).place hb; omega
theorem OwRB.snoc {T e : TypeId} {base m : Nat} {w w' : World} {v v' u : Value} {zss : List (List Int)} {ys : List Int} (hu : OwnV e m w.heap.size w u (intVals ys)) (hbm : base ≤ m) (hm : m ≤ w.heap.size)
    {vs : List Value} (hvs : OwRB T e base m w v vs zss)
    (hr : w'.ownsRow base T 1 v' (vs.length + 1) (vs ++ [u])) (hg : w.grownBy w' v.ownBlock) (hat : ∀ b, v'.ownBlock = some b → v.ownBlock = some b ∨ w.heap.size ≤ b) : OwRB T e base w'.heap.size w' v' (vs ++ [u]) (zss ++ [ys]) := by
  obtain ⟨h1, h2, h3, h4, h5⟩ := hvs
  have get : ∀ (i : Nat) x, (vs ++ [u])[i]? = some x → (vs[i]? = some x ∧ i < vs.length) ∨ (i = vs.length ∧ x = u) := by
    intro i x hx
    by_cases hi : i < vs.length
    · rw [List.getElem?_append_left hi] at hx; exact .inl ⟨hx, hi⟩
    · rw [List.getElem?_append_right (by omega)] at hx
      have : i - vs.length < 1 := by have := lt_of_get hx; simpa using this
      have hz : i - vs.length = 0 := by omega
      rw [hz] at hx
      exact .inr ⟨by omega, by simpa using hx.symm⟩
  have place : ∀ (i : Nat) x b, vs[i]? = some x → x.ownBlock = some b → b < m := fun i x b hx hb => by
    have hi := lt_of_get hx
    exact ((h3 i x _ hx (List.getElem?_eq_getElem (by omega))).place hb).2.1
  have huv : ∀ b, u.ownBlock = some b → some b ≠ v.ownBlock := fun b hb e => by
    have p1 := (hu.place hb).1
    have p2 := (h2.place e.symm).2.1
    omega
  refine ⟨by rw [List.length_append, List.length_append, h1]; rfl, OwnV.of_owns hr, ?_, ?_, ?_⟩
  · intro i x zs hx hz
    rcases get i x hx with ⟨hx', hi⟩ | ⟨rfl, rfl⟩
    · rw [List.getElem?_append_left (by omega)] at hz
      exact ((h3 i x zs hx' hz).grown hg (fun b hb e => h5 i x b hx' hb e.symm)).mono (Nat.le_refl _) (Nat.le_trans hm hg.size)
    · rw [h1, List.getElem?_append_right (Nat.le_refl _), Nat.sub_self] at hz
      obtain rfl : ys = zs := by simpa using hz
      exact (hu.grown hg huv).mono hbm hg.size
  · intro i j x y b hij hx hy hxb
    rcases get i x hx with ⟨hx', _⟩ | ⟨rfl, rfl⟩
    · rcases get j y hy with ⟨hy', _⟩ | ⟨rfl, rfl⟩
      · exact h4 i j x y b hij hx' hy' hxb
      · intro hyb
        have p1 := (hu.place hyb).1
        have p2 := place i x b hx' hxb
        omega
    · rcases get j y hy with ⟨hy', _⟩ | ⟨rfl, rfl⟩
      · intro hyb
        have p1 := (hu.place hxb).1
        have p2 := place j y b hy' hyb
        omega
      · exact absurd rfl hij
  · intro i x b hx hxb hvb
    rcases get i x hx with ⟨hx', _⟩ | ⟨rfl, rfl⟩
    · rcases hat b hvb with h | h
      · exact h5 i x b hx' hxb h
      · have := place i x b hx' hxb; omega
    · rcases hat b hvb with h | h
      · exact huv b hxb h.symm
      · have := (hu.place hxb).2.2; omega

/-- append(out, row) at an operation. -/
theorem wp_app_rowB {o : Oper} {a : Act} {w : World} {K : Act → World → Prop} {Q : Exit → Act → World → Prop} (s x : Operand)
    (ho : o.op = .call { callee := .builtin .append, args := #[s, x], argTypes := #[28, 28] })
    (base m : Nat) (v u : Value) (vs : List Value) (zss : List (List Int)) (ys : List Int) (hs : a.eval s = v) (hown : OwRB 30 3 base m w v vs zss) (hu : OwnV 3 m w.heap.size w u (intVals ys))
    (H : Nat) (hx : a.eval x = .slice (some ⟨H, 0, none⟩) 1 1) (hnew : w.heap[H]? = some (.cells #[u] 30 (0, 0)))
    (hn : zss.length ≤ 1099511627776) (hbm : base ≤ m) (hm : m ≤ w.heap.size)
    (h : ∀ g cap w', OwRB 30 3 base w'.heap.size w' (.slice (some ⟨g, 0, none⟩) (zss.length + 1) cap) (vs ++ [u]) (zss ++ [ys]) → (v.ownBlock = some g ∨ w.heap.size ≤ g) → w.grownBy w' v.ownBlock → K (a.put o.dst (.slice (some ⟨g, 0, none⟩) (zss.length + 1) cap)) w') :
    o.wp Try.prog a w K Q := by
  obtain ⟨i0, hi, hz0, hz1, hz2⟩ := info_parts info_row
  have hown' := hown
  obtain ⟨h1, h2, h3, h4, h5⟩ := hown
  refine wp_append_lies w s x 28 ho base 30 i0 _ 1 24 Try.underlying28 hi hz0 hz1 hz2 rfl (by omega) v vs.length vs hs h2.owns ⟨H, 0, none⟩ 1 1 [u] hx rfl (World.news_of_block (cs := #[u]) hnew) (fun q hq => by rw [List.mem_singleton.1 hq]; exact own_one hu) (by omega) (by unfold maxLen; omega) (by omega) (by omega) w.heap.size rfl ?_
  intro g cap w' k1 k2 k3 k4
  rw [h1] at k1 ⊢
  refine h g cap w' ?_ (k3.elim (fun h => .inl h) (fun h => .inr (by omega))) k2
  refine OwRB.snoc hu hbm hm hown' (by rw [h1]; exact k1) k2 ?_
  intro b hb
  have hgb : g = b := by simpa [Value.ownBlock] using hb
  subst hgb
  rcases k3 with h | h
  · exact .inl h
  · exact .inr (by omega)
/-- The first m of three numbers in a block. -/
theorem sl_nums {w : World} {B : Nat} {x y z : Int} {T : TypeId} (m : Nat) (h1 : 1 ≤ m) (h3 : m ≤ 3) (hb : Bk w B #[.int .i64 x, .int .i64 y, .int .i64 z] T) : Sl w (.slice (some ⟨B, 0, none⟩) m 3) (intVals ([x, y, z].take m)) := by
  have hl : ([x, y, z].take m).length = m := by rw [List.length_take]; simp; omega
  refine .inr ⟨fun e => by have := congrArg List.length e; rw [intVals_len, hl] at this; simp at this; omega, B, 0, 3, by rw [intVals_len, hl], by rw [intVals_len, hl]; exact h3, by rw [intVals_len]; unfold maxLen; omega, hb.lt, fun i u hu => ?_⟩
  have hi := lt_of_get hu
  rw [intVals_len] at hi
  rw [intVals_get _ i hi] at hu
  obtain rfl := Option.some.inj hu
  rw [Nat.zero_add]
  rcases (by omega : i = 0 ∨ i = 1 ∨ i = 2) with rfl | rfl | rfl
  · exact hb.cell 0 (by simp)
  · exact hb.cell 1 (by simp)
  · exact hb.cell 2 (by simp)

/-- What holds at the body's start: the box of the point is there. -/
def MidX (J : List (List Int) → Bs → World → Prop) (act : List Int → Nat → Act) (x : List Int) (a' : Act) (pre : List (List Int)) (T' : Bs) (W' : World) : Prop :=
  ∃ (T : Bs) (X : Nat), T' = (fun k => T k ∨ k = X) ∧ ¬ T X ∧ J pre T W' ∧ Bk W' X #[.int .i64 (x.getD 0 0), .int .i64 (x.getD 1 0), .int .i64 (x.getD 2 0)] 77 ∧ a' = act x X
theorem midx_sep {J : List (List Int) → Bs → World → Prop} (h : Sep J) (act : List Int → Nat → Act) (x : List Int) (a' : Act) : Sep (MidX J act x a') := by
  refine ⟨fun s T w hj k hk => ?_, fun s T w w' hj hb hk => ?_⟩
  · obtain ⟨T0, X, rfl, h1, h2, h3, _⟩ := hj
    rcases hk with hk | rfl
    · exact h.lt _ _ _ h2 k hk
    · exact h3.lt
  · obtain ⟨T0, X, rfl, h1, h2, h3, h4⟩ := hj
    exact ⟨T0, X, rfl, h1, h.keep _ _ _ _ h2 hb (fun k e => hk k (.inl e)), (hk X (.inr rfl)).trans h3, h4⟩

/-- What PointsIn's loop keeps: the list's box, the rows. -/
def PtsI (B C m : Nat) (pre : List (List Int)) (T : Bs) (W : World) : Prop :=
  ∃ v vs, T = (fun b => b = C ∨ rowBs v vs b) ∧ Bk W C #[v] 28 ∧ OwRB 30 3 B W.heap.size W v vs (pre.map fun t => t.take m) ∧ ¬ rowBs v vs C
theorem ptsI_sep (B C m : Nat) : Sep (PtsI B C m) := by
  refine ⟨fun s T w hj k hk => ?_, fun s T w w' hj hb hk => ?_⟩
  · obtain ⟨v, vs, rfl, h1, h2, _⟩ := hj
    rcases hk with rfl | hk
    · exact h1.lt
    · exact (h2.place hk).2
  · obtain ⟨v, vs, rfl, h1, h2, h3⟩ := hj
    exact ⟨v, vs, rfl, (hk C (.inl rfl)).trans h1, h2.same (fun b hb => hk b (.inr hb)) (Nat.le_refl _) hb.size, h3⟩
end Go.Proofs.Ytmogncpkdkdodaa
/- The program's PointsIn. -/
namespace Go.Proofs.Ytmogncpkdkdodaa
open Go Go.RowKit Go.Lib Go.Shelf

attribute [local go_sem] Oper.semAt_some


theorem owrb_empty {T e : TypeId} {w : World} {base : Nat} (hb : base ≤ w.heap.size) : OwRB T e base (w.alloc (.cells #[] T)).heap.size (w.alloc (.cells #[] T)) (.slice (some ⟨w.heap.size, 0, none⟩) 0 0) [] [] :=
  ⟨rfl, OwnV.of_owns (owns_none hb), fun i u zs hu => by simp at hu, fun i j u u' b _ hu => by simp at hu, fun i u b hu => by simp at hu⟩
theorem owrb_empty_bs {g k : Nat} (h : rowBs (.slice (some ⟨g, 0, none⟩) 0 0) [] k) : k = g := by
  rcases h with h | ⟨i, u, h, _⟩
  · simpa [Value.ownBlock] using h.symm
  · simp at h

set_option maxRecDepth 100000 in
set_option maxHeartbeats 3200000 in
theorem i_pointsin (r : Rgn) (v : Value) (w : World) (hv : Rg w v r) :
    Calls Try.prog 10 #[v] w (MadeR w (ptsR r.1 r.2)) := by
  obtain ⟨n, hs'⟩ := r
  have HR := Lib.hid hv
  obtain ⟨u, rfl, hss⟩ := hv
  simp only at hss ⊢
  have K := Lib.hid (Bk.new w #[.int .i64 n, u] 26)
  have B0 := Lib.hid (below1 w (.cells #[.int .i64 n, u] 26))
  obtain ⟨⟨l0, l1⟩, -⟩ := K.out.two
  clear hss
  by_cases hr : regOk n hs' = true
  case neg =>
    have C1 := Lib.hid (bool_f hr)
    have E := Lib.hid (ptsR_f (bool_f hr))
    clear hr
    go_enter Try.func10, Try.ntmps10
    go_wp2_with fail
    refine (i_isreg (n, hs') _ _ (HR.out.below B0.out)).mono ?_
    rintro e w1 ⟨rfl, hb⟩
    rw [C1.out]
    have B1 := Lib.hid (B0.out.trans (hb.mono B0.out.size))
    clear hb
    go_wp2_with fail
    go_ret
    exact ⟨⟨_, rfl, by rw [E.out]; exact OwR.nil⟩, B1.out⟩
  obtain ⟨m, rfl⟩ : ∃ m : Nat, n = m := ⟨n.toNat, by have := (regOk_t hr).1; omega⟩
  have C1 := Lib.hid hr
  have E := Lib.hid ((ptsR_t hr).trans (tri_pts hr).symm)
  clear hr
  refine callsIn_wide (n := 9) |>.1 ?_
  refine callsIn_of_wp_marks Try.func10 rfl trivial ?_ rfl
  simp only [Try.ntmps10, List.size_toArray, List.length_cons, List.length_nil, Nat.reduceAdd, Nat.reduceSub, Array.replicate_succ, Array.replicate_zero, List.push_toArray, List.append_toArray, List.nil_append, List.cons_append]
  gi_wp2_with (first | (refine ⟨trivial, ?_⟩; gi_at_call 49; refine (callsIn_wide.2 (i_isreg (m, hs') _ _ (HR.out.below B0.out))).mono ?_; rintro e w1 ⟨rfl, hb⟩; rw [C1.out]; have B1 := Lib.hid (B0.out.trans (hb.mono B0.out.size)); have K2 := Lib.hid ((K.out.below hb).below (below2 w1 (.cells #[] 30) (.cells #[.slice (some ⟨w1.heap.size, 0, none⟩) 0 0] 28))); obtain ⟨⟨l2, l3⟩, -⟩ := K2.out.two; have HR1 := Lib.hid (show w.heap.size < w1.heap.size from by have := hb.size; simp at this; omega); clear hb) | (refine ⟨trivial, ?_⟩; gi_at_call 50; refine (callsIn_wide.2 (i_points (m, hs') _ _ ((HR.out.below B1.out).below (below2 _ _ _)) C1.out)).mono ?_; rintro e w2 ⟨B, G, g, c, U, rfl, hP, hb2, hB, hG, hg⟩))
  have HC := Lib.hid ((Bk.newAt (w := w1.alloc (.cells #[] 30)) (b := w1.heap.size + 1) (by simp) #[.slice (some ⟨w1.heap.size, 0, none⟩) 0 0] 28).below hb2)
  have hsz2 : w1.heap.size + 2 ≤ w2.heap.size := by have := hb2.size; simpa using this
  have HO : Hid (OwRB 30 3 (w.heap.size + 1) w2.heap.size w2 (.slice (some ⟨w1.heap.size, 0, none⟩) 0 0) [] []) :=
    (owrb_empty (w := w1) (base := w.heap.size + 1) HR1.out).same (fun b hb => (hb2.block b (by have := owrb_empty_bs hb; simp; omega)).trans (Below.heap_alloc _ _ _ (by have := owrb_empty_bs hb; simp; omega))) (Nat.le_refl _) (by simp; omega)
  have HK := Lib.hid (K2.out.below hb2)
  have HB2 := Lib.hid (B1.out.trans (((below2 w1 (.cells #[] 30) (.cells #[.slice (some ⟨w1.heap.size, 0, none⟩) 0 0] 28)).trans (hb2.mono (by simp; omega))).mono B1.out.size))
  have hC0 := B1.out.size
  have hRw : w.heap.size < w1.heap.size := HR1.out
  simp only [World.size_alloc] at hB hG hg
  have hlen := tri_len_le m hs'
  have hm1 : 1 ≤ m := by have := (regOk_t C1.out).1; omega
  have hm3 : m ≤ 3 := by have := (regOk_t C1.out).2.1; omega
  clear l0 l1 l2 l3 hb2
  have HP := Lib.hid hP
  clear hP
  refine wp_rangeT (gf := 97) (lb := #[.pointer (some ⟨B, 0, none⟩), .pointer (some ⟨G, 0, none⟩)]) rfl (enters_of Try.func97 (by kernel_rfl) rfl)
    (i_points1 B G g c m U hs' C1.out) (fun w' hb => HP.out.fol (Fol.of_below (T := fun _ => False) hb) ⟨id, id, id⟩) (fun _ => rfl)
    (PtsI (w.heap.size + 1) (w1.heap.size + 1) m) (fun _ _ _ _ => False)
    (MidX (PtsI (w.heap.size + 1) (w1.heap.size + 1) m) (fun x X => { tmps := #[.agg #[.int .i64 m, u], .pointer (some ⟨w.heap.size, 0, none⟩), .slice none 0 0, .pointer (some ⟨w1.heap.size + 1, 0, none⟩), .pointer (some ⟨X, 0, none⟩), .agg #[.int .i64 m, u], .bool true, .bool false, .slice (some ⟨w1.heap.size, 0, none⟩) 0 0, .agg #[.int .i64 m, u],
      .func (.func 97) #[] #[.pointer (some ⟨B, 0, none⟩), .pointer (some ⟨G, 0, none⟩)], .agg #[.int .i64 (x.getD 0 0), .int .i64 (x.getD 1 0), .int .i64 (x.getD 2 0)], undef, undef, undef, undef, undef, undef, undef, undef], defers := [] }))
    (ptsI_sep _ _ _) (fun cc => Sep.no) (fun x a' => midx_sep (ptsI_sep _ _ _) _ x a') (fun b => b = w1.heap.size + 1 ∨ rowBs (.slice (some ⟨w1.heap.size, 0, none⟩) 0 0) [] b) ⟨_, [], rfl, HC.out, HO.out, fun e => by have := owrb_empty_bs e; omega⟩ ?hu ?assign ?body ?done ?stop
  case hu =>
    rintro k (rfl | rfl | rfl)
    · exact ⟨HP.out.1.lt, fun e => e.elim (fun e => by omega) (fun e => by have := owrb_empty_bs e; omega)⟩
    · exact ⟨HP.out.2.1.lt, fun e => e.elim (fun e => by omega) (fun e => by have := owrb_empty_bs e; omega)⟩
    · exact ⟨HP.out.2.2.tight.2.2, fun e => e.elim (fun e => by omega) (fun e => by have := owrb_empty_bs e; omega)⟩
  case assign =>
    intro l2 pre x T2 W2 hsz hj hg hf hpre
    have HJ2 := Lib.hid hj
    have HX := Lib.hid (Bk.new W2 #[.int .i64 (x.getD 0 0), .int .i64 (x.getD 1 0), .int .i64 (x.getD 2 0)] 77)
    have hx2 := Lib.hid (fun e => by have := (ptsI_sep _ _ _).lt _ _ _ hj _ e; omega : ¬ T2 W2.heap.size)
    clear hj hg hf hpre
    unfold encN nums3
    gi_wp2
    exact ⟨fun k => T2 k ∨ k = W2.heap.size, fun k hk => hk.elim .inl (fun e => .inr (by omega)), (Fol.refl _ _).alloc _, T2, W2.heap.size, rfl, hx2.out, (ptsI_sep _ _ _).later HJ2.out (below1 _ _), HX.out, rfl⟩
  case body =>
    rintro l2 pre x a' T' V hsz ⟨T2, X, rfl, hX, ⟨lv, vs, rfl, hC, hO, hnC⟩, hBx, rfl⟩ hg hf hpre
    obtain ⟨q1, q2, q3, rfl, _⟩ := trip_mem (n := m) (t := x) ((List.mem_filter.1 (hpre.subset (List.mem_append_right _ (List.mem_singleton.2 rfl)))).1)
    simp only [List.getD_cons_zero, List.getD_cons_succ] at hBx ⊢
    have hl := pre_len hpre
    have hXC : X ≠ w1.heap.size + 1 := fun e => hX (.inl e)
    have HXR := Lib.hid (show ¬ rowBs lv vs X from fun e => hX (.inr e))
    have HKV := Lib.hid (hf.bk HK.out (fun e => e.elim (fun e => by omega) (fun e => by have := owrb_empty_bs e; omega)))
    have HCV := Lib.hid hC
    have HOV := Lib.hid hO
    have HnC := Lib.hid hnC
    have HBx := Lib.hid hBx
    have HSl := Lib.hid (sl_nums m hm1 hm3 hBx)
    have HsV := Lib.hid hsz
    have hxl := Lib.hid (show ([q1, q2, q3].take m).length = m by rw [List.length_take]; simp; omega)
    have m1 : V.cell? ⟨w1.heap.size + 1, 0, none⟩ = some lv := hC.cell 0 rfl
    have m2 : V.cell? ⟨w.heap.size, 0, none⟩ = some (.int .i64 m) := HKV.out.cell 0 rfl
    clear hC hO hnC hBx hg hf hX hsz hpre
    have n1 : (0 : Int) ≤ (m : Int) := by omega
    have n2 : (m : Int) ≤ (3 : Int) := by omega
    gi_wp2
    refine T_into (z := fun k => 6 < k) (S := (fun (w' : World) => w'.cell? ⟨w1.heap.size + 1, 0, none⟩ = some lv ∧ w'.cell? ⟨w.heap.size, 0, none⟩ = some (.int .i64 m))) (by kernel_rfl) (by rintro ⟨a, w, h⟩; exact h) (by kernel_rfl) ?_
    show wpAnyT _ _ _ _ _ _ 8 _ _ _
    have hS0 := Lib.hid (show (fun (w' : World) => w'.cell? ⟨w1.heap.size + 1, 0, none⟩ = some lv ∧ w'.cell? ⟨w.heap.size, 0, none⟩ = some (.int .i64 m)) V.drew from ⟨m1, m2⟩)
    refine T_take (i := 0) (v := lv) rfl (by kernel_rfl) (by kernel_rfl) (by kernel_rfl) (by kernel_rfl) (fun _ _ _ h => h) hS0.out rfl (fun w' hS' => by (try dsimp only at hS'); go_simp) ?_
    refine T_take (i := 1) (v := .pointer (some ⟨w.heap.size, 0, none⟩)) rfl (by kernel_rfl) (by kernel_rfl) (by kernel_rfl) (by kernel_rfl) (fun _ _ _ h => h) hS0.out rfl (fun w' hS' => by (try dsimp only at hS'); go_simp) ?_
    refine T_take (i := 2) (v := .int .i64 m) rfl (by kernel_rfl) (by kernel_rfl) (by kernel_rfl) (by kernel_rfl) (fun _ _ _ h => h) hS0.out rfl (fun w' hS' => by (try dsimp only at hS'); go_simp) ?_
    refine T_take (i := 3) (v := .slice (some ⟨X, 0, none⟩) m 3) rfl (by kernel_rfl) (by kernel_rfl) (by kernel_rfl) (by kernel_rfl) (fun _ _ _ h => h) hS0.out rfl (fun w' hS' => by (try dsimp only at hS'); go_simp) ?_
    refine T_step (i := 4) rfl (by kernel_rfl) rfl rfl ?_
    intro K hK
    go_simp
    refine (i_clone ([q1, q2, q3].take m) (some ⟨X, 0, none⟩) m 3 _ (by have := hxl.out; omega) (by have := hxl.out; omega) (HSl.out.below (Below.refl _ _).drew)).mono ?_
    rintro e w3 ⟨⟨z, rfl, ho⟩, hb⟩
    have hb : Below V.heap.size V w3 := (Below.refl _ _).drew.trans hb
    obtain ⟨ra, rc, rfl, _⟩ := ho.shape1
    rw [intVals_len, hxl.out] at ho ⊢
    have HO3 := Lib.hid (show OwnV 3 V.heap.size w3.heap.size w3 _ _ from ho)
    have HB3 := Lib.hid hb
    have s1 := show (fun (w' : World) => w'.cell? ⟨w1.heap.size + 1, 0, none⟩ = some lv ∧ w'.cell? ⟨w.heap.size, 0, none⟩ = some (.int .i64 m)) w3 from ⟨(hb.cell (p := ⟨w1.heap.size + 1, 0, none⟩) HCV.out.lt).trans m1, (hb.cell (p := ⟨w.heap.size, 0, none⟩) HKV.out.lt).trans m2⟩
    clear ho hb m1 m2 hS0
    refine hK.out _ _ s1 ?_
    clear hK K
    refine T_step (i := 5) rfl (by kernel_rfl) rfl rfl ?_
    intro K hK
    go_simp
    have hb4 := below1 w3 (.cells #[.slice ra m rc] 30)
    have s2 := show (fun (w' : World) => w'.cell? ⟨w1.heap.size + 1, 0, none⟩ = some lv ∧ w'.cell? ⟨w.heap.size, 0, none⟩ = some (.int .i64 m)) (w3.alloc (.cells #[.slice ra m rc] 30)) from ⟨(hb4.cell (p := ⟨w1.heap.size + 1, 0, none⟩) (Nat.lt_of_lt_of_le HCV.out.lt HB3.out.size)).trans s1.1, (hb4.cell (p := ⟨w.heap.size, 0, none⟩) (Nat.lt_of_lt_of_le HKV.out.lt HB3.out.size)).trans s1.2⟩
    have HB4 := Lib.hid (HB3.out.trans (hb4.mono HB3.out.size))
    have HO4 := Lib.hid ((HO3.out.below hb4).mono (Nat.le_refl _) hb4.size)
    have HN := Lib.hid (heap_alloc_new w3 (.cells #[.slice ra m rc] 30))
    have HV4 := Lib.hid (HOV.out.same (fun b hb => HB4.out.block b (HOV.out.place hb).2) (Nat.le_refl _) (Nat.le_refl _))
    clear hb4 s1 HO3
    refine hK.out _ _ s2 ?_
    clear hK K
    refine T_step (i := 6) rfl (by kernel_rfl) rfl rfl ?_
    intro K hK
    refine wp_app_rowB _ _ (by rfl) (w.heap.size + 1) V.heap.size lv (.slice ra m rc) vs (pre.map fun t => t.take m) ([q1, q2, q3].take m) (by rfl) HV4.out HO4.out w3.heap.size (by rfl) HN.out (by rw [List.length_map]; omega) (by have := HsV.out; have := HB2.out.size; omega) HB4.out.size ?_
    intro gg cap w5 ho hpl hgr
    have hs4 := HB4.out.size
    have HF5 := Lib.hid (show Fol (fun k => k = w1.heap.size + 1 ∨ rowBs lv vs k) V w5 from (Fol.of_below HB4.out).grown hgr (fun b hb => .inl (.inr (.inl hb))))
    have HC5 := Lib.hid (show Bk w5 (w1.heap.size + 1) #[lv] 28 from (HCV.out.below HB4.out).grown hgr (fun e => HnC.out (.inl e.symm)))
    have s3 := show (fun (w' : World) => w'.cell? ⟨w1.heap.size + 1, 0, none⟩ = some lv ∧ w'.cell? ⟨w.heap.size, 0, none⟩ = some (.int .i64 m)) w5 from ⟨HC5.out.cell 0 rfl, ((HKV.out.below HB4.out).grown hgr (fun e => by have := (HOV.out.place (.inl e.symm)); omega)).cell 0 rfl⟩
    have HO5 := Lib.hid ho
    have HRow : Hid (∀ b, rowBs (.slice (some ⟨gg, 0, none⟩) (pre.length + 1) cap) (vs ++ [.slice ra m rc]) b → rowBs lv vs b ∨ V.heap.size ≤ b) := by
      rintro b (e | ⟨i, z, hz, e⟩)
      · simp only [Value.ownBlock, Option.some.injEq] at e
        subst e
        exact hpl.imp (fun e => .inl e) (fun e => by omega)
      · by_cases hi : i < vs.length
        · rw [List.getElem?_append_left hi] at hz
          exact .inl (.inr ⟨i, z, hz, e⟩)
        · rw [List.getElem?_append_right (by omega)] at hz
          have h0 : i - vs.length = 0 := by have := lt_of_get hz; simp at this; omega
          rw [h0] at hz
          simp only [List.getElem?_cons_zero, Option.some.injEq] at hz
          subst hz
          exact .inr (HO4.out.place e).1
    clear ho hpl hgr s2 HO4 HN HV4 hs4
    refine hK.out _ _ s3 ?_
    clear hK K s3
    have f0 := HC5.out.free 0
    have c0 : w5.cell? ⟨w1.heap.size + 1, 0, none⟩ = some lv := HC5.out.cell 0 rfl
    refine T_last (i := 7) rfl (by kernel_rfl) (by kernel_rfl) rfl rfl ?_
    go_simp
    have hpv : ∀ b, rowBs (.slice (some ⟨gg, 0, none⟩) (pre.length + 1) cap) (vs ++ [.slice ra m rc]) b → rowBs lv vs b ∨ V.heap.size ≤ b := HRow.out
    refine ⟨fun k => k = w1.heap.size + 1 ∨ rowBs (.slice (some ⟨gg, 0, none⟩) (pre.length + 1) cap) (vs ++ [.slice ra m rc]) k, fun k hk => hk.elim (fun e => .inl (.inl (.inl e))) (fun e => (hpv k e).imp (fun e => .inl (.inr e)) id), (HF5.out.mono (fun _ _ e => .inl e)).setCell (p := ⟨w1.heap.size + 1, 0, none⟩) (.inl (.inl (.inl rfl))) _, _, _, rfl, HC5.out.set 0 _ (by simp), ?_, ?_⟩
    · have h6 := HO5.out
      rw [List.length_map] at h6
      rw [List.map_append, List.map_singleton]
      exact h6.same (fun b hb => Below.heap_setCell _ _ _ _ (fun e => (hpv b hb).elim (fun e2 => HnC.out (by rw [e] at e2; exact e2)) (fun e2 => by have := HCV.out.lt; simp only at e; omega))) (Nat.le_refl _) (by simp [World.setCell])
    · intro e
      exact (hpv _ e).elim HnC.out (fun e2 => by have := HCV.out.lt; omega)
  case done =>
    rintro T' W2 hg2 hf hsz ⟨lv, vs, rfl, hC, hO, hnC⟩ hn hK
    have c0 : W2.cell? ⟨w1.heap.size + 1, 0, none⟩ = some lv := hC.cell 0 rfl
    have HB4 := Lib.hid (HB2.out.trans (hf.to_below (B := w.heap.size) (fun k e => e.elim (fun e => by omega) (fun e => by have := owrb_empty_bs e; omega)) HB2.out.size))
    have hD := HB2.out.size
    have HN := Lib.hid hn
    have HO2 := Lib.hid hO
    clear hf hg2 hC hO hn hnC
    gi_wp2
    refine ⟨by simp, .inl ⟨_, _, rfl, run_takeDeferred hK, ?_⟩⟩
    refine ⟨lv, results_tmp (t := 2) rfl _ _ _, ⟨lv, rfl, ?_⟩, HB4.out.trans ((Below.refl _ W2).grown (grownBy_putObj' W2 w2.heap.size (.deferred none)) (by omega) (fun k e => by cases e; omega))⟩
    rw [E.out]
    exact (HO2.out.same (fun b hb => World.putObj_heap_other (fun e => HN.out (by subst e; exact .inr hb))) (Nat.le_succ _) (by simp)).owr
  case stop => exact fun cc pre T' W2 _ _ _ _ h _ _ => h.elim
end Go.Proofs.Ytmogncpkdkdodaa
/- The program's LeastIn. -/
namespace Go.Proofs.Ytmogncpkdkdodaa
open Go Go.RowKit Go.Lib Go.Shelf

attribute [local go_sem] Oper.semAt_some

/-- What LeastIn's loop keeps: the best one so far, and whether there is one. -/
def LstI (Bb Bf : Nat) (f3 : List Int → Int) (pre : List (List Int)) (T : Bs) (W : World) : Prop :=
  T = (fun k => k = Bb ∨ k = Bf) ∧ Bk W Bb #[.int .i64 ((firstD f3 [0, 0, 0] pre).getD 0 0), .int .i64 ((firstD f3 [0, 0, 0] pre).getD 1 0), .int .i64 ((firstD f3 [0, 0, 0] pre).getD 2 0)] 77 ∧ Bk W Bf #[.bool (!pre.isEmpty)] 4
theorem lstI_sep (Bb Bf : Nat) (f3 : List Int → Int) : Sep (LstI Bb Bf f3) := by
  refine ⟨fun s T w hj k hk => ?_, fun s T w w' hj hb hk => ?_⟩
  · obtain ⟨rfl, h1, h2⟩ := hj
    rcases hk with rfl | rfl
    · exact h1.lt
    · exact h2.lt
  · obtain ⟨rfl, h1, h2⟩ := hj
    exact ⟨rfl, (hk Bb (.inl rfl)).trans h1, (hk Bf (.inr rfl)).trans h2⟩
theorem vec_small {x : List Int} (h : isV x = true) (i : Nat) : -1000 ≤ x.getD i 0 ∧ x.getD i 0 ≤ 1000 := by
  have hb := small_bd (isV_t h).2.2
  rw [List.getD_eq_getElem?_getD]
  by_cases hi : i < x.length
  · rw [List.getElem?_eq_getElem hi]
    have := hb i hi
    simp only [Option.getD_some]; omega
  · rw [List.getElem?_eq_none (by omega)]
    simp
/-- The cells that one comparison reads. -/
def LstS (By X Bb Bf : Nat) (x y z q1 q2 q3 b1 b2 b3 : Int) (w : World) : Prop :=
  Bk w By #[.int .i64 x, .int .i64 y, .int .i64 z] 77 ∧ Bk w X #[.int .i64 q1, .int .i64 q2, .int .i64 q3] 77 ∧ Bk w Bb #[.int .i64 b1, .int .i64 b2, .int .i64 b3] 77 ∧ Bk w Bf #[.bool true] 4
theorem LstS.below {By X Bb Bf : Nat} {x y z q1 q2 q3 b1 b2 b3 : Int} {w w' : World} (h : LstS By X Bb Bf x y z q1 q2 q3 b1 b2 b3 w) (hb : Below w.heap.size w w') : LstS By X Bb Bf x y z q1 q2 q3 b1 b2 b3 w' :=
  ⟨h.1.below hb, h.2.1.below hb, h.2.2.1.below hb, h.2.2.2.below hb⟩
theorem OwnV.putObj {e : TypeId} {lo hi D : Nat} {w : World} {v : Value} {xs : List Value} (h : OwnV e lo hi w v xs) (o : Obj) (hD : D < lo) : OwnV e lo hi (w.putObj D o) v xs :=
  h.same (fun b hb => World.putObj_heap_other (by have := h.place hb; omega)) (Nat.le_refl _) (Nat.le_refl _)

theorem lst_put {Bb Bf : Nat} (hne : Bb ≠ Bf) {V : World} {p q r s : Value} {R S : TypeId} (hb : Bk V Bb #[p, q, r] R) (hf : Bk V Bf #[s] S) (a b c u : Value) :
    Bk ((((V.setCell ⟨Bb, 0, none⟩ a).setCell ⟨Bb, 1, none⟩ b).setCell ⟨Bb, 2, none⟩ c).setCell ⟨Bf, 0, none⟩ u) Bb #[a, b, c] R ∧ Bk ((((V.setCell ⟨Bb, 0, none⟩ a).setCell ⟨Bb, 1, none⟩ b).setCell ⟨Bb, 2, none⟩ c).setCell ⟨Bf, 0, none⟩ u) Bf #[u] S ∧
      ∀ (T : Bs) (W : World), T Bb → T Bf → Fol T W V → Fol T W ((((V.setCell ⟨Bb, 0, none⟩ a).setCell ⟨Bb, 1, none⟩ b).setCell ⟨Bb, 2, none⟩ c).setCell ⟨Bf, 0, none⟩ u) := by
  refine ⟨?_, ?_, fun T W h1 h2 hfol => (((hfol.setCell (p := ⟨Bb, 0, none⟩) (.inl h1) _).setCell (p := ⟨Bb, 1, none⟩) (.inl h1) _).setCell (p := ⟨Bb, 2, none⟩) (.inl h1) _).setCell (p := ⟨Bf, 0, none⟩) (.inl h2) _⟩
  · have h1 : Bk _ Bb #[a, q, r] R := hb.set 0 a (by simp)
    have h2 : Bk _ Bb #[a, b, r] R := h1.set 1 b (by simp)
    have h3 : Bk _ Bb #[a, b, c] R := h2.set 2 c (by simp)
    exact h3.other (p := ⟨Bf, 0, none⟩) (fun e => hne e.symm) u
  · have h1 := ((hf.other (p := ⟨Bb, 0, none⟩) hne a).other (p := ⟨Bb, 1, none⟩) hne b).other (p := ⟨Bb, 2, none⟩) hne c
    exact h1.set 0 u (by simp)

set_option maxRecDepth 100000 in
set_option maxHeartbeats 6400000 in
theorem i_leastin (r : Rgn) (x : List Int) (v a : Value) (w : World) (hv : Rg w v r) (ha : Sl w a (intVals x)) :
    Calls Try.prog 12 #[v, a] w (Got w (leastR 1 r.1 r.2 x)) := by
  obtain ⟨n, hs'⟩ := r
  have HR := Lib.hid hv
  have HA := Lib.hid ha
  obtain ⟨u, rfl, hss⟩ := hv
  simp only at hss ⊢
  obtain ⟨aa, ac, rfl, _, _⟩ := ha.shape
  have K := Lib.hid (Bk.new w #[.int .i64 n, u] 26)
  have B0 := Lib.hid (below1 w (.cells #[.int .i64 n, u] 26))
  obtain ⟨⟨l0, l1⟩, -⟩ := K.out.two
  clear hss ha
  by_cases hp : ptR (n, hs') x = true
  case neg =>
    have C1 := Lib.hid (bool_f hp)
    have E := Lib.hid (leastR_f (s := 1) (bool_f hp))
    clear hp
    go_enter Try.func12, Try.ntmps12
    go_wp2_with fail
    refine (i_pointfor (n, hs') x _ _ _ (HR.out.below B0.out) (HA.out.below B0.out)).mono ?_
    rintro e w1 ⟨rfl, hb⟩
    rw [C1.out]
    have B1 := Lib.hid (B0.out.trans (hb.mono B0.out.size))
    clear hb
    go_wp2_with fail
    go_ret2
    rw [E.out]
    exact ⟨⟨_, rfl, OwnV.nil⟩, B1.out⟩
  obtain ⟨hr, hxv, hxl⟩ := ptR_t hp
  simp only at hr hxl
  obtain ⟨m, rfl⟩ : ∃ m : Nat, n = m := ⟨n.toNat, by have := (regOk_t hr).1; omega⟩
  have C1 := Lib.hid hp
  have C2 := Lib.hid hr
  have hm1 : 1 ≤ m := by have := (regOk_t hr).1; omega
  have hm3 : m ≤ 3 := by have := (regOk_t hr).2.1; omega
  have hxm : x.length = m := by omega
  have HPad := Lib.hid (pad_fx x (by omega) (by omega))
  have HF3 := Lib.hid (fun (t : List Int) (ht : t ∈ triR m hs') => show (fun p => 1 * dotL x p) (t.take m) = dot3 x t by
    obtain ⟨a, b, c, rfl, _⟩ := trip_mem (List.mem_filter.1 ht).1
    show 1 * _ = _
    rw [Int.one_mul]; exact dot_three hxm hm1 hm3)
  obtain ⟨y1, hy1⟩ : ∃ q, x.getD 0 0 = q := ⟨_, rfl⟩
  obtain ⟨y2, hy2⟩ : ∃ q, x.getD 1 0 = q := ⟨_, rfl⟩
  obtain ⟨y3, hy3⟩ : ∃ q, x.getD 2 0 = q := ⟨_, rfl⟩
  have HY := Lib.hid (And.intro hy1 (And.intro hy2 hy3))
  have s1 := vec_small hxv 0
  have s2 := vec_small hxv 1
  have s3 := vec_small hxv 2
  rw [hy1, hy2, hy3] at HPad
  rw [hy1] at s1
  rw [hy2] at s2
  rw [hy3] at s3
  have HL := Lib.hid hxv
  clear hp hr hy1 hy2 hy3 hxl hxv
  refine callsIn_wide (n := 9) |>.1 ?_
  refine callsIn_of_wp_marks Try.func12 rfl trivial ?_ rfl
  simp only [Try.ntmps12, List.size_toArray, List.length_cons, List.length_nil, Nat.reduceAdd, Nat.reduceSub, Array.replicate_succ, Array.replicate_zero, List.push_toArray, List.append_toArray, List.nil_append, List.cons_append]
  gi_wp2_with (first | (refine ⟨trivial, ?_⟩; gi_at_call 53; refine (callsIn_wide.2 (i_pointfor (m, hs') x _ _ _ (HR.out.below B0.out) (HA.out.below B0.out))).mono ?_; rintro e w1 ⟨rfl, hb⟩; rw [C1.out]; have B1 := Lib.hid (B0.out.trans (hb.mono B0.out.size)); have K1 := Lib.hid (K.out.below hb); have HZ1 := Lib.hid (show w.heap.size + 1 ≤ w1.heap.size by have := hb.size; simpa using this); clear hb) | (refine ⟨trivial, ?_⟩; gi_at_call 54; refine (callsIn_wide.2 (i_num x y1 y2 y3 HPad.out (by omega) (by omega) _ _ (HA.out.below B1.out))).mono ?_; rintro e w2 ⟨rfl, hb⟩; have B2 := Lib.hid (B1.out.trans (hb.mono B1.out.size)); have HZ2 := Lib.hid (Nat.le_trans HZ1.out hb.size); have K2 := Lib.hid ((K1.out.below hb).below (below3 w2 (.cells #[.int .i64 y1, .int .i64 y2, .int .i64 y3] 77) (.cells #[.int .i64 0, .int .i64 0, .int .i64 0] 77) (.cells #[.bool false] 4))); obtain ⟨⟨l2, l3⟩, -⟩ := K2.out.two; clear hb) | (refine ⟨trivial, ?_⟩; gi_at_call 50; refine (callsIn_wide.2 (i_points (m, hs') _ _ ((HR.out.below B2.out).below (below3 _ _ _ _)) C2.out)).mono ?_; rintro e w3 ⟨B, G, g, c, U, rfl, hP, hb3, hB, hG, hg⟩))
  have hsz3 : w2.heap.size + 3 ≤ w3.heap.size := by have := hb3.size; simpa using this
  have HBy := Lib.hid ((((Bk.new w2 #[.int .i64 y1, .int .i64 y2, .int .i64 y3] 77).alloc (.cells #[.int .i64 0, .int .i64 0, .int .i64 0] 77)).alloc (.cells #[.bool false] 4)).below hb3)
  have HBb := Lib.hid (((Bk.newAt (w := w2.alloc (.cells #[.int .i64 y1, .int .i64 y2, .int .i64 y3] 77)) (b := w2.heap.size + 1) (by simp) #[.int .i64 0, .int .i64 0, .int .i64 0] 77).alloc (.cells #[.bool false] 4)).below hb3)
  have HBf := Lib.hid ((Bk.newAt (w := (w2.alloc (.cells #[.int .i64 y1, .int .i64 y2, .int .i64 y3] 77)).alloc (.cells #[.int .i64 0, .int .i64 0, .int .i64 0] 77)) (b := w2.heap.size + 1 + 1) (by simp) #[.bool false] 4).below hb3)
  have HK := Lib.hid (K2.out.below hb3)
  have HB3 := Lib.hid (B2.out.trans (((below3 w2 (.cells #[.int .i64 y1, .int .i64 y2, .int .i64 y3] 77) (.cells #[.int .i64 0, .int .i64 0, .int .i64 0] 77) (.cells #[.bool false] 4)).trans (hb3.mono (by simp; omega))).mono B2.out.size))
  have hzz := HZ2.out
  have hws := B2.out.size
  simp only [World.size_alloc] at hB hG hg
  clear l0 l1 l2 l3 hb3
  have HP := Lib.hid hP
  clear hP
  refine wp_rangeT (gf := 97) (lb := #[.pointer (some ⟨B, 0, none⟩), .pointer (some ⟨G, 0, none⟩)]) rfl (enters_of Try.func97 (by kernel_rfl) rfl)
    (i_points1 B G g c m U hs' C2.out) (fun w' hb => HP.out.fol (Fol.of_below (T := fun _ => False) hb) ⟨id, id, id⟩) (fun _ => rfl)
    (LstI (w2.heap.size + 1) (w2.heap.size + 1 + 1) (dot3 x)) (fun _ _ _ _ => False)
    (MidX (LstI (w2.heap.size + 1) (w2.heap.size + 1 + 1) (dot3 x)) (fun p X => { tmps := #[.agg #[.int .i64 m, u], .slice aa (intVals x).length ac, .pointer (some ⟨w.heap.size, 0, none⟩), undef, .slice none 0 0, .bool false, .pointer (some ⟨w2.heap.size, 0, none⟩), .pointer (some ⟨w2.heap.size + 1, 0, none⟩), .pointer (some ⟨w2.heap.size + 1 + 1, 0, none⟩), .pointer (some ⟨X, 0, none⟩),
      .agg #[.int .i64 m, u], .slice aa (intVals x).length ac, .bool true, .bool false, .slice aa (intVals x).length ac, .agg #[.int .i64 y1, .int .i64 y2, .int .i64 y3], .agg #[.int .i64 m, u],
      .func (.func 97) #[] #[.pointer (some ⟨B, 0, none⟩), .pointer (some ⟨G, 0, none⟩)], .agg #[.int .i64 (p.getD 0 0), .int .i64 (p.getD 1 0), .int .i64 (p.getD 2 0)], undef, undef, undef, undef, undef, undef, undef, undef, undef, undef, undef, undef, undef, undef, undef, undef, undef, undef, undef, undef], defers := [] }))
    (lstI_sep _ _ _) (fun cc => Sep.no) (fun x a' => midx_sep (lstI_sep _ _ _) _ x a') (fun b => b = w2.heap.size + 1 ∨ b = w2.heap.size + 1 + 1) ⟨rfl, HBb.out, HBf.out⟩ ?hu ?assign ?body ?done ?stop
  case hu =>
    rintro k (rfl | rfl | rfl)
    · exact ⟨HP.out.1.lt, by omega⟩
    · exact ⟨HP.out.2.1.lt, by omega⟩
    · exact ⟨HP.out.2.2.tight.2.2, by omega⟩
  case assign =>
    intro l2 pre p T2 W2 hsz hj hg hf hpre
    have HJ2 := Lib.hid hj
    have HX := Lib.hid (Bk.new W2 #[.int .i64 (p.getD 0 0), .int .i64 (p.getD 1 0), .int .i64 (p.getD 2 0)] 77)
    have hx2 := Lib.hid (fun e => by have := (lstI_sep _ _ _).lt _ _ _ hj _ e; omega : ¬ T2 W2.heap.size)
    clear hj hg hf hpre
    unfold encN nums3
    gi_wp2
    exact ⟨fun k => T2 k ∨ k = W2.heap.size, fun k hk => hk.elim .inl (fun e => .inr (by omega)), (Fol.refl _ _).alloc _, T2, W2.heap.size, rfl, hx2.out, (lstI_sep _ _ _).later HJ2.out (below1 _ _), HX.out, rfl⟩
  case body =>
    rintro l2 pre p a' T' V hsz ⟨T2, X, rfl, hX, ⟨rfl, hBb, hBf⟩, hBx, rfl⟩ hg hf hpre
    have hpm := hpre.subset (List.mem_append_right _ (List.mem_singleton.2 rfl))
    obtain ⟨q1, q2, q3, rfl, r1, r2, r3, _⟩ := trip_mem (n := m) (t := p) (List.mem_filter.1 hpm).1
    simp only [List.getD_cons_zero, List.getD_cons_succ] at hBx ⊢
    have hX1 : X ≠ w2.heap.size + 1 := fun e => hX (.inl e)
    have hX2 : X ≠ w2.heap.size + 1 + 1 := fun e => hX (.inr e)
    have HByV := Lib.hid (hf.bk HBy.out (by omega))
    have HSub := Lib.hid (show ∀ t ∈ pre, t ∈ triR m hs' from fun t ht => hpre.subset (List.mem_append_left _ ht))
    clear hX hg hf hpre hpm
    by_cases hp0 : pre = []
    · subst hp0
      have HX := Lib.hid hBx
      have HBbV := Lib.hid hBb
      have HBfV := Lib.hid hBf
      have f0 : V.cell? ⟨w2.heap.size + 1 + 1, 0, none⟩ = some (.bool false) := hBf.cell 0 rfl
      clear hBx hBb hBf
      gi_wp2
      refine T_into (z := fun _ => false) (S := fun (w' : World) => w' = V.drew) (by kernel_rfl) (by rintro ⟨a, w, h⟩; exact h) (by kernel_rfl) ?_
      show wpAnyT _ _ _ _ _ _ 11 _ _ _
      refine T_take (i := 0) (v := .bool false) rfl (by kernel_rfl) (by kernel_rfl) (by kernel_rfl) (by kernel_rfl) (fun _ _ _ h => h) rfl (by kernel_rfl) (fun w' hS' => by subst hS'; go_simp) ?_
      refine T_take (i := 1) (v := .bool true) rfl (by kernel_rfl) (by kernel_rfl) (by kernel_rfl) (by kernel_rfl) (fun _ _ _ h => h) rfl (by kernel_rfl) (fun w' hS' => by go_simp) ?_
      refine T_take (i := 2) (v := .bool true) rfl (by kernel_rfl) (by kernel_rfl) (by kernel_rfl) (by kernel_rfl) (fun _ _ _ h => h) rfl (by kernel_rfl) (fun w' hS' => by go_simp) ?_
      refine T_skip (i := 3) rfl (by kernel_rfl) (by kernel_rfl) (by kernel_rfl) (by kernel_rfl) (fun _ _ _ h => h) rfl (by kernel_rfl) ?_
      refine T_skip (i := 4) rfl (by kernel_rfl) (by kernel_rfl) (by kernel_rfl) (by kernel_rfl) (fun _ _ _ h => h) rfl (by kernel_rfl) ?_
      refine T_skip (i := 5) rfl (by kernel_rfl) (by kernel_rfl) (by kernel_rfl) (by kernel_rfl) (fun _ _ _ h => h) rfl (by kernel_rfl) ?_
      refine T_skip (i := 6) rfl (by kernel_rfl) (by kernel_rfl) (by kernel_rfl) (by kernel_rfl) (fun _ _ _ h => h) rfl (by kernel_rfl) ?_
      refine T_skip (i := 7) rfl (by kernel_rfl) (by kernel_rfl) (by kernel_rfl) (by kernel_rfl) (fun _ _ _ h => h) rfl (by kernel_rfl) ?_
      refine T_skip (i := 8) rfl (by kernel_rfl) (by kernel_rfl) (by kernel_rfl) (by kernel_rfl) (fun _ _ _ h => h) rfl (by kernel_rfl) ?_
      refine T_skip (i := 9) rfl (by kernel_rfl) (by kernel_rfl) (by kernel_rfl) (by kernel_rfl) (fun _ _ _ h => h) rfl (by kernel_rfl) ?_
      refine T_take (i := 10) (v := .bool true) rfl (by kernel_rfl) (by kernel_rfl) (by kernel_rfl) (by kernel_rfl) (fun _ _ _ h => h) rfl (by kernel_rfl) (fun w' hS' => by go_simp) ?_
      refine ⟨by kernel_rfl, ?_⟩
      obtain ⟨x0, x1, x2⟩ := (show Bk V.drew X _ _ from HX.out).c3
      obtain ⟨o0, o1, o2⟩ := (show Bk V.drew (w2.heap.size + 1) _ _ from HBbV.out).c3
      have g0 := (show Bk V.drew (w2.heap.size + 1) _ _ from HBbV.out).free 0
      have g1 := (show Bk V.drew (w2.heap.size + 1) _ _ from HBbV.out).free 1
      have g2 := (show Bk V.drew (w2.heap.size + 1) _ _ from HBbV.out).free 2
      have g3 := (show Bk V.drew (w2.heap.size + 1 + 1) _ _ from HBfV.out).free 0
      obtain ⟨o0', o1', o2'⟩ := HBbV.out.c3
      have g0' := HBbV.out.free 0
      have g1' := HBbV.out.free 1
      have g2' := HBbV.out.free 2
      have g3' := HBfV.out.free 0
      go_simp
      gi_wp2
      obtain ⟨k1, k2, k3⟩ := lst_put (by omega) HBbV.out HBfV.out (.int .i64 q1) (.int .i64 q2) (.int .i64 q3) (.bool true)
      exact ⟨fun b => b = w2.heap.size + 1 ∨ b = w2.heap.size + 1 + 1, fun k hk => .inl (.inl hk), (k3 _ V (.inl (.inl rfl)) (.inl (.inr rfl)) (Fol.refl _ _)).drew, rfl, k1, k2⟩
    · obtain ⟨b1, b2, b3, hbe, t1, t2, t3, _⟩ := trip_mem (n := m) (List.mem_filter.1 (HSub.out _ (firstD_mem (dot3 x) [0, 0, 0] hp0))).1
      have HBe := Lib.hid hbe
      rw [hbe] at hBb
      simp only [List.getD_cons_zero, List.getD_cons_succ] at hBb
      have hne : (!pre.isEmpty) = true := by cases pre with
        | nil => exact absurd rfl hp0
        | cons y l => rfl
      rw [hne] at hBf
      have HSn := Lib.hid (firstD_snoc (dot3 x) [0, 0, 0] [q1, q2, q3] hp0)
      rw [hbe] at HSn
      have HS := Lib.hid (show LstS w2.heap.size X (w2.heap.size + 1) (w2.heap.size + 1 + 1) y1 y2 y3 q1 q2 q3 b1 b2 b3 V from ⟨HByV.out, hBx, hBb, hBf⟩)
      have CD1 := Lib.hid (fun (W : World) => i_dot3 y1 y2 y3 q1 q2 q3 W s1 s2 s3 (by omega) (by omega) (by omega))
      have CD2 := Lib.hid (fun (W : World) => i_dot3 y1 y2 y3 b1 b2 b3 W s1 s2 s3 (by omega) (by omega) (by omega))
      obtain ⟨p, hp⟩ : ∃ p, y1 * q1 + y2 * q2 + y3 * q3 = p := ⟨_, rfl⟩
      obtain ⟨q, hq⟩ : ∃ q, y1 * b1 + y2 * b2 + y3 * b3 = q := ⟨_, rfl⟩
      have HPq := Lib.hid (show dot3 x [q1, q2, q3] = p ∧ dot3 x [b1, b2, b3] = q by unfold dot3; rw [HY.out.1, HY.out.2.1, HY.out.2.2]; exact ⟨hp, hq⟩)
      rw [hp] at CD1
      rw [hq] at CD2
      clear hBx hBb hBf hbe hp hq hp0 hne t1 t2 t3 r1 r2 r3
      gi_wp2
      refine T_into (z := fun _ => false) (S := LstS w2.heap.size X (w2.heap.size + 1) (w2.heap.size + 1 + 1) y1 y2 y3 q1 q2 q3 b1 b2 b3) (by kernel_rfl) (by rintro ⟨a, w, h⟩; exact h) (by kernel_rfl) ?_
      show wpAnyT _ _ _ _ _ _ 11 _ _ _
      have hS0 : LstS w2.heap.size X (w2.heap.size + 1) (w2.heap.size + 1 + 1) y1 y2 y3 q1 q2 q3 b1 b2 b3 V.drew := HS.out
      refine T_take (i := 0) (v := .bool true) rfl (by kernel_rfl) (by kernel_rfl) (by kernel_rfl) (by kernel_rfl) (fun _ _ _ h => h) hS0 (by kernel_rfl) (fun w' hS' => by have f0 : w'.cell? ⟨w2.heap.size + 1 + 1, 0, none⟩ = some (.bool true) := hS'.2.2.2.cell 0 rfl; clear hS'; go_simp) ?_
      refine T_take (i := 1) (v := .bool false) rfl (by kernel_rfl) (by kernel_rfl) (by kernel_rfl) (by kernel_rfl) (fun _ _ _ h => h) hS0 (by kernel_rfl) (fun w' hS' => by clear hS'; go_simp) ?_
      refine T_take (i := 2) (v := .bool false) rfl (by kernel_rfl) (by kernel_rfl) (by kernel_rfl) (by kernel_rfl) (fun _ _ _ h => h) hS0 (by kernel_rfl) (fun w' hS' => by clear hS'; go_simp) ?_
      refine T_take (i := 3) (v := .agg #[.int .i64 y1, .int .i64 y2, .int .i64 y3]) rfl (by kernel_rfl) (by kernel_rfl) (by kernel_rfl) (by kernel_rfl) (fun _ _ _ h => h) hS0 (by kernel_rfl) (fun w' hS' => by obtain ⟨c0, c1, c2⟩ := hS'.1.c3; clear hS'; go_simp) ?_
      refine T_take (i := 4) (v := .agg #[.int .i64 q1, .int .i64 q2, .int .i64 q3]) rfl (by kernel_rfl) (by kernel_rfl) (by kernel_rfl) (by kernel_rfl) (fun _ _ _ h => h) hS0 (by kernel_rfl) (fun w' hS' => by obtain ⟨c0, c1, c2⟩ := hS'.2.1.c3; clear hS'; go_simp) ?_
      refine T_take (i := 6) (v := .agg #[.int .i64 y1, .int .i64 y2, .int .i64 y3]) rfl (by kernel_rfl) (by kernel_rfl) (by kernel_rfl) (by kernel_rfl) (fun _ _ _ h => h) hS0 (by kernel_rfl) (fun w' hS' => by obtain ⟨c0, c1, c2⟩ := hS'.1.c3; clear hS'; go_simp) ?_
      refine T_take (i := 7) (v := .agg #[.int .i64 b1, .int .i64 b2, .int .i64 b3]) rfl (by kernel_rfl) (by kernel_rfl) (by kernel_rfl) (by kernel_rfl) (fun _ _ _ h => h) hS0 (by kernel_rfl) (fun w' hS' => by obtain ⟨c0, c1, c2⟩ := hS'.2.2.1.c3; clear hS'; go_simp) ?_
      refine T_step (i := 5) rfl (by kernel_rfl) rfl (by kernel_rfl) ?_
      intro K hK
      go_simp
      refine (CD1.out _).mono ?_
      rintro e w4 ⟨rfl, hb4⟩
      have hb4 : Below V.heap.size V w4 := (Below.refl _ _).drew.trans hb4
      have hS4 := HS.out.below hb4
      refine hK.out _ _ hS4 ?_
      clear hK K hS0
      refine T_step (i := 8) rfl (by kernel_rfl) rfl (by kernel_rfl) ?_
      intro K hK
      go_simp
      refine (CD2.out _).mono ?_
      rintro e w5 ⟨rfl, hb5⟩
      have HB5 := Lib.hid (show Below V.heap.size V w5 from hb4.trans (hb5.mono hb4.size))
      have hS5 := hS4.below hb5
      refine hK.out _ _ hS5 ?_
      clear hK K hS4 hb4 hb5
      refine T_take (i := 9) (v := .bool (decide (p < q))) rfl (by kernel_rfl) (by kernel_rfl) (by kernel_rfl) (by kernel_rfl) (fun _ _ _ h => h) hS5 (by kernel_rfl) (fun w' hS' => by clear hS'; go_simp) ?_
      refine T_take (i := 10) (v := .bool (decide (p < q))) rfl (by kernel_rfl) (by kernel_rfl) (by kernel_rfl) (by kernel_rfl) (fun _ _ _ h => h) hS5 (by kernel_rfl) (fun w' hS' => by clear hS'; go_simp) ?_
      refine ⟨by kernel_rfl, ?_⟩
      have HS5 := Lib.hid hS5
      obtain ⟨x0, x1, x2⟩ := hS5.2.1.c3
      obtain ⟨o0, o1, o2⟩ := hS5.2.2.1.c3
      have g0 := hS5.2.2.1.free 0
      have g1 := hS5.2.2.1.free 1
      have g2 := hS5.2.2.1.free 2
      have g3 := hS5.2.2.2.free 0
      have f0 : w5.cell? ⟨w2.heap.size + 1 + 1, 0, none⟩ = some (.bool true) := hS5.2.2.2.cell 0 rfl
      clear hS5
      by_cases hpq : p < q
      · have HE := Lib.hid (show firstD (dot3 x) [0, 0, 0] (pre ++ [[q1, q2, q3]]) = [q1, q2, q3] by rw [HSn.out, if_pos (by rw [HPq.out.1, HPq.out.2]; exact hpq)])
        have hd : decide (p < q) = true := decide_eq_true hpq
        go_simp
        gi_wp2
        obtain ⟨k1, k2, k3⟩ := lst_put (by omega) HS5.out.2.2.1 HS5.out.2.2.2 (.int .i64 q1) (.int .i64 q2) (.int .i64 q3) (.bool true)
        exact ⟨fun b => b = w2.heap.size + 1 ∨ b = w2.heap.size + 1 + 1, fun k hk => .inl (.inl hk), k3 _ V (.inl (.inl rfl)) (.inl (.inr rfl)) (Fol.of_below HB5.out), rfl, by rw [HE.out]; exact k1, by rw [show (!(pre ++ [[q1, q2, q3]]).isEmpty) = true by cases pre <;> rfl]; exact k2⟩
      · have HE := Lib.hid (show firstD (dot3 x) [0, 0, 0] (pre ++ [[q1, q2, q3]]) = [b1, b2, b3] by rw [HSn.out, if_neg (by rw [HPq.out.1, HPq.out.2]; exact hpq)])
        have hd : decide (p < q) = false := decide_eq_false hpq
        go_simp
        gi_wp2
        exact ⟨fun b => b = w2.heap.size + 1 ∨ b = w2.heap.size + 1 + 1, fun k hk => .inl (.inl hk), Fol.of_below HB5.out, rfl, by rw [HE.out]; exact HS5.out.2.2.1, by rw [show (!(pre ++ [[q1, q2, q3]]).isEmpty) = true by cases pre <;> rfl]; exact HS5.out.2.2.2⟩
  case done =>
    rintro T' W2 hg2 hf hsz ⟨rfl, hBb, hBf⟩ hn hK
    have HKV := Lib.hid (hf.bk HK.out (by omega))
    have HB4 := Lib.hid (HB3.out.trans (hf.to_below (B := w.heap.size) (fun k e => by omega) HB3.out.size))
    have hD := HB3.out.size
    clear hf hg2 hn
    by_cases hE : triR m hs' = []
    · have HL0 := Lib.hid (leastR_n (s := 1) (a := x) (show ptsL m hs' = [] by rw [← tri_pts C2.out, hE]; rfl))
      rw [hE] at hBf
      have f0 : W2.cell? ⟨w2.heap.size + 1 + 1, 0, none⟩ = some (.bool false) := hBf.cell 0 rfl
      clear hBb hBf
      gi_wp2
      refine ⟨by simp, .inl ⟨_, _, rfl, run_takeDeferred hK, ?_⟩⟩
      refine ⟨.tuple #[.slice none 0 0, .bool false], results_tmp2 (t := 4) (u := 5) rfl _ _ _, ?_⟩
      rw [HL0.out]
      exact ⟨⟨_, rfl, OwnV.nil⟩, HB4.out.trans ((Below.refl _ W2).grown (grownBy_putObj' W2 w3.heap.size (.deferred none)) (by omega) (fun k e => by cases e; omega))⟩
    · have hmem := firstD_mem (dot3 x) [0, 0, 0] hE
      obtain ⟨b1, b2, b3, hbe, t1, t2, t3, _⟩ := trip_mem (n := m) (List.mem_filter.1 hmem).1
      have hbx : [b1, b2, b3].take m ∈ ptsL m hs' := by rw [← tri_pts C2.out, ← hbe]; exact List.mem_map_of_mem hmem
      have HV := Lib.hid (show vecR ([b1, b2, b3].take m) = leastR 1 m hs' x by
        have hv : isV ([b1, b2, b3].take m) = true := by
          have h1 := (List.mem_filter.1 hbx).1
          rw [show ((m : Int)).toNat = m by omega] at h1
          exact (ptR_t (box_pt C2.out h1)).2.1
        rw [leastR_t C1.out (fun e => by rw [e] at hbx; cases hbx)]
        unfold vecR
        rw [if_pos hv, ← tri_pts C2.out, firstD_map (f3 := dot3 x) (d3 := [0, 0, 0]) hE (fun t ht => HF3.out t ht), hbe])
      rw [hbe] at hBb
      simp only [List.getD_cons_zero, List.getD_cons_succ] at hBb
      have hne : (!(triR m hs').isEmpty) = true := by
        cases h : triR m hs' with
        | nil => exact absurd h hE
        | cons y l => rfl
      rw [hne] at hBf
      have f0 : W2.cell? ⟨w2.heap.size + 1 + 1, 0, none⟩ = some (.bool true) := hBf.cell 0 rfl
      obtain ⟨o0, o1, o2⟩ := hBb.c3
      obtain ⟨⟨k0, k1⟩, -⟩ := HKV.out.two
      clear hBb hBf hE hmem hbx hbe hne t1 t2 t3
      have HKD := Lib.hid hK
      clear hK
      gi_wp2_with (refine ⟨trivial, ?_⟩; gi_at_call 56; refine (callsIn_wide.2 (i_vecof b1 b2 b3 m hm1 hm3 _)).mono ?_; rintro e w5 ⟨⟨v5, rfl, ho⟩, hb5⟩; have HO5 := Lib.hid ho; have HB5 := Lib.hid hb5; have hK5 := (hb5.block _ (lt_of_heap HKD.out)).trans HKD.out; clear ho hb5)
      refine ⟨by simp, .inl ⟨_, _, rfl, run_takeDeferred hK5, ?_⟩⟩
      refine ⟨.tuple #[v5, .bool (vecR ([b1, b2, b3].take m)).2], results_tmp2 (t := 4) (u := 5) rfl _ _ _, ?_⟩
      have hs5 := HB5.out.size
      rw [← HV.out]
      exact ⟨⟨_, rfl, ((HO5.out.putObj _ hsz).mono (by omega) (by simp))⟩, (HB4.out.trans (HB5.out.mono HB4.out.size)).trans ((Below.refl _ w5).grown (grownBy_putObj' w5 w3.heap.size (.deferred none)) (by omega) (fun k e => by cases e; omega))⟩
  case stop => exact fun cc pre T' W2 _ _ _ _ h _ _ => h.elim

set_option maxRecDepth 100000 in
set_option maxHeartbeats 800000 in
theorem i_mostin (r : Rgn) (x : List Int) (v a : Value) (w : World) (hv : Rg w v r) (ha : Sl w a (intVals x)) :
    Calls Try.prog 14 #[v, a] w (Got w (leastR (-1) r.1 r.2 x)) := by
  obtain ⟨n, hs'⟩ := r
  have HR := Lib.hid hv
  have HA := Lib.hid ha
  obtain ⟨u, rfl, hss⟩ := hv
  simp only at hss ⊢
  obtain ⟨aa, ac, rfl, _, _⟩ := ha.shape
  have K := Lib.hid (Bk.new w #[.int .i64 n, u] 26)
  have B0 := Lib.hid (below1 w (.cells #[.int .i64 n, u] 26))
  have E := Lib.hid (leastR_neg (n := n) (hs := hs') (a := x))
  clear hss ha
  go_enter Try.func14, Try.ntmps14
  go_wp2_with fail
  refine (i_scalev x (-1) _ _ (HA.out.below B0.out)).mono ?_
  rintro e w1 ⟨⟨z, rfl, ho⟩, hb⟩
  have B1 := Lib.hid (B0.out.trans (hb.mono B0.out.size))
  have HO := Lib.hid ho
  obtain ⟨⟨l0, l1⟩, -⟩ := (K.out.below hb).two
  clear ho hb
  go_wp2_with fail
  refine (i_leastin (n, hs') (scaleR x (-1)).1 _ _ _ (HR.out.below B1.out) HO.out.sl).mono ?_
  rintro e w2 ⟨⟨y, rfl, ho⟩, hb⟩
  have B2 := Lib.hid (B1.out.trans (hb.mono B1.out.size))
  have HZ := Lib.hid (ho.mono (lo' := w.heap.size) B1.out.size (Nat.le_refl _))
  clear ho hb l0 l1
  go_wp2_with fail
  go_ret2
  rw [← E.out]
  exact ⟨⟨_, rfl, HZ.out⟩, B2.out⟩
end Go.Proofs.Ytmogncpkdkdodaa
