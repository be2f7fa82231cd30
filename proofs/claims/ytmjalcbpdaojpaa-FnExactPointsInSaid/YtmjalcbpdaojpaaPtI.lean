/- The program's PointsIn. -/
import Derived.Test.YtmjalcbpdaojpaaPtR
import Derived.Test.YtmjalcbpdaojpaaPtC
namespace Go.Proofs.Ytmjalcbpdaojpaa
open Go Go.RowKit Go.Lib Go.Shelf

attribute [local go_sem] Oper.semAt_some


theorem owrb_empty {T e : TypeId} {w : World} {base : Nat} (hb : base ≤ w.heap.size) : OwRB T e base (w.alloc (.cells #[] T)).heap.size (w.alloc (.cells #[] T)) (.slice (some ⟨w.heap.size, 0, none⟩) 0 0) [] [] :=
  ⟨rfl, OwnV.of_owns (owns_none hb), fun i u zs hu => by simp at hu, fun i j u u' b _ hu => by simp at hu, fun i u b hu => by simp at hu⟩
theorem owrb_empty_bs {g k : Nat} (h : rowBs (.slice (some ⟨g, 0, none⟩) 0 0) [] k) : k = g := by
  rcases h with h | ⟨i, u, h, _⟩
  · simpa [Value.ownBlock] using h.symm
  · simp at h

set_option maxRecDepth 100000 in
set_option maxHeartbeats 3200000 in
theorem i_pointsin (r : Rgn) (v : Value) (w : World) (hv : Rg w v r) :
    Calls Try.prog 11 #[v] w (MadeR w (ptsR r.1 r.2)) := by
  obtain ⟨n, hs'⟩ := r
  have HR := Lib.hid hv
  obtain ⟨u, rfl, hss⟩ := hv
  simp only at hss ⊢
  have K := Lib.hid (Bk.new w #[.int .i64 n, u] 26)
  have B0 := Lib.hid (below1 w (.cells #[.int .i64 n, u] 26))
  obtain ⟨⟨l0, l1⟩, -⟩ := K.out.two
  clear hss
  by_cases hr : regOk n hs' = true
  case neg =>
    have C1 := Lib.hid (bool_f hr)
    have E := Lib.hid (ptsR_f (bool_f hr))
    clear hr
    go_enter Try.func11, Try.ntmps11
    go_wp2_with fail
    refine (i_isreg (n, hs') _ _ (HR.out.below B0.out)).mono ?_
    rintro e w1 ⟨rfl, hb⟩
    rw [C1.out]
    have B1 := Lib.hid (B0.out.trans (hb.mono B0.out.size))
    clear hb
    go_wp2_with fail
    go_ret
    exact ⟨⟨_, rfl, by rw [E.out]; exact OwR.nil⟩, B1.out⟩
  obtain ⟨m, rfl⟩ : ∃ m : Nat, n = m := ⟨n.toNat, by have := (regOk_t hr).1; omega⟩
  have C1 := Lib.hid hr
  have E := Lib.hid ((ptsR_t hr).trans (tri_pts hr).symm)
  clear hr
  refine callsIn_wide (n := 9) |>.1 ?_
  refine callsIn_of_wp_marks Try.func11 rfl trivial ?_ rfl
  simp only [Try.ntmps11, List.size_toArray, List.length_cons, List.length_nil, Nat.reduceAdd, Nat.reduceSub, Array.replicate_succ, Array.replicate_zero, List.push_toArray, List.append_toArray, List.nil_append, List.cons_append]
  gi_wp2_with (first | (refine ⟨trivial, ?_⟩; gi_at_call 44; refine (callsIn_wide.2 (i_isreg (m, hs') _ _ (HR.out.below B0.out))).mono ?_; rintro e w1 ⟨rfl, hb⟩; rw [C1.out]; have B1 := Lib.hid (B0.out.trans (hb.mono B0.out.size)); have K2 := Lib.hid ((K.out.below hb).below (below2 w1 (.cells #[] 30) (.cells #[.slice (some ⟨w1.heap.size, 0, none⟩) 0 0] 28))); obtain ⟨⟨l2, l3⟩, -⟩ := K2.out.two; have HR1 := Lib.hid (show w.heap.size < w1.heap.size from by have := hb.size; simp at this; omega); clear hb) | (refine ⟨trivial, ?_⟩; gi_at_call 45; refine (callsIn_wide.2 (i_points (m, hs') _ _ ((HR.out.below B1.out).below (below2 _ _ _)) C1.out)).mono ?_; rintro e w2 ⟨B, G, g, c, U, rfl, hP, hb2, hB, hG, hg⟩))
  have HC := Lib.hid ((Bk.newAt (w := w1.alloc (.cells #[] 30)) (b := w1.heap.size + 1) (by simp) #[.slice (some ⟨w1.heap.size, 0, none⟩) 0 0] 28).below hb2)
  have hsz2 : w1.heap.size + 2 ≤ w2.heap.size := by have := hb2.size; simpa using this
  have HO : Hid (OwRB 30 3 (w.heap.size + 1) w2.heap.size w2 (.slice (some ⟨w1.heap.size, 0, none⟩) 0 0) [] []) :=
    (owrb_empty (w := w1) (base := w.heap.size + 1) HR1.out).same (fun b hb => (hb2.block b (by have := owrb_empty_bs hb; simp; omega)).trans (Below.heap_alloc _ _ _ (by have := owrb_empty_bs hb; simp; omega))) (Nat.le_refl _) (by simp; omega)
  have HK := Lib.hid (K2.out.below hb2)
  have HB2 := Lib.hid (B1.out.trans (((below2 w1 (.cells #[] 30) (.cells #[.slice (some ⟨w1.heap.size, 0, none⟩) 0 0] 28)).trans (hb2.mono (by simp; omega))).mono B1.out.size))
  have hC0 := B1.out.size
  have hRw : w.heap.size < w1.heap.size := HR1.out
  simp only [World.size_alloc] at hB hG hg
  have hlen := tri_len_le m hs'
  have hm1 : 1 ≤ m := by have := (regOk_t C1.out).1; omega
  have hm3 : m ≤ 3 := by have := (regOk_t C1.out).2.1; omega
  clear l0 l1 l2 l3 hb2
  have HP := Lib.hid hP
  clear hP
  refine wp_rangeT (gf := 75) (lb := #[.pointer (some ⟨B, 0, none⟩), .pointer (some ⟨G, 0, none⟩)]) rfl (enters_of Try.func75 (by kernel_rfl) rfl)
    (i_points1 B G g c m U hs' C1.out) (fun w' hb => HP.out.fol (Fol.of_below (T := fun _ => False) hb) ⟨id, id, id⟩) (fun _ => rfl)
    (PtsI (w.heap.size + 1) (w1.heap.size + 1) m) (fun _ _ _ _ => False)
    (MidX (PtsI (w.heap.size + 1) (w1.heap.size + 1) m) (fun x X => { tmps := #[.agg #[.int .i64 m, u], .pointer (some ⟨w.heap.size, 0, none⟩), .slice none 0 0, .pointer (some ⟨w1.heap.size + 1, 0, none⟩), .pointer (some ⟨X, 0, none⟩), .agg #[.int .i64 m, u], .bool true, .bool false, .slice (some ⟨w1.heap.size, 0, none⟩) 0 0, .agg #[.int .i64 m, u],
      .func (.func 75) #[] #[.pointer (some ⟨B, 0, none⟩), .pointer (some ⟨G, 0, none⟩)], .agg #[.int .i64 (x.getD 0 0), .int .i64 (x.getD 1 0), .int .i64 (x.getD 2 0)], undef, undef, undef, undef, undef, undef, undef, undef], defers := [] }))
    (ptsI_sep _ _ _) (fun cc => Sep.no) (fun x a' => midx_sep (ptsI_sep _ _ _) _ x a') (fun b => b = w1.heap.size + 1 ∨ rowBs (.slice (some ⟨w1.heap.size, 0, none⟩) 0 0) [] b) ⟨_, [], rfl, HC.out, HO.out, fun e => by have := owrb_empty_bs e; omega⟩ ?hu ?assign ?body ?done ?stop
  case hu =>
    rintro k (rfl | rfl | rfl)
    · exact ⟨HP.out.1.lt, fun e => e.elim (fun e => by omega) (fun e => by have := owrb_empty_bs e; omega)⟩
    · exact ⟨HP.out.2.1.lt, fun e => e.elim (fun e => by omega) (fun e => by have := owrb_empty_bs e; omega)⟩
    · exact ⟨HP.out.2.2.tight.2.2, fun e => e.elim (fun e => by omega) (fun e => by have := owrb_empty_bs e; omega)⟩
  case assign =>
    intro l2 pre x T2 W2 hsz hj hg hf hpre
    have HJ2 := Lib.hid hj
    have HX := Lib.hid (Bk.new W2 #[.int .i64 (x.getD 0 0), .int .i64 (x.getD 1 0), .int .i64 (x.getD 2 0)] 68)
    have hx2 := Lib.hid (fun e => by have := (ptsI_sep _ _ _).lt _ _ _ hj _ e; omega : ¬ T2 W2.heap.size)
    clear hj hg hf hpre
    unfold encN nums3
    gi_wp2
    exact ⟨fun k => T2 k ∨ k = W2.heap.size, fun k hk => hk.elim .inl (fun e => .inr (by omega)), (Fol.refl _ _).alloc _, T2, W2.heap.size, rfl, hx2.out, (ptsI_sep _ _ _).later HJ2.out (below1 _ _), HX.out, rfl⟩
  case body =>
    rintro l2 pre x a' T' V hsz ⟨T2, X, rfl, hX, ⟨lv, vs, rfl, hC, hO, hnC⟩, hBx, rfl⟩ hg hf hpre
    obtain ⟨q1, q2, q3, rfl, _⟩ := trip_mem (n := m) (t := x) ((List.mem_filter.1 (hpre.subset (List.mem_append_right _ (List.mem_singleton.2 rfl)))).1)
    simp only [List.getD_cons_zero, List.getD_cons_succ] at hBx ⊢
    have hl := pre_len hpre
    have hXC : X ≠ w1.heap.size + 1 := fun e => hX (.inl e)
    have HXR := Lib.hid (show ¬ rowBs lv vs X from fun e => hX (.inr e))
    have HKV := Lib.hid (hf.bk HK.out (fun e => e.elim (fun e => by omega) (fun e => by have := owrb_empty_bs e; omega)))
    have HCV := Lib.hid hC
    have HOV := Lib.hid hO
    have HnC := Lib.hid hnC
    have HBx := Lib.hid hBx
    have HSl := Lib.hid (sl_nums m hm1 hm3 hBx)
    have HsV := Lib.hid hsz
    have hxl := Lib.hid (show ([q1, q2, q3].take m).length = m by rw [List.length_take]; simp; omega)
    have m1 : V.cell? ⟨w1.heap.size + 1, 0, none⟩ = some lv := hC.cell 0 rfl
    have m2 : V.cell? ⟨w.heap.size, 0, none⟩ = some (.int .i64 m) := HKV.out.cell 0 rfl
    clear hC hO hnC hBx hg hf hX hsz hpre
    have n1 : (0 : Int) ≤ (m : Int) := by omega
    have n2 : (m : Int) ≤ (3 : Int) := by omega
    gi_wp2
    refine T_into (z := fun k => 6 < k) (S := (fun (w' : World) => w'.cell? ⟨w1.heap.size + 1, 0, none⟩ = some lv ∧ w'.cell? ⟨w.heap.size, 0, none⟩ = some (.int .i64 m))) (by kernel_rfl) (by rintro ⟨a, w, h⟩; exact h) (by kernel_rfl) ?_
    show wpAnyT _ _ _ _ _ _ 8 _ _ _
    have hS0 := Lib.hid (show (fun (w' : World) => w'.cell? ⟨w1.heap.size + 1, 0, none⟩ = some lv ∧ w'.cell? ⟨w.heap.size, 0, none⟩ = some (.int .i64 m)) V.drew from ⟨m1, m2⟩)
    refine T_take (i := 0) (v := lv) rfl (by kernel_rfl) (by kernel_rfl) (by kernel_rfl) (by kernel_rfl) (fun _ _ _ h => h) hS0.out rfl (fun w' hS' => by (try dsimp only at hS'); go_simp) ?_
    refine T_take (i := 1) (v := .pointer (some ⟨w.heap.size, 0, none⟩)) rfl (by kernel_rfl) (by kernel_rfl) (by kernel_rfl) (by kernel_rfl) (fun _ _ _ h => h) hS0.out rfl (fun w' hS' => by (try dsimp only at hS'); go_simp) ?_
    refine T_take (i := 2) (v := .int .i64 m) rfl (by kernel_rfl) (by kernel_rfl) (by kernel_rfl) (by kernel_rfl) (fun _ _ _ h => h) hS0.out rfl (fun w' hS' => by (try dsimp only at hS'); go_simp) ?_
    refine T_take (i := 3) (v := .slice (some ⟨X, 0, none⟩) m 3) rfl (by kernel_rfl) (by kernel_rfl) (by kernel_rfl) (by kernel_rfl) (fun _ _ _ h => h) hS0.out rfl (fun w' hS' => by (try dsimp only at hS'); go_simp) ?_
    refine T_step (i := 4) rfl (by kernel_rfl) rfl rfl ?_
    intro K hK
    go_simp
    refine (i_clone ([q1, q2, q3].take m) (some ⟨X, 0, none⟩) m 3 _ (by have := hxl.out; omega) (by have := hxl.out; omega) (HSl.out.below (Below.refl _ _).drew)).mono ?_
    rintro e w3 ⟨⟨z, rfl, ho⟩, hb⟩
    have hb : Below V.heap.size V w3 := (Below.refl _ _).drew.trans hb
    obtain ⟨ra, rc, rfl, _⟩ := ho.shape1
    rw [intVals_len, hxl.out] at ho ⊢
    have HO3 := Lib.hid (show OwnV 3 V.heap.size w3.heap.size w3 _ _ from ho)
    have HB3 := Lib.hid hb
    have s1 := show (fun (w' : World) => w'.cell? ⟨w1.heap.size + 1, 0, none⟩ = some lv ∧ w'.cell? ⟨w.heap.size, 0, none⟩ = some (.int .i64 m)) w3 from ⟨(hb.cell (p := ⟨w1.heap.size + 1, 0, none⟩) HCV.out.lt).trans m1, (hb.cell (p := ⟨w.heap.size, 0, none⟩) HKV.out.lt).trans m2⟩
    clear ho hb m1 m2 hS0
    refine hK.out _ _ s1 ?_
    clear hK K
    refine T_step (i := 5) rfl (by kernel_rfl) rfl rfl ?_
    intro K hK
    go_simp
    have hb4 := below1 w3 (.cells #[.slice ra m rc] 30)
    have s2 := show (fun (w' : World) => w'.cell? ⟨w1.heap.size + 1, 0, none⟩ = some lv ∧ w'.cell? ⟨w.heap.size, 0, none⟩ = some (.int .i64 m)) (w3.alloc (.cells #[.slice ra m rc] 30)) from ⟨(hb4.cell (p := ⟨w1.heap.size + 1, 0, none⟩) (Nat.lt_of_lt_of_le HCV.out.lt HB3.out.size)).trans s1.1, (hb4.cell (p := ⟨w.heap.size, 0, none⟩) (Nat.lt_of_lt_of_le HKV.out.lt HB3.out.size)).trans s1.2⟩
    have HB4 := Lib.hid (HB3.out.trans (hb4.mono HB3.out.size))
    have HO4 := Lib.hid ((HO3.out.below hb4).mono (Nat.le_refl _) hb4.size)
    have HN := Lib.hid (heap_alloc_new w3 (.cells #[.slice ra m rc] 30))
    have HV4 := Lib.hid (HOV.out.same (fun b hb => HB4.out.block b (HOV.out.place hb).2) (Nat.le_refl _) (Nat.le_refl _))
    clear hb4 s1 HO3
    refine hK.out _ _ s2 ?_
    clear hK K
    refine T_step (i := 6) rfl (by kernel_rfl) rfl rfl ?_
    intro K hK
    refine wp_app_rowB _ _ (by rfl) (w.heap.size + 1) V.heap.size lv (.slice ra m rc) vs (pre.map fun t => t.take m) ([q1, q2, q3].take m) (by rfl) HV4.out HO4.out w3.heap.size (by rfl) HN.out (by rw [List.length_map]; omega) (by have := HsV.out; have := HB2.out.size; omega) HB4.out.size ?_
    intro gg cap w5 ho hpl hgr
    have hs4 := HB4.out.size
    have HF5 := Lib.hid (show Fol (fun k => k = w1.heap.size + 1 ∨ rowBs lv vs k) V w5 from (Fol.of_below HB4.out).grown hgr (fun b hb => .inl (.inr (.inl hb))))
    have HC5 := Lib.hid (show Bk w5 (w1.heap.size + 1) #[lv] 28 from (HCV.out.below HB4.out).grown hgr (fun e => HnC.out (.inl e.symm)))
    have s3 := show (fun (w' : World) => w'.cell? ⟨w1.heap.size + 1, 0, none⟩ = some lv ∧ w'.cell? ⟨w.heap.size, 0, none⟩ = some (.int .i64 m)) w5 from ⟨HC5.out.cell 0 rfl, ((HKV.out.below HB4.out).grown hgr (fun e => by have := (HOV.out.place (.inl e.symm)); omega)).cell 0 rfl⟩
    have HO5 := Lib.hid ho
    have HRow : Hid (∀ b, rowBs (.slice (some ⟨gg, 0, none⟩) (pre.length + 1) cap) (vs ++ [.slice ra m rc]) b → rowBs lv vs b ∨ V.heap.size ≤ b) := by
      rintro b (e | ⟨i, z, hz, e⟩)
      · simp only [Value.ownBlock, Option.some.injEq] at e
        subst e
        exact hpl.imp (fun e => .inl e) (fun e => by omega)
      · by_cases hi : i < vs.length
        · rw [List.getElem?_append_left hi] at hz
          exact .inl (.inr ⟨i, z, hz, e⟩)
        · rw [List.getElem?_append_right (by omega)] at hz
          have h0 : i - vs.length = 0 := by have := lt_of_get hz; simp at this; omega
          rw [h0] at hz
          simp only [List.getElem?_cons_zero, Option.some.injEq] at hz
          subst hz
          exact .inr (HO4.out.place e).1
    clear ho hpl hgr s2 HO4 HN HV4 hs4
    refine hK.out _ _ s3 ?_
    clear hK K s3
    have f0 := HC5.out.free 0
    have c0 : w5.cell? ⟨w1.heap.size + 1, 0, none⟩ = some lv := HC5.out.cell 0 rfl
    refine T_last (i := 7) rfl (by kernel_rfl) (by kernel_rfl) rfl rfl ?_
    go_simp
    have hpv : ∀ b, rowBs (.slice (some ⟨gg, 0, none⟩) (pre.length + 1) cap) (vs ++ [.slice ra m rc]) b → rowBs lv vs b ∨ V.heap.size ≤ b := HRow.out
    refine ⟨fun k => k = w1.heap.size + 1 ∨ rowBs (.slice (some ⟨gg, 0, none⟩) (pre.length + 1) cap) (vs ++ [.slice ra m rc]) k, fun k hk => hk.elim (fun e => .inl (.inl (.inl e))) (fun e => (hpv k e).imp (fun e => .inl (.inr e)) id), (HF5.out.mono (fun _ _ e => .inl e)).setCell (p := ⟨w1.heap.size + 1, 0, none⟩) (.inl (.inl (.inl rfl))) _, _, _, rfl, HC5.out.set 0 _ (by simp), ?_, ?_⟩
    · have h6 := HO5.out
      rw [List.length_map] at h6
      rw [List.map_append, List.map_singleton]
      exact h6.same (fun b hb => Below.heap_setCell _ _ _ _ (fun e => (hpv b hb).elim (fun e2 => HnC.out (by rw [e] at e2; exact e2)) (fun e2 => by have := HCV.out.lt; simp only at e; omega))) (Nat.le_refl _) (by simp [World.setCell])
    · intro e
      exact (hpv _ e).elim HnC.out (fun e2 => by have := HCV.out.lt; omega)
  case done =>
    rintro T' W2 hg2 hf hsz ⟨lv, vs, rfl, hC, hO, hnC⟩ hn hK
    have c0 : W2.cell? ⟨w1.heap.size + 1, 0, none⟩ = some lv := hC.cell 0 rfl
    have HB4 := Lib.hid (HB2.out.trans (hf.to_below (B := w.heap.size) (fun k e => e.elim (fun e => by omega) (fun e => by have := owrb_empty_bs e; omega)) HB2.out.size))
    have hD := HB2.out.size
    have HN := Lib.hid hn
    have HO2 := Lib.hid hO
    clear hf hg2 hC hO hn hnC
    gi_wp2
    refine ⟨by simp, .inl ⟨_, _, rfl, run_takeDeferred hK, ?_⟩⟩
    refine ⟨lv, results_tmp (t := 2) rfl _ _ _, ⟨lv, rfl, ?_⟩, HB4.out.trans ((Below.refl _ W2).grown (grownBy_putObj' W2 w2.heap.size (.deferred none)) (by omega) (fun k e => by cases e; omega))⟩
    rw [E.out]
    exact (HO2.out.same (fun b hb => World.putObj_heap_other (fun e => HN.out (by subst e; exact .inr hb))) (Nat.le_succ _) (by simp)).owr
  case stop => exact fun cc pre T' W2 _ _ _ _ h _ _ => h.elim
end Go.Proofs.Ytmjalcbpdaojpaa
