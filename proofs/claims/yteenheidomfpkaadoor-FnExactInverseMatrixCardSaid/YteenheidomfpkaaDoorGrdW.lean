/- The program's InverseMatrix, whole. -/
import Derived.Test.YteenheidomfpkaaDoorGrdV2
namespace Go.Proofs.YteenheidomfpkaaDoor
open Go.RowKit Go.Lib

set_option maxRecDepth 100000 in
set_option maxHeartbeats 800000 in
theorem i_undo_f (x0 x1 x2 x3 x4 x5 x6 x7 x8 d : Int) (w : World)
    (hdet : ∀ W : World, Calls Tryd.prog 31 #[.agg #[.int .i64 x0, .int .i64 x1, .int .i64 x2, .int .i64 x3, .int .i64 x4, .int .i64 x5, .int .i64 x6, .int .i64 x7, .int .i64 x8]] W (Quiet W (.int .i64 d)))
    (q1 : (d != 1) = true) (q2 : (d == 1) = false) (q3 : (d != -1) = true) (q4 : (d == -1) = false) :
    Calls Tryd.prog 18 #[.agg #[.int .i64 x0, .int .i64 x1, .int .i64 x2, .int .i64 x3, .int .i64 x4, .int .i64 x5, .int .i64 x6, .int .i64 x7, .int .i64 x8]] w (GridP w (.tuple #[.agg #[.int .i64 0, .int .i64 0, .int .i64 0, .int .i64 0, .int .i64 0, .int .i64 0, .int .i64 0, .int .i64 0, .int .i64 0], .iface 44 (.agg #[.int .i64 d])])) := by
  have HD := Lib.hid hdet
  clear hdet
  go_enter Tryd.func18, Tryd.ntmps18
  go_wp2_with fail
  refine (HD.out _).mono ?_
  rintro e w1 ⟨rfl, hb⟩
  have GR1 := Lib.hid ((G9.newAt (w := w.alloc (.cells #[.int .i64 x0, .int .i64 x1, .int .i64 x2, .int .i64 x3, .int .i64 x4, .int .i64 x5, .int .i64 x6, .int .i64 x7, .int .i64 x8] 37)) (B := w.heap.size + 1) (by simp) 37 0 0 0 0 0 0 0 0 0).below hb)
  have B1 := Lib.hid ((((Below.refl w.heap.size w).alloc (Nat.le_refl _) (.cells #[.int .i64 x0, .int .i64 x1, .int .i64 x2, .int .i64 x3, .int .i64 x4, .int .i64 x5, .int .i64 x6, .int .i64 x7, .int .i64 x8] 37)).alloc (by simp) (.cells #[.int .i64 0, .int .i64 0, .int .i64 0, .int .i64 0, .int .i64 0, .int .i64 0, .int .i64 0, .int .i64 0, .int .i64 0] 37)).trans (hb.mono (by simp; omega)))
  obtain ⟨⟨j0, j1, j2⟩, ⟨j3, j4, j5⟩, j6, j7, j8⟩ := GR1.out.cells
  have f0 := GR1.out.frozen 0
  have f1 := GR1.out.frozen 1
  have f2 := GR1.out.frozen 2
  have f3 := GR1.out.frozen 3
  have f4 := GR1.out.frozen 4
  have f5 := GR1.out.frozen 5
  have f6 := GR1.out.frozen 6
  have f7 := GR1.out.frozen 7
  have f8 := GR1.out.frozen 8
  clear hb
  go_wp2
  refine bodyPost_ret (v := .tuple #[.agg #[.int .i64 0, .int .i64 0, .int .i64 0, .int .i64 0, .int .i64 0, .int .i64 0, .int .i64 0, .int .i64 0, .int .i64 0], .iface 44 (.agg #[.int .i64 d])]) ?_ rfl ⟨rfl, ?_⟩
  · simp [results, Tryd.results18, go_sem, j0, j1, j2, j3, j4, j5, j6, j7, j8]
  · exact (((((((((B1.out.setCell (p := ⟨w.heap.size + 1, 0, none⟩) (Nat.le_succ _) _).setCell (p := ⟨w.heap.size + 1, 1, none⟩) (Nat.le_succ _) _).setCell (p := ⟨w.heap.size + 1, 2, none⟩) (Nat.le_succ _) _).setCell (p := ⟨w.heap.size + 1, 3, none⟩) (Nat.le_succ _) _).setCell (p := ⟨w.heap.size + 1, 4, none⟩) (Nat.le_succ _) _).setCell (p := ⟨w.heap.size + 1, 5, none⟩) (Nat.le_succ _) _).setCell (p := ⟨w.heap.size + 1, 6, none⟩) (Nat.le_succ _) _).setCell (p := ⟨w.heap.size + 1, 7, none⟩) (Nat.le_succ _) _).setCell (p := ⟨w.heap.size + 1, 8, none⟩) (Nat.le_succ _) _)

/-- What the package variable errorType holds. -/
def HasErr (w : World) : Prop := w.cell? ⟨0, 0, none⟩ = some (.iface 75 (.agg #[.pointer (some ⟨1, 39, none⟩)]))
theorem HasErr.below {w w' : World} (h : HasErr w) (hb : Below w.heap.size w w') : HasErr w' := by
  unfold HasErr
  rw [hb.cell (p := ⟨0, 0, none⟩) (cell_block_lt h)]; exact h
theorem invR_mat {m : List (List Int)} (h : isM m = true) (hd : detL m = 1 ∨ detL m = -1) : invR m = matR (invL m) := by
  have hu : uniR m = true := by
    unfold uniR detR
    rw [if_pos h, decide_eq_true_eq]
    rcases hd with e | e <;> rw [e] <;> rfl
  unfold invR matR
  by_cases h4 : isM (invL m) = true
  · rw [if_pos ⟨hu, h4⟩, if_pos h4]
  · rw [if_neg (fun h => h4 h.2), if_neg h4]
theorem invR_no {m : List (List Int)} (h : ¬ (isM m = true ∧ (detL m = 1 ∨ detL m = -1))) : invR m = ([], false) := if_neg (fun h2 => h (uniR_t h2.1))
theorem dn_bd {d n : Int} (hd : d = 1 ∨ d = -1) (h : -20000 ≤ n ∧ n ≤ 20000) : -20000 ≤ d * n ∧ d * n ≤ 20000 := by rcases hd with rfl | rfl <;> omega

set_option maxRecDepth 100000 in
set_option maxHeartbeats 1600000 in
/-- undo, at a matrix that can be undone. -/
theorem i_undo {m : List (List Int)} {a b c d e f g h i : Int} (hd : detL m = 1 ∨ detL m = -1) (hs : Sq 3 100 [[a, b, c], [d, e, f], [g, h, i]]) (hdd : detL [[a, b, c], [d, e, f], [g, h, i]] = detL m) (w : World) :
    ∃ y0 y1 y2 y3 y4 y5 y6 y7 y8 : Int, invG [[a, b, c], [d, e, f], [g, h, i]] (detL m) = [[y0, y1, y2], [y3, y4, y5], [y6, y7, y8]] ∧
    Calls Tryd.prog 18 #[.agg #[.int .i64 a, .int .i64 b, .int .i64 c, .int .i64 d, .int .i64 e, .int .i64 f, .int .i64 g, .int .i64 h, .int .i64 i]] w (GridP w (.tuple #[.agg #[.int .i64 y0, .int .i64 y1, .int .i64 y2, .int .i64 y3, .int .i64 y4, .int .i64 y5, .int .i64 y6, .int .i64 y7, .int .i64 y8], .nilIface])) := by
  obtain ⟨_, _, _, _, _, _, _, _, _, hh, ha, hb, hc, hd', he, hf, hg, hi', hi⟩ := sq3 hs
  simp only [List.cons.injEq, and_true] at hh
  obtain ⟨⟨rfl, rfl, rfl⟩, ⟨rfl, rfl, rfl⟩, rfl, rfl, rfl⟩ := hh
  have hdet : ∀ W : World, Calls Tryd.prog 31 #[.agg #[.int .i64 a, .int .i64 b, .int .i64 c, .int .i64 d, .int .i64 e, .int .i64 f, .int .i64 g, .int .i64 h, .int .i64 i]] W (Quiet W (.int .i64 (detL m))) := fun W => by
    have k := i_det a b c d e f g h i hs W
    rw [hdd] at k
    exact k
  refine ⟨_, _, _, _, _, _, _, _, _, rfl, ?_⟩
  have c0 := fun W => i_cross d e f g h i hd' he hf hg hi' hi W
  have c1 := fun W => i_cross g h i a b c hg hi' hi ha hb hc W
  have c2 := fun W => i_cross a b c d e f ha hb hc hd' he hf W
  rcases hd with e1 | e1
  · exact i_undo_p a b c d e f g h i _ _ _ _ _ _ _ _ _ (detL m) w hdet c0 c1 c2 (dn_bd (.inl e1) (cross_bd he hi hf hi')) (dn_bd (.inl e1) (cross_bd hf hg hd' hi)) (dn_bd (.inl e1) (cross_bd hd' hi' he hg)) (dn_bd (.inl e1) (cross_bd hi' hc hi hb)) (dn_bd (.inl e1) (cross_bd hi ha hg hc)) (dn_bd (.inl e1) (cross_bd hg hb hi' ha))
      (dn_bd (.inl e1) (cross_bd hb hf hc he)) (dn_bd (.inl e1) (cross_bd hc hd' ha hf)) (dn_bd (.inl e1) (cross_bd ha he hb hd')) (by rw [e1]; rfl) (by rw [e1]; rfl) (by rw [e1]; rfl) (by rw [e1]; rfl)
  · exact i_undo_n a b c d e f g h i _ _ _ _ _ _ _ _ _ (detL m) w hdet c0 c1 c2 (dn_bd (.inr e1) (cross_bd he hi hf hi')) (dn_bd (.inr e1) (cross_bd hf hg hd' hi)) (dn_bd (.inr e1) (cross_bd hd' hi' he hg)) (dn_bd (.inr e1) (cross_bd hi' hc hi hb)) (dn_bd (.inr e1) (cross_bd hi ha hg hc)) (dn_bd (.inr e1) (cross_bd hg hb hi' ha))
      (dn_bd (.inr e1) (cross_bd hb hf hc he)) (dn_bd (.inr e1) (cross_bd hc hd' ha hf)) (dn_bd (.inr e1) (cross_bd ha he hb hd')) (by rw [e1]; rfl) (by rw [e1]; rfl) (by rw [e1]; rfl) (by rw [e1]; rfl)

set_option maxRecDepth 100000 in
set_option maxHeartbeats 1600000 in
theorem i_inv (m : List (List Int)) (v : Value) (w : World) (hg : HasErr w) (hv : Rw w v m) :
    Calls Tryd.prog 7 #[v] w (GotR w (invR m)) := by
  have HV := Lib.hid hv
  have HG := Lib.hid hg
  obtain ⟨v, cc, rfl, _, _⟩ := hv.shape
  clear hv hg
  by_cases hm : isM m = true
  · obtain ⟨a, b, c, d, e, f, g, h, i, p1, hs, hdd⟩ := pad_all hm
    have HM := Lib.hid hm
    have P1 := Lib.hid p1
    by_cases hd : detL m = 1 ∨ detL m = -1
    · have HU := Lib.hid (fun w => i_undo hd hs hdd w)
      have HR := Lib.hid (invR_mat hm hd)
      have HC := Lib.hid (invG_cut (isM_t hm).1 (isM_t hm).2.1 (isM_sq hm))
      clear hm p1 hd hs hdd
      go_enter Tryd.func7, Tryd.ntmps7
      go_wp2_with fail
      refine (i_ismat m _ _ HV.out).mono ?_
      rintro e w1 ⟨rfl, hb⟩
      rw [HM.out]
      have B1 := Lib.hid hb
      clear hb
      go_wp2_with fail
      refine (i_gridof (isM_t HM.out).1 (isM_t HM.out).2.1 (isM_sq HM.out) P1.out _ _ (HV.out.below B1.out)).mono ?_
      rintro e w2 ⟨rfl, hb⟩
      have B2 := Lib.hid (B1.out.trans (hb.mono B1.out.size))
      clear hb
      obtain ⟨y0, y1, y2, y3, y4, y5, y6, y7, y8, hy, hu⟩ := HU.out w2
      have HY := Lib.hid hy
      have HU2 := Lib.hid hu
      clear hy hu
      go_wp2_with fail
      refine HU2.out.mono ?_
      rintro e w3 ⟨rfl, hb⟩
      have B3 := Lib.hid (B2.out.trans (hb.mono B2.out.size))
      clear hb
      go_wp2_with fail
      refine (as_nil _ _).mono ?_
      rintro e w4 ⟨rfl, rfl⟩
      go_wp2_with fail
      refine (i_rowsof _ _ _ _ _ _ _ _ _ m.length (isM_t HM.out).1 (isM_t HM.out).2.1 _).mono ?_
      rintro e w5 ⟨⟨r, rfl, ho⟩, hb⟩
      have B4 := Lib.hid ((B3.out.alloc B3.out.size (.cells #[.int .i64 y0, .int .i64 y1, .int .i64 y2, .int .i64 y3, .int .i64 y4, .int .i64 y5, .int .i64 y6, .int .i64 y7, .int .i64 y8] 37)).alloc (by have := B3.out.size; simp; omega) (.cells #[.int .i64 0] 44))
      have B5 := Lib.hid (B4.out.trans (hb.mono B4.out.size))
      have HO := Lib.hid (ho.mono (lo' := w.heap.size) B4.out.size (Nat.le_refl _))
      clear hb ho
      go_wp2_with fail
      go_ret2
      have e2 := HC.out
      rw [P1.out, HY.out] at e2
      rw [HR.out, ← e2]
      exact ⟨⟨_, rfl, HO.out⟩, B5.out⟩
    · have HU := Lib.hid (fun w => i_undo_f a b c d e f g h i (detL m) w (fun W => by have k := i_det a b c d e f g h i hs W; rw [hdd] at k; exact k) (by rw [bne_iff_ne]; omega) (by rw [beq_eq_false_iff_ne]; omega) (by rw [bne_iff_ne]; omega) (by rw [beq_eq_false_iff_ne]; omega))
      have HR := Lib.hid (invR_no (m := m) (fun h => hd h.2))
      clear hm p1 hd hs hdd
      go_enter Tryd.func7, Tryd.ntmps7
      go_wp2_with fail
      refine (i_ismat m _ _ HV.out).mono ?_
      rintro e w1 ⟨rfl, hb⟩
      rw [HM.out]
      have B1 := Lib.hid hb
      clear hb
      go_wp2_with fail
      refine (i_gridof (isM_t HM.out).1 (isM_t HM.out).2.1 (isM_sq HM.out) P1.out _ _ (HV.out.below B1.out)).mono ?_
      rintro e w2 ⟨rfl, hb⟩
      have B2 := Lib.hid (B1.out.trans (hb.mono B1.out.size))
      clear hb
      go_wp2_with fail
      refine (HU.out _).mono ?_
      rintro e w3 ⟨rfl, hb⟩
      have B3 := Lib.hid (B2.out.trans (hb.mono B2.out.size))
      clear hb
      go_wp2_with fail
      have B4 := Lib.hid ((B3.out.alloc B3.out.size (.cells #[.int .i64 0, .int .i64 0, .int .i64 0, .int .i64 0, .int .i64 0, .int .i64 0, .int .i64 0, .int .i64 0, .int .i64 0] 37)).alloc (by have := B3.out.size; simp; omega) (.cells #[.int .i64 0] 44))
      refine (as_hit (detL m) ⟨w3.heap.size + 1, 0, none⟩ (.int .i64 0) _ (HG.out.below B4.out) (by simp) (by simp)).mono ?_
      rintro e w4 ⟨rfl, hw⟩
      have B5 := Lib.hid (show Below w.heap.size w w4 by
        rw [hw]
        exact ((((B4.out.alloc (by have := B3.out.size; simp; omega) _).alloc (by have := B3.out.size; simp; omega) _).alloc (by have := B3.out.size; simp; omega) _).alloc (by have := B3.out.size; simp; omega) _).setCell (p := ⟨w3.heap.size + 1, 0, none⟩) (Nat.le_trans B3.out.size (Nat.le_succ _)) _)
      clear hw
      go_wp2_with fail
      go_ret2
      rw [HR.out]
      exact ⟨⟨_, rfl, OwR.nil⟩, B5.out⟩
  · have HR := Lib.hid (invR_no (m := m) (fun h => hm h.1))
    have HM := Lib.hid (bool_f hm)
    clear hm
    go_enter Tryd.func7, Tryd.ntmps7
    go_wp2_with fail
    refine (i_ismat m _ _ HV.out).mono ?_
    rintro e w1 ⟨rfl, hb⟩
    rw [HM.out]
    go_wp2_with fail
    go_ret2
    rw [HR.out]
    exact ⟨⟨_, rfl, OwR.nil⟩, hb⟩
end Go.Proofs.YteenheidomfpkaaDoor
