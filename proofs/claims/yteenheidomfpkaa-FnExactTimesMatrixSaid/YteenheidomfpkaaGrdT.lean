/- The program's TimesMatrix. -/
import Derived.Test.YteenheidomfpkaaGrdS
import Derived.Test.YteenheidomfpkaaGrdR
import Derived.Test.YteenheidomfpkaaGrdC
import Derived.Test.YteenheidomfpkaaMeet
namespace Go.Proofs.Yteenheidomfpkaa
open Go.RowKit Go.Lib

theorem sq_at {M a b c d e f g h i : Int} (hq : Sq 3 M [[a, b, c], [d, e, f], [g, h, i]]) : ((-M ≤ a ∧ a ≤ M) ∧ (-M ≤ b ∧ b ≤ M) ∧ (-M ≤ c ∧ c ≤ M)) ∧ ((-M ≤ d ∧ d ≤ M) ∧ (-M ≤ e ∧ e ≤ M) ∧ (-M ≤ f ∧ f ≤ M)) ∧ ((-M ≤ g ∧ g ≤ M) ∧ (-M ≤ h ∧ h ≤ M) ∧ (-M ≤ i ∧ i ≤ M)) := by
  obtain ⟨_, _, _, _, _, _, _, _, _, hh, ha, hb, hc, hd, he, hf, hg, hi', hi⟩ := sq3 hq
  simp only [List.cons.injEq, and_true] at hh
  obtain ⟨⟨rfl, rfl, rfl⟩, ⟨rfl, rfl, rfl⟩, rfl, rfl, rfl⟩ := hh
  exact ⟨⟨ha, hb, hc⟩, ⟨hd, he, hf⟩, hg, hi', hi⟩
theorem tm_bd {x y : Int} (hx : -100 ≤ x ∧ x ≤ 100) (hy : -100 ≤ y ∧ y ≤ 100) : -4000000000000000000 ≤ x * y ∧ x * y ≤ 4000000000000000000 := by have := prod_bd hx hy; omega
theorem tm_bd0 : -4000000000000000000 ≤ (0 : Int) ∧ (0 : Int) ≤ 4000000000000000000 := by omega
theorem tm_bd1 {x y : Int} (hx : -100 ≤ x ∧ x ≤ 100) (hy : -100 ≤ y ∧ y ≤ 100) : -4000000000000000000 ≤ x * y ∧ x * y ≤ 4000000000000000000 := by have := prod_bd hx hy; omega
theorem tm_bd2 {x y u v : Int} (hx : -100 ≤ x ∧ x ≤ 100) (hy : -100 ≤ y ∧ y ≤ 100) (hu : -100 ≤ u ∧ u ≤ 100) (hv : -100 ≤ v ∧ v ≤ 100) : -4000000000000000000 ≤ x * y + u * v ∧ x * y + u * v ≤ 4000000000000000000 := by have := prod_bd hx hy; have := prod_bd hu hv; omega
theorem i_addt0 (f x y z : Int) (w : World) (hx : -4000000000000000000 ≤ f * x ∧ f * x ≤ 4000000000000000000) (hy : -4000000000000000000 ≤ f * y ∧ f * y ≤ 4000000000000000000) (hz : -4000000000000000000 ≤ f * z ∧ f * z ≤ 4000000000000000000) :
    Calls Try.prog 44 #[.agg #[.int .i64 0, .int .i64 0, .int .i64 0], .int .i64 f, .agg #[.int .i64 x, .int .i64 y, .int .i64 z]] w (Arr w (f * x) (f * y) (f * z)) := by
  have h := i_addt 0 0 0 f x y z w tm_bd0 tm_bd0 tm_bd0 hx hy hz
  simp only [Int.zero_add] at h
  exact h
theorem timesR_mat {m q : List (List Int)} {a b c d e f g h i a' b' c' d' e' f' g' h' i' : Int} (h1 : isM m = true) (h2 : isM q = true) (h3 : m.length = q.length) (p1 : padM m = [[a, b, c], [d, e, f], [g, h, i]]) (p2 : padM q = [[a', b', c'], [d', e', f'], [g', h', i']]) :
    timesR m q = matR (cutM m.length [[a * a' + b * d' + c * g', a * b' + b * e' + c * h', a * c' + b * f' + c * i'], [d * a' + e * d' + f * g', d * b' + e * e' + f * h', d * c' + e * f' + f * i'], [g * a' + h * d' + i * g', g * b' + h * e' + i * h', g * c' + h * f' + i * i']]) := by
  have hk := mul_cut (isM_t h1).1 (isM_t h1).2.1 (isM_sq h1) (by rw [h3]; exact isM_sq h2)
  rw [p1, p2] at hk
  have e1 : timesR m q = matR (timesL m q) := by
    unfold timesR matR
    by_cases h4 : isM (timesL m q) = true
    · rw [if_pos ⟨h1, h2, h3, h4⟩, if_pos h4]
    · rw [if_neg (fun h => h4 h.2.2.2), if_neg h4]
  rw [e1, ← hk]
  rfl
theorem idx9 (a b c d e f g h i : Value) : (∀ w, (Instr.index 43 (.agg #[a, b, c, d, e, f, g, h, i]) (.int .i64 0)).run Try.prog w = .ok (.agg #[a, b, c]) w) ∧ (∀ w, (Instr.index 43 (.agg #[a, b, c, d, e, f, g, h, i]) (.int .i64 1)).run Try.prog w = .ok (.agg #[d, e, f]) w) ∧ (∀ w, (Instr.index 43 (.agg #[a, b, c, d, e, f, g, h, i]) (.int .i64 2)).run Try.prog w = .ok (.agg #[g, h, i]) w) :=
  ⟨fun _ => by kernel_rfl, fun _ => by kernel_rfl, fun _ => by kernel_rfl⟩

set_option maxRecDepth 100000 in
set_option maxHeartbeats 8000000 in
theorem i_timesm_t (m q : List (List Int)) (v u : Value) (w : World) (hv : Rw w v m) (hu : Rw w u q) (h1 : isM m = true) (h2 : isM q = true) (h3 : m.length = q.length) :
    Calls Try.prog 15 #[v, u] w (GotR w (timesR m q)) := by
  obtain ⟨x0, x1, x2, x3, x4, x5, x6, x7, x8, p1, s1, _⟩ := pad_all h1
  obtain ⟨y0, y1, y2, y3, y4, y5, y6, y7, y8, p2, s2, _⟩ := pad_all h2
  have HR := Lib.hid (timesR_mat h1 h2 h3 p1 p2)
  have HV := Lib.hid hv
  have HU := Lib.hid hu
  obtain ⟨v, c, rfl, _, _⟩ := hv.shape
  obtain ⟨u, d, rfl, _, _⟩ := hu.shape
  have E1 := Lib.hid h1
  have E2 := Lib.hid h2
  have E3 := Lib.hid h3
  have P1 := Lib.hid p1
  have P2 := Lib.hid p2
  have S1 := Lib.hid s1
  have S2 := Lib.hid s2
  have B0 := Lib.hid (Below.refl w.heap.size w)
  have hne : ((m.length : Int) != (q.length : Int)) = false := by simp [h3]
  clear hv hu h1 h2 h3 p1 p2 s1 s2
  go_enter Try.func15, Try.ntmps15
  go_wp2_with fail
  refine (i_ismat m _ _ HV.out).mono ?_
  rintro e w1 ⟨rfl, hb⟩
  rw [E1.out]
  have B1 := Lib.hid (B0.out.trans (hb.mono B0.out.size))
  clear hb
  go_wp2_with fail
  refine (i_ismat q _ _ (HU.out.below B1.out)).mono ?_
  rintro e w2 ⟨rfl, hb⟩
  rw [E2.out]
  have B2 := Lib.hid (B1.out.trans (hb.mono B1.out.size))
  clear hb
  go_wp2_with fail
  refine (i_gridof (isM_t E1.out).1 (isM_t E1.out).2.1 (isM_sq E1.out) P1.out _ _ (HV.out.below B2.out)).mono ?_
  rintro e w3 ⟨rfl, hb⟩
  have B3 := Lib.hid (B2.out.trans (hb.mono B2.out.size))
  clear hb
  go_wp2_with fail
  refine (i_gridof (isM_t E2.out).1 (isM_t E2.out).2.1 (isM_sq E2.out) P2.out _ _ (HU.out.below B3.out)).mono ?_
  rintro e w4 ⟨rfl, hb⟩
  have B4 := Lib.hid (B3.out.trans (hb.mono B3.out.size))
  clear hb

  obtain ⟨r0, r1, r2⟩ := idx9 (.int .i64 x0) (.int .i64 x1) (.int .i64 x2) (.int .i64 x3) (.int .i64 x4) (.int .i64 x5) (.int .i64 x6) (.int .i64 x7) (.int .i64 x8)
  obtain ⟨i00, i01, i02⟩ := idx3 (.int .i64 x0) (.int .i64 x1) (.int .i64 x2)
  obtain ⟨i10, i11, i12⟩ := idx3 (.int .i64 x3) (.int .i64 x4) (.int .i64 x5)
  obtain ⟨i20, i21, i22⟩ := idx3 (.int .i64 x6) (.int .i64 x7) (.int .i64 x8)
  have SX := Lib.hid (sq_at S1.out)
  have SY := Lib.hid (sq_at S2.out)
  have SZ := Lib.hid (show w.heap.size ≤ w4.heap.size + 1 + 1 by have := B4.out.size; omega)
  go_wp2_with fail
  refine wp_loop_rounds 4 ?_
  rw [rounds_succ]
  go_wp2
  refine wp_loop_rounds 4 ?_
  rw [rounds_succ]
  go_wp2
  refine wgen ?_
  intro W0 hW
  have GZ0 := Lib.hid (show G9 W0 (w4.heap.size + 1 + 1) 43 (0) (0) (0) (0) (0) (0) (0) (0) (0) by rw [hW]; exact (G9.newAt (by simp) _ 0 0 0 0 0 0 0 0 0).below ((Below.refl _ _).alloc (Nat.le_refl _) _))
  have GY0 := Lib.hid (show G9 W0 (w4.heap.size + 1) 43 y0 y1 y2 y3 y4 y5 y6 y7 y8 by rw [hW]; exact ((G9.newAt (by simp) _ y0 y1 y2 y3 y4 y5 y6 y7 y8).below ((Below.refl _ _).alloc (Nat.le_refl _) _)).below ((Below.refl _ _).alloc (Nat.le_refl _) _))
  have BW0 := Lib.hid (show Below w.heap.size w W0 by rw [hW]; exact (((B4.out.alloc B4.out.size _).alloc (by have := B4.out.size; simp; omega) _).alloc (by have := B4.out.size; simp; omega) _).alloc (by have := B4.out.size; simp; omega) _)
  clear hW
  obtain ⟨k0, k1, k2⟩ := GZ0.out.cells.1
  obtain ⟨l0, l1, l2⟩ := GY0.out.cells.1
  have CT := Lib.hid (fun W => i_addt0 x0 y0 y1 y2 W (tm_bd SX.out.1.1 SY.out.1.1) (tm_bd SX.out.1.1 SY.out.1.2.1) (tm_bd SX.out.1.1 SY.out.1.2.2))
  refine region_meet (fun a => ((((((((((a.put (some 42) (.int .i64 0)).put (some 43) (.int .i64 0)).put (some 44) (.pointer (some ⟨w4.heap.size + 1 + 1, 0, none⟩))).put (some 45) (.agg #[.int .i64 0, .int .i64 0, .int .i64 0])).put (some 46) (.int .i64 x0)).put (some 47) (.int .i64 0)).put (some 48) (.pointer (some ⟨w4.heap.size + 1, 0, none⟩))).put (some 49) (.agg #[.int .i64 y0, .int .i64 y1, .int .i64 y2])).put (some 50) (.agg #[.int .i64 (x0 * y0), .int .i64 (x0 * y1), .int .i64 (x0 * y2)])).put (some 51) (.pointer (some ⟨w4.heap.size + 1 + 1, 0, none⟩)))) (CutS W0 (w4.heap.size + 1 + 1) 0 (x0 * y0) (x0 * y1) (x0 * y2)) ?h1_0 ?h2_0
  case h1_0 =>
    intro ab HAB
    go_region_with (first | (go_at_call 44; refine (CT.out _).mono ?_; rintro e V ⟨rfl, hb⟩; have N := GZ0.out.belowE hb; obtain ⟨k0, k1, k2⟩ := N.cells.1; have f0 := N.frozen 0; have f1 := N.frozen 1; have f2 := N.frozen 2; clear N))
    all_goals (refine ⟨?_, V, hb, rfl⟩; rw [HAB.out]; simp [Act.put])
  intro W hc
  obtain ⟨V1, hb, rfl⟩ := hc
  have M1 := Lib.hid (GY0.out.belowE hb)
  have N1 := Lib.hid (GZ0.out.belowE hb)
  have BA1 := Lib.hid ((BW0.out.drew).trans (hb.mono BW0.out.size))
  clear k0 k1 k2 l0 l1 l2 hb GZ0 GY0 BW0
  clear CT
  have GZ := Lib.hid (N1.out.set0 (x0 * y0) (x0 * y1) (x0 * y2))
  have GY := Lib.hid (((M1.out.other (p := ⟨w4.heap.size + 1 + 1, 0, none⟩) (by simp) (.int .i64 (x0 * y0))).other (p := ⟨w4.heap.size + 1 + 1, 1, none⟩) (by simp) (.int .i64 (x0 * y1))).other (p := ⟨w4.heap.size + 1 + 1, 2, none⟩) (by simp) (.int .i64 (x0 * y2)))
  have BW := Lib.hid (((BA1.out.setCell (p := ⟨w4.heap.size + 1 + 1, 0, none⟩) SZ.out (.int .i64 (x0 * y0))).setCell (p := ⟨w4.heap.size + 1 + 1, 1, none⟩) SZ.out (.int .i64 (x0 * y1))).setCell (p := ⟨w4.heap.size + 1 + 1, 2, none⟩) SZ.out (.int .i64 (x0 * y2)))
  go_wp2
  rw [rounds_succ]
  go_wp2
  refine wgen ?_
  intro W1 hW
  have GZ1 := Lib.hid (show G9 W1 (w4.heap.size + 1 + 1) 43 (x0 * y0) (x0 * y1) (x0 * y2) (0) (0) (0) (0) (0) (0) by rw [hW]; exact GZ.out)
  have GY1 := Lib.hid (show G9 W1 (w4.heap.size + 1) 43 y0 y1 y2 y3 y4 y5 y6 y7 y8 by rw [hW]; exact GY.out)
  have BW1 := Lib.hid (show Below w.heap.size w W1 by rw [hW]; exact BW.out)
  clear hW GZ GY BW
  obtain ⟨k0, k1, k2⟩ := GZ1.out.cells.1
  obtain ⟨l0, l1, l2⟩ := GY1.out.cells.2.1
  have CT := Lib.hid (fun W => i_addt (x0 * y0) (x0 * y1) (x0 * y2) x1 y3 y4 y5 W (tm_bd1 SX.out.1.1 SY.out.1.1) (tm_bd1 SX.out.1.1 SY.out.1.2.1) (tm_bd1 SX.out.1.1 SY.out.1.2.2) (tm_bd SX.out.1.2.1 SY.out.2.1.1) (tm_bd SX.out.1.2.1 SY.out.2.1.2.1) (tm_bd SX.out.1.2.1 SY.out.2.1.2.2))
  refine region_meet (fun a => ((((((((((a.put (some 42) (.int .i64 0)).put (some 43) (.int .i64 0)).put (some 44) (.pointer (some ⟨w4.heap.size + 1 + 1, 0, none⟩))).put (some 45) (.agg #[.int .i64 (x0 * y0), .int .i64 (x0 * y1), .int .i64 (x0 * y2)])).put (some 46) (.int .i64 x1)).put (some 47) (.int .i64 1)).put (some 48) (.pointer (some ⟨w4.heap.size + 1, 3, none⟩))).put (some 49) (.agg #[.int .i64 y3, .int .i64 y4, .int .i64 y5])).put (some 50) (.agg #[.int .i64 (x0 * y0 + x1 * y3), .int .i64 (x0 * y1 + x1 * y4), .int .i64 (x0 * y2 + x1 * y5)])).put (some 51) (.pointer (some ⟨w4.heap.size + 1 + 1, 0, none⟩)))) (CutS W1 (w4.heap.size + 1 + 1) 0 (x0 * y0 + x1 * y3) (x0 * y1 + x1 * y4) (x0 * y2 + x1 * y5)) ?h1_1 ?h2_1
  case h1_1 =>
    intro ab HAB
    go_region_with (first | (go_at_call 44; refine (CT.out _).mono ?_; rintro e V ⟨rfl, hb⟩; have N := GZ1.out.belowE hb; obtain ⟨k0, k1, k2⟩ := N.cells.1; have f0 := N.frozen 0; have f1 := N.frozen 1; have f2 := N.frozen 2; clear N))
    all_goals (refine ⟨?_, V, hb, rfl⟩; rw [HAB.out]; simp [Act.put])
  intro W hc
  obtain ⟨V2, hb, rfl⟩ := hc
  have M2 := Lib.hid (GY1.out.belowE hb)
  have N2 := Lib.hid (GZ1.out.belowE hb)
  have BA2 := Lib.hid ((BW1.out.drew).trans (hb.mono BW1.out.size))
  clear k0 k1 k2 l0 l1 l2 hb GZ1 GY1 BW1
  clear CT
  have GZ := Lib.hid (N2.out.set0 (x0 * y0 + x1 * y3) (x0 * y1 + x1 * y4) (x0 * y2 + x1 * y5))
  have GY := Lib.hid (((M2.out.other (p := ⟨w4.heap.size + 1 + 1, 0, none⟩) (by simp) (.int .i64 (x0 * y0 + x1 * y3))).other (p := ⟨w4.heap.size + 1 + 1, 1, none⟩) (by simp) (.int .i64 (x0 * y1 + x1 * y4))).other (p := ⟨w4.heap.size + 1 + 1, 2, none⟩) (by simp) (.int .i64 (x0 * y2 + x1 * y5)))
  have BW := Lib.hid (((BA2.out.setCell (p := ⟨w4.heap.size + 1 + 1, 0, none⟩) SZ.out (.int .i64 (x0 * y0 + x1 * y3))).setCell (p := ⟨w4.heap.size + 1 + 1, 1, none⟩) SZ.out (.int .i64 (x0 * y1 + x1 * y4))).setCell (p := ⟨w4.heap.size + 1 + 1, 2, none⟩) SZ.out (.int .i64 (x0 * y2 + x1 * y5)))
  go_wp2
  rw [rounds_succ]
  go_wp2
  refine wgen ?_
  intro W2 hW
  have GZ2 := Lib.hid (show G9 W2 (w4.heap.size + 1 + 1) 43 (x0 * y0 + x1 * y3) (x0 * y1 + x1 * y4) (x0 * y2 + x1 * y5) (0) (0) (0) (0) (0) (0) by rw [hW]; exact GZ.out)
  have GY2 := Lib.hid (show G9 W2 (w4.heap.size + 1) 43 y0 y1 y2 y3 y4 y5 y6 y7 y8 by rw [hW]; exact GY.out)
  have BW2 := Lib.hid (show Below w.heap.size w W2 by rw [hW]; exact BW.out)
  clear hW GZ GY BW
  obtain ⟨k0, k1, k2⟩ := GZ2.out.cells.1
  obtain ⟨l0, l1, l2⟩ := GY2.out.cells.2.2
  have CT := Lib.hid (fun W => i_addt (x0 * y0 + x1 * y3) (x0 * y1 + x1 * y4) (x0 * y2 + x1 * y5) x2 y6 y7 y8 W (tm_bd2 SX.out.1.1 SY.out.1.1 SX.out.1.2.1 SY.out.2.1.1) (tm_bd2 SX.out.1.1 SY.out.1.2.1 SX.out.1.2.1 SY.out.2.1.2.1) (tm_bd2 SX.out.1.1 SY.out.1.2.2 SX.out.1.2.1 SY.out.2.1.2.2) (tm_bd SX.out.1.2.2 SY.out.2.2.1) (tm_bd SX.out.1.2.2 SY.out.2.2.2.1) (tm_bd SX.out.1.2.2 SY.out.2.2.2.2))
  refine region_meet (fun a => ((((((((((a.put (some 42) (.int .i64 0)).put (some 43) (.int .i64 0)).put (some 44) (.pointer (some ⟨w4.heap.size + 1 + 1, 0, none⟩))).put (some 45) (.agg #[.int .i64 (x0 * y0 + x1 * y3), .int .i64 (x0 * y1 + x1 * y4), .int .i64 (x0 * y2 + x1 * y5)])).put (some 46) (.int .i64 x2)).put (some 47) (.int .i64 2)).put (some 48) (.pointer (some ⟨w4.heap.size + 1, 6, none⟩))).put (some 49) (.agg #[.int .i64 y6, .int .i64 y7, .int .i64 y8])).put (some 50) (.agg #[.int .i64 (x0 * y0 + x1 * y3 + x2 * y6), .int .i64 (x0 * y1 + x1 * y4 + x2 * y7), .int .i64 (x0 * y2 + x1 * y5 + x2 * y8)])).put (some 51) (.pointer (some ⟨w4.heap.size + 1 + 1, 0, none⟩)))) (CutS W2 (w4.heap.size + 1 + 1) 0 (x0 * y0 + x1 * y3 + x2 * y6) (x0 * y1 + x1 * y4 + x2 * y7) (x0 * y2 + x1 * y5 + x2 * y8)) ?h1_2 ?h2_2
  case h1_2 =>
    intro ab HAB
    go_region_with (first | (go_at_call 44; refine (CT.out _).mono ?_; rintro e V ⟨rfl, hb⟩; have N := GZ2.out.belowE hb; obtain ⟨k0, k1, k2⟩ := N.cells.1; have f0 := N.frozen 0; have f1 := N.frozen 1; have f2 := N.frozen 2; clear N))
    all_goals (refine ⟨?_, V, hb, rfl⟩; rw [HAB.out]; simp [Act.put])
  intro W hc
  obtain ⟨V3, hb, rfl⟩ := hc
  have M3 := Lib.hid (GY2.out.belowE hb)
  have N3 := Lib.hid (GZ2.out.belowE hb)
  have BA3 := Lib.hid ((BW2.out.drew).trans (hb.mono BW2.out.size))
  clear k0 k1 k2 l0 l1 l2 hb GZ2 GY2 BW2
  clear CT
  have GZ := Lib.hid (N3.out.set0 (x0 * y0 + x1 * y3 + x2 * y6) (x0 * y1 + x1 * y4 + x2 * y7) (x0 * y2 + x1 * y5 + x2 * y8))
  have GY := Lib.hid (((M3.out.other (p := ⟨w4.heap.size + 1 + 1, 0, none⟩) (by simp) (.int .i64 (x0 * y0 + x1 * y3 + x2 * y6))).other (p := ⟨w4.heap.size + 1 + 1, 1, none⟩) (by simp) (.int .i64 (x0 * y1 + x1 * y4 + x2 * y7))).other (p := ⟨w4.heap.size + 1 + 1, 2, none⟩) (by simp) (.int .i64 (x0 * y2 + x1 * y5 + x2 * y8)))
  have BW := Lib.hid (((BA3.out.setCell (p := ⟨w4.heap.size + 1 + 1, 0, none⟩) SZ.out (.int .i64 (x0 * y0 + x1 * y3 + x2 * y6))).setCell (p := ⟨w4.heap.size + 1 + 1, 1, none⟩) SZ.out (.int .i64 (x0 * y1 + x1 * y4 + x2 * y7))).setCell (p := ⟨w4.heap.size + 1 + 1, 2, none⟩) SZ.out (.int .i64 (x0 * y2 + x1 * y5 + x2 * y8)))
  go_wp2
  rw [rounds_succ]
  go_wp2
  rw [rounds_succ]
  go_wp2
  refine wp_loop_rounds 4 ?_
  rw [rounds_succ]
  go_wp2
  refine wgen ?_
  intro W3 hW
  have GZ3 := Lib.hid (show G9 W3 (w4.heap.size + 1 + 1) 43 (x0 * y0 + x1 * y3 + x2 * y6) (x0 * y1 + x1 * y4 + x2 * y7) (x0 * y2 + x1 * y5 + x2 * y8) (0) (0) (0) (0) (0) (0) by rw [hW]; exact GZ.out.below ((Below.refl _ _).alloc (Nat.le_refl _) _))
  have GY3 := Lib.hid (show G9 W3 (w4.heap.size + 1) 43 y0 y1 y2 y3 y4 y5 y6 y7 y8 by rw [hW]; exact GY.out.below ((Below.refl _ _).alloc (Nat.le_refl _) _))
  have BW3 := Lib.hid (show Below w.heap.size w W3 by rw [hW]; exact BW.out.alloc BW.out.size _)
  clear hW GZ GY BW
  obtain ⟨k0, k1, k2⟩ := GZ3.out.cells.2.1
  obtain ⟨l0, l1, l2⟩ := GY3.out.cells.1
  have CT := Lib.hid (fun W => i_addt0 x3 y0 y1 y2 W (tm_bd SX.out.2.1.1 SY.out.1.1) (tm_bd SX.out.2.1.1 SY.out.1.2.1) (tm_bd SX.out.2.1.1 SY.out.1.2.2))
  refine region_meet (fun a => ((((((((((a.put (some 42) (.int .i64 1)).put (some 43) (.int .i64 1)).put (some 44) (.pointer (some ⟨w4.heap.size + 1 + 1, 3, none⟩))).put (some 45) (.agg #[.int .i64 0, .int .i64 0, .int .i64 0])).put (some 46) (.int .i64 x3)).put (some 47) (.int .i64 0)).put (some 48) (.pointer (some ⟨w4.heap.size + 1, 0, none⟩))).put (some 49) (.agg #[.int .i64 y0, .int .i64 y1, .int .i64 y2])).put (some 50) (.agg #[.int .i64 (x3 * y0), .int .i64 (x3 * y1), .int .i64 (x3 * y2)])).put (some 51) (.pointer (some ⟨w4.heap.size + 1 + 1, 3, none⟩)))) (CutS W3 (w4.heap.size + 1 + 1) 3 (x3 * y0) (x3 * y1) (x3 * y2)) ?h1_3 ?h2_3
  case h1_3 =>
    intro ab HAB
    go_region_with (first | (go_at_call 44; refine (CT.out _).mono ?_; rintro e V ⟨rfl, hb⟩; have N := GZ3.out.belowE hb; obtain ⟨k0, k1, k2⟩ := N.cells.2.1; have f0 := N.frozen 3; have f1 := N.frozen 4; have f2 := N.frozen 5; clear N))
    all_goals (refine ⟨?_, V, hb, rfl⟩; rw [HAB.out]; simp [Act.put])
  intro W hc
  obtain ⟨V4, hb, rfl⟩ := hc
  have M4 := Lib.hid (GY3.out.belowE hb)
  have N4 := Lib.hid (GZ3.out.belowE hb)
  have BA4 := Lib.hid ((BW3.out.drew).trans (hb.mono BW3.out.size))
  clear k0 k1 k2 l0 l1 l2 hb GZ3 GY3 BW3
  clear CT
  have GZ := Lib.hid (N4.out.set1 (x3 * y0) (x3 * y1) (x3 * y2))
  have GY := Lib.hid (((M4.out.other (p := ⟨w4.heap.size + 1 + 1, 3, none⟩) (by simp) (.int .i64 (x3 * y0))).other (p := ⟨w4.heap.size + 1 + 1, 4, none⟩) (by simp) (.int .i64 (x3 * y1))).other (p := ⟨w4.heap.size + 1 + 1, 5, none⟩) (by simp) (.int .i64 (x3 * y2)))
  have BW := Lib.hid (((BA4.out.setCell (p := ⟨w4.heap.size + 1 + 1, 3, none⟩) SZ.out (.int .i64 (x3 * y0))).setCell (p := ⟨w4.heap.size + 1 + 1, 4, none⟩) SZ.out (.int .i64 (x3 * y1))).setCell (p := ⟨w4.heap.size + 1 + 1, 5, none⟩) SZ.out (.int .i64 (x3 * y2)))
  go_wp2
  rw [rounds_succ]
  go_wp2
  refine wgen ?_
  intro W4 hW
  have GZ4 := Lib.hid (show G9 W4 (w4.heap.size + 1 + 1) 43 (x0 * y0 + x1 * y3 + x2 * y6) (x0 * y1 + x1 * y4 + x2 * y7) (x0 * y2 + x1 * y5 + x2 * y8) (x3 * y0) (x3 * y1) (x3 * y2) (0) (0) (0) by rw [hW]; exact GZ.out)
  have GY4 := Lib.hid (show G9 W4 (w4.heap.size + 1) 43 y0 y1 y2 y3 y4 y5 y6 y7 y8 by rw [hW]; exact GY.out)
  have BW4 := Lib.hid (show Below w.heap.size w W4 by rw [hW]; exact BW.out)
  clear hW GZ GY BW
  obtain ⟨k0, k1, k2⟩ := GZ4.out.cells.2.1
  obtain ⟨l0, l1, l2⟩ := GY4.out.cells.2.1
  have CT := Lib.hid (fun W => i_addt (x3 * y0) (x3 * y1) (x3 * y2) x4 y3 y4 y5 W (tm_bd1 SX.out.2.1.1 SY.out.1.1) (tm_bd1 SX.out.2.1.1 SY.out.1.2.1) (tm_bd1 SX.out.2.1.1 SY.out.1.2.2) (tm_bd SX.out.2.1.2.1 SY.out.2.1.1) (tm_bd SX.out.2.1.2.1 SY.out.2.1.2.1) (tm_bd SX.out.2.1.2.1 SY.out.2.1.2.2))
  refine region_meet (fun a => ((((((((((a.put (some 42) (.int .i64 1)).put (some 43) (.int .i64 1)).put (some 44) (.pointer (some ⟨w4.heap.size + 1 + 1, 3, none⟩))).put (some 45) (.agg #[.int .i64 (x3 * y0), .int .i64 (x3 * y1), .int .i64 (x3 * y2)])).put (some 46) (.int .i64 x4)).put (some 47) (.int .i64 1)).put (some 48) (.pointer (some ⟨w4.heap.size + 1, 3, none⟩))).put (some 49) (.agg #[.int .i64 y3, .int .i64 y4, .int .i64 y5])).put (some 50) (.agg #[.int .i64 (x3 * y0 + x4 * y3), .int .i64 (x3 * y1 + x4 * y4), .int .i64 (x3 * y2 + x4 * y5)])).put (some 51) (.pointer (some ⟨w4.heap.size + 1 + 1, 3, none⟩)))) (CutS W4 (w4.heap.size + 1 + 1) 3 (x3 * y0 + x4 * y3) (x3 * y1 + x4 * y4) (x3 * y2 + x4 * y5)) ?h1_4 ?h2_4
  case h1_4 =>
    intro ab HAB
    go_region_with (first | (go_at_call 44; refine (CT.out _).mono ?_; rintro e V ⟨rfl, hb⟩; have N := GZ4.out.belowE hb; obtain ⟨k0, k1, k2⟩ := N.cells.2.1; have f0 := N.frozen 3; have f1 := N.frozen 4; have f2 := N.frozen 5; clear N))
    all_goals (refine ⟨?_, V, hb, rfl⟩; rw [HAB.out]; simp [Act.put])
  intro W hc
  obtain ⟨V5, hb, rfl⟩ := hc
  have M5 := Lib.hid (GY4.out.belowE hb)
  have N5 := Lib.hid (GZ4.out.belowE hb)
  have BA5 := Lib.hid ((BW4.out.drew).trans (hb.mono BW4.out.size))
  clear k0 k1 k2 l0 l1 l2 hb GZ4 GY4 BW4
  clear CT
  have GZ := Lib.hid (N5.out.set1 (x3 * y0 + x4 * y3) (x3 * y1 + x4 * y4) (x3 * y2 + x4 * y5))
  have GY := Lib.hid (((M5.out.other (p := ⟨w4.heap.size + 1 + 1, 3, none⟩) (by simp) (.int .i64 (x3 * y0 + x4 * y3))).other (p := ⟨w4.heap.size + 1 + 1, 4, none⟩) (by simp) (.int .i64 (x3 * y1 + x4 * y4))).other (p := ⟨w4.heap.size + 1 + 1, 5, none⟩) (by simp) (.int .i64 (x3 * y2 + x4 * y5)))
  have BW := Lib.hid (((BA5.out.setCell (p := ⟨w4.heap.size + 1 + 1, 3, none⟩) SZ.out (.int .i64 (x3 * y0 + x4 * y3))).setCell (p := ⟨w4.heap.size + 1 + 1, 4, none⟩) SZ.out (.int .i64 (x3 * y1 + x4 * y4))).setCell (p := ⟨w4.heap.size + 1 + 1, 5, none⟩) SZ.out (.int .i64 (x3 * y2 + x4 * y5)))
  go_wp2
  rw [rounds_succ]
  go_wp2
  refine wgen ?_
  intro W5 hW
  have GZ5 := Lib.hid (show G9 W5 (w4.heap.size + 1 + 1) 43 (x0 * y0 + x1 * y3 + x2 * y6) (x0 * y1 + x1 * y4 + x2 * y7) (x0 * y2 + x1 * y5 + x2 * y8) (x3 * y0 + x4 * y3) (x3 * y1 + x4 * y4) (x3 * y2 + x4 * y5) (0) (0) (0) by rw [hW]; exact GZ.out)
  have GY5 := Lib.hid (show G9 W5 (w4.heap.size + 1) 43 y0 y1 y2 y3 y4 y5 y6 y7 y8 by rw [hW]; exact GY.out)
  have BW5 := Lib.hid (show Below w.heap.size w W5 by rw [hW]; exact BW.out)
  clear hW GZ GY BW
  obtain ⟨k0, k1, k2⟩ := GZ5.out.cells.2.1
  obtain ⟨l0, l1, l2⟩ := GY5.out.cells.2.2
  have CT := Lib.hid (fun W => i_addt (x3 * y0 + x4 * y3) (x3 * y1 + x4 * y4) (x3 * y2 + x4 * y5) x5 y6 y7 y8 W (tm_bd2 SX.out.2.1.1 SY.out.1.1 SX.out.2.1.2.1 SY.out.2.1.1) (tm_bd2 SX.out.2.1.1 SY.out.1.2.1 SX.out.2.1.2.1 SY.out.2.1.2.1) (tm_bd2 SX.out.2.1.1 SY.out.1.2.2 SX.out.2.1.2.1 SY.out.2.1.2.2) (tm_bd SX.out.2.1.2.2 SY.out.2.2.1) (tm_bd SX.out.2.1.2.2 SY.out.2.2.2.1) (tm_bd SX.out.2.1.2.2 SY.out.2.2.2.2))
  refine region_meet (fun a => ((((((((((a.put (some 42) (.int .i64 1)).put (some 43) (.int .i64 1)).put (some 44) (.pointer (some ⟨w4.heap.size + 1 + 1, 3, none⟩))).put (some 45) (.agg #[.int .i64 (x3 * y0 + x4 * y3), .int .i64 (x3 * y1 + x4 * y4), .int .i64 (x3 * y2 + x4 * y5)])).put (some 46) (.int .i64 x5)).put (some 47) (.int .i64 2)).put (some 48) (.pointer (some ⟨w4.heap.size + 1, 6, none⟩))).put (some 49) (.agg #[.int .i64 y6, .int .i64 y7, .int .i64 y8])).put (some 50) (.agg #[.int .i64 (x3 * y0 + x4 * y3 + x5 * y6), .int .i64 (x3 * y1 + x4 * y4 + x5 * y7), .int .i64 (x3 * y2 + x4 * y5 + x5 * y8)])).put (some 51) (.pointer (some ⟨w4.heap.size + 1 + 1, 3, none⟩)))) (CutS W5 (w4.heap.size + 1 + 1) 3 (x3 * y0 + x4 * y3 + x5 * y6) (x3 * y1 + x4 * y4 + x5 * y7) (x3 * y2 + x4 * y5 + x5 * y8)) ?h1_5 ?h2_5
  case h1_5 =>
    intro ab HAB
    go_region_with (first | (go_at_call 44; refine (CT.out _).mono ?_; rintro e V ⟨rfl, hb⟩; have N := GZ5.out.belowE hb; obtain ⟨k0, k1, k2⟩ := N.cells.2.1; have f0 := N.frozen 3; have f1 := N.frozen 4; have f2 := N.frozen 5; clear N))
    all_goals (refine ⟨?_, V, hb, rfl⟩; rw [HAB.out]; simp [Act.put])
  intro W hc
  obtain ⟨V6, hb, rfl⟩ := hc
  have M6 := Lib.hid (GY5.out.belowE hb)
  have N6 := Lib.hid (GZ5.out.belowE hb)
  have BA6 := Lib.hid ((BW5.out.drew).trans (hb.mono BW5.out.size))
  clear k0 k1 k2 l0 l1 l2 hb GZ5 GY5 BW5
  clear CT
  have GZ := Lib.hid (N6.out.set1 (x3 * y0 + x4 * y3 + x5 * y6) (x3 * y1 + x4 * y4 + x5 * y7) (x3 * y2 + x4 * y5 + x5 * y8))
  have GY := Lib.hid (((M6.out.other (p := ⟨w4.heap.size + 1 + 1, 3, none⟩) (by simp) (.int .i64 (x3 * y0 + x4 * y3 + x5 * y6))).other (p := ⟨w4.heap.size + 1 + 1, 4, none⟩) (by simp) (.int .i64 (x3 * y1 + x4 * y4 + x5 * y7))).other (p := ⟨w4.heap.size + 1 + 1, 5, none⟩) (by simp) (.int .i64 (x3 * y2 + x4 * y5 + x5 * y8)))
  have BW := Lib.hid (((BA6.out.setCell (p := ⟨w4.heap.size + 1 + 1, 3, none⟩) SZ.out (.int .i64 (x3 * y0 + x4 * y3 + x5 * y6))).setCell (p := ⟨w4.heap.size + 1 + 1, 4, none⟩) SZ.out (.int .i64 (x3 * y1 + x4 * y4 + x5 * y7))).setCell (p := ⟨w4.heap.size + 1 + 1, 5, none⟩) SZ.out (.int .i64 (x3 * y2 + x4 * y5 + x5 * y8)))
  go_wp2
  rw [rounds_succ]
  go_wp2
  rw [rounds_succ]
  go_wp2
  refine wp_loop_rounds 4 ?_
  rw [rounds_succ]
  go_wp2
  refine wgen ?_
  intro W6 hW
  have GZ6 := Lib.hid (show G9 W6 (w4.heap.size + 1 + 1) 43 (x0 * y0 + x1 * y3 + x2 * y6) (x0 * y1 + x1 * y4 + x2 * y7) (x0 * y2 + x1 * y5 + x2 * y8) (x3 * y0 + x4 * y3 + x5 * y6) (x3 * y1 + x4 * y4 + x5 * y7) (x3 * y2 + x4 * y5 + x5 * y8) (0) (0) (0) by rw [hW]; exact GZ.out.below ((Below.refl _ _).alloc (Nat.le_refl _) _))
  have GY6 := Lib.hid (show G9 W6 (w4.heap.size + 1) 43 y0 y1 y2 y3 y4 y5 y6 y7 y8 by rw [hW]; exact GY.out.below ((Below.refl _ _).alloc (Nat.le_refl _) _))
  have BW6 := Lib.hid (show Below w.heap.size w W6 by rw [hW]; exact BW.out.alloc BW.out.size _)
  clear hW GZ GY BW
  obtain ⟨k0, k1, k2⟩ := GZ6.out.cells.2.2
  obtain ⟨l0, l1, l2⟩ := GY6.out.cells.1
  have CT := Lib.hid (fun W => i_addt0 x6 y0 y1 y2 W (tm_bd SX.out.2.2.1 SY.out.1.1) (tm_bd SX.out.2.2.1 SY.out.1.2.1) (tm_bd SX.out.2.2.1 SY.out.1.2.2))
  refine region_meet (fun a => ((((((((((a.put (some 42) (.int .i64 2)).put (some 43) (.int .i64 2)).put (some 44) (.pointer (some ⟨w4.heap.size + 1 + 1, 6, none⟩))).put (some 45) (.agg #[.int .i64 0, .int .i64 0, .int .i64 0])).put (some 46) (.int .i64 x6)).put (some 47) (.int .i64 0)).put (some 48) (.pointer (some ⟨w4.heap.size + 1, 0, none⟩))).put (some 49) (.agg #[.int .i64 y0, .int .i64 y1, .int .i64 y2])).put (some 50) (.agg #[.int .i64 (x6 * y0), .int .i64 (x6 * y1), .int .i64 (x6 * y2)])).put (some 51) (.pointer (some ⟨w4.heap.size + 1 + 1, 6, none⟩)))) (CutS W6 (w4.heap.size + 1 + 1) 6 (x6 * y0) (x6 * y1) (x6 * y2)) ?h1_6 ?h2_6
  case h1_6 =>
    intro ab HAB
    go_region_with (first | (go_at_call 44; refine (CT.out _).mono ?_; rintro e V ⟨rfl, hb⟩; have N := GZ6.out.belowE hb; obtain ⟨k0, k1, k2⟩ := N.cells.2.2; have f0 := N.frozen 6; have f1 := N.frozen 7; have f2 := N.frozen 8; clear N))
    all_goals (refine ⟨?_, V, hb, rfl⟩; rw [HAB.out]; simp [Act.put])
  intro W hc
  obtain ⟨V7, hb, rfl⟩ := hc
  have M7 := Lib.hid (GY6.out.belowE hb)
  have N7 := Lib.hid (GZ6.out.belowE hb)
  have BA7 := Lib.hid ((BW6.out.drew).trans (hb.mono BW6.out.size))
  clear k0 k1 k2 l0 l1 l2 hb GZ6 GY6 BW6
  clear CT
  have GZ := Lib.hid (N7.out.set2 (x6 * y0) (x6 * y1) (x6 * y2))
  have GY := Lib.hid (((M7.out.other (p := ⟨w4.heap.size + 1 + 1, 6, none⟩) (by simp) (.int .i64 (x6 * y0))).other (p := ⟨w4.heap.size + 1 + 1, 7, none⟩) (by simp) (.int .i64 (x6 * y1))).other (p := ⟨w4.heap.size + 1 + 1, 8, none⟩) (by simp) (.int .i64 (x6 * y2)))
  have BW := Lib.hid (((BA7.out.setCell (p := ⟨w4.heap.size + 1 + 1, 6, none⟩) SZ.out (.int .i64 (x6 * y0))).setCell (p := ⟨w4.heap.size + 1 + 1, 7, none⟩) SZ.out (.int .i64 (x6 * y1))).setCell (p := ⟨w4.heap.size + 1 + 1, 8, none⟩) SZ.out (.int .i64 (x6 * y2)))
  go_wp2
  rw [rounds_succ]
  go_wp2
  refine wgen ?_
  intro W7 hW
  have GZ7 := Lib.hid (show G9 W7 (w4.heap.size + 1 + 1) 43 (x0 * y0 + x1 * y3 + x2 * y6) (x0 * y1 + x1 * y4 + x2 * y7) (x0 * y2 + x1 * y5 + x2 * y8) (x3 * y0 + x4 * y3 + x5 * y6) (x3 * y1 + x4 * y4 + x5 * y7) (x3 * y2 + x4 * y5 + x5 * y8) (x6 * y0) (x6 * y1) (x6 * y2) by rw [hW]; exact GZ.out)
  have GY7 := Lib.hid (show G9 W7 (w4.heap.size + 1) 43 y0 y1 y2 y3 y4 y5 y6 y7 y8 by rw [hW]; exact GY.out)
  have BW7 := Lib.hid (show Below w.heap.size w W7 by rw [hW]; exact BW.out)
  clear hW GZ GY BW
  obtain ⟨k0, k1, k2⟩ := GZ7.out.cells.2.2
  obtain ⟨l0, l1, l2⟩ := GY7.out.cells.2.1
  have CT := Lib.hid (fun W => i_addt (x6 * y0) (x6 * y1) (x6 * y2) x7 y3 y4 y5 W (tm_bd1 SX.out.2.2.1 SY.out.1.1) (tm_bd1 SX.out.2.2.1 SY.out.1.2.1) (tm_bd1 SX.out.2.2.1 SY.out.1.2.2) (tm_bd SX.out.2.2.2.1 SY.out.2.1.1) (tm_bd SX.out.2.2.2.1 SY.out.2.1.2.1) (tm_bd SX.out.2.2.2.1 SY.out.2.1.2.2))
  refine region_meet (fun a => ((((((((((a.put (some 42) (.int .i64 2)).put (some 43) (.int .i64 2)).put (some 44) (.pointer (some ⟨w4.heap.size + 1 + 1, 6, none⟩))).put (some 45) (.agg #[.int .i64 (x6 * y0), .int .i64 (x6 * y1), .int .i64 (x6 * y2)])).put (some 46) (.int .i64 x7)).put (some 47) (.int .i64 1)).put (some 48) (.pointer (some ⟨w4.heap.size + 1, 3, none⟩))).put (some 49) (.agg #[.int .i64 y3, .int .i64 y4, .int .i64 y5])).put (some 50) (.agg #[.int .i64 (x6 * y0 + x7 * y3), .int .i64 (x6 * y1 + x7 * y4), .int .i64 (x6 * y2 + x7 * y5)])).put (some 51) (.pointer (some ⟨w4.heap.size + 1 + 1, 6, none⟩)))) (CutS W7 (w4.heap.size + 1 + 1) 6 (x6 * y0 + x7 * y3) (x6 * y1 + x7 * y4) (x6 * y2 + x7 * y5)) ?h1_7 ?h2_7
  case h1_7 =>
    intro ab HAB
    go_region_with (first | (go_at_call 44; refine (CT.out _).mono ?_; rintro e V ⟨rfl, hb⟩; have N := GZ7.out.belowE hb; obtain ⟨k0, k1, k2⟩ := N.cells.2.2; have f0 := N.frozen 6; have f1 := N.frozen 7; have f2 := N.frozen 8; clear N))
    all_goals (refine ⟨?_, V, hb, rfl⟩; rw [HAB.out]; simp [Act.put])
  intro W hc
  obtain ⟨V8, hb, rfl⟩ := hc
  have M8 := Lib.hid (GY7.out.belowE hb)
  have N8 := Lib.hid (GZ7.out.belowE hb)
  have BA8 := Lib.hid ((BW7.out.drew).trans (hb.mono BW7.out.size))
  clear k0 k1 k2 l0 l1 l2 hb GZ7 GY7 BW7
  clear CT
  have GZ := Lib.hid (N8.out.set2 (x6 * y0 + x7 * y3) (x6 * y1 + x7 * y4) (x6 * y2 + x7 * y5))
  have GY := Lib.hid (((M8.out.other (p := ⟨w4.heap.size + 1 + 1, 6, none⟩) (by simp) (.int .i64 (x6 * y0 + x7 * y3))).other (p := ⟨w4.heap.size + 1 + 1, 7, none⟩) (by simp) (.int .i64 (x6 * y1 + x7 * y4))).other (p := ⟨w4.heap.size + 1 + 1, 8, none⟩) (by simp) (.int .i64 (x6 * y2 + x7 * y5)))
  have BW := Lib.hid (((BA8.out.setCell (p := ⟨w4.heap.size + 1 + 1, 6, none⟩) SZ.out (.int .i64 (x6 * y0 + x7 * y3))).setCell (p := ⟨w4.heap.size + 1 + 1, 7, none⟩) SZ.out (.int .i64 (x6 * y1 + x7 * y4))).setCell (p := ⟨w4.heap.size + 1 + 1, 8, none⟩) SZ.out (.int .i64 (x6 * y2 + x7 * y5)))
  go_wp2
  rw [rounds_succ]
  go_wp2
  refine wgen ?_
  intro W8 hW
  have GZ8 := Lib.hid (show G9 W8 (w4.heap.size + 1 + 1) 43 (x0 * y0 + x1 * y3 + x2 * y6) (x0 * y1 + x1 * y4 + x2 * y7) (x0 * y2 + x1 * y5 + x2 * y8) (x3 * y0 + x4 * y3 + x5 * y6) (x3 * y1 + x4 * y4 + x5 * y7) (x3 * y2 + x4 * y5 + x5 * y8) (x6 * y0 + x7 * y3) (x6 * y1 + x7 * y4) (x6 * y2 + x7 * y5) by rw [hW]; exact GZ.out)
  have GY8 := Lib.hid (show G9 W8 (w4.heap.size + 1) 43 y0 y1 y2 y3 y4 y5 y6 y7 y8 by rw [hW]; exact GY.out)
  have BW8 := Lib.hid (show Below w.heap.size w W8 by rw [hW]; exact BW.out)
  clear hW GZ GY BW
  obtain ⟨k0, k1, k2⟩ := GZ8.out.cells.2.2
  obtain ⟨l0, l1, l2⟩ := GY8.out.cells.2.2
  have CT := Lib.hid (fun W => i_addt (x6 * y0 + x7 * y3) (x6 * y1 + x7 * y4) (x6 * y2 + x7 * y5) x8 y6 y7 y8 W (tm_bd2 SX.out.2.2.1 SY.out.1.1 SX.out.2.2.2.1 SY.out.2.1.1) (tm_bd2 SX.out.2.2.1 SY.out.1.2.1 SX.out.2.2.2.1 SY.out.2.1.2.1) (tm_bd2 SX.out.2.2.1 SY.out.1.2.2 SX.out.2.2.2.1 SY.out.2.1.2.2) (tm_bd SX.out.2.2.2.2 SY.out.2.2.1) (tm_bd SX.out.2.2.2.2 SY.out.2.2.2.1) (tm_bd SX.out.2.2.2.2 SY.out.2.2.2.2))
  refine region_meet (fun a => ((((((((((a.put (some 42) (.int .i64 2)).put (some 43) (.int .i64 2)).put (some 44) (.pointer (some ⟨w4.heap.size + 1 + 1, 6, none⟩))).put (some 45) (.agg #[.int .i64 (x6 * y0 + x7 * y3), .int .i64 (x6 * y1 + x7 * y4), .int .i64 (x6 * y2 + x7 * y5)])).put (some 46) (.int .i64 x8)).put (some 47) (.int .i64 2)).put (some 48) (.pointer (some ⟨w4.heap.size + 1, 6, none⟩))).put (some 49) (.agg #[.int .i64 y6, .int .i64 y7, .int .i64 y8])).put (some 50) (.agg #[.int .i64 (x6 * y0 + x7 * y3 + x8 * y6), .int .i64 (x6 * y1 + x7 * y4 + x8 * y7), .int .i64 (x6 * y2 + x7 * y5 + x8 * y8)])).put (some 51) (.pointer (some ⟨w4.heap.size + 1 + 1, 6, none⟩)))) (CutS W8 (w4.heap.size + 1 + 1) 6 (x6 * y0 + x7 * y3 + x8 * y6) (x6 * y1 + x7 * y4 + x8 * y7) (x6 * y2 + x7 * y5 + x8 * y8)) ?h1_8 ?h2_8
  case h1_8 =>
    intro ab HAB
    go_region_with (first | (go_at_call 44; refine (CT.out _).mono ?_; rintro e V ⟨rfl, hb⟩; have N := GZ8.out.belowE hb; obtain ⟨k0, k1, k2⟩ := N.cells.2.2; have f0 := N.frozen 6; have f1 := N.frozen 7; have f2 := N.frozen 8; clear N))
    all_goals (refine ⟨?_, V, hb, rfl⟩; rw [HAB.out]; simp [Act.put])
  intro W hc
  obtain ⟨V9, hb, rfl⟩ := hc
  have M9 := Lib.hid (GY8.out.belowE hb)
  have N9 := Lib.hid (GZ8.out.belowE hb)
  have BA9 := Lib.hid ((BW8.out.drew).trans (hb.mono BW8.out.size))
  clear k0 k1 k2 l0 l1 l2 hb GZ8 GY8 BW8
  clear CT
  have GZ := Lib.hid (N9.out.set2 (x6 * y0 + x7 * y3 + x8 * y6) (x6 * y1 + x7 * y4 + x8 * y7) (x6 * y2 + x7 * y5 + x8 * y8))
  have GY := Lib.hid (((M9.out.other (p := ⟨w4.heap.size + 1 + 1, 6, none⟩) (by simp) (.int .i64 (x6 * y0 + x7 * y3 + x8 * y6))).other (p := ⟨w4.heap.size + 1 + 1, 7, none⟩) (by simp) (.int .i64 (x6 * y1 + x7 * y4 + x8 * y7))).other (p := ⟨w4.heap.size + 1 + 1, 8, none⟩) (by simp) (.int .i64 (x6 * y2 + x7 * y5 + x8 * y8)))
  have BW := Lib.hid (((BA9.out.setCell (p := ⟨w4.heap.size + 1 + 1, 6, none⟩) SZ.out (.int .i64 (x6 * y0 + x7 * y3 + x8 * y6))).setCell (p := ⟨w4.heap.size + 1 + 1, 7, none⟩) SZ.out (.int .i64 (x6 * y1 + x7 * y4 + x8 * y7))).setCell (p := ⟨w4.heap.size + 1 + 1, 8, none⟩) SZ.out (.int .i64 (x6 * y2 + x7 * y5 + x8 * y8)))
  obtain ⟨⟨j0, j1, j2⟩, ⟨j3, j4, j5⟩, j6, j7, j8⟩ := N9.out.cells
  go_wp2
  rw [rounds_succ]
  go_wp2_with fail
  rw [rounds_succ]
  go_wp2_with fail
  refine (i_rowsof _ _ _ _ _ _ _ _ _ m.length (isM_t E1.out).1 (isM_t E1.out).2.1 _).mono ?_
  rintro e W9 ⟨⟨r, rfl, ho⟩, hb⟩
  have B9 := Lib.hid (BW.out.trans (hb.mono BW.out.size))
  have HO := Lib.hid (ho.mono (lo' := w.heap.size) BW.out.size (Nat.le_refl _))
  clear hb ho
  go_wp2_with fail
  go_ret2
  rw [HR.out]
  exact ⟨⟨_, rfl, HO.out⟩, B9.out⟩


set_option maxRecDepth 100000 in
set_option maxHeartbeats 800000 in
theorem i_timesm (m q : List (List Int)) (v u : Value) (w : World) (hv : Rw w v m) (hu : Rw w u q) :
    Calls Try.prog 15 #[v, u] w (GotR w (timesR m q)) := by
  by_cases h1 : isM m = true
  · by_cases h2 : isM q = true
    · by_cases h3 : m.length = q.length
      · exact i_timesm_t m q v u w hv hu h1 h2 h3
      · have HR := Lib.hid (show timesR m q = ([], false) from if_neg (fun h => h3 h.2.2.1))
        have HV := Lib.hid hv
        have HU := Lib.hid hu
        obtain ⟨v, c, rfl, _, _⟩ := hv.shape
        obtain ⟨u, d, rfl, _, _⟩ := hu.shape
        have E1 := Lib.hid h1
        have E2 := Lib.hid h2
        have hne : ((m.length : Int) != (q.length : Int)) = true := by rw [bne_iff_ne]; omega
        have hne2 : ((m.length : Int) == (q.length : Int)) = false := by rw [beq_eq_false_iff_ne]; omega
        have hne3 : (m.length == q.length) = false := by rw [beq_eq_false_iff_ne]; exact h3
        clear hv hu h1 h2 h3
        go_enter Try.func15, Try.ntmps15
        go_wp2_with fail
        refine (i_ismat m _ _ HV.out).mono ?_
        rintro e w1 ⟨rfl, hb⟩
        rw [E1.out]
        have B1 := Lib.hid hb
        clear hb
        go_wp2_with fail
        refine (i_ismat q _ _ (HU.out.below B1.out)).mono ?_
        rintro e w2 ⟨rfl, hb⟩
        rw [E2.out]
        have B2 := Lib.hid (B1.out.trans (hb.mono B1.out.size))
        clear hb
        go_wp2_with fail
        go_ret2
        rw [HR.out]
        exact ⟨⟨_, rfl, OwR.nil⟩, B2.out⟩
    · have HR := Lib.hid (show timesR m q = ([], false) from if_neg (fun h => h2 h.2.1))
      have HV := Lib.hid hv
      have HU := Lib.hid hu
      have E1 := Lib.hid h1
      have E2 := Lib.hid (bool_f h2)
      clear hv hu h1 h2
      go_enter Try.func15, Try.ntmps15
      go_wp2_with fail
      refine (i_ismat m _ _ HV.out).mono ?_
      rintro e w1 ⟨rfl, hb⟩
      rw [E1.out]
      have B1 := Lib.hid hb
      clear hb
      go_wp2_with fail
      refine (i_ismat q _ _ (HU.out.below B1.out)).mono ?_
      rintro e w2 ⟨rfl, hb⟩
      rw [E2.out]
      have B2 := Lib.hid (B1.out.trans (hb.mono B1.out.size))
      clear hb
      go_wp2_with fail
      go_ret2
      rw [HR.out]
      exact ⟨⟨_, rfl, OwR.nil⟩, B2.out⟩
  · have HR := Lib.hid (show timesR m q = ([], false) from if_neg (fun h => h1 h.1))
    have HV := Lib.hid hv
    have E1 := Lib.hid (bool_f h1)
    clear hv h1
    go_enter Try.func15, Try.ntmps15
    go_wp2_with fail
    refine (i_ismat m _ _ HV.out).mono ?_
    rintro e w1 ⟨rfl, hb⟩
    rw [E1.out]
    go_wp2_with fail
    go_ret2
    rw [HR.out]
    exact ⟨⟨_, rfl, OwR.nil⟩, hb⟩
end Go.Proofs.Yteenheidomfpkaa
