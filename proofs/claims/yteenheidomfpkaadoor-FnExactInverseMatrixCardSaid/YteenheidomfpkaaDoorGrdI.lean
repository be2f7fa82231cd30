/- The program's matrices as arrays of three rows of three numbers. -/
import Derived.Test.YteenheidomfpkaaDoorMatI
import Derived.Test.YteenheidomfpkaaDoorGrdM
import Derived.Test.YteenheidomfpkaaDoorGrdB
namespace Go.Proofs.YteenheidomfpkaaDoor
open Go.RowKit Go.Lib

def GridP (w : World) (g : Value) (e : Ending) (w' : World) : Prop := e = .returned g ∧ Below w.heap.size w w'
set_option maxRecDepth 100000 in
set_option maxHeartbeats 800000 in
theorem i_grid1 (x0 : Int) (v : Value) (w : World) (hv : Rw w v [[x0]]) :
    Calls Tryd.prog 19 #[v] w (GridP w (.agg #[.int .i64 x0, .int .i64 0, .int .i64 0, .int .i64 0, .int .i64 1, .int .i64 0, .int .i64 0, .int .i64 0, .int .i64 1])) := by
  obtain ⟨p, cp, rfl, _, hop⟩ := hv.shape
  obtain ⟨gb, go, r0, e0, hlt, hcell0, hs0⟩ := hv.row 0 (by simp) rfl
  have S0 := Lib.hid hs0
  subst e0
  simp only [Nat.add_zero] at hcell0
  simp only [List.length_cons, List.length_nil, List.getElem_cons_zero] at S0 ⊢
  clear hop hv hs0
  go_enter Tryd.func19, Tryd.ntmps19
  go_wp2
  refine wp_loop_rounds 4 ?_
  rw [rounds_succ]
  go_wp2
  rw [rounds_succ]
  go_wp2
  rw [rounds_succ]
  go_wp2
  rw [rounds_succ]
  go_wp2
  have B0 := Lib.hid ((((Below.refl w.heap.size w).alloc (Nat.le_refl _) (.cells #[.int .i64 0, .int .i64 0, .int .i64 0, .int .i64 0, .int .i64 0, .int .i64 0, .int .i64 0, .int .i64 0, .int .i64 0] 37)).alloc (by simp) (.cells #[.int .i64 1, .int .i64 0, .int .i64 0, .int .i64 0, .int .i64 1, .int .i64 0, .int .i64 0, .int .i64 0, .int .i64 1] 37)))
  have K0 := Lib.hid (G9.newAt (w := w.alloc (.cells #[.int .i64 0, .int .i64 0, .int .i64 0, .int .i64 0, .int .i64 0, .int .i64 0, .int .i64 0, .int .i64 0, .int .i64 0] 37)) (B := w.heap.size + 1) (by simp) 37 1 0 0 0 1 0 0 0 1)
  have Z0 := Lib.hid (G9.new w 37 0 0 0 0 0 0 0 0 0)
  have Y0 := Lib.hid (Z0.out.below ((Below.refl _ _).alloc (Nat.le_refl _) (.cells #[.int .i64 1, .int .i64 0, .int .i64 0, .int .i64 0, .int .i64 1, .int .i64 0, .int .i64 0, .int .i64 0, .int .i64 1] 37)))
  refine wp_loop_rounds 2 ?_
  rw [rounds_succ]
  go_wp2_with fail
  refine (i_num [x0] x0 0 0 rfl (by simp) (by simp) _ _ (S0.out.below B0.out)).mono ?_
  rintro e' w1 ⟨rfl, hb⟩
  have M1 := Lib.hid (K0.out.below hb)
  have hs := hb.size
  simp at hs
  have A1 := Lib.hid (B0.out.trans (hb.mono (by have := B0.out.size; exact this)))
  have hz := A1.out.size
  have X1 := Lib.hid (Y0.out.below hb)
  have F := M1.out.frozen
  have C := M1.out.cells
  obtain ⟨⟨k0, k1, k2⟩, ⟨k3, k4, k5⟩, k6, k7, k8⟩ := C
  have f0 := F 0
  have f1 := F 1
  have f2 := F 2
  have FZ := X1.out.frozen
  obtain ⟨⟨j0, j1, j2⟩, ⟨j3, j4, j5⟩, j6, j7, j8⟩ := X1.out.cells
  have z0 := FZ 0
  have z1 := FZ 1
  have z2 := FZ 2
  have z3 := FZ 3
  have z4 := FZ 4
  have z5 := FZ 5
  have z6 := FZ 6
  have z7 := FZ 7
  have z8 := FZ 8
  clear FZ
  clear F hb
  go_wp2_with fail
  rw [rounds_succ]
  go_wp2_with fail
  refine bodyPost_ret (v := .agg #[.int .i64 x0, .int .i64 0, .int .i64 0, .int .i64 0, .int .i64 1, .int .i64 0, .int .i64 0, .int .i64 0, .int .i64 1]) ?_ rfl ⟨rfl, ((((((((((((A1.out.setCell (p := ⟨w.heap.size + 1, 0, none⟩) (by simp) (.int .i64 x0)).setCell (p := ⟨w.heap.size + 1, 1, none⟩) (by simp) (.int .i64 0)).setCell (p := ⟨w.heap.size + 1, 2, none⟩) (by simp) (.int .i64 0)).setCell (p := ⟨w.heap.size, 0, none⟩) (Nat.le_refl _) _).setCell (p := ⟨w.heap.size, 1, none⟩) (Nat.le_refl _) _).setCell (p := ⟨w.heap.size, 2, none⟩) (Nat.le_refl _) _).setCell (p := ⟨w.heap.size, 3, none⟩) (Nat.le_refl _) _).setCell (p := ⟨w.heap.size, 4, none⟩) (Nat.le_refl _) _).setCell (p := ⟨w.heap.size, 5, none⟩) (Nat.le_refl _) _).setCell (p := ⟨w.heap.size, 6, none⟩) (Nat.le_refl _) _).setCell (p := ⟨w.heap.size, 7, none⟩) (Nat.le_refl _) _).setCell (p := ⟨w.heap.size, 8, none⟩) (Nat.le_refl _) _)⟩
  simp [results, Tryd.results19, go_sem, j0, j1, j2, j3, j4, j5, j6, j7, j8]

set_option maxRecDepth 100000 in
set_option maxHeartbeats 800000 in
theorem i_grid2 (x0 x1 x3 x4 : Int) (v : Value) (w : World) (hv : Rw w v [[x0, x1], [x3, x4]]) :
    Calls Tryd.prog 19 #[v] w (GridP w (.agg #[.int .i64 x0, .int .i64 x1, .int .i64 0, .int .i64 x3, .int .i64 x4, .int .i64 0, .int .i64 0, .int .i64 0, .int .i64 1])) := by
  obtain ⟨p, cp, rfl, _, hop⟩ := hv.shape
  obtain ⟨gb, go, r0, e0, hlt, hcell0, hs0⟩ := hv.row 0 (by simp) rfl
  have S0 := Lib.hid hs0
  obtain ⟨gb', go', r1, e1, _, hcell1, hs1⟩ := hv.row 1 (by simp) rfl
  have S1 := Lib.hid hs1
  subst e0
  simp only [Option.some.injEq, Addr.mk.injEq, and_true] at e1
  obtain ⟨rfl, rfl⟩ := e1
  simp only [Nat.add_zero] at hcell0
  simp only [List.length_cons, List.length_nil, List.getElem_cons_zero, List.getElem_cons_succ] at S0 S1 ⊢
  clear hop hv hs0 hs1
  go_enter Tryd.func19, Tryd.ntmps19
  go_wp2
  refine wp_loop_rounds 4 ?_
  rw [rounds_succ]
  go_wp2
  rw [rounds_succ]
  go_wp2
  rw [rounds_succ]
  go_wp2
  rw [rounds_succ]
  go_wp2
  have B0 := Lib.hid ((((Below.refl w.heap.size w).alloc (Nat.le_refl _) (.cells #[.int .i64 0, .int .i64 0, .int .i64 0, .int .i64 0, .int .i64 0, .int .i64 0, .int .i64 0, .int .i64 0, .int .i64 0] 37)).alloc (by simp) (.cells #[.int .i64 1, .int .i64 0, .int .i64 0, .int .i64 0, .int .i64 1, .int .i64 0, .int .i64 0, .int .i64 0, .int .i64 1] 37)))
  have K0 := Lib.hid (G9.newAt (w := w.alloc (.cells #[.int .i64 0, .int .i64 0, .int .i64 0, .int .i64 0, .int .i64 0, .int .i64 0, .int .i64 0, .int .i64 0, .int .i64 0] 37)) (B := w.heap.size + 1) (by simp) 37 1 0 0 0 1 0 0 0 1)
  have Z0 := Lib.hid (G9.new w 37 0 0 0 0 0 0 0 0 0)
  have Y0 := Lib.hid (Z0.out.below ((Below.refl _ _).alloc (Nat.le_refl _) (.cells #[.int .i64 1, .int .i64 0, .int .i64 0, .int .i64 0, .int .i64 1, .int .i64 0, .int .i64 0, .int .i64 0, .int .i64 1] 37)))
  refine wp_loop_rounds 3 ?_
  rw [rounds_succ]
  go_wp2_with fail
  refine (i_num [x0, x1] x0 x1 0 rfl (by simp) (by simp) _ _ (S0.out.below B0.out)).mono ?_
  rintro e' w1 ⟨rfl, hb⟩
  have M1 := Lib.hid (K0.out.below hb)
  have hs := hb.size
  simp at hs
  have A1 := Lib.hid (B0.out.trans (hb.mono (by have := B0.out.size; exact this)))
  have hz := A1.out.size
  have X1 := Lib.hid (Y0.out.below hb)
  have F := M1.out.frozen
  have C := M1.out.cells
  obtain ⟨⟨k0, k1, k2⟩, ⟨k3, k4, k5⟩, k6, k7, k8⟩ := C
  have f0 := F 0
  have f1 := F 1
  have f2 := F 2
  clear F hb
  go_wp2_with fail
  clear f0 f1 f2 k0 k1 k2 k3 k4 k5 k6 k7 k8
  have B1 := Lib.hid (((A1.out.setCell (p := ⟨w.heap.size + 1, 0, none⟩) (by simp) (.int .i64 x0)).setCell (p := ⟨w.heap.size + 1, 1, none⟩) (by simp) (.int .i64 x1)).setCell (p := ⟨w.heap.size + 1, 2, none⟩) (by simp) (.int .i64 0))
  have K1 := Lib.hid (M1.out.set0 x0 x1 0)
  have Y1 := Lib.hid (((X1.out.other (p := ⟨w.heap.size + 1, 0, none⟩) (by simp) (.int .i64 x0)).other (p := ⟨w.heap.size + 1, 1, none⟩) (by simp) (.int .i64 x1)).other (p := ⟨w.heap.size + 1, 2, none⟩) (by simp) (.int .i64 0))
  have hc1 := (B1.out.cell (p := ⟨gb, go + 1, none⟩) hlt).trans hcell1
  rw [rounds_succ]
  go_wp2_with fail
  refine (i_num [x3, x4] x3 x4 0 rfl (by simp) (by simp) _ _ (S1.out.below B1.out)).mono ?_
  rintro e' w2 ⟨rfl, hb⟩
  have M2 := Lib.hid (K1.out.below hb)
  have hs := hb.size
  simp at hs
  have A2 := Lib.hid (B1.out.trans (hb.mono (by have := B1.out.size; exact this)))
  have hz := A2.out.size
  have X2 := Lib.hid (Y1.out.below hb)
  have F := M2.out.frozen
  have C := M2.out.cells
  obtain ⟨⟨k0, k1, k2⟩, ⟨k3, k4, k5⟩, k6, k7, k8⟩ := C
  have f0 := F 3
  have f1 := F 4
  have f2 := F 5
  have FZ := X2.out.frozen
  obtain ⟨⟨j0, j1, j2⟩, ⟨j3, j4, j5⟩, j6, j7, j8⟩ := X2.out.cells
  have z0 := FZ 0
  have z1 := FZ 1
  have z2 := FZ 2
  have z3 := FZ 3
  have z4 := FZ 4
  have z5 := FZ 5
  have z6 := FZ 6
  have z7 := FZ 7
  have z8 := FZ 8
  clear FZ
  clear F hb
  go_wp2_with fail
  rw [rounds_succ]
  go_wp2_with fail
  refine bodyPost_ret (v := .agg #[.int .i64 x0, .int .i64 x1, .int .i64 0, .int .i64 x3, .int .i64 x4, .int .i64 0, .int .i64 0, .int .i64 0, .int .i64 1]) ?_ rfl ⟨rfl, ((((((((((((A2.out.setCell (p := ⟨w.heap.size + 1, 3, none⟩) (by simp) (.int .i64 x3)).setCell (p := ⟨w.heap.size + 1, 4, none⟩) (by simp) (.int .i64 x4)).setCell (p := ⟨w.heap.size + 1, 5, none⟩) (by simp) (.int .i64 0)).setCell (p := ⟨w.heap.size, 0, none⟩) (Nat.le_refl _) _).setCell (p := ⟨w.heap.size, 1, none⟩) (Nat.le_refl _) _).setCell (p := ⟨w.heap.size, 2, none⟩) (Nat.le_refl _) _).setCell (p := ⟨w.heap.size, 3, none⟩) (Nat.le_refl _) _).setCell (p := ⟨w.heap.size, 4, none⟩) (Nat.le_refl _) _).setCell (p := ⟨w.heap.size, 5, none⟩) (Nat.le_refl _) _).setCell (p := ⟨w.heap.size, 6, none⟩) (Nat.le_refl _) _).setCell (p := ⟨w.heap.size, 7, none⟩) (Nat.le_refl _) _).setCell (p := ⟨w.heap.size, 8, none⟩) (Nat.le_refl _) _)⟩
  simp [results, Tryd.results19, go_sem, j0, j1, j2, j3, j4, j5, j6, j7, j8]

set_option maxRecDepth 100000 in
set_option maxHeartbeats 800000 in
theorem i_grid3 (x0 x1 x2 x3 x4 x5 x6 x7 x8 : Int) (v : Value) (w : World) (hv : Rw w v [[x0, x1, x2], [x3, x4, x5], [x6, x7, x8]]) :
    Calls Tryd.prog 19 #[v] w (GridP w (.agg #[.int .i64 x0, .int .i64 x1, .int .i64 x2, .int .i64 x3, .int .i64 x4, .int .i64 x5, .int .i64 x6, .int .i64 x7, .int .i64 x8])) := by
  obtain ⟨p, cp, rfl, _, hop⟩ := hv.shape
  obtain ⟨gb, go, r0, e0, hlt, hcell0, hs0⟩ := hv.row 0 (by simp) rfl
  have S0 := Lib.hid hs0
  obtain ⟨gb', go', r1, e1, _, hcell1, hs1⟩ := hv.row 1 (by simp) rfl
  have S1 := Lib.hid hs1
  obtain ⟨gb'', go'', r2, e2, _, hcell2, hs2⟩ := hv.row 2 (by simp) rfl
  have S2 := Lib.hid hs2
  subst e0
  simp only [Option.some.injEq, Addr.mk.injEq, and_true] at e1
  obtain ⟨rfl, rfl⟩ := e1
  simp only [Option.some.injEq, Addr.mk.injEq, and_true] at e2
  obtain ⟨rfl, rfl⟩ := e2
  simp only [Nat.add_zero] at hcell0
  simp only [List.length_cons, List.length_nil, List.getElem_cons_zero, List.getElem_cons_succ] at S0 S1 S2 ⊢
  clear hop hv hs0 hs1 hs2
  go_enter Tryd.func19, Tryd.ntmps19
  go_wp2
  refine wp_loop_rounds 4 ?_
  rw [rounds_succ]
  go_wp2
  rw [rounds_succ]
  go_wp2
  rw [rounds_succ]
  go_wp2
  rw [rounds_succ]
  go_wp2
  have B0 := Lib.hid ((((Below.refl w.heap.size w).alloc (Nat.le_refl _) (.cells #[.int .i64 0, .int .i64 0, .int .i64 0, .int .i64 0, .int .i64 0, .int .i64 0, .int .i64 0, .int .i64 0, .int .i64 0] 37)).alloc (by simp) (.cells #[.int .i64 1, .int .i64 0, .int .i64 0, .int .i64 0, .int .i64 1, .int .i64 0, .int .i64 0, .int .i64 0, .int .i64 1] 37)))
  have K0 := Lib.hid (G9.newAt (w := w.alloc (.cells #[.int .i64 0, .int .i64 0, .int .i64 0, .int .i64 0, .int .i64 0, .int .i64 0, .int .i64 0, .int .i64 0, .int .i64 0] 37)) (B := w.heap.size + 1) (by simp) 37 1 0 0 0 1 0 0 0 1)
  have Z0 := Lib.hid (G9.new w 37 0 0 0 0 0 0 0 0 0)
  have Y0 := Lib.hid (Z0.out.below ((Below.refl _ _).alloc (Nat.le_refl _) (.cells #[.int .i64 1, .int .i64 0, .int .i64 0, .int .i64 0, .int .i64 1, .int .i64 0, .int .i64 0, .int .i64 0, .int .i64 1] 37)))
  refine wp_loop_rounds 4 ?_
  rw [rounds_succ]
  go_wp2_with fail
  refine (i_num [x0, x1, x2] x0 x1 x2 rfl (by simp) (by simp) _ _ (S0.out.below B0.out)).mono ?_
  rintro e' w1 ⟨rfl, hb⟩
  have M1 := Lib.hid (K0.out.below hb)
  have hs := hb.size
  simp at hs
  have A1 := Lib.hid (B0.out.trans (hb.mono (by have := B0.out.size; exact this)))
  have hz := A1.out.size
  have X1 := Lib.hid (Y0.out.below hb)
  have F := M1.out.frozen
  have C := M1.out.cells
  obtain ⟨⟨k0, k1, k2⟩, ⟨k3, k4, k5⟩, k6, k7, k8⟩ := C
  have f0 := F 0
  have f1 := F 1
  have f2 := F 2
  clear F hb
  go_wp2_with fail
  clear f0 f1 f2 k0 k1 k2 k3 k4 k5 k6 k7 k8
  have B1 := Lib.hid (((A1.out.setCell (p := ⟨w.heap.size + 1, 0, none⟩) (by simp) (.int .i64 x0)).setCell (p := ⟨w.heap.size + 1, 1, none⟩) (by simp) (.int .i64 x1)).setCell (p := ⟨w.heap.size + 1, 2, none⟩) (by simp) (.int .i64 x2))
  have K1 := Lib.hid (M1.out.set0 x0 x1 x2)
  have Y1 := Lib.hid (((X1.out.other (p := ⟨w.heap.size + 1, 0, none⟩) (by simp) (.int .i64 x0)).other (p := ⟨w.heap.size + 1, 1, none⟩) (by simp) (.int .i64 x1)).other (p := ⟨w.heap.size + 1, 2, none⟩) (by simp) (.int .i64 x2))
  have hc1 := (B1.out.cell (p := ⟨gb, go + 1, none⟩) hlt).trans hcell1
  rw [rounds_succ]
  go_wp2_with fail
  refine (i_num [x3, x4, x5] x3 x4 x5 rfl (by simp) (by simp) _ _ (S1.out.below B1.out)).mono ?_
  rintro e' w2 ⟨rfl, hb⟩
  have M2 := Lib.hid (K1.out.below hb)
  have hs := hb.size
  simp at hs
  have A2 := Lib.hid (B1.out.trans (hb.mono (by have := B1.out.size; exact this)))
  have hz := A2.out.size
  have X2 := Lib.hid (Y1.out.below hb)
  have F := M2.out.frozen
  have C := M2.out.cells
  obtain ⟨⟨k0, k1, k2⟩, ⟨k3, k4, k5⟩, k6, k7, k8⟩ := C
  have f0 := F 3
  have f1 := F 4
  have f2 := F 5
  clear F hb
  go_wp2_with fail
  clear f0 f1 f2 k0 k1 k2 k3 k4 k5 k6 k7 k8
  have B2 := Lib.hid (((A2.out.setCell (p := ⟨w.heap.size + 1, 3, none⟩) (by simp) (.int .i64 x3)).setCell (p := ⟨w.heap.size + 1, 4, none⟩) (by simp) (.int .i64 x4)).setCell (p := ⟨w.heap.size + 1, 5, none⟩) (by simp) (.int .i64 x5))
  have K2 := Lib.hid (M2.out.set1 x3 x4 x5)
  have Y2 := Lib.hid (((X2.out.other (p := ⟨w.heap.size + 1, 3, none⟩) (by simp) (.int .i64 x3)).other (p := ⟨w.heap.size + 1, 4, none⟩) (by simp) (.int .i64 x4)).other (p := ⟨w.heap.size + 1, 5, none⟩) (by simp) (.int .i64 x5))
  have hc2 := (B2.out.cell (p := ⟨gb, go + 2, none⟩) hlt).trans hcell2
  rw [rounds_succ]
  go_wp2_with fail
  refine (i_num [x6, x7, x8] x6 x7 x8 rfl (by simp) (by simp) _ _ (S2.out.below B2.out)).mono ?_
  rintro e' w3 ⟨rfl, hb⟩
  have M3 := Lib.hid (K2.out.below hb)
  have hs := hb.size
  simp at hs
  have A3 := Lib.hid (B2.out.trans (hb.mono (by have := B2.out.size; exact this)))
  have hz := A3.out.size
  have X3 := Lib.hid (Y2.out.below hb)
  have F := M3.out.frozen
  have C := M3.out.cells
  obtain ⟨⟨k0, k1, k2⟩, ⟨k3, k4, k5⟩, k6, k7, k8⟩ := C
  have f0 := F 6
  have f1 := F 7
  have f2 := F 8
  have FZ := X3.out.frozen
  obtain ⟨⟨j0, j1, j2⟩, ⟨j3, j4, j5⟩, j6, j7, j8⟩ := X3.out.cells
  have z0 := FZ 0
  have z1 := FZ 1
  have z2 := FZ 2
  have z3 := FZ 3
  have z4 := FZ 4
  have z5 := FZ 5
  have z6 := FZ 6
  have z7 := FZ 7
  have z8 := FZ 8
  clear FZ
  clear F hb
  go_wp2_with fail
  rw [rounds_succ]
  go_wp2_with fail
  refine bodyPost_ret (v := .agg #[.int .i64 x0, .int .i64 x1, .int .i64 x2, .int .i64 x3, .int .i64 x4, .int .i64 x5, .int .i64 x6, .int .i64 x7, .int .i64 x8]) ?_ rfl ⟨rfl, ((((((((((((A3.out.setCell (p := ⟨w.heap.size + 1, 6, none⟩) (by simp) (.int .i64 x6)).setCell (p := ⟨w.heap.size + 1, 7, none⟩) (by simp) (.int .i64 x7)).setCell (p := ⟨w.heap.size + 1, 8, none⟩) (by simp) (.int .i64 x8)).setCell (p := ⟨w.heap.size, 0, none⟩) (Nat.le_refl _) _).setCell (p := ⟨w.heap.size, 1, none⟩) (Nat.le_refl _) _).setCell (p := ⟨w.heap.size, 2, none⟩) (Nat.le_refl _) _).setCell (p := ⟨w.heap.size, 3, none⟩) (Nat.le_refl _) _).setCell (p := ⟨w.heap.size, 4, none⟩) (Nat.le_refl _) _).setCell (p := ⟨w.heap.size, 5, none⟩) (Nat.le_refl _) _).setCell (p := ⟨w.heap.size, 6, none⟩) (Nat.le_refl _) _).setCell (p := ⟨w.heap.size, 7, none⟩) (Nat.le_refl _) _).setCell (p := ⟨w.heap.size, 8, none⟩) (Nat.le_refl _) _)⟩
  simp [results, Tryd.results19, go_sem, j0, j1, j2, j3, j4, j5, j6, j7, j8]

theorem i_gridof {m : List (List Int)} {n : Nat} {M a b c d e f g h i : Int} (h1 : 1 ≤ n) (h3 : n ≤ 3) (hq : Sq n M m) (hp : padM m = [[a, b, c], [d, e, f], [g, h, i]]) (v : Value) (w : World) (hv : Rw w v m) :
    Calls Tryd.prog 19 #[v] w (GridP w (.agg #[.int .i64 a, .int .i64 b, .int .i64 c, .int .i64 d, .int .i64 e, .int .i64 f, .int .i64 g, .int .i64 h, .int .i64 i])) := by
  rcases sq_cases h1 h3 hq with ⟨_, x, rfl⟩ | ⟨_, x, y, z, u, rfl⟩ | ⟨_, x, y, z, x', y', z', x'', y'', z'', rfl⟩
  · simp only [padM, List.cons.injEq, and_true] at hp
    obtain ⟨⟨rfl, rfl, rfl⟩, ⟨rfl, rfl, rfl⟩, rfl, rfl, rfl⟩ := hp
    exact i_grid1 _ v w hv
  · simp only [padM, List.cons.injEq, and_true] at hp
    obtain ⟨⟨rfl, rfl, rfl⟩, ⟨rfl, rfl, rfl⟩, rfl, rfl, rfl⟩ := hp
    exact i_grid2 _ _ _ _ v w hv
  · simp only [padM, List.cons.injEq, and_true] at hp
    obtain ⟨⟨rfl, rfl, rfl⟩, ⟨rfl, rfl, rfl⟩, rfl, rfl, rfl⟩ := hp
    exact i_grid3 _ _ _ _ _ _ _ _ _ v w hv

theorem prod_bd {x y : Int} (hx : -100 ≤ x ∧ x ≤ 100) (hy : -100 ≤ y ∧ y ≤ 100) : -10000 ≤ x * y ∧ x * y ≤ 10000 := mul_bd hx.1 hx.2 hy.1 hy.2
set_option maxRecDepth 100000 in
set_option maxHeartbeats 800000 in
theorem i_cross (a b c d e f : Int) (ha : -100 ≤ a ∧ a ≤ 100) (hb : -100 ≤ b ∧ b ≤ 100) (hc : -100 ≤ c ∧ c ≤ 100) (hd : -100 ≤ d ∧ d ≤ 100) (he : -100 ≤ e ∧ e ≤ 100) (hf : -100 ≤ f ∧ f ≤ 100) (w : World) :
    Calls Tryd.prog 32 #[.agg #[.int .i64 a, .int .i64 b, .int .i64 c], .agg #[.int .i64 d, .int .i64 e, .int .i64 f]] w (Arr w (b * f - c * e) (c * d - a * f) (a * e - b * d)) := by
  obtain ⟨p1, q1⟩ := prod_bd hb hf
  obtain ⟨p2, q2⟩ := prod_bd hc he
  obtain ⟨p3, q3⟩ := prod_bd hc hd
  obtain ⟨p4, q4⟩ := prod_bd ha hf
  obtain ⟨p5, q5⟩ := prod_bd ha he
  obtain ⟨p6, q6⟩ := prod_bd hb hd
  clear ha hb hc hd he hf
  go_enter Tryd.func32, Tryd.ntmps32
  go_wp2
  refine bodyPost_ret (v := .agg #[.int .i64 (b * f - c * e), .int .i64 (c * d - a * f), .int .i64 (a * e - b * d)]) ?_ rfl ⟨rfl, ?_⟩
  · simp [results, Tryd.results32, go_sem]
  · exact (((Below.refl _ _).alloc (Nat.le_refl _) _).alloc (by simp) _).alloc (by simp; omega) _

theorem idx3 (x y z : Value) : (∀ w, (Instr.index 35 (.agg #[x, y, z]) (.int .i64 0)).run Tryd.prog w = .ok x w) ∧ (∀ w, (Instr.index 35 (.agg #[x, y, z]) (.int .i64 1)).run Tryd.prog w = .ok y w) ∧ (∀ w, (Instr.index 35 (.agg #[x, y, z]) (.int .i64 2)).run Tryd.prog w = .ok z w) :=
  ⟨fun _ => by kernel_rfl, fun _ => by kernel_rfl, fun _ => by kernel_rfl⟩
theorem cross_bd {a b c d : Int} (ha : -100 ≤ a ∧ a ≤ 100) (hb : -100 ≤ b ∧ b ≤ 100) (hc : -100 ≤ c ∧ c ≤ 100) (hd : -100 ≤ d ∧ d ≤ 100) : -20000 ≤ a * b - c * d ∧ a * b - c * d ≤ 20000 := by
  have h1 := prod_bd ha hb
  have h2 := prod_bd hc hd
  omega
theorem det_part {x y : Int} (hx : -100 ≤ x ∧ x ≤ 100) (hy : -20000 ≤ y ∧ y ≤ 20000) : -2000000 ≤ x * y ∧ x * y ≤ 2000000 := mul_bd hx.1 hx.2 hy.1 hy.2
set_option maxRecDepth 100000 in
set_option maxHeartbeats 800000 in
theorem i_det (a b c d e f g h i : Int) (hq : Sq 3 100 [[a, b, c], [d, e, f], [g, h, i]]) (w : World) :
    Calls Tryd.prog 31 #[.agg #[.int .i64 a, .int .i64 b, .int .i64 c, .int .i64 d, .int .i64 e, .int .i64 f, .int .i64 g, .int .i64 h, .int .i64 i]] w (Quiet w (.int .i64 (detL [[a, b, c], [d, e, f], [g, h, i]]))) := by
  obtain ⟨_, _, _, _, _, _, _, _, _, hh, ha, hb, hc, hd, he, hf, hg, hi', hi⟩ := sq3 hq
  simp only [List.cons.injEq, and_true] at hh
  obtain ⟨⟨rfl, rfl, rfl⟩, ⟨rfl, rfl, rfl⟩, rfl, rfl, rfl⟩ := hh
  have CR := Lib.hid (fun w => i_cross d e f g h i hd he hf hg hi' hi w)
  have c1 := cross_bd he hi hf hi'
  have c2 := cross_bd hf hg hd hi
  have c3 := cross_bd hd hi' he hg
  have DE := Lib.hid (show detL [[a, b, c], [d, e, f], [g, h, i]] = a * (e * i - f * h) + b * (f * g - d * i) + c * (d * h - e * g) from rfl)
  rw [DE.out]
  obtain ⟨p1, q1⟩ := det_part ha c1
  obtain ⟨p2, q2⟩ := det_part hb c2
  obtain ⟨p3, q3⟩ := det_part hc c3
  generalize e * i - f * h = n0 at *
  generalize f * g - d * i = n1 at *
  generalize d * h - e * g = n2 at *
  clear c1 c2 c3 ha hb hc hd he hf hg hi' hi hq DE
  obtain ⟨i0, i1, i2⟩ := idx3 (.int .i64 n0) (.int .i64 n1) (.int .i64 n2)
  go_enter Tryd.func31, Tryd.ntmps31
  go_wp2_with fail
  refine (CR.out _).mono ?_
  rintro e' w1 ⟨rfl, hb1⟩
  have K := (G9.new w 37 a b c d e f g h i).below hb1
  obtain ⟨⟨k0, k1, k2⟩, _, _⟩ := K.cells
  have B1 := Lib.hid (((Below.refl w.heap.size w).alloc (Nat.le_refl _) (.cells #[.int .i64 a, .int .i64 b, .int .i64 c, .int .i64 d, .int .i64 e, .int .i64 f, .int .i64 g, .int .i64 h, .int .i64 i] 37)).trans (hb1.mono (by simp)))
  have hz : w.heap.size < w1.heap.size := by have h := hb1.size; simp at h; omega
  clear hb1 K
  go_wp2_with fail
  refine wp_loop_rounds 4 ?_
  rw [rounds_succ]
  go_wp2
  rw [rounds_succ]
  go_wp2
  rw [rounds_succ]
  go_wp2
  rw [rounds_succ]
  go_wp2
  go_ret
  exact ⟨ret_int (by omega), B1.out.alloc B1.out.size _⟩

/-- What is known of a matrix that is laid into three rows of three. -/
theorem pad_all {m : List (List Int)} (h : isM m = true) : ∃ a b c d e f g h i : Int, padM m = [[a, b, c], [d, e, f], [g, h, i]] ∧ Sq 3 100 [[a, b, c], [d, e, f], [g, h, i]] ∧ detL [[a, b, c], [d, e, f], [g, h, i]] = detL m := by
  obtain ⟨h1, h3, _⟩ := isM_t h
  have hs := pad_sq (by omega) h1 h3 (isM_sq h)
  have hd := pad_det h1 h3 (isM_sq h)
  obtain ⟨a, b, c, d, e, f, g, h, i, e1, _⟩ := sq3 hs
  rw [e1] at hs hd
  exact ⟨a, b, c, d, e, f, g, h, i, e1, hs, hd⟩

end Go.Proofs.YteenheidomfpkaaDoor
