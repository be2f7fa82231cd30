/- The program's matrices as arrays of three rows of three numbers. -/
import Derived.Test.YtjijgagdaolkcaaGreatMatI
import Derived.Test.YtjijgagdaolkcaaGreatMam
import Derived.Test.YtjijgagdaolkcaaGreatMaf
namespace Go.Proofs.YtjijgagdaolkcaaGreat
open Go.RowKit Go.Lib

def GridP (w : World) (g : Value) (e : Ending) (w' : World) : Prop := e = .returned g ∧ Below w.heap.size w w'
set_option maxRecDepth 100000 in
set_option maxHeartbeats 800000 in
theorem i_grid1 (x0 : Int) (v : Value) (w : World) (hv : Rw w v [[x0]]) :
    Calls Tryz.prog 23 #[v] w (GridP w (.agg #[.int .i64 x0, .int .i64 0, .int .i64 0, .int .i64 0, .int .i64 1, .int .i64 0, .int .i64 0, .int .i64 0, .int .i64 1])) := by
  obtain ⟨p, cp, rfl, _, hop⟩ := hv.shape
  obtain ⟨gb, go, r0, e0, hlt, hcell0, hs0⟩ := hv.row 0 (by simp) rfl
  have S0 := Lib.hid hs0
  subst e0
  simp only [Nat.add_zero] at hcell0
  simp only [List.length_cons, List.length_nil, List.getElem_cons_zero] at S0 ⊢
  clear hop hv hs0
  go_enter Tryz.func23, Tryz.ntmps23
  go_wp2
  refine wp_loop_rounds 4 ?_
  rw [rounds_succ]
  go_wp2
  rw [rounds_succ]
  go_wp2
  rw [rounds_succ]
  go_wp2
  rw [rounds_succ]
  go_wp2
  have B0 := Lib.hid ((((Below.refl w.heap.size w).alloc (Nat.le_refl _) (.cells #[.int .i64 0, .int .i64 0, .int .i64 0, .int .i64 0, .int .i64 0, .int .i64 0, .int .i64 0, .int .i64 0, .int .i64 0] 45)).alloc (by simp) (.cells #[.int .i64 1, .int .i64 0, .int .i64 0, .int .i64 0, .int .i64 1, .int .i64 0, .int .i64 0, .int .i64 0, .int .i64 1] 45)))
  have K0 := Lib.hid (G9.newAt (w := w.alloc (.cells #[.int .i64 0, .int .i64 0, .int .i64 0, .int .i64 0, .int .i64 0, .int .i64 0, .int .i64 0, .int .i64 0, .int .i64 0] 45)) (B := w.heap.size + 1) (by simp) 45 1 0 0 0 1 0 0 0 1)
  have Z0 := Lib.hid (G9.new w 45 0 0 0 0 0 0 0 0 0)
  have Y0 := Lib.hid (Z0.out.below ((Below.refl _ _).alloc (Nat.le_refl _) (.cells #[.int .i64 1, .int .i64 0, .int .i64 0, .int .i64 0, .int .i64 1, .int .i64 0, .int .i64 0, .int .i64 0, .int .i64 1] 45)))
  refine wp_loop_rounds 2 ?_
  rw [rounds_succ]
  go_wp2_with fail
  refine (i_num [x0] x0 0 0 rfl (by simp) (by simp) _ _ (S0.out.below B0.out)).mono ?_
  rintro e' w1 ⟨rfl, hb⟩
  have M1 := Lib.hid (K0.out.below hb)
  have hs := hb.size
  simp at hs
  have A1 := Lib.hid (B0.out.trans (hb.mono (by have := B0.out.size; exact this)))
  have hz := A1.out.size
  have X1 := Lib.hid (Y0.out.below hb)
  have F := M1.out.frozen
  have C := M1.out.cells
  obtain ⟨⟨k0, k1, k2⟩, ⟨k3, k4, k5⟩, k6, k7, k8⟩ := C
  have f0 := F 0
  have f1 := F 1
  have f2 := F 2
  have FZ := X1.out.frozen
  obtain ⟨⟨j0, j1, j2⟩, ⟨j3, j4, j5⟩, j6, j7, j8⟩ := X1.out.cells
  have z0 := FZ 0
  have z1 := FZ 1
  have z2 := FZ 2
  have z3 := FZ 3
  have z4 := FZ 4
  have z5 := FZ 5
  have z6 := FZ 6
  have z7 := FZ 7
  have z8 := FZ 8
  clear FZ
  clear F hb
  go_wp2_with fail
  rw [rounds_succ]
  go_wp2_with fail
  refine bodyPost_ret (v := .agg #[.int .i64 x0, .int .i64 0, .int .i64 0, .int .i64 0, .int .i64 1, .int .i64 0, .int .i64 0, .int .i64 0, .int .i64 1]) ?_ rfl ⟨rfl, ((((((((((((A1.out.setCell (p := ⟨w.heap.size + 1, 0, none⟩) (by simp) (.int .i64 x0)).setCell (p := ⟨w.heap.size + 1, 1, none⟩) (by simp) (.int .i64 0)).setCell (p := ⟨w.heap.size + 1, 2, none⟩) (by simp) (.int .i64 0)).setCell (p := ⟨w.heap.size, 0, none⟩) (Nat.le_refl _) _).setCell (p := ⟨w.heap.size, 1, none⟩) (Nat.le_refl _) _).setCell (p := ⟨w.heap.size, 2, none⟩) (Nat.le_refl _) _).setCell (p := ⟨w.heap.size, 3, none⟩) (Nat.le_refl _) _).setCell (p := ⟨w.heap.size, 4, none⟩) (Nat.le_refl _) _).setCell (p := ⟨w.heap.size, 5, none⟩) (Nat.le_refl _) _).setCell (p := ⟨w.heap.size, 6, none⟩) (Nat.le_refl _) _).setCell (p := ⟨w.heap.size, 7, none⟩) (Nat.le_refl _) _).setCell (p := ⟨w.heap.size, 8, none⟩) (Nat.le_refl _) _)⟩
  simp [results, Tryz.results23, go_sem, j0, j1, j2, j3, j4, j5, j6, j7, j8]

set_option maxRecDepth 100000 in
set_option maxHeartbeats 800000 in
theorem i_grid2 (x0 x1 x3 x4 : Int) (v : Value) (w : World) (hv : Rw w v [[x0, x1], [x3, x4]]) :
    Calls Tryz.prog 23 #[v] w (GridP w (.agg #[.int .i64 x0, .int .i64 x1, .int .i64 0, .int .i64 x3, .int .i64 x4, .int .i64 0, .int .i64 0, .int .i64 0, .int .i64 1])) := by
  obtain ⟨p, cp, rfl, _, hop⟩ := hv.shape
  obtain ⟨gb, go, r0, e0, hlt, hcell0, hs0⟩ := hv.row 0 (by simp) rfl
  have S0 := Lib.hid hs0
  obtain ⟨gb', go', r1, e1, _, hcell1, hs1⟩ := hv.row 1 (by simp) rfl
  have S1 := Lib.hid hs1
  subst e0
  simp only [Option.some.injEq, Addr.mk.injEq, and_true] at e1
  obtain ⟨rfl, rfl⟩ := e1
  simp only [Nat.add_zero] at hcell0
  simp only [List.length_cons, List.length_nil, List.getElem_cons_zero, List.getElem_cons_succ] at S0 S1 ⊢
  clear hop hv hs0 hs1
  go_enter Tryz.func23, Tryz.ntmps23
  go_wp2
  refine wp_loop_rounds 4 ?_
  rw [rounds_succ]
  go_wp2
  rw [rounds_succ]
  go_wp2
  rw [rounds_succ]
  go_wp2
  rw [rounds_succ]
  go_wp2
  have B0 := Lib.hid ((((Below.refl w.heap.size w).alloc (Nat.le_refl _) (.cells #[.int .i64 0, .int .i64 0, .int .i64 0, .int .i64 0, .int .i64 0, .int .i64 0, .int .i64 0, .int .i64 0, .int .i64 0] 45)).alloc (by simp) (.cells #[.int .i64 1, .int .i64 0, .int .i64 0, .int .i64 0, .int .i64 1, .int .i64 0, .int .i64 0, .int .i64 0, .int .i64 1] 45)))
  have K0 := Lib.hid (G9.newAt (w := w.alloc (.cells #[.int .i64 0, .int .i64 0, .int .i64 0, .int .i64 0, .int .i64 0, .int .i64 0, .int .i64 0, .int .i64 0, .int .i64 0] 45)) (B := w.heap.size + 1) (by simp) 45 1 0 0 0 1 0 0 0 1)
  have Z0 := Lib.hid (G9.new w 45 0 0 0 0 0 0 0 0 0)
  have Y0 := Lib.hid (Z0.out.below ((Below.refl _ _).alloc (Nat.le_refl _) (.cells #[.int .i64 1, .int .i64 0, .int .i64 0, .int .i64 0, .int .i64 1, .int .i64 0, .int .i64 0, .int .i64 0, .int .i64 1] 45)))
  refine wp_loop_rounds 3 ?_
  rw [rounds_succ]
  go_wp2_with fail
  refine (i_num [x0, x1] x0 x1 0 rfl (by simp) (by simp) _ _ (S0.out.below B0.out)).mono ?_
  rintro e' w1 ⟨rfl, hb⟩
  have M1 := Lib.hid (K0.out.below hb)
  have hs := hb.size
  simp at hs
  have A1 := Lib.hid (B0.out.trans (hb.mono (by have := B0.out.size; exact this)))
  have hz := A1.out.size
  have X1 := Lib.hid (Y0.out.below hb)
  have F := M1.out.frozen
  have C := M1.out.cells
  obtain ⟨⟨k0, k1, k2⟩, ⟨k3, k4, k5⟩, k6, k7, k8⟩ := C
  have f0 := F 0
  have f1 := F 1
  have f2 := F 2
  clear F hb
  go_wp2_with fail
  clear f0 f1 f2 k0 k1 k2 k3 k4 k5 k6 k7 k8
  have B1 := Lib.hid (((A1.out.setCell (p := ⟨w.heap.size + 1, 0, none⟩) (by simp) (.int .i64 x0)).setCell (p := ⟨w.heap.size + 1, 1, none⟩) (by simp) (.int .i64 x1)).setCell (p := ⟨w.heap.size + 1, 2, none⟩) (by simp) (.int .i64 0))
  have K1 := Lib.hid (M1.out.set0 x0 x1 0)
  have Y1 := Lib.hid (((X1.out.other (p := ⟨w.heap.size + 1, 0, none⟩) (by simp) (.int .i64 x0)).other (p := ⟨w.heap.size + 1, 1, none⟩) (by simp) (.int .i64 x1)).other (p := ⟨w.heap.size + 1, 2, none⟩) (by simp) (.int .i64 0))
  have hc1 := (B1.out.cell (p := ⟨gb, go + 1, none⟩) hlt).trans hcell1
  rw [rounds_succ]
  go_wp2_with fail
  refine (i_num [x3, x4] x3 x4 0 rfl (by simp) (by simp) _ _ (S1.out.below B1.out)).mono ?_
  rintro e' w2 ⟨rfl, hb⟩
  have M2 := Lib.hid (K1.out.below hb)
  have hs := hb.size
  simp at hs
  have A2 := Lib.hid (B1.out.trans (hb.mono (by have := B1.out.size; exact this)))
  have hz := A2.out.size
  have X2 := Lib.hid (Y1.out.below hb)
  have F := M2.out.frozen
  have C := M2.out.cells
  obtain ⟨⟨k0, k1, k2⟩, ⟨k3, k4, k5⟩, k6, k7, k8⟩ := C
  have f0 := F 3
  have f1 := F 4
  have f2 := F 5
  have FZ := X2.out.frozen
  obtain ⟨⟨j0, j1, j2⟩, ⟨j3, j4, j5⟩, j6, j7, j8⟩ := X2.out.cells
  have z0 := FZ 0
  have z1 := FZ 1
  have z2 := FZ 2
  have z3 := FZ 3
  have z4 := FZ 4
  have z5 := FZ 5
  have z6 := FZ 6
  have z7 := FZ 7
  have z8 := FZ 8
  clear FZ
  clear F hb
  go_wp2_with fail
  rw [rounds_succ]
  go_wp2_with fail
  refine bodyPost_ret (v := .agg #[.int .i64 x0, .int .i64 x1, .int .i64 0, .int .i64 x3, .int .i64 x4, .int .i64 0, .int .i64 0, .int .i64 0, .int .i64 1]) ?_ rfl ⟨rfl, ((((((((((((A2.out.setCell (p := ⟨w.heap.size + 1, 3, none⟩) (by simp) (.int .i64 x3)).setCell (p := ⟨w.heap.size + 1, 4, none⟩) (by simp) (.int .i64 x4)).setCell (p := ⟨w.heap.size + 1, 5, none⟩) (by simp) (.int .i64 0)).setCell (p := ⟨w.heap.size, 0, none⟩) (Nat.le_refl _) _).setCell (p := ⟨w.heap.size, 1, none⟩) (Nat.le_refl _) _).setCell (p := ⟨w.heap.size, 2, none⟩) (Nat.le_refl _) _).setCell (p := ⟨w.heap.size, 3, none⟩) (Nat.le_refl _) _).setCell (p := ⟨w.heap.size, 4, none⟩) (Nat.le_refl _) _).setCell (p := ⟨w.heap.size, 5, none⟩) (Nat.le_refl _) _).setCell (p := ⟨w.heap.size, 6, none⟩) (Nat.le_refl _) _).setCell (p := ⟨w.heap.size, 7, none⟩) (Nat.le_refl _) _).setCell (p := ⟨w.heap.size, 8, none⟩) (Nat.le_refl _) _)⟩
  simp [results, Tryz.results23, go_sem, j0, j1, j2, j3, j4, j5, j6, j7, j8]

set_option maxRecDepth 100000 in
set_option maxHeartbeats 800000 in
theorem i_grid3 (x0 x1 x2 x3 x4 x5 x6 x7 x8 : Int) (v : Value) (w : World) (hv : Rw w v [[x0, x1, x2], [x3, x4, x5], [x6, x7, x8]]) :
    Calls Tryz.prog 23 #[v] w (GridP w (.agg #[.int .i64 x0, .int .i64 x1, .int .i64 x2, .int .i64 x3, .int .i64 x4, .int .i64 x5, .int .i64 x6, .int .i64 x7, .int .i64 x8])) := by
  obtain ⟨p, cp, rfl, _, hop⟩ := hv.shape
  obtain ⟨gb, go, r0, e0, hlt, hcell0, hs0⟩ := hv.row 0 (by simp) rfl
  have S0 := Lib.hid hs0
  obtain ⟨gb', go', r1, e1, _, hcell1, hs1⟩ := hv.row 1 (by simp) rfl
  have S1 := Lib.hid hs1
  obtain ⟨gb'', go'', r2, e2, _, hcell2, hs2⟩ := hv.row 2 (by simp) rfl
  have S2 := Lib.hid hs2
  subst e0
  simp only [Option.some.injEq, Addr.mk.injEq, and_true] at e1
  obtain ⟨rfl, rfl⟩ := e1
  simp only [Option.some.injEq, Addr.mk.injEq, and_true] at e2
  obtain ⟨rfl, rfl⟩ := e2
  simp only [Nat.add_zero] at hcell0
  simp only [List.length_cons, List.length_nil, List.getElem_cons_zero, List.getElem_cons_succ] at S0 S1 S2 ⊢
  clear hop hv hs0 hs1 hs2
  go_enter Tryz.func23, Tryz.ntmps23
  go_wp2
  refine wp_loop_rounds 4 ?_
  rw [rounds_succ]
  go_wp2
  rw [rounds_succ]
  go_wp2
  rw [rounds_succ]
  go_wp2
  rw [rounds_succ]
  go_wp2
  have B0 := Lib.hid ((((Below.refl w.heap.size w).alloc (Nat.le_refl _) (.cells #[.int .i64 0, .int .i64 0, .int .i64 0, .int .i64 0, .int .i64 0, .int .i64 0, .int .i64 0, .int .i64 0, .int .i64 0] 45)).alloc (by simp) (.cells #[.int .i64 1, .int .i64 0, .int .i64 0, .int .i64 0, .int .i64 1, .int .i64 0, .int .i64 0, .int .i64 0, .int .i64 1] 45)))
  have K0 := Lib.hid (G9.newAt (w := w.alloc (.cells #[.int .i64 0, .int .i64 0, .int .i64 0, .int .i64 0, .int .i64 0, .int .i64 0, .int .i64 0, .int .i64 0, .int .i64 0] 45)) (B := w.heap.size + 1) (by simp) 45 1 0 0 0 1 0 0 0 1)
  have Z0 := Lib.hid (G9.new w 45 0 0 0 0 0 0 0 0 0)
  have Y0 := Lib.hid (Z0.out.below ((Below.refl _ _).alloc (Nat.le_refl _) (.cells #[.int .i64 1, .int .i64 0, .int .i64 0, .int .i64 0, .int .i64 1, .int .i64 0, .int .i64 0, .int .i64 0, .int .i64 1] 45)))
  refine wp_loop_rounds 4 ?_
  rw [rounds_succ]
  go_wp2_with fail
  refine (i_num [x0, x1, x2] x0 x1 x2 rfl (by simp) (by simp) _ _ (S0.out.below B0.out)).mono ?_
  rintro e' w1 ⟨rfl, hb⟩
  have M1 := Lib.hid (K0.out.below hb)
  have hs := hb.size
  simp at hs
  have A1 := Lib.hid (B0.out.trans (hb.mono (by have := B0.out.size; exact this)))
  have hz := A1.out.size
  have X1 := Lib.hid (Y0.out.below hb)
  have F := M1.out.frozen
  have C := M1.out.cells
  obtain ⟨⟨k0, k1, k2⟩, ⟨k3, k4, k5⟩, k6, k7, k8⟩ := C
  have f0 := F 0
  have f1 := F 1
  have f2 := F 2
  clear F hb
  go_wp2_with fail
  clear f0 f1 f2 k0 k1 k2 k3 k4 k5 k6 k7 k8
  have B1 := Lib.hid (((A1.out.setCell (p := ⟨w.heap.size + 1, 0, none⟩) (by simp) (.int .i64 x0)).setCell (p := ⟨w.heap.size + 1, 1, none⟩) (by simp) (.int .i64 x1)).setCell (p := ⟨w.heap.size + 1, 2, none⟩) (by simp) (.int .i64 x2))
  have K1 := Lib.hid (M1.out.set0 x0 x1 x2)
  have Y1 := Lib.hid (((X1.out.other (p := ⟨w.heap.size + 1, 0, none⟩) (by simp) (.int .i64 x0)).other (p := ⟨w.heap.size + 1, 1, none⟩) (by simp) (.int .i64 x1)).other (p := ⟨w.heap.size + 1, 2, none⟩) (by simp) (.int .i64 x2))
  have hc1 := (B1.out.cell (p := ⟨gb, go + 1, none⟩) hlt).trans hcell1
  rw [rounds_succ]
  go_wp2_with fail
  refine (i_num [x3, x4, x5] x3 x4 x5 rfl (by simp) (by simp) _ _ (S1.out.below B1.out)).mono ?_
  rintro e' w2 ⟨rfl, hb⟩
  have M2 := Lib.hid (K1.out.below hb)
  have hs := hb.size
  simp at hs
  have A2 := Lib.hid (B1.out.trans (hb.mono (by have := B1.out.size; exact this)))
  have hz := A2.out.size
  have X2 := Lib.hid (Y1.out.below hb)
  have F := M2.out.frozen
  have C := M2.out.cells
  obtain ⟨⟨k0, k1, k2⟩, ⟨k3, k4, k5⟩, k6, k7, k8⟩ := C
  have f0 := F 3
  have f1 := F 4
  have f2 := F 5
  clear F hb
  go_wp2_with fail
  clear f0 f1 f2 k0 k1 k2 k3 k4 k5 k6 k7 k8
  have B2 := Lib.hid (((A2.out.setCell (p := ⟨w.heap.size + 1, 3, none⟩) (by simp) (.int .i64 x3)).setCell (p := ⟨w.heap.size + 1, 4, none⟩) (by simp) (.int .i64 x4)).setCell (p := ⟨w.heap.size + 1, 5, none⟩) (by simp) (.int .i64 x5))
  have K2 := Lib.hid (M2.out.set1 x3 x4 x5)
  have Y2 := Lib.hid (((X2.out.other (p := ⟨w.heap.size + 1, 3, none⟩) (by simp) (.int .i64 x3)).other (p := ⟨w.heap.size + 1, 4, none⟩) (by simp) (.int .i64 x4)).other (p := ⟨w.heap.size + 1, 5, none⟩) (by simp) (.int .i64 x5))
  have hc2 := (B2.out.cell (p := ⟨gb, go + 2, none⟩) hlt).trans hcell2
  rw [rounds_succ]
  go_wp2_with fail
  refine (i_num [x6, x7, x8] x6 x7 x8 rfl (by simp) (by simp) _ _ (S2.out.below B2.out)).mono ?_
  rintro e' w3 ⟨rfl, hb⟩
  have M3 := Lib.hid (K2.out.below hb)
  have hs := hb.size
  simp at hs
  have A3 := Lib.hid (B2.out.trans (hb.mono (by have := B2.out.size; exact this)))
  have hz := A3.out.size
  have X3 := Lib.hid (Y2.out.below hb)
  have F := M3.out.frozen
  have C := M3.out.cells
  obtain ⟨⟨k0, k1, k2⟩, ⟨k3, k4, k5⟩, k6, k7, k8⟩ := C
  have f0 := F 6
  have f1 := F 7
  have f2 := F 8
  have FZ := X3.out.frozen
  obtain ⟨⟨j0, j1, j2⟩, ⟨j3, j4, j5⟩, j6, j7, j8⟩ := X3.out.cells
  have z0 := FZ 0
  have z1 := FZ 1
  have z2 := FZ 2
  have z3 := FZ 3
  have z4 := FZ 4
  have z5 := FZ 5
  have z6 := FZ 6
  have z7 := FZ 7
  have z8 := FZ 8
  clear FZ
  clear F hb
  go_wp2_with fail
  rw [rounds_succ]
  go_wp2_with fail
  refine bodyPost_ret (v := .agg #[.int .i64 x0, .int .i64 x1, .int .i64 x2, .int .i64 x3, .int .i64 x4, .int .i64 x5, .int .i64 x6, .int .i64 x7, .int .i64 x8]) ?_ rfl ⟨rfl, ((((((((((((A3.out.setCell (p := ⟨w.heap.size + 1, 6, none⟩) (by simp) (.int .i64 x6)).setCell (p := ⟨w.heap.size + 1, 7, none⟩) (by simp) (.int .i64 x7)).setCell (p := ⟨w.heap.size + 1, 8, none⟩) (by simp) (.int .i64 x8)).setCell (p := ⟨w.heap.size, 0, none⟩) (Nat.le_refl _) _).setCell (p := ⟨w.heap.size, 1, none⟩) (Nat.le_refl _) _).setCell (p := ⟨w.heap.size, 2, none⟩) (Nat.le_refl _) _).setCell (p := ⟨w.heap.size, 3, none⟩) (Nat.le_refl _) _).setCell (p := ⟨w.heap.size, 4, none⟩) (Nat.le_refl _) _).setCell (p := ⟨w.heap.size, 5, none⟩) (Nat.le_refl _) _).setCell (p := ⟨w.heap.size, 6, none⟩) (Nat.le_refl _) _).setCell (p := ⟨w.heap.size, 7, none⟩) (Nat.le_refl _) _).setCell (p := ⟨w.heap.size, 8, none⟩) (Nat.le_refl _) _)⟩
  simp [results, Tryz.results23, go_sem, j0, j1, j2, j3, j4, j5, j6, j7, j8]

theorem i_gridof {m : List (List Int)} {n : Nat} {M a b c d e f g h i : Int} (h1 : 1 ≤ n) (h3 : n ≤ 3) (hq : Sq n M m) (hp : padM m = [[a, b, c], [d, e, f], [g, h, i]]) (v : Value) (w : World) (hv : Rw w v m) :
    Calls Tryz.prog 23 #[v] w (GridP w (.agg #[.int .i64 a, .int .i64 b, .int .i64 c, .int .i64 d, .int .i64 e, .int .i64 f, .int .i64 g, .int .i64 h, .int .i64 i])) := by
  rcases sq_cases h1 h3 hq with ⟨_, x, rfl⟩ | ⟨_, x, y, z, u, rfl⟩ | ⟨_, x, y, z, x', y', z', x'', y'', z'', rfl⟩
  · simp only [padM, List.cons.injEq, and_true] at hp
    obtain ⟨⟨rfl, rfl, rfl⟩, ⟨rfl, rfl, rfl⟩, rfl, rfl, rfl⟩ := hp
    exact i_grid1 _ v w hv
  · simp only [padM, List.cons.injEq, and_true] at hp
    obtain ⟨⟨rfl, rfl, rfl⟩, ⟨rfl, rfl, rfl⟩, rfl, rfl, rfl⟩ := hp
    exact i_grid2 _ _ _ _ v w hv
  · simp only [padM, List.cons.injEq, and_true] at hp
    obtain ⟨⟨rfl, rfl, rfl⟩, ⟨rfl, rfl, rfl⟩, rfl, rfl, rfl⟩ := hp
    exact i_grid3 _ _ _ _ _ _ _ _ _ v w hv

theorem prod_bd {x y : Int} (hx : -100 ≤ x ∧ x ≤ 100) (hy : -100 ≤ y ∧ y ≤ 100) : -10000 ≤ x * y ∧ x * y ≤ 10000 := mul_bd hx.1 hx.2 hy.1 hy.2
set_option maxRecDepth 100000 in
set_option maxHeartbeats 800000 in
theorem i_cross (a b c d e f : Int) (ha : -100 ≤ a ∧ a ≤ 100) (hb : -100 ≤ b ∧ b ≤ 100) (hc : -100 ≤ c ∧ c ≤ 100) (hd : -100 ≤ d ∧ d ≤ 100) (he : -100 ≤ e ∧ e ≤ 100) (hf : -100 ≤ f ∧ f ≤ 100) (w : World) :
    Calls Tryz.prog 84 #[.agg #[.int .i64 a, .int .i64 b, .int .i64 c], .agg #[.int .i64 d, .int .i64 e, .int .i64 f]] w (Arr w (b * f - c * e) (c * d - a * f) (a * e - b * d)) := by
  obtain ⟨p1, q1⟩ := prod_bd hb hf
  obtain ⟨p2, q2⟩ := prod_bd hc he
  obtain ⟨p3, q3⟩ := prod_bd hc hd
  obtain ⟨p4, q4⟩ := prod_bd ha hf
  obtain ⟨p5, q5⟩ := prod_bd ha he
  obtain ⟨p6, q6⟩ := prod_bd hb hd
  clear ha hb hc hd he hf
  go_enter Tryz.func84, Tryz.ntmps84
  go_wp2
  refine bodyPost_ret (v := .agg #[.int .i64 (b * f - c * e), .int .i64 (c * d - a * f), .int .i64 (a * e - b * d)]) ?_ rfl ⟨rfl, ?_⟩
  · simp [results, Tryz.results84, go_sem]
  · exact (((Below.refl _ _).alloc (Nat.le_refl _) _).alloc (by simp) _).alloc (by simp; omega) _

theorem idx3 (x y z : Value) : (∀ w, (Instr.index 43 (.agg #[x, y, z]) (.int .i64 0)).run Tryz.prog w = .ok x w) ∧ (∀ w, (Instr.index 43 (.agg #[x, y, z]) (.int .i64 1)).run Tryz.prog w = .ok y w) ∧ (∀ w, (Instr.index 43 (.agg #[x, y, z]) (.int .i64 2)).run Tryz.prog w = .ok z w) :=
  ⟨fun _ => by kernel_rfl, fun _ => by kernel_rfl, fun _ => by kernel_rfl⟩
theorem cross_bd {a b c d : Int} (ha : -100 ≤ a ∧ a ≤ 100) (hb : -100 ≤ b ∧ b ≤ 100) (hc : -100 ≤ c ∧ c ≤ 100) (hd : -100 ≤ d ∧ d ≤ 100) : -20000 ≤ a * b - c * d ∧ a * b - c * d ≤ 20000 := by
  have h1 := prod_bd ha hb
  have h2 := prod_bd hc hd
  omega
theorem det_part {x y : Int} (hx : -100 ≤ x ∧ x ≤ 100) (hy : -20000 ≤ y ∧ y ≤ 20000) : -2000000 ≤ x * y ∧ x * y ≤ 2000000 := mul_bd hx.1 hx.2 hy.1 hy.2
set_option maxRecDepth 100000 in
set_option maxHeartbeats 800000 in
theorem i_det (a b c d e f g h i : Int) (hq : Sq 3 100 [[a, b, c], [d, e, f], [g, h, i]]) (w : World) :
    Calls Tryz.prog 61 #[.agg #[.int .i64 a, .int .i64 b, .int .i64 c, .int .i64 d, .int .i64 e, .int .i64 f, .int .i64 g, .int .i64 h, .int .i64 i]] w (Quiet w (.int .i64 (detL [[a, b, c], [d, e, f], [g, h, i]]))) := by
  obtain ⟨_, _, _, _, _, _, _, _, _, hh, ha, hb, hc, hd, he, hf, hg, hi', hi⟩ := sq3 hq
  simp only [List.cons.injEq, and_true] at hh
  obtain ⟨⟨rfl, rfl, rfl⟩, ⟨rfl, rfl, rfl⟩, rfl, rfl, rfl⟩ := hh
  have CR := Lib.hid (fun w => i_cross d e f g h i hd he hf hg hi' hi w)
  have c1 := cross_bd he hi hf hi'
  have c2 := cross_bd hf hg hd hi
  have c3 := cross_bd hd hi' he hg
  have DE := Lib.hid (show detL [[a, b, c], [d, e, f], [g, h, i]] = a * (e * i - f * h) + b * (f * g - d * i) + c * (d * h - e * g) from rfl)
  rw [DE.out]
  obtain ⟨p1, q1⟩ := det_part ha c1
  obtain ⟨p2, q2⟩ := det_part hb c2
  obtain ⟨p3, q3⟩ := det_part hc c3
  generalize e * i - f * h = n0 at *
  generalize f * g - d * i = n1 at *
  generalize d * h - e * g = n2 at *
  clear c1 c2 c3 ha hb hc hd he hf hg hi' hi hq DE
  obtain ⟨i0, i1, i2⟩ := idx3 (.int .i64 n0) (.int .i64 n1) (.int .i64 n2)
  go_enter Tryz.func61, Tryz.ntmps61
  go_wp2_with fail
  refine (CR.out _).mono ?_
  rintro e' w1 ⟨rfl, hb1⟩
  have K := (G9.new w 45 a b c d e f g h i).below hb1
  obtain ⟨⟨k0, k1, k2⟩, _, _⟩ := K.cells
  have B1 := Lib.hid (((Below.refl w.heap.size w).alloc (Nat.le_refl _) (.cells #[.int .i64 a, .int .i64 b, .int .i64 c, .int .i64 d, .int .i64 e, .int .i64 f, .int .i64 g, .int .i64 h, .int .i64 i] 45)).trans (hb1.mono (by simp)))
  have hz : w.heap.size < w1.heap.size := by have h := hb1.size; simp at h; omega
  clear hb1 K
  go_wp2_with fail
  refine wp_loop_rounds 4 ?_
  rw [rounds_succ]
  go_wp2
  rw [rounds_succ]
  go_wp2
  rw [rounds_succ]
  go_wp2
  rw [rounds_succ]
  go_wp2
  go_ret
  exact ⟨ret_int (by omega), B1.out.alloc B1.out.size _⟩

/-- What is known of a matrix that is laid into three rows of three. -/
theorem pad_all {m : List (List Int)} (h : isM m = true) : ∃ a b c d e f g h i : Int, padM m = [[a, b, c], [d, e, f], [g, h, i]] ∧ Sq 3 100 [[a, b, c], [d, e, f], [g, h, i]] ∧ detL [[a, b, c], [d, e, f], [g, h, i]] = detL m := by
  obtain ⟨h1, h3, _⟩ := isM_t h
  have hs := pad_sq (by omega) h1 h3 (isM_sq h)
  have hd := pad_det h1 h3 (isM_sq h)
  obtain ⟨a, b, c, d, e, f, g, h, i, e1, _⟩ := sq3 hs
  rw [e1] at hs hd
  exact ⟨a, b, c, d, e, f, g, h, i, e1, hs, hd⟩

set_option maxRecDepth 100000 in
set_option maxHeartbeats 800000 in
theorem i_detof (m : List (List Int)) (v : Value) (w : World) (hv : Rw w v m) :
    Calls Tryz.prog 50 #[v] w (Quiet w (.int .i64 (detR m))) := by
  have HV := Lib.hid hv
  clear hv
  by_cases hm : isM m = true
  · obtain ⟨a, b, c, d, e, f, g, h, i, e1, hs, hd⟩ := pad_all hm
    have HM := Lib.hid hm
    have E1 := Lib.hid e1
    have HD := Lib.hid hd
    have HR := Lib.hid (show detR m = detL m from if_pos hm)
    clear hm e1 hd
    have HS := Lib.hid hs
    clear hs
    go_enter Tryz.func50, Tryz.ntmps50
    go_wp2_with fail
    refine (i_ismat m _ _ HV.out).mono ?_
    rintro e' w1 ⟨rfl, hb1⟩
    rw [HM.out]
    have B1 := Lib.hid hb1
    clear hb1
    go_wp2_with fail
    refine (i_gridof (isM_t HM.out).1 (isM_t HM.out).2.1 (isM_sq HM.out) E1.out _ _ (HV.out.below B1.out)).mono ?_
    rintro e' w2 ⟨rfl, hb2⟩
    have B2 := Lib.hid (B1.out.trans (hb2.mono B1.out.size))
    clear hb2
    go_wp2_with fail
    refine (i_det _ _ _ _ _ _ _ _ _ HS.out _).mono ?_
    rintro e' w3 ⟨rfl, hb3⟩
    rw [HD.out]
    have B3 := Lib.hid (B2.out.trans (hb3.mono B2.out.size))
    clear hb3
    go_wp2_with fail
    go_ret
    exact ⟨ret_int HR.out.symm, B3.out⟩
  · have HM := Lib.hid (bool_f hm)
    have HR := Lib.hid (show detR m = 0 from if_neg hm)
    clear hm
    go_enter Tryz.func50, Tryz.ntmps50
    go_wp2_with fail
    refine (i_ismat m _ _ HV.out).mono ?_
    rintro e' w1 ⟨rfl, hb1⟩
    rw [HM.out]
    go_wp2_with fail
    go_ret
    exact ⟨ret_int HR.out.symm, hb1⟩

end Go.Proofs.YtjijgagdaolkcaaGreat
/- The program's addTimes: a row and a multiple of another. -/
namespace Go.Proofs.YtjijgagdaolkcaaGreat
open Go.RowKit Go.Lib

set_option maxRecDepth 100000 in
set_option maxHeartbeats 800000 in
theorem i_addt (a b c f x y z : Int) (w : World) (ha : -4000000000000000000 ≤ a ∧ a ≤ 4000000000000000000) (hb : -4000000000000000000 ≤ b ∧ b ≤ 4000000000000000000) (hc : -4000000000000000000 ≤ c ∧ c ≤ 4000000000000000000)
    (hx : -4000000000000000000 ≤ f * x ∧ f * x ≤ 4000000000000000000) (hy : -4000000000000000000 ≤ f * y ∧ f * y ≤ 4000000000000000000) (hz : -4000000000000000000 ≤ f * z ∧ f * z ≤ 4000000000000000000) :
    Calls Tryz.prog 62 #[.agg #[.int .i64 a, .int .i64 b, .int .i64 c], .int .i64 f, .agg #[.int .i64 x, .int .i64 y, .int .i64 z]] w (Arr w (a + f * x) (b + f * y) (c + f * z)) := by
  obtain ⟨a1, a2⟩ := ha
  obtain ⟨b1, b2⟩ := hb
  obtain ⟨c1, c2⟩ := hc
  obtain ⟨x1, x2⟩ := hx
  obtain ⟨y1, y2⟩ := hy
  obtain ⟨z1, z2⟩ := hz
  go_enter Tryz.func62, Tryz.ntmps62
  go_wp2
  refine wp_loop_rounds 4 ?_
  rw [rounds_succ]
  go_wp2
  go_region
  go_wp2
  rw [rounds_succ]
  go_wp2
  go_region
  go_wp2
  rw [rounds_succ]
  go_wp2
  go_region
  go_wp2
  rw [rounds_succ]
  go_wp2

  refine bodyPost_ret (v := .agg #[.int .i64 (a + f * x), .int .i64 (b + f * y), .int .i64 (c + f * z)]) ?_ rfl ⟨rfl, ?_⟩
  · simp [results, Tryz.results62, go_sem]
  · exact (((((((Below.refl _ _).alloc (Nat.le_refl _) _).alloc (by simp) _).alloc (by simp; omega) _).drew).drew).drew)
end Go.Proofs.YtjijgagdaolkcaaGreat
/- The program's quotient, rounded down. -/
namespace Go.Proofs.YtjijgagdaolkcaaGreat
open Go.RowKit Go.Lib

theorem quot_fact (a b : Int) (_hb : 0 < b) : (a < a.tdiv b * b ↔ a.tmod b < 0) ∧ (a.tdiv b * b).natAbs ≤ a.natAbs := by
  have h1 := Int.tmod_add_mul_tdiv a b
  have e : a.tdiv b * b = b * a.tdiv b := Int.mul_comm _ _
  refine ⟨by rw [e]; omega, ?_⟩
  rw [Int.natAbs_mul, Int.natAbs_tdiv]
  exact Nat.div_mul_le_self _ _
set_option maxRecDepth 100000 in
theorem i_quot (a b : Int) (h1 : -4000000000000000000 ≤ a) (h2 : a ≤ 4000000000000000000) (hb : 0 < b) (hb2 : b ≤ 4000000000000000000) (w : World) :
    Calls Tryz.prog 63 #[.int .i64 a, .int .i64 b] w fun e w' => e = .returned (.int .i64 (a / b)) ∧ w = w' := by
  have FT := Lib.hid (floor_t a b hb)
  have QF := Lib.hid (quot_fact a b hb)
  have hp0 : ¬ b = 0 := by omega
  have hp1 : b ≠ -1 := by omega
  have hp2 : (b == -1) = false := by rw [beq_eq_false_iff_ne]; omega
  have q1 := Int.natAbs_tdiv_le_natAbs a b
  have hq1 : IntKind.i64.wrap (a.tdiv b) = a.tdiv b := IntWalk.i64_in _ (by generalize a.tdiv b = t at q1; omega)
  have q2 := QF.out.2
  have b1 : -4000000000000000000 ≤ a.tdiv b * b := by generalize a.tdiv b * b = t at q2; omega
  have b2 : a.tdiv b * b ≤ 4000000000000000000 := by generalize a.tdiv b * b = t at q2; omega
  have b3 : -4000000000000000000 ≤ a.tdiv b := by generalize a.tdiv b = t at q1; omega
  have b4 : a.tdiv b ≤ 4000000000000000000 := by generalize a.tdiv b = t at q1; omega
  clear q1 q2
  by_cases h : a < a.tdiv b * b
  · have e := Lib.hid (show a.tdiv b - 1 = a / b by have h2 := FT.out; rw [if_pos (QF.out.1.1 h)] at h2; exact h2)
    go_enter Tryz.func63, Tryz.ntmps63
    go_wp2
    go_ret
    exact ⟨by rw [← e.out]; rfl, rfl⟩
  · have e := Lib.hid (show a.tdiv b = a / b by have h2 := FT.out; rw [if_neg (fun k => h (QF.out.1.2 k))] at h2; exact h2)
    have h' : a.tdiv b * b ≤ a := by omega
    go_enter Tryz.func63, Tryz.ntmps63
    go_wp2
    go_ret
    exact ⟨by rw [← e.out]; rfl, rfl⟩
end Go.Proofs.YtjijgagdaolkcaaGreat
/- addTimes onto zeros; three indexed rows. -/
namespace Go.Proofs.YtjijgagdaolkcaaGreat
open Go.RowKit Go.Lib

theorem i_addz (f x y z : Int) (w : World) (hx : -4000000000000000000 ≤ f * x ∧ f * x ≤ 4000000000000000000) (hy : -4000000000000000000 ≤ f * y ∧ f * y ≤ 4000000000000000000) (hz : -4000000000000000000 ≤ f * z ∧ f * z ≤ 4000000000000000000) :
    Calls Tryz.prog 62 #[.agg #[.int .i64 0, .int .i64 0, .int .i64 0], .int .i64 f, .agg #[.int .i64 x, .int .i64 y, .int .i64 z]] w (Arr w (f * x) (f * y) (f * z)) := by
  have h := i_addt 0 0 0 f x y z w (by omega) (by omega) (by omega) hx hy hz
  simp only [Int.zero_add] at h
  exact h
end Go.Proofs.YtjijgagdaolkcaaGreat
