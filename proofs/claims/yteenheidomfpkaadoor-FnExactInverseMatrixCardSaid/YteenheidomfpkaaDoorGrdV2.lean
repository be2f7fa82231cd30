/- The program's undo at the determinant -1. -/
import Derived.Test.YteenheidomfpkaaDoorGrdV
namespace Go.Proofs.YteenheidomfpkaaDoor
open Go.RowKit Go.Lib

set_option maxRecDepth 100000 in
set_option maxHeartbeats 8000000 in
theorem i_undo_n (x0 x1 x2 x3 x4 x5 x6 x7 x8 n00 n01 n02 n10 n11 n12 n20 n21 n22 d : Int) (w : World)
    (hdet : ∀ W : World, Calls Tryd.prog 31 #[.agg #[.int .i64 x0, .int .i64 x1, .int .i64 x2, .int .i64 x3, .int .i64 x4, .int .i64 x5, .int .i64 x6, .int .i64 x7, .int .i64 x8]] W (Quiet W (.int .i64 d)))
    (hc0 : ∀ W : World, Calls Tryd.prog 32 #[.agg #[.int .i64 x3, .int .i64 x4, .int .i64 x5], .agg #[.int .i64 x6, .int .i64 x7, .int .i64 x8]] W (Arr W n00 n01 n02))
    (hc1 : ∀ W : World, Calls Tryd.prog 32 #[.agg #[.int .i64 x6, .int .i64 x7, .int .i64 x8], .agg #[.int .i64 x0, .int .i64 x1, .int .i64 x2]] W (Arr W n10 n11 n12))
    (hc2 : ∀ W : World, Calls Tryd.prog 32 #[.agg #[.int .i64 x0, .int .i64 x1, .int .i64 x2], .agg #[.int .i64 x3, .int .i64 x4, .int .i64 x5]] W (Arr W n20 n21 n22))
    (b00 : -20000 ≤ d * n00 ∧ d * n00 ≤ 20000)
    (b01 : -20000 ≤ d * n01 ∧ d * n01 ≤ 20000)
    (b02 : -20000 ≤ d * n02 ∧ d * n02 ≤ 20000)
    (b10 : -20000 ≤ d * n10 ∧ d * n10 ≤ 20000)
    (b11 : -20000 ≤ d * n11 ∧ d * n11 ≤ 20000)
    (b12 : -20000 ≤ d * n12 ∧ d * n12 ≤ 20000)
    (b20 : -20000 ≤ d * n20 ∧ d * n20 ≤ 20000)
    (b21 : -20000 ≤ d * n21 ∧ d * n21 ≤ 20000)
    (b22 : -20000 ≤ d * n22 ∧ d * n22 ≤ 20000)
    (q1 : (d != 1) = true) (q2 : (d == 1) = false) (q3 : (d != -1) = false) (q4 : (d == -1) = true) :
    Calls Tryd.prog 18 #[.agg #[.int .i64 x0, .int .i64 x1, .int .i64 x2, .int .i64 x3, .int .i64 x4, .int .i64 x5, .int .i64 x6, .int .i64 x7, .int .i64 x8]] w (GridP w (.tuple #[.agg #[.int .i64 (d * n00), .int .i64 (d * n10), .int .i64 (d * n20), .int .i64 (d * n01), .int .i64 (d * n11), .int .i64 (d * n21), .int .i64 (d * n02), .int .i64 (d * n12), .int .i64 (d * n22)], .nilIface])) := by
  obtain ⟨b00, c00⟩ := b00
  obtain ⟨b01, c01⟩ := b01
  obtain ⟨b02, c02⟩ := b02
  obtain ⟨b10, c10⟩ := b10
  obtain ⟨b11, c11⟩ := b11
  obtain ⟨b12, c12⟩ := b12
  obtain ⟨b20, c20⟩ := b20
  obtain ⟨b21, c21⟩ := b21
  obtain ⟨b22, c22⟩ := b22
  have HD := Lib.hid hdet
  have HC0 := Lib.hid hc0
  have HC1 := Lib.hid hc1
  have HC2 := Lib.hid hc2
  clear hdet hc0 hc1 hc2
  go_enter Tryd.func18, Tryd.ntmps18
  go_wp2_with fail
  refine (HD.out _).mono ?_
  rintro e w1 ⟨rfl, hb⟩
  have GX1 := Lib.hid (((G9.new w 37 x0 x1 x2 x3 x4 x5 x6 x7 x8).below ((Below.refl _ _).alloc (Nat.le_refl _) (.cells #[.int .i64 0, .int .i64 0, .int .i64 0, .int .i64 0, .int .i64 0, .int .i64 0, .int .i64 0, .int .i64 0, .int .i64 0] 37))).below hb)
  have GR1 := Lib.hid ((G9.newAt (w := w.alloc (.cells #[.int .i64 x0, .int .i64 x1, .int .i64 x2, .int .i64 x3, .int .i64 x4, .int .i64 x5, .int .i64 x6, .int .i64 x7, .int .i64 x8] 37)) (B := w.heap.size + 1) (by simp) 37 0 0 0 0 0 0 0 0 0).below hb)
  have B1 := Lib.hid ((((Below.refl w.heap.size w).alloc (Nat.le_refl _) (.cells #[.int .i64 x0, .int .i64 x1, .int .i64 x2, .int .i64 x3, .int .i64 x4, .int .i64 x5, .int .i64 x6, .int .i64 x7, .int .i64 x8] 37)).alloc (by simp) (.cells #[.int .i64 0, .int .i64 0, .int .i64 0, .int .i64 0, .int .i64 0, .int .i64 0, .int .i64 0, .int .i64 0, .int .i64 0] 37)).trans (hb.mono (by simp; omega)))
  have hz : w.heap.size + 1 < w1.heap.size := by have h := hb.size; simp at h; omega
  have hyx : w1.heap.size ≠ w.heap.size := by omega
  have hyr : w1.heap.size ≠ w.heap.size + 1 := by omega
  clear hb
  go_wp2_with fail
  go_loopw [21] (fun i wr => ∃ k : Nat, k ≤ 3 ∧ i = .int .i64 k ∧ (G9 wr w.heap.size 37 x0 x1 x2 x3 x4 x5 x6 x7 x8 ∧ G9 wr (w.heap.size + 1) 37 0 0 0 0 0 0 0 0 0 ∧ G9 wr w1.heap.size 37 (if 0 < k then d * n00 else 0) (if 1 < k then d * n10 else 0) (if 2 < k then d * n20 else 0) (if 0 < k then d * n01 else 0) (if 1 < k then d * n11 else 0) (if 2 < k then d * n21 else 0) (if 0 < k then d * n02 else 0) (if 1 < k then d * n12 else 0) (if 2 < k then d * n22 else 0)) ∧ Below w.heap.size w wr) (fun i _ => 3 - (RowKit.intOf i).toNat)
  case atStart => exact ⟨0, by omega, rfl, ⟨GX1.out.below ((Below.refl _ _).alloc (Nat.le_refl _) (.cells #[.int .i64 0, .int .i64 0, .int .i64 0, .int .i64 0, .int .i64 0, .int .i64 0, .int .i64 0, .int .i64 0, .int .i64 0] 37)), GR1.out.below ((Below.refl _ _).alloc (Nat.le_refl _) (.cells #[.int .i64 0, .int .i64 0, .int .i64 0, .int .i64 0, .int .i64 0, .int .i64 0, .int .i64 0, .int .i64 0, .int .i64 0] 37)), G9.new w1 _ 0 0 0 0 0 0 0 0 0⟩, B1.out.alloc B1.out.size _⟩
  case round =>
    obtain ⟨k, hk, rfl, ⟨hx, hr, hy⟩, hbr⟩ := hrel
    rename World => W0
    have HX := Lib.hid hx
    have HR := Lib.hid hr
    have HY := Lib.hid hy
    have HB := Lib.hid hbr
    clear hx hr hy hbr
    by_cases hlt : k < 3
    · rcases (show k = 0 ∨ k = 1 ∨ k = 2 by omega) with rfl | rfl | rfl
      · clear hk
        have ek : ((0 : Nat) : Int) = 0 := rfl
        rw [ek]
        clear ek
        have HY2 := Lib.hid (show G9 W0 w1.heap.size 37 0 0 0 0 0 0 0 0 0 from HY.out)
        clear HY hlt
        obtain ⟨⟨l0, l1, l2⟩, ⟨l3, l4, l5⟩, l6, l7, l8⟩ := HX.out.cells
        have hz2 : w1.heap.size < W0.heap.size := HY2.out.lt
        have hne : W0.heap.size ≠ w.heap.size := Nat.ne_of_gt HX.out.lt
        have hneR : W0.heap.size ≠ w.heap.size + 1 := Nat.ne_of_gt HR.out.lt
        have hneY : W0.heap.size ≠ w1.heap.size := Nat.ne_of_gt HY2.out.lt
        go_wp2
        have s1 : IntKind.i64.wrap 1 = 1 := by rfl
        have r1 : Int.tmod 1 3 = 1 := by rfl
        have s2 : IntKind.i64.wrap 2 = 2 := by rfl
        have r2 : Int.tmod 2 3 = 2 := by rfl
        go_region_held3 (fun w' => w'.cell? ⟨w.heap.size, 0, none⟩ = some (.int .i64 x0) ∧ w'.cell? ⟨w.heap.size, 1, none⟩ = some (.int .i64 x1) ∧ w'.cell? ⟨w.heap.size, 2, none⟩ = some (.int .i64 x2) ∧ w'.cell? ⟨w.heap.size, 3, none⟩ = some (.int .i64 x3) ∧ w'.cell? ⟨w.heap.size, 4, none⟩ = some (.int .i64 x4) ∧ w'.cell? ⟨w.heap.size, 5, none⟩ = some (.int .i64 x5) ∧ w'.cell? ⟨w.heap.size, 6, none⟩ = some (.int .i64 x6) ∧ w'.cell? ⟨w.heap.size, 7, none⟩ = some (.int .i64 x7) ∧ w'.cell? ⟨w.heap.size, 8, none⟩ = some (.int .i64 x8))
          (first | (with_reducible exact HX.out.cells9D) | (with_reducible exact M1.out.cells9) | (with_reducible exact (M1.out.allocd _).cells9) | (with_reducible exact (((M1.out.other (p := ⟨W0.heap.size, 0, none⟩) hne _).other (p := ⟨W0.heap.size, 1, none⟩) hne _).other (p := ⟨W0.heap.size, 2, none⟩) hne _).cells9) | (with_reducible exact (HX.out.allocd _).cells9D))
          (first | (go_at_call 32; (with_reducible refine (HC0.out W0.drew).mono ?_); rintro e V ⟨rfl, hb⟩; have M1 := Lib.hid (HX.out.belowE hb); have M2 := Lib.hid (HR.out.belowE hb); have M3 := Lib.hid (HY2.out.belowE hb); have BA := Lib.hid ((HB.out.drew).trans (hb.mono HB.out.size)); have hl := M1.out.lt; clear hb) | (go_at_call 32; refine (HC0.out _).mono ?_; rintro e V ⟨rfl, hb⟩; have M1 := Lib.hid (HX.out.belowA hb); have M2 := Lib.hid (HR.out.belowA hb); have M3 := Lib.hid (HY2.out.belowA hb); have BA := Lib.hid (((HB.out.drew).alloc HB.out.size _).trans (hb.mono (Nat.le_trans HB.out.size (size_drew_alloc W0 _)))); have hl := M1.out.lt; have C3 := (G3.newAt (w := W0.drew) (B := W0.heap.size) rfl 35 0 0 0).below hb; obtain ⟨c0, c1, c2⟩ := C3.cells; have g0 := C3.frozen 0; have g1 := C3.frozen 1; have g2 := C3.frozen 2; clear hb))
        · go_wp2
          refine wgen2 ?_
          intro W2 hW
          have PX := Lib.hid (show G9 W2 w.heap.size 37 x0 x1 x2 x3 x4 x5 x6 x7 x8 by rw [hW]; exact M1.out.below ((Below.refl _ _).alloc (Nat.le_refl _) _))
          have PR := Lib.hid (show G9 W2 (w.heap.size + 1) 37 0 0 0 0 0 0 0 0 0 by rw [hW]; exact M2.out.below ((Below.refl _ _).alloc (Nat.le_refl _) _))
          have PY := Lib.hid (show G9 W2 w1.heap.size 37 0 0 0 0 0 0 0 0 0 by rw [hW]; exact M3.out.below ((Below.refl _ _).alloc (Nat.le_refl _) _))
          have PB := Lib.hid (show Below w.heap.size w W2 by rw [hW]; exact BA.out.alloc BA.out.size _)
          have PC := (show G3 W2 V.heap.size 35 n00 n01 n02 by rw [hW]; exact G3.newAt rfl 35 n00 n01 n02)
          have hcy : w1.heap.size < V.heap.size := M3.out.lt
          obtain ⟨d0, d1, d2⟩ := PC.cells
          obtain ⟨⟨y0, y1, y2⟩, ⟨y3, y4, y5⟩, y6, y7, y8⟩ := PY.out.cells
          have yf0 := PY.out.frozen 0
          have yf1 := PY.out.frozen 3
          have yf2 := PY.out.frozen 6
          clear hW PC l0 l1 l2 l3 l4 l5 l6 l7 l8 hl
          refine wp_loop_rounds 4 ?_
          rw [rounds_succ]
          go_wp2
          go_region
          go_wp2
          rw [rounds_succ]
          go_wp2
          go_region
          go_wp2
          rw [rounds_succ]
          go_wp2
          go_region
          go_wp2
          rw [rounds_succ]
          go_wp2
          have QX := Lib.hid (((PX.out.other (p := ⟨w1.heap.size, 0, none⟩) hyx (.int .i64 (d * n00))).other (p := ⟨w1.heap.size, 3, none⟩) hyx (.int .i64 (d * n01))).other (p := ⟨w1.heap.size, 6, none⟩) hyx (.int .i64 (d * n02)))
          have QR := Lib.hid (((PR.out.other (p := ⟨w1.heap.size, 0, none⟩) hyr (.int .i64 (d * n00))).other (p := ⟨w1.heap.size, 3, none⟩) hyr (.int .i64 (d * n01))).other (p := ⟨w1.heap.size, 6, none⟩) hyr (.int .i64 (d * n02)))
          have QY := Lib.hid (PY.out.col0 (d * n00) (d * n01) (d * n02))
          have QB := Lib.hid (((PB.out.setCell (p := ⟨w1.heap.size, 0, none⟩) B1.out.size (.int .i64 (d * n00))).setCell (p := ⟨w1.heap.size, 3, none⟩) B1.out.size (.int .i64 (d * n01))).setCell (p := ⟨w1.heap.size, 6, none⟩) B1.out.size (.int .i64 (d * n02)))
          exact ⟨⟨1, by omega, rfl, ⟨QX.out, QR.out, QY.out⟩, ((QB.out.drew).drew).drew⟩, by simp [RowKit.intOf]⟩
        · go_wp2
          refine wgen2 ?_
          intro W2 hW
          have PX := Lib.hid (show G9 W2 w.heap.size 37 x0 x1 x2 x3 x4 x5 x6 x7 x8 by rw [hW]; exact (((M1.out.other (p := ⟨W0.heap.size, 0, none⟩) hne (.int .i64 n00)).other (p := ⟨W0.heap.size, 1, none⟩) hne (.int .i64 n01)).other (p := ⟨W0.heap.size, 2, none⟩) hne (.int .i64 n02)))
          have PR := Lib.hid (show G9 W2 (w.heap.size + 1) 37 0 0 0 0 0 0 0 0 0 by rw [hW]; exact (((M2.out.other (p := ⟨W0.heap.size, 0, none⟩) hneR (.int .i64 n00)).other (p := ⟨W0.heap.size, 1, none⟩) hneR (.int .i64 n01)).other (p := ⟨W0.heap.size, 2, none⟩) hneR (.int .i64 n02)))
          have PY := Lib.hid (show G9 W2 w1.heap.size 37 0 0 0 0 0 0 0 0 0 by rw [hW]; exact (((M3.out.other (p := ⟨W0.heap.size, 0, none⟩) hneY (.int .i64 n00)).other (p := ⟨W0.heap.size, 1, none⟩) hneY (.int .i64 n01)).other (p := ⟨W0.heap.size, 2, none⟩) hneY (.int .i64 n02)))
          have PB := Lib.hid (show Below w.heap.size w W2 by rw [hW]; exact (((BA.out.setCell (p := ⟨W0.heap.size, 0, none⟩) HB.out.size (.int .i64 n00)).setCell (p := ⟨W0.heap.size, 1, none⟩) HB.out.size (.int .i64 n01)).setCell (p := ⟨W0.heap.size, 2, none⟩) HB.out.size (.int .i64 n02)))
          have PC := (show G3 W2 W0.heap.size 35 n00 n01 n02 by rw [hW]; exact ((C3.set0 n00).set1 n01).set2 n02)
          have hcy : w1.heap.size < W0.heap.size := hz2
          obtain ⟨d0, d1, d2⟩ := PC.cells
          obtain ⟨⟨y0, y1, y2⟩, ⟨y3, y4, y5⟩, y6, y7, y8⟩ := PY.out.cells
          have yf0 := PY.out.frozen 0
          have yf1 := PY.out.frozen 3
          have yf2 := PY.out.frozen 6
          clear hW PC l0 l1 l2 l3 l4 l5 l6 l7 l8 hl C3 c0 c1 c2 g0 g1 g2
          refine wp_loop_rounds 4 ?_
          rw [rounds_succ]
          go_wp2
          go_region
          go_wp2
          rw [rounds_succ]
          go_wp2
          go_region
          go_wp2
          rw [rounds_succ]
          go_wp2
          go_region
          go_wp2
          rw [rounds_succ]
          go_wp2
          have QX := Lib.hid (((PX.out.other (p := ⟨w1.heap.size, 0, none⟩) hyx (.int .i64 (d * n00))).other (p := ⟨w1.heap.size, 3, none⟩) hyx (.int .i64 (d * n01))).other (p := ⟨w1.heap.size, 6, none⟩) hyx (.int .i64 (d * n02)))
          have QR := Lib.hid (((PR.out.other (p := ⟨w1.heap.size, 0, none⟩) hyr (.int .i64 (d * n00))).other (p := ⟨w1.heap.size, 3, none⟩) hyr (.int .i64 (d * n01))).other (p := ⟨w1.heap.size, 6, none⟩) hyr (.int .i64 (d * n02)))
          have QY := Lib.hid (PY.out.col0 (d * n00) (d * n01) (d * n02))
          have QB := Lib.hid (((PB.out.setCell (p := ⟨w1.heap.size, 0, none⟩) B1.out.size (.int .i64 (d * n00))).setCell (p := ⟨w1.heap.size, 3, none⟩) B1.out.size (.int .i64 (d * n01))).setCell (p := ⟨w1.heap.size, 6, none⟩) B1.out.size (.int .i64 (d * n02)))
          exact ⟨⟨1, by omega, rfl, ⟨QX.out, QR.out, QY.out⟩, ((QB.out.drew).drew).drew⟩, by simp [RowKit.intOf]⟩
      · clear hk
        have ek : ((1 : Nat) : Int) = 1 := rfl
        rw [ek]
        clear ek
        have HY2 := Lib.hid (show G9 W0 w1.heap.size 37 (d * n00) 0 0 (d * n01) 0 0 (d * n02) 0 0 from HY.out)
        clear HY hlt
        obtain ⟨⟨l0, l1, l2⟩, ⟨l3, l4, l5⟩, l6, l7, l8⟩ := HX.out.cells
        have hz2 : w1.heap.size < W0.heap.size := HY2.out.lt
        have hne : W0.heap.size ≠ w.heap.size := Nat.ne_of_gt HX.out.lt
        have hneR : W0.heap.size ≠ w.heap.size + 1 := Nat.ne_of_gt HR.out.lt
        have hneY : W0.heap.size ≠ w1.heap.size := Nat.ne_of_gt HY2.out.lt
        go_wp2
        have s1 : IntKind.i64.wrap 2 = 2 := by rfl
        have r1 : Int.tmod 2 3 = 2 := by rfl
        have s2 : IntKind.i64.wrap 3 = 3 := by rfl
        have r2 : Int.tmod 3 3 = 0 := by rfl
        go_region_held3 (fun w' => w'.cell? ⟨w.heap.size, 0, none⟩ = some (.int .i64 x0) ∧ w'.cell? ⟨w.heap.size, 1, none⟩ = some (.int .i64 x1) ∧ w'.cell? ⟨w.heap.size, 2, none⟩ = some (.int .i64 x2) ∧ w'.cell? ⟨w.heap.size, 3, none⟩ = some (.int .i64 x3) ∧ w'.cell? ⟨w.heap.size, 4, none⟩ = some (.int .i64 x4) ∧ w'.cell? ⟨w.heap.size, 5, none⟩ = some (.int .i64 x5) ∧ w'.cell? ⟨w.heap.size, 6, none⟩ = some (.int .i64 x6) ∧ w'.cell? ⟨w.heap.size, 7, none⟩ = some (.int .i64 x7) ∧ w'.cell? ⟨w.heap.size, 8, none⟩ = some (.int .i64 x8))
          (first | (with_reducible exact HX.out.cells9D) | (with_reducible exact M1.out.cells9) | (with_reducible exact (M1.out.allocd _).cells9) | (with_reducible exact (((M1.out.other (p := ⟨W0.heap.size, 0, none⟩) hne _).other (p := ⟨W0.heap.size, 1, none⟩) hne _).other (p := ⟨W0.heap.size, 2, none⟩) hne _).cells9) | (with_reducible exact (HX.out.allocd _).cells9D))
          (first | (go_at_call 32; (with_reducible refine (HC1.out W0.drew).mono ?_); rintro e V ⟨rfl, hb⟩; have M1 := Lib.hid (HX.out.belowE hb); have M2 := Lib.hid (HR.out.belowE hb); have M3 := Lib.hid (HY2.out.belowE hb); have BA := Lib.hid ((HB.out.drew).trans (hb.mono HB.out.size)); have hl := M1.out.lt; clear hb) | (go_at_call 32; refine (HC1.out _).mono ?_; rintro e V ⟨rfl, hb⟩; have M1 := Lib.hid (HX.out.belowA hb); have M2 := Lib.hid (HR.out.belowA hb); have M3 := Lib.hid (HY2.out.belowA hb); have BA := Lib.hid (((HB.out.drew).alloc HB.out.size _).trans (hb.mono (Nat.le_trans HB.out.size (size_drew_alloc W0 _)))); have hl := M1.out.lt; have C3 := (G3.newAt (w := W0.drew) (B := W0.heap.size) rfl 35 0 0 0).below hb; obtain ⟨c0, c1, c2⟩ := C3.cells; have g0 := C3.frozen 0; have g1 := C3.frozen 1; have g2 := C3.frozen 2; clear hb))
        · go_wp2
          refine wgen2 ?_
          intro W2 hW
          have PX := Lib.hid (show G9 W2 w.heap.size 37 x0 x1 x2 x3 x4 x5 x6 x7 x8 by rw [hW]; exact M1.out.below ((Below.refl _ _).alloc (Nat.le_refl _) _))
          have PR := Lib.hid (show G9 W2 (w.heap.size + 1) 37 0 0 0 0 0 0 0 0 0 by rw [hW]; exact M2.out.below ((Below.refl _ _).alloc (Nat.le_refl _) _))
          have PY := Lib.hid (show G9 W2 w1.heap.size 37 (d * n00) 0 0 (d * n01) 0 0 (d * n02) 0 0 by rw [hW]; exact M3.out.below ((Below.refl _ _).alloc (Nat.le_refl _) _))
          have PB := Lib.hid (show Below w.heap.size w W2 by rw [hW]; exact BA.out.alloc BA.out.size _)
          have PC := (show G3 W2 V.heap.size 35 n10 n11 n12 by rw [hW]; exact G3.newAt rfl 35 n10 n11 n12)
          have hcy : w1.heap.size < V.heap.size := M3.out.lt
          obtain ⟨d0, d1, d2⟩ := PC.cells
          obtain ⟨⟨y0, y1, y2⟩, ⟨y3, y4, y5⟩, y6, y7, y8⟩ := PY.out.cells
          have yf0 := PY.out.frozen 1
          have yf1 := PY.out.frozen 4
          have yf2 := PY.out.frozen 7
          clear hW PC l0 l1 l2 l3 l4 l5 l6 l7 l8 hl
          refine wp_loop_rounds 4 ?_
          rw [rounds_succ]
          go_wp2
          go_region
          go_wp2
          rw [rounds_succ]
          go_wp2
          go_region
          go_wp2
          rw [rounds_succ]
          go_wp2
          go_region
          go_wp2
          rw [rounds_succ]
          go_wp2
          have QX := Lib.hid (((PX.out.other (p := ⟨w1.heap.size, 1, none⟩) hyx (.int .i64 (d * n10))).other (p := ⟨w1.heap.size, 4, none⟩) hyx (.int .i64 (d * n11))).other (p := ⟨w1.heap.size, 7, none⟩) hyx (.int .i64 (d * n12)))
          have QR := Lib.hid (((PR.out.other (p := ⟨w1.heap.size, 1, none⟩) hyr (.int .i64 (d * n10))).other (p := ⟨w1.heap.size, 4, none⟩) hyr (.int .i64 (d * n11))).other (p := ⟨w1.heap.size, 7, none⟩) hyr (.int .i64 (d * n12)))
          have QY := Lib.hid (PY.out.col1 (d * n10) (d * n11) (d * n12))
          have QB := Lib.hid (((PB.out.setCell (p := ⟨w1.heap.size, 1, none⟩) B1.out.size (.int .i64 (d * n10))).setCell (p := ⟨w1.heap.size, 4, none⟩) B1.out.size (.int .i64 (d * n11))).setCell (p := ⟨w1.heap.size, 7, none⟩) B1.out.size (.int .i64 (d * n12)))
          exact ⟨⟨2, by omega, rfl, ⟨QX.out, QR.out, QY.out⟩, ((QB.out.drew).drew).drew⟩, by simp [RowKit.intOf]⟩
        · go_wp2
          refine wgen2 ?_
          intro W2 hW
          have PX := Lib.hid (show G9 W2 w.heap.size 37 x0 x1 x2 x3 x4 x5 x6 x7 x8 by rw [hW]; exact (((M1.out.other (p := ⟨W0.heap.size, 0, none⟩) hne (.int .i64 n10)).other (p := ⟨W0.heap.size, 1, none⟩) hne (.int .i64 n11)).other (p := ⟨W0.heap.size, 2, none⟩) hne (.int .i64 n12)))
          have PR := Lib.hid (show G9 W2 (w.heap.size + 1) 37 0 0 0 0 0 0 0 0 0 by rw [hW]; exact (((M2.out.other (p := ⟨W0.heap.size, 0, none⟩) hneR (.int .i64 n10)).other (p := ⟨W0.heap.size, 1, none⟩) hneR (.int .i64 n11)).other (p := ⟨W0.heap.size, 2, none⟩) hneR (.int .i64 n12)))
          have PY := Lib.hid (show G9 W2 w1.heap.size 37 (d * n00) 0 0 (d * n01) 0 0 (d * n02) 0 0 by rw [hW]; exact (((M3.out.other (p := ⟨W0.heap.size, 0, none⟩) hneY (.int .i64 n10)).other (p := ⟨W0.heap.size, 1, none⟩) hneY (.int .i64 n11)).other (p := ⟨W0.heap.size, 2, none⟩) hneY (.int .i64 n12)))
          have PB := Lib.hid (show Below w.heap.size w W2 by rw [hW]; exact (((BA.out.setCell (p := ⟨W0.heap.size, 0, none⟩) HB.out.size (.int .i64 n10)).setCell (p := ⟨W0.heap.size, 1, none⟩) HB.out.size (.int .i64 n11)).setCell (p := ⟨W0.heap.size, 2, none⟩) HB.out.size (.int .i64 n12)))
          have PC := (show G3 W2 W0.heap.size 35 n10 n11 n12 by rw [hW]; exact ((C3.set0 n10).set1 n11).set2 n12)
          have hcy : w1.heap.size < W0.heap.size := hz2
          obtain ⟨d0, d1, d2⟩ := PC.cells
          obtain ⟨⟨y0, y1, y2⟩, ⟨y3, y4, y5⟩, y6, y7, y8⟩ := PY.out.cells
          have yf0 := PY.out.frozen 1
          have yf1 := PY.out.frozen 4
          have yf2 := PY.out.frozen 7
          clear hW PC l0 l1 l2 l3 l4 l5 l6 l7 l8 hl C3 c0 c1 c2 g0 g1 g2
          refine wp_loop_rounds 4 ?_
          rw [rounds_succ]
          go_wp2
          go_region
          go_wp2
          rw [rounds_succ]
          go_wp2
          go_region
          go_wp2
          rw [rounds_succ]
          go_wp2
          go_region
          go_wp2
          rw [rounds_succ]
          go_wp2
          have QX := Lib.hid (((PX.out.other (p := ⟨w1.heap.size, 1, none⟩) hyx (.int .i64 (d * n10))).other (p := ⟨w1.heap.size, 4, none⟩) hyx (.int .i64 (d * n11))).other (p := ⟨w1.heap.size, 7, none⟩) hyx (.int .i64 (d * n12)))
          have QR := Lib.hid (((PR.out.other (p := ⟨w1.heap.size, 1, none⟩) hyr (.int .i64 (d * n10))).other (p := ⟨w1.heap.size, 4, none⟩) hyr (.int .i64 (d * n11))).other (p := ⟨w1.heap.size, 7, none⟩) hyr (.int .i64 (d * n12)))
          have QY := Lib.hid (PY.out.col1 (d * n10) (d * n11) (d * n12))
          have QB := Lib.hid (((PB.out.setCell (p := ⟨w1.heap.size, 1, none⟩) B1.out.size (.int .i64 (d * n10))).setCell (p := ⟨w1.heap.size, 4, none⟩) B1.out.size (.int .i64 (d * n11))).setCell (p := ⟨w1.heap.size, 7, none⟩) B1.out.size (.int .i64 (d * n12)))
          exact ⟨⟨2, by omega, rfl, ⟨QX.out, QR.out, QY.out⟩, ((QB.out.drew).drew).drew⟩, by simp [RowKit.intOf]⟩
      · clear hk
        have ek : ((2 : Nat) : Int) = 2 := rfl
        rw [ek]
        clear ek
        have HY2 := Lib.hid (show G9 W0 w1.heap.size 37 (d * n00) (d * n10) 0 (d * n01) (d * n11) 0 (d * n02) (d * n12) 0 from HY.out)
        clear HY hlt
        obtain ⟨⟨l0, l1, l2⟩, ⟨l3, l4, l5⟩, l6, l7, l8⟩ := HX.out.cells
        have hz2 : w1.heap.size < W0.heap.size := HY2.out.lt
        have hne : W0.heap.size ≠ w.heap.size := Nat.ne_of_gt HX.out.lt
        have hneR : W0.heap.size ≠ w.heap.size + 1 := Nat.ne_of_gt HR.out.lt
        have hneY : W0.heap.size ≠ w1.heap.size := Nat.ne_of_gt HY2.out.lt
        go_wp2
        have s1 : IntKind.i64.wrap 3 = 3 := by rfl
        have r1 : Int.tmod 3 3 = 0 := by rfl
        have s2 : IntKind.i64.wrap 4 = 4 := by rfl
        have r2 : Int.tmod 4 3 = 1 := by rfl
        go_region_held3 (fun w' => w'.cell? ⟨w.heap.size, 0, none⟩ = some (.int .i64 x0) ∧ w'.cell? ⟨w.heap.size, 1, none⟩ = some (.int .i64 x1) ∧ w'.cell? ⟨w.heap.size, 2, none⟩ = some (.int .i64 x2) ∧ w'.cell? ⟨w.heap.size, 3, none⟩ = some (.int .i64 x3) ∧ w'.cell? ⟨w.heap.size, 4, none⟩ = some (.int .i64 x4) ∧ w'.cell? ⟨w.heap.size, 5, none⟩ = some (.int .i64 x5) ∧ w'.cell? ⟨w.heap.size, 6, none⟩ = some (.int .i64 x6) ∧ w'.cell? ⟨w.heap.size, 7, none⟩ = some (.int .i64 x7) ∧ w'.cell? ⟨w.heap.size, 8, none⟩ = some (.int .i64 x8))
          (first | (with_reducible exact HX.out.cells9D) | (with_reducible exact M1.out.cells9) | (with_reducible exact (M1.out.allocd _).cells9) | (with_reducible exact (((M1.out.other (p := ⟨W0.heap.size, 0, none⟩) hne _).other (p := ⟨W0.heap.size, 1, none⟩) hne _).other (p := ⟨W0.heap.size, 2, none⟩) hne _).cells9) | (with_reducible exact (HX.out.allocd _).cells9D))
          (first | (go_at_call 32; (with_reducible refine (HC2.out W0.drew).mono ?_); rintro e V ⟨rfl, hb⟩; have M1 := Lib.hid (HX.out.belowE hb); have M2 := Lib.hid (HR.out.belowE hb); have M3 := Lib.hid (HY2.out.belowE hb); have BA := Lib.hid ((HB.out.drew).trans (hb.mono HB.out.size)); have hl := M1.out.lt; clear hb) | (go_at_call 32; refine (HC2.out _).mono ?_; rintro e V ⟨rfl, hb⟩; have M1 := Lib.hid (HX.out.belowA hb); have M2 := Lib.hid (HR.out.belowA hb); have M3 := Lib.hid (HY2.out.belowA hb); have BA := Lib.hid (((HB.out.drew).alloc HB.out.size _).trans (hb.mono (Nat.le_trans HB.out.size (size_drew_alloc W0 _)))); have hl := M1.out.lt; have C3 := (G3.newAt (w := W0.drew) (B := W0.heap.size) rfl 35 0 0 0).below hb; obtain ⟨c0, c1, c2⟩ := C3.cells; have g0 := C3.frozen 0; have g1 := C3.frozen 1; have g2 := C3.frozen 2; clear hb))
        · go_wp2
          refine wgen2 ?_
          intro W2 hW
          have PX := Lib.hid (show G9 W2 w.heap.size 37 x0 x1 x2 x3 x4 x5 x6 x7 x8 by rw [hW]; exact M1.out.below ((Below.refl _ _).alloc (Nat.le_refl _) _))
          have PR := Lib.hid (show G9 W2 (w.heap.size + 1) 37 0 0 0 0 0 0 0 0 0 by rw [hW]; exact M2.out.below ((Below.refl _ _).alloc (Nat.le_refl _) _))
          have PY := Lib.hid (show G9 W2 w1.heap.size 37 (d * n00) (d * n10) 0 (d * n01) (d * n11) 0 (d * n02) (d * n12) 0 by rw [hW]; exact M3.out.below ((Below.refl _ _).alloc (Nat.le_refl _) _))
          have PB := Lib.hid (show Below w.heap.size w W2 by rw [hW]; exact BA.out.alloc BA.out.size _)
          have PC := (show G3 W2 V.heap.size 35 n20 n21 n22 by rw [hW]; exact G3.newAt rfl 35 n20 n21 n22)
          have hcy : w1.heap.size < V.heap.size := M3.out.lt
          obtain ⟨d0, d1, d2⟩ := PC.cells
          obtain ⟨⟨y0, y1, y2⟩, ⟨y3, y4, y5⟩, y6, y7, y8⟩ := PY.out.cells
          have yf0 := PY.out.frozen 2
          have yf1 := PY.out.frozen 5
          have yf2 := PY.out.frozen 8
          clear hW PC l0 l1 l2 l3 l4 l5 l6 l7 l8 hl
          refine wp_loop_rounds 4 ?_
          rw [rounds_succ]
          go_wp2
          go_region
          go_wp2
          rw [rounds_succ]
          go_wp2
          go_region
          go_wp2
          rw [rounds_succ]
          go_wp2
          go_region
          go_wp2
          rw [rounds_succ]
          go_wp2
          have QX := Lib.hid (((PX.out.other (p := ⟨w1.heap.size, 2, none⟩) hyx (.int .i64 (d * n20))).other (p := ⟨w1.heap.size, 5, none⟩) hyx (.int .i64 (d * n21))).other (p := ⟨w1.heap.size, 8, none⟩) hyx (.int .i64 (d * n22)))
          have QR := Lib.hid (((PR.out.other (p := ⟨w1.heap.size, 2, none⟩) hyr (.int .i64 (d * n20))).other (p := ⟨w1.heap.size, 5, none⟩) hyr (.int .i64 (d * n21))).other (p := ⟨w1.heap.size, 8, none⟩) hyr (.int .i64 (d * n22)))
          have QY := Lib.hid (PY.out.col2 (d * n20) (d * n21) (d * n22))
          have QB := Lib.hid (((PB.out.setCell (p := ⟨w1.heap.size, 2, none⟩) B1.out.size (.int .i64 (d * n20))).setCell (p := ⟨w1.heap.size, 5, none⟩) B1.out.size (.int .i64 (d * n21))).setCell (p := ⟨w1.heap.size, 8, none⟩) B1.out.size (.int .i64 (d * n22)))
          exact ⟨⟨3, by omega, rfl, ⟨QX.out, QR.out, QY.out⟩, ((QB.out.drew).drew).drew⟩, by simp [RowKit.intOf]⟩
        · go_wp2
          refine wgen2 ?_
          intro W2 hW
          have PX := Lib.hid (show G9 W2 w.heap.size 37 x0 x1 x2 x3 x4 x5 x6 x7 x8 by rw [hW]; exact (((M1.out.other (p := ⟨W0.heap.size, 0, none⟩) hne (.int .i64 n20)).other (p := ⟨W0.heap.size, 1, none⟩) hne (.int .i64 n21)).other (p := ⟨W0.heap.size, 2, none⟩) hne (.int .i64 n22)))
          have PR := Lib.hid (show G9 W2 (w.heap.size + 1) 37 0 0 0 0 0 0 0 0 0 by rw [hW]; exact (((M2.out.other (p := ⟨W0.heap.size, 0, none⟩) hneR (.int .i64 n20)).other (p := ⟨W0.heap.size, 1, none⟩) hneR (.int .i64 n21)).other (p := ⟨W0.heap.size, 2, none⟩) hneR (.int .i64 n22)))
          have PY := Lib.hid (show G9 W2 w1.heap.size 37 (d * n00) (d * n10) 0 (d * n01) (d * n11) 0 (d * n02) (d * n12) 0 by rw [hW]; exact (((M3.out.other (p := ⟨W0.heap.size, 0, none⟩) hneY (.int .i64 n20)).other (p := ⟨W0.heap.size, 1, none⟩) hneY (.int .i64 n21)).other (p := ⟨W0.heap.size, 2, none⟩) hneY (.int .i64 n22)))
          have PB := Lib.hid (show Below w.heap.size w W2 by rw [hW]; exact (((BA.out.setCell (p := ⟨W0.heap.size, 0, none⟩) HB.out.size (.int .i64 n20)).setCell (p := ⟨W0.heap.size, 1, none⟩) HB.out.size (.int .i64 n21)).setCell (p := ⟨W0.heap.size, 2, none⟩) HB.out.size (.int .i64 n22)))
          have PC := (show G3 W2 W0.heap.size 35 n20 n21 n22 by rw [hW]; exact ((C3.set0 n20).set1 n21).set2 n22)
          have hcy : w1.heap.size < W0.heap.size := hz2
          obtain ⟨d0, d1, d2⟩ := PC.cells
          obtain ⟨⟨y0, y1, y2⟩, ⟨y3, y4, y5⟩, y6, y7, y8⟩ := PY.out.cells
          have yf0 := PY.out.frozen 2
          have yf1 := PY.out.frozen 5
          have yf2 := PY.out.frozen 8
          clear hW PC l0 l1 l2 l3 l4 l5 l6 l7 l8 hl C3 c0 c1 c2 g0 g1 g2
          refine wp_loop_rounds 4 ?_
          rw [rounds_succ]
          go_wp2
          go_region
          go_wp2
          rw [rounds_succ]
          go_wp2
          go_region
          go_wp2
          rw [rounds_succ]
          go_wp2
          go_region
          go_wp2
          rw [rounds_succ]
          go_wp2
          have QX := Lib.hid (((PX.out.other (p := ⟨w1.heap.size, 2, none⟩) hyx (.int .i64 (d * n20))).other (p := ⟨w1.heap.size, 5, none⟩) hyx (.int .i64 (d * n21))).other (p := ⟨w1.heap.size, 8, none⟩) hyx (.int .i64 (d * n22)))
          have QR := Lib.hid (((PR.out.other (p := ⟨w1.heap.size, 2, none⟩) hyr (.int .i64 (d * n20))).other (p := ⟨w1.heap.size, 5, none⟩) hyr (.int .i64 (d * n21))).other (p := ⟨w1.heap.size, 8, none⟩) hyr (.int .i64 (d * n22)))
          have QY := Lib.hid (PY.out.col2 (d * n20) (d * n21) (d * n22))
          have QB := Lib.hid (((PB.out.setCell (p := ⟨w1.heap.size, 2, none⟩) B1.out.size (.int .i64 (d * n20))).setCell (p := ⟨w1.heap.size, 5, none⟩) B1.out.size (.int .i64 (d * n21))).setCell (p := ⟨w1.heap.size, 8, none⟩) B1.out.size (.int .i64 (d * n22)))
          exact ⟨⟨3, by omega, rfl, ⟨QX.out, QR.out, QY.out⟩, ((QB.out.drew).drew).drew⟩, by simp [RowKit.intOf]⟩
    · obtain rfl : k = 3 := by omega
      have HY2 := Lib.hid (show G9 W0 w1.heap.size 37 (d * n00) (d * n10) (d * n20) (d * n01) (d * n11) (d * n21) (d * n02) (d * n12) (d * n22) from HY.out)
      clear HY hlt hk
      obtain ⟨⟨y0, y1, y2⟩, ⟨y3, y4, y5⟩, y6, y7, y8⟩ := HY2.out.cells
      obtain ⟨⟨j0, j1, j2⟩, ⟨j3, j4, j5⟩, j6, j7, j8⟩ := HR.out.cells
      have f0 := HR.out.frozen 0
      have f1 := HR.out.frozen 1
      have f2 := HR.out.frozen 2
      have f3 := HR.out.frozen 3
      have f4 := HR.out.frozen 4
      have f5 := HR.out.frozen 5
      have f6 := HR.out.frozen 6
      have f7 := HR.out.frozen 7
      have f8 := HR.out.frozen 8
      go_wp2
      refine bodyPost_ret (v := .tuple #[.agg #[.int .i64 (d * n00), .int .i64 (d * n10), .int .i64 (d * n20), .int .i64 (d * n01), .int .i64 (d * n11), .int .i64 (d * n21), .int .i64 (d * n02), .int .i64 (d * n12), .int .i64 (d * n22)], .nilIface]) ?_ rfl ⟨rfl, (((((((((HB.out.setCell (p := ⟨w.heap.size + 1, 0, none⟩) (Nat.le_succ _) _).setCell (p := ⟨w.heap.size + 1, 1, none⟩) (Nat.le_succ _) _).setCell (p := ⟨w.heap.size + 1, 2, none⟩) (Nat.le_succ _) _).setCell (p := ⟨w.heap.size + 1, 3, none⟩) (Nat.le_succ _) _).setCell (p := ⟨w.heap.size + 1, 4, none⟩) (Nat.le_succ _) _).setCell (p := ⟨w.heap.size + 1, 5, none⟩) (Nat.le_succ _) _).setCell (p := ⟨w.heap.size + 1, 6, none⟩) (Nat.le_succ _) _).setCell (p := ⟨w.heap.size + 1, 7, none⟩) (Nat.le_succ _) _).setCell (p := ⟨w.heap.size + 1, 8, none⟩) (Nat.le_succ _) _)⟩
      simp [results, Tryd.results18, go_sem, j0, j1, j2, j3, j4, j5, j6, j7, j8]
end Go.Proofs.YteenheidomfpkaaDoor
