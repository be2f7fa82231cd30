/- The program's det at greater numbers, and cellPoint. -/
import Derived.Test.YtjijgagdaolkcaaGreatMav
import Derived.Test.YtjijgagdaolkcaaGreatMax
import Derived.Test.YtjijgagdaolkcaaGreatLtC
import Derived.Test.YtjijgagdaolkcaaGreatMeet
import Derived.Test.YtjijgagdaolkcaaGreatOrd
namespace Go.Proofs.YtjijgagdaolkcaaGreat
open Go Go.RowKit Go.Lib

/-- Not too great. -/
def Wd (x : Int) : Prop := -400000000000000000 ≤ x ∧ x ≤ 400000000000000000
set_option maxRecDepth 100000 in
set_option maxHeartbeats 800000 in
theorem i_crossw (a b c d e f : Int) (h1 : Wd (b * f)) (h2 : Wd (c * e)) (h3 : Wd (c * d)) (h4 : Wd (a * f)) (h5 : Wd (a * e)) (h6 : Wd (b * d)) (w : World) :
    Calls Tryz.prog 84 #[.agg #[.int .i64 a, .int .i64 b, .int .i64 c], .agg #[.int .i64 d, .int .i64 e, .int .i64 f]] w (Arr w (b * f - c * e) (c * d - a * f) (a * e - b * d)) := by
  obtain ⟨p1, q1⟩ := h1
  obtain ⟨p2, q2⟩ := h2
  obtain ⟨p3, q3⟩ := h3
  obtain ⟨p4, q4⟩ := h4
  obtain ⟨p5, q5⟩ := h5
  obtain ⟨p6, q6⟩ := h6
  go_enter Tryz.func84, Tryz.ntmps84
  go_wp2
  refine bodyPost_ret (v := .agg #[.int .i64 (b * f - c * e), .int .i64 (c * d - a * f), .int .i64 (a * e - b * d)]) ?_ rfl ⟨rfl, ?_⟩
  · simp [results, Tryz.results84, go_sem]
  · exact (((Below.refl _ _).alloc (Nat.le_refl _) _).alloc (by simp) _).alloc (by simp; omega) _
set_option maxRecDepth 100000 in
set_option maxHeartbeats 800000 in
theorem i_detw (a b c d e f g h i : Int) (h1 : Wd (e * i)) (h2 : Wd (f * h)) (h3 : Wd (f * g)) (h4 : Wd (d * i)) (h5 : Wd (d * h)) (h6 : Wd (e * g)) (h7 : Wd (a * (e * i - f * h))) (h8 : Wd (b * (f * g - d * i))) (h9 : Wd (c * (d * h - e * g))) (w : World) :
    Calls Tryz.prog 61 #[.agg #[.int .i64 a, .int .i64 b, .int .i64 c, .int .i64 d, .int .i64 e, .int .i64 f, .int .i64 g, .int .i64 h, .int .i64 i]] w (Quiet w (.int .i64 (detL [[a, b, c], [d, e, f], [g, h, i]]))) := by
  have CR := Lib.hid (fun w => i_crossw d e f g h i h1 h2 h3 h4 h5 h6 w)
  have DE := Lib.hid (show detL [[a, b, c], [d, e, f], [g, h, i]] = a * (e * i - f * h) + b * (f * g - d * i) + c * (d * h - e * g) from rfl)
  rw [DE.out]
  obtain ⟨p1, q1⟩ := h7
  obtain ⟨p2, q2⟩ := h8
  obtain ⟨p3, q3⟩ := h9
  generalize e * i - f * h = n0 at *
  generalize f * g - d * i = n1 at *
  generalize d * h - e * g = n2 at *
  clear h1 h2 h3 h4 h5 h6 DE
  obtain ⟨i0, i1, i2⟩ := idx3 (.int .i64 n0) (.int .i64 n1) (.int .i64 n2)
  go_enter Tryz.func61, Tryz.ntmps61
  go_wp2_with fail
  refine (CR.out _).mono ?_
  rintro e' w1 ⟨rfl, hb1⟩
  have K := (G9.new w 45 a b c d e f g h i).below hb1
  obtain ⟨⟨k0, k1, k2⟩, _, _⟩ := K.cells
  have B1 := Lib.hid (((Below.refl w.heap.size w).alloc (Nat.le_refl _) (.cells #[.int .i64 a, .int .i64 b, .int .i64 c, .int .i64 d, .int .i64 e, .int .i64 f, .int .i64 g, .int .i64 h, .int .i64 i] 45)).trans (hb1.mono (by simp)))
  have hz : w.heap.size < w1.heap.size := by have h := hb1.size; simp at h; omega
  clear hb1 K
  go_wp2_with fail
  refine wp_loop_rounds 4 ?_
  rw [rounds_succ]
  go_wp2
  rw [rounds_succ]
  go_wp2
  rw [rounds_succ]
  go_wp2
  rw [rounds_succ]
  go_wp2
  go_ret
  exact ⟨ret_int (by omega), B1.out.alloc B1.out.size _⟩

/-- A number of a matrix. -/
abbrev E100 (x : Int) : Prop := -100 ≤ x ∧ x ≤ 100
theorem wd_mul {x y X : Int} (hx : -X ≤ x ∧ x ≤ X) (hy : E100 y) (_hX : 0 ≤ X) (h4 : X ≤ 4000000000000000) : Wd (x * y) ∧ Wd (y * x) := by
  have h := mul_bd hx.1 hx.2 hy.1 hy.2
  rw [Int.mul_comm y x]
  unfold Wd
  omega
theorem bd_mul {x y X : Int} (hx : -X ≤ x ∧ x ≤ X) (hy : E100 y) (_hX : 0 ≤ X) : (-(X * 100) ≤ x * y ∧ x * y ≤ X * 100) ∧ (-(X * 100) ≤ y * x ∧ y * x ≤ X * 100) := by
  have h := mul_bd hx.1 hx.2 hy.1 hy.2
  rw [Int.mul_comm y x]
  omega
/-- A row of a matrix is in the place of another one that is greater. -/
theorem i_det0 (x y z d e f g h i : Int) (X : Int) (h0 : 0 ≤ X) (hX : X ≤ 10000000000000) (hx : -X ≤ x ∧ x ≤ X) (hy : -X ≤ y ∧ y ≤ X) (hz : -X ≤ z ∧ z ≤ X) (hd : E100 d) (he : E100 e) (hf : E100 f) (hg : E100 g) (hh : E100 h) (hi : E100 i) (w : World) :
    Calls Tryz.prog 61 #[.agg #[.int .i64 x, .int .i64 y, .int .i64 z, .int .i64 d, .int .i64 e, .int .i64 f, .int .i64 g, .int .i64 h, .int .i64 i]] w (Quiet w (.int .i64 (detL [[x, y, z], [d, e, f], [g, h, i]]))) := by
  have p := fun {u v : Int} (hu : E100 u) (hv : E100 v) => mul_bd hu.1 hu.2 hv.1 hv.2
  have a1 := p he hi; have a2 := p hf hh; have a3 := p hf hg; have a4 := p hd hi; have a5 := p hd hh; have a6 := p he hg
  have b1 := mul_bd hx.1 hx.2 (show -20000 ≤ e * i - f * h by omega) (show e * i - f * h ≤ 20000 by omega)
  have b2 := mul_bd hy.1 hy.2 (show -20000 ≤ f * g - d * i by omega) (show f * g - d * i ≤ 20000 by omega)
  have b3 := mul_bd hz.1 hz.2 (show -20000 ≤ d * h - e * g by omega) (show d * h - e * g ≤ 20000 by omega)
  exact i_detw x y z d e f g h i (by unfold Wd; omega) (by unfold Wd; omega) (by unfold Wd; omega) (by unfold Wd; omega) (by unfold Wd; omega) (by unfold Wd; omega) (by unfold Wd; omega) (by unfold Wd; omega) (by unfold Wd; omega) w
theorem i_det1 (a b c x y z g h i : Int) (X : Int) (h0 : 0 ≤ X) (hX : X ≤ 10000000000000) (hx : -X ≤ x ∧ x ≤ X) (hy : -X ≤ y ∧ y ≤ X) (hz : -X ≤ z ∧ z ≤ X) (ha : E100 a) (hb : E100 b) (hc : E100 c) (hg : E100 g) (hh : E100 h) (hi : E100 i) (w : World) :
    Calls Tryz.prog 61 #[.agg #[.int .i64 a, .int .i64 b, .int .i64 c, .int .i64 x, .int .i64 y, .int .i64 z, .int .i64 g, .int .i64 h, .int .i64 i]] w (Quiet w (.int .i64 (detL [[a, b, c], [x, y, z], [g, h, i]]))) := by
  have a1 := (bd_mul hy hi h0).1; have a2 := (bd_mul hz hh h0).1; have a3 := (bd_mul hz hg h0).1; have a4 := (bd_mul hx hi h0).1; have a5 := (bd_mul hx hh h0).1; have a6 := (bd_mul hy hg h0).1
  have b1 := (bd_mul (x := y * i - z * h) (X := X * 200) (by omega) ha (by omega)).2
  have b2 := (bd_mul (x := z * g - x * i) (X := X * 200) (by omega) hb (by omega)).2
  have b3 := (bd_mul (x := x * h - y * g) (X := X * 200) (by omega) hc (by omega)).2
  exact i_detw a b c x y z g h i (by unfold Wd; omega) (by unfold Wd; omega) (by unfold Wd; omega) (by unfold Wd; omega) (by unfold Wd; omega) (by unfold Wd; omega) (by unfold Wd; omega) (by unfold Wd; omega) (by unfold Wd; omega) w
theorem i_det2' (a b c d e f x y z : Int) (X : Int) (h0 : 0 ≤ X) (hX : X ≤ 10000000000000) (hx : -X ≤ x ∧ x ≤ X) (hy : -X ≤ y ∧ y ≤ X) (hz : -X ≤ z ∧ z ≤ X) (ha : E100 a) (hb : E100 b) (hc : E100 c) (hd : E100 d) (he : E100 e) (hf : E100 f) (w : World) :
    Calls Tryz.prog 61 #[.agg #[.int .i64 a, .int .i64 b, .int .i64 c, .int .i64 d, .int .i64 e, .int .i64 f, .int .i64 x, .int .i64 y, .int .i64 z]] w (Quiet w (.int .i64 (detL [[a, b, c], [d, e, f], [x, y, z]]))) := by
  have a1 := (bd_mul hz he h0).2; have a2 := (bd_mul hy hf h0).2; have a3 := (bd_mul hx hf h0).2; have a4 := (bd_mul hz hd h0).2; have a5 := (bd_mul hy hd h0).2; have a6 := (bd_mul hx he h0).2
  have b1 := (bd_mul (x := e * z - f * y) (X := X * 200) (by omega) ha (by omega)).2
  have b2 := (bd_mul (x := f * x - d * z) (X := X * 200) (by omega) hb (by omega)).2
  have b3 := (bd_mul (x := d * y - e * x) (X := X * 200) (by omega) hc (by omega)).2
  exact i_detw a b c d e f x y z (by unfold Wd; omega) (by unfold Wd; omega) (by unfold Wd; omega) (by unfold Wd; omega) (by unfold Wd; omega) (by unfold Wd; omega) (by unfold Wd; omega) (by unfold Wd; omega) (by unfold Wd; omega) w
theorem det_bd5 {a b c d e f g h i : Int} (X : Int) (_h0 : 0 ≤ X) (ha : -X ≤ a ∧ a ≤ X) (hb : -X ≤ b ∧ b ≤ X) (hc : -X ≤ c ∧ c ≤ X) (hd : E100 d) (he : E100 e) (hf : E100 f) (hg : E100 g) (hh : E100 h) (hi : E100 i) :
    -(X * 60000) ≤ a * (e * i - f * h) + b * (f * g - d * i) + c * (d * h - e * g) ∧ a * (e * i - f * h) + b * (f * g - d * i) + c * (d * h - e * g) ≤ X * 60000 := by
  have p := fun {u v : Int} (hu : E100 u) (hv : E100 v) => mul_bd hu.1 hu.2 hv.1 hv.2
  have a1 := p he hi; have a2 := p hf hh; have a3 := p hf hg; have a4 := p hd hi; have a5 := p hd hh; have a6 := p he hg
  have b1 := mul_bd ha.1 ha.2 (show -20000 ≤ e * i - f * h by omega) (show e * i - f * h ≤ 20000 by omega)
  have b2 := mul_bd hb.1 hb.2 (show -20000 ≤ f * g - d * i by omega) (show f * g - d * i ≤ 20000 by omega)
  have b3 := mul_bd hc.1 hc.2 (show -20000 ≤ d * h - e * g by omega) (show d * h - e * g ≤ 20000 by omega)
  omega
/-- The three determinants that tell the factors. -/
theorem dets_bd {a b c d e f g h i x y z : Int} (ha : E100 a) (hb : E100 b) (hc : E100 c) (hd : E100 d) (he : E100 e) (hf : E100 f) (hg : E100 g) (hh : E100 h) (hi : E100 i) (hx : 0 ≤ x ∧ x ≤ 500) (hy : 0 ≤ y ∧ y ≤ 500) (hz : 0 ≤ z ∧ z ≤ 500) :
    (-30000000 ≤ detL [[x, y, z], [d, e, f], [g, h, i]] ∧ detL [[x, y, z], [d, e, f], [g, h, i]] ≤ 30000000) ∧ (-30000000 ≤ detL [[a, b, c], [x, y, z], [g, h, i]] ∧ detL [[a, b, c], [x, y, z], [g, h, i]] ≤ 30000000) ∧
    (-30000000 ≤ detL [[a, b, c], [d, e, f], [x, y, z]] ∧ detL [[a, b, c], [d, e, f], [x, y, z]] ≤ 30000000) := by
  have x' : -500 ≤ x ∧ x ≤ 500 := by omega
  have y' : -500 ≤ y ∧ y ≤ 500 := by omega
  have z' : -500 ≤ z ∧ z ≤ 500 := by omega
  have k0 := det_bd5 500 (by omega) x' y' z' hd he hf hg hh hi
  have k1 := det_bd5 500 (by omega) x' y' z' ha hb hc hg hh hi
  have k2 := det_bd5 500 (by omega) x' y' z' ha hb hc hd he hf
  have e1 : detL [[a, b, c], [x, y, z], [g, h, i]] = -(x * (b * i - c * h) + y * (c * g - a * i) + z * (a * h - b * g)) := by simp only [detL]; grind
  have e2 : detL [[a, b, c], [d, e, f], [x, y, z]] = x * (b * f - c * e) + y * (c * d - a * f) + z * (a * e - b * d) := by simp only [detL]; grind
  rw [e1, e2]
  simp only [detL]
  omega
theorem qD_bd {d D X : Int} (hd : d ≠ 0) (hd1 : -500 ≤ d ∧ d ≤ 500) (h1 : -X ≤ D) (h2 : D ≤ X) (_hX : 0 ≤ X) : -(X * 500) ≤ qD d D ∧ qD d D ≤ X * 500 := by
  unfold qD
  have hp : 0 < d * d := by
    rcases Int.lt_or_gt_of_ne hd with h | h
    · exact Int.mul_pos_of_neg_of_neg h h
    · exact Int.mul_pos h h
  have hb := mul_bd hd1.1 hd1.2 h1 h2
  have := floor_bd (x := d * D) (X := X * 500) hp (by rw [Int.mul_comm X 500]; exact hb.1) (by rw [Int.mul_comm X 500]; exact hb.2)
  exact this
end Go.Proofs.YtjijgagdaolkcaaGreat
/- The program's cellPoint. -/
namespace Go.Proofs.YtjijgagdaolkcaaGreat
open Go Go.RowKit Go.Lib

theorem cells15 {w W : World} {A B C : Nat} {S T U : TypeId} {x y z a b c d e f g h i r s t : Int} (h1 : Bk w A #[.int .i64 x, .int .i64 y, .int .i64 z] S) (h2 : Bk w B #[.int .i64 a, .int .i64 b, .int .i64 c, .int .i64 d, .int .i64 e, .int .i64 f, .int .i64 g, .int .i64 h, .int .i64 i] T) (h3 : Bk w C #[.int .i64 r, .int .i64 s, .int .i64 t] U) (hb : Below w.heap.size w W) :
    Bk W A #[.int .i64 x, .int .i64 y, .int .i64 z] S ∧ Bk W B #[.int .i64 a, .int .i64 b, .int .i64 c, .int .i64 d, .int .i64 e, .int .i64 f, .int .i64 g, .int .i64 h, .int .i64 i] T ∧ Bk W C #[.int .i64 r, .int .i64 s, .int .i64 t] U := ⟨h1.below hb, h2.below hb, h3.below hb⟩
set_option maxRecDepth 100000 in
set_option maxHeartbeats 8000000 in
theorem i_cellp (a b c d e f g h i x y z : Int) (ha : E100 a) (hb : E100 b) (hc : E100 c) (hd : E100 d) (he : E100 e) (hf : E100 f) (hg : E100 g) (hh : E100 h) (hi : E100 i) (hx : 0 ≤ x ∧ x ≤ 500) (hy : 0 ≤ y ∧ y ≤ 500) (hz : 0 ≤ z ∧ z ≤ 500) (hdn : detL [[a, b, c], [d, e, f], [g, h, i]] ≠ 0) (hd5 : -500 ≤ detL [[a, b, c], [d, e, f], [g, h, i]] ∧ detL [[a, b, c], [d, e, f], [g, h, i]] ≤ 500) (w : World) :
    Calls Tryz.prog 26 #[.agg #[.int .i64 a, .int .i64 b, .int .i64 c, .int .i64 d, .int .i64 e, .int .i64 f, .int .i64 g, .int .i64 h, .int .i64 i], .agg #[.int .i64 x, .int .i64 y, .int .i64 z]] w fun e' w' => e' = .returned (encV (cellT [[a, b, c], [d, e, f], [g, h, i]] (x, y, z))) ∧ Below w.heap.size w w' := by
  obtain ⟨k0, k1, k2⟩ := dets_bd ha hb hc hd he hf hg hh hi hx hy hz
  have CD := Lib.hid (fun W => i_det0 a b c d e f g h i 100 (by omega) (by omega) ha hb hc hd he hf hg hh hi W)
  have C0 := Lib.hid (fun W => i_det0 x y z d e f g h i 500 (by omega) (by omega) (by omega) (by omega) (by omega) hd he hf hg hh hi W)
  have hDD : 0 < detL [[a, b, c], [d, e, f], [g, h, i]] * detL [[a, b, c], [d, e, f], [g, h, i]] := by
    rcases Int.lt_or_gt_of_ne hdn with h | h
    · exact Int.mul_pos_of_neg_of_neg h h
    · exact Int.mul_pos h h
  have hDB := mul_bd hd5.1 hd5.2 hd5.1 hd5.2
  have b0 := qD_bd (D := detL [[x, y, z], [d, e, f], [g, h, i]]) (X := 30000000) hdn hd5 k0.1 k0.2 (by omega)
  have m0 := mul_bd hd5.1 hd5.2 k0.1 k0.2
  have b1 := qD_bd (D := detL [[a, b, c], [x, y, z], [g, h, i]]) (X := 30000000) hdn hd5 k1.1 k1.2 (by omega)
  have m1 := mul_bd hd5.1 hd5.2 k1.1 k1.2
  have b2 := qD_bd (D := detL [[a, b, c], [d, e, f], [x, y, z]]) (X := 30000000) hdn hd5 k2.1 k2.2 (by omega)
  have m2 := mul_bd hd5.1 hd5.2 k2.1 k2.2
  have HE := Lib.hid (show cellT [[a, b, c], [d, e, f], [g, h, i]] (x, y, z) = (x - (qD (detL [[a, b, c], [d, e, f], [g, h, i]]) (detL [[x, y, z], [d, e, f], [g, h, i]]) * a + qD (detL [[a, b, c], [d, e, f], [g, h, i]]) (detL [[a, b, c], [x, y, z], [g, h, i]]) * d + qD (detL [[a, b, c], [d, e, f], [g, h, i]]) (detL [[a, b, c], [d, e, f], [x, y, z]]) * g), y - (qD (detL [[a, b, c], [d, e, f], [g, h, i]]) (detL [[x, y, z], [d, e, f], [g, h, i]]) * b + qD (detL [[a, b, c], [d, e, f], [g, h, i]]) (detL [[a, b, c], [x, y, z], [g, h, i]]) * e + qD (detL [[a, b, c], [d, e, f], [g, h, i]]) (detL [[a, b, c], [d, e, f], [x, y, z]]) * h), z - (qD (detL [[a, b, c], [d, e, f], [g, h, i]]) (detL [[x, y, z], [d, e, f], [g, h, i]]) * c + qD (detL [[a, b, c], [d, e, f], [g, h, i]]) (detL [[a, b, c], [x, y, z], [g, h, i]]) * f + qD (detL [[a, b, c], [d, e, f], [g, h, i]]) (detL [[a, b, c], [d, e, f], [x, y, z]]) * i)) from rfl)
  have E1 := Lib.hid (fun (p : Int) => show detL [[a, b, c], [x + -p * a, y + -p * b, z + -p * c], [g, h, i]] = detL [[a, b, c], [x, y, z], [g, h, i]] by simp only [detL]; grind)
  have E2 := Lib.hid (fun (p r : Int) => show detL [[a, b, c], [d, e, f], [x + -p * a + -r * d, y + -p * b + -r * e, z + -p * c + -r * f]] = detL [[a, b, c], [d, e, f], [x, y, z]] by simp only [detL]; grind)
  obtain ⟨D, hD⟩ : ∃ D, detL [[a, b, c], [d, e, f], [g, h, i]] = D := ⟨_, rfl⟩
  rw [hD] at CD hDD hDB b0 b1 b2 m0 m1 m2 HE hd5
  obtain ⟨D0, hD0⟩ : ∃ D, detL [[x, y, z], [d, e, f], [g, h, i]] = D := ⟨_, rfl⟩
  obtain ⟨D1, hD1⟩ : ∃ D, detL [[a, b, c], [x, y, z], [g, h, i]] = D := ⟨_, rfl⟩
  obtain ⟨D2, hD2⟩ : ∃ D, detL [[a, b, c], [d, e, f], [x, y, z]] = D := ⟨_, rfl⟩
  rw [hD0] at C0 k0 b0 m0 HE
  rw [hD1] at k1 b1 m1 E1 HE
  rw [hD2] at k2 b2 m2 E2 HE
  have Q0 := Lib.hid (fun W => i_quot (D * D0) (D * D) (by omega) (by omega) hDD (by omega) W)
  obtain ⟨q0, hq0⟩ : ∃ r, qD D D0 = r := ⟨_, rfl⟩
  have g0 : D * D0 / (D * D) = q0 := hq0
  rw [g0] at Q0
  rw [hq0] at b0 HE
  have p0 : -15000000000 ≤ -q0 ∧ -q0 ≤ 15000000000 := by omega
  have n0 : IntKind.i64.wrap (-q0) = -q0 := IntWalk.i64_in _ (by omega)
  have w0 : IntKind.i64.wrap (D * D0) = D * D0 := IntWalk.i64_in _ (by omega)
  have Q1 := Lib.hid (fun W => i_quot (D * D1) (D * D) (by omega) (by omega) hDD (by omega) W)
  obtain ⟨q1, hq1⟩ : ∃ r, qD D D1 = r := ⟨_, rfl⟩
  have g1 : D * D1 / (D * D) = q1 := hq1
  rw [g1] at Q1
  rw [hq1] at b1 HE
  have p1 : -15000000000 ≤ -q1 ∧ -q1 ≤ 15000000000 := by omega
  have n1 : IntKind.i64.wrap (-q1) = -q1 := IntWalk.i64_in _ (by omega)
  have w1 : IntKind.i64.wrap (D * D1) = D * D1 := IntWalk.i64_in _ (by omega)
  have Q2 := Lib.hid (fun W => i_quot (D * D2) (D * D) (by omega) (by omega) hDD (by omega) W)
  obtain ⟨q2, hq2⟩ : ∃ r, qD D D2 = r := ⟨_, rfl⟩
  have g2 : D * D2 / (D * D) = q2 := hq2
  rw [g2] at Q2
  rw [hq2] at b2 HE
  have p2 : -15000000000 ≤ -q2 ∧ -q2 ≤ 15000000000 := by omega
  have n2 : IntKind.i64.wrap (-q2) = -q2 := IntWalk.i64_in _ (by omega)
  have w2 : IntKind.i64.wrap (D * D2) = D * D2 := IntWalk.i64_in _ (by omega)
  have wd : IntKind.i64.wrap (D * D) = D * D := IntWalk.i64_in _ (by omega)
  have v00 := (bd_mul (x := -q0) (X := 15000000000) p0 ha (by omega)).1
  have v01 := (bd_mul (x := -q0) (X := 15000000000) p0 hb (by omega)).1
  have v02 := (bd_mul (x := -q0) (X := 15000000000) p0 hc (by omega)).1
  have T0 := Lib.hid (fun W => i_addt x y z (-q0) a b c W (by omega) (by omega) (by omega) (by omega) (by omega) (by omega))
  obtain ⟨x1, u00⟩ : ∃ s, x + -q0 * a = s := ⟨_, rfl⟩
  obtain ⟨y1, u01⟩ : ∃ s, y + -q0 * b = s := ⟨_, rfl⟩
  obtain ⟨z1, u02⟩ : ∃ s, z + -q0 * c = s := ⟨_, rfl⟩
  have s00 : -2000000000000 ≤ x1 ∧ x1 ≤ 2000000000000 := by omega
  have s01 : -2000000000000 ≤ y1 ∧ y1 ≤ 2000000000000 := by omega
  have s02 : -2000000000000 ≤ z1 ∧ z1 ≤ 2000000000000 := by omega
  rw [u00, u01, u02] at T0
  have C1 := Lib.hid (fun W => i_det1 a b c x1 y1 z1 g h i 2000000000000 (by omega) (by omega) (by omega) (by omega) (by omega) ha hb hc hg hh hi W)
  have F1 := E1.out q0
  rw [u00, u01, u02] at F1
  rw [F1] at C1
  have v10 := (bd_mul (x := -q1) (X := 15000000000) p1 hd (by omega)).1
  have v11 := (bd_mul (x := -q1) (X := 15000000000) p1 he (by omega)).1
  have v12 := (bd_mul (x := -q1) (X := 15000000000) p1 hf (by omega)).1
  have T1 := Lib.hid (fun W => i_addt x1 y1 z1 (-q1) d e f W (by omega) (by omega) (by omega) (by omega) (by omega) (by omega))
  obtain ⟨x2, u10⟩ : ∃ s, x1 + -q1 * d = s := ⟨_, rfl⟩
  obtain ⟨y2, u11⟩ : ∃ s, y1 + -q1 * e = s := ⟨_, rfl⟩
  obtain ⟨z2, u12⟩ : ∃ s, z1 + -q1 * f = s := ⟨_, rfl⟩
  have s10 : -4000000000000 ≤ x2 ∧ x2 ≤ 4000000000000 := by omega
  have s11 : -4000000000000 ≤ y2 ∧ y2 ≤ 4000000000000 := by omega
  have s12 : -4000000000000 ≤ z2 ∧ z2 ≤ 4000000000000 := by omega
  rw [u10, u11, u12] at T1
  have C2 := Lib.hid (fun W => i_det2' a b c d e f x2 y2 z2 4000000000000 (by omega) (by omega) (by omega) (by omega) (by omega) ha hb hc hd he hf W)
  have F2 := E2.out q0 q1
  rw [u00, u01, u02] at F2
  rw [u10, u11, u12] at F2
  rw [F2] at C2
  have v20 := (bd_mul (x := -q2) (X := 15000000000) p2 hg (by omega)).1
  have v21 := (bd_mul (x := -q2) (X := 15000000000) p2 hh (by omega)).1
  have v22 := (bd_mul (x := -q2) (X := 15000000000) p2 hi (by omega)).1
  have T2 := Lib.hid (fun W => i_addt x2 y2 z2 (-q2) g h i W (by omega) (by omega) (by omega) (by omega) (by omega) (by omega))
  obtain ⟨x3, u20⟩ : ∃ s, x2 + -q2 * g = s := ⟨_, rfl⟩
  obtain ⟨y3, u21⟩ : ∃ s, y2 + -q2 * h = s := ⟨_, rfl⟩
  obtain ⟨z3, u22⟩ : ∃ s, z2 + -q2 * i = s := ⟨_, rfl⟩
  have s20 : -6000000000000 ≤ x3 ∧ x3 ≤ 6000000000000 := by omega
  have s21 : -6000000000000 ≤ y3 ∧ y3 ≤ 6000000000000 := by omega
  have s22 : -6000000000000 ≤ z3 ∧ z3 ≤ 6000000000000 := by omega
  rw [u20, u21, u22] at T2
  have HF := Lib.hid (show cellT [[a, b, c], [d, e, f], [g, h, i]] (x, y, z) = (x3, y3, z3) by
    rw [HE.out, ← u20, ← u21, ← u22, ← u10, ← u11, ← u12, ← u00, ← u01, ← u02]
    simp only [Prod.mk.injEq]
    grind)
  clear HE E1 E2 F1 F2 u00 v00 s00 u01 v01 s01 u02 v02 s02 u10 v10 s10 u11 v11 s11 u12 v12 s12 u20 v20 s20 u21 v21 s21 u22 v22 s22
  clear hD0 k0 b0 m0 hq0 g0 p0 hD1 k1 b1 m1 hq1 g1 p1 hD2 k2 b2 m2 hq2 g2 p2
  clear hD hDD hDB hdn hd5 hx hy hz ha hb hc hd he hf hg hh hi
  have ix0 : ∀ w, (Instr.index 45 (.agg #[.int .i64 a, .int .i64 b, .int .i64 c, .int .i64 d, .int .i64 e, .int .i64 f, .int .i64 g, .int .i64 h, .int .i64 i]) (.int .i64 0)).run Tryz.prog w = .ok (.agg #[.int .i64 a, .int .i64 b, .int .i64 c]) w := fun _ => by kernel_rfl
  have ix1 : ∀ w, (Instr.index 45 (.agg #[.int .i64 a, .int .i64 b, .int .i64 c, .int .i64 d, .int .i64 e, .int .i64 f, .int .i64 g, .int .i64 h, .int .i64 i]) (.int .i64 1)).run Tryz.prog w = .ok (.agg #[.int .i64 d, .int .i64 e, .int .i64 f]) w := fun _ => by kernel_rfl
  have ix2 : ∀ w, (Instr.index 45 (.agg #[.int .i64 a, .int .i64 b, .int .i64 c, .int .i64 d, .int .i64 e, .int .i64 f, .int .i64 g, .int .i64 h, .int .i64 i]) (.int .i64 2)).run Tryz.prog w = .ok (.agg #[.int .i64 g, .int .i64 h, .int .i64 i]) w := fun _ => by kernel_rfl
  unfold encV
  rw [HF.out]
  clear HF
  simp only
  go_enter Tryz.func26, Tryz.ntmps26
  have H3 := Bk.three w #[.int .i64 a, .int .i64 b, .int .i64 c, .int .i64 d, .int .i64 e, .int .i64 f, .int .i64 g, .int .i64 h, .int .i64 i] #[.int .i64 x, .int .i64 y, .int .i64 z] #[.int .i64 0, .int .i64 0, .int .i64 0] 45 43 43
  have HB3 := below3 w (.cells #[.int .i64 a, .int .i64 b, .int .i64 c, .int .i64 d, .int .i64 e, .int .i64 f, .int .i64 g, .int .i64 h, .int .i64 i] 45) (.cells #[.int .i64 x, .int .i64 y, .int .i64 z] 43) (.cells #[.int .i64 0, .int .i64 0, .int .i64 0] 43)
  have KG0 := Lib.hid H3.1
  have KX0 := Lib.hid H3.2.1
  have KR0 := Lib.hid H3.2.2
  have KB0 := Lib.hid HB3
  clear H3 HB3
  go_wp2_with fail
  refine (CD.out _).mono ?_
  rintro e' W ⟨rfl, hb⟩
  have KG := Lib.hid (KG0.out.below hb)
  have KX := Lib.hid (KX0.out.below hb)
  have KR := Lib.hid (KR0.out.below hb)
  have KB := Lib.hid (KB0.out.trans (hb.mono KB0.out.size))
  clear hb KG0 KX0 KR0 KB0
  obtain ⟨g0, g1, g2, g3, g4, g5, g6, g7, g8⟩ := G9.cells9 KG.out
  go_wp2_with fail
  clear g0 g1 g2 g3 g4 g5 g6 g7 g8
  refine wp_loop_rounds 4 ?_
  rw [rounds_succ]
  obtain ⟨g0, g1, g2, g3, g4, g5, g6, g7, g8⟩ := G9.cells9 KG.out
  obtain ⟨l0, l1, l2⟩ := bk3t KX.out
  have hz1 : w.heap.size + 1 + 1 < W.heap.size := KR.out.lt
  have hz2 : w.heap.size + 1 < W.heap.size := KX.out.lt
  have hz3 : w.heap.size < W.heap.size := KG.out.lt
  go_wp2_with fail
  refine wgen ?_
  intro U0 hU
  have LX := Lib.hid (show Bk U0 (w.heap.size + 1) #[.int .i64 x, .int .i64 y, .int .i64 z] 43 by rw [hU]; exact (KX.out.alloc (.cells #[.int .i64 a, .int .i64 b, .int .i64 c] 43)).alloc (.cells #[.int .i64 x, .int .i64 y, .int .i64 z, .int .i64 d, .int .i64 e, .int .i64 f, .int .i64 g, .int .i64 h, .int .i64 i] 45))
  have LG := Lib.hid (show Bk U0 w.heap.size #[.int .i64 a, .int .i64 b, .int .i64 c, .int .i64 d, .int .i64 e, .int .i64 f, .int .i64 g, .int .i64 h, .int .i64 i] 45 by rw [hU]; exact (KG.out.alloc (.cells #[.int .i64 a, .int .i64 b, .int .i64 c] 43)).alloc (.cells #[.int .i64 x, .int .i64 y, .int .i64 z, .int .i64 d, .int .i64 e, .int .i64 f, .int .i64 g, .int .i64 h, .int .i64 i] 45))
  have LR := Lib.hid (show Bk U0 (w.heap.size + 1 + 1) #[.int .i64 0, .int .i64 0, .int .i64 0] 43 by rw [hU]; exact (KR.out.alloc (.cells #[.int .i64 a, .int .i64 b, .int .i64 c] 43)).alloc (.cells #[.int .i64 x, .int .i64 y, .int .i64 z, .int .i64 d, .int .i64 e, .int .i64 f, .int .i64 g, .int .i64 h, .int .i64 i] 45))
  have LO := Lib.hid (show Bk U0 W.heap.size #[.int .i64 a, .int .i64 b, .int .i64 c] 43 by rw [hU]; exact (Bk.new W #[.int .i64 a, .int .i64 b, .int .i64 c] 43).alloc (.cells #[.int .i64 x, .int .i64 y, .int .i64 z, .int .i64 d, .int .i64 e, .int .i64 f, .int .i64 g, .int .i64 h, .int .i64 i] 45))
  have LC := Lib.hid (show Bk U0 (W.heap.size + 1) #[.int .i64 x, .int .i64 y, .int .i64 z, .int .i64 d, .int .i64 e, .int .i64 f, .int .i64 g, .int .i64 h, .int .i64 i] 45 by rw [hU]; exact Bk.newAt (by simp) _ _)
  have LB := Lib.hid (show Below w.heap.size w U0 by rw [hU]; exact (KB.out.alloc KB.out.size (.cells #[.int .i64 a, .int .i64 b, .int .i64 c] 43)).alloc (by have := KB.out.size; simp; omega) (.cells #[.int .i64 x, .int .i64 y, .int .i64 z, .int .i64 d, .int .i64 e, .int .i64 f, .int .i64 g, .int .i64 h, .int .i64 i] 45))
  clear hU g0 g1 g2 g3 g4 g5 g6 g7 g8 l0 l1 l2 KX KG KR KB
  refine T_begin (z := fun k => 11 < k) (S := fun w' => Bk w' (w.heap.size + 1) #[.int .i64 x, .int .i64 y, .int .i64 z] 43 ∧ Bk w' (W.heap.size + 1) #[.int .i64 x, .int .i64 y, .int .i64 z, .int .i64 d, .int .i64 e, .int .i64 f, .int .i64 g, .int .i64 h, .int .i64 i] 45 ∧ Bk w' W.heap.size #[.int .i64 a, .int .i64 b, .int .i64 c] 43) (by kernel_rfl) ?_
  show wpAnyT _ _ _ _ _ _ 13 _ _ _
  have hS0 := Lib.hid (show (fun w' => Bk w' (w.heap.size + 1) #[.int .i64 x, .int .i64 y, .int .i64 z] 43 ∧ Bk w' (W.heap.size + 1) #[.int .i64 x, .int .i64 y, .int .i64 z, .int .i64 d, .int .i64 e, .int .i64 f, .int .i64 g, .int .i64 h, .int .i64 i] 45 ∧ Bk w' W.heap.size #[.int .i64 a, .int .i64 b, .int .i64 c] 43) U0.drew from cells15 LX.out LC.out LO.out (Below.refl _ U0).drew)
  refine T_take (i := 0) (v := .agg #[.int .i64 x, .int .i64 y, .int .i64 z]) rfl (by kernel_rfl) (by kernel_rfl) (by kernel_rfl) (by kernel_rfl) (fun _ _ _ h => h) hS0.out rfl (fun w' hS' => by obtain ⟨a0, a1, a2⟩ := bk3t hS'.1; obtain ⟨c0, c1, c2, c3, c4, c5, c6, c7, c8⟩ := G9.cells9 hS'.2.1; obtain ⟨r0, r1, r2⟩ := bk3t hS'.2.2;  go_simp) ?_
  try simp only [Act.put, List.setIfInBounds_toArray]
  refine T_take (i := 1) (v := .int .i64 D) rfl (by kernel_rfl) (by kernel_rfl) (by kernel_rfl) (by kernel_rfl) (fun _ _ _ h => h) hS0.out rfl (fun w' hS' => by obtain ⟨a0, a1, a2⟩ := bk3t hS'.1; obtain ⟨c0, c1, c2, c3, c4, c5, c6, c7, c8⟩ := G9.cells9 hS'.2.1; obtain ⟨r0, r1, r2⟩ := bk3t hS'.2.2;  go_simp) ?_
  try simp only [Act.put]
  refine T_take (i := 2) (v := .agg #[.int .i64 x, .int .i64 y, .int .i64 z, .int .i64 d, .int .i64 e, .int .i64 f, .int .i64 g, .int .i64 h, .int .i64 i]) rfl (by kernel_rfl) (by kernel_rfl) (by kernel_rfl) (by kernel_rfl) (fun _ _ _ h => h) hS0.out rfl (fun w' hS' => by obtain ⟨a0, a1, a2⟩ := bk3t hS'.1; obtain ⟨c0, c1, c2, c3, c4, c5, c6, c7, c8⟩ := G9.cells9 hS'.2.1; obtain ⟨r0, r1, r2⟩ := bk3t hS'.2.2;  go_simp) ?_
  try simp only [Act.put]
  refine T_take (i := 5) (v := .int .i64 D) rfl (by kernel_rfl) (by kernel_rfl) (by kernel_rfl) (by kernel_rfl) (fun _ _ _ h => h) hS0.out rfl (fun w' hS' => by obtain ⟨a0, a1, a2⟩ := bk3t hS'.1; obtain ⟨c0, c1, c2, c3, c4, c5, c6, c7, c8⟩ := G9.cells9 hS'.2.1; obtain ⟨r0, r1, r2⟩ := bk3t hS'.2.2;  go_simp) ?_
  try simp only [Act.put]
  refine T_take (i := 6) (v := .int .i64 D) rfl (by kernel_rfl) (by kernel_rfl) (by kernel_rfl) (by kernel_rfl) (fun _ _ _ h => h) hS0.out rfl (fun w' hS' => by obtain ⟨a0, a1, a2⟩ := bk3t hS'.1; obtain ⟨c0, c1, c2, c3, c4, c5, c6, c7, c8⟩ := G9.cells9 hS'.2.1; obtain ⟨r0, r1, r2⟩ := bk3t hS'.2.2;  go_simp) ?_
  try simp only [Act.put]
  refine T_take (i := 7) (v := .int .i64 (D * D)) rfl (by kernel_rfl) (by kernel_rfl) (by kernel_rfl) (by kernel_rfl) (fun _ _ _ h => h) hS0.out rfl (fun w' hS' => by obtain ⟨a0, a1, a2⟩ := bk3t hS'.1; obtain ⟨c0, c1, c2, c3, c4, c5, c6, c7, c8⟩ := G9.cells9 hS'.2.1; obtain ⟨r0, r1, r2⟩ := bk3t hS'.2.2;  go_simp) ?_
  try simp only [Act.put]
  refine T_take (i := 10) (v := .agg #[.int .i64 a, .int .i64 b, .int .i64 c]) rfl (by kernel_rfl) (by kernel_rfl) (by kernel_rfl) (by kernel_rfl) (fun _ _ _ h => h) hS0.out rfl (fun w' hS' => by obtain ⟨a0, a1, a2⟩ := bk3t hS'.1; obtain ⟨c0, c1, c2, c3, c4, c5, c6, c7, c8⟩ := G9.cells9 hS'.2.1; obtain ⟨r0, r1, r2⟩ := bk3t hS'.2.2;  go_simp) ?_
  try simp only [Act.put]
  refine T_step (i := 3) rfl (by kernel_rfl) rfl rfl ?_
  intro K hK
  go_simp
  refine (C0.out _).mono ?_
  rintro e' Y0 ⟨rfl, hb⟩
  have hb2 : Below U0.heap.size U0 Y0 := (Below.refl _ U0).drew.trans hb
  have YB := Lib.hid hb2
  have hS1 := Lib.hid (show (fun w' => Bk w' (w.heap.size + 1) #[.int .i64 x, .int .i64 y, .int .i64 z] 43 ∧ Bk w' (W.heap.size + 1) #[.int .i64 x, .int .i64 y, .int .i64 z, .int .i64 d, .int .i64 e, .int .i64 f, .int .i64 g, .int .i64 h, .int .i64 i] 45 ∧ Bk w' W.heap.size #[.int .i64 a, .int .i64 b, .int .i64 c] 43) Y0 from cells15 LX.out LC.out LO.out hb2)
  refine hK.out _ _ hS1.out ?_
  clear hK K hb hb2 hS0
  try simp only [Act.put, List.setIfInBounds_toArray, List.set_cons_zero, List.set_cons_succ]
  refine T_take (i := 4) (v := .int .i64 (D * D0)) rfl (by kernel_rfl) (by kernel_rfl) (by kernel_rfl) (by kernel_rfl) (fun _ _ _ h => h) hS1.out rfl (fun w' hS' => by obtain ⟨a0, a1, a2⟩ := bk3t hS'.1; obtain ⟨c0, c1, c2, c3, c4, c5, c6, c7, c8⟩ := G9.cells9 hS'.2.1; obtain ⟨r0, r1, r2⟩ := bk3t hS'.2.2;  go_simp) ?_
  try simp only [Act.put, List.setIfInBounds_toArray]
  refine T_step (i := 8) rfl (by kernel_rfl) rfl rfl ?_
  intro K hK
  go_simp
  refine (Q0.out _).mono ?_
  rintro e' w' ⟨rfl, rfl⟩
  refine hK.out _ _ hS1.out ?_
  clear hK K
  try simp only [Act.put, List.setIfInBounds_toArray, List.set_cons_zero, List.set_cons_succ]
  refine T_take (i := 9) (v := .int .i64 (-q0)) rfl (by kernel_rfl) (by kernel_rfl) (by kernel_rfl) (by kernel_rfl) (fun _ _ _ h => h) hS1.out rfl (fun w' hS' => by obtain ⟨a0, a1, a2⟩ := bk3t hS'.1; obtain ⟨c0, c1, c2, c3, c4, c5, c6, c7, c8⟩ := G9.cells9 hS'.2.1; obtain ⟨r0, r1, r2⟩ := bk3t hS'.2.2;  go_simp) ?_
  try simp only [Act.put, List.setIfInBounds_toArray]
  refine T_step (i := 11) rfl (by kernel_rfl) rfl rfl ?_
  intro K hK
  go_simp
  refine (T0.out _).mono ?_
  rintro e' Z0 ⟨rfl, hb⟩
  have hb2 : Below U0.heap.size U0 Z0 := YB.out.trans (hb.mono YB.out.size)
  refine hK.out _ _ (cells15 LX.out LC.out LO.out hb2) ?_
  have MX := Lib.hid (LX.out.below hb2)
  have MG := Lib.hid (LG.out.below hb2)
  have MR := Lib.hid (LR.out.below hb2)
  have MB := Lib.hid (LB.out.trans (hb2.mono LB.out.size))
  clear hK K hb hb2 hS1 YB LX LG LR LO LC LB
  try simp only [Act.put, List.setIfInBounds_toArray, List.set_cons_zero, List.set_cons_succ]
  obtain ⟨l0, l1, l2⟩ := bk3t MX.out
  have f0 := MX.out.free 0
  have f1 := MX.out.free 1
  have f2 := MX.out.free 2
  refine T_last (i := 12) rfl (by kernel_rfl) (by kernel_rfl) rfl rfl ?_
  go_simp
  have QX := Lib.hid (((MX.out.set 0 (.int .i64 x1) (by simp)).set 1 (.int .i64 y1) (by simp)).set 2 (.int .i64 z1) (by simp))
  have QG := Lib.hid (((MG.out.other (p := ⟨w.heap.size + 1, 0, none⟩) (by simp) (.int .i64 x1)).other (p := ⟨w.heap.size + 1, 1, none⟩) (by simp) (.int .i64 y1)).other (p := ⟨w.heap.size + 1, 2, none⟩) (by simp) (.int .i64 z1))
  have QR := Lib.hid (((MR.out.other (p := ⟨w.heap.size + 1, 0, none⟩) (by simp) (.int .i64 x1)).other (p := ⟨w.heap.size + 1, 1, none⟩) (by simp) (.int .i64 y1)).other (p := ⟨w.heap.size + 1, 2, none⟩) (by simp) (.int .i64 z1))
  have QB := Lib.hid (((MB.out.setCell (p := ⟨w.heap.size + 1, 0, none⟩) (by simp) (.int .i64 x1)).setCell (p := ⟨w.heap.size + 1, 1, none⟩) (by simp) (.int .i64 y1)).setCell (p := ⟨w.heap.size + 1, 2, none⟩) (by simp) (.int .i64 z1))
  clear l0 l1 l2 f0 f1 f2 MX MG MR MB hz1 hz2 hz3
  go_wp2
  rw [rounds_succ]
  refine wgen ?_
  intro V1 hW
  have KX := Lib.hid (show Bk V1 (w.heap.size + 1) #[.int .i64 x1, .int .i64 y1, .int .i64 z1] 43 by rw [hW]; exact QX.out)
  have KG := Lib.hid (show Bk V1 w.heap.size #[.int .i64 a, .int .i64 b, .int .i64 c, .int .i64 d, .int .i64 e, .int .i64 f, .int .i64 g, .int .i64 h, .int .i64 i] 45 by rw [hW]; exact QG.out)
  have KR := Lib.hid (show Bk V1 (w.heap.size + 1 + 1) #[.int .i64 0, .int .i64 0, .int .i64 0] 43 by rw [hW]; exact QR.out)
  have KB := Lib.hid (show Below w.heap.size w V1 by rw [hW]; exact QB.out)
  clear hW QX QG QR QB
  obtain ⟨g0, g1, g2, g3, g4, g5, g6, g7, g8⟩ := G9.cells9 KG.out
  obtain ⟨l0, l1, l2⟩ := bk3t KX.out
  have hz1 : w.heap.size + 1 + 1 < V1.heap.size := KR.out.lt
  have hz2 : w.heap.size + 1 < V1.heap.size := KX.out.lt
  have hz3 : w.heap.size < V1.heap.size := KG.out.lt
  go_wp2_with fail
  refine wgen ?_
  intro U1 hU
  have LX := Lib.hid (show Bk U1 (w.heap.size + 1) #[.int .i64 x1, .int .i64 y1, .int .i64 z1] 43 by rw [hU]; exact (KX.out.alloc (.cells #[.int .i64 d, .int .i64 e, .int .i64 f] 43)).alloc (.cells #[.int .i64 a, .int .i64 b, .int .i64 c, .int .i64 x1, .int .i64 y1, .int .i64 z1, .int .i64 g, .int .i64 h, .int .i64 i] 45))
  have LG := Lib.hid (show Bk U1 w.heap.size #[.int .i64 a, .int .i64 b, .int .i64 c, .int .i64 d, .int .i64 e, .int .i64 f, .int .i64 g, .int .i64 h, .int .i64 i] 45 by rw [hU]; exact (KG.out.alloc (.cells #[.int .i64 d, .int .i64 e, .int .i64 f] 43)).alloc (.cells #[.int .i64 a, .int .i64 b, .int .i64 c, .int .i64 x1, .int .i64 y1, .int .i64 z1, .int .i64 g, .int .i64 h, .int .i64 i] 45))
  have LR := Lib.hid (show Bk U1 (w.heap.size + 1 + 1) #[.int .i64 0, .int .i64 0, .int .i64 0] 43 by rw [hU]; exact (KR.out.alloc (.cells #[.int .i64 d, .int .i64 e, .int .i64 f] 43)).alloc (.cells #[.int .i64 a, .int .i64 b, .int .i64 c, .int .i64 x1, .int .i64 y1, .int .i64 z1, .int .i64 g, .int .i64 h, .int .i64 i] 45))
  have LO := Lib.hid (show Bk U1 V1.heap.size #[.int .i64 d, .int .i64 e, .int .i64 f] 43 by rw [hU]; exact (Bk.new V1 #[.int .i64 d, .int .i64 e, .int .i64 f] 43).alloc (.cells #[.int .i64 a, .int .i64 b, .int .i64 c, .int .i64 x1, .int .i64 y1, .int .i64 z1, .int .i64 g, .int .i64 h, .int .i64 i] 45))
  have LC := Lib.hid (show Bk U1 (V1.heap.size + 1) #[.int .i64 a, .int .i64 b, .int .i64 c, .int .i64 x1, .int .i64 y1, .int .i64 z1, .int .i64 g, .int .i64 h, .int .i64 i] 45 by rw [hU]; exact Bk.newAt (by simp) _ _)
  have LB := Lib.hid (show Below w.heap.size w U1 by rw [hU]; exact (KB.out.alloc KB.out.size (.cells #[.int .i64 d, .int .i64 e, .int .i64 f] 43)).alloc (by have := KB.out.size; simp; omega) (.cells #[.int .i64 a, .int .i64 b, .int .i64 c, .int .i64 x1, .int .i64 y1, .int .i64 z1, .int .i64 g, .int .i64 h, .int .i64 i] 45))
  clear hU g0 g1 g2 g3 g4 g5 g6 g7 g8 l0 l1 l2 KX KG KR KB
  refine T_begin (z := fun k => 11 < k) (S := fun w' => Bk w' (w.heap.size + 1) #[.int .i64 x1, .int .i64 y1, .int .i64 z1] 43 ∧ Bk w' (V1.heap.size + 1) #[.int .i64 a, .int .i64 b, .int .i64 c, .int .i64 x1, .int .i64 y1, .int .i64 z1, .int .i64 g, .int .i64 h, .int .i64 i] 45 ∧ Bk w' V1.heap.size #[.int .i64 d, .int .i64 e, .int .i64 f] 43) (by kernel_rfl) ?_
  show wpAnyT _ _ _ _ _ _ 13 _ _ _
  have hS0 := Lib.hid (show (fun w' => Bk w' (w.heap.size + 1) #[.int .i64 x1, .int .i64 y1, .int .i64 z1] 43 ∧ Bk w' (V1.heap.size + 1) #[.int .i64 a, .int .i64 b, .int .i64 c, .int .i64 x1, .int .i64 y1, .int .i64 z1, .int .i64 g, .int .i64 h, .int .i64 i] 45 ∧ Bk w' V1.heap.size #[.int .i64 d, .int .i64 e, .int .i64 f] 43) U1.drew from cells15 LX.out LC.out LO.out (Below.refl _ U1).drew)
  refine T_take (i := 0) (v := .agg #[.int .i64 x1, .int .i64 y1, .int .i64 z1]) rfl (by kernel_rfl) (by kernel_rfl) (by kernel_rfl) (by kernel_rfl) (fun _ _ _ h => h) hS0.out rfl (fun w' hS' => by obtain ⟨a0, a1, a2⟩ := bk3t hS'.1; obtain ⟨c0, c1, c2, c3, c4, c5, c6, c7, c8⟩ := G9.cells9 hS'.2.1; obtain ⟨r0, r1, r2⟩ := bk3t hS'.2.2;  go_simp) ?_
  try simp only [Act.put, List.setIfInBounds_toArray]
  refine T_take (i := 1) (v := .int .i64 D) rfl (by kernel_rfl) (by kernel_rfl) (by kernel_rfl) (by kernel_rfl) (fun _ _ _ h => h) hS0.out rfl (fun w' hS' => by obtain ⟨a0, a1, a2⟩ := bk3t hS'.1; obtain ⟨c0, c1, c2, c3, c4, c5, c6, c7, c8⟩ := G9.cells9 hS'.2.1; obtain ⟨r0, r1, r2⟩ := bk3t hS'.2.2;  go_simp) ?_
  try simp only [Act.put]
  refine T_take (i := 2) (v := .agg #[.int .i64 a, .int .i64 b, .int .i64 c, .int .i64 x1, .int .i64 y1, .int .i64 z1, .int .i64 g, .int .i64 h, .int .i64 i]) rfl (by kernel_rfl) (by kernel_rfl) (by kernel_rfl) (by kernel_rfl) (fun _ _ _ h => h) hS0.out rfl (fun w' hS' => by obtain ⟨a0, a1, a2⟩ := bk3t hS'.1; obtain ⟨c0, c1, c2, c3, c4, c5, c6, c7, c8⟩ := G9.cells9 hS'.2.1; obtain ⟨r0, r1, r2⟩ := bk3t hS'.2.2;  go_simp) ?_
  try simp only [Act.put]
  refine T_take (i := 5) (v := .int .i64 D) rfl (by kernel_rfl) (by kernel_rfl) (by kernel_rfl) (by kernel_rfl) (fun _ _ _ h => h) hS0.out rfl (fun w' hS' => by obtain ⟨a0, a1, a2⟩ := bk3t hS'.1; obtain ⟨c0, c1, c2, c3, c4, c5, c6, c7, c8⟩ := G9.cells9 hS'.2.1; obtain ⟨r0, r1, r2⟩ := bk3t hS'.2.2;  go_simp) ?_
  try simp only [Act.put]
  refine T_take (i := 6) (v := .int .i64 D) rfl (by kernel_rfl) (by kernel_rfl) (by kernel_rfl) (by kernel_rfl) (fun _ _ _ h => h) hS0.out rfl (fun w' hS' => by obtain ⟨a0, a1, a2⟩ := bk3t hS'.1; obtain ⟨c0, c1, c2, c3, c4, c5, c6, c7, c8⟩ := G9.cells9 hS'.2.1; obtain ⟨r0, r1, r2⟩ := bk3t hS'.2.2;  go_simp) ?_
  try simp only [Act.put]
  refine T_take (i := 7) (v := .int .i64 (D * D)) rfl (by kernel_rfl) (by kernel_rfl) (by kernel_rfl) (by kernel_rfl) (fun _ _ _ h => h) hS0.out rfl (fun w' hS' => by obtain ⟨a0, a1, a2⟩ := bk3t hS'.1; obtain ⟨c0, c1, c2, c3, c4, c5, c6, c7, c8⟩ := G9.cells9 hS'.2.1; obtain ⟨r0, r1, r2⟩ := bk3t hS'.2.2;  go_simp) ?_
  try simp only [Act.put]
  refine T_take (i := 10) (v := .agg #[.int .i64 d, .int .i64 e, .int .i64 f]) rfl (by kernel_rfl) (by kernel_rfl) (by kernel_rfl) (by kernel_rfl) (fun _ _ _ h => h) hS0.out rfl (fun w' hS' => by obtain ⟨a0, a1, a2⟩ := bk3t hS'.1; obtain ⟨c0, c1, c2, c3, c4, c5, c6, c7, c8⟩ := G9.cells9 hS'.2.1; obtain ⟨r0, r1, r2⟩ := bk3t hS'.2.2;  go_simp) ?_
  try simp only [Act.put]
  refine T_step (i := 3) rfl (by kernel_rfl) rfl rfl ?_
  intro K hK
  go_simp
  refine (C1.out _).mono ?_
  rintro e' Y1 ⟨rfl, hb⟩
  have hb2 : Below U1.heap.size U1 Y1 := (Below.refl _ U1).drew.trans hb
  have YB := Lib.hid hb2
  have hS1 := Lib.hid (show (fun w' => Bk w' (w.heap.size + 1) #[.int .i64 x1, .int .i64 y1, .int .i64 z1] 43 ∧ Bk w' (V1.heap.size + 1) #[.int .i64 a, .int .i64 b, .int .i64 c, .int .i64 x1, .int .i64 y1, .int .i64 z1, .int .i64 g, .int .i64 h, .int .i64 i] 45 ∧ Bk w' V1.heap.size #[.int .i64 d, .int .i64 e, .int .i64 f] 43) Y1 from cells15 LX.out LC.out LO.out hb2)
  refine hK.out _ _ hS1.out ?_
  clear hK K hb hb2 hS0
  try simp only [Act.put, List.setIfInBounds_toArray, List.set_cons_zero, List.set_cons_succ]
  refine T_take (i := 4) (v := .int .i64 (D * D1)) rfl (by kernel_rfl) (by kernel_rfl) (by kernel_rfl) (by kernel_rfl) (fun _ _ _ h => h) hS1.out rfl (fun w' hS' => by obtain ⟨a0, a1, a2⟩ := bk3t hS'.1; obtain ⟨c0, c1, c2, c3, c4, c5, c6, c7, c8⟩ := G9.cells9 hS'.2.1; obtain ⟨r0, r1, r2⟩ := bk3t hS'.2.2;  go_simp) ?_
  try simp only [Act.put, List.setIfInBounds_toArray]
  refine T_step (i := 8) rfl (by kernel_rfl) rfl rfl ?_
  intro K hK
  go_simp
  refine (Q1.out _).mono ?_
  rintro e' w' ⟨rfl, rfl⟩
  refine hK.out _ _ hS1.out ?_
  clear hK K
  try simp only [Act.put, List.setIfInBounds_toArray, List.set_cons_zero, List.set_cons_succ]
  refine T_take (i := 9) (v := .int .i64 (-q1)) rfl (by kernel_rfl) (by kernel_rfl) (by kernel_rfl) (by kernel_rfl) (fun _ _ _ h => h) hS1.out rfl (fun w' hS' => by obtain ⟨a0, a1, a2⟩ := bk3t hS'.1; obtain ⟨c0, c1, c2, c3, c4, c5, c6, c7, c8⟩ := G9.cells9 hS'.2.1; obtain ⟨r0, r1, r2⟩ := bk3t hS'.2.2;  go_simp) ?_
  try simp only [Act.put, List.setIfInBounds_toArray]
  refine T_step (i := 11) rfl (by kernel_rfl) rfl rfl ?_
  intro K hK
  go_simp
  refine (T1.out _).mono ?_
  rintro e' Z1 ⟨rfl, hb⟩
  have hb2 : Below U1.heap.size U1 Z1 := YB.out.trans (hb.mono YB.out.size)
  refine hK.out _ _ (cells15 LX.out LC.out LO.out hb2) ?_
  have MX := Lib.hid (LX.out.below hb2)
  have MG := Lib.hid (LG.out.below hb2)
  have MR := Lib.hid (LR.out.below hb2)
  have MB := Lib.hid (LB.out.trans (hb2.mono LB.out.size))
  clear hK K hb hb2 hS1 YB LX LG LR LO LC LB
  try simp only [Act.put, List.setIfInBounds_toArray, List.set_cons_zero, List.set_cons_succ]
  obtain ⟨l0, l1, l2⟩ := bk3t MX.out
  have f0 := MX.out.free 0
  have f1 := MX.out.free 1
  have f2 := MX.out.free 2
  refine T_last (i := 12) rfl (by kernel_rfl) (by kernel_rfl) rfl rfl ?_
  go_simp
  have QX := Lib.hid (((MX.out.set 0 (.int .i64 x2) (by simp)).set 1 (.int .i64 y2) (by simp)).set 2 (.int .i64 z2) (by simp))
  have QG := Lib.hid (((MG.out.other (p := ⟨w.heap.size + 1, 0, none⟩) (by simp) (.int .i64 x2)).other (p := ⟨w.heap.size + 1, 1, none⟩) (by simp) (.int .i64 y2)).other (p := ⟨w.heap.size + 1, 2, none⟩) (by simp) (.int .i64 z2))
  have QR := Lib.hid (((MR.out.other (p := ⟨w.heap.size + 1, 0, none⟩) (by simp) (.int .i64 x2)).other (p := ⟨w.heap.size + 1, 1, none⟩) (by simp) (.int .i64 y2)).other (p := ⟨w.heap.size + 1, 2, none⟩) (by simp) (.int .i64 z2))
  have QB := Lib.hid (((MB.out.setCell (p := ⟨w.heap.size + 1, 0, none⟩) (by simp) (.int .i64 x2)).setCell (p := ⟨w.heap.size + 1, 1, none⟩) (by simp) (.int .i64 y2)).setCell (p := ⟨w.heap.size + 1, 2, none⟩) (by simp) (.int .i64 z2))
  clear l0 l1 l2 f0 f1 f2 MX MG MR MB hz1 hz2 hz3
  go_wp2
  rw [rounds_succ]
  refine wgen ?_
  intro V2 hW
  have KX := Lib.hid (show Bk V2 (w.heap.size + 1) #[.int .i64 x2, .int .i64 y2, .int .i64 z2] 43 by rw [hW]; exact QX.out)
  have KG := Lib.hid (show Bk V2 w.heap.size #[.int .i64 a, .int .i64 b, .int .i64 c, .int .i64 d, .int .i64 e, .int .i64 f, .int .i64 g, .int .i64 h, .int .i64 i] 45 by rw [hW]; exact QG.out)
  have KR := Lib.hid (show Bk V2 (w.heap.size + 1 + 1) #[.int .i64 0, .int .i64 0, .int .i64 0] 43 by rw [hW]; exact QR.out)
  have KB := Lib.hid (show Below w.heap.size w V2 by rw [hW]; exact QB.out)
  clear hW QX QG QR QB
  obtain ⟨g0, g1, g2, g3, g4, g5, g6, g7, g8⟩ := G9.cells9 KG.out
  obtain ⟨l0, l1, l2⟩ := bk3t KX.out
  have hz1 : w.heap.size + 1 + 1 < V2.heap.size := KR.out.lt
  have hz2 : w.heap.size + 1 < V2.heap.size := KX.out.lt
  have hz3 : w.heap.size < V2.heap.size := KG.out.lt
  go_wp2_with fail
  refine wgen ?_
  intro U2 hU
  have LX := Lib.hid (show Bk U2 (w.heap.size + 1) #[.int .i64 x2, .int .i64 y2, .int .i64 z2] 43 by rw [hU]; exact (KX.out.alloc (.cells #[.int .i64 g, .int .i64 h, .int .i64 i] 43)).alloc (.cells #[.int .i64 a, .int .i64 b, .int .i64 c, .int .i64 d, .int .i64 e, .int .i64 f, .int .i64 x2, .int .i64 y2, .int .i64 z2] 45))
  have LG := Lib.hid (show Bk U2 w.heap.size #[.int .i64 a, .int .i64 b, .int .i64 c, .int .i64 d, .int .i64 e, .int .i64 f, .int .i64 g, .int .i64 h, .int .i64 i] 45 by rw [hU]; exact (KG.out.alloc (.cells #[.int .i64 g, .int .i64 h, .int .i64 i] 43)).alloc (.cells #[.int .i64 a, .int .i64 b, .int .i64 c, .int .i64 d, .int .i64 e, .int .i64 f, .int .i64 x2, .int .i64 y2, .int .i64 z2] 45))
  have LR := Lib.hid (show Bk U2 (w.heap.size + 1 + 1) #[.int .i64 0, .int .i64 0, .int .i64 0] 43 by rw [hU]; exact (KR.out.alloc (.cells #[.int .i64 g, .int .i64 h, .int .i64 i] 43)).alloc (.cells #[.int .i64 a, .int .i64 b, .int .i64 c, .int .i64 d, .int .i64 e, .int .i64 f, .int .i64 x2, .int .i64 y2, .int .i64 z2] 45))
  have LO := Lib.hid (show Bk U2 V2.heap.size #[.int .i64 g, .int .i64 h, .int .i64 i] 43 by rw [hU]; exact (Bk.new V2 #[.int .i64 g, .int .i64 h, .int .i64 i] 43).alloc (.cells #[.int .i64 a, .int .i64 b, .int .i64 c, .int .i64 d, .int .i64 e, .int .i64 f, .int .i64 x2, .int .i64 y2, .int .i64 z2] 45))
  have LC := Lib.hid (show Bk U2 (V2.heap.size + 1) #[.int .i64 a, .int .i64 b, .int .i64 c, .int .i64 d, .int .i64 e, .int .i64 f, .int .i64 x2, .int .i64 y2, .int .i64 z2] 45 by rw [hU]; exact Bk.newAt (by simp) _ _)
  have LB := Lib.hid (show Below w.heap.size w U2 by rw [hU]; exact (KB.out.alloc KB.out.size (.cells #[.int .i64 g, .int .i64 h, .int .i64 i] 43)).alloc (by have := KB.out.size; simp; omega) (.cells #[.int .i64 a, .int .i64 b, .int .i64 c, .int .i64 d, .int .i64 e, .int .i64 f, .int .i64 x2, .int .i64 y2, .int .i64 z2] 45))
  clear hU g0 g1 g2 g3 g4 g5 g6 g7 g8 l0 l1 l2 KX KG KR KB
  refine T_begin (z := fun k => 11 < k) (S := fun w' => Bk w' (w.heap.size + 1) #[.int .i64 x2, .int .i64 y2, .int .i64 z2] 43 ∧ Bk w' (V2.heap.size + 1) #[.int .i64 a, .int .i64 b, .int .i64 c, .int .i64 d, .int .i64 e, .int .i64 f, .int .i64 x2, .int .i64 y2, .int .i64 z2] 45 ∧ Bk w' V2.heap.size #[.int .i64 g, .int .i64 h, .int .i64 i] 43) (by kernel_rfl) ?_
  show wpAnyT _ _ _ _ _ _ 13 _ _ _
  have hS0 := Lib.hid (show (fun w' => Bk w' (w.heap.size + 1) #[.int .i64 x2, .int .i64 y2, .int .i64 z2] 43 ∧ Bk w' (V2.heap.size + 1) #[.int .i64 a, .int .i64 b, .int .i64 c, .int .i64 d, .int .i64 e, .int .i64 f, .int .i64 x2, .int .i64 y2, .int .i64 z2] 45 ∧ Bk w' V2.heap.size #[.int .i64 g, .int .i64 h, .int .i64 i] 43) U2.drew from cells15 LX.out LC.out LO.out (Below.refl _ U2).drew)
  refine T_take (i := 0) (v := .agg #[.int .i64 x2, .int .i64 y2, .int .i64 z2]) rfl (by kernel_rfl) (by kernel_rfl) (by kernel_rfl) (by kernel_rfl) (fun _ _ _ h => h) hS0.out rfl (fun w' hS' => by obtain ⟨a0, a1, a2⟩ := bk3t hS'.1; obtain ⟨c0, c1, c2, c3, c4, c5, c6, c7, c8⟩ := G9.cells9 hS'.2.1; obtain ⟨r0, r1, r2⟩ := bk3t hS'.2.2;  go_simp) ?_
  try simp only [Act.put, List.setIfInBounds_toArray]
  refine T_take (i := 1) (v := .int .i64 D) rfl (by kernel_rfl) (by kernel_rfl) (by kernel_rfl) (by kernel_rfl) (fun _ _ _ h => h) hS0.out rfl (fun w' hS' => by obtain ⟨a0, a1, a2⟩ := bk3t hS'.1; obtain ⟨c0, c1, c2, c3, c4, c5, c6, c7, c8⟩ := G9.cells9 hS'.2.1; obtain ⟨r0, r1, r2⟩ := bk3t hS'.2.2;  go_simp) ?_
  try simp only [Act.put]
  refine T_take (i := 2) (v := .agg #[.int .i64 a, .int .i64 b, .int .i64 c, .int .i64 d, .int .i64 e, .int .i64 f, .int .i64 x2, .int .i64 y2, .int .i64 z2]) rfl (by kernel_rfl) (by kernel_rfl) (by kernel_rfl) (by kernel_rfl) (fun _ _ _ h => h) hS0.out rfl (fun w' hS' => by obtain ⟨a0, a1, a2⟩ := bk3t hS'.1; obtain ⟨c0, c1, c2, c3, c4, c5, c6, c7, c8⟩ := G9.cells9 hS'.2.1; obtain ⟨r0, r1, r2⟩ := bk3t hS'.2.2;  go_simp) ?_
  try simp only [Act.put]
  refine T_take (i := 5) (v := .int .i64 D) rfl (by kernel_rfl) (by kernel_rfl) (by kernel_rfl) (by kernel_rfl) (fun _ _ _ h => h) hS0.out rfl (fun w' hS' => by obtain ⟨a0, a1, a2⟩ := bk3t hS'.1; obtain ⟨c0, c1, c2, c3, c4, c5, c6, c7, c8⟩ := G9.cells9 hS'.2.1; obtain ⟨r0, r1, r2⟩ := bk3t hS'.2.2;  go_simp) ?_
  try simp only [Act.put]
  refine T_take (i := 6) (v := .int .i64 D) rfl (by kernel_rfl) (by kernel_rfl) (by kernel_rfl) (by kernel_rfl) (fun _ _ _ h => h) hS0.out rfl (fun w' hS' => by obtain ⟨a0, a1, a2⟩ := bk3t hS'.1; obtain ⟨c0, c1, c2, c3, c4, c5, c6, c7, c8⟩ := G9.cells9 hS'.2.1; obtain ⟨r0, r1, r2⟩ := bk3t hS'.2.2;  go_simp) ?_
  try simp only [Act.put]
  refine T_take (i := 7) (v := .int .i64 (D * D)) rfl (by kernel_rfl) (by kernel_rfl) (by kernel_rfl) (by kernel_rfl) (fun _ _ _ h => h) hS0.out rfl (fun w' hS' => by obtain ⟨a0, a1, a2⟩ := bk3t hS'.1; obtain ⟨c0, c1, c2, c3, c4, c5, c6, c7, c8⟩ := G9.cells9 hS'.2.1; obtain ⟨r0, r1, r2⟩ := bk3t hS'.2.2;  go_simp) ?_
  try simp only [Act.put]
  refine T_take (i := 10) (v := .agg #[.int .i64 g, .int .i64 h, .int .i64 i]) rfl (by kernel_rfl) (by kernel_rfl) (by kernel_rfl) (by kernel_rfl) (fun _ _ _ h => h) hS0.out rfl (fun w' hS' => by obtain ⟨a0, a1, a2⟩ := bk3t hS'.1; obtain ⟨c0, c1, c2, c3, c4, c5, c6, c7, c8⟩ := G9.cells9 hS'.2.1; obtain ⟨r0, r1, r2⟩ := bk3t hS'.2.2;  go_simp) ?_
  try simp only [Act.put]
  refine T_step (i := 3) rfl (by kernel_rfl) rfl rfl ?_
  intro K hK
  go_simp
  refine (C2.out _).mono ?_
  rintro e' Y2 ⟨rfl, hb⟩
  have hb2 : Below U2.heap.size U2 Y2 := (Below.refl _ U2).drew.trans hb
  have YB := Lib.hid hb2
  have hS1 := Lib.hid (show (fun w' => Bk w' (w.heap.size + 1) #[.int .i64 x2, .int .i64 y2, .int .i64 z2] 43 ∧ Bk w' (V2.heap.size + 1) #[.int .i64 a, .int .i64 b, .int .i64 c, .int .i64 d, .int .i64 e, .int .i64 f, .int .i64 x2, .int .i64 y2, .int .i64 z2] 45 ∧ Bk w' V2.heap.size #[.int .i64 g, .int .i64 h, .int .i64 i] 43) Y2 from cells15 LX.out LC.out LO.out hb2)
  refine hK.out _ _ hS1.out ?_
  clear hK K hb hb2 hS0
  try simp only [Act.put, List.setIfInBounds_toArray, List.set_cons_zero, List.set_cons_succ]
  refine T_take (i := 4) (v := .int .i64 (D * D2)) rfl (by kernel_rfl) (by kernel_rfl) (by kernel_rfl) (by kernel_rfl) (fun _ _ _ h => h) hS1.out rfl (fun w' hS' => by obtain ⟨a0, a1, a2⟩ := bk3t hS'.1; obtain ⟨c0, c1, c2, c3, c4, c5, c6, c7, c8⟩ := G9.cells9 hS'.2.1; obtain ⟨r0, r1, r2⟩ := bk3t hS'.2.2;  go_simp) ?_
  try simp only [Act.put, List.setIfInBounds_toArray]
  refine T_step (i := 8) rfl (by kernel_rfl) rfl rfl ?_
  intro K hK
  go_simp
  refine (Q2.out _).mono ?_
  rintro e' w' ⟨rfl, rfl⟩
  refine hK.out _ _ hS1.out ?_
  clear hK K
  try simp only [Act.put, List.setIfInBounds_toArray, List.set_cons_zero, List.set_cons_succ]
  refine T_take (i := 9) (v := .int .i64 (-q2)) rfl (by kernel_rfl) (by kernel_rfl) (by kernel_rfl) (by kernel_rfl) (fun _ _ _ h => h) hS1.out rfl (fun w' hS' => by obtain ⟨a0, a1, a2⟩ := bk3t hS'.1; obtain ⟨c0, c1, c2, c3, c4, c5, c6, c7, c8⟩ := G9.cells9 hS'.2.1; obtain ⟨r0, r1, r2⟩ := bk3t hS'.2.2;  go_simp) ?_
  try simp only [Act.put, List.setIfInBounds_toArray]
  refine T_step (i := 11) rfl (by kernel_rfl) rfl rfl ?_
  intro K hK
  go_simp
  refine (T2.out _).mono ?_
  rintro e' Z2 ⟨rfl, hb⟩
  have hb2 : Below U2.heap.size U2 Z2 := YB.out.trans (hb.mono YB.out.size)
  refine hK.out _ _ (cells15 LX.out LC.out LO.out hb2) ?_
  have MX := Lib.hid (LX.out.below hb2)
  have MG := Lib.hid (LG.out.below hb2)
  have MR := Lib.hid (LR.out.below hb2)
  have MB := Lib.hid (LB.out.trans (hb2.mono LB.out.size))
  clear hK K hb hb2 hS1 YB LX LG LR LO LC LB
  try simp only [Act.put, List.setIfInBounds_toArray, List.set_cons_zero, List.set_cons_succ]
  obtain ⟨l0, l1, l2⟩ := bk3t MX.out
  have f0 := MX.out.free 0
  have f1 := MX.out.free 1
  have f2 := MX.out.free 2
  refine T_last (i := 12) rfl (by kernel_rfl) (by kernel_rfl) rfl rfl ?_
  go_simp
  have QX := Lib.hid (((MX.out.set 0 (.int .i64 x3) (by simp)).set 1 (.int .i64 y3) (by simp)).set 2 (.int .i64 z3) (by simp))
  have QG := Lib.hid (((MG.out.other (p := ⟨w.heap.size + 1, 0, none⟩) (by simp) (.int .i64 x3)).other (p := ⟨w.heap.size + 1, 1, none⟩) (by simp) (.int .i64 y3)).other (p := ⟨w.heap.size + 1, 2, none⟩) (by simp) (.int .i64 z3))
  have QR := Lib.hid (((MR.out.other (p := ⟨w.heap.size + 1, 0, none⟩) (by simp) (.int .i64 x3)).other (p := ⟨w.heap.size + 1, 1, none⟩) (by simp) (.int .i64 y3)).other (p := ⟨w.heap.size + 1, 2, none⟩) (by simp) (.int .i64 z3))
  have QB := Lib.hid (((MB.out.setCell (p := ⟨w.heap.size + 1, 0, none⟩) (by simp) (.int .i64 x3)).setCell (p := ⟨w.heap.size + 1, 1, none⟩) (by simp) (.int .i64 y3)).setCell (p := ⟨w.heap.size + 1, 2, none⟩) (by simp) (.int .i64 z3))
  clear l0 l1 l2 f0 f1 f2 MX MG MR MB hz1 hz2 hz3
  go_wp2
  rw [rounds_succ]
  refine wgen ?_
  intro V3 hW
  have KX := Lib.hid (show Bk V3 (w.heap.size + 1) #[.int .i64 x3, .int .i64 y3, .int .i64 z3] 43 by rw [hW]; exact QX.out)
  have KR := Lib.hid (show Bk V3 (w.heap.size + 1 + 1) #[.int .i64 0, .int .i64 0, .int .i64 0] 43 by rw [hW]; exact QR.out)
  have KB := Lib.hid (show Below w.heap.size w V3 by rw [hW]; exact QB.out)
  clear hW QX QG QR QB
  obtain ⟨l0, l1, l2⟩ := bk3t KX.out
  obtain ⟨j0, j1, j2⟩ := bk3t KR.out
  have f0 := KR.out.free 0
  have f1 := KR.out.free 1
  have f2 := KR.out.free 2
  go_wp2
  refine bodyPost_ret (v := .agg #[.int .i64 x3, .int .i64 y3, .int .i64 z3]) ?_ rfl ⟨rfl, (((KB.out.setCell (p := ⟨w.heap.size + 1 + 1, 0, none⟩) (by simp; omega) _).setCell (p := ⟨w.heap.size + 1 + 1, 1, none⟩) (by simp; omega) _).setCell (p := ⟨w.heap.size + 1 + 1, 2, none⟩) (by simp; omega) _)⟩
  simp [results, Tryz.results26, go_sem, j0, j1, j2]
end Go.Proofs.YtjijgagdaolkcaaGreat
