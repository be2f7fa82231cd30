/- The program's reduceAbove. -/
import Derived.Test.YteenheidomfpkaaLtR
import Derived.Test.YteenheidomfpkaaGrdC
import Derived.Test.YteenheidomfpkaaHerD
import Derived.Test.YteenheidomfpkaaMeet
import Derived.Test.YteenheidomfpkaaOrd
namespace Go.Proofs.Yteenheidomfpkaa
open Go.RowKit Go.Lib

/-- What reduceAbove leaves. -/
def RedP (k : Nat) (z : List (List Int)) (w : World) (e : Ending) (w' : World) : Prop :=
  ∃ y0 y1 y2 y3 y4 y5 y6 y7 y8 : Int, redsH k z k = [[y0, y1, y2], [y3, y4, y5], [y6, y7, y8]] ∧ e = .returned (.agg #[.int .i64 y0, .int .i64 y1, .int .i64 y2, .int .i64 y3, .int .i64 y4, .int .i64 y5, .int .i64 y6, .int .i64 y7, .int .i64 y8]) ∧ Below w.heap.size w w'
theorem red_three (a0 a1 a2 p0 p1 p2 q : Int) : lessL [a0, a1, a2] (scaleL [p0, p1, p2] q) = [a0 + -q * p0, a1 + -q * p1, a2 + -q * p2] := by
  simp only [lessL, scaleL, List.map_cons, List.map_nil, List.zipWith_cons_cons, List.zipWith_nil_left, List.cons.injEq, and_true]
  refine ⟨by grind, by grind, by grind⟩
theorem bd_three' {x y z K : Int} (h : Bd [x, y, z] K) : (-K ≤ x ∧ x ≤ K) ∧ (-K ≤ y ∧ y ≤ K) ∧ (-K ≤ z ∧ z ≤ K) := ⟨h 0 (by simp), h 1 (by simp), h 2 (by simp)⟩

set_option maxRecDepth 100000 in
set_option maxHeartbeats 8000000 in
theorem i_red0 (x0 x1 x2 x3 x4 x5 x6 x7 x8 : Int) (w : World) (hR : ∀ r, r < 0 → RedOk 3 0 r (redsH 0 [[x0, x1, x2], [x3, x4, x5], [x6, x7, x8]] r)) :
    Calls Try.prog 91 #[.agg #[.int .i64 x0, .int .i64 x1, .int .i64 x2, .int .i64 x3, .int .i64 x4, .int .i64 x5, .int .i64 x6, .int .i64 x7, .int .i64 x8], .int .i64 0] w (RedP 0 [[x0, x1, x2], [x3, x4, x5], [x6, x7, x8]] w) := by
  have HRO := Lib.hid hR
  clear hR
  have HZ0 := Lib.hid (show redsH 0 [[x0, x1, x2], [x3, x4, x5], [x6, x7, x8]] 0 = [[x0, x1, x2], [x3, x4, x5], [x6, x7, x8]] from rfl)
  go_enter Try.func91, Try.ntmps91
  go_wp2
  refine wp_loop_rounds 1 ?_
  rw [rounds_succ]
  go_wp2
  refine bodyPost_ret (v := .agg #[.int .i64 x0, .int .i64 x1, .int .i64 x2, .int .i64 x3, .int .i64 x4, .int .i64 x5, .int .i64 x6, .int .i64 x7, .int .i64 x8]) ?_ rfl ⟨_, _, _, _, _, _, _, _, _, HZ0.out, rfl, ((Below.refl _ _).alloc (Nat.le_refl _) _).alloc (by simp) _⟩
  simp [results, Try.results91, go_sem]

set_option maxRecDepth 100000 in
set_option maxHeartbeats 8000000 in
theorem i_red1 (x0 x1 x2 x3 x4 x5 x6 x7 x8 : Int) (w : World) (hR : ∀ r, r < 1 → RedOk 3 1 r (redsH 1 [[x0, x1, x2], [x3, x4, x5], [x6, x7, x8]] r)) :
    Calls Try.prog 91 #[.agg #[.int .i64 x0, .int .i64 x1, .int .i64 x2, .int .i64 x3, .int .i64 x4, .int .i64 x5, .int .i64 x6, .int .i64 x7, .int .i64 x8], .int .i64 1] w (RedP 1 [[x0, x1, x2], [x3, x4, x5], [x6, x7, x8]] w) := by
  have HRO := Lib.hid hR
  clear hR
  have HZ0 := Lib.hid (show redsH 1 [[x0, x1, x2], [x3, x4, x5], [x6, x7, x8]] 0 = [[x0, x1, x2], [x3, x4, x5], [x6, x7, x8]] from rfl)
  go_enter Try.func91, Try.ntmps91
  go_wp2
  refine wp_loop_rounds 2 ?_
  rw [rounds_succ]
  go_wp2
  obtain ⟨a, p, ha, hp, _, _, hpos, hba, hbp, hbs⟩ := HRO.out 0 (by omega)
  rw [HZ0.out] at ha hp
  obtain rfl : [x0, x1, x2] = a := Option.some.inj ha
  obtain rfl : [x3, x4, x5] = p := Option.some.inj hp
  have HB := Lib.hid (And.intro (bd_three' hba) (And.intro (bd_three' hbp) (bd_three' (show Bd [x3 * (x1 / x4), x4 * (x1 / x4), x5 * (x1 / x4)] 400000000000000000 from hbs))))
  have HPO := Lib.hid (show 0 < x4 from hpos)
  clear ha hp hpos hba hbp hbs
  refine wgen ?_
  intro W0 hW
  have HX := Lib.hid (show G9 W0 w.heap.size 43 x0 x1 x2 x3 x4 x5 x6 x7 x8 by rw [hW]; first | exact (G9.new w 43 x0 x1 x2 x3 x4 x5 x6 x7 x8).below ((Below.refl _ _).alloc (Nat.le_refl _) _) | exact (G9.new w 43 x0 x1 x2 x3 x4 x5 x6 x7 x8).below ((Below.refl _ _).alloc (Nat.le_refl _) _))
  have HR := Lib.hid (show G9 W0 (w.heap.size + 1) 43 0 0 0 0 0 0 0 0 0 by rw [hW]; first | exact G9.newAt (by simp) 43 0 0 0 0 0 0 0 0 0 | exact G9.newAt (by simp) 43 0 0 0 0 0 0 0 0 0)
  have HW := Lib.hid (show Below w.heap.size w W0 by rw [hW]; first | exact ((Below.refl w.heap.size w).alloc (Nat.le_refl _) _).alloc (by simp) _ | exact ((Below.refl w.heap.size w).alloc (Nat.le_refl _) _).alloc (by simp) _)
  clear hW
  have CT := Lib.hid (fun W => i_redat1 x0 x1 x2 x3 x4 x5 HPO.out (by have := HB.out.2.1.2.1; omega) (by have h1 := HB.out.1.1; have h2 := HB.out.1.2.1; have h3 := HB.out.1.2.2; omega) (by have h1 := HB.out.2.2.1; have h2 := HB.out.2.2.2.1; have h3 := HB.out.2.2.2.2; simp only [Int.neg_mul]; rw [Int.mul_comm (x1 / x4) x3, Int.mul_comm (x1 / x4) x4, Int.mul_comm (x1 / x4) x5]; omega) W)
  refine T_begin (z := fun k => 8 < k) (S := fun w' => w'.cell? ⟨w.heap.size, 0, none⟩ = some (.int .i64 (x0)) ∧ w'.cell? ⟨w.heap.size, 1, none⟩ = some (.int .i64 (x1)) ∧ w'.cell? ⟨w.heap.size, 2, none⟩ = some (.int .i64 (x2)) ∧ w'.cell? ⟨w.heap.size, 3, none⟩ = some (.int .i64 (x3)) ∧ w'.cell? ⟨w.heap.size, 4, none⟩ = some (.int .i64 (x4)) ∧ w'.cell? ⟨w.heap.size, 5, none⟩ = some (.int .i64 (x5)) ∧ w'.cell? ⟨w.heap.size, 6, none⟩ = some (.int .i64 (x6)) ∧ w'.cell? ⟨w.heap.size, 7, none⟩ = some (.int .i64 (x7)) ∧ w'.cell? ⟨w.heap.size, 8, none⟩ = some (.int .i64 (x8))) (by kernel_rfl) ?_
  show wpAnyT _ _ _ _ _ _ 11 _ _ _
  have hS0 := Lib.hid (show (fun w' => w'.cell? ⟨w.heap.size, 0, none⟩ = some (.int .i64 (x0)) ∧ w'.cell? ⟨w.heap.size, 1, none⟩ = some (.int .i64 (x1)) ∧ w'.cell? ⟨w.heap.size, 2, none⟩ = some (.int .i64 (x2)) ∧ w'.cell? ⟨w.heap.size, 3, none⟩ = some (.int .i64 (x3)) ∧ w'.cell? ⟨w.heap.size, 4, none⟩ = some (.int .i64 (x4)) ∧ w'.cell? ⟨w.heap.size, 5, none⟩ = some (.int .i64 (x5)) ∧ w'.cell? ⟨w.heap.size, 6, none⟩ = some (.int .i64 (x6)) ∧ w'.cell? ⟨w.heap.size, 7, none⟩ = some (.int .i64 (x7)) ∧ w'.cell? ⟨w.heap.size, 8, none⟩ = some (.int .i64 (x8))) W0.drew from HX.out.cells9D)
  refine T_take (i := 0) (v := .int .i64 0) rfl (by kernel_rfl) (by kernel_rfl) (by kernel_rfl) (by kernel_rfl) (fun _ _ _ h => h) hS0.out rfl (fun w' hS' => by (try dsimp only at hS'); go_simp) ?_
  try simp only [Act.put, List.setIfInBounds_toArray, List.set_cons_zero, List.set_cons_succ]
  refine T_take (i := 1) (v := .int .i64 0) rfl (by kernel_rfl) (by kernel_rfl) (by kernel_rfl) (by kernel_rfl) (fun _ _ _ h => h) hS0.out rfl (fun w' hS' => by (try dsimp only at hS'); go_simp) ?_
  try simp only [Act.put, List.setIfInBounds_toArray, List.set_cons_zero, List.set_cons_succ]
  refine T_take (i := 2) (v := .pointer (some ⟨w.heap.size, 0, none⟩)) rfl (by kernel_rfl) (by kernel_rfl) (by kernel_rfl) (by kernel_rfl) (fun _ _ _ h => h) hS0.out rfl (fun w' hS' => by (try dsimp only at hS'); go_simp) ?_
  try simp only [Act.put, List.setIfInBounds_toArray, List.set_cons_zero, List.set_cons_succ]
  refine T_take (i := 3) (v := .agg #[.int .i64 x0, .int .i64 x1, .int .i64 x2]) rfl (by kernel_rfl) (by kernel_rfl) (by kernel_rfl) (by kernel_rfl) (fun _ _ _ h => h) hS0.out rfl (fun w' hS' => by (try dsimp only at hS'); go_simp) ?_
  try simp only [Act.put, List.setIfInBounds_toArray, List.set_cons_zero, List.set_cons_succ]
  refine T_take (i := 4) (v := .int .i64 1) rfl (by kernel_rfl) (by kernel_rfl) (by kernel_rfl) (by kernel_rfl) (fun _ _ _ h => h) hS0.out rfl (fun w' hS' => by (try dsimp only at hS'); go_simp) ?_
  try simp only [Act.put, List.setIfInBounds_toArray, List.set_cons_zero, List.set_cons_succ]
  refine T_take (i := 5) (v := .int .i64 1) rfl (by kernel_rfl) (by kernel_rfl) (by kernel_rfl) (by kernel_rfl) (fun _ _ _ h => h) hS0.out rfl (fun w' hS' => by (try dsimp only at hS'); go_simp) ?_
  try simp only [Act.put, List.setIfInBounds_toArray, List.set_cons_zero, List.set_cons_succ]
  refine T_take (i := 6) (v := .pointer (some ⟨w.heap.size, 3, none⟩)) rfl (by kernel_rfl) (by kernel_rfl) (by kernel_rfl) (by kernel_rfl) (fun _ _ _ h => h) hS0.out rfl (fun w' hS' => by (try dsimp only at hS'); go_simp) ?_
  try simp only [Act.put, List.setIfInBounds_toArray, List.set_cons_zero, List.set_cons_succ]
  refine T_take (i := 7) (v := .agg #[.int .i64 x3, .int .i64 x4, .int .i64 x5]) rfl (by kernel_rfl) (by kernel_rfl) (by kernel_rfl) (by kernel_rfl) (fun _ _ _ h => h) hS0.out rfl (fun w' hS' => by (try dsimp only at hS'); go_simp) ?_
  try simp only [Act.put, List.setIfInBounds_toArray, List.set_cons_zero, List.set_cons_succ]
  refine T_step (i := 8) rfl (by kernel_rfl) rfl rfl ?_
  intro K hK
  go_simp
  refine (CT.out _).mono ?_
  rintro e V0 ⟨rfl, hb⟩
  have KX := Lib.hid (HX.out.belowE hb)
  have KR := Lib.hid (HR.out.belowE hb)
  have KB := Lib.hid ((HW.out.drew).trans (hb.mono HW.out.size))
  clear hb
  refine hK.out _ _ KX.out.cells9 ?_
  clear hK K
  try simp only [Act.put, List.setIfInBounds_toArray, List.set_cons_zero, List.set_cons_succ]
  refine T_anytake (i := 9) (v := .pointer (some ⟨w.heap.size, 0, none⟩)) rfl (by kernel_rfl) (by kernel_rfl) (by kernel_rfl) rfl (fun _ _ _ h => h) rfl (fun w' => by go_simp) ?_
  try simp only [Act.put, List.setIfInBounds_toArray, List.set_cons_zero, List.set_cons_succ]
  obtain ⟨c0, c1, c2⟩ := KX.out.cells.1
  have f0 := KX.out.frozen 0
  have f1 := KX.out.frozen 1
  have f2 := KX.out.frozen 2
  refine T_last (i := 10) rfl (by kernel_rfl) (by kernel_rfl) rfl rfl ?_
  go_simp
  have QX := Lib.hid (KX.out.set0 (x0 + -(x1 / x4) * x3) (x1 + -(x1 / x4) * x4) (x2 + -(x1 / x4) * x5))
  have QR := Lib.hid ((((KR.out.other (p := ⟨w.heap.size, 0, none⟩) (Nat.ne_of_lt (Nat.lt_succ_self _)) (.int .i64 (x0 + -(x1 / x4) * x3))).other (p := ⟨w.heap.size, 1, none⟩) (Nat.ne_of_lt (Nat.lt_succ_self _)) (.int .i64 (x1 + -(x1 / x4) * x4))).other (p := ⟨w.heap.size, 2, none⟩) (Nat.ne_of_lt (Nat.lt_succ_self _)) (.int .i64 (x2 + -(x1 / x4) * x5))))
  have QB := Lib.hid ((((KB.out.setCell (p := ⟨w.heap.size, 0, none⟩) (Nat.le_refl _) (.int .i64 (x0 + -(x1 / x4) * x3))).setCell (p := ⟨w.heap.size, 1, none⟩) (Nat.le_refl _) (.int .i64 (x1 + -(x1 / x4) * x4))).setCell (p := ⟨w.heap.size, 2, none⟩) (Nat.le_refl _) (.int .i64 (x2 + -(x1 / x4) * x5))))
  have HZ1 := Lib.hid (show redsH 1 [[x0, x1, x2], [x3, x4, x5], [x6, x7, x8]] 1 = [[x0 + -(x1 / x4) * x3, x1 + -(x1 / x4) * x4, x2 + -(x1 / x4) * x5], [x3, x4, x5], [x6, x7, x8]] by
    show redH 1 0 (redsH 1 [[x0, x1, x2], [x3, x4, x5], [x6, x7, x8]] 0) = _
    rw [HZ0.out]
    show ([[x0, x1, x2], [x3, x4, x5], [x6, x7, x8]] : List (List Int)).set 0 (lessL [x0, x1, x2] (scaleL [x3, x4, x5] (x1 / x4))) = _
    rw [red_three]
    rfl)
  clear c0 c1 c2 f0 f1 f2 HX HR HW CT HB HPO hS0
  go_wp2
  rw [rounds_succ]
  obtain ⟨⟨l0, l1, l2⟩, ⟨l3, l4, l5⟩, l6, l7, l8⟩ := KX.out.cells
  obtain ⟨⟨j0, j1, j2⟩, ⟨j3, j4, j5⟩, j6, j7, j8⟩ := KR.out.cells
  have f0 := KR.out.frozen 0
  have f1 := KR.out.frozen 1
  have f2 := KR.out.frozen 2
  have f3 := KR.out.frozen 3
  have f4 := KR.out.frozen 4
  have f5 := KR.out.frozen 5
  have f6 := KR.out.frozen 6
  have f7 := KR.out.frozen 7
  have f8 := KR.out.frozen 8
  go_wp2
  refine bodyPost_ret (v := .agg #[.int .i64 (x0 + -(x1 / x4) * x3), .int .i64 (x1 + -(x1 / x4) * x4), .int .i64 (x2 + -(x1 / x4) * x5), .int .i64 x3, .int .i64 x4, .int .i64 x5, .int .i64 x6, .int .i64 x7, .int .i64 x8]) ?_ rfl ⟨_, _, _, _, _, _, _, _, _, HZ1.out, rfl, ((((((((((((KB.out.setCell (p := ⟨w.heap.size, 0, none⟩) (Nat.le_refl _) _).setCell (p := ⟨w.heap.size, 1, none⟩) (Nat.le_refl _) _).setCell (p := ⟨w.heap.size, 2, none⟩) (Nat.le_refl _) _).setCell (p := ⟨w.heap.size + 1, 0, none⟩) (Nat.le_succ _) _).setCell (p := ⟨w.heap.size + 1, 1, none⟩) (Nat.le_succ _) _).setCell (p := ⟨w.heap.size + 1, 2, none⟩) (Nat.le_succ _) _).setCell (p := ⟨w.heap.size + 1, 3, none⟩) (Nat.le_succ _) _).setCell (p := ⟨w.heap.size + 1, 4, none⟩) (Nat.le_succ _) _).setCell (p := ⟨w.heap.size + 1, 5, none⟩) (Nat.le_succ _) _).setCell (p := ⟨w.heap.size + 1, 6, none⟩) (Nat.le_succ _) _).setCell (p := ⟨w.heap.size + 1, 7, none⟩) (Nat.le_succ _) _).setCell (p := ⟨w.heap.size + 1, 8, none⟩) (Nat.le_succ _) _)⟩
  simp [results, Try.results91, go_sem, j0, j1, j2, j3, j4, j5, j6, j7, j8]

set_option maxRecDepth 100000 in
set_option maxHeartbeats 8000000 in
theorem i_red2 (x0 x1 x2 x3 x4 x5 x6 x7 x8 : Int) (w : World) (hR : ∀ r, r < 2 → RedOk 3 2 r (redsH 2 [[x0, x1, x2], [x3, x4, x5], [x6, x7, x8]] r)) :
    Calls Try.prog 91 #[.agg #[.int .i64 x0, .int .i64 x1, .int .i64 x2, .int .i64 x3, .int .i64 x4, .int .i64 x5, .int .i64 x6, .int .i64 x7, .int .i64 x8], .int .i64 2] w (RedP 2 [[x0, x1, x2], [x3, x4, x5], [x6, x7, x8]] w) := by
  have HRO := Lib.hid hR
  clear hR
  have HZ0 := Lib.hid (show redsH 2 [[x0, x1, x2], [x3, x4, x5], [x6, x7, x8]] 0 = [[x0, x1, x2], [x3, x4, x5], [x6, x7, x8]] from rfl)
  go_enter Try.func91, Try.ntmps91
  go_wp2
  refine wp_loop_rounds 3 ?_
  rw [rounds_succ]
  go_wp2
  obtain ⟨a, p, ha, hp, _, _, hpos, hba, hbp, hbs⟩ := HRO.out 0 (by omega)
  rw [HZ0.out] at ha hp
  obtain rfl : [x0, x1, x2] = a := Option.some.inj ha
  obtain rfl : [x6, x7, x8] = p := Option.some.inj hp
  have HB := Lib.hid (And.intro (bd_three' hba) (And.intro (bd_three' hbp) (bd_three' (show Bd [x6 * (x2 / x8), x7 * (x2 / x8), x8 * (x2 / x8)] 400000000000000000 from hbs))))
  have HPO := Lib.hid (show 0 < x8 from hpos)
  clear ha hp hpos hba hbp hbs
  refine wgen ?_
  intro W0 hW
  have HX := Lib.hid (show G9 W0 w.heap.size 43 x0 x1 x2 x3 x4 x5 x6 x7 x8 by rw [hW]; first | exact (G9.new w 43 x0 x1 x2 x3 x4 x5 x6 x7 x8).below ((Below.refl _ _).alloc (Nat.le_refl _) _) | exact (G9.new w 43 x0 x1 x2 x3 x4 x5 x6 x7 x8).below ((Below.refl _ _).alloc (Nat.le_refl _) _))
  have HR := Lib.hid (show G9 W0 (w.heap.size + 1) 43 0 0 0 0 0 0 0 0 0 by rw [hW]; first | exact G9.newAt (by simp) 43 0 0 0 0 0 0 0 0 0 | exact G9.newAt (by simp) 43 0 0 0 0 0 0 0 0 0)
  have HW := Lib.hid (show Below w.heap.size w W0 by rw [hW]; first | exact ((Below.refl w.heap.size w).alloc (Nat.le_refl _) _).alloc (by simp) _ | exact ((Below.refl w.heap.size w).alloc (Nat.le_refl _) _).alloc (by simp) _)
  clear hW
  have CT := Lib.hid (fun W => i_redat2 x0 x1 x2 x6 x7 x8 HPO.out (by have := HB.out.2.1.2.2; omega) (by have h1 := HB.out.1.1; have h2 := HB.out.1.2.1; have h3 := HB.out.1.2.2; omega) (by have h1 := HB.out.2.2.1; have h2 := HB.out.2.2.2.1; have h3 := HB.out.2.2.2.2; simp only [Int.neg_mul]; rw [Int.mul_comm (x2 / x8) x6, Int.mul_comm (x2 / x8) x7, Int.mul_comm (x2 / x8) x8]; omega) W)
  refine T_begin (z := fun k => 8 < k) (S := fun w' => w'.cell? ⟨w.heap.size, 0, none⟩ = some (.int .i64 (x0)) ∧ w'.cell? ⟨w.heap.size, 1, none⟩ = some (.int .i64 (x1)) ∧ w'.cell? ⟨w.heap.size, 2, none⟩ = some (.int .i64 (x2)) ∧ w'.cell? ⟨w.heap.size, 3, none⟩ = some (.int .i64 (x3)) ∧ w'.cell? ⟨w.heap.size, 4, none⟩ = some (.int .i64 (x4)) ∧ w'.cell? ⟨w.heap.size, 5, none⟩ = some (.int .i64 (x5)) ∧ w'.cell? ⟨w.heap.size, 6, none⟩ = some (.int .i64 (x6)) ∧ w'.cell? ⟨w.heap.size, 7, none⟩ = some (.int .i64 (x7)) ∧ w'.cell? ⟨w.heap.size, 8, none⟩ = some (.int .i64 (x8))) (by kernel_rfl) ?_
  show wpAnyT _ _ _ _ _ _ 11 _ _ _
  have hS0 := Lib.hid (show (fun w' => w'.cell? ⟨w.heap.size, 0, none⟩ = some (.int .i64 (x0)) ∧ w'.cell? ⟨w.heap.size, 1, none⟩ = some (.int .i64 (x1)) ∧ w'.cell? ⟨w.heap.size, 2, none⟩ = some (.int .i64 (x2)) ∧ w'.cell? ⟨w.heap.size, 3, none⟩ = some (.int .i64 (x3)) ∧ w'.cell? ⟨w.heap.size, 4, none⟩ = some (.int .i64 (x4)) ∧ w'.cell? ⟨w.heap.size, 5, none⟩ = some (.int .i64 (x5)) ∧ w'.cell? ⟨w.heap.size, 6, none⟩ = some (.int .i64 (x6)) ∧ w'.cell? ⟨w.heap.size, 7, none⟩ = some (.int .i64 (x7)) ∧ w'.cell? ⟨w.heap.size, 8, none⟩ = some (.int .i64 (x8))) W0.drew from HX.out.cells9D)
  refine T_take (i := 0) (v := .int .i64 0) rfl (by kernel_rfl) (by kernel_rfl) (by kernel_rfl) (by kernel_rfl) (fun _ _ _ h => h) hS0.out rfl (fun w' hS' => by (try dsimp only at hS'); go_simp) ?_
  try simp only [Act.put, List.setIfInBounds_toArray, List.set_cons_zero, List.set_cons_succ]
  refine T_take (i := 1) (v := .int .i64 0) rfl (by kernel_rfl) (by kernel_rfl) (by kernel_rfl) (by kernel_rfl) (fun _ _ _ h => h) hS0.out rfl (fun w' hS' => by (try dsimp only at hS'); go_simp) ?_
  try simp only [Act.put, List.setIfInBounds_toArray, List.set_cons_zero, List.set_cons_succ]
  refine T_take (i := 2) (v := .pointer (some ⟨w.heap.size, 0, none⟩)) rfl (by kernel_rfl) (by kernel_rfl) (by kernel_rfl) (by kernel_rfl) (fun _ _ _ h => h) hS0.out rfl (fun w' hS' => by (try dsimp only at hS'); go_simp) ?_
  try simp only [Act.put, List.setIfInBounds_toArray, List.set_cons_zero, List.set_cons_succ]
  refine T_take (i := 3) (v := .agg #[.int .i64 x0, .int .i64 x1, .int .i64 x2]) rfl (by kernel_rfl) (by kernel_rfl) (by kernel_rfl) (by kernel_rfl) (fun _ _ _ h => h) hS0.out rfl (fun w' hS' => by (try dsimp only at hS'); go_simp) ?_
  try simp only [Act.put, List.setIfInBounds_toArray, List.set_cons_zero, List.set_cons_succ]
  refine T_take (i := 4) (v := .int .i64 2) rfl (by kernel_rfl) (by kernel_rfl) (by kernel_rfl) (by kernel_rfl) (fun _ _ _ h => h) hS0.out rfl (fun w' hS' => by (try dsimp only at hS'); go_simp) ?_
  try simp only [Act.put, List.setIfInBounds_toArray, List.set_cons_zero, List.set_cons_succ]
  refine T_take (i := 5) (v := .int .i64 2) rfl (by kernel_rfl) (by kernel_rfl) (by kernel_rfl) (by kernel_rfl) (fun _ _ _ h => h) hS0.out rfl (fun w' hS' => by (try dsimp only at hS'); go_simp) ?_
  try simp only [Act.put, List.setIfInBounds_toArray, List.set_cons_zero, List.set_cons_succ]
  refine T_take (i := 6) (v := .pointer (some ⟨w.heap.size, 6, none⟩)) rfl (by kernel_rfl) (by kernel_rfl) (by kernel_rfl) (by kernel_rfl) (fun _ _ _ h => h) hS0.out rfl (fun w' hS' => by (try dsimp only at hS'); go_simp) ?_
  try simp only [Act.put, List.setIfInBounds_toArray, List.set_cons_zero, List.set_cons_succ]
  refine T_take (i := 7) (v := .agg #[.int .i64 x6, .int .i64 x7, .int .i64 x8]) rfl (by kernel_rfl) (by kernel_rfl) (by kernel_rfl) (by kernel_rfl) (fun _ _ _ h => h) hS0.out rfl (fun w' hS' => by (try dsimp only at hS'); go_simp) ?_
  try simp only [Act.put, List.setIfInBounds_toArray, List.set_cons_zero, List.set_cons_succ]
  refine T_step (i := 8) rfl (by kernel_rfl) rfl rfl ?_
  intro K hK
  go_simp
  refine (CT.out _).mono ?_
  rintro e V0 ⟨rfl, hb⟩
  have KX := Lib.hid (HX.out.belowE hb)
  have KR := Lib.hid (HR.out.belowE hb)
  have KB := Lib.hid ((HW.out.drew).trans (hb.mono HW.out.size))
  clear hb
  refine hK.out _ _ KX.out.cells9 ?_
  clear hK K
  try simp only [Act.put, List.setIfInBounds_toArray, List.set_cons_zero, List.set_cons_succ]
  refine T_anytake (i := 9) (v := .pointer (some ⟨w.heap.size, 0, none⟩)) rfl (by kernel_rfl) (by kernel_rfl) (by kernel_rfl) rfl (fun _ _ _ h => h) rfl (fun w' => by go_simp) ?_
  try simp only [Act.put, List.setIfInBounds_toArray, List.set_cons_zero, List.set_cons_succ]
  obtain ⟨c0, c1, c2⟩ := KX.out.cells.1
  have f0 := KX.out.frozen 0
  have f1 := KX.out.frozen 1
  have f2 := KX.out.frozen 2
  refine T_last (i := 10) rfl (by kernel_rfl) (by kernel_rfl) rfl rfl ?_
  go_simp
  have QX := Lib.hid (KX.out.set0 (x0 + -(x2 / x8) * x6) (x1 + -(x2 / x8) * x7) (x2 + -(x2 / x8) * x8))
  have QR := Lib.hid ((((KR.out.other (p := ⟨w.heap.size, 0, none⟩) (Nat.ne_of_lt (Nat.lt_succ_self _)) (.int .i64 (x0 + -(x2 / x8) * x6))).other (p := ⟨w.heap.size, 1, none⟩) (Nat.ne_of_lt (Nat.lt_succ_self _)) (.int .i64 (x1 + -(x2 / x8) * x7))).other (p := ⟨w.heap.size, 2, none⟩) (Nat.ne_of_lt (Nat.lt_succ_self _)) (.int .i64 (x2 + -(x2 / x8) * x8))))
  have QB := Lib.hid ((((KB.out.setCell (p := ⟨w.heap.size, 0, none⟩) (Nat.le_refl _) (.int .i64 (x0 + -(x2 / x8) * x6))).setCell (p := ⟨w.heap.size, 1, none⟩) (Nat.le_refl _) (.int .i64 (x1 + -(x2 / x8) * x7))).setCell (p := ⟨w.heap.size, 2, none⟩) (Nat.le_refl _) (.int .i64 (x2 + -(x2 / x8) * x8))))
  have HZ1 := Lib.hid (show redsH 2 [[x0, x1, x2], [x3, x4, x5], [x6, x7, x8]] 1 = [[x0 + -(x2 / x8) * x6, x1 + -(x2 / x8) * x7, x2 + -(x2 / x8) * x8], [x3, x4, x5], [x6, x7, x8]] by
    show redH 2 0 (redsH 2 [[x0, x1, x2], [x3, x4, x5], [x6, x7, x8]] 0) = _
    rw [HZ0.out]
    show ([[x0, x1, x2], [x3, x4, x5], [x6, x7, x8]] : List (List Int)).set 0 (lessL [x0, x1, x2] (scaleL [x6, x7, x8] (x2 / x8))) = _
    rw [red_three]
    rfl)
  clear c0 c1 c2 f0 f1 f2 HX HR HW CT HB HPO hS0
  go_wp2
  rw [rounds_succ]
  go_wp2
  obtain ⟨a, p, ha, hp, _, _, hpos, hba, hbp, hbs⟩ := HRO.out 1 (by omega)
  rw [HZ1.out] at ha hp
  obtain rfl : [x3, x4, x5] = a := Option.some.inj ha
  obtain rfl : [x6, x7, x8] = p := Option.some.inj hp
  have HB := Lib.hid (And.intro (bd_three' hba) (And.intro (bd_three' hbp) (bd_three' (show Bd [x6 * (x5 / x8), x7 * (x5 / x8), x8 * (x5 / x8)] 400000000000000000 from hbs))))
  have HPO := Lib.hid (show 0 < x8 from hpos)
  clear ha hp hpos hba hbp hbs
  refine wgen ?_
  intro W1 hW
  have HX := Lib.hid (show G9 W1 w.heap.size 43 (x0 + -(x2 / x8) * x6) (x1 + -(x2 / x8) * x7) (x2 + -(x2 / x8) * x8) x3 x4 x5 x6 x7 x8 by rw [hW]; first | exact QX.out.drewn | exact QX.out)
  have HR := Lib.hid (show G9 W1 (w.heap.size + 1) 43 0 0 0 0 0 0 0 0 0 by rw [hW]; first | exact QR.out.drewn | exact QR.out)
  have HW := Lib.hid (show Below w.heap.size w W1 by rw [hW]; first | exact QB.out.drew | exact QB.out)
  clear hW QX QR QB
  have CT := Lib.hid (fun W => i_redat2 x3 x4 x5 x6 x7 x8 HPO.out (by have := HB.out.2.1.2.2; omega) (by have h1 := HB.out.1.1; have h2 := HB.out.1.2.1; have h3 := HB.out.1.2.2; omega) (by have h1 := HB.out.2.2.1; have h2 := HB.out.2.2.2.1; have h3 := HB.out.2.2.2.2; simp only [Int.neg_mul]; rw [Int.mul_comm (x5 / x8) x6, Int.mul_comm (x5 / x8) x7, Int.mul_comm (x5 / x8) x8]; omega) W)
  refine T_begin (z := fun k => 8 < k) (S := fun w' => w'.cell? ⟨w.heap.size, 0, none⟩ = some (.int .i64 (x0 + -(x2 / x8) * x6)) ∧ w'.cell? ⟨w.heap.size, 1, none⟩ = some (.int .i64 (x1 + -(x2 / x8) * x7)) ∧ w'.cell? ⟨w.heap.size, 2, none⟩ = some (.int .i64 (x2 + -(x2 / x8) * x8)) ∧ w'.cell? ⟨w.heap.size, 3, none⟩ = some (.int .i64 (x3)) ∧ w'.cell? ⟨w.heap.size, 4, none⟩ = some (.int .i64 (x4)) ∧ w'.cell? ⟨w.heap.size, 5, none⟩ = some (.int .i64 (x5)) ∧ w'.cell? ⟨w.heap.size, 6, none⟩ = some (.int .i64 (x6)) ∧ w'.cell? ⟨w.heap.size, 7, none⟩ = some (.int .i64 (x7)) ∧ w'.cell? ⟨w.heap.size, 8, none⟩ = some (.int .i64 (x8))) (by kernel_rfl) ?_
  show wpAnyT _ _ _ _ _ _ 11 _ _ _
  have hS0 := Lib.hid (show (fun w' => w'.cell? ⟨w.heap.size, 0, none⟩ = some (.int .i64 (x0 + -(x2 / x8) * x6)) ∧ w'.cell? ⟨w.heap.size, 1, none⟩ = some (.int .i64 (x1 + -(x2 / x8) * x7)) ∧ w'.cell? ⟨w.heap.size, 2, none⟩ = some (.int .i64 (x2 + -(x2 / x8) * x8)) ∧ w'.cell? ⟨w.heap.size, 3, none⟩ = some (.int .i64 (x3)) ∧ w'.cell? ⟨w.heap.size, 4, none⟩ = some (.int .i64 (x4)) ∧ w'.cell? ⟨w.heap.size, 5, none⟩ = some (.int .i64 (x5)) ∧ w'.cell? ⟨w.heap.size, 6, none⟩ = some (.int .i64 (x6)) ∧ w'.cell? ⟨w.heap.size, 7, none⟩ = some (.int .i64 (x7)) ∧ w'.cell? ⟨w.heap.size, 8, none⟩ = some (.int .i64 (x8))) W1.drew from HX.out.cells9D)
  refine T_take (i := 0) (v := .int .i64 1) rfl (by kernel_rfl) (by kernel_rfl) (by kernel_rfl) (by kernel_rfl) (fun _ _ _ h => h) hS0.out rfl (fun w' hS' => by (try dsimp only at hS'); go_simp) ?_
  try simp only [Act.put, List.setIfInBounds_toArray, List.set_cons_zero, List.set_cons_succ]
  refine T_take (i := 1) (v := .int .i64 1) rfl (by kernel_rfl) (by kernel_rfl) (by kernel_rfl) (by kernel_rfl) (fun _ _ _ h => h) hS0.out rfl (fun w' hS' => by (try dsimp only at hS'); go_simp) ?_
  try simp only [Act.put, List.setIfInBounds_toArray, List.set_cons_zero, List.set_cons_succ]
  refine T_take (i := 2) (v := .pointer (some ⟨w.heap.size, 3, none⟩)) rfl (by kernel_rfl) (by kernel_rfl) (by kernel_rfl) (by kernel_rfl) (fun _ _ _ h => h) hS0.out rfl (fun w' hS' => by (try dsimp only at hS'); go_simp) ?_
  try simp only [Act.put, List.setIfInBounds_toArray, List.set_cons_zero, List.set_cons_succ]
  refine T_take (i := 3) (v := .agg #[.int .i64 x3, .int .i64 x4, .int .i64 x5]) rfl (by kernel_rfl) (by kernel_rfl) (by kernel_rfl) (by kernel_rfl) (fun _ _ _ h => h) hS0.out rfl (fun w' hS' => by (try dsimp only at hS'); go_simp) ?_
  try simp only [Act.put, List.setIfInBounds_toArray, List.set_cons_zero, List.set_cons_succ]
  refine T_take (i := 4) (v := .int .i64 2) rfl (by kernel_rfl) (by kernel_rfl) (by kernel_rfl) (by kernel_rfl) (fun _ _ _ h => h) hS0.out rfl (fun w' hS' => by (try dsimp only at hS'); go_simp) ?_
  try simp only [Act.put, List.setIfInBounds_toArray, List.set_cons_zero, List.set_cons_succ]
  refine T_take (i := 5) (v := .int .i64 2) rfl (by kernel_rfl) (by kernel_rfl) (by kernel_rfl) (by kernel_rfl) (fun _ _ _ h => h) hS0.out rfl (fun w' hS' => by (try dsimp only at hS'); go_simp) ?_
  try simp only [Act.put, List.setIfInBounds_toArray, List.set_cons_zero, List.set_cons_succ]
  refine T_take (i := 6) (v := .pointer (some ⟨w.heap.size, 6, none⟩)) rfl (by kernel_rfl) (by kernel_rfl) (by kernel_rfl) (by kernel_rfl) (fun _ _ _ h => h) hS0.out rfl (fun w' hS' => by (try dsimp only at hS'); go_simp) ?_
  try simp only [Act.put, List.setIfInBounds_toArray, List.set_cons_zero, List.set_cons_succ]
  refine T_take (i := 7) (v := .agg #[.int .i64 x6, .int .i64 x7, .int .i64 x8]) rfl (by kernel_rfl) (by kernel_rfl) (by kernel_rfl) (by kernel_rfl) (fun _ _ _ h => h) hS0.out rfl (fun w' hS' => by (try dsimp only at hS'); go_simp) ?_
  try simp only [Act.put, List.setIfInBounds_toArray, List.set_cons_zero, List.set_cons_succ]
  refine T_step (i := 8) rfl (by kernel_rfl) rfl rfl ?_
  intro K hK
  go_simp
  refine (CT.out _).mono ?_
  rintro e V1 ⟨rfl, hb⟩
  have KX := Lib.hid (HX.out.belowE hb)
  have KR := Lib.hid (HR.out.belowE hb)
  have KB := Lib.hid ((HW.out.drew).trans (hb.mono HW.out.size))
  clear hb
  refine hK.out _ _ KX.out.cells9 ?_
  clear hK K
  try simp only [Act.put, List.setIfInBounds_toArray, List.set_cons_zero, List.set_cons_succ]
  refine T_anytake (i := 9) (v := .pointer (some ⟨w.heap.size, 3, none⟩)) rfl (by kernel_rfl) (by kernel_rfl) (by kernel_rfl) rfl (fun _ _ _ h => h) rfl (fun w' => by go_simp) ?_
  try simp only [Act.put, List.setIfInBounds_toArray, List.set_cons_zero, List.set_cons_succ]
  obtain ⟨c0, c1, c2⟩ := KX.out.cells.2.1
  have f0 := KX.out.frozen 3
  have f1 := KX.out.frozen 4
  have f2 := KX.out.frozen 5
  refine T_last (i := 10) rfl (by kernel_rfl) (by kernel_rfl) rfl rfl ?_
  go_simp
  have QX := Lib.hid (KX.out.set1 (x3 + -(x5 / x8) * x6) (x4 + -(x5 / x8) * x7) (x5 + -(x5 / x8) * x8))
  have QR := Lib.hid ((((KR.out.other (p := ⟨w.heap.size, 3, none⟩) (Nat.ne_of_lt (Nat.lt_succ_self _)) (.int .i64 (x3 + -(x5 / x8) * x6))).other (p := ⟨w.heap.size, 4, none⟩) (Nat.ne_of_lt (Nat.lt_succ_self _)) (.int .i64 (x4 + -(x5 / x8) * x7))).other (p := ⟨w.heap.size, 5, none⟩) (Nat.ne_of_lt (Nat.lt_succ_self _)) (.int .i64 (x5 + -(x5 / x8) * x8))))
  have QB := Lib.hid ((((KB.out.setCell (p := ⟨w.heap.size, 3, none⟩) (Nat.le_refl _) (.int .i64 (x3 + -(x5 / x8) * x6))).setCell (p := ⟨w.heap.size, 4, none⟩) (Nat.le_refl _) (.int .i64 (x4 + -(x5 / x8) * x7))).setCell (p := ⟨w.heap.size, 5, none⟩) (Nat.le_refl _) (.int .i64 (x5 + -(x5 / x8) * x8))))
  have HZ2 := Lib.hid (show redsH 2 [[x0, x1, x2], [x3, x4, x5], [x6, x7, x8]] 2 = [[x0 + -(x2 / x8) * x6, x1 + -(x2 / x8) * x7, x2 + -(x2 / x8) * x8], [x3 + -(x5 / x8) * x6, x4 + -(x5 / x8) * x7, x5 + -(x5 / x8) * x8], [x6, x7, x8]] by
    show redH 2 1 (redsH 2 [[x0, x1, x2], [x3, x4, x5], [x6, x7, x8]] 1) = _
    rw [HZ1.out]
    show ([[x0 + -(x2 / x8) * x6, x1 + -(x2 / x8) * x7, x2 + -(x2 / x8) * x8], [x3, x4, x5], [x6, x7, x8]] : List (List Int)).set 1 (lessL [x3, x4, x5] (scaleL [x6, x7, x8] (x5 / x8))) = _
    rw [red_three]
    rfl)
  clear c0 c1 c2 f0 f1 f2 HX HR HW CT HB HPO hS0
  go_wp2
  rw [rounds_succ]
  obtain ⟨⟨l0, l1, l2⟩, ⟨l3, l4, l5⟩, l6, l7, l8⟩ := KX.out.cells
  obtain ⟨⟨j0, j1, j2⟩, ⟨j3, j4, j5⟩, j6, j7, j8⟩ := KR.out.cells
  have f0 := KR.out.frozen 0
  have f1 := KR.out.frozen 1
  have f2 := KR.out.frozen 2
  have f3 := KR.out.frozen 3
  have f4 := KR.out.frozen 4
  have f5 := KR.out.frozen 5
  have f6 := KR.out.frozen 6
  have f7 := KR.out.frozen 7
  have f8 := KR.out.frozen 8
  go_wp2
  refine bodyPost_ret (v := .agg #[.int .i64 (x0 + -(x2 / x8) * x6), .int .i64 (x1 + -(x2 / x8) * x7), .int .i64 (x2 + -(x2 / x8) * x8), .int .i64 (x3 + -(x5 / x8) * x6), .int .i64 (x4 + -(x5 / x8) * x7), .int .i64 (x5 + -(x5 / x8) * x8), .int .i64 x6, .int .i64 x7, .int .i64 x8]) ?_ rfl ⟨_, _, _, _, _, _, _, _, _, HZ2.out, rfl, ((((((((((((KB.out.setCell (p := ⟨w.heap.size, 3, none⟩) (Nat.le_refl _) _).setCell (p := ⟨w.heap.size, 4, none⟩) (Nat.le_refl _) _).setCell (p := ⟨w.heap.size, 5, none⟩) (Nat.le_refl _) _).setCell (p := ⟨w.heap.size + 1, 0, none⟩) (Nat.le_succ _) _).setCell (p := ⟨w.heap.size + 1, 1, none⟩) (Nat.le_succ _) _).setCell (p := ⟨w.heap.size + 1, 2, none⟩) (Nat.le_succ _) _).setCell (p := ⟨w.heap.size + 1, 3, none⟩) (Nat.le_succ _) _).setCell (p := ⟨w.heap.size + 1, 4, none⟩) (Nat.le_succ _) _).setCell (p := ⟨w.heap.size + 1, 5, none⟩) (Nat.le_succ _) _).setCell (p := ⟨w.heap.size + 1, 6, none⟩) (Nat.le_succ _) _).setCell (p := ⟨w.heap.size + 1, 7, none⟩) (Nat.le_succ _) _).setCell (p := ⟨w.heap.size + 1, 8, none⟩) (Nat.le_succ _) _)⟩
  simp [results, Try.results91, go_sem, j0, j1, j2, j3, j4, j5, j6, j7, j8]
end Go.Proofs.Yteenheidomfpkaa
