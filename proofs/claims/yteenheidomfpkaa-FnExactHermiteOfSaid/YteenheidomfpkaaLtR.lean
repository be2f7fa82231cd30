/- The program's reduceAt. -/
import Derived.Test.YteenheidomfpkaaGrdQ
import Derived.Test.YteenheidomfpkaaGrdC
import Derived.Test.YteenheidomfpkaaHerD
import Derived.Test.YteenheidomfpkaaBk
import Derived.Test.YteenheidomfpkaaMeet
import Derived.Test.YteenheidomfpkaaOrd
namespace Go.Proofs.Yteenheidomfpkaa
open Go Go.RowKit Go.Lib

theorem cells6 {w W : World} {a b c x y z : Int} {S T : TypeId} {A B : Nat} (h : Bk w A #[.int .i64 a, .int .i64 b, .int .i64 c] S) (k : Bk w B #[.int .i64 x, .int .i64 y, .int .i64 z] T) (hb : Below w.heap.size w W) :
    W.cell? ⟨A, 0, none⟩ = some (.int .i64 a) ∧ W.cell? ⟨A, 1, none⟩ = some (.int .i64 b) ∧ W.cell? ⟨A, 2, none⟩ = some (.int .i64 c) ∧ W.cell? ⟨B, 0, none⟩ = some (.int .i64 x) ∧ W.cell? ⟨B, 1, none⟩ = some (.int .i64 y) ∧ W.cell? ⟨B, 2, none⟩ = some (.int .i64 z) :=
  ⟨(h.below hb).cell 0 rfl, (h.below hb).cell 1 rfl, (h.below hb).cell 2 rfl, (k.below hb).cell 0 rfl, (k.below hb).cell 1 rfl, (k.below hb).cell 2 rfl⟩

set_option maxRecDepth 100000 in
set_option maxHeartbeats 4000000 in
theorem i_redat0 (x0 x1 x2 p0 p1 p2 : Int) (hp : 0 < p0) (hp2 : p0 ≤ 4000000000000000000) (hx : (-4000000000000000000 ≤ x0 ∧ x0 ≤ 4000000000000000000) ∧ (-4000000000000000000 ≤ x1 ∧ x1 ≤ 4000000000000000000) ∧ (-4000000000000000000 ≤ x2 ∧ x2 ≤ 4000000000000000000)) (hq : (-4000000000000000000 ≤ -(x0 / p0) * p0 ∧ -(x0 / p0) * p0 ≤ 4000000000000000000) ∧ (-4000000000000000000 ≤ -(x0 / p0) * p1 ∧ -(x0 / p0) * p1 ≤ 4000000000000000000) ∧ (-4000000000000000000 ≤ -(x0 / p0) * p2 ∧ -(x0 / p0) * p2 ≤ 4000000000000000000)) (w : World) :
    Calls Try.prog 110 #[.agg #[.int .i64 x0, .int .i64 x1, .int .i64 x2], .int .i64 0, .agg #[.int .i64 p0, .int .i64 p1, .int .i64 p2]] w (Arr w (x0 + -(x0 / p0) * p0) (x1 + -(x0 / p0) * p1) (x2 + -(x0 / p0) * p2)) := by
  have CQ := Lib.hid (fun W => i_quot x0 p0 hx.1.1 hx.1.2 hp hp2 W)
  have CT := Lib.hid (fun W => i_addt x0 x1 x2 (-(x0 / p0)) p0 p1 p2 W hx.1 hx.2.1 hx.2.2 hq.1 hq.2.1 hq.2.2)
  have hqb := floor_bd (x := x0) (X := 4000000000000000000) hp hx.1.1 hx.1.2
  have hqn : IntKind.i64.wrap (-(x0 / p0)) = -(x0 / p0) := IntWalk.i64_in _ (by omega)
  clear hqb hx hq hp hp2
  go_enter Try.func110, Try.ntmps110
  go_wp2
  refine wgen ?_
  intro W hW
  have H3 := Bk.three w #[.int .i64 x0, .int .i64 x1, .int .i64 x2] #[.int .i64 p0, .int .i64 p1, .int .i64 p2] #[.int .i64 0, .int .i64 0, .int .i64 0] 41 41 41
  have HB := below3 w (.cells #[.int .i64 x0, .int .i64 x1, .int .i64 x2] 41) (.cells #[.int .i64 p0, .int .i64 p1, .int .i64 p2] 41) (.cells #[.int .i64 0, .int .i64 0, .int .i64 0] 41)
  rw [← hW] at H3 HB
  have KX := Lib.hid H3.1
  have KP := Lib.hid H3.2.1
  have KR := Lib.hid H3.2.2
  have KB := Lib.hid HB
  clear hW H3 HB
  refine T_begin (z := fun k => 10 < k) (S := fun w' => w'.cell? ⟨w.heap.size, 0, none⟩ = some (.int .i64 x0) ∧ w'.cell? ⟨w.heap.size, 1, none⟩ = some (.int .i64 x1) ∧ w'.cell? ⟨w.heap.size, 2, none⟩ = some (.int .i64 x2) ∧ w'.cell? ⟨w.heap.size + 1, 0, none⟩ = some (.int .i64 p0) ∧ w'.cell? ⟨w.heap.size + 1, 1, none⟩ = some (.int .i64 p1) ∧ w'.cell? ⟨w.heap.size + 1, 2, none⟩ = some (.int .i64 p2)) (by kernel_rfl) ?_
  show wpAnyT _ _ _ _ _ _ 12 _ _ _
  have hS0 := Lib.hid (show (fun w' => w'.cell? ⟨w.heap.size, 0, none⟩ = some (.int .i64 x0) ∧ w'.cell? ⟨w.heap.size, 1, none⟩ = some (.int .i64 x1) ∧ w'.cell? ⟨w.heap.size, 2, none⟩ = some (.int .i64 x2) ∧ w'.cell? ⟨w.heap.size + 1, 0, none⟩ = some (.int .i64 p0) ∧ w'.cell? ⟨w.heap.size + 1, 1, none⟩ = some (.int .i64 p1) ∧ w'.cell? ⟨w.heap.size + 1, 2, none⟩ = some (.int .i64 p2)) W.drew from cells6 KX.out KP.out (Below.refl _ W).drew)
  refine T_take (i := 0) (v := .agg #[.int .i64 x0, .int .i64 x1, .int .i64 x2]) rfl (by kernel_rfl) (by kernel_rfl) (by kernel_rfl) (by kernel_rfl) (fun _ _ _ h => h) hS0.out rfl (fun w' hS' => by (try dsimp only at hS'); go_simp) ?_
  try simp only [Act.put, List.setIfInBounds_toArray, List.set_cons_zero, List.set_cons_succ]
  refine T_take (i := 1) (v := .int .i64 0) rfl (by kernel_rfl) (by kernel_rfl) (by kernel_rfl) (by kernel_rfl) (fun _ _ _ h => h) hS0.out rfl (fun w' hS' => by (try dsimp only at hS'); go_simp) ?_
  try simp only [Act.put, List.setIfInBounds_toArray, List.set_cons_zero, List.set_cons_succ]
  refine T_take (i := 2) (v := .pointer (some ⟨w.heap.size, 0, none⟩)) rfl (by kernel_rfl) (by kernel_rfl) (by kernel_rfl) (by kernel_rfl) (fun _ _ _ h => h) hS0.out rfl (fun w' hS' => by (try dsimp only at hS'); go_simp) ?_
  try simp only [Act.put, List.setIfInBounds_toArray, List.set_cons_zero, List.set_cons_succ]
  refine T_take (i := 3) (v := .int .i64 x0) rfl (by kernel_rfl) (by kernel_rfl) (by kernel_rfl) (by kernel_rfl) (fun _ _ _ h => h) hS0.out rfl (fun w' hS' => by (try dsimp only at hS'); go_simp) ?_
  try simp only [Act.put, List.setIfInBounds_toArray, List.set_cons_zero, List.set_cons_succ]
  refine T_take (i := 4) (v := .int .i64 0) rfl (by kernel_rfl) (by kernel_rfl) (by kernel_rfl) (by kernel_rfl) (fun _ _ _ h => h) hS0.out rfl (fun w' hS' => by (try dsimp only at hS'); go_simp) ?_
  try simp only [Act.put, List.setIfInBounds_toArray, List.set_cons_zero, List.set_cons_succ]
  refine T_take (i := 5) (v := .pointer (some ⟨w.heap.size + 1, 0, none⟩)) rfl (by kernel_rfl) (by kernel_rfl) (by kernel_rfl) (by kernel_rfl) (fun _ _ _ h => h) hS0.out rfl (fun w' hS' => by (try dsimp only at hS'); go_simp) ?_
  try simp only [Act.put, List.setIfInBounds_toArray, List.set_cons_zero, List.set_cons_succ]
  refine T_take (i := 6) (v := .int .i64 p0) rfl (by kernel_rfl) (by kernel_rfl) (by kernel_rfl) (by kernel_rfl) (fun _ _ _ h => h) hS0.out rfl (fun w' hS' => by (try dsimp only at hS'); go_simp) ?_
  try simp only [Act.put, List.setIfInBounds_toArray, List.set_cons_zero, List.set_cons_succ]
  refine T_take (i := 9) (v := .agg #[.int .i64 p0, .int .i64 p1, .int .i64 p2]) rfl (by kernel_rfl) (by kernel_rfl) (by kernel_rfl) (by kernel_rfl) (fun _ _ _ h => h) hS0.out rfl (fun w' hS' => by (try dsimp only at hS'); go_simp) ?_
  try simp only [Act.put, List.setIfInBounds_toArray, List.set_cons_zero, List.set_cons_succ]
  refine T_step (i := 7) rfl (by kernel_rfl) rfl rfl ?_
  intro K hK
  go_simp
  refine (CQ.out _).mono ?_
  rintro e w' ⟨rfl, rfl⟩
  refine hK.out _ _ hS0.out ?_
  clear hK K
  try simp only [Act.put, List.setIfInBounds_toArray, List.set_cons_zero, List.set_cons_succ]
  refine T_take (i := 8) (v := .int .i64 (-(x0 / p0))) rfl (by kernel_rfl) (by kernel_rfl) (by kernel_rfl) (by kernel_rfl) (fun _ _ _ h => h) hS0.out rfl (fun w' hS' => by (try dsimp only at hS'); go_simp) ?_
  try simp only [Act.put, List.setIfInBounds_toArray, List.set_cons_zero, List.set_cons_succ]
  refine T_step (i := 10) rfl (by kernel_rfl) rfl rfl ?_
  intro K hK
  go_simp
  refine (CT.out _).mono ?_
  rintro e V ⟨rfl, hb⟩
  have hb2 : Below W.heap.size W V := (Below.refl _ W).drew.trans hb
  have LR := Lib.hid (KR.out.below hb2)
  have LB := Lib.hid (KB.out.trans (hb2.mono KB.out.size))
  refine hK.out _ _ (cells6 KX.out KP.out hb2) ?_
  clear hK K hb hb2 hS0
  try simp only [Act.put, List.setIfInBounds_toArray, List.set_cons_zero, List.set_cons_succ]
  have c0 : V.cell? ⟨w.heap.size + 1 + 1, 0, none⟩ = some (.int .i64 0) := LR.out.cell 0 rfl
  have c1 : V.cell? ⟨w.heap.size + 1 + 1, 1, none⟩ = some (.int .i64 0) := LR.out.cell 1 rfl
  have c2 : V.cell? ⟨w.heap.size + 1 + 1, 2, none⟩ = some (.int .i64 0) := LR.out.cell 2 rfl
  have f0 := LR.out.free 0
  have f1 := LR.out.free 1
  have f2 := LR.out.free 2
  refine T_last (i := 11) rfl (by kernel_rfl) (by kernel_rfl) rfl rfl ?_
  go_simp
  go_wp2
  refine bodyPost_ret (v := .agg #[.int .i64 (x0 + -(x0 / p0) * p0), .int .i64 (x1 + -(x0 / p0) * p1), .int .i64 (x2 + -(x0 / p0) * p2)]) ?_ rfl ⟨rfl, (((LB.out.setCell (p := ⟨w.heap.size + 1 + 1, 0, none⟩) (by simp; omega) _).setCell (p := ⟨w.heap.size + 1 + 1, 1, none⟩) (by simp; omega) _).setCell (p := ⟨w.heap.size + 1 + 1, 2, none⟩) (by simp; omega) _)⟩
  simp [results, Try.results110, go_sem, c0, c1, c2, f0, f1, f2]

set_option maxRecDepth 100000 in
set_option maxHeartbeats 4000000 in
theorem i_redat1 (x0 x1 x2 p0 p1 p2 : Int) (hp : 0 < p1) (hp2 : p1 ≤ 4000000000000000000) (hx : (-4000000000000000000 ≤ x0 ∧ x0 ≤ 4000000000000000000) ∧ (-4000000000000000000 ≤ x1 ∧ x1 ≤ 4000000000000000000) ∧ (-4000000000000000000 ≤ x2 ∧ x2 ≤ 4000000000000000000)) (hq : (-4000000000000000000 ≤ -(x1 / p1) * p0 ∧ -(x1 / p1) * p0 ≤ 4000000000000000000) ∧ (-4000000000000000000 ≤ -(x1 / p1) * p1 ∧ -(x1 / p1) * p1 ≤ 4000000000000000000) ∧ (-4000000000000000000 ≤ -(x1 / p1) * p2 ∧ -(x1 / p1) * p2 ≤ 4000000000000000000)) (w : World) :
    Calls Try.prog 110 #[.agg #[.int .i64 x0, .int .i64 x1, .int .i64 x2], .int .i64 1, .agg #[.int .i64 p0, .int .i64 p1, .int .i64 p2]] w (Arr w (x0 + -(x1 / p1) * p0) (x1 + -(x1 / p1) * p1) (x2 + -(x1 / p1) * p2)) := by
  have CQ := Lib.hid (fun W => i_quot x1 p1 hx.2.1.1 hx.2.1.2 hp hp2 W)
  have CT := Lib.hid (fun W => i_addt x0 x1 x2 (-(x1 / p1)) p0 p1 p2 W hx.1 hx.2.1 hx.2.2 hq.1 hq.2.1 hq.2.2)
  have hqb := floor_bd (x := x1) (X := 4000000000000000000) hp hx.2.1.1 hx.2.1.2
  have hqn : IntKind.i64.wrap (-(x1 / p1)) = -(x1 / p1) := IntWalk.i64_in _ (by omega)
  clear hqb hx hq hp hp2
  go_enter Try.func110, Try.ntmps110
  go_wp2
  refine wgen ?_
  intro W hW
  have H3 := Bk.three w #[.int .i64 x0, .int .i64 x1, .int .i64 x2] #[.int .i64 p0, .int .i64 p1, .int .i64 p2] #[.int .i64 0, .int .i64 0, .int .i64 0] 41 41 41
  have HB := below3 w (.cells #[.int .i64 x0, .int .i64 x1, .int .i64 x2] 41) (.cells #[.int .i64 p0, .int .i64 p1, .int .i64 p2] 41) (.cells #[.int .i64 0, .int .i64 0, .int .i64 0] 41)
  rw [← hW] at H3 HB
  have KX := Lib.hid H3.1
  have KP := Lib.hid H3.2.1
  have KR := Lib.hid H3.2.2
  have KB := Lib.hid HB
  clear hW H3 HB
  refine T_begin (z := fun k => 10 < k) (S := fun w' => w'.cell? ⟨w.heap.size, 0, none⟩ = some (.int .i64 x0) ∧ w'.cell? ⟨w.heap.size, 1, none⟩ = some (.int .i64 x1) ∧ w'.cell? ⟨w.heap.size, 2, none⟩ = some (.int .i64 x2) ∧ w'.cell? ⟨w.heap.size + 1, 0, none⟩ = some (.int .i64 p0) ∧ w'.cell? ⟨w.heap.size + 1, 1, none⟩ = some (.int .i64 p1) ∧ w'.cell? ⟨w.heap.size + 1, 2, none⟩ = some (.int .i64 p2)) (by kernel_rfl) ?_
  show wpAnyT _ _ _ _ _ _ 12 _ _ _
  have hS0 := Lib.hid (show (fun w' => w'.cell? ⟨w.heap.size, 0, none⟩ = some (.int .i64 x0) ∧ w'.cell? ⟨w.heap.size, 1, none⟩ = some (.int .i64 x1) ∧ w'.cell? ⟨w.heap.size, 2, none⟩ = some (.int .i64 x2) ∧ w'.cell? ⟨w.heap.size + 1, 0, none⟩ = some (.int .i64 p0) ∧ w'.cell? ⟨w.heap.size + 1, 1, none⟩ = some (.int .i64 p1) ∧ w'.cell? ⟨w.heap.size + 1, 2, none⟩ = some (.int .i64 p2)) W.drew from cells6 KX.out KP.out (Below.refl _ W).drew)
  refine T_take (i := 0) (v := .agg #[.int .i64 x0, .int .i64 x1, .int .i64 x2]) rfl (by kernel_rfl) (by kernel_rfl) (by kernel_rfl) (by kernel_rfl) (fun _ _ _ h => h) hS0.out rfl (fun w' hS' => by (try dsimp only at hS'); go_simp) ?_
  try simp only [Act.put, List.setIfInBounds_toArray, List.set_cons_zero, List.set_cons_succ]
  refine T_take (i := 1) (v := .int .i64 1) rfl (by kernel_rfl) (by kernel_rfl) (by kernel_rfl) (by kernel_rfl) (fun _ _ _ h => h) hS0.out rfl (fun w' hS' => by (try dsimp only at hS'); go_simp) ?_
  try simp only [Act.put, List.setIfInBounds_toArray, List.set_cons_zero, List.set_cons_succ]
  refine T_take (i := 2) (v := .pointer (some ⟨w.heap.size, 1, none⟩)) rfl (by kernel_rfl) (by kernel_rfl) (by kernel_rfl) (by kernel_rfl) (fun _ _ _ h => h) hS0.out rfl (fun w' hS' => by (try dsimp only at hS'); go_simp) ?_
  try simp only [Act.put, List.setIfInBounds_toArray, List.set_cons_zero, List.set_cons_succ]
  refine T_take (i := 3) (v := .int .i64 x1) rfl (by kernel_rfl) (by kernel_rfl) (by kernel_rfl) (by kernel_rfl) (fun _ _ _ h => h) hS0.out rfl (fun w' hS' => by (try dsimp only at hS'); go_simp) ?_
  try simp only [Act.put, List.setIfInBounds_toArray, List.set_cons_zero, List.set_cons_succ]
  refine T_take (i := 4) (v := .int .i64 1) rfl (by kernel_rfl) (by kernel_rfl) (by kernel_rfl) (by kernel_rfl) (fun _ _ _ h => h) hS0.out rfl (fun w' hS' => by (try dsimp only at hS'); go_simp) ?_
  try simp only [Act.put, List.setIfInBounds_toArray, List.set_cons_zero, List.set_cons_succ]
  refine T_take (i := 5) (v := .pointer (some ⟨w.heap.size + 1, 1, none⟩)) rfl (by kernel_rfl) (by kernel_rfl) (by kernel_rfl) (by kernel_rfl) (fun _ _ _ h => h) hS0.out rfl (fun w' hS' => by (try dsimp only at hS'); go_simp) ?_
  try simp only [Act.put, List.setIfInBounds_toArray, List.set_cons_zero, List.set_cons_succ]
  refine T_take (i := 6) (v := .int .i64 p1) rfl (by kernel_rfl) (by kernel_rfl) (by kernel_rfl) (by kernel_rfl) (fun _ _ _ h => h) hS0.out rfl (fun w' hS' => by (try dsimp only at hS'); go_simp) ?_
  try simp only [Act.put, List.setIfInBounds_toArray, List.set_cons_zero, List.set_cons_succ]
  refine T_take (i := 9) (v := .agg #[.int .i64 p0, .int .i64 p1, .int .i64 p2]) rfl (by kernel_rfl) (by kernel_rfl) (by kernel_rfl) (by kernel_rfl) (fun _ _ _ h => h) hS0.out rfl (fun w' hS' => by (try dsimp only at hS'); go_simp) ?_
  try simp only [Act.put, List.setIfInBounds_toArray, List.set_cons_zero, List.set_cons_succ]
  refine T_step (i := 7) rfl (by kernel_rfl) rfl rfl ?_
  intro K hK
  go_simp
  refine (CQ.out _).mono ?_
  rintro e w' ⟨rfl, rfl⟩
  refine hK.out _ _ hS0.out ?_
  clear hK K
  try simp only [Act.put, List.setIfInBounds_toArray, List.set_cons_zero, List.set_cons_succ]
  refine T_take (i := 8) (v := .int .i64 (-(x1 / p1))) rfl (by kernel_rfl) (by kernel_rfl) (by kernel_rfl) (by kernel_rfl) (fun _ _ _ h => h) hS0.out rfl (fun w' hS' => by (try dsimp only at hS'); go_simp) ?_
  try simp only [Act.put, List.setIfInBounds_toArray, List.set_cons_zero, List.set_cons_succ]
  refine T_step (i := 10) rfl (by kernel_rfl) rfl rfl ?_
  intro K hK
  go_simp
  refine (CT.out _).mono ?_
  rintro e V ⟨rfl, hb⟩
  have hb2 : Below W.heap.size W V := (Below.refl _ W).drew.trans hb
  have LR := Lib.hid (KR.out.below hb2)
  have LB := Lib.hid (KB.out.trans (hb2.mono KB.out.size))
  refine hK.out _ _ (cells6 KX.out KP.out hb2) ?_
  clear hK K hb hb2 hS0
  try simp only [Act.put, List.setIfInBounds_toArray, List.set_cons_zero, List.set_cons_succ]
  have c0 : V.cell? ⟨w.heap.size + 1 + 1, 0, none⟩ = some (.int .i64 0) := LR.out.cell 0 rfl
  have c1 : V.cell? ⟨w.heap.size + 1 + 1, 1, none⟩ = some (.int .i64 0) := LR.out.cell 1 rfl
  have c2 : V.cell? ⟨w.heap.size + 1 + 1, 2, none⟩ = some (.int .i64 0) := LR.out.cell 2 rfl
  have f0 := LR.out.free 0
  have f1 := LR.out.free 1
  have f2 := LR.out.free 2
  refine T_last (i := 11) rfl (by kernel_rfl) (by kernel_rfl) rfl rfl ?_
  go_simp
  go_wp2
  refine bodyPost_ret (v := .agg #[.int .i64 (x0 + -(x1 / p1) * p0), .int .i64 (x1 + -(x1 / p1) * p1), .int .i64 (x2 + -(x1 / p1) * p2)]) ?_ rfl ⟨rfl, (((LB.out.setCell (p := ⟨w.heap.size + 1 + 1, 0, none⟩) (by simp; omega) _).setCell (p := ⟨w.heap.size + 1 + 1, 1, none⟩) (by simp; omega) _).setCell (p := ⟨w.heap.size + 1 + 1, 2, none⟩) (by simp; omega) _)⟩
  simp [results, Try.results110, go_sem, c0, c1, c2, f0, f1, f2]

set_option maxRecDepth 100000 in
set_option maxHeartbeats 4000000 in
theorem i_redat2 (x0 x1 x2 p0 p1 p2 : Int) (hp : 0 < p2) (hp2 : p2 ≤ 4000000000000000000) (hx : (-4000000000000000000 ≤ x0 ∧ x0 ≤ 4000000000000000000) ∧ (-4000000000000000000 ≤ x1 ∧ x1 ≤ 4000000000000000000) ∧ (-4000000000000000000 ≤ x2 ∧ x2 ≤ 4000000000000000000)) (hq : (-4000000000000000000 ≤ -(x2 / p2) * p0 ∧ -(x2 / p2) * p0 ≤ 4000000000000000000) ∧ (-4000000000000000000 ≤ -(x2 / p2) * p1 ∧ -(x2 / p2) * p1 ≤ 4000000000000000000) ∧ (-4000000000000000000 ≤ -(x2 / p2) * p2 ∧ -(x2 / p2) * p2 ≤ 4000000000000000000)) (w : World) :
    Calls Try.prog 110 #[.agg #[.int .i64 x0, .int .i64 x1, .int .i64 x2], .int .i64 2, .agg #[.int .i64 p0, .int .i64 p1, .int .i64 p2]] w (Arr w (x0 + -(x2 / p2) * p0) (x1 + -(x2 / p2) * p1) (x2 + -(x2 / p2) * p2)) := by
  have CQ := Lib.hid (fun W => i_quot x2 p2 hx.2.2.1 hx.2.2.2 hp hp2 W)
  have CT := Lib.hid (fun W => i_addt x0 x1 x2 (-(x2 / p2)) p0 p1 p2 W hx.1 hx.2.1 hx.2.2 hq.1 hq.2.1 hq.2.2)
  have hqb := floor_bd (x := x2) (X := 4000000000000000000) hp hx.2.2.1 hx.2.2.2
  have hqn : IntKind.i64.wrap (-(x2 / p2)) = -(x2 / p2) := IntWalk.i64_in _ (by omega)
  clear hqb hx hq hp hp2
  go_enter Try.func110, Try.ntmps110
  go_wp2
  refine wgen ?_
  intro W hW
  have H3 := Bk.three w #[.int .i64 x0, .int .i64 x1, .int .i64 x2] #[.int .i64 p0, .int .i64 p1, .int .i64 p2] #[.int .i64 0, .int .i64 0, .int .i64 0] 41 41 41
  have HB := below3 w (.cells #[.int .i64 x0, .int .i64 x1, .int .i64 x2] 41) (.cells #[.int .i64 p0, .int .i64 p1, .int .i64 p2] 41) (.cells #[.int .i64 0, .int .i64 0, .int .i64 0] 41)
  rw [← hW] at H3 HB
  have KX := Lib.hid H3.1
  have KP := Lib.hid H3.2.1
  have KR := Lib.hid H3.2.2
  have KB := Lib.hid HB
  clear hW H3 HB
  refine T_begin (z := fun k => 10 < k) (S := fun w' => w'.cell? ⟨w.heap.size, 0, none⟩ = some (.int .i64 x0) ∧ w'.cell? ⟨w.heap.size, 1, none⟩ = some (.int .i64 x1) ∧ w'.cell? ⟨w.heap.size, 2, none⟩ = some (.int .i64 x2) ∧ w'.cell? ⟨w.heap.size + 1, 0, none⟩ = some (.int .i64 p0) ∧ w'.cell? ⟨w.heap.size + 1, 1, none⟩ = some (.int .i64 p1) ∧ w'.cell? ⟨w.heap.size + 1, 2, none⟩ = some (.int .i64 p2)) (by kernel_rfl) ?_
  show wpAnyT _ _ _ _ _ _ 12 _ _ _
  have hS0 := Lib.hid (show (fun w' => w'.cell? ⟨w.heap.size, 0, none⟩ = some (.int .i64 x0) ∧ w'.cell? ⟨w.heap.size, 1, none⟩ = some (.int .i64 x1) ∧ w'.cell? ⟨w.heap.size, 2, none⟩ = some (.int .i64 x2) ∧ w'.cell? ⟨w.heap.size + 1, 0, none⟩ = some (.int .i64 p0) ∧ w'.cell? ⟨w.heap.size + 1, 1, none⟩ = some (.int .i64 p1) ∧ w'.cell? ⟨w.heap.size + 1, 2, none⟩ = some (.int .i64 p2)) W.drew from cells6 KX.out KP.out (Below.refl _ W).drew)
  refine T_take (i := 0) (v := .agg #[.int .i64 x0, .int .i64 x1, .int .i64 x2]) rfl (by kernel_rfl) (by kernel_rfl) (by kernel_rfl) (by kernel_rfl) (fun _ _ _ h => h) hS0.out rfl (fun w' hS' => by (try dsimp only at hS'); go_simp) ?_
  try simp only [Act.put, List.setIfInBounds_toArray, List.set_cons_zero, List.set_cons_succ]
  refine T_take (i := 1) (v := .int .i64 2) rfl (by kernel_rfl) (by kernel_rfl) (by kernel_rfl) (by kernel_rfl) (fun _ _ _ h => h) hS0.out rfl (fun w' hS' => by (try dsimp only at hS'); go_simp) ?_
  try simp only [Act.put, List.setIfInBounds_toArray, List.set_cons_zero, List.set_cons_succ]
  refine T_take (i := 2) (v := .pointer (some ⟨w.heap.size, 2, none⟩)) rfl (by kernel_rfl) (by kernel_rfl) (by kernel_rfl) (by kernel_rfl) (fun _ _ _ h => h) hS0.out rfl (fun w' hS' => by (try dsimp only at hS'); go_simp) ?_
  try simp only [Act.put, List.setIfInBounds_toArray, List.set_cons_zero, List.set_cons_succ]
  refine T_take (i := 3) (v := .int .i64 x2) rfl (by kernel_rfl) (by kernel_rfl) (by kernel_rfl) (by kernel_rfl) (fun _ _ _ h => h) hS0.out rfl (fun w' hS' => by (try dsimp only at hS'); go_simp) ?_
  try simp only [Act.put, List.setIfInBounds_toArray, List.set_cons_zero, List.set_cons_succ]
  refine T_take (i := 4) (v := .int .i64 2) rfl (by kernel_rfl) (by kernel_rfl) (by kernel_rfl) (by kernel_rfl) (fun _ _ _ h => h) hS0.out rfl (fun w' hS' => by (try dsimp only at hS'); go_simp) ?_
  try simp only [Act.put, List.setIfInBounds_toArray, List.set_cons_zero, List.set_cons_succ]
  refine T_take (i := 5) (v := .pointer (some ⟨w.heap.size + 1, 2, none⟩)) rfl (by kernel_rfl) (by kernel_rfl) (by kernel_rfl) (by kernel_rfl) (fun _ _ _ h => h) hS0.out rfl (fun w' hS' => by (try dsimp only at hS'); go_simp) ?_
  try simp only [Act.put, List.setIfInBounds_toArray, List.set_cons_zero, List.set_cons_succ]
  refine T_take (i := 6) (v := .int .i64 p2) rfl (by kernel_rfl) (by kernel_rfl) (by kernel_rfl) (by kernel_rfl) (fun _ _ _ h => h) hS0.out rfl (fun w' hS' => by (try dsimp only at hS'); go_simp) ?_
  try simp only [Act.put, List.setIfInBounds_toArray, List.set_cons_zero, List.set_cons_succ]
  refine T_take (i := 9) (v := .agg #[.int .i64 p0, .int .i64 p1, .int .i64 p2]) rfl (by kernel_rfl) (by kernel_rfl) (by kernel_rfl) (by kernel_rfl) (fun _ _ _ h => h) hS0.out rfl (fun w' hS' => by (try dsimp only at hS'); go_simp) ?_
  try simp only [Act.put, List.setIfInBounds_toArray, List.set_cons_zero, List.set_cons_succ]
  refine T_step (i := 7) rfl (by kernel_rfl) rfl rfl ?_
  intro K hK
  go_simp
  refine (CQ.out _).mono ?_
  rintro e w' ⟨rfl, rfl⟩
  refine hK.out _ _ hS0.out ?_
  clear hK K
  try simp only [Act.put, List.setIfInBounds_toArray, List.set_cons_zero, List.set_cons_succ]
  refine T_take (i := 8) (v := .int .i64 (-(x2 / p2))) rfl (by kernel_rfl) (by kernel_rfl) (by kernel_rfl) (by kernel_rfl) (fun _ _ _ h => h) hS0.out rfl (fun w' hS' => by (try dsimp only at hS'); go_simp) ?_
  try simp only [Act.put, List.setIfInBounds_toArray, List.set_cons_zero, List.set_cons_succ]
  refine T_step (i := 10) rfl (by kernel_rfl) rfl rfl ?_
  intro K hK
  go_simp
  refine (CT.out _).mono ?_
  rintro e V ⟨rfl, hb⟩
  have hb2 : Below W.heap.size W V := (Below.refl _ W).drew.trans hb
  have LR := Lib.hid (KR.out.below hb2)
  have LB := Lib.hid (KB.out.trans (hb2.mono KB.out.size))
  refine hK.out _ _ (cells6 KX.out KP.out hb2) ?_
  clear hK K hb hb2 hS0
  try simp only [Act.put, List.setIfInBounds_toArray, List.set_cons_zero, List.set_cons_succ]
  have c0 : V.cell? ⟨w.heap.size + 1 + 1, 0, none⟩ = some (.int .i64 0) := LR.out.cell 0 rfl
  have c1 : V.cell? ⟨w.heap.size + 1 + 1, 1, none⟩ = some (.int .i64 0) := LR.out.cell 1 rfl
  have c2 : V.cell? ⟨w.heap.size + 1 + 1, 2, none⟩ = some (.int .i64 0) := LR.out.cell 2 rfl
  have f0 := LR.out.free 0
  have f1 := LR.out.free 1
  have f2 := LR.out.free 2
  refine T_last (i := 11) rfl (by kernel_rfl) (by kernel_rfl) rfl rfl ?_
  go_simp
  go_wp2
  refine bodyPost_ret (v := .agg #[.int .i64 (x0 + -(x2 / p2) * p0), .int .i64 (x1 + -(x2 / p2) * p1), .int .i64 (x2 + -(x2 / p2) * p2)]) ?_ rfl ⟨rfl, (((LB.out.setCell (p := ⟨w.heap.size + 1 + 1, 0, none⟩) (by simp; omega) _).setCell (p := ⟨w.heap.size + 1 + 1, 1, none⟩) (by simp; omega) _).setCell (p := ⟨w.heap.size + 1 + 1, 2, none⟩) (by simp; omega) _)⟩
  simp [results, Try.results110, go_sem, c0, c1, c2, f0, f1, f2]
end Go.Proofs.Yteenheidomfpkaa
